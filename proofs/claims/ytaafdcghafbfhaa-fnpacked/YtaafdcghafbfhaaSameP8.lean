/- Contracts of the laws' own sameness of packed lists. Condition: their rows lie in memory. -/
import Derived.Test.YtaafdcghafbfhaaSameL
namespace Go.Proofs.Ytaafdcghafbfhaa
open Go.ChangeShapes Go.WideShapes Go.ChangeAt Go.RowKit Go.Deep
set_option linter.unusedVariables false
attribute [local go_sem ↓] Go.wp_at_zero Go.wp_at_succ

set_option maxHeartbeats 1600000 in
theorem samePk (p : Pk) (lv hv ku vu : Value) (w : World) (h : PkAt w lv hv p) (g : PkAt w ku vu p) (l1 : p.lows.length ≤ 1048576) (l2 : p.high.length ≤ 1048576) :
    Calls Try.prog 16 #[.agg #[.int .i64 p.many, .int .i64 p.low, lv, hv], .agg #[.int .i64 p.many, .int .i64 p.low, ku, vu]] w fun e w' => e = .returned (.bool true) ∧ Below w.heap.size w w' := by
  have H1 := hid h
  have H2 := hid g
  have T1 := fun W hW hV => sameI lv ku p.lows p.lows W hW hV l1 l1
  have T2 := fun W hW hV => sameB hv vu p.high p.high W hW hV l2 l2
  rw [decide_eq_true rfl] at T1 T2
  have hn1 : (p.many == p.many) = true := by simp
  have hn2 : (p.low == p.low) = true := by simp
  obtain ⟨M, hM⟩ : ∃ M, M = p.many := ⟨_, rfl⟩
  obtain ⟨L, hL⟩ : ∃ L, L = p.low := ⟨_, rfl⟩
  rw [← hM] at hn1 ⊢
  rw [← hL] at hn2 ⊢
  clear h g hM hL
  go_enter Try.func16, Try.ntmps16
  go_wp2_with fail
  refine (T1 _ (H1.out.1.below (by go_grown)) (H2.out.1.below (by go_grown))).mono ?_
  rintro e w1 ⟨rfl, hb1⟩
  obtain ⟨hc1, hf1⟩ := bcell hb1
  have hz1 := hb1.size
  try simp only [World.size_drew] at hz1
  try simp only [World.size_setCell] at hz1
  try simp only [World.size_alloc] at hz1
  have hz1_0 : w.heap.size < w1.heap.size := by omega
  have hz1_1 : w.heap.size + 1 < w1.heap.size := by omega
  clear hz1
  have k1 : Below w.heap.size w w1 := by
    refine Below.trans ?_ (hb1.mono ?_)
    · go_grown
    · go_size
  have hl1 : w.heap.size ≤ w1.heap.size := k1.size
  clear hb1
  go_wp2_with fail
  refine (T2 _ (H1.out.2.below (by go_grown)) (H2.out.2.below (by go_grown))).mono ?_
  rintro e w2 ⟨rfl, hb2⟩
  obtain ⟨hc2, hf2⟩ := bcell hb2
  have hz2 := hb2.size
  try simp only [World.size_drew] at hz2
  try simp only [World.size_setCell] at hz2
  try simp only [World.size_alloc] at hz2
  have hz2_0 : w.heap.size < w2.heap.size := by omega
  have hz2_1 : w.heap.size + 1 < w2.heap.size := by omega
  try have hy2_1 : w1.heap.size < w2.heap.size := (by omega)
  clear hz2
  have k2 : Below w.heap.size w w2 := by
    refine Below.trans ?_ (hb2.mono ?_)
    · go_grown
    · go_size
  have hl2 : w.heap.size ≤ w2.heap.size := k2.size
  clear hb2
  go_wp2
  go_returns
  exact ⟨rfl, by go_grown⟩
end Go.Proofs.Ytaafdcghafbfhaa
