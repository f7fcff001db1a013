/- The contract of the model's feeding loop: it feeds the bytes one by one. Condition: at most 600 bytes, a good mix. -/
import Derived.Test.YtgjcegmjhkehnaaDoorMix
import Derived.Test.YtgjcegmjhkehnaaDoorPlain
import Derived.RegionTactic
import Derived.Outline
namespace Go.Proofs.YtgjcegmjhkehnaaDoor
open Go.ChangeShapes Go.WideShapes Go.ChangeAt Go.RowKit
set_option linter.unusedVariables false

/-- A block of three integers that may be written. -/
def Three (w : World) (g : Nat) (x y z : Int) : Prop :=
  w.cell? ⟨g, 0, none⟩ = some (.int .i64 x) ∧ w.cell? ⟨g, 1, none⟩ = some (.int .i64 y) ∧ w.cell? ⟨g, 2, none⟩ = some (.int .i64 z) ∧ w.frozen? ⟨g, 0, none⟩ = false ∧ w.frozen? ⟨g, 1, none⟩ = false ∧ w.frozen? ⟨g, 2, none⟩ = false

theorem Three.below {W w' : World} {g : Nat} {x y z : Int} (h : Three W g x y z) (hb : Below W.heap.size W w') : Three w' g x y z := by
  have hlt : g < W.heap.size := World.block_lt_of_cell? W ⟨g, 0, none⟩ h.1
  obtain ⟨h0, h1, h2, h3, h4, h5⟩ := h
  exact ⟨(hb.cell (p := ⟨g, 0, none⟩) hlt).trans h0, (hb.cell (p := ⟨g, 1, none⟩) hlt).trans h1, (hb.cell (p := ⟨g, 2, none⟩) hlt).trans h2,
    (hb.frozen (p := ⟨g, 0, none⟩) hlt).trans h3, (hb.frozen (p := ⟨g, 1, none⟩) hlt).trans h4, (hb.frozen (p := ⟨g, 2, none⟩) hlt).trans h5⟩
theorem Three.lt {W : World} {g : Nat} {x y z : Int} (h : Three W g x y z) : g < W.heap.size := World.block_lt_of_cell? W ⟨g, 0, none⟩ h.1

set_option maxHeartbeats 1600000 in
theorem specL1Feed (a b l : Int) (s : ByteArray) (w : World) (ha0 : 0 ≤ a) (ha1 : a ≤ 65520) (hb0 : 0 ≤ b) (hb1 : b ≤ 65520) (hl0 : 0 ≤ l) (hl1 : l ≤ 1000000) (hs : s.size ≤ 600) :
    Calls Tryd.prog 147 #[.agg #[.int .i64 a, .int .i64 b, .int .i64 l], .string s] w fun e w' => e = .returned (.agg #[.int .i64 (feed (a, b) s.data.toList).1, .int .i64 (feed (a, b) s.data.toList).2, .int .i64 (l + s.size)]) ∧ Below w.heap.size w w' := by
  go_enter Tryd.func147, Tryd.ntmps147
  go_wp2
  go_loopw [5] (fun i wr => ∃ k : Nat, k ≤ s.size ∧ i = .int .i64 k ∧ Three wr w.heap.size (feed (a, b) (s.data.toList.take k)).1 (feed (a, b) (s.data.toList.take k)).2 l ∧ Three wr (w.heap.size + 1) 0 0 0 ∧ Below w.heap.size w wr) (fun i _ => s.size - (intOf i).toNat)
  case atStart => exact ⟨0, Nat.zero_le _, rfl, by simp [Three, feed], by simp [Three], by go_grown⟩
  case round =>
    obtain ⟨k, hk, rfl, ⟨c0, c1, c2, f0, f1, f2⟩, ⟨d0, d1, d2, e0, e1, e2⟩, kb⟩ := hrel
    have hin := feed_in (a, b) (s.data.toList.take k) ⟨ha0, ha1⟩ ⟨hb0, hb1⟩
    by_cases hlt : k < s.size
    · have HS : Hid (feed (a, b) (s.data.toList.take (k + 1)) = step (feed (a, b) (s.data.toList.take k)) s[k]) := by rw [take_snoc s k hlt]; exact feed_snoc _ _ _
      generalize feed (a, b) (s.data.toList.take k) = p at *
      obtain ⟨A, B⟩ := p
      obtain ⟨⟨hA0, hA1⟩, ⟨hB0, hB1⟩⟩ := hin
      simp only [] at c0 c1 hA0 hA1 hB0 hB1
      have hcl := byte_lt s[k]
      obtain ⟨hcl0, hcl1⟩ := hcl
      go_wp2
      go_region
      go_wp2
      go_roundw
      case rel =>
        refine ⟨k + 1, by omega, by go_num, ?_, ?_, by go_grown⟩
        · rw [HS.out]
          simp [Three, step, *, go_sem]
        · simp [Three, *, go_sem]
      case measure => simp [intOf]; omega
    · have hke : k = s.size := by omega
      subst hke
      have hfull : s.data.toList.take s.size = s.data.toList := List.take_of_length_le (by simp)
      rw [hfull] at c0 c1 hin
      clear hfull
      generalize hp : feed (a, b) s.data.toList = p at c0 c1 hin
      have HP : Hid (feed (a, b) s.data.toList = p) := hp
      clear hp
      obtain ⟨A, B⟩ := p
      obtain ⟨⟨hA0, hA1⟩, ⟨hB0, hB1⟩⟩ := hin
      simp only [] at c0 c1 hA0 hA1 hB0 hB1
      go_wp2
      exact bodyPost_ret (v := .agg #[.int .i64 A, .int .i64 B, .int .i64 (l + s.size)]) (by simp [results, Tryd.results147, go_sem, *]) rfl ⟨by rw [HP.out], by go_grown⟩
end Go.Proofs.YtgjcegmjhkehnaaDoor
