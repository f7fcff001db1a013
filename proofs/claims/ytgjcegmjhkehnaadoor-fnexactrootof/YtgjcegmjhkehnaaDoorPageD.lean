/- Contracts of the program's and the model's PageDigest. Condition: the page's lists lie in memory; for the program the table of weights lies as it is laid. -/
import Derived.Test.YtgjcegmjhkehnaaDoorImplSB
import Derived.Test.YtgjcegmjhkehnaaDoorDigest
namespace Go.Proofs.YtgjcegmjhkehnaaDoor
open Go.ChangeShapes Go.WideShapes Go.ChangeAt Go.RowKit Go.Deep Go.Lib
set_option linter.unusedVariables false
attribute [local go_sem ↓] Go.wp_at_zero Go.wp_at_succ

theorem shB_size {p : Sh} (hg : GoodSh p) : (shB p).size ≤ 200 := by
  have hk4 := hg.1.1
  have hvk := hg.1.2.1
  have hc5 : p.kids.length ≤ 5 := by rcases hg.1.2.2.1 with h | h <;> omega
  unfold shB shL
  rw [mkB_size, kidL_le hg.kid4]
  have h1 := prsL_le (n := p.keys.length) (L := p.prs) (rise_good hg.2.2)
  rw [prs_len hvk] at h1
  omega
/-- The digest of a good page. -/
def pageB (p : Sh) : ByteArray := digestB 103 (shB p)
set_option maxHeartbeats 1600000 in
theorem specL6D (p : Sh) (kv vv cv : Value) (w : World) (hg : GoodSh p) (h : ShAt w kv vv cv p) :
    Calls Tryd.prog 54 #[.agg #[kv, vv, cv, .int .i64 p.go]] w fun e w' => e = .returned (.string (pageB p)) ∧ Below w.heap.size w w' := by
  have HL := fun W h => specL6 p kv vv cv W hg h
  have HD := fun W => specL1Digest 103 (shB p) W (by omega) (by omega) (by have := shB_size hg; omega)
  have H := hid h
  obtain ⟨ka, kc, rfl⟩ := strs_len h.1
  obtain ⟨va, vc, rfl⟩ := strs_len h.2.1
  obtain ⟨ca, cc, rfl⟩ := strs_len h.2.2
  obtain ⟨G, hG⟩ : ∃ G, G = p.go := ⟨_, rfl⟩
  rw [← hG] at HL ⊢
  clear hG h hg
  unfold pageB
  generalize shB p = T at *
  generalize digestB 103 T = D at *
  go_enter Tryd.func54, Tryd.ntmps54
  go_wp2_with fail
  refine (HL _ (H.out.below (by go_grown))).mono ?_
  rintro e w1 ⟨rfl, hb1⟩
  obtain ⟨hc1, hf1⟩ := bcell hb1
  have hz1 := hb1.size
  try simp only [World.size_drew] at hz1
  try simp only [World.size_setCell] at hz1
  try simp only [World.size_alloc] at hz1
  have hz1_0 : w.heap.size < w1.heap.size := by omega
  clear hz1
  have k1 : Below w.heap.size w w1 := by
    refine Below.trans ?_ (hb1.mono ?_)
    · go_grown
    · go_size
  have hl1 : w.heap.size ≤ w1.heap.size := k1.size
  clear hb1
  go_wp2_with fail
  refine (HD _).mono ?_
  rintro e w2 ⟨rfl, hb2⟩
  obtain ⟨hc2, hf2⟩ := bcell hb2
  have hz2 := hb2.size
  try simp only [World.size_drew] at hz2
  try simp only [World.size_setCell] at hz2
  try simp only [World.size_alloc] at hz2
  have hz2_0 : w.heap.size < w2.heap.size := by omega
  try have hy2_1 : w1.heap.size < w2.heap.size := (by omega)
  clear hz2
  have k2 : Below w.heap.size w w2 := by
    refine Below.trans ?_ (hb2.mono ?_)
    · go_grown
    · go_size
  have hl2 : w.heap.size ≤ w2.heap.size := k2.size
  clear hb2
  go_wp2
  go_returns
  exact ⟨rfl, by go_grown⟩
set_option maxHeartbeats 1600000 in
theorem implPDYes (p : Sh) (kv vv cv : Value) (w : World) (hs : SmSh p) (hg : GoodSh p) (h : ShAt w kv vv cv p) (ht : Table w) :
    Calls Tryd.prog 15 #[.agg #[kv, vv, cv, .int .i64 p.go]] w fun e w' => e = .returned (.tuple #[.string (pageB p), .bool true]) ∧ Below w.heap.size w w' := by
  have HL := fun W h => implSBYes p kv vv cv W hs hg h
  have HD := fun W => implDigestYes 103 (shB p) W (by omega) (by omega) (by have := shB_size hg; omega)
  have H := hid h
  have HT := hid ht
  obtain ⟨ka, kc, rfl⟩ := strs_len h.1
  obtain ⟨va, vc, rfl⟩ := strs_len h.2.1
  obtain ⟨ca, cc, rfl⟩ := strs_len h.2.2
  obtain ⟨G, hG⟩ : ∃ G, G = p.go := ⟨_, rfl⟩
  rw [← hG] at HL ⊢
  clear hG h hg hs ht
  unfold pageB
  generalize shB p = T at *
  generalize digestB 103 T = D at *
  go_enter Tryd.func15, Tryd.ntmps15
  go_wp2_with fail
  refine (HL _ (H.out.below (by go_grown))).mono ?_
  rintro e w1 ⟨rfl, hb1⟩
  obtain ⟨hc1, hf1⟩ := bcell hb1
  have hz1 := hb1.size
  try simp only [World.size_drew] at hz1
  try simp only [World.size_setCell] at hz1
  try simp only [World.size_alloc] at hz1
  have hz1_0 : w.heap.size < w1.heap.size := by omega
  clear hz1
  have k1 : Below w.heap.size w w1 := by
    refine Below.trans ?_ (hb1.mono ?_)
    · go_grown
    · go_size
  have hl1 : w.heap.size ≤ w1.heap.size := k1.size
  clear hb1
  go_wp2_with fail
  refine (HD _ (HT.out.below (by go_grown))).mono ?_
  rintro e w2 ⟨rfl, hb2⟩
  obtain ⟨hc2, hf2⟩ := bcell hb2
  have hz2 := hb2.size
  try simp only [World.size_drew] at hz2
  try simp only [World.size_setCell] at hz2
  try simp only [World.size_alloc] at hz2
  have hz2_0 : w.heap.size < w2.heap.size := by omega
  try have hy2_1 : w1.heap.size < w2.heap.size := (by omega)
  clear hz2
  have k2 : Below w.heap.size w w2 := by
    refine Below.trans ?_ (hb2.mono ?_)
    · go_grown
    · go_size
  have hl2 : w.heap.size ≤ w2.heap.size := k2.size
  clear hb2
  go_wp2
  go_returns
  exact ⟨rfl, by go_grown⟩
set_option maxHeartbeats 1600000 in
theorem implPDNo (p : Sh) (kv vv cv : Value) (w : World) (hs : SmSh p) (hg : ¬ GoodSh p) (h : ShAt w kv vv cv p) :
    Calls Tryd.prog 15 #[.agg #[kv, vv, cv, .int .i64 p.go]] w fun e w' => e = .returned (.tuple #[.string ByteArray.empty, .bool false]) ∧ Below w.heap.size w w' := by
  have HG := fun W h => implSBNo p kv vv cv W hs hg h
  have H := hid h
  obtain ⟨ka, kc, rfl⟩ := strs_len h.1
  obtain ⟨va, vc, rfl⟩ := strs_len h.2.1
  obtain ⟨ca, cc, rfl⟩ := strs_len h.2.2
  obtain ⟨G, hG⟩ : ∃ G, G = p.go := ⟨_, rfl⟩
  rw [← hG] at HG ⊢
  clear hG h hg hs
  go_enter Tryd.func15, Tryd.ntmps15
  go_wp2_with fail
  refine (HG _ (H.out.below (by go_grown))).mono ?_
  rintro e w1 ⟨rfl, hb1⟩
  obtain ⟨hc1, hf1⟩ := bcell hb1
  have hz1 := hb1.size
  try simp only [World.size_drew] at hz1
  try simp only [World.size_setCell] at hz1
  try simp only [World.size_alloc] at hz1
  have hz1_0 : w.heap.size < w1.heap.size := by omega
  clear hz1
  have k1 : Below w.heap.size w w1 := by
    refine Below.trans ?_ (hb1.mono ?_)
    · go_grown
    · go_size
  have hl1 : w.heap.size ≤ w1.heap.size := k1.size
  clear hb1
  go_wp2
  go_returns
  exact ⟨rfl, by go_grown⟩
end Go.Proofs.YtgjcegmjhkehnaaDoor
