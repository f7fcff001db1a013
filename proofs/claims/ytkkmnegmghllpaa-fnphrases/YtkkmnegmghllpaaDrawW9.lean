/- Contracts of what the laws of chapter 9 draw: documents and a word, a text. Condition: the bytes that are drawn from lie in memory. -/
import Derived.Test.YtkkmnegmghllpaaDrawD9
namespace Go.Proofs.Ytkkmnegmghllpaa
open Go.ChangeShapes Go.WideShapes Go.ChangeAt Go.RowKit Go.Deep
set_option linter.unusedVariables false
attribute [local go_sem ↓] Go.wp_at_zero Go.wp_at_succ

set_option maxHeartbeats 3200000 in
set_option maxRecDepth 100000 in
theorem drawWords (v : Value) (n : Nat) (w : World) (h : CodeAt w v n) :
    Calls Try.prog 26 #[v] w fun e w' => ∃ s : ByteArray, e = .returned (.string s) ∧ s.size ≤ 121 ∧ Below w.heap.size w w' := by
  obtain ⟨ad, c, rfl⟩ : ∃ ad c, v = .slice ad n c := by
    obtain ⟨ad, c, e, _⟩ := h
    exact ⟨ad, c, e⟩
  have hbel := (Below.refl w.heap.size w).alloc (Nat.le_refl _) (.cells #[.slice ad n c, .int .i64 0, .int .u64 0] 70)
  have HK := docIn w.heap.size (.slice ad n c) n 0 _ (cur_new w (.slice ad n c) 70) (h.bytes hbel (Nat.le_refl _)) (by omega)
  have HBE := hide hbel
  clear h hbel
  go_enter Try.func26, Try.ntmps26
  go_wp2_with fail
  refine HK.mono ?_
  rintro e w1 ⟨s, rfl, hs, hd⟩
  clear HK
  have hb1 : Below w.heap.size w w1 := (unhide HBE).trans (gb_below hd.2.2 (Nat.le_refl _) (by simp))
  clear hd HBE
  go_wp2
  go_ret
  exact ⟨s, rfl, hs, hb1⟩
set_option maxHeartbeats 3200000 in
set_option maxRecDepth 100000 in
theorem drawPosts (v : Value) (n : Nat) (w : World) (h : CodeAt w v n) :
    Calls Try.prog 13 #[v] w fun e w' => ∃ (x : Value) (ds : List ByteArray) (s : ByteArray), e = .returned (.tuple #[x, .string s]) ∧ OwnS w' w.heap.size 9 x ds.length (strsV ds) ∧ ds.length ≤ 13 ∧ (∀ u ∈ ds, u.size ≤ 121) ∧ s.size ≤ 4 ∧ Below w.heap.size w w' := by
  obtain ⟨ad, c, rfl⟩ : ∃ ad c, v = .slice ad n c := by
    obtain ⟨ad, c, e, _⟩ := h
    exact ⟨ad, c, e⟩
  have hbel := (Below.refl w.heap.size w).alloc (Nat.le_refl _) (.cells #[.slice ad n c, .int .i64 0, .int .u64 0] 70)
  have HK := docsIn w.heap.size (.slice ad n c) n 0 _ (cur_new w (.slice ad n c) 70) (h.bytes hbel (Nat.le_refl _)) (by omega)
  have HBE := hide hbel
  clear h hbel
  go_enter Try.func13, Try.ntmps13
  go_wp2_with fail
  refine HK.mono ?_
  rintro e w1 ⟨x, ds, rfl, ho, hl, hA, hd⟩
  clear HK
  have HW := wordIn w.heap.size (.slice ad n c) n (0 + 400) w1 hd.1 hd.2.1 (by omega)
  have hb1 : Below w.heap.size w w1 := (unhide HBE).trans (gb_below hd.2.2 (Nat.le_refl _) (by simp))
  have HO := hide ho
  have HA := hide hA
  obtain ⟨xa, xc, hxe⟩ := (rows_of_ownS ho).slice
  subst hxe
  clear hd HBE ho hA
  go_wp2_with fail
  refine HW.mono ?_
  rintro e w2 ⟨s, rfl, hs, hd2⟩
  have hb2 : Below w.heap.size w w2 := hb1.trans (gb_below hd2.2.2 (Nat.le_refl _) hb1.size)
  have HO2 := hide (own_mono (base' := w.heap.size) (own_drawn hd2 HO.out (by simp)) (by simp))
  clear hd2 HW HO
  go_wp2
  go_returns
  exact ⟨_, ds, s, rfl, HO2.out, hl, HA.out, hs, hb2⟩
end Go.Proofs.Ytkkmnegmghllpaa
