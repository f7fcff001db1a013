/- Contract of the law's look at two lists of values that are alike; what it is for a row to begin with another one. Condition: the lists lie in memory. -/
import Derived.Test.YtolkiofdbdjfkaaEqVV
import Derived.Test.YtolkiofdbdjfkaaSpecCmpR
import Derived.Test.YtolkiofdbdjfkaaRowM
namespace Go.Proofs.Ytolkiofdbdjfkaa
open Go.ChangeShapes Go.WideShapes Go.ChangeAt Go.RowKit Go.Deep
set_option linter.unusedVariables false
attribute [local go_sem ↓] Go.wp_at_zero Go.wp_at_succ

set_option maxHeartbeats 3200000 in
set_option maxRecDepth 100000 in
theorem sameVals (x y : Value) (vs : List VV) (w : World) (hx : ValsAt w x vs) (hy : ValsAt w y vs) (hl : vs.length ≤ 1048576) :
    Calls Try.prog 30 #[x, y] w fun e w' => e = .returned (.bool true) ∧ Below w.heap.size w w' := by
  obtain ⟨adx, cx, rfl, HCX⟩ := hx.cases
  obtain ⟨ady, cy, rfl, HCY⟩ := hy.cases
  have KX : Hid (∀ k, k < vs.length → ∃ b' off, adx = some ⟨b', off, none⟩ ∧ b' < w.heap.size ∧ ValAt w b' (off + k * 3) (vs.getD k v0)) := HCX
  have KY : Hid (∀ k, k < vs.length → ∃ b' off, ady = some ⟨b', off, none⟩ ∧ b' < w.heap.size ∧ ValAt w b' (off + k * 3) (vs.getD k v0)) := HCY
  clear hx hy HCX HCY
  go_enter Try.func30, Try.ntmps30
  go_wp2_with fail
  go_loopw [5, 13] (fun p i wr => ∃ k : Nat, k ≤ vs.length ∧ i = .int .i64 k ∧ Below w.heap.size w wr) (fun _ i _ => vs.length - (intOf i).toNat)
  case atStart => exact ⟨0, Nat.zero_le _, rfl, Below.refl _ _⟩
  case round =>
    obtain ⟨k, hk, rfl, kb⟩ := hrel
    have kl := kb.size
    by_cases hlt : k < vs.length
    · obtain ⟨b1, off1, rfl, hb1, hv1⟩ := KX.out k hlt
      obtain ⟨p0, p1, p2⟩ := hv1.below hb1 kb
      obtain ⟨b2, off2, rfl, hb2, hv2⟩ := KY.out k hlt
      obtain ⟨q0, q1, q2⟩ := hv2.below hb2 kb
      clear hv1 hv2
      have hki : (k : Int) < (vs.length : Int) := by omega
      have hk0 : (0 : Int) ≤ (k : Int) := by omega
      generalize vs.getD k v0 = u at *
      obtain ⟨K, N, T⟩ := u
      simp only [] at p0 p1 p2 q0 q1 q2
      have HNE := fun W => neqVV K N K N T T W
      simp only [and_self, decide_true, Bool.not_true] at HNE
      go_upto_region 6 with fail
      go_region
      go_wp2
      refine ⟨?_, by simp [intOf]; omega⟩
      first | exact ⟨k + 1, by omega, by go_num, kb.drew⟩ | ((repeat apply Exists.intro); exact ⟨⟨k + 1, by omega, by go_num, kb.drew⟩, rfl⟩)
    · have hke : k = vs.length := by omega
      subst hke
      go_wp2
      go_ret
      exact ⟨rfl, kb⟩
theorem begins_drop {a b : List VV} : ∀ j, j ≤ a.length → j ≤ b.length → (∀ i, i < j → cmpV (a.getD i v0) (b.getD i v0) = 0) → beginsB a b = beginsB (a.drop j) (b.drop j)
  | 0, _, _, _ => by simp
  | j + 1, ha, hb, h => by
    rw [begins_drop j (by omega) (by omega) (fun i hi => h i (by omega)), drop_get a j (by omega), drop_get b j (by omega)]
    simp only [beginsB, h j (by omega), decide_true, Bool.true_and]
theorem take_getD (a : List VV) (k i : Nat) (h : i < k) : (a.take k).getD i v0 = a.getD i v0 := by simp [List.getD, h]
theorem begins_yes {a b : List VV} {k : Nat} (ha : k ≤ a.length) (hb : k ≤ b.length) (h : ∀ i, i < k → cmpV (a.getD i v0) (b.getD i v0) = 0) : beginsB (a.take k) b = true := by
  have hl : (a.take k).length = k := by simp; omega
  rw [begins_drop k (by omega) hb (fun i hi => by rw [take_getD a k i hi]; exact h i hi), List.drop_eq_nil_of_le (by omega)]
  rfl
theorem begins_at {a b : List VV} {k j : Nat} (ha : k ≤ a.length) (hj : j < k) (hb : j < b.length) (h : ∀ i, i < j → cmpV (a.getD i v0) (b.getD i v0) = 0) (hn : cmpV (a.getD j v0) (b.getD j v0) ≠ 0) : beginsB (a.take k) b = false := by
  have hl : (a.take k).length = k := by simp; omega
  rw [begins_drop j (by omega) (by omega) (fun i hi => by rw [take_getD a k i (by omega)]; exact h i hi), drop_get _ j (by omega), drop_get b j hb, take_getD a k j hj]
  simp only [beginsB, decide_eq_false hn, Bool.false_and]
theorem begins_short : ∀ {a b : List VV}, b.length < a.length → beginsB a b = false
  | [], b, h => by simp at h
  | v :: a, [], _ => rfl
  | v :: a, u :: b, h => by
    simp only [beginsB]
    rw [begins_short (by simpa using h)]
    simp
/-- The bytes of a row lie between the bounds of a beginning just if it begins so. -/
theorem between {p b : List VV} (hp : AllGood p) (hb : AllGood b) : (!(Go.Op.bytesLess (vrowV b).toList (vrowV p).toList) && Go.Op.bytesLess (vrowV b).toList (vrowV p ++ ⟨#[255]⟩).toList) = beginsB p b := by
  obtain ⟨h1, h2, h3⟩ := cmp_after hp hb
  have e1 : (vrowV b).data.toList = vrowL b := by simp [vrowV]
  have e2 : (vrowV p).data.toList = vrowL p := by simp [vrowV]
  have e3 : (vrowV p ++ ⟨#[255]⟩).data.toList = vrowL p ++ [255] := by simp [vrowV]
  rw [ByteArray.toList_eq, ByteArray.toList_eq, ByteArray.toList_eq, e1, e2, e3, less_cmp, less_cmp]
  cases h : beginsB p b with
  | true =>
    rw [h1 h]
    simp [h3 h]
  | false =>
    rcases h2 h with g | g
    · simp [g]
    · simp [g]
end Go.Proofs.Ytolkiofdbdjfkaa
