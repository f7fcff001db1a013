/- The mathematics of words: letters, the words of a text step by step, also where a rune is more than one byte. No condition. -/
import Derived.Test.YtkkmnegmghllpaaRows
import Derived.Laws.RangeAny
import Derived.Laws.BytesArg
import Derived.Laws.Strings
import Derived.WideShapes
namespace Go.Proofs.Ytkkmnegmghllpaa
set_option linter.unusedVariables false

/-- The small letter that a byte is; 0: no letter. -/
def letN (n : Nat) : Nat := if 97 ≤ n ∧ n ≤ 122 then n else if 65 ≤ n ∧ n ≤ 90 then n + 32 else 0
def oneB (n : Nat) : ByteArray := strOfNums [(n : Int)]
theorem oneB_size (n : Nat) : (oneB n).size = 1 := strOfNums_size _
def byN (s : ByteArray) (i : Nat) : Nat := (s.data.toList.getD i 0).toNat
theorem byN_get (s : ByteArray) (i : Nat) (h : i < s.size) : (s[i]'h).toNat = byN s i := by
  have h2 : i < s.data.toList.length := by rw [Array.length_toList]; exact h
  simp only [byN, List.getD, List.getElem?_eq_getElem h2, Option.getD_some]
  rfl
theorem byN_get! (s : ByteArray) (i : Nat) (h : i < s.size) : (s.get! i).toNat = byN s i := by
  rw [← byN_get s i h]
  have h2 : i < s.data.size := h
  have h3 : s.get! i = s[i]'h := by
    show s.data[i]! = s.data[i]
    exact getElem!_pos s.data i h2
  rw [h3]
abbrev WSt := List ByteArray × ByteArray
def stepW (st : WSt) (n : Nat) : WSt := if letN n = 0 then (if st.2.size = 0 then st else (st.1 ++ [st.2], ByteArray.empty)) else (st.1, st.2 ++ oneB (letN n))
def walkW (s : ByteArray) : Nat → WSt
  | 0 => ([], ByteArray.empty)
  | k + 1 => stepW (walkW s k) (byN s k)
def endW (st : WSt) : List ByteArray := if st.2.size = 0 then st.1 else st.1 ++ [st.2]
/-- The words of a text. -/
def wordsL (s : ByteArray) : List ByteArray := endW (walkW s s.size)
theorem ba_empty {b : ByteArray} (h : b.size = 0) : b = ByteArray.empty := by
  cases b with
  | mk d =>
    have : d = #[] := Array.eq_empty_of_size_eq_zero h
    subst this; rfl
theorem empty_app (b : ByteArray) : ByteArray.empty ++ b = b := by
  apply ByteArray.ext; simp
theorem step_none {st : WSt} {n : Nat} (h : letN n = 0) : endW (stepW st n) = endW st ∧ (stepW st n).2.size = 0 := by
  unfold stepW
  rw [if_pos h]
  by_cases h0 : st.2.size = 0
  · rw [if_pos h0]; exact ⟨rfl, h0⟩
  · rw [if_neg h0]; exact ⟨by simp [endW, h0], rfl⟩
theorem step_let {st : WSt} {n : Nat} (h : letN n ≠ 0) : (stepW st n) = (st.1, st.2 ++ oneB (letN n)) ∧ (stepW st n).2.size ≠ 0 ∧ endW (stepW st n) = st.1 ++ [st.2 ++ oneB (letN n)] := by
  have h1 : stepW st n = (st.1, st.2 ++ oneB (letN n)) := by unfold stepW; rw [if_neg h]
  rw [h1]
  have h2 : (st.2 ++ oneB (letN n)).size ≠ 0 := by rw [ByteArray.size_append, oneB_size]; omega
  exact ⟨rfl, h2, by unfold endW; rw [if_neg h2]⟩
/-- Over bytes that are no letters. -/
theorem walk_none {s : ByteArray} {k : Nat} : ∀ m, (∀ i, i < m + 1 → letN (byN s (k + i)) = 0) → endW (walkW s (k + (m + 1))) = endW (walkW s k) ∧ (walkW s (k + (m + 1))).2.size = 0
  | 0, h => step_none (h 0 (by omega))
  | m + 1, h => by
    obtain ⟨h1, h2⟩ := walk_none m (fun i hi => h i (by omega))
    obtain ⟨h3, h4⟩ := step_none (st := walkW s (k + (m + 1))) (h (m + 1) (by omega))
    exact ⟨h3.trans h1, h4⟩
theorem walk_len (s : ByteArray) : ∀ k, (walkW s k).1.length ≤ k ∧ (walkW s k).2.size ≤ k
  | 0 => ⟨by simp [walkW], by simp [walkW]⟩
  | k + 1 => by
    obtain ⟨h1, h2⟩ := walk_len s k
    show (stepW _ _).1.length ≤ _ ∧ (stepW _ _).2.size ≤ _
    unfold stepW
    split
    · split
      · exact ⟨by omega, by omega⟩
      · exact ⟨by simp; omega, by simp⟩
    · exact ⟨by simp; omega, by rw [ByteArray.size_append, oneB_size]; omega⟩
theorem walk_room (s : ByteArray) : ∀ k, (endW (walkW s k)).length ≤ k
  | 0 => by simp [walkW, endW]
  | k + 1 => by
    have h := walk_room s k
    have h' := walk_len s k
    by_cases hl : letN (byN s k) = 0
    · have := (step_none (st := walkW s k) hl).1
      show (endW (stepW _ _)).length ≤ _
      rw [this]; omega
    · have := (step_let (st := walkW s k) hl).2.2
      show (endW (stepW _ _)).length ≤ _
      rw [this]
      simp; omega
theorem letN_bd (n : Nat) : letN n = 0 ∨ 97 ≤ letN n ∧ letN n ≤ 122 := by
  unfold letN
  split
  · right; assumption
  · split
    · right; omega
    · left; rfl
theorem cont_high {s : ByteArray} {i : Nat} (h : (decide (i < s.size) && ((s.get! i).toNat / 64 == 2)) = true) : i < s.size ∧ 128 ≤ byN s i := by
  simp only [Bool.and_eq_true, decide_eq_true_eq, beq_iff_eq] at h
  rw [byN_get! s i h.1] at h
  exact ⟨h.1, by omega⟩
/-- A rune of more than one byte has no byte that is a letter. -/
theorem high_bytes (s : ByteArray) (pos : Nat) (h : pos < s.size) (ha : 128 ≤ byN s pos) : ∀ i, i < (Utf8.decode s pos).2 → pos + i < s.size ∧ 128 ≤ byN s (pos + i) := by
  have h0 : (s.get! (pos + 0)).toNat = byN s pos := byN_get! s pos h
  have one : ∀ i, i < 1 → pos + i < s.size ∧ 128 ≤ byN s (pos + i) := fun i hi => by
    have : i = 0 := by omega
    subst this; exact ⟨h, ha⟩
  unfold Utf8.decode
  simp only [h0]
  split
  · omega
  · split
    · rename_i h1 h2
      simp only [Bool.and_eq_true] at h2
      have c1 := cont_high (i := pos + 1) (by simpa using h2.2)
      have two : ∀ i, i < 2 → pos + i < s.size ∧ 128 ≤ byN s (pos + i) := fun i hi => by
        rcases (by omega : i = 0 ∨ i = 1) with rfl | rfl
        · exact ⟨h, ha⟩
        · exact c1
      split
      · exact two
      · exact one
    · split
      · rename_i h1 h2
        simp only [Bool.and_eq_true] at h2
        have c1 := cont_high (i := pos + 1) (by simpa using h2.1.2)
        have c2 := cont_high (i := pos + 2) (by simpa using h2.2)
        have three : ∀ i, i < 3 → pos + i < s.size ∧ 128 ≤ byN s (pos + i) := fun i hi => by
          rcases (by omega : i = 0 ∨ i = 1 ∨ i = 2) with rfl | rfl | rfl
          · exact ⟨h, ha⟩
          · exact c1
          · exact c2
        split
        · exact three
        · exact one
      · split
        · rename_i h1 h2
          simp only [Bool.and_eq_true] at h2
          have c1 := cont_high (i := pos + 1) (by simpa using h2.1.1.2)
          have c2 := cont_high (i := pos + 2) (by simpa using h2.1.2)
          have c3 := cont_high (i := pos + 3) (by simpa using h2.2)
          have four : ∀ i, i < 4 → pos + i < s.size ∧ 128 ≤ byN s (pos + i) := fun i hi => by
            rcases (by omega : i = 0 ∨ i = 1 ∨ i = 2 ∨ i = 3) with rfl | rfl | rfl | rfl
            · exact ⟨h, ha⟩
            · exact c1
            · exact c2
            · exact c3
          split
          · exact four
          · exact one
        · exact one
/-- The rune at a place: what the words are behind it. -/
theorem rune_high (s : ByteArray) (pos : Nat) (h : pos < s.size) (ha : 128 ≤ byN s pos) :
    pos + (Utf8.decode s pos).2 ≤ s.size ∧ 128 ≤ (Utf8.decode s pos).1 ∧ 1 ≤ (Utf8.decode s pos).2 ∧ endW (walkW s (pos + (Utf8.decode s pos).2)) = endW (walkW s pos) ∧ (walkW s (pos + (Utf8.decode s pos).2)).2.size = 0 := by
  have hd := decode_high s pos h (by rw [byN_get]; exact ha)
  have hb := high_bytes s pos h ha
  obtain ⟨m, hm⟩ : ∃ m, (Utf8.decode s pos).2 = m + 1 := ⟨(Utf8.decode s pos).2 - 1, by omega⟩
  rw [hm] at hb hd ⊢
  have hl := (hb m (by omega)).1
  obtain ⟨h1, h2⟩ := walk_none (s := s) (k := pos) m (fun i hi => by
    have := (hb i hi).2
    unfold letN
    rw [if_neg (by omega), if_neg (by omega)])
  exact ⟨by omega, hd.1, hd.2, h1, h2⟩
theorem rune_low (s : ByteArray) (pos : Nat) (h : pos < s.size) (ha : byN s pos < 128) : Utf8.decode s pos = (byN s pos, 1) := by
  rw [decode_ascii s pos h (by rw [byN_get]; exact ha), byN_get]
theorem encode_low (n : Nat) (h : n < 128) : Utf8.encode (n : Int) = oneB n := by
  unfold Utf8.encode oneB
  simp [strOfNums, h, show Utf8.valid (n : Int) = true by simp [Utf8.valid]; omega]
theorem toList_inj (s t : ByteArray) : s.toList = t.toList ↔ s = t :=
  ⟨fun h => by rw [ByteArray.toList_eq, ByteArray.toList_eq] at h; exact Go.WideShapes.bytes_inj h, fun h => by rw [h]⟩
theorem sEq (a b : ByteArray) : (a.toList == b.toList) = decide (a = b) := by
  rw [Bool.eq_iff_iff, beq_iff_eq, decide_eq_true_iff]; exact toList_inj a b
theorem cons_of {c : ByteArray} (h : c.size ≠ 0) : ∃ d l, c.toList = d :: l := by
  cases hc : c.toList with
  | nil =>
    exfalso
    apply h
    have : c.data.toList = [] := by rw [← ByteArray.toList_eq]; exact hc
    show c.data.size = 0
    rw [← Array.length_toList, this]; rfl
  | cons d l => exact ⟨d, l, rfl⟩
end Go.Proofs.Ytkkmnegmghllpaa
