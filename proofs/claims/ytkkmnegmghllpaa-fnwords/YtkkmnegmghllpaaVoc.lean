/- The vocabulary of documents: rising words, each once. No condition. -/
import Derived.Test.YtkkmnegmghllpaaImplIx
import Derived.Sort.KeysCollected
import Derived.Sort.OwnSorted
import Derived.Sort.Walk0
namespace Go.Proofs.Ytkkmnegmghllpaa
open Go.ChangeShapes Go.WideShapes Go.ChangeAt Go.RowKit Go.Deep Go.Maps
set_option linter.unusedVariables false

def kL (s : ByteArray) : List UInt8 := s.data.toList
theorem kL_inj {s t : ByteArray} (h : kL s = kL t) : s = t := bytes_inj h
theorem kL_mk (x : List UInt8) : kL ⟨x.toArray⟩ = x := rfl
/-- Rising words. -/
def SrtS (A : List ByteArray) : Prop := (A.map kL).Pairwise (fun x y => x < y)
theorem l_asymm {x y : List UInt8} (h : x < y) (g : y < x) : False := List.lt_irrefl _ (List.lt_trans h g)
theorem srt_uniq : ∀ (A B : List (List UInt8)), A.Pairwise (fun x y => x < y) → B.Pairwise (fun x y => x < y) → (∀ x, x ∈ A ↔ x ∈ B) → A = B
  | [], [], _, _, _ => rfl
  | [], b :: B, _, _, h => by have := (h b).2 (by simp); simp at this
  | a :: A, [], _, _, h => by have := (h a).1 (by simp); simp at this
  | a :: A, b :: B, hA, hB, h => by
    obtain ⟨a1, a2⟩ := List.pairwise_cons.1 hA
    obtain ⟨b1, b2⟩ := List.pairwise_cons.1 hB
    have hab : a = b := by
      have h1 := (h a).1 (by simp)
      have h2 := (h b).2 (by simp)
      simp only [List.mem_cons] at h1 h2
      rcases h1 with h1 | h1
      · exact h1
      · rcases h2 with h2 | h2
        · exact h2.symm
        · exact (l_asymm (b1 a h1) (a1 b h2)).elim
    subst hab
    rw [srt_uniq A B a2 b2 (fun x => ?_)]
    constructor
    · intro hx
      have h1 := (h x).1 (by simp [hx])
      simp only [List.mem_cons] at h1
      rcases h1 with h1 | h1
      · subst h1; exact (List.lt_irrefl _ (a1 x hx)).elim
      · exact h1
    · intro hx
      have h1 := (h x).2 (by simp [hx])
      simp only [List.mem_cons] at h1
      rcases h1 with h1 | h1
      · subst h1; exact (List.lt_irrefl _ (b1 x hx)).elim
      · exact h1
/-- The words of the first n documents, rising, each once. -/
def VocIs (ds : List ByteArray) (n : Nat) (A : List ByteArray) : Prop := SrtS A ∧ ∀ s, s ∈ A ↔ ∃ d, d < n ∧ s ∈ docAt ds d
theorem VocIs.uniq {ds : List ByteArray} {n : Nat} {A B : List ByteArray} (h : VocIs ds n A) (g : VocIs ds n B) : A = B := by
  have hm : ∀ x, x ∈ A.map kL ↔ x ∈ B.map kL := fun x => by
    simp only [List.mem_map]
    constructor
    · rintro ⟨s, hs, rfl⟩; exact ⟨s, (g.2 s).2 ((h.2 s).1 hs), rfl⟩
    · rintro ⟨s, hs, rfl⟩; exact ⟨s, (h.2 s).2 ((g.2 s).1 hs), rfl⟩
  have he := srt_uniq _ _ h.1 g.1 hm
  have : ∀ (X Y : List ByteArray), X.map kL = Y.map kL → X = Y := by
    intro X
    induction X with
    | nil => intro Y hY; cases Y with
      | nil => rfl
      | cons y Y => simp at hY
    | cons x X ih => intro Y hY; cases Y with
      | nil => simp at hY
      | cons y Y =>
        simp only [List.map_cons, List.cons.injEq] at hY
        rw [kL_inj hY.1, ih Y hY.2]
  exact this A B he
theorem psK_has (ds : List ByteArray) (s : ByteArray) : ∀ n, psK ds s n ≠ [] ↔ ∃ d, d < n ∧ s ∈ docAt ds d
  | 0 => by simp [psK]
  | n + 1 => by
    have ih := psK_has ds s n
    have hm : plK (docAt ds n) s (docAt ds n).length ≠ [] ↔ s ∈ docAt ds n := by
      constructor
      · intro h
        obtain ⟨x, hx⟩ := List.exists_mem_of_ne_nil _ h
        have hb := plK_bd _ _ _ x hx
        obtain ⟨i, rfl⟩ : ∃ i : Nat, x = (i : Int) := ⟨x.toNat, by omega⟩
        obtain ⟨h1, h2⟩ := (plK_mem _ _ _ i).1 hx
        rw [← h2]; exact getD_mem _ i h1
      · intro h he
        obtain ⟨i, hi, rfl⟩ := List.mem_iff_getElem.1 h
        have := (plK_mem (docAt ds n) (docAt ds n)[i] (docAt ds n).length i).2 ⟨hi, by simp [List.getD, hi]⟩
        rw [he] at this; simp at this
    simp only [psK]
    by_cases hp : plK (docAt ds n) s (docAt ds n).length = []
    · rw [if_pos hp, List.append_nil, ih]
      constructor
      · rintro ⟨d, h1, h2⟩; exact ⟨d, by omega, h2⟩
      · rintro ⟨d, h1, h2⟩
        by_cases e : d = n
        · subst e; exact absurd (hm.2 h2) (by simp [hp])
        · exact ⟨d, by omega, h2⟩
    · rw [if_neg hp]
      exact ⟨fun _ => ⟨n, by omega, hm.1 hp⟩, fun _ => by simp⟩
/-- A word put to its place. -/
theorem srt_ins {A : List ByteArray} {s : ByteArray} {k : Nat} (h : SrtS A) (hk : k ≤ A.length) (h1 : ∀ i, i < k → kL (A.getD i ByteArray.empty) < kL s) (h2 : ∀ i, k ≤ i → i < A.length → kL s < kL (A.getD i ByteArray.empty)) :
    SrtS (A.take k ++ [s] ++ A.drop k) ∧ ∀ x, x ∈ A.take k ++ [s] ++ A.drop k ↔ x ∈ A ∨ x = s := by
  have ht : ∀ x ∈ A.take k, kL x < kL s := fun x hx => by
    obtain ⟨i, hi, rfl⟩ := List.mem_iff_getElem.1 hx
    have hi2 : i < k ∧ i < A.length := by simp at hi; omega
    have := h1 i hi2.1
    simpa [List.getD, hi2.2] using this
  have hd : ∀ x ∈ A.drop k, kL s < kL x := fun x hx => by
    obtain ⟨i, hi, rfl⟩ := List.mem_iff_getElem.1 hx
    have hi2 : k + i < A.length := by simp at hi; omega
    have := h2 (k + i) (by omega) hi2
    simpa [List.getD, hi2] using this
  constructor
  · unfold SrtS at h ⊢
    simp only [List.map_append, List.map_cons, List.map_nil]
    have h3 : (A.take k).map kL ++ (A.drop k).map kL = A.map kL := by rw [← List.map_append, List.take_append_drop]
    rw [← h3, List.pairwise_append] at h
    rw [List.append_assoc, List.pairwise_append]
    refine ⟨h.1, List.pairwise_cons.2 ⟨fun y hy => ?_, h.2.1⟩, fun x hx y hy => ?_⟩
    · obtain ⟨z, hz, rfl⟩ := List.mem_map.1 hy
      exact hd z hz
    · simp only [List.singleton_append, List.mem_cons] at hy
      rcases hy with rfl | hy
      · obtain ⟨z, hz, rfl⟩ := List.mem_map.1 hx
        exact ht z hz
      · exact h.2.2 x hx y hy
  · intro x
    have : x ∈ A ↔ x ∈ A.take k ∨ x ∈ A.drop k := by rw [← List.mem_append, List.take_append_drop]
    rw [this]
    simp only [List.mem_append, List.mem_singleton]
    constructor
    · rintro ((h | h) | h)
      · exact .inl (.inl h)
      · exact .inr h
      · exact .inl (.inr h)
    · rintro ((h | h) | h)
      · exact .inl (.inl h)
      · exact .inr h
      · exact .inl (.inr h)
end Go.Proofs.Ytkkmnegmghllpaa
