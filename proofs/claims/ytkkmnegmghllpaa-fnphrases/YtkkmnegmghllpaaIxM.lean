/- The mathematics of the places of words in documents. No condition. -/
import Derived.Test.YtkkmnegmghllpaaImplMe
import Derived.Test.YtkkmnegmghllpaaWordQ
namespace Go.Proofs.Ytkkmnegmghllpaa
set_option linter.unusedVariables false

def docAt (ds : List ByteArray) (d : Nat) : List ByteArray := wordsL (ds.getD d ByteArray.empty)
/-- The places of a word among the first k words. -/
def plK (ws : List ByteArray) (s : ByteArray) : Nat → List Int
  | 0 => []
  | k + 1 => plK ws s k ++ (if ws.getD k ByteArray.empty = s then [(k : Int)] else [])
/-- The posts of a word in the first d documents. -/
def psK (ds : List ByteArray) (s : ByteArray) : Nat → List Po
  | 0 => []
  | d + 1 => psK ds s d ++ (if plK (docAt ds d) s (docAt ds d).length = [] then [] else [((d : Int), plK (docAt ds d) s (docAt ds d).length)])
/-- .. and in the first k words of the next one. -/
def ixP (ds : List ByteArray) (d k : Nat) (s : ByteArray) : List Po := psK ds s d ++ (if plK (docAt ds d) s k = [] then [] else [((d : Int), plK (docAt ds d) s k)])
theorem ixP_end (ds : List ByteArray) (d : Nat) (s : ByteArray) : ixP ds d (docAt ds d).length s = psK ds s (d + 1) := rfl
theorem ixP_zero (ds : List ByteArray) (d : Nat) (s : ByteArray) : ixP ds d 0 s = psK ds s d := by simp [ixP, plK]
theorem plK_len (ws : List ByteArray) (s : ByteArray) : ∀ k, (plK ws s k).length ≤ k
  | 0 => by simp [plK]
  | k + 1 => by
    have := plK_len ws s k
    simp only [plK, List.length_append]
    split <;> simp <;> omega
theorem plK_bd (ws : List ByteArray) (s : ByteArray) : ∀ k, ∀ n ∈ plK ws s k, 0 ≤ n ∧ n < (k : Int)
  | 0, n, h => by simp [plK] at h
  | k + 1, n, h => by
    simp only [plK, List.mem_append] at h
    rcases h with h | h
    · have := plK_bd ws s k n h; omega
    · split at h
      · simp at h; omega
      · simp at h
theorem plK_mem (ws : List ByteArray) (s : ByteArray) : ∀ k (i : Nat), (i : Int) ∈ plK ws s k ↔ i < k ∧ ws.getD i ByteArray.empty = s
  | 0, i => by simp [plK]
  | k + 1, i => by
    simp only [plK, List.mem_append, plK_mem ws s k i]
    by_cases e : i = k
    · subst e
      by_cases h : ws.getD i ByteArray.empty = s
      · rw [if_pos h]; simp only [List.mem_singleton, h, and_true]; constructor
        · intro _; omega
        · intro _; exact .inr trivial
      · rw [if_neg h]; simp only [List.not_mem_nil, h, and_false, or_false]
    · constructor
      · rintro (⟨h1, h2⟩ | h)
        · exact ⟨by omega, h2⟩
        · split at h
          · simp at h; omega
          · simp at h
      · rintro ⟨h1, h2⟩
        exact .inl ⟨by omega, h2⟩
theorem plK_rise (ws : List ByteArray) (s : ByteArray) : ∀ k, ∀ i, i + 1 < (plK ws s k).length → (plK ws s k).getD i 0 < (plK ws s k).getD (i + 1) 0
  | 0, i, h => by simp [plK] at h
  | k + 1, i, h => by
    have h0 := plK_rise ws s k i
    have hb := plK_bd ws s k
    simp only [plK] at h ⊢
    by_cases e : ws.getD k ByteArray.empty = s
    · rw [if_pos e] at h ⊢
      simp only [List.length_append, List.length_cons, List.length_nil] at h
      by_cases h1 : i + 1 < (plK ws s k).length
      · have := h0 h1
        simp only [List.getD_eq_getElem?_getD] at this ⊢
        rw [List.getElem?_append_left (by omega), List.getElem?_append_left h1]
        exact this
      · have h2 : i + 1 = (plK ws s k).length := by omega
        simp only [List.getD_eq_getElem?_getD]
        rw [List.getElem?_append_left (by omega), h2]
        simp only [List.getElem?_concat_length, Option.getD_some]
        have h3 : i < (plK ws s k).length := by omega
        rw [List.getElem?_eq_getElem h3, Option.getD_some]
        exact (hb _ (List.getElem_mem h3)).2
    · rw [if_neg e, List.append_nil] at h ⊢
      exact h0 h
theorem psK_doc (ds : List ByteArray) (s : ByteArray) : ∀ d, ∀ p ∈ psK ds s d, 0 ≤ p.1 ∧ p.1 < (d : Int) ∧ p.2 ≠ [] ∧ p.2 = plK (docAt ds p.1.toNat) s (docAt ds p.1.toNat).length
  | 0, p, h => by simp [psK] at h
  | d + 1, p, h => by
    simp only [psK, List.mem_append] at h
    rcases h with h | h
    · obtain ⟨h1, h2, h3⟩ := psK_doc ds s d p h
      exact ⟨h1, by omega, h3⟩
    · split at h
      · simp at h
      · rename_i hne
        simp at h
        subst h
        exact ⟨by simp, by simp; omega, hne, by simp⟩
theorem psK_len (ds : List ByteArray) (s : ByteArray) : ∀ d, (psK ds s d).length ≤ d
  | 0 => by simp [psK]
  | d + 1 => by
    have := psK_len ds s d
    simp only [psK, List.length_append]
    split <;> simp <;> omega
/-- Where the word comes: in a document that had none of it. -/
theorem ix_new {ds : List ByteArray} {d k : Nat} {s : ByteArray} (hk : (docAt ds d).getD k ByteArray.empty = s) (h : plK (docAt ds d) s k = []) : ixP ds d (k + 1) s = ixP ds d k s ++ [((d : Int), [(k : Int)])] := by
  have h1 : plK (docAt ds d) s (k + 1) = [(k : Int)] := by simp only [plK, h, List.nil_append]; rw [if_pos hk]
  unfold ixP
  rw [h1, h, if_pos rfl, if_neg (by simp), List.append_nil]
/-- .. in one that had some. -/
theorem ix_old {ds : List ByteArray} {d k : Nat} {s : ByteArray} (hk : (docAt ds d).getD k ByteArray.empty = s) (h : plK (docAt ds d) s k ≠ []) :
    ixP ds d k s = psK ds s d ++ [((d : Int), plK (docAt ds d) s k)] ∧ ixP ds d (k + 1) s = psK ds s d ++ [((d : Int), plK (docAt ds d) s k ++ [(k : Int)])] := by
  have h1 : plK (docAt ds d) s (k + 1) = plK (docAt ds d) s k ++ [(k : Int)] := by simp only [plK]; rw [if_pos hk]
  unfold ixP
  rw [h1, if_neg h, if_neg (by simp)]
  exact ⟨rfl, rfl⟩
theorem ix_other {ds : List ByteArray} {d k : Nat} {s : ByteArray} (hk : (docAt ds d).getD k ByteArray.empty ≠ s) : ixP ds d (k + 1) s = ixP ds d k s := by
  unfold ixP
  simp only [plK, if_neg hk, List.append_nil]
/-- How often in all. -/
theorem ix_sum {ds : List ByteArray} {d k : Nat} {s : ByteArray} (hk : (docAt ds d).getD k ByteArray.empty = s) : sumL (ixP ds d (k + 1) s) = sumL (ixP ds d k s) + 1 := by
  by_cases h : plK (docAt ds d) s k = []
  · rw [ix_new hk h, sumL_snoc]; rfl
  · rw [(ix_old hk h).1, (ix_old hk h).2, sumL_snoc, sumL_snoc]; simp; omega
/-- The posts of good documents are within small bounds, and of unlike documents. -/
theorem psK_sm {ds : List ByteArray} (h : docsB ds = true) (s : ByteArray) : SmP (psK ds s ds.length) := by
  obtain ⟨h1, h2⟩ := docs_yes h
  refine ⟨by have := psK_len ds s ds.length; omega, fun p hp => ?_⟩
  obtain ⟨a, b, _, c⟩ := psK_doc ds s ds.length p hp
  have hd := (doc_yes (h2 p.1.toNat (by omega))).2
  have hl : (docAt ds p.1.toNat).length ≤ 20 := hd
  rw [c]
  refine ⟨by have := plK_len (docAt ds p.1.toNat) s (docAt ds p.1.toNat).length; omega, fun n hn => ?_⟩
  have := plK_bd _ _ _ n hn
  omega
theorem psK_rise (ds : List ByteArray) (s : ByteArray) : ∀ d, ∀ i, i + 1 < (psK ds s d).length → ((psK ds s d).getD i default).1 < ((psK ds s d).getD (i + 1) default).1
  | 0, i, h => by simp [psK] at h
  | d + 1, i, h => by
    have h0 := psK_rise ds s d i
    have hb := psK_doc ds s d
    simp only [psK] at h ⊢
    by_cases e : plK (docAt ds d) s (docAt ds d).length = []
    · rw [if_pos e, List.append_nil] at h ⊢
      exact h0 h
    · rw [if_neg e] at h ⊢
      simp only [List.length_append, List.length_cons, List.length_nil] at h
      rw [getD_snocP, getD_snocP]
      by_cases h1 : i + 1 < (psK ds s d).length
      · rw [if_neg (by omega), if_pos (by omega), if_neg (by omega), if_pos h1]
        exact h0 h1
      · have h2 : i + 1 = (psK ds s d).length := by omega
        rw [if_neg (by omega), if_pos (by omega), if_pos h2]
        have h3 : i < (psK ds s d).length := by omega
        have := (hb _ (getD_memL _ i h3)).2.1
        exact this
end Go.Proofs.Ytkkmnegmghllpaa
