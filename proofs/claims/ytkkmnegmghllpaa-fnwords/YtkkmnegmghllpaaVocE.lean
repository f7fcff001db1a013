/- The vocabulary that is said of documents is there; posts of a word are good posts. No condition. -/
import Derived.Test.YtkkmnegmghllpaaLawH9
import Derived.Test.YtkkmnegmghllpaaImplGP
namespace Go.Proofs.Ytkkmnegmghllpaa
open Go.ChangeShapes Go.WideShapes Go.ChangeAt Go.RowKit Go.Deep
set_option linter.unusedVariables false

theorem ins_ex : ∀ (A : List ByteArray) (s : ByteArray), SrtS A → ∃ A', SrtS A' ∧ (∀ x, x ∈ A' ↔ x ∈ A ∨ x = s) ∧ A'.length ≤ A.length + 1
  | [], s, _ => ⟨[s], by simp [SrtS], by simp, by simp⟩
  | a :: A, s, h => by
    unfold SrtS at h
    rw [List.map_cons, List.pairwise_cons] at h
    rcases l_total (kL s) (kL a) with h1 | h1 | h1
    · refine ⟨s :: a :: A, ?_, fun x => ?_, by simp⟩
      · unfold SrtS
        rw [List.map_cons, List.map_cons, List.pairwise_cons, List.pairwise_cons]
        refine ⟨fun y hy => ?_, h⟩
        rcases List.mem_cons.1 hy with e | e
        · rw [e]; exact h1
        · exact List.lt_trans h1 (h.1 y e)
      · simp only [List.mem_cons]
        constructor
        · rintro (e | e)
          · exact .inr e
          · exact .inl e
        · rintro (e | e)
          · exact .inr e
          · exact .inl e
    · refine ⟨a :: A, ?_, fun x => ⟨.inl, fun h => ?_⟩, by simp⟩
      · unfold SrtS; rw [List.map_cons, List.pairwise_cons]; exact h
      · rcases h with h | h
        · exact h
        · rw [h, kL_inj h1]; simp
    · obtain ⟨A', a1, a2, a3⟩ := ins_ex A s h.2
      refine ⟨a :: A', ?_, fun x => ?_, by simp; omega⟩
      · unfold SrtS
        rw [List.map_cons, List.pairwise_cons]
        refine ⟨fun y hy => ?_, a1⟩
        obtain ⟨z, hz, rfl⟩ := List.mem_map.1 hy
        rcases (a2 z).1 hz with e | e
        · exact h.1 _ (List.mem_map.2 ⟨z, e, rfl⟩)
        · rw [e]; exact h1
      · simp only [List.mem_cons, a2 x, or_assoc]
theorem ins_all : ∀ (L A : List ByteArray), SrtS A → ∃ A', SrtS A' ∧ (∀ x, x ∈ A' ↔ x ∈ A ∨ x ∈ L) ∧ A'.length ≤ A.length + L.length
  | [], A, h => ⟨A, h, by simp, by simp⟩
  | s :: L, A, h => by
    obtain ⟨A1, a1, a2, a3⟩ := ins_ex A s h
    obtain ⟨A2, b1, b2, b3⟩ := ins_all L A1 a1
    refine ⟨A2, b1, fun x => ?_, by simp; omega⟩
    rw [b2 x, a2 x, List.mem_cons, or_assoc]
theorem voc_ex (ds : List ByteArray) : ∀ n, (∀ i, i < n → docB (ds.getD i ByteArray.empty) = true) → ∃ A, VocIs ds n A ∧ A.length ≤ 20 * n
  | 0, _ => ⟨[], ⟨List.Pairwise.nil, fun s => by simp⟩, by simp⟩
  | n + 1, h => by
    obtain ⟨A, ⟨a1, a2⟩, a3⟩ := voc_ex ds n (fun i hi => h i (by omega))
    obtain ⟨A', b1, b2, b3⟩ := ins_all (docAt ds n) A a1
    have h20 : (docAt ds n).length ≤ 20 := (doc_yes (h n (by omega))).2
    refine ⟨A', ⟨b1, fun s => ?_⟩, by omega⟩
    rw [b2 s, a2 s]
    constructor
    · rintro (⟨d, h1, h2⟩ | h1)
      · exact ⟨d, by omega, h2⟩
      · exact ⟨n, by omega, h1⟩
    · rintro ⟨d, h1, h2⟩
      by_cases e : d = n
      · subst e; exact .inr h2
      · exact .inl ⟨d, by omega, h2⟩
theorem VoIs.real {ds V : List ByteArray} (h : VoIs ds V) (hd : docsB ds = true) : VocIs ds ds.length V := by
  obtain ⟨h12, hdd⟩ := docs_yes hd
  obtain ⟨A, h1, h2⟩ := voc_ex ds ds.length hdd
  have := h.yes hd A h1 (by omega)
  rw [← this]; exact h1
/-- A word is of the vocabulary just if it has posts. -/
theorem VoIs.has {ds V : List ByteArray} (h : VoIs ds V) (hd : docsB ds = true) (s : ByteArray) : s ∈ V ↔ psK ds s ds.length ≠ [] := by
  rw [(h.real hd).2 s, psK_has]
theorem psK_good {ds : List ByteArray} (h : docsB ds = true) (s : ByteArray) : GoodP (psK ds s ds.length) := by
  obtain ⟨h1, h2⟩ := docs_yes h
  refine ⟨by have := psK_len ds s ds.length; omega, fun i hi => ?_, fun i hi => ?_⟩
  · obtain ⟨a, b, c, d⟩ := psK_doc ds s ds.length _ (getD_memL _ i hi)
    refine ⟨⟨a, by omega⟩, fun e => c (List.eq_nil_of_length_eq_zero e), ?_⟩
    have h20 : (docAt ds ((psK ds s ds.length).getD i default).1.toNat).length ≤ 20 := (doc_yes (h2 ((psK ds s ds.length).getD i default).1.toNat (by omega))).2
    have hb := plK_bd (docAt ds ((psK ds s ds.length).getD i default).1.toNat) s (docAt ds ((psK ds s ds.length).getD i default).1.toNat).length
    have hr := plK_rise (docAt ds ((psK ds s ds.length).getD i default).1.toNat) s (docAt ds ((psK ds s ds.length).getD i default).1.toNat).length
    rw [← d] at hb hr
    refine ⟨fun j hj => ?_, fun j hj => hr j hj⟩
    have hm := hb _ ((mem_getD (l := ((psK ds s ds.length).getD i default).2)).2 ⟨j, hj, rfl⟩)
    omega
  · exact psK_rise ds s ds.length i hi
end Go.Proofs.Ytkkmnegmghllpaa
