/- The digests of a tree's nodes. No condition. -/
import Derived.Test.YtgjcegmjhkehnaaDoorPageD
import Derived.Test.YtgjcegmjhkehnaaDoorImplFd
namespace Go.Proofs.YtgjcegmjhkehnaaDoor
open Go.ChangeShapes Go.WideShapes Go.ChangeAt Go.RowKit Go.Deep
set_option linter.unusedVariables false

mutual
/-- The digest of a node, by those of its kids. -/
def digN : Nd → ByteArray
  | .mk p kids => pageB ⟨p.map (·.1), p.map (·.2), digsN kids, 0⟩
def digsN : List Nd → List ByteArray
  | [] => []
  | k :: ks => digN k :: digsN ks
end
/-- A node as it is shown. -/
def shN : Nd → Sh
  | .mk p kids => ⟨p.map (·.1), p.map (·.2), digsN kids, 0⟩
theorem digN_eq (t : Nd) : digN t = pageB (shN t) := by cases t; simp [digN, shN]
theorem digsN_len : ∀ ks : List Nd, (digsN ks).length = ks.length
  | [] => rfl
  | k :: ks => by simp [digsN, digsN_len ks]
theorem digsN_append : ∀ a b : List Nd, digsN (a ++ b) = digsN a ++ digsN b
  | [], b => rfl
  | k :: ks, b => by simp [digsN, digsN_append ks b]
theorem digsN_mem : ∀ {ks : List Nd} {s : ByteArray}, s ∈ digsN ks → ∃ k ∈ ks, s = digN k
  | [], s, h => by simp [digsN] at h
  | k :: ks, s, h => by
    simp only [digsN, List.mem_cons] at h
    rcases h with h | h
    · exact ⟨k, by simp, h⟩
    · obtain ⟨x, hx, he⟩ := digsN_mem h
      exact ⟨x, by simp [hx], he⟩
theorem digest4 (k : Int) (s : ByteArray) : (digestB k s).size = 4 := by unfold digestB endBytes; rw [strOfNums_size]; rfl
theorem digN_size (t : Nd) : (digN t).size = 4 := by rw [digN_eq]; exact digest4 _ _
/-- All that a node of a good tree has. -/
def GdN (t : Nd) : Prop := Shape t ∧ Srt (allN t) ∧ ∀ q ∈ allN t, goodP q
theorem rise_all : ∀ {L : List Pr} {a : ByteArray}, Rise a L → ∀ q ∈ L, goodP q
  | [], _, _, q, hq => by simp at hq
  | x :: L, a, h, q, hq => by
    rcases List.mem_cons.1 hq with e | e
    · subst e; exact h.1
    · exact rise_all h.2.2 q e
theorem GdN.of {pages : List Pg} {t : Nd} (h : TreeIs pages t) : GdN t := ⟨h.shape, (srt_of_rise h.2.2.2.1).1, rise_all h.2.2.2.1⟩
theorem GdN.kid {p : List Pr} {kids : List Nd} (h : GdN (.mk p kids)) {i : Nat} (hi : i < kids.length) : GdN (kids.getD i default) := by
  refine ⟨shape_kid h.1 hi, srt_kid h.2.1 h.1 hi, fun q hq => h.2.2 q ?_⟩
  rw [allN]
  refine (inter_kid kids p ?_ _ (by simp [List.getD, hi])).subset hq
  cases h.1 with
  | mk _ _ _ hk _ =>
    rcases hk with rfl | hk
    · simp at hi
    · exact hk
theorem rise_of : ∀ {p : List Pr} {a : ByteArray}, Srt p → (∀ q ∈ p, goodP q) → (∀ q ∈ p, ltT a q.1) → Rise a p
  | [], _, _, _, _ => trivial
  | q :: p, a, hs, hg, ha => by
    cases hs with
    | cons h1 h2 => exact ⟨hg q (by simp), ha q (by simp), rise_of h2 (fun x hx => hg x (by simp [hx])) h1⟩
theorem zip_maps : ∀ p : List Pr, (p.map (·.1)).zip (p.map (·.2)) = p
  | [] => rfl
  | q :: p => by simp [zip_maps p]
theorem GdN.good {t : Nd} (h : GdN t) : GoodSh (shN t) := by
  cases t with
  | mk p kids =>
    have hown : ∀ q ∈ p, goodP q := fun q hq => h.2.2 q (by rw [allN]; exact (inter_own kids p).subset hq)
    have hsr := srt_own h.2.1
    cases h.1 with
    | mk _ _ h4 hk _ =>
      refine ⟨⟨by simpa [shN] using h4, by simp [shN], ?_, by simp [shN], by simp [shN]⟩, fun i hi => ?_, ?_⟩
      · simp only [shN, digsN_len, List.length_map]
        rcases hk with rfl | hk
        · exact .inl rfl
        · exact .inr hk
      · obtain ⟨k, _, he⟩ := digsN_mem (getD_mem (shN (.mk p kids)).kids i hi)
        rw [he]; exact digN_size k
      · have e : (shN (.mk p kids)).prs = p := zip_maps p
        rw [e]
        exact rise_of hsr hown (fun q hq => (ltT_nil _).2 (hown q hq).1)
theorem SmSh.of {p : Sh} (h : GoodSh p) : SmSh p := by
  have h4 := h.1.1
  have hv := h.1.2.1
  have hk : p.kids.length ≤ 5 := by rcases h.1.2.2.1 with g | g <;> omega
  have hg := rise_all h.2.2
  refine ⟨by omega, fun s hs => ?_, fun s hs => ?_, fun s hs => ?_⟩
  · obtain ⟨i, hi, he⟩ := List.getElem_of_mem hs
    have := hg (p.prs.getD i default) (by have hl : i < p.prs.length := (by rw [prs_len hv]; exact hi); simp [List.getD, hl])
    rw [prs_getD hi (by omega)] at this
    have h2 := this.2.1
    simp [List.getD, hi, he] at h2
    unfold maxLen; omega
  · obtain ⟨i, hi, he⟩ := List.getElem_of_mem hs
    have := hg (p.prs.getD i default) (by have hl : i < p.prs.length := (by rw [prs_len hv]; omega); simp [List.getD, hl])
    rw [prs_getD (by omega) hi] at this
    have h2 := this.2.2
    simp [List.getD, hi, he] at h2
    unfold maxLen; omega
  · rw [h.kid4 s hs]; unfold maxLen; omega
end Go.Proofs.YtgjcegmjhkehnaaDoor
