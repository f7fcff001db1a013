/- A list of posts that grows: its last post is written on. No condition. -/
import Derived.Test.YtkkmnegmghllpaaSpecMe
namespace Go.Proofs.Ytkkmnegmghllpaa
open Go.ChangeShapes Go.WideShapes Go.ChangeAt Go.RowKit Go.Deep
set_option linter.unusedVariables false

theorem flat_last {qs : List Po} {us : List Value} {d : Int} {l : List Int} {pv : Value} (h : us.length = qs.length) : flatP (qs ++ [(d, l)]) (us ++ [pv]) = flatP qs us ++ [.int .i64 d, pv] := flatP_snoc _ _ h
section
variable {base : Nat} {w : World} {v pv : Value} {qs : List Po} {us : List Value} {d : Int} {l : List Int}
theorem GrP.ulen (h : GrP base w v (qs ++ [(d, l)]) (us ++ [pv])) : us.length = qs.length := by have := h.len; simp at this; exact this
theorem GrP.lastGet (h : GrP base w v (qs ++ [(d, l)]) (us ++ [pv])) : (us ++ [pv]).getD qs.length default = pv := by rw [getD_snocV, if_pos h.ulen.symm]
/-- The last post's cells. -/
theorem GrP.last (h : GrP base w v (qs ++ [(d, l)]) (us ++ [pv])) : ∃ g cap, v = .slice (some ⟨g, 0, none⟩) (qs.length + 1) cap ∧ g < w.heap.size ∧ w.cell? ⟨g, qs.length * 2, none⟩ = some (.int .i64 d) ∧ w.cell? ⟨g, qs.length * 2 + 1, none⟩ = some pv ∧
    w.frozen? ⟨g, qs.length * 2, none⟩ = false ∧ w.frozen? ⟨g, qs.length * 2 + 1, none⟩ = false := by
  have hul := h.ulen
  rcases h.row.2 with ⟨_, h0⟩ | ⟨g, cap, cur, hv, hb, hcur, hc, hm, hs, ht⟩
  · simp at h0
  · have hn : (qs ++ [(d, l)]).length = qs.length + 1 := by simp
    rw [hn] at hv hc ht
    have hfl := flatP_len (ps := qs) (vs := us) hul
    have hg : ∀ j, j < (qs.length + 1) * 2 → cur[j]? = (flatP qs us ++ [.int .i64 d, pv])[j]? := fun j hj => by
      rw [← flat_last (l := l) hul, ← ht, List.getElem?_take_of_lt hj, Array.getElem?_toList]
    refine ⟨g, cap, hv, (Array.getElem?_eq_some_iff.1 hcur).1, ?_, ?_, by simp [World.frozen?, hcur], by simp [World.frozen?, hcur]⟩
    · rw [cell_of_heap hcur, hg _ (by omega), List.getElem?_append_right (by omega), hfl]
      simp
    · rw [cell_of_heap hcur, hg _ (by omega), List.getElem?_append_right (by omega), hfl, show qs.length * 2 + 1 - qs.length * 2 = 1 by omega]
      rfl
theorem GrP.lastOwn (h : GrP base w v (qs ++ [(d, l)]) (us ++ [pv])) : OwnS w base 3 pv l.length (intsV l) := by
  have h1 := h.own qs.length (by simp)
  rw [h.lastGet, getD_snocP, if_pos rfl] at h1
  exact h1
theorem GrP.lastMem (h : GrP base w v (qs ++ [(d, l)]) (us ++ [pv])) : ∀ x ∈ obl pv, x ∈ fpG v (us ++ [pv]) := fun x hx => mem_fpG.2 (.inr ⟨qs.length, by simp [h.ulen], by rw [h.lastGet]; exact hx⟩)
theorem GrP.lastApart (h : GrP base w v (qs ++ [(d, l)]) (us ++ [pv])) : ∀ x ∈ obl pv, v.ownBlock ≠ some x := fun x hx => h.apart qs.length (by simp) x (by rw [h.lastGet]; exact hx)
/-- The last post's places written anew. -/
theorem GrP.setLast {w' w4 : World} {g cap : Nat} {x : Value} {l' : List Int} (h : GrP base w (.slice (some ⟨g, 0, none⟩) (qs.length + 1) cap) (qs ++ [(d, l)]) (us ++ [pv])) (hb : Below w.heap.size w w')
    (ho : OwnS w4 base 3 x l'.length (intsV l')) (hg : Off (obl pv) w' w4) (he : ∀ y ∈ obl x, y ∈ obl pv ∨ w'.heap.size ≤ y) :
    GrP base (w4.setCell ⟨g, qs.length * 2 + 1, none⟩ x) (.slice (some ⟨g, 0, none⟩) (qs.length + 1) cap) (qs ++ [(d, l')]) (us ++ [x]) := by
  have hul := h.ulen
  have hh := h.below hb
  have hlt : ∀ y ∈ fpG (.slice (some ⟨g, 0, none⟩) (qs.length + 1) cap) (us ++ [pv]), y < w'.heap.size := fun y hy => (hh.lt y hy).2
  have hgg : g < w'.heap.size := hlt g (mem_fpG.2 (.inl rfl))
  have hgn : g ∉ obl pv := fun hm => h.lastApart g hm rfl
  have hgx : g ∉ obl x := fun hm => by rcases he g hm with h1 | h1; exact hgn h1; omega
  have o1 : ∀ i, i < qs.length → (us ++ [pv]).getD i default = us.getD i default := fun i hi => by rw [getD_snocV, if_neg (by omega), if_pos (by omega)]
  have o2 : ∀ i, i < qs.length → (us ++ [x]).getD i default = us.getD i default := fun i hi => by rw [getD_snocV, if_neg (by omega), if_pos (by omega)]
  have x2 : (us ++ [x]).getD qs.length default = x := by rw [getD_snocV, if_pos hul.symm]
  have q1 : ∀ i, i < qs.length → (qs ++ [(d, l)]).getD i default = qs.getD i default := fun i hi => by rw [getD_snocP, if_neg (by omega), if_pos hi]
  have q2 : ∀ i, i < qs.length → (qs ++ [(d, l')]).getD i default = qs.getD i default := fun i hi => by rw [getD_snocP, if_neg (by omega), if_pos hi]
  have q3 : (qs ++ [(d, l')]).getD qs.length default = (d, l') := by rw [getD_snocP, if_pos rfl]
  have dis : ∀ i, i < qs.length → ∀ y ∈ obl (us.getD i default), y ∉ obl pv := fun i hi y hy => by
    have := h.disj i qs.length (by simp; omega) (by simp) (by omega) y (by rw [o1 i hi]; exact hy)
    rw [h.lastGet] at this; exact this
  have mem : ∀ i, i < qs.length → ∀ y ∈ obl (us.getD i default), y ∈ fpG (.slice (some ⟨g, 0, none⟩) (qs.length + 1) cap) (us ++ [pv]) := fun i hi y hy => mem_fpG.2 (.inr ⟨i, by simp; omega, by rw [o1 i hi]; exact hy⟩)
  refine ⟨by simp [hul], ?_, fun i hi => ?_, fun i hi y hy => ?_, fun i j hi hj hne y hy => ?_⟩
  · rcases hh.row.2 with ⟨h0, _⟩ | ⟨g', cap', cur, hv, hb', hcur, hc, hm, hs, ht⟩
    · cases h0
    · simp only [Value.slice.injEq, Option.some.injEq, Addr.mk.injEq, and_true] at hv
      obtain ⟨rfl, _, rfl⟩ := hv
      have h4 : w4.heap[g]? = some (.cells cur 39 (0, 0)) := (hg.block g hgg hgn).trans hcur
      have hcs : (w4.setCell ⟨g, qs.length * 2 + 1, none⟩ x).heap[g]? = some (.cells (cur.setIfInBounds (qs.length * 2 + 1) x) 39 (0, 0)) := by
        unfold World.setCell
        simp only [Array.getElem?_modify, h4]
        simp
      have hfl := flatP_len (ps := qs) (vs := us) hul
      refine ⟨by rw [flat_last hul]; simp [hfl]; omega, .inr ⟨g, cap, _, by simp, hb', hcs, by simpa using hc, hm, by simp [hs], ?_⟩⟩
      rw [flat_last hul] at ht ⊢
      rw [Array.toList_setIfInBounds, List.take_set]
      have hn1 : (qs ++ [(d, l')]).length = (qs ++ [(d, l)]).length := by simp
      rw [hn1, ht, List.set_append_right _ _ (by omega), hfl, show qs.length * 2 + 1 - qs.length * 2 = 1 by omega]
      rfl
  · simp at hi
    by_cases e : i = qs.length
    · subst e
      rw [x2, q3]
      exact ho.off (offset1 _ _ _ _) (fun y hy hm => by simp at hm; subst hm; exact hgx hy)
    · rw [o2 i (by omega), q2 i (by omega)]
      have h1 := hh.own i (by simp; omega)
      rw [o1 i (by omega), q1 i (by omega)] at h1
      refine (h1.off hg (dis i (by omega))).off (offset1 _ _ _ _) (fun y hy hm => by
        simp at hm; subst hm
        exact h.apart i (by simp; omega) y (by rw [o1 i (by omega)]; exact hy) rfl)
  · simp at hi
    intro hb'
    have hyg : g = y := by simpa [Value.ownBlock] using hb'
    subst hyg
    by_cases e : i = qs.length
    · subst e; rw [x2] at hy; exact hgx hy
    · rw [o2 i (by omega)] at hy
      exact h.apart i (by simp; omega) g (by rw [o1 i (by omega)]; exact hy) rfl
  · simp at hi hj
    by_cases ei : i = qs.length
    · subst ei
      rw [x2] at hy
      rw [o2 j (by omega)]
      intro hm
      rcases he y hy with h1 | h1
      · exact dis j (by omega) y hm h1
      · have := hlt y (mem j (by omega) y hm); omega
    · rw [o2 i (by omega)] at hy
      by_cases ej : j = qs.length
      · subst ej
        rw [x2]
        intro hm
        rcases he y hm with h1 | h1
        · exact dis i (by omega) y hy h1
        · have := hlt y (mem i (by omega) y hy); omega
      · rw [o2 j (by omega)]
        have := h.disj i j (by simp; omega) (by simp; omega) hne y (by rw [o1 i (by omega)]; exact hy)
        rw [o1 j (by omega)] at this
        exact this
/-- What of it is as it was while the last places are written on. -/
theorem GrP.lastKeep {w' w4 : World} {g cap : Nat} (h : GrP base w (.slice (some ⟨g, 0, none⟩) (qs.length + 1) cap) (qs ++ [(d, l)]) (us ++ [pv])) (hb : Below w.heap.size w w') (hg : Off (obl pv) w' w4) :
    w4.cell? ⟨g, qs.length * 2 + 1, none⟩ = some pv ∧ w4.frozen? ⟨g, qs.length * 2 + 1, none⟩ = false ∧ g < w4.heap.size := by
  obtain ⟨g', cap', hv, hl, _, c1, _, z1⟩ := (h.below hb).last
  simp only [Value.slice.injEq, Option.some.injEq, Addr.mk.injEq, and_true, true_and] at hv
  obtain ⟨rfl, rfl⟩ := hv
  have hk := hg.block g hl (fun hm => h.lastApart g hm rfl)
  exact ⟨by simp only [World.cell?, hk]; exact c1, by simp only [World.frozen?, hk]; exact z1, Nat.lt_of_lt_of_le hl hg.size⟩
end
end Go.Proofs.Ytkkmnegmghllpaa
