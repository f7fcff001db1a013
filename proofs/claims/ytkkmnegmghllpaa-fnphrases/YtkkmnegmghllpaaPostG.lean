/- Lists of posts that grow: a row of the call's own whose posts' places are rows of its own. No condition. -/
import Derived.Test.YtkkmnegmghllpaaPostL
namespace Go.Proofs.Ytkkmnegmghllpaa
open Go.ChangeShapes Go.WideShapes Go.ChangeAt Go.RowKit Go.Deep
set_option linter.unusedVariables false

theorem infoPo2 : (Try.prog.info? 39).map (fun i => (i.zero, i.size, i.bytes)) = some (some (.agg #[.int .i64 0, .slice none 0 0]), 2, 32) := by kernel_rfl
/-- The cells of posts. -/
def flatP : List Po → List Value → List Value
  | p :: ps, v :: vs => .int .i64 p.1 :: v :: flatP ps vs
  | _, _ => []
theorem flatP_len : ∀ {ps : List Po} {vs : List Value}, vs.length = ps.length → (flatP ps vs).length = ps.length * 2
  | [], [], _ => rfl
  | p :: ps, v :: vs, h => by
    have := flatP_len (ps := ps) (vs := vs) (by simpa using h)
    simp [flatP, this]; omega
theorem flatP_snoc : ∀ {ps : List Po} {vs : List Value} (p : Po) (v : Value), vs.length = ps.length → flatP (ps ++ [p]) (vs ++ [v]) = flatP ps vs ++ [.int .i64 p.1, v]
  | [], [], p, v, _ => rfl
  | q :: ps, u :: vs, p, v, h => by
    have := flatP_snoc (ps := ps) (vs := vs) p v (by simpa using h)
    simp [flatP, this]
theorem flatP_0 : ∀ {ps : List Po} {vs : List Value} {i : Nat}, vs.length = ps.length → i < ps.length → (flatP ps vs)[i * 2]? = some (.int .i64 (ps.getD i default).1)
  | p :: ps, v :: vs, 0, _, _ => rfl
  | p :: ps, v :: vs, i + 1, h, hi => by
    have := flatP_0 (ps := ps) (vs := vs) (i := i) (by simpa using h) (by simpa using hi)
    rw [show (i + 1) * 2 = i * 2 + 1 + 1 by omega]
    simpa [flatP, List.getD] using this
theorem flatP_1 : ∀ {ps : List Po} {vs : List Value} {i : Nat}, vs.length = ps.length → i < ps.length → (flatP ps vs)[i * 2 + 1]? = some (vs.getD i default)
  | p :: ps, v :: vs, 0, _, _ => rfl
  | p :: ps, v :: vs, i + 1, h, hi => by
    have := flatP_1 (ps := ps) (vs := vs) (i := i) (by simpa using h) (by simpa using hi)
    rw [show (i + 1) * 2 + 1 = i * 2 + 1 + 1 + 1 by omega]
    simpa [flatP, List.getD] using this
/-- A list of posts that grows. -/
structure GrP (base : Nat) (w : World) (v : Value) (ps : List Po) (vs : List Value) : Prop where
  len : vs.length = ps.length
  row : w.ownsRow base 39 2 v ps.length (flatP ps vs)
  own : ∀ i, i < ps.length → OwnS w base 3 (vs.getD i default) (ps.getD i default).2.length (intsV (ps.getD i default).2)
  apart : ∀ i, i < ps.length → ∀ x ∈ obl (vs.getD i default), v.ownBlock ≠ some x
  disj : ∀ i j, i < ps.length → j < ps.length → i ≠ j → ∀ x ∈ obl (vs.getD i default), x ∉ obl (vs.getD j default)
/-- The blocks that it may be written in. -/
def fpG (v : Value) (vs : List Value) : List Nat := v.ownBlock.toList ++ vs.flatMap obl
theorem mem_fpG {v : Value} {vs : List Value} {x : Nat} : x ∈ fpG v vs ↔ v.ownBlock = some x ∨ ∃ i, i < vs.length ∧ x ∈ obl (vs.getD i default) := by
  simp only [fpG, List.mem_append, Option.mem_toList, List.mem_flatMap]
  constructor
  · rintro (h | ⟨u, hu, hx⟩)
    · exact .inl h
    · obtain ⟨i, hi, rfl⟩ := List.mem_iff_getElem.1 hu
      exact .inr ⟨i, hi, by simpa [List.getD, hi] using hx⟩
  · rintro (h | ⟨i, hi, hx⟩)
    · exact .inl h
    · exact .inr ⟨vs.getD i default, by simp [List.getD, hi], hx⟩
theorem GrP.nil (base : Nat) (w : World) : GrP base w (.slice none 0 0) [] [] := ⟨rfl, World.ownsRow_nil _ _ _ _, fun i hi => by simp at hi, fun i hi => by simp at hi, fun i j hi => by simp at hi⟩
theorem GrP.lt {base : Nat} {w : World} {v : Value} {ps : List Po} {vs : List Value} (h : GrP base w v ps vs) : ∀ x ∈ fpG v vs, base ≤ x ∧ x < w.heap.size := by
  intro x hx
  rcases mem_fpG.1 hx with h1 | ⟨i, hi, h1⟩
  · exact h.row.lt x h1
  · exact own_lt (h.own i (by rw [← h.len]; exact hi)) x h1
theorem ownsRow_off {w w' : World} {base : Nat} {e : TypeId} {size : Nat} {v : Value} {n : Nat} {xs : List Value} {S : List Nat} (h : w.ownsRow base e size v n xs) (hb : Off S w w') (hd : ∀ x, v.ownBlock = some x → x ∉ S) : w'.ownsRow base e size v n xs := by
  refine ⟨h.1, ?_⟩
  rcases h.2 with h2 | ⟨g, cap, cur, rfl, h3, h4, h5⟩
  · exact .inl h2
  · exact .inr ⟨g, cap, cur, rfl, h3, (hb.block g (Array.getElem?_eq_some_iff.1 h4).1 (hd g rfl)).trans h4, h5⟩
theorem GrP.off {base : Nat} {w w' : World} {v : Value} {ps : List Po} {vs : List Value} {S : List Nat} (h : GrP base w v ps vs) (hb : Off S w w') (hd : ∀ x ∈ fpG v vs, x ∉ S) : GrP base w' v ps vs :=
  ⟨h.len, ownsRow_off h.row hb fun x hx => hd x (mem_fpG.2 (.inl hx)), fun i hi => (h.own i hi).off hb fun x hx => hd x (mem_fpG.2 (.inr ⟨i, by rw [h.len]; exact hi, hx⟩)), h.apart, h.disj⟩
theorem GrP.below {base : Nat} {w w' : World} {v : Value} {ps : List Po} {vs : List Value} (h : GrP base w v ps vs) (hb : Below w.heap.size w w') : GrP base w' v ps vs := h.off (Off.of (S := []) hb) (by simp)
theorem GrP.mono {base base' : Nat} {w : World} {v : Value} {ps : List Po} {vs : List Value} (h : GrP base w v ps vs) (hb : base' ≤ base) : GrP base' w v ps vs := by
  refine ⟨h.len, ⟨h.row.1, ?_⟩, fun i hi => own_mono (h.own i hi) hb, h.apart, h.disj⟩
  rcases h.row.2 with h2 | ⟨g, cap, cur, h1, h3, h4⟩
  · exact .inl h2
  · exact .inr ⟨g, cap, cur, h1, Nat.le_trans hb h3, h4⟩
theorem GrP.slice {base : Nat} {w : World} {v : Value} {ps : List Po} {vs : List Value} (h : GrP base w v ps vs) : ∃ a c, v = .slice a ps.length c := by
  rcases h.row.2 with ⟨rfl, h0⟩ | ⟨g, cap, cur, rfl, _⟩
  · exact ⟨none, 0, by rw [h0]⟩
  · exact ⟨_, cap, rfl⟩
theorem getD_snocV (vs : List Value) (v : Value) (i : Nat) : (vs ++ [v]).getD i default = if i = vs.length then v else if i < vs.length then vs.getD i default else default := by
  simp only [List.getD_eq_getElem?_getD]
  by_cases h1 : i < vs.length
  · rw [List.getElem?_append_left h1, if_neg (by omega), if_pos h1]
  · by_cases h2 : i = vs.length
    · subst h2; simp
    · rw [if_neg h2, if_neg h1, List.getElem?_eq_none (by simp; omega)]; rfl
theorem getD_snocP (ps : List Po) (p : Po) (i : Nat) : (ps ++ [p]).getD i default = if i = ps.length then p else if i < ps.length then ps.getD i default else default := by
  simp only [List.getD_eq_getElem?_getD]
  by_cases h1 : i < ps.length
  · rw [List.getElem?_append_left h1, if_neg (by omega), if_pos h1]
  · by_cases h2 : i = ps.length
    · subst h2; simp
    · rw [if_neg h2, if_neg h1, List.getElem?_eq_none (by simp; omega)]; rfl
/-- A post more at the end. -/
theorem GrP.snoc {base : Nat} {w w' : World} {v v' pv : Value} {ps : List Po} {vs : List Value} {d : Int} {l : List Int} (h : GrP base w v ps vs) (hp : OwnS w base 3 pv l.length (intsV l))
    (hd : ∀ x ∈ obl pv, x ∉ fpG v vs) (hr : w'.ownsRow base 39 2 v' (ps.length + 1) (flatP ps vs ++ [.int .i64 d, pv])) (hg : w.grownBy w' v.ownBlock) (hv : v'.ownBlock = v.ownBlock ∨ v'.ownBlock = some w.heap.size) :
    GrP base w' v' (ps ++ [(d, l)]) (vs ++ [pv]) := by
  have ho : Off v.ownBlock.toList w w' := ⟨hg.os, hg.tape, hg.output, hg.size, fun k hk hn => hg.block k hk (fun e => hn (by rw [← e]; simp))⟩
  have h1 : ∀ i, i < ps.length → ∀ x ∈ obl (vs.getD i default), x ∉ v.ownBlock.toList := fun i hi x hx hm => h.apart i hi x hx (by simpa using hm)
  have h2 : ∀ x ∈ obl pv, x ∉ v.ownBlock.toList := fun x hx hm => hd x hx (mem_fpG.2 (.inl (by simpa using hm)))
  have hl := h.len
  have g1 : ∀ i, i < ps.length → (vs ++ [pv]).getD i default = vs.getD i default := fun i hi => by rw [getD_snocV, if_neg (by omega), if_pos (by omega)]
  have g2 : (vs ++ [pv]).getD ps.length default = pv := by rw [getD_snocV, if_pos hl.symm]
  have p1 : ∀ i, i < ps.length → (ps ++ [(d, l)]).getD i default = ps.getD i default := fun i hi => by rw [getD_snocP, if_neg (by omega), if_pos hi]
  have p2 : (ps ++ [(d, l)]).getD ps.length default = (d, l) := by rw [getD_snocP, if_pos rfl]
  refine ⟨by simp [hl], ?_, fun i hi => ?_, fun i hi x hx => ?_, fun i j hi hj hne x hx => ?_⟩
  · rw [flatP_snoc _ _ hl]; simpa using hr
  · simp at hi
    by_cases e : i = ps.length
    · subst e; rw [g2, p2]; exact hp.off ho h2
    · rw [g1 i (by omega), p1 i (by omega)]; exact (h.own i (by omega)).off ho (h1 i (by omega))
  · simp at hi
    have hlt : x < w.heap.size := by
      by_cases e : i = ps.length
      · subst e; rw [g2] at hx; exact (own_lt hp x hx).2
      · rw [g1 i (by omega)] at hx; exact (own_lt (h.own i (by omega)) x hx).2
    rcases hv with hv | hv
    · rw [hv]
      by_cases e : i = ps.length
      · subst e; rw [g2] at hx; exact fun he => h2 x hx (by simpa using he)
      · rw [g1 i (by omega)] at hx; exact h.apart i (by omega) x hx
    · rw [hv]; intro he; cases he; omega
  · simp at hi hj
    by_cases ei : i = ps.length
    · subst ei
      rw [g2] at hx
      rw [g1 j (by omega)]
      exact fun hm => hd x hx (mem_fpG.2 (.inr ⟨j, by omega, hm⟩))
    · rw [g1 i (by omega)] at hx
      by_cases ej : j = ps.length
      · subst ej
        rw [g2]
        exact fun hm => hd x hm (mem_fpG.2 (.inr ⟨i, by omega, hx⟩))
      · rw [g1 j (by omega)]
        exact h.disj i j (by omega) (by omega) hne x hx
/-- As an answer's own. -/
theorem GrP.owns {base : Nat} {w : World} {v : Value} {ps : List Po} {vs : List Value} (h : GrP base w v ps vs) : OwnsP base w v ps (fun i => vs.getD i default) := by
  rcases h.row.2 with ⟨rfl, h0⟩ | ⟨g, cap, cur, rfl, hb, hcur, hc, hm, hs, ht⟩
  · exact .inl ⟨h0, none, 0, rfl⟩
  · rcases Nat.eq_zero_or_pos ps.length with h0 | h0
    · exact .inl ⟨h0, _, cap, by rw [h0]⟩
    · refine .inr ⟨h0, g, cap, rfl, ⟨⟨hb, (Array.getElem?_eq_some_iff.1 hcur).1, fun j hj => ?_, fun i hi => by simp [World.frozen?, hcur]⟩, fun i hi => (OwnA.ofInts (h.own i hi)).1, fun i hi hm => ?_, fun i j hi hj hne x hx hm => ?_⟩⟩
      · have h1 : cur[j]? = (flatP ps vs)[j]? := by rw [← ht, List.getElem?_take_of_lt hj, Array.getElem?_toList]
        rw [cell_of_heap hcur, h1]
        dsimp only
        by_cases e : j % 2 = 0
        · have h3 := flatP_0 h.len (show j / 2 < ps.length by omega)
          rw [show j / 2 * 2 = j by omega] at h3
          rw [if_pos e]; exact h3
        · have h3 := flatP_1 h.len (show j / 2 < ps.length by omega)
          rw [show j / 2 * 2 + 1 = j by omega] at h3
          rw [if_neg e]; exact h3
      · exact h.apart i hi g ((OwnA.ofInts (h.own i hi)).2 g hm) rfl
      · exact h.disj i j hi hj hne x ((OwnA.ofInts (h.own i hi)).2 x hx) ((OwnA.ofInts (h.own j hj)).2 x hm)
theorem GrP.at {base : Nat} {w : World} {v : Value} {ps : List Po} {vs : List Value} (h : GrP base w v ps vs) : PosAt w v ps := h.owns.at
/-- What is appended. -/
theorem news2 (W : World) (d : Int) (pv : Value) (tt : TypeId) : RowsAt (W.alloc (.cells #[.int .i64 d, pv] tt)) 2 (.slice (some ⟨W.heap.size, 0, none⟩) 1 1) 1 [.int .i64 d, pv] := by
  refine ⟨rfl, _, 1, rfl, Nat.le_refl _, by simp, .inr ⟨W.heap.size, 0, rfl, by simp, fun j u' hj => ?_⟩⟩
  match j, hj with
  | 0, hj => simp at hj; subst hj; simp [World.cell?_alloc_new]
  | 1, hj => simp at hj; subst hj; simp [World.cell?_alloc_new]
  | j + 2, hj => simp at hj
end Go.Proofs.Ytkkmnegmghllpaa
