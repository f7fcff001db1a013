/- What the law of phrases says, in plain words: meeting back, good posts that meet, a phrase's places, near from both sides. No condition. -/
import Derived.Test.YtkkmnegmghllpaaPhr
import Derived.Test.YtkkmnegmghllpaaNearS
import Derived.Test.YtkkmnegmghllpaaMeetQ
import Derived.Test.YtkkmnegmghllpaaDrawX9
namespace Go.Proofs.Ytkkmnegmghllpaa
open Go.ChangeShapes Go.WideShapes Go.ChangeAt Go.RowKit Go.Deep
set_option linter.unusedVariables false

theorem nrP_sym {n m y : Int} (h : nrP n m y) : nrP m n y := ⟨fun e => h.1 e.symm, h.2.2, h.2.1⟩
theorem nrL_sym {a b : List Int} {y : Int} (h : NrL a b y) : NrL b a y := by
  obtain ⟨n, hn, m, hm, h⟩ := h
  exact ⟨m, hm, n, hn, nrP_sym h⟩
theorem nrIs_sym {ds : List ByteArray} {a b : ByteArray} {y : Int} {n : Nat} {l : List Int} (h : NrIs ds a b y n l) : NrIs ds b a y n l := by
  induction h with
  | zero => exact .zero
  | yes _ hd ih => exact .yes ih (nrL_sym hd)
  | no _ hd ih => exact .no ih (fun h => hd (nrL_sym h))
theorem neB_sym (ds : List ByteArray) (a b : ByteArray) (y : Int) : neB ds a b y = neB ds b a y := by
  unfold neB
  cases docsB ds <;> cases wdB a <;> cases wdB b <;> rfl
theorem neIs_sym {ds : List ByteArray} {a b : ByteArray} {y : Int} {A : List Int} (h : NeIs ds a b y A) : NeIs ds b a y A := by
  rcases h with ⟨h1, h2⟩ | ⟨h1, h2⟩
  · exact .inl ⟨by rw [neB_sym]; exact h1, nrIs_sym h2⟩
  · exact .inr ⟨by rw [neB_sym]; exact h1, h2⟩
theorem pw_of : ∀ (l : List Int), (∀ i, i + 1 < l.length → l.getD i 0 < l.getD (i + 1) 0) → l.Pairwise (fun x y => x < y)
  | [], _ => .nil
  | a :: l, h => by
    have ih := pw_of l (fun i hi => by simpa using h (i + 1) (by simp; omega))
    refine List.pairwise_cons.2 ⟨?_, ih⟩
    cases l with
    | nil => simp
    | cons b l =>
      have hab : a < b := by simpa using h 0 (by simp)
      intro c hc
      rcases List.mem_cons.1 hc with rfl | hc
      · exact hab
      · exact Int.lt_trans hab ((List.pairwise_cons.1 ih).1 c hc)
theorem of_pw {l : List Int} (h : l.Pairwise (fun x y => x < y)) (i : Nat) (hi : i + 1 < l.length) : l.getD i 0 < l.getD (i + 1) 0 := by
  have := List.pairwise_iff_getElem.1 h i (i + 1) (by omega) hi (by omega)
  have h1 : i < l.length := by omega
  simpa [List.getD, hi, h1] using this
/-- Good posts, but for how many they are. -/
def GPw (ps : List Po) : Prop := (docsL ps).Pairwise (fun x y => x < y) ∧ ∀ p ∈ ps, (0 ≤ p.1 ∧ p.1 ≤ 11) ∧ p.2 ≠ [] ∧ p.2.Pairwise (fun x y => x < y) ∧ ∀ n ∈ p.2, 0 ≤ n ∧ n ≤ 19
theorem gpw_of {ps : List Po} (h : GoodP ps) : GPw ps := by
  obtain ⟨h1, h2, h3⟩ := h
  refine ⟨pw_of _ (fun i hi => ?_), fun p hp => ?_⟩
  · rw [docsL_getD, docsL_getD]; exact h3 i (by simpa [docsL] using hi)
  · obtain ⟨i, hi, rfl⟩ := List.mem_iff_getElem.1 hp
    have h4 := h2 i hi
    rw [show ps.getD i default = ps[i] by simp [List.getD, hi]] at h4
    refine ⟨h4.1, fun e => h4.2.1 (by rw [e]; rfl), pw_of _ h4.2.2.2, fun n hn => ?_⟩
    obtain ⟨j, hj, e⟩ := mem_getD.1 hn
    rw [← e]; exact h4.2.2.1 j hj
theorem of_gpw {ps : List Po} (h : GPw ps) (hl : ps.length ≤ 12) : GoodP ps := by
  refine ⟨hl, fun i hi => ?_, fun i hi => ?_⟩
  · obtain ⟨a, b, c, d⟩ := h.2 _ (getD_memL ps i hi)
    exact ⟨a, fun e => b (List.eq_nil_of_length_eq_zero e), fun j hj => d _ (mem_getD.2 ⟨j, hj, rfl⟩), fun j hj => of_pw c j hj⟩
  · have := of_pw h.1 i (by simpa [docsL] using hi)
    rwa [docsL_getD, docsL_getD] at this
theorem meet_mem {a b : List Po} {y : Int} {p : Po} : p ∈ meetP a b y ↔ ∃ q ∈ a, keepP q.2 (plcs b q.1) y ≠ [] ∧ p = (q.1, keepP q.2 (plcs b q.1) y) := by
  unfold meetP
  rw [List.mem_flatMap]
  constructor
  · rintro ⟨q, hq, hp⟩
    unfold meet1 at hp
    split at hp
    · simp at hp
    · rename_i hk
      exact ⟨q, hq, hk, by simpa using hp⟩
  · rintro ⟨q, hq, hk, rfl⟩
    exact ⟨q, hq, by unfold meet1; rw [if_neg hk]; simp⟩
theorem meet_sub (b : List Po) (y : Int) : ∀ a : List Po, (docsL (meetP a b y)).Sublist (docsL a)
  | [] => by simp [meetP, docsL]
  | p :: a => by
    have ih := meet_sub b y a
    have e : meetP (p :: a) b y = meet1 p b y ++ meetP a b y := by simp [meetP]
    rw [e]
    unfold meet1
    split
    · exact .cons _ ih
    · exact .cons_cons _ ih
theorem meet_gpw {a : List Po} (h : GPw a) (b : List Po) (y : Int) : GPw (meetP a b y) := by
  refine ⟨h.1.sublist (meet_sub b y a), fun p hp => ?_⟩
  obtain ⟨q, hq, hk, rfl⟩ := meet_mem.1 hp
  obtain ⟨a1, a2, a3, a4⟩ := h.2 q hq
  exact ⟨a1, hk, a3.filter _, fun n hn => a4 n (List.mem_filter.1 hn).1⟩
theorem meet_good {a : List Po} (h : GoodP a) (b : List Po) (y : Int) : GoodP (meetP a b y) :=
  of_gpw (meet_gpw (gpw_of h) b y) (Nat.le_trans (meetP_len b y a) h.1)
theorem plcs_own : ∀ {a : List Po}, (docsL a).Pairwise (fun x y => x < y) → ∀ q ∈ a, plcs a q.1 = q.2
  | [], _, q, hq => by simp at hq
  | p :: a, h, q, hq => by
    have h' : (∀ x ∈ docsL a, p.1 < x) ∧ (docsL a).Pairwise (fun x y => x < y) := List.pairwise_cons.1 h
    rcases List.mem_cons.1 hq with rfl | hq
    · simp [plcs]
    · have h1 : p.1 < q.1 := h'.1 q.1 (List.mem_map.2 ⟨q, hq, rfl⟩)
      simp only [plcs, if_neg (Int.ne_of_lt h1)]
      exact plcs_own h'.2 q hq
theorem plcs_has {d n : Int} : ∀ {a : List Po}, n ∈ plcs a d → ∃ q ∈ a, q.1 = d ∧ q.2 = plcs a d
  | [], h => by simp [plcs] at h
  | p :: a, h => by
    by_cases e : p.1 = d
    · exact ⟨p, by simp, e, by simp [plcs, e]⟩
    · simp only [plcs, if_neg e] at h ⊢
      obtain ⟨q, h1, h2, h3⟩ := plcs_has h
      exact ⟨q, by simp [h1], h2, h3⟩
theorem meet_docs {a b : List Po} (ha : GPw a) (y d : Int) : d ∈ docsL (meetP a b y) ↔ ∃ n, n ∈ plcs a d ∧ n + y ∈ plcs b d := by
  constructor
  · intro h
    obtain ⟨p, hp, rfl⟩ := List.mem_map.1 h
    obtain ⟨q, hq, hk, rfl⟩ := meet_mem.1 hp
    obtain ⟨n, hn⟩ := List.exists_mem_of_ne_nil _ hk
    obtain ⟨h1, h2⟩ := List.mem_filter.1 hn
    exact ⟨n, by rw [plcs_own ha.1 q hq]; exact h1, of_decide_eq_true h2⟩
  · rintro ⟨n, h1, h2⟩
    obtain ⟨q, hq, hd, h3⟩ := plcs_has h1
    refine List.mem_map.2 ⟨(q.1, keepP q.2 (plcs b q.1) y), meet_mem.2 ⟨q, hq, ?_, rfl⟩, hd⟩
    have : n ∈ keepP q.2 (plcs b q.1) y := List.mem_filter.2 ⟨by rw [h3]; exact h1, decide_eq_true (by rw [hd]; exact h2)⟩
    intro e; rw [e] at this; simp at this
theorem int_uniq : ∀ (A B : List Int), A.Pairwise (fun x y => x < y) → B.Pairwise (fun x y => x < y) → (∀ x, x ∈ A ↔ x ∈ B) → A = B
  | [], [], _, _, _ => rfl
  | [], b :: B, _, _, h => by have := (h b).2 (by simp); simp at this
  | a :: A, [], _, _, h => by have := (h a).1 (by simp); simp at this
  | a :: A, b :: B, hA, hB, h => by
    obtain ⟨a1, a2⟩ := List.pairwise_cons.1 hA
    obtain ⟨b1, b2⟩ := List.pairwise_cons.1 hB
    have hab : a = b := by
      have h1 := (h a).1 (by simp)
      have h2 := (h b).2 (by simp)
      simp only [List.mem_cons] at h1 h2
      rcases h1 with h1 | h1
      · exact h1
      · rcases h2 with h2 | h2
        · exact h2.symm
        · have := b1 a h1; have := a1 b h2; omega
    subst hab
    rw [int_uniq A B a2 b2 (fun x => ?_)]
    constructor
    · intro hx
      have h1 := (h x).1 (by simp [hx])
      simp only [List.mem_cons] at h1
      rcases h1 with h1 | h1
      · have := a1 x hx; omega
      · exact h1
    · intro hx
      have h1 := (h x).2 (by simp [hx])
      simp only [List.mem_cons] at h1
      rcases h1 with h1 | h1
      · have := b1 x hx; omega
      · exact h1
theorem meet_back {a b : List Po} (ha : GoodP a) (hb : GoodP b) (y : Int) : (meetP b a (-y)).length = (meetP a b y).length := by
  have ga := gpw_of ha
  have gb := gpw_of hb
  have e : docsL (meetP b a (-y)) = docsL (meetP a b y) := by
    refine int_uniq _ _ (meet_gpw gb a (-y)).1 (meet_gpw ga b y).1 (fun d => ?_)
    rw [meet_docs gb, meet_docs ga]
    constructor
    · rintro ⟨n, h1, h2⟩
      exact ⟨n + -y, h2, by rw [show n + -y + y = n by omega]; exact h1⟩
    · rintro ⟨n, h1, h2⟩
      exact ⟨n + y, h2, by rw [show n + y + -y = n by omega]; exact h1⟩
  have := congrArg List.length e
  simpa [docsL] using this
/-- Where a phrase stands its words stand one behind the other. -/
theorem ph_at (ds ws : List ByteArray) : ∀ k, ∀ p ∈ phK ds ws k, (0 ≤ p.1 ∧ p.1 < (ds.length : Int)) ∧ ∀ n ∈ p.2, ∀ j : Nat, j ≤ k → n + (j : Int) ∈ plK (docAt ds p.1.toNat) (ws.getD j ByteArray.empty) (docAt ds p.1.toNat).length
  | 0, p, hp => by
    obtain ⟨a, b, c, d⟩ := psK_doc ds (ws.getD 0 ByteArray.empty) ds.length p hp
    refine ⟨⟨a, b⟩, fun n hn j hj => ?_⟩
    have : j = 0 := by omega
    subst this
    rw [d] at hn
    simpa using hn
  | k + 1, p, hp => by
    obtain ⟨q, hq, hk, rfl⟩ := meet_mem.1 hp
    obtain ⟨h1, h2⟩ := ph_at ds ws k q hq
    refine ⟨h1, fun n hn j hj => ?_⟩
    obtain ⟨h3, h4⟩ := List.mem_filter.1 hn
    by_cases e : j = k + 1
    · subst e
      have h5 := of_decide_eq_true h4
      have h6 := plcs_psK ds (ws.getD (k + 1) ByteArray.empty) ds.length q.1.toNat (by omega)
      rw [show ((q.1.toNat : Nat) : Int) = q.1 by omega] at h6
      rw [h6] at h5
      simpa using h5
    · exact h2 n h3 j (by omega)
theorem ph_take {ds ws : List ByteArray} (hw : 1 ≤ ws.length) {p : Po} (hp : p ∈ phK ds ws (ws.length - 1)) {n : Int} (hn : n ∈ p.2) :
    ∃ i : Nat, n = (i : Int) ∧ i + ws.length ≤ (docAt ds p.1.toNat).length ∧ ((docAt ds p.1.toNat).drop i).take ws.length = ws := by
  obtain ⟨h1, h2⟩ := ph_at ds ws (ws.length - 1) p hp
  have h0 := h2 n hn 0 (by omega)
  have hb := plK_bd _ _ _ _ h0
  obtain ⟨i, rfl⟩ : ∃ i : Nat, n = (i : Int) := ⟨n.toNat, by omega⟩
  have hj : ∀ j, j < ws.length → i + j < (docAt ds p.1.toNat).length ∧ (docAt ds p.1.toNat).getD (i + j) ByteArray.empty = ws.getD j ByteArray.empty := fun j hj => by
    have h3 := h2 (i : Int) hn j (by omega)
    rw [show (i : Int) + (j : Int) = ((i + j : Nat) : Int) by omega] at h3
    exact (plK_mem _ _ _ _).1 h3
  have hl : i + ws.length ≤ (docAt ds p.1.toNat).length := by have := (hj (ws.length - 1) (by omega)).1; omega
  refine ⟨i, rfl, hl, ?_⟩
  apply List.ext_getElem
  · simp; omega
  · intro j h3 h4
    have h5 := (hj j h4).2
    have h6 : i + j < (docAt ds p.1.toNat).length := by omega
    simp only [List.getElem_take, List.getElem_drop]
    simpa [List.getD, h4, h6] using h5
theorem phK_len (ds ws : List ByteArray) : ∀ k, (phK ds ws k).length ≤ (psK ds (ws.getD 0 ByteArray.empty) ds.length).length
  | 0 => Nat.le_refl _
  | k + 1 => Nat.le_trans (meetP_len _ _ _) (phK_len ds ws k)
end Go.Proofs.Ytkkmnegmghllpaa
