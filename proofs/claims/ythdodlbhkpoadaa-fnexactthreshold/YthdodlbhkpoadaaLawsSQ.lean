/- Copies, sameness and marks of lists of lists of scores; how they come in. Condition: they lie in memory. -/
import Derived.Test.YthdodlbhkpoadaaLawsSR
namespace Go.Proofs.Ythdodlbhkpoadaa
open Go.ChangeShapes Go.WideShapes Go.ChangeAt Go.RowKit Go.Joins Go.Deep
set_option linter.unusedVariables false
attribute [local go_sem ↓] Go.wp_at_zero Go.wp_at_succ

/-- A copy under way: its first k rows. -/
def RInv (G : Nat) (w : World) (n k : Nat) (R : List (List Sc)) (xs : List Value) : Prop := w.ownsRow G 26 1 (.slice (some ⟨G, 0, none⟩) n n) n xs ∧
  (∀ j, j < k → OwnH (G + 1) w (xs.getD j default) (gR R j)) ∧ ∀ i j, i < k → j < k → i ≠ j → ∀ x ∈ hbl (xs.getD i default), x ∉ hbl (xs.getD j default)
theorem RInv.below {G n k : Nat} {w w' : World} {R : List (List Sc)} {xs : List Value} (h : RInv G w n k R xs) (hb : Below w.heap.size w w') : RInv G w' n k R xs :=
  ⟨ownsRow_off h.1 (Off.of (S := []) hb) (by simp), fun j hj => (h.2.1 j hj).below hb, h.2.2⟩
theorem RInv.snoc {G n k N : Nat} {w : World} {R : List (List Sc)} {xs : List Value} (h : RInv G w n k R xs) (hk : k < n) {v : Value} (hv : OwnH N w v (gR R k)) (hN : G < N) (hnew : ∀ j, j < k → ∀ x ∈ hbl (xs.getD j default), x < N) :
    RInv G (w.setCell ⟨G, k, none⟩ v) n (k + 1) R (xs.set k v) := by
  obtain ⟨h1, h2, h3⟩ := h
  have hl : xs.length = n := by have := h1.1; omega
  have g0 : ∀ j, (xs.set k v).getD j default = if j = k then v else xs.getD j default := fun j => by
    rw [List.getD_eq_getElem?_getD, List.getElem?_set]
    by_cases e : k = j
    · subst e; simp [hl, hk]
    · simp [e, Ne.symm e, List.getD_eq_getElem?_getD]
  refine ⟨(World.ownsRow.stored h1 k v).1, fun j hj => ?_, fun i j hi hj hne x hx => ?_⟩
  · rw [g0]
    by_cases e : j = k
    · rw [if_pos e, e]
      exact (hv.mono (by omega)).off (off1 w G k v) (fun x hx hm => by simp at hm; have := (hv.lt x hx).1; omega)
    · rw [if_neg e]
      have h4 := h2 j (by omega)
      exact h4.off (off1 w G k v) (fun x hx hm => by simp at hm; have := (h4.lt x hx).1; omega)
  · rw [g0] at hx ⊢
    by_cases ei : i = k
    · subst ei
      rw [if_pos rfl] at hx
      rw [if_neg (Ne.symm hne)]
      intro hm
      have h5 := (hv.lt x hx).1
      have h6 := hnew j (by omega) x hm
      omega
    · rw [if_neg ei] at hx
      by_cases ej : j = k
      · subst ej
        rw [if_pos rfl]
        intro hm
        have h5 := (hv.lt x hm).1
        have h6 := hnew i (by omega) x hx
        omega
      · rw [if_neg ej]; exact h3 i j (by omega) (by omega) hne x hx
theorem RInv.done {G : Nat} {w : World} {R : List (List Sc)} {xs : List Value} (h : RInv G w R.length R.length R xs) : OwnRs G w (.slice (some ⟨G, 0, none⟩) R.length R.length) R xs := by
  obtain ⟨h1, h2, h3⟩ := h
  refine ⟨by have := h1.1; omega, h1, fun i hi => (h2 i hi).mono (by omega), fun i hi x hx hm => ?_, h3⟩
  simp [hbl, Value.ownBlock] at hm
  have := ((h2 i hi).lt x hx).1
  omega
set_option maxHeartbeats 3200000 in
set_option maxRecDepth 100000 in
theorem toScR (x : Value) (R : List (List Sc)) (w : World) (h : RwsAt w x R) (hl : R.length ≤ 1048576) (hs : ∀ r ∈ R, r.length ≤ 1048576) :
    Calls Try.prog 40 #[x] w fun e w' => ∃ a c vs, e = .returned (.slice a R.length c) ∧ OwnRs w.heap.size w' (.slice a R.length c) R vs ∧ Below w.heap.size w w' := by
  obtain ⟨w0, hmk, hown, kb0⟩ := makeR w R.length hl
  have HSM := hid hs
  have HF0 := hid hown
  clear hown hs
  rcases h with ⟨a0, c0, rfl, rfl⟩ | ⟨b, off, cap, rfl, hb, hcell⟩
  · simp only [List.length_nil] at hmk HF0
    have hmk' : (Instr.makeSlice 23 (.int .i64 0) (.int .i64 0)).run Try.prog w = .ok (.slice (some ⟨w.heap.size, 0, none⟩) 0 0) w0 := hmk
    have HD : Hid (OwnRs w.heap.size w0 (.slice (some ⟨w.heap.size, 0, none⟩) 0 0) [] []) := ⟨rfl, HF0.out, fun i hi => by simp at hi, fun i hi => by simp at hi, fun i j hi => by simp at hi⟩
    clear hmk
    go_enter Try.func40, Try.ntmps40
    go_wp2
    go_loopw [4] (fun i wr => i = .int .i64 0 ∧ wr = w0) (fun _ _ => 0)
    case atStart => exact ⟨rfl, rfl⟩
    case round =>
      obtain ⟨rfl, rfl⟩ := hrel
      go_wp2
      go_ret
      exact ⟨_, _, [], rfl, HD.out, kb0⟩
  · have HC := hid hcell
    clear hcell
    have hne : b ≠ w.heap.size := by omega
    have hne' : w.heap.size ≠ b := by omega
    obtain ⟨G, hG⟩ : ∃ G, G = w.heap.size := ⟨_, rfl⟩
    go_enter Try.func40, Try.ntmps40
    go_wp2
    rw [← hG] at hmk HF0 ⊢
    clear hmk
    go_loopw [4] (fun i wr => ∃ (k : Nat) (xs : List Value), k ≤ R.length ∧ i = .int .i64 k ∧ Hid (RInv G wr R.length k R xs) ∧ Below G w wr) (fun i _ => R.length - (intOf i).toNat)
    case atStart => exact ⟨0, _, Nat.zero_le _, rfl, ⟨HF0.out, fun j hj => by omega, fun i j hi => by omega⟩, by rw [hG]; exact kb0⟩
    case round =>
      obtain ⟨k, xs, hk, rfl, HI, kb⟩ := hrel
      have hgl : G < wr.heap.size := by
        rcases HI.out.1.2 with ⟨he, _⟩ | ⟨g', cap', cur, he, h3, h4, h5⟩
        · cases he
        · cases he; exact (Array.getElem?_eq_some_iff.1 h4).1
      by_cases hlt : k < R.length
      · obtain ⟨rv, r0, hrs⟩ := HC.out k hlt
        have r1 : wr.cell? ⟨b, off + k, none⟩ = some rv := (kb.cell (p := ⟨b, off + k, none⟩) (by rw [hG]; exact hb)).trans r0
        have kl := kb.size
        have hbr : b < wr.heap.size := by omega
        have hrb := hrs.below (by rw [← hG]; exact kb)
        have HE := toScS rv (gR R k) wr hrb (HSM.out _ (gR_mem hlt))
        obtain ⟨ra, rc, rfl⟩ := hrs.slice
        have hki : (k : Int) < (R.length : Int) := by omega
        have hk0 : (0 : Int) ≤ (k : Int) := by omega
        have hgb : G ≠ b := by omega
        have HPL : Hid (∀ j, j < k → ∀ x ∈ hbl (xs.getD j default), x < wr.heap.size) := fun j hj x hx => ((HI.out.2.1 j hj).lt x hx).2
        have HGG := hid hG
        clear hrs r0 hrb hG
        go_wp2_with fail
        refine HE.mono ?_
        rintro e w1 ⟨qa, qc, rfl, ho1, hb1⟩
        have HI1 := hid (HI.out.below hb1)
        have HIN := hid (HI1.out.snoc hlt ho1 hgl HPL.out)
        have hc0 := World.ownsRow.cellAt HI1.out.1 k (by omega)
        have hll : xs[k]? = some (xs.getD k default) := by have := HI1.out.1.1; simp [List.getD, show k < xs.length by omega]
        rw [hll] at hc0
        have hf0 := World.ownsRow.frozenAt HI1.out.1 k
        have hgl1 : G < w1.heap.size := by have := hb1.size; omega
        have HKN : Hid (Below G w (w1.setCell ⟨G, k, none⟩ (.slice qa (gR R k).length qc))) := (kb.trans (hb1.mono (Nat.le_of_lt hgl))).trans ((off1 w1 G k _).below (by omega) (fun g hg => by simp at hg; omega))
        generalize xs.getD k default = vv at *
        clear hb1 HE HI HI1 ho1 r1 hll
        go_wp2
        exact ⟨⟨k + 1, _, by omega, by go_num, HIN.out, HKN.out⟩, by simp [intOf]; omega⟩
      · have hke : k = R.length := by omega
        subst hke
        have HD := hid HI.out.done
        have hki : ¬ (R.length : Int) < (R.length : Int) := by omega
        subst hG
        have HK2 := hid kb
        go_wp2
        go_ret
        first | exact ⟨_, _, xs, rfl, HD.out, HK2.out⟩ | exact ⟨_, _, rfl, ⟨xs, HD.out⟩, HK2.out⟩
set_option maxHeartbeats 3200000 in
set_option maxRecDepth 100000 in
theorem eqScR (x y : Value) (R : List (List Sc)) (w : World) (hx : RwsAt w x R) (hy : RwsAt w y R) (hl : R.length ≤ 1048576) (hs : ∀ r ∈ R, r.length ≤ 1048576) :
    Calls Try.prog 41 #[x, y] w fun e w' => e = .returned (.bool true) ∧ Below w.heap.size w w' := by
  have HSM := hid hs
  clear hs
  by_cases h0 : R = []
  · subst h0
    obtain ⟨a1, c1, rfl⟩ := hx.slice
    obtain ⟨a2, c2, rfl⟩ := hy.slice
    clear hx hy
    simp only [List.length_nil]
    go_enter Try.func41, Try.ntmps41
    go_wp2
    go_loopw [5] (fun i wr => i = .int .i64 0 ∧ Below w.heap.size w wr) (fun _ _ => 0)
    case atStart => exact ⟨rfl, by go_grown⟩
    case round =>
      obtain ⟨rfl, kb⟩ := hrel
      go_wp2
      go_ret
      exact ⟨rfl, kb⟩
  · rcases hx with ⟨_, _, _, e⟩ | ⟨b1, off1, cap1, rfl, hb1, hc1⟩
    · exact absurd e h0
    rcases hy with ⟨_, _, _, e⟩ | ⟨b2, off2, cap2, rfl, hb2, hc2⟩
    · exact absurd e h0
    have HC1 := hid hc1
    have HC2 := hid hc2
    have hll : ((R.length : Int) != (R.length : Int)) = false := by simp
    clear hc1 hc2 h0
    go_enter Try.func41, Try.ntmps41
    go_wp2
    go_loopw [5] (fun i wr => ∃ k : Nat, k ≤ R.length ∧ i = .int .i64 k ∧ Below w.heap.size w wr) (fun i _ => R.length - (intOf i).toNat)
    case atStart => exact ⟨0, Nat.zero_le _, rfl, by go_grown⟩
    case round =>
      obtain ⟨k, hk, rfl, kb⟩ := hrel
      have kl := kb.size
      by_cases hlt : k < R.length
      · obtain ⟨v1, p0, s1⟩ := HC1.out k hlt
        obtain ⟨v2, q0, s2⟩ := HC2.out k hlt
        have p1 : wr.cell? ⟨b1, off1 + k, none⟩ = some v1 := (kb.cell (p := ⟨b1, off1 + k, none⟩) hb1).trans p0
        have q1 : wr.cell? ⟨b2, off2 + k, none⟩ = some v2 := (kb.cell (p := ⟨b2, off2 + k, none⟩) hb2).trans q0
        have hb1r : b1 < wr.heap.size := by omega
        have hb2r : b2 < wr.heap.size := by omega
        have HE := fun W (hW : Below wr.heap.size wr W) => eqScS v1 v2 (gR R k) W ((s1.below kb).below hW) ((s2.below kb).below hW) (HSM.out _ (gR_mem hlt))
        obtain ⟨A1, C1, rfl⟩ := s1.slice
        obtain ⟨A2, C2, rfl⟩ := s2.slice
        have hki : (k : Int) < (R.length : Int) := by omega
        have hk0 : (0 : Int) ≤ (k : Int) := by omega
        clear p0 q0 s1 s2
        generalize (gR R k).length = m at *
        go_upto_region 6 with fail
        go_region_held3 (fun w' => w'.cell? ⟨b1, off1 + k, none⟩ = some (.slice A1 m C1) ∧ w'.cell? ⟨b2, off2 + k, none⟩ = some (.slice A2 m C2)) (go_keep)
          (first
            | (go_at_call 38; refine (HE _ (Below.drew (Below.refl _ _))).mono ?_; rintro e w3 ⟨rfl, hx3⟩; have hp3 := kept hx3 b1 (by simp; omega); have hq3 := kept hx3 b2 (by simp; omega); have k3 : Below w.heap.size w w3 := (by exact kb.trans ((Below.trans ((Below.refl wr.heap.size wr).drew) (hx3.mono (by simp))).mono kl)); clear hx3))
        all_goals
          go_wp2_with fail
          exact ⟨⟨k + 1, by omega, by go_num, k3⟩, by simp [intOf]; omega⟩
      · have hke : k = R.length := by omega
        subst hke
        go_wp2
        go_ret
        exact ⟨rfl, kb⟩
set_option maxHeartbeats 3200000 in
set_option maxRecDepth 100000 in
theorem markScR (base q : Nat) (v : Value) (R : List (List Sc)) (vs : List Value) (w : World) (h : OwnRs base w v R vs) (hn : ((q + 2 * sumR R : Nat) : Int) < 10000000000000) (hR : R.length ≤ 1048576) :
    Calls Try.prog 42 #[v, .int .i64 q] w fun e w' => e = .returned (.int .i64 ((q + 2 * sumR R : Nat) : Int)) ∧ Off (fpR v vs) w w' := by
  by_cases h0 : R.length = 0
  · have hR0 : R = [] := List.eq_nil_of_length_eq_zero h0
    subst hR0
    have hk : ((q + 2 * sumR [] : Nat) : Int) = (q : Int) := rfl
    rw [hk]
    obtain ⟨a, c, rfl⟩ := h.slice
    have hli : (([] : List (List Sc)).length) = 0 := rfl
    rw [hli]
    have HO : Hid (Off (fpR (.slice a 0 c) vs) w w) := Off.refl _ _
    rw [hli] at *
    generalize fpR (.slice a 0 c) vs = S at *
    clear h hn hk hli hR h0
    go_enter Try.func42, Try.ntmps42
    go_wp2
    go_loopw [1, 5] (fun r i wr => i = .int .i64 0 ∧ r = .int .i64 q ∧ wr = w) (fun _ _ _ => 0)
    case atStart => exact ⟨rfl, rfl, rfl⟩
    case round =>
      obtain ⟨rfl, rfl, hw⟩ := hrel
      subst wr
      go_wp2
      go_ret
      exact ⟨rfl, HO.out⟩
  · have H := hid h
    have HNN := hid hn
    obtain ⟨g, cap, hv⟩ : ∃ g cap, v = .slice (some ⟨g, 0, none⟩) R.length cap := by
      rcases h.row.2 with ⟨_, h2⟩ | ⟨g, cap, cur, he, _⟩
      · exact absurd h2 h0
      · exact ⟨g, cap, he⟩
    subst hv
    have hgl := h.rlt g (by simp [hbl, Value.ownBlock])
    clear h hn
    go_enter Try.func42, Try.ntmps42
    go_wp2
    go_loopw [1, 5] (fun r i wr => ∃ (k Q : Nat), k ≤ R.length ∧ Hid (Q = q + 2 * sumR (R.take k)) ∧ i = .int .i64 k ∧ r = .int .i64 Q ∧ Hid (Off ((vs.take k).flatMap hbl) w wr)) (fun _ i _ => R.length - (intOf i).toNat)
    case atStart => exact ⟨0, q, Nat.zero_le _, rfl, rfl, rfl, Off.refl _ _⟩
    case round =>
      obtain ⟨k, Q, hk, hQ, rfl, rfl, HF⟩ := hrel
      have hki0 : (0 : Int) ≤ (k : Int) := by omega
      have HIN : Hid (∀ x, x ∈ (vs.take k).flatMap hbl → ∃ j, j < k ∧ x ∈ hbl (vs.getD j default)) := fun x hx => by
        obtain ⟨j, hj, hxx⟩ := mem_flat.1 hx
        have hjk : j < k := by simp at hj; omega
        refine ⟨j, hjk, ?_⟩
        simpa [List.getD, List.getElem?_take_of_lt hjk] using hxx
      by_cases hlt : k < R.length
      · have hki : (k : Int) < (R.length : Int) := by omega
        have hc0 : wr.cell? ⟨g, k, none⟩ = some (vs.getD k default) := by
          have h1 := H.out.cell hlt
          have h2 := HF.out.block g hgl.2 (fun hm => by
            obtain ⟨j, hj, hxx⟩ := HIN.out g hm
            exact H.out.apart j (by omega) g hxx (by simp [hbl, Value.ownBlock]))
          simp only [World.cell?] at h1 ⊢
          rw [h2]
          exact h1
        have hgw : g < wr.heap.size := Nat.lt_of_lt_of_le hgl.2 HF.out.size
        have HOH := hid ((H.out.own k hlt).off HF.out (fun x hx hm => by
          obtain ⟨j, hj, hxx⟩ := HIN.out x hm
          exact H.out.disj k j hlt (by omega) (by omega) x hx hxx))
        have hsk := sumR_step R k hlt
        have hst := sumR_take R (k + 1)
        have HE := markScS base Q (vs.getD k default) (gR R k) wr HOH.out (by have := HNN.out; have := hQ.out; omega)
        have HQN : Hid (Q + 2 * (gR R k).length = q + 2 * sumR (R.take (k + 1))) := by show _ = _; rw [hQ.out, hsk]; omega
        have hkw : IntKind.i64.wrap ((k : Int) + 1) = (k : Int) + 1 := by rw [IntKind.wrap_i64]; omega
        have HTK : Hid (vs.take (k + 1) = vs.take k ++ [vs.getD k default]) := by
          show _ = _
          have hkl : k < vs.length := by rw [H.out.len]; exact hlt
          rw [List.take_succ_eq_append_getElem hkl]; simp [List.getD, hkl]
        obtain ⟨va, vc, hve⟩ := HOH.out.slice
        obtain ⟨E, hE⟩ : ∃ E, E = Q + 2 * (gR R k).length := ⟨_, rfl⟩
        rw [← hE] at HE HQN
        rw [hve] at hc0 HE
        have HVE := hid hve
        clear hsk hst hE hve
        go_wp2_with fail
        refine HE.mono ?_
        rintro e w1 ⟨rfl, _, hf1⟩
        have HF1 : Hid (Off ((vs.take (k + 1)).flatMap hbl) w w1) := by
          show Off _ _ _
          rw [HTK.out, List.flatMap_append]
          refine (HF.out.mono (fun x hx => .inl (List.mem_append.2 (.inl hx)))).trans (hf1.mono (fun x hx => .inl (List.mem_append.2 (.inr ?_))))
          rw [HVE.out]
          simpa using hx
        clear hf1 hc0 HE HOH
        go_wp2
        exact ⟨⟨k + 1, E, by omega, HQN.out, by go_num, rfl, HF1.out⟩, by simp [intOf]; omega⟩
      · have hke : k = R.length := by omega
        subst hke
        have hki : ¬ (R.length : Int) < (R.length : Int) := by omega
        have HFF : Hid (Off (fpR (.slice (some ⟨g, 0, none⟩) R.length cap) vs) w wr) := by
          refine HF.out.mono (fun x hx => .inl (List.mem_append.2 (.inr ?_)))
          rwa [← H.out.len, List.take_length] at hx
        have HQE : Hid (Q = q + 2 * sumR R) := by show _ = _; rw [hQ.out, List.take_length]
        go_wp2
        go_ret
        exact ⟨by rw [HQE.out]; simp, HFF.out⟩
end Go.Proofs.Ythdodlbhkpoadaa
