/- Contracts of PhraseIn, program and model. Condition: the documents and the words lie in memory. -/
import Derived.Test.YtkkmnegmghllpaaImplLk
import Derived.Test.YtkkmnegmghllpaaMeetQ
namespace Go.Proofs.Ytkkmnegmghllpaa
open Go.ChangeShapes Go.WideShapes Go.ChangeAt Go.RowKit Go.Deep
set_option linter.unusedVariables false
attribute [local go_sem ↓] Go.wp_at_zero Go.wp_at_succ

/-- The posts of the first of words at which k others stand behind it. -/
def phK (ds ws : List ByteArray) : Nat → List Po
  | 0 => psK ds (ws.getD 0 ByteArray.empty) ds.length
  | k + 1 => meetP (phK ds ws k) (psK ds (ws.getD (k + 1) ByteArray.empty) ds.length) ((k : Int) + 1)
def phB (ds ws : List ByteArray) : Bool := docsB ds && ws.all wdB && decide (1 ≤ ws.length ∧ ws.length ≤ 4)
def phA (ds ws : List ByteArray) : List Po := if phB ds ws then phK ds ws (ws.length - 1) else []
theorem meetP_sm {a : List Po} (h : SmP a) (b : List Po) (y : Int) : SmP (meetP a b y) := by
  refine ⟨Nat.le_trans (meetP_len b y a) h.1, fun p hp => ?_⟩
  simp only [meetP, List.mem_flatMap] at hp
  obtain ⟨q, hq, hp⟩ := hp
  unfold meet1 at hp
  split at hp
  · simp at hp
  · simp only [List.mem_singleton] at hp
    subst hp
    have h1 := h.2 q hq
    refine ⟨Nat.le_trans (keep_len _ _ _) h1.1, fun n hn => h1.2 n ?_⟩
    unfold keepP at hn
    exact (List.mem_filter.1 hn).1
theorem phK_sm {ds : List ByteArray} (h : docsB ds = true) (ws : List ByteArray) : ∀ k, SmP (phK ds ws k)
  | 0 => psK_sm h _
  | k + 1 => meetP_sm (phK_sm h ws k) _ _
theorem psK_un (ds : List ByteArray) (s : ByteArray) (d : Nat) : UnP (psK ds s d) := by
  have hr := psK_rise ds s d
  intro i j hi hj he
  rcases Nat.lt_trichotomy i j with hlt | rfl | hgt
  · have := rise_lt hr (j - i - 1) i (by omega)
    rw [show i + (j - i - 1) + 1 = j by omega] at this
    omega
  · rfl
  · have := rise_lt hr (i - j - 1) j (by omega)
    rw [show j + (i - j - 1) + 1 = i by omega] at this
    omega
theorem phA_bd (ds ws : List ByteArray) : (phA ds ws).length ≤ 12 ∧ sumL (phA ds ws) ≤ 240 := by
  unfold phA
  split
  · rename_i h
    unfold phB at h
    rw [Bool.and_eq_true, Bool.and_eq_true] at h
    have h1 := (docs_yes h.1.1).1
    have : ∀ k, (phK ds ws k).length ≤ 12 ∧ sumL (phK ds ws k) ≤ 240 := fun k => by
      induction k with
      | zero =>
        have h2 := psK_len ds (ws.getD 0 ByteArray.empty) ds.length
        have h3 := psK_sum h.1.1 (ws.getD 0 ByteArray.empty) ds.length (Nat.le_refl _)
        show (psK _ _ _).length ≤ _ ∧ sumL (psK _ _ _) ≤ _
        omega
      | succ k ih =>
        exact ⟨Nat.le_trans (meetP_len _ _ _) ih.1, Nat.le_trans (meetP_sum _ _ _) ih.2⟩
    exact this _
  · simp [sumL]
set_option maxHeartbeats 12800000 in
set_option maxRecDepth 100000 in
theorem implPhrase (x y : Value) (ds ws : List ByteArray) (w : World) (hx : StrsAt w x ds) (hy : StrsAt w y ws) (hl : ds.length ≤ 1048576) (hs : ∀ s ∈ ds, s.size ≤ 1048576) (hwl : ws.length ≤ 1048576) (hws : ∀ s ∈ ws, s.size ≤ 1048576) :
    Calls Try.prog 29 #[x, y] w fun e w' => (∃ v vs, e = .returned (.tuple #[v, .bool (phB ds ws)]) ∧ GrP w.heap.size w' v (phA ds ws) vs) ∧ Below w.heap.size w w' := by
  have HX := hid hx
  have HY := hid hy
  by_cases hn : 1 ≤ ws.length ∧ ws.length ≤ 4
  · have HLK := fun W h g => implLook x y ds ws W h g hl hs (by omega) hws
    obtain ⟨xa, xc, hxe⟩ := hx.slice
    subst hxe
    obtain ⟨ya, yc, hye⟩ := hy.slice
    subst hye
    have i1 : ((ws.length : Int) == 0) = false := by rw [beq_eq_false_iff_ne]; omega
    have i2 : decide ((4 : Int) < (ws.length : Int)) = false := by simp; omega
    have hdn : decide (1 ≤ ws.length ∧ ws.length ≤ 4) = true := decide_eq_true hn
    obtain ⟨m, hm⟩ : ∃ m, ws.length = m + 1 := ⟨ws.length - 1, by omega⟩
    have HN : Hid (ws.length = m + 1 ∧ m ≤ 3) := ⟨hm, by omega⟩
    have hpb : phB ds ws = (docsB ds && ws.all wdB) := by unfold phB; rw [hdn, Bool.and_true]
    have HPB := hid hpb
    have HLEN := hid hwl
    clear hx hy hl hs hws hdn hn hm hpb hwl
    go_enter Try.func29, Try.ntmps29
    go_wp2_with fail
    refine (HLK _ HX.out HY.out).mono ?_
    rintro e w1 ⟨hcs, hb1⟩
    have kl1 := hb1.size
    rcases hcs with ⟨hd, hw, lv, V, F, rfl, hr, hg⟩ | ⟨hd, rfl⟩
    · have HB : Hid (phB ds ws = true) := by show _ = _; rw [HPB.out, hd, hw]; rfl
      have HA : Hid (phA ds ws = phK ds ws m) := by show _ = _; unfold phA; rw [HB.out, if_pos rfl, show ws.length - 1 = m by have := HN.out; omega]
      have HG := hid hg
      have HD := hid hd
      have HR := hid hr
      obtain ⟨f0, f1⟩ := flatW_0 ds V ws 0 (by have := HN.out; omega)
      obtain ⟨g, off, c, hve, hgl, c0, c1⟩ := rows_two hr (i := 0) (by have := HN.out; omega) f0 f1
      subst hve
      have hcap : ws.length ≤ c := by
        obtain ⟨_, ao, c', h1, h2, _⟩ := hr
        cases h1; exact h2
      simp only [Nat.zero_mul, Nat.add_zero] at c0 c1
      have hG0 := hg (ws.getD 0 ByteArray.empty)
      have HG0 : Hid (GrP w.heap.size w1 (V (ws.getD 0 ByteArray.empty)) (phK ds ws 0) (F (ws.getD 0 ByteArray.empty))) := hG0
      have hm1 := HN.out.1
      have hm3 := HN.out.2
      have hcm : ∃ cc, c = cc + 1 := ⟨c - 1, by omega⟩
      obtain ⟨cc, rfl⟩ := hcm
      have HSM := hid (phK_sm hd ws)
      have HSM2 := hid (fun s => psK_sm hd s)
      rw [hm1] at i1 i2
      clear hd hw hr hg f0 f1 HLK hG0 c1
      rw [hm1] at HR hcap ⊢
      generalize V (ws.getD 0 ByteArray.empty) = v0 at *
      clear hm1
      rcases cc with _ | c2
      · have hm0 : m = 0 := by omega
        subst hm0
        go_wp2_with fail
        go_loopw [8, 34] (fun o i wr => o = v0 ∧ i = .int .i64 0 ∧ wr = w1) (fun _ _ _ => 0)
        case atStart => exact ⟨rfl, rfl, rfl⟩
        case round =>
          obtain ⟨rfl, rfl, rfl⟩ := hrel
          go_wp2_with fail
          go_returns
          exact ⟨⟨_, _, by rw [HB.out]; rfl, by rw [HA.out]; exact HG0.out⟩, hb1⟩
      · have q1 : (1 : Int) ≤ (m : Int) + 1 := by omega
        have q2 : (m : Int) + 1 ≤ ((c2 + 1 : Nat) : Int) + 1 := by omega
        go_wp2_with fail
        go_loopw [8, 34] (fun o i wr => ∃ (k : Nat) (vs : List Value), k ≤ m ∧ i = .int .i64 k ∧ Hid (GrP w.heap.size wr o (phK ds ws k) vs) ∧ Below w1.heap.size w1 wr) (fun _ i _ => m - (intOf i).toNat)
        case atStart => exact ⟨0, _, Nat.zero_le _, rfl, HG0.out, Below.refl _ _⟩
        case round =>
          obtain ⟨k, vs, hk, rfl, hO, kb⟩ := hrel
          have kl := kb.size
          have kw : Below w.heap.size w wr := hb1.trans (kb.mono kl1)
          obtain ⟨oa, oc, hoe⟩ := hO.out.slice
          subst hoe
          by_cases hlt : k < m
          · have hki : (k : Int) < (m : Int) := by omega
            have hk0 : (0 : Int) ≤ (k : Int) := by omega
            obtain ⟨e0, e1⟩ := flatW_0 ds V ws (k + 1) (by have := HN.out; omega)
            obtain ⟨g', off', c', hve, hgl', d0, d1⟩ := rows_two HR.out (i := k + 1) (by omega) e0 e1
            simp only [Value.slice.injEq, Option.some.injEq, Addr.mk.injEq, and_true, true_and] at hve
            obtain ⟨⟨rfl, rfl⟩, hcc⟩ := hve
            clear hcc
            have d0' := (kb.cell (p := ⟨g, off + (k + 1) * 2, none⟩) hgl).trans d0
            have d1' := (kb.cell (p := ⟨g, off + (k + 1) * 2 + 1, none⟩) hgl).trans d1
            rw [show off + (k + 1) * 2 = off + 2 + k * 2 by omega] at d0' d1'
            have HST : Hid (phK ds ws (k + 1) = meetP (phK ds ws k) (psK ds (ws.getD (k + 1) ByteArray.empty) ds.length) ((k : Int) + 1)) := rfl
            have HBQ := hid ((HG.out (ws.getD (k + 1) ByteArray.empty)).below kb)
            have HSK := hid (HSM.out k)
            have HSP := hid (HSM2.out (ws.getD (k + 1) ByteArray.empty))
            have hgw : g < wr.heap.size := by omega
            obtain ⟨va, vc, hve⟩ := HBQ.out.slice
            generalize ((sumL (psK ds (ws.getD (k + 1) ByteArray.empty) ds.length) : Nat) : Int) = tn at *
            generalize psK ds (ws.getD (k + 1) ByteArray.empty) ds.length = PQ at *
            rw [hve] at d0' HBQ
            generalize phK ds ws k = PK at *
            have HM := fun W h g => implMeet (.slice oa PK.length oc) (.slice va PQ.length vc) PK PQ ((k : Int) + 1) W h g HSK.out HSP.out (by omega)
            have hkw : IntKind.i64.wrap ((k : Int) + 1) = (k : Int) + 1 := by rw [IntKind.wrap_i64]; omega
            clear e0 e1 d0 d1 hgl' hve
            go_wp2_with fail
            refine (HM _ (hO.out.at.below (by go_grown)) (HBQ.out.at.below (by go_grown))).mono ?_
            rintro e w3 ⟨⟨v, us, rfl, hg3⟩, hb3⟩
            have kb3 : Below w1.heap.size w1 w3 := by
              refine Below.trans ?_ (hb3.mono ?_)
              · go_grown
              · go_size
            have HG3 : Hid (GrP w.heap.size w3 v (phK ds ws (k + 1)) us) := by
              show GrP _ _ _ _ _
              rw [HST.out]
              exact hg3.mono (by simp; omega)
            clear hg3 hb3 HM d0' d1'
            go_wp2_with fail
            refine ⟨?_, by simp [intOf]; omega⟩
            first | exact ⟨k + 1, us, by omega, by go_num, HG3, kb3⟩ | ((repeat apply Exists.intro); exact ⟨⟨k + 1, us, by omega, by go_num, HG3, kb3⟩, rfl⟩)
          · have hke : k = m := by omega
            subst hke
            have hki : ¬ (k : Int) < (k : Int) := by omega
            go_wp2_with fail
            go_returns
            exact ⟨⟨_, by rw [HB.out]; rfl, vs, by rw [HA.out]; exact hO.out⟩, kw⟩
    · have HB : Hid (phB ds ws = false) := by show _ = _; rw [HPB.out]; exact hd
      have HA : Hid (phA ds ws = []) := by show _ = _; unfold phA; rw [HB.out]; rfl
      clear hd HLK
      go_wp2_with fail
      go_returns
      exact ⟨⟨_, [], by rw [HB.out]; rfl, by rw [HA.out]; exact GrP.nil _ _⟩, hb1⟩
  · have hb : phB ds ws = false := by unfold phB; rw [decide_eq_false hn, Bool.and_false]
    have ha : phA ds ws = [] := by unfold phA; rw [hb]; rfl
    rw [hb, ha]
    obtain ⟨ya, yc, hye⟩ := hy.slice
    subst hye
    clear hb ha hx hy
    by_cases h0 : ws.length = 0
    · have i1 : ((ws.length : Int) == 0) = true := by rw [h0]; rfl
      clear hn h0
      go_enter Try.func29, Try.ntmps29
      go_wp2
      go_returns
      exact ⟨⟨_, [], rfl, GrP.nil _ _⟩, Below.refl _ _⟩
    · have i1 : ((ws.length : Int) == 0) = false := by rw [beq_eq_false_iff_ne]; omega
      have i2 : decide ((4 : Int) < (ws.length : Int)) = true := by simp; omega
      clear hn h0
      go_enter Try.func29, Try.ntmps29
      go_wp2
      go_returns
      exact ⟨⟨_, [], rfl, GrP.nil _ _⟩, Below.refl _ _⟩
set_option maxHeartbeats 12800000 in
set_option maxRecDepth 100000 in
theorem specPhrase (x y : Value) (ds ws : List ByteArray) (w : World) (hx : StrsAt w x ds) (hy : StrsAt w y ws) (hl : ds.length ≤ 1048576) (hs : ∀ s ∈ ds, s.size ≤ 1048576) (hwl : ws.length ≤ 1048576) (hws : ∀ s ∈ ws, s.size ≤ 1048576) :
    Calls Try.prog 30 #[x, y] w fun e w' => (∃ v vs, e = .returned (.tuple #[v, .bool (phB ds ws)]) ∧ GrP w.heap.size w' v (phA ds ws) vs) ∧ Below w.heap.size w w' := by
  have HX := hid hx
  have HY := hid hy
  have HWS := hid hws
  have HDC := fun W h => specDocs x ds W h hl hs
  have HLP := fun (s : ByteArray) (hss : s.size ≤ 1048576) (hd : docsB ds = true) W h => specL9 x ds s W h hd hss
  obtain ⟨xa, xc, hxe⟩ := hx.slice
  subst hxe
  obtain ⟨ya, yc, hye⟩ := hy.slice
  subst hye
  clear hx hy hl hs hws
  have HRES : Hid (phB ds ws = false → phA ds ws = []) := fun h => by unfold phA; rw [h]; rfl
  go_enter Try.func30, Try.ntmps30
  go_wp2_with fail
  go_loopw [12] (fun i wr => ∃ k : Nat, k ≤ ws.length ∧ i = .int .i64 k ∧ Hid (∀ i, i < k → wdB (ws.getD i ByteArray.empty) = true) ∧ wr = w) (fun i _ => ws.length - (intOf i).toNat)
  case atStart => exact ⟨0, Nat.zero_le _, rfl, fun i hi => by omega, rfl⟩
  case round =>
    obtain ⟨k, hk, rfl, hall, hw⟩ := hrel
    subst wr
    by_cases hlt : k < ws.length
    · obtain ⟨g, off, cap, hve, hgl, hc⟩ := HY.out.cellS hlt
      cases hve
      have hki : (k : Int) < (ws.length : Int) := by omega
      have hk0 : (0 : Int) ≤ (k : Int) := by omega
      have HWD := fun W => specWord (ws.getD k ByteArray.empty) (HWS.out _ (getD_mem ws k hlt)) W
      have HNO : Hid (wdB (ws.getD k ByteArray.empty) = false → phB ds ws = false) := fun h => by
        have : ws.all wdB = false := by
          rw [List.all_eq_false]
          exact ⟨_, getD_mem ws k hlt, by rw [h]; simp⟩
        unfold phB; rw [this, Bool.and_false, Bool.false_and]
      have HYS : Hid (wdB (ws.getD k ByteArray.empty) = true → ∀ i, i < k + 1 → wdB (ws.getD i ByteArray.empty) = true) := fun h i hi => by
        by_cases e : i = k
        · rw [e]; exact h
        · exact hall.out i (by omega)
      clear hall
      generalize ws.getD k ByteArray.empty = tw at *
      by_cases hwd : wdB tw = true
      · rw [hwd] at HWD
        have HA := hid (HYS.out hwd)
        clear hwd HNO HYS
        go_wp2_with fail
        refine (HWD _).mono ?_
        rintro e w1 ⟨rfl, hw1⟩
        subst w1
        go_wp2_with fail
        exact ⟨⟨k + 1, hlt, by go_num, HA, by first | rfl | trivial⟩, by simp [intOf]; omega⟩
      · rw [Bool.not_eq_true] at hwd
        rw [hwd] at HWD
        have HB := hid (HNO.out hwd)
        clear hwd HNO HYS
        go_wp2_with fail
        refine (HWD _).mono ?_
        rintro e w1 ⟨rfl, hw1⟩
        subst w1
        go_wp2_with fail
        go_returns
        exact ⟨⟨_, [], by rw [HB.out]; rfl, by rw [HRES.out HB.out]; exact GrP.nil _ _⟩, Below.refl _ _⟩
    · have hke : k = ws.length := by omega
      subst hke
      have hki : ¬ (ws.length : Int) < (ws.length : Int) := by omega
      have hall2 : ws.all wdB = true := by
        rw [List.all_eq_true]
        intro s hs
        obtain ⟨i, hi, rfl⟩ := List.mem_iff_getElem.1 hs
        have := hall.out i hi
        simpa [List.getD, hi] using this
      have HPB : Hid (phB ds ws = (docsB ds && decide (1 ≤ ws.length ∧ ws.length ≤ 4))) := by show _ = _; unfold phB; rw [hall2, Bool.and_true]
      have HIN := fun W => l1InB (ws.length : Int) 1 4 W
      have hde : decide ((1 : Int) ≤ (ws.length : Int) ∧ (ws.length : Int) ≤ 4) = decide (1 ≤ ws.length ∧ ws.length ≤ 4) := by rw [decide_eq_decide]; omega
      rw [hde] at HIN
      clear hall hall2 hde
      by_cases hd : docsB ds = true
      · rw [hd] at HDC
        have HL2 := fun s hss W h => HLP s hss hd W h
        have HD := hid hd
        by_cases hn : 1 ≤ ws.length ∧ ws.length ≤ 4
        · rw [decide_eq_true hn] at HIN
          have HB : Hid (phB ds ws = true) := by show _ = _; rw [HPB.out, hd, decide_eq_true hn]; rfl
          obtain ⟨m, hm⟩ : ∃ m, ws.length = m + 1 := ⟨ws.length - 1, by omega⟩
          have HA : Hid (phA ds ws = phK ds ws m) := by show _ = _; unfold phA; rw [HB.out, if_pos rfl, show ws.length - 1 = m by omega]
          have hm3 : m ≤ 3 := by omega
          have HSM := hid (phK_sm hd ws)
          have HSM2 := hid (fun s => psK_sm hd s)
          obtain ⟨g, off, cap, hve, hgl, hc⟩ := HY.out.cellS (k := 0) (by omega)
          cases hve
          have HL0 := hid (HL2 (ws.getD 0 ByteArray.empty) (HWS.out _ (getD_mem ws 0 (by omega))))
          have HLN : Hid (ws.length = m + 1) := hm
          have hlen0 : (0 : Int) < (ws.length : Int) := by omega
          have hlen : (ws.length : Int) = (m : Int) + 1 := by omega
          have HPK0 : Hid (phK ds ws 0 = psK ds (ws.getD 0 ByteArray.empty) ds.length) := rfl
          rw [Nat.add_zero] at hc
          clear hd hn hm HPB HLP
          generalize ws.getD 0 ByteArray.empty = t0 at *
          clear hlen
          go_wp2_with fail
          refine (HDC _ HX.out).mono ?_
          rintro e w1 ⟨rfl, hb1⟩
          have hc1 := (hb1.cell (p := ⟨g, off, none⟩) hgl).trans hc
          go_wp2_with fail
          refine (HIN _).mono ?_
          rintro e w2 ⟨rfl, hw2⟩
          subst w2
          clear HIN HDC
          go_wp2_with fail
          refine (HL0.out _ (HX.out.below hb1)).mono ?_
          rintro e w2 ⟨⟨v, vs, rfl, hg2⟩, hb2⟩
          have k2 : Below w.heap.size w w2 := hb1.trans (hb2.mono hb1.size)
          have HG0 : Hid (GrP w.heap.size w2 v (phK ds ws 0) vs) := by show GrP _ _ _ _ _; rw [HPK0.out]; exact hg2.mono hb1.size
          clear hg2 hb2 hc1 hb1
          go_wp2_with fail
          go_loopw [8, 9] (fun o i wr => ∃ (k : Nat) (us : List Value), k ≤ m ∧ i = .int .i64 ((k : Int) + 1) ∧ Hid (GrP w.heap.size wr o (phK ds ws k) us) ∧ Below w.heap.size w wr) (fun _ i _ => m + 1 - (intOf i).toNat)
          case atStart => exact ⟨0, vs, Nat.zero_le _, rfl, HG0.out, k2⟩
          case round =>
            obtain ⟨k, us, hk, rfl, hO, kb⟩ := hrel
            have kl := kb.size
            obtain ⟨oa, oc, hoe⟩ := hO.out.slice
            subst hoe
            by_cases hlt : k < m
            · obtain ⟨g', off', cap', hve, hgl', hc'⟩ := (HY.out.below kb).cellS (k := k + 1) (by have := HLN.out; omega)
              cases hve
              have hki2 : (k : Int) + 1 < (ws.length : Int) := by have := HLN.out; omega
              have hk0 : (0 : Int) ≤ (k : Int) + 1 := by omega
              have HST : Hid (phK ds ws (k + 1) = meetP (phK ds ws k) (psK ds (ws.getD (k + 1) ByteArray.empty) ds.length) ((k : Int) + 1)) := rfl
              have HLk := hid (HL2 (ws.getD (k + 1) ByteArray.empty) (HWS.out _ (getD_mem ws (k + 1) (by have := HLN.out; omega))))
              have HSK := hid (HSM.out k)
              have HSP := hid (HSM2.out (ws.getD (k + 1) ByteArray.empty))
              have HUN := hid (psK_un ds (ws.getD (k + 1) ByteArray.empty) ds.length)
              have hkw : IntKind.i64.wrap ((k : Int) + 1 + 1) = (k : Int) + 1 + 1 := by rw [IntKind.wrap_i64]; omega
              generalize ws.getD (k + 1) ByteArray.empty = tk at *
              generalize phK ds ws k = PK at *
              go_wp2_with fail
              refine (HLk.out _ (HX.out.below kb)).mono ?_
              rintro e w3 ⟨⟨v3, us3, rfl, hg3⟩, hb3⟩
              have kb3 : Below w.heap.size w w3 := kb.trans (hb3.mono kl)
              have HG3 := hid hg3
              have hO3 := hid (hO.out.below hb3)
              obtain ⟨va3, vc3, hve3⟩ := hg3.slice
              subst hve3
              have HM := fun W h g => specMeet (.slice oa PK.length oc) (.slice va3 (psK ds tk ds.length).length vc3) PK (psK ds tk ds.length) ((k : Int) + 1) W h g HSK.out HSP.out HUN.out (by omega)
              generalize psK ds tk ds.length = PQ at *
              clear hg3 hb3 HLk hO hc' hgl'
              go_wp2_with fail
              refine (HM _ hO3.out.at HG3.out.at).mono ?_
              rintro e w4 ⟨⟨v4, us4, rfl, hg4⟩, hb4⟩
              have kb4 : Below w.heap.size w w4 := kb3.trans (hb4.mono kb3.size)
              have HG4 : Hid (GrP w.heap.size w4 v4 (phK ds ws (k + 1)) us4) := by
                show GrP _ _ _ _ _
                rw [HST.out]
                exact hg4.mono kb3.size
              clear hg4 hb4 HM
              go_wp2_with fail
              refine ⟨?_, by simp [intOf]; omega⟩
              first | exact ⟨k + 1, us4, by omega, by go_num, HG4, kb4⟩ | ((repeat apply Exists.intro); exact ⟨⟨k + 1, us4, by omega, by go_num, HG4, kb4⟩, rfl⟩)
            · have hke : k = m := by omega
              subst hke
              have hki2 : ¬ (k : Int) + 1 < (ws.length : Int) := by have := HLN.out; omega
              go_wp2_with fail
              go_returns
              exact ⟨⟨_, by rw [HB.out]; rfl, us, by rw [HA.out]; exact hO.out⟩, kb⟩
        · rw [decide_eq_false hn] at HIN
          have HB : Hid (phB ds ws = false) := by show _ = _; rw [HPB.out, decide_eq_false hn, Bool.and_false]
          clear hd hn HPB HLP HL2
          go_wp2_with fail
          refine (HDC _ HX.out).mono ?_
          rintro e w1 ⟨rfl, hb1⟩
          go_wp2_with fail
          refine (HIN _).mono ?_
          rintro e w2 ⟨rfl, hw2⟩
          subst w2
          go_wp2_with fail
          go_returns
          exact ⟨⟨_, [], by rw [HB.out]; rfl, by rw [HRES.out HB.out]; exact GrP.nil _ _⟩, hb1⟩
      · rw [Bool.not_eq_true] at hd
        rw [hd] at HDC
        have HB : Hid (phB ds ws = false) := by show _ = _; rw [HPB.out, hd, Bool.false_and]
        clear hd HPB HLP
        go_wp2_with fail
        refine (HDC _ HX.out).mono ?_
        rintro e w1 ⟨rfl, hb1⟩
        go_wp2_with fail
        go_returns
        exact ⟨⟨_, [], by rw [HB.out]; rfl, by rw [HRES.out HB.out]; exact GrP.nil _ _⟩, hb1⟩
end Go.Proofs.Ytkkmnegmghllpaa
