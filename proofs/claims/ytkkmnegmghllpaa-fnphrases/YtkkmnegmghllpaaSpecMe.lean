/- Contract of the model's meeting of posts. Condition: the posts lie in memory, within small bounds; the second ones are of unlike documents. -/
import Derived.Test.YtkkmnegmghllpaaImplMe
namespace Go.Proofs.Ytkkmnegmghllpaa
open Go.ChangeShapes Go.WideShapes Go.ChangeAt Go.RowKit Go.Deep
set_option linter.unusedVariables false
attribute [local go_sem ↓] Go.wp_at_zero Go.wp_at_succ

theorem BoxAt.offG {W W' : World} {b : Nat} {vs : List Value} {S : List Nat} (h : BoxAt W b vs) (ho : Off S W W') (hn : b ∉ S) : BoxAt W' b vs := by
  have hg := ho.block b h.1 hn
  exact ⟨Nat.lt_of_lt_of_le h.1 ho.size, fun i v hv => by simp only [World.cell?, hg]; exact h.2.1 i v hv, fun i hi => by simp only [World.frozen?, hg]; exact h.2.2 i hi⟩
theorem BoxAt.otherBy' {W W' : World} {b : Nat} {vs : List Value} {r : Option Nat} (h : BoxAt W b vs) (hg : W.grownBy W' r) (hne : r ≠ some b) : BoxAt W' b vs := by
  have hb := hg.block b h.1 (fun e => hne e.symm)
  exact ⟨Nat.lt_of_lt_of_le h.1 hg.size, fun i v hv => by simp only [World.cell?, hb]; exact h.2.1 i v hv, fun i hi => by simp only [World.frozen?, hb]; exact h.2.2 i hi⟩
/-- Posts of unlike documents. -/
def UnP (b : List Po) : Prop := ∀ i j, i < b.length → j < b.length → (b.getD i default).1 = (b.getD j default).1 → i = j
set_option maxHeartbeats 25600000 in
set_option maxRecDepth 100000 in
theorem specMeet (av bv : Value) (a b : List Po) (y : Int) (w : World) (ha : PosAt w av a) (hb : PosAt w bv b) (sa : SmP a) (sb : SmP b) (hu : UnP b) (hy : -1000 ≤ y ∧ y ≤ 1000) :
    Calls Try.prog 70 #[av, bv, .int .i64 y] w fun e w' => (∃ v vs, e = .returned v ∧ GrP w.heap.size w' v (meetP a b y) vs) ∧ Below w.heap.size w w' := by
  obtain ⟨i0, hi, hzz⟩ := Option.map_eq_some_iff.1 infoIn2
  simp only [Prod.mk.injEq] at hzz
  obtain ⟨hz0, hz1, hz2⟩ := hzz
  obtain ⟨j0, hj, hyy⟩ := Option.map_eq_some_iff.1 infoPo2
  simp only [Prod.mk.injEq] at hyy
  obtain ⟨hy0, hy1, hy2⟩ := hyy
  have HA := hid ha
  have HB := hid hb
  have HSA := hid sa
  have HSB := hid sb
  have HU := hid hu
  have hal := sa.1
  have hbl := sb.1
  obtain ⟨aa, ac, hae⟩ := ha.slice
  subst hae
  obtain ⟨ba, bc, hbe⟩ := hb.slice
  subst hbe
  clear ha hb sa sb hu
  go_enter Try.func70, Try.ntmps70
  go_wp2
  go_loopw [7, 17] (fun o i wr => ∃ (k : Nat) (vs : List Value), k ≤ a.length ∧ i = .int .i64 k ∧ Hid (GrP w.heap.size wr o (meetP (a.take k) b y) vs) ∧ Below w.heap.size w wr) (fun _ i _ => a.length - (intOf i).toNat)
  case atStart => exact ⟨0, [], Nat.zero_le _, rfl, GrP.nil _ _, by go_grown⟩
  case round =>
    obtain ⟨k, vs, hk, rfl, hG, kb⟩ := hrel
    have kl := kb.size
    obtain ⟨oa, oc, hoe⟩ := hG.out.slice
    subst hoe
    by_cases hlt : k < a.length
    · obtain ⟨g, off, cap, hve, hgl, hpo⟩ := (HA.out.below kb).rows hlt
      cases hve
      obtain ⟨pv, p0, p1, hlp⟩ := hpo
      have hki : (k : Int) < (a.length : Int) := by omega
      have hk0i : (0 : Int) ≤ (k : Int) := by omega
      have hsm := HSA.out.2 (a.getD k default) (getD_memL a k hlt)
      have HST : Hid (meetP (a.take (k + 1)) b y = meetP (a.take k) b y ++ meet1 (a.getD k default) b y) := meet_step hlt
      have hml := meetP_len b y (a.take k)
      have hmk : (a.take k).length ≤ k := by simp; omega
      obtain ⟨M1, hM1⟩ : ∃ M1, M1 = meet1 (a.getD k default) b y := ⟨_, rfl⟩
      have hM1l := meet1_len (a.getD k default) b y
      rw [← hM1] at HST hM1l
      have HM1 := hid hM1
      unfold meet1 at hM1
      have HM2 := hid hM1
      -- the places, as the caller's own memory has them
      obtain ⟨g', off', cap', hve', hgl', pv', q0', q1', hlp'⟩ := HA.out.rows hlt
      cases hve'
      have hpe0 : pv' = pv := by
        have h9 := (kb.cell (p := ⟨g, off + k * 2 + 1, none⟩) hgl').trans q1'
        rw [p1] at h9
        exact (Option.some.inj h9).symm
      subst hpe0
      have HL := hid hlp'
      have hplen := hsm.1
      have HNB := hid hsm.2
      obtain ⟨pa, pc, hpe⟩ := hlp'.slice
      subst hpe
      clear hlp hlp' hsm hM1 HM1 q0' q1' hgl'
      generalize (a.getD k default).1 = d at *
      generalize (a.getD k default).2 = l at *
      generalize hMk : meetP (a.take k) b y = Mk at *
      have hMl : Mk.length ≤ 1000 := by omega
      clear hml hmk hMk
      have hx := boxNew wr #[.int .i64 d, .slice pa l.length pc] 39
      obtain ⟨W1, hW1⟩ : ∃ W1, W1 = wr.alloc (.cells #[.int .i64 d, .slice pa l.length pc] 39) := ⟨_, rfl⟩
      go_upto_region 5 with fail
      rw [← hW1]
      rw [← hW1] at hx
      have kW1 : Below wr.heap.size wr W1 := by rw [hW1]; exact (Below.refl _ _).alloc (Nat.le_refl _) _
      have k1 : Below w.heap.size w W1 := kb.trans (kW1.mono kl)
      have HBP : Hid (BoxAt W1 wr.heap.size [.int .i64 d, .slice pa l.length pc]) := hx
      have HG1 : Hid (GrP w.heap.size W1 (.slice oa Mk.length oc) Mk vs) := hG.out.below kW1
      have hbpw : w.heap.size ≤ wr.heap.size := kl
      have HPB : Hid (∀ x ∈ fpG (.slice oa Mk.length oc) vs, x ≠ wr.heap.size) := fun x hx => by have := (hG.out.lt x hx).2; omega
      clear hW1 kW1 hx hG p0 p1 hgl
      generalize wr.heap.size = pb at *
      have hpb1 := HBP.out.1
      clear kb kl
      go_wp2_with fail
      go_loopw [7, 23] (fun o i wr => ∃ (j : Nat) (vs : List Value) (N : List Po), j ≤ b.length ∧ i = .int .i64 j ∧ Hid ((N = Mk ++ M1 ∧ ∃ i, i < j ∧ (b.getD i default).1 = d) ∨ (N = Mk ∧ ∀ i, i < j → (b.getD i default).1 ≠ d)) ∧ N.length ≤ 1001 ∧ Hid (GrP w.heap.size wr o N vs) ∧ Hid (∀ x ∈ fpG o vs, x ≠ pb) ∧ Hid (BoxAt wr pb [.int .i64 d, .slice pa l.length pc]) ∧ Below w.heap.size w wr) (fun _ i _ => b.length - (intOf i).toNat)
      case atStart => exact ⟨0, vs, Mk, Nat.zero_le _, rfl, .inr ⟨rfl, fun i hi => by omega⟩, by omega, HG1.out, HPB.out, HBP.out, k1⟩
      case round =>
        obtain ⟨j, us, N, hjl, rfl, hN, hNl, hG2, hPB, HBP2, kb2⟩ := hrel
        generalize wr = w2 at *
        have kl2 := kb2.size
        obtain ⟨ob, od, hoe⟩ := hG2.out.slice
        subst hoe
        by_cases hjt : j < b.length
        · obtain ⟨g2, off2, cap2, hve, hgl2, hpo⟩ := HB.out.rows hjt
          cases hve
          obtain ⟨qv, q0, q1, hlq⟩ := hpo
          have hji : (j : Int) < (b.length : Int) := by omega
          have hj0i : (0 : Int) ≤ (j : Int) := by omega
          have HLQ := hid hlq
          have hqlen := (HSB.out.2 (b.getD j default) (getD_memL b j hjt)).1
          have c0 := (kb2.cell (p := ⟨g2, off2 + j * 2, none⟩) hgl2).trans q0
          have c1 := (kb2.cell (p := ⟨g2, off2 + j * 2 + 1, none⟩) hgl2).trans q1
          have hg2w : g2 < w2.heap.size := by omega
          have HPLC : Hid ((b.getD j default).1 = d → (∀ i, i < j → (b.getD i default).1 ≠ d) → plcs b d = (b.getD j default).2) := fun h1 h2 => plcs_skip h2 hjt h1
          have HNF : Hid ((b.getD j default).1 = d → ∀ i, i < j → (b.getD i default).1 ≠ d) := fun h1 i hi h2 => by
            have := HU.out i j (by omega) hjt (h2.trans h1.symm)
            omega
          have HNO : Hid ((b.getD j default).1 ≠ d → (∀ i, i < j → (b.getD i default).1 ≠ d) → ∀ i, i < j + 1 → (b.getD i default).1 ≠ d) := fun h1 h2 i hi => by
            by_cases e : i = j
            · rw [e]; exact h1
            · exact h2 i (by omega)
          have HYS : Hid ((b.getD j default).1 = d → ∃ i, i < j + 1 ∧ (b.getD i default).1 = d) := fun h => ⟨j, by omega, h⟩
          obtain ⟨qa, qc, hqe⟩ := hlq.slice
          subst hqe
          clear hlq q0 q1
          generalize (b.getD j default).1 = dq at *
          generalize (b.getD j default).2 = lq at *
          have b0 := HBP2.out.2.1 0 _ rfl
          have hb0 := HBP2.out.1
          have b1 := HBP2.out.2.1 1 _ rfl
          by_cases hd : d = dq
          · have hdn : (d != dq) = false := by simp [hd]
            have hNF := HNF.out hd.symm
            have HEQ : Hid (plcs b d = lq) := HPLC.out hd.symm hNF
            have HY2 := hid (HYS.out hd.symm)
            have hNM : N = Mk := by
              rcases hN.out with ⟨_, i, hi, h⟩ | ⟨h, _⟩
              · exact absurd h (hNF i hi)
              · exact h
            subst hNM
            clear HNF HPLC HNO HYS hN hd hNF
            obtain ⟨WI, hWI⟩ : ∃ WI, WI = (w2.alloc (.cells #[.int .i64 dq, .slice qa lq.length qc] 39)).alloc (.cells #[.int .i64 d, .slice none 0 0] 39) := ⟨_, rfl⟩
            have hbx2 : BoxAt WI w2.heap.size [.int .i64 dq, .slice qa lq.length qc] ∧ BoxAt WI (w2.heap.size + 1) [.int .i64 d, .slice none 0 0] := by rw [hWI]; exact boxOf2 (Below.refl _ _)
            have kWI0 : Below w2.heap.size w2 WI := by rw [hWI]; exact ((Below.refl _ _).alloc (Nat.le_refl _) _).alloc (by simp) _
            have hWIs : WI.heap.size = w2.heap.size + 2 := by rw [hWI]; simp
            obtain ⟨hbq, hbxx⟩ := hbx2
            have HBQ := hid hbq
            have HBX := hid hbxx
            have HBP3 := hid (HBP2.out.below kWI0)
            have HG3 := hid (hG2.out.below kWI0)
            have HFPL : Hid (∀ x ∈ fpG (.slice ob N.length od) us, x < w2.heap.size) := fun x hx => (hG2.out.lt x hx).2
            have kWI : Below w.heap.size w WI := kb2.trans (kWI0.mono kl2)
            obtain ⟨qb, hqb⟩ : ∃ qb, qb = w2.heap.size := ⟨_, rfl⟩
            obtain ⟨xb, hxb⟩ : ∃ xb, xb = qb + 1 := ⟨_, rfl⟩
            go_upto_region 10 with fail
            rw [← hWI, ← hqb, ← hxb]
            rw [← hqb] at HBQ HBX HFPL hWIs hb0
            rw [← hxb] at HBX
            have HORD : Hid (w.heap.size ≤ pb ∧ pb < qb ∧ qb < xb ∧ xb < WI.heap.size ∧ w.heap.size ≤ WI.heap.size) := by
              show _ ∧ _
              omega
            have kwl := kWI.size
            clear hWI hbq hbxx kWI0 hqb hxb hWIs b0 b1 hb0 HBP2 hG2 kb2 kl2 c0 c1 hg2w
            have b1 := HBP3.out.2.1 1 _ rfl
            have hb0 := HBP3.out.1
            go_wp2_with fail
            go_loopw [38] (fun i wr => ∃ (t : Nat) (S : List Int) (pvv : Value), t ≤ l.length ∧ i = .int .i64 t ∧ Hid (S = keepP (l.take t) lq y) ∧ Hid (BoxAt wr xb [.int .i64 d, pvv]) ∧ Hid (OwnS wr WI.heap.size 3 pvv S.length (intsV S)) ∧ Hid (Off [xb] WI wr) ∧ Below w.heap.size w wr) (fun i _ => l.length - (intOf i).toNat)
            case atStart => exact ⟨0, [], _, Nat.zero_le _, rfl, rfl, HBX.out, OwnS.nil _ _ _, Off.refl _ _, kWI⟩
            case round =>
              obtain ⟨t, S, pvv, htl, rfl, hS, hBX, hOS, hOF, kb3⟩ := hrel
              generalize wr = w3 at *
              have kl3 := kb3.size
              obtain ⟨sa, sc, hse⟩ := (rows_of_ownS hOS.out).slice
              subst hse
              have hx1 := hBX.out.2.1 1 _ rfl
              have hx0 := hBX.out.2.1 0 _ rfl
              have hxl := hBX.out.1
              by_cases htt : t < l.length
              · obtain ⟨g3, off3, cap3, hve, hgl3, hc0⟩ := (HL.out.below kb3).cellI htt
                cases hve
                have hti : (t : Int) < (l.length : Int) := by omega
                have ht0i : (0 : Int) ≤ (t : Int) := by omega
                have hnb := HNB.out (l.getD t 0) (by simp [List.getD, htt])
                have hqbx := HBQ.out.offG hOF.out (by have := HORD.out.2.2.1; simp; omega)
                have hq1 := hqbx.2.1 1 _ rfl
                have hql := hqbx.1
                have hKS : Hid (keepP (l.take (t + 1)) lq y = S ++ (if decide (l.getD t 0 + y ∈ lq) then [l.getD t 0] else [])) := by
                  show _ = _
                  rw [keep_step htt, ← hS.out]
                have hSl : S.length ≤ t := by
                  rw [hS.out]
                  have := keep_len (l.take t) lq y
                  simp at this; omega
                obtain ⟨E, hE⟩ : ∃ E, decide (l.getD t 0 + y ∈ lq) = E := ⟨_, rfl⟩
                have HCT := fun W h => specHas lq (l.getD t 0 + y) E hE (.slice qa lq.length qc) W h (by omega)
                rw [hE] at hKS
                clear hE hqbx
                generalize l.getD t 0 = n at *
                have hny : IntKind.i64.wrap (n + y) = n + y := by rw [IntKind.wrap_i64]; omega
                go_wp2_with fail
                refine (HCT _ (HLQ.out.below kb3)).mono ?_
                rintro e w4 ⟨rfl, hb3⟩
                have kb4 : Below w.heap.size w w4 := kb3.trans (hb3.mono kl3)
                have kl4 := kb4.size
                have HO3 : Hid (OwnS w4 WI.heap.size 3 (.slice sa S.length sc) S.length (intsV S)) := hOS.out.below hb3
                have HB3 : Hid (BoxAt w4 xb [.int .i64 d, .slice sa S.length sc]) := hBX.out.below hb3
                have HF3 : Hid (Off [xb] WI w4) := off_below hOF.out hb3
                clear hb3 hc0 hgl3 hOS HCT hx1 hx0 hxl hBX hOF hq1 hql
                cases E with
                | false =>
                  have HKS2 : Hid (S = keepP (l.take (t + 1)) lq y) := by show _ = _; rw [hKS.out]; simp
                  go_wp2
                  refine ⟨?_, by simp [intOf]; omega⟩
                  first | exact ⟨t + 1, S, _, by omega, by go_num, HKS2, HB3, HO3, HF3, kb4⟩ | ((repeat apply Exists.intro); exact ⟨⟨t + 1, S, _, by omega, by go_num, HKS2, HB3, HO3, HF3, kb4⟩, rfl⟩)
                | true =>
                  have HKS2 : Hid (S ++ [n] = keepP (l.take (t + 1)) lq y) := by show _ = _; rw [hKS.out]; simp
                  have how := HO3.out
                  have hx1 := HB3.out.2.1 1 _ rfl
                  have hxl := HB3.out.1
                  have hWl4 := HF3.out.size
                  go_wp2_with (first | (at_builtin; refine wplS rfl _ _ 37 rfl WI.heap.size 3 i0 (.int .i64 0) 8 Try.underlying37 hi hz0 hz1 hz2 rfl _ _ _ rfl (how.alloc _) _ 1 [.int .i64 n] rfl (news1 _ _ _) ?c1 ?c2 ?c3 ?c4 ?_) | fail)
                  case c1 => first | rfl | (intro u hu; simp at hu; subst hu; rfl)
                  case c2 => unfold maxLen; omega
                  case c3 => omega
                  case c4 => first | omega | (simp; omega)
                  intro x1 w5 ho1 hg1 he1
                  obtain ⟨va2, vc2, hve⟩ := (rows_of_ownS ho1).slice
                  subst hve
                  have hob : ∀ g ∈ obl (.slice sa S.length sc), WI.heap.size ≤ g := fun g hg => (own_lt how g hg).1
                  have HB5 := ((HB3.out.below ((Below.refl _ _).alloc (Nat.le_refl _) _)).offG hg1 (fun hm => by have := hob _ hm; have := HORD.out.2.2.2.1; omega))
                  have hx5 := HB5.2.1 1 _ rfl
                  have hz5 := HB5.2.2 1 (by simp)
                  have hl5 := HB5.1
                  have HB6 : Hid (BoxAt (w5.setCell ⟨xb, 1, none⟩ (.slice va2 (S.length + 1) vc2)) xb [.int .i64 d, .slice va2 (S.length + 1) vc2]) := HB5.set (i := 1) (by simp) _
                  have HO6 : Hid (OwnS (w5.setCell ⟨xb, 1, none⟩ (.slice va2 (S.length + 1) vc2)) WI.heap.size 3 (.slice va2 (S.length + 1) vc2) (S ++ [n]).length (intsV (S ++ [n]))) := by
                    show OwnS _ _ _ _ _ _
                    have h8 : OwnS w5 WI.heap.size 3 (.slice va2 (S.length + 1) vc2) (S ++ [n]).length (intsV (S ++ [n])) := by simpa [intsV] using ho1
                    exact h8.off (offset1 _ _ _ _) (fun g hg hm => by simp at hm; subst hm; have := (own_lt h8 g hg).1; have := HORD.out.2.2.2.1; omega)
                  have hoffA : Off ([xb] ++ obl (.slice sa S.length sc)) WI (w5.setCell ⟨xb, 1, none⟩ (.slice va2 (S.length + 1) vc2)) :=
                    (((off_below HF3.out ((Below.refl _ _).alloc (Nat.le_refl _) _)).mono (fun g hg => .inl (by simp at hg; simp [hg]))).trans (hg1.mono (fun g hg => .inl (by simp [hg])))).trans ((offset1 _ _ _ _).mono (fun g hg => .inl (by simp at hg; simp [hg])))
                  have HF6 : Hid (Off [xb] WI (w5.setCell ⟨xb, 1, none⟩ (.slice va2 (S.length + 1) vc2))) := hoffA.mono (fun g hg => by
                    rcases List.mem_append.1 hg with h | h
                    · exact .inl h
                    · exact .inr (hob g h))
                  have kb6 : Below w.heap.size w (w5.setCell ⟨xb, 1, none⟩ (.slice va2 (S.length + 1) vc2)) := kWI.trans (HF6.out.below HORD.out.2.2.2.2 (fun g hg => by simp at hg; subst hg; have := HORD.out; omega))
                  clear ho1 hg1 he1 how hx1 hxl hob HB5 hoffA hWl4
                  go_wp2
                  refine ⟨?_, by simp [intOf]; omega⟩
                  first | exact ⟨t + 1, S ++ [n], _, by omega, by go_num, HKS2, HB6, HO6, HF6, kb6⟩ | ((repeat apply Exists.intro); exact ⟨⟨t + 1, S ++ [n], _, by omega, by go_num, HKS2, HB6, HO6, HF6, kb6⟩, rfl⟩)
              · have htl2 : t = l.length := by omega
                subst htl2
                have hS2 := hS.out
                rw [List.take_length] at hS2
                have hSl : S.length ≤ 1000 := by
                  rw [hS2]
                  have := keep_len l lq y
                  omega
                have HG6 : Hid (GrP w.heap.size w3 (.slice ob N.length od) N us) := HG3.out.off hOF.out (fun x hx hm => by simp at hm; subst hm; have := HFPL.out _ hx; have := HORD.out; omega)
                have HBP6 : Hid (BoxAt w3 pb [.int .i64 d, .slice pa l.length pc]) := HBP3.out.offG hOF.out (by have := HORD.out; simp; omega)
                by_cases hS0 : S = []
                · have HN3 : Hid ((N = N ++ M1 ∧ ∃ i, i < j + 1 ∧ (b.getD i default).1 = d) ∨ (N = N ∧ ∀ i, i < j + 1 → (b.getD i default).1 ≠ d)) := by
                    refine .inl ⟨?_, HY2.out⟩
                    have h5 := HM2.out
                    rw [HEQ.out, ← hS2, if_pos hS0] at h5
                    rw [h5, List.append_nil]
                  have hS0l : S.length = 0 := by rw [hS0]; rfl
                  rw [hS0l] at hx1
                  clear hS0 hS2 hS0l hS hOS
                  go_wp2_with fail
                  refine ⟨?_, by simp [intOf]; omega⟩
                  first | exact ⟨j + 1, us, N, by omega, by go_num, HN3, by omega, HG6, hPB, HBP6, kb3⟩ | ((repeat apply Exists.intro); exact ⟨⟨j + 1, us, N, by omega, by go_num, HN3, by omega, HG6, hPB, HBP6, kb3⟩, rfl⟩)
                · have HN3 : Hid ((N ++ [(d, S)] = N ++ M1 ∧ ∃ i, i < j + 1 ∧ (b.getD i default).1 = d) ∨ (N ++ [(d, S)] = N ∧ ∀ i, i < j + 1 → (b.getD i default).1 ≠ d)) := by
                    refine .inl ⟨?_, HY2.out⟩
                    have h5 := HM2.out
                    rw [HEQ.out, ← hS2, if_neg hS0] at h5
                    rw [h5]
                  have hSp : 0 < S.length := List.length_pos_iff.2 hS0
                  have hS0l : decide ((0 : Int) < (S.length : Int)) = true := by
                    simp; omega
                  have how := HG6.out.row
                  have hPD : Hid (∀ x ∈ obl (.slice sa S.length sc), x ∉ fpG (.slice ob N.length od) us) := fun x hx hm => by
                    have h1 := (own_lt hOS.out x hx).1
                    have h2 := HFPL.out x hm
                    have := HORD.out
                    omega
                  have HNL : Hid (∀ z : Po, (N ++ [z]).length ≤ 1001) := fun z => by simp; omega
                  clear hS0 hS2 hS
                  go_wp2_with (first | (at_builtin; refine wplOwn rfl _ _ 26 rfl w.heap.size 39 j0 (.agg #[.int .i64 0, .slice none 0 0]) 2 32 Try.underlying26 hj hy0 hy1 hy2 rfl (by decide) _ _ _ rfl (how.alloc _) _ 1 [.int .i64 d, .slice sa S.length sc] rfl (news2 _ _ _ _) ?c1 ?c2 ?c3 ?c4 ?_) | fail)
                  case c1 => first | rfl | (intro u hu; simp at hu; rcases hu with rfl | rfl <;> rfl)
                  case c2 => unfold maxLen; omega
                  case c3 => omega
                  case c4 => first | omega | (simp; omega)
                  intro x1 w4 ho1 hg1 he1
                  have hown0 := hOS.out.alloc (.cells #[.int .i64 d, .slice sa S.length sc] 39)
                  have HGF : Hid (GrP w.heap.size w4 x1 (N ++ [(d, S)]) (us ++ [.slice sa S.length sc])) :=
                    GrP.snoc (HG6.out.below ((Below.refl _ _).alloc (Nat.le_refl _) _)) (own_mono hown0 HORD.out.2.2.2.2) hPD.out ho1 hg1 (by simpa using he1)
                  have HBP7 : Hid (BoxAt w4 pb [.int .i64 d, .slice pa l.length pc]) := (HBP6.out.below ((Below.refl _ _).alloc (Nat.le_refl _) _)).otherBy' hg1 (fun e => hPB.out pb (mem_fpG.2 (.inl e)) rfl)
                  have hpbw : pb < w3.heap.size := HBP6.out.1
                  have HPB7 : Hid (∀ x ∈ fpG x1 (us ++ [.slice sa S.length sc]), x ≠ pb) := fun x hx e => by
                    subst e
                    rcases mem_fpG.1 hx with h1 | ⟨i, hi, h1⟩
                    · rcases he1 with h2 | h2
                      · rw [h2] at h1; exact hPB.out _ (mem_fpG.2 (.inl h1)) rfl
                      · rw [h2] at h1; simp at h1; omega
                    · rw [getD_snocV] at h1
                      split at h1
                      · have := (own_lt hOS.out _ h1).1; have := HORD.out; omega
                      · split at h1
                        · rename_i h3; exact hPB.out _ (mem_fpG.2 (.inr ⟨i, h3, h1⟩)) rfl
                        · cases h1
                  obtain ⟨va2, vc2, hve⟩ := HGF.out.slice
                  subst hve
                  have HK4 : Below w.heap.size w w4 := Below.grown (kb3.alloc kl3 _) hg1 (by simp; omega) (fun q hq => (how.lt q hq).1)
                  clear ho1 hg1 he1 how hown0
                  go_wp2
                  refine ⟨?_, by simp [intOf]; omega⟩
                  first | exact ⟨j + 1, _, _, by omega, by go_num, HN3, HNL.out _, HGF, HPB7, HBP7, HK4⟩ | ((repeat apply Exists.intro); exact ⟨⟨j + 1, _, _, by omega, by go_num, HN3, HNL.out _, HGF, HPB7, HBP7, HK4⟩, rfl⟩)
          · have hdn : (d != dq) = true := by simp [hd]
            have HN2 : Hid ((N = Mk ++ M1 ∧ ∃ i, i < j + 1 ∧ (b.getD i default).1 = d) ∨ (N = Mk ∧ ∀ i, i < j + 1 → (b.getD i default).1 ≠ d)) := by
              rcases hN.out with ⟨h1, i, hi, h⟩ | ⟨h1, h2⟩
              · exact .inl ⟨h1, i, by omega, h⟩
              · exact .inr ⟨h1, HNO.out (fun h => hd h.symm) h2⟩
            have HG3 : ∀ W, Below w2.heap.size w2 W → Hid (GrP w.heap.size W (.slice ob N.length od) N us) ∧ Hid (BoxAt W pb [.int .i64 d, .slice pa l.length pc]) := fun W hW => ⟨hG2.out.below hW, HBP2.out.below hW⟩
            have HG4 := hid HG3
            clear HNF HPLC HNO HYS hN hd HG3
            go_wp2_with fail
            refine ⟨?_, by simp [intOf]; omega⟩
            first | exact ⟨j + 1, us, N, by omega, by go_num, HN2, hNl, (HG4.out _ (by go_grown)).1, hPB, (HG4.out _ (by go_grown)).2, by go_grown⟩ | ((repeat apply Exists.intro); exact ⟨⟨j + 1, us, N, by omega, by go_num, HN2, hNl, (HG4.out _ (by go_grown)).1, hPB, (HG4.out _ (by go_grown)).2, by go_grown⟩, rfl⟩)
        · have hji : ¬ (j : Int) < (b.length : Int) := by omega
          have hje : j = b.length := by omega
          have HNM : Hid (N = meetP (a.take (k + 1)) b y) := by
            show _ = _
            rw [HST.out]
            rcases hN.out with ⟨h, _⟩ | ⟨h, h2⟩
            · exact h
            · have h3 : plcs b d = [] := plcs_none (fun i hi => h2 i (by omega))
              have h4 : keepP l (plcs b d) y = [] := by rw [h3]; simp [keepP]
              have h5 := HM2.out
              rw [if_pos h4] at h5
              rw [h, h5, List.append_nil]
          have HGF : Hid (GrP w.heap.size w2 (.slice ob N.length od) (meetP (a.take (k + 1)) b y) us) := by
            show GrP _ _ _ _ _
            rw [← HNM.out]; exact hG2.out
          clear hN HNM
          go_wp2_with fail
          refine ⟨?_, by simp [intOf]; omega⟩
          first | exact ⟨k + 1, us, by omega, by go_num, HGF, kb2⟩ | ((repeat apply Exists.intro); exact ⟨⟨k + 1, us, by omega, by go_num, HGF, kb2⟩, rfl⟩)
    · have hki : ¬ (k : Int) < (a.length : Int) := by omega
      have hke : k = a.length := by omega
      subst hke
      have hG2 := hG.out
      rw [List.take_length] at hG2 ⊢
      have HG2 := hid hG2
      clear hG hG2
      go_wp2
      go_ret
      exact ⟨⟨_, rfl, vs, HG2.out⟩, kb⟩
end Go.Proofs.Ytkkmnegmghllpaa
