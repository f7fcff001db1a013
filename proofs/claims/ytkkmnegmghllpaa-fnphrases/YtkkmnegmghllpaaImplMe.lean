/- Contract of the program's meeting of posts. Condition: the posts lie in memory, within small bounds. -/
import Derived.Test.YtkkmnegmghllpaaPostG
import Derived.Test.YtkkmnegmghllpaaHasL
import Derived.Test.YtkkmnegmghllpaaSpecWo
namespace Go.Proofs.Ytkkmnegmghllpaa
open Go.ChangeShapes Go.WideShapes Go.ChangeAt Go.RowKit Go.Deep
set_option linter.unusedVariables false
attribute [local go_sem ↓] Go.wp_at_zero Go.wp_at_succ

theorem infoIn2 : (Try.prog.info? 3).map (fun i => (i.zero, i.size, i.bytes)) = some (some (.int .i64 0), 1, 8) := by kernel_rfl
def keepP (l o : List Int) (y : Int) : List Int := l.filter (fun n => decide (n + y ∈ o))
def meet1 (p : Po) (b : List Po) (y : Int) : List Po := if keepP p.2 (plcs b p.1) y = [] then [] else [(p.1, keepP p.2 (plcs b p.1) y)]
def meetP (a b : List Po) (y : Int) : List Po := a.flatMap (fun p => meet1 p b y)
theorem take_snocI (l : List Int) (k : Nat) (h : k < l.length) : l.take (k + 1) = l.take k ++ [l.getD k 0] := by
  rw [List.take_succ_eq_append_getElem h]; simp [List.getD, h]
theorem keep_step {l o : List Int} {y : Int} {k : Nat} (h : k < l.length) : keepP (l.take (k + 1)) o y = keepP (l.take k) o y ++ (if decide (l.getD k 0 + y ∈ o) then [l.getD k 0] else []) := by
  rw [take_snocI l k h]
  unfold keepP
  rw [List.filter_append, List.filter_cons, List.filter_nil]
theorem keep_len (l o : List Int) (y : Int) : (keepP l o y).length ≤ l.length := List.length_filter_le _ _
theorem meet_step {a b : List Po} {y : Int} {k : Nat} (h : k < a.length) : meetP (a.take (k + 1)) b y = meetP (a.take k) b y ++ meet1 (a.getD k default) b y := by
  rw [takeL2 a k h]; simp [meetP]
theorem meet1_len (p : Po) (b : List Po) (y : Int) : (meet1 p b y).length ≤ 1 := by
  unfold meet1; split <;> simp
theorem meetP_len (b : List Po) (y : Int) : ∀ a : List Po, (meetP a b y).length ≤ a.length
  | [] => by simp [meetP]
  | p :: a => by
    have h1 := meet1_len p b y
    have h2 := meetP_len b y a
    simp only [meetP, List.flatMap_cons, List.length_append, List.length_cons] at h2 ⊢
    omega
/-- Within small bounds. -/
def SmP (ps : List Po) : Prop := ps.length ≤ 1000 ∧ ∀ p ∈ ps, p.2.length ≤ 1000 ∧ ∀ n ∈ p.2, 0 ≤ n ∧ n ≤ 1000
theorem IntsAt.cellI {w : World} {v : Value} {l : List Int} (h : IntsAt w v l) {k : Nat} (hk : k < l.length) : ∃ b off cap, v = .slice (some ⟨b, off, none⟩) l.length cap ∧ b < w.heap.size ∧ w.cell? ⟨b, off + k, none⟩ = some (.int .i64 (l.getD k 0)) := by
  rcases h with ⟨_, _, _, e⟩ | ⟨b, off, cap, e, hb, hcell⟩
  · rw [e] at hk; simp at hk
  · exact ⟨b, off, cap, e, hb, hcell k hk⟩
set_option maxHeartbeats 12800000 in
set_option maxRecDepth 100000 in
theorem implMeet (av bv : Value) (a b : List Po) (y : Int) (w : World) (ha : PosAt w av a) (hb : PosAt w bv b) (sa : SmP a) (sb : SmP b) (hy : -1000 ≤ y ∧ y ≤ 1000) :
    Calls Try.prog 68 #[av, bv, .int .i64 y] w fun e w' => (∃ v vs, e = .returned v ∧ GrP w.heap.size w' v (meetP a b y) vs) ∧ Below w.heap.size w w' := by
  obtain ⟨i0, hi, hzz⟩ := Option.map_eq_some_iff.1 infoIn2
  simp only [Prod.mk.injEq] at hzz
  obtain ⟨hz0, hz1, hz2⟩ := hzz
  obtain ⟨j0, hj, hyy⟩ := Option.map_eq_some_iff.1 infoPo2
  simp only [Prod.mk.injEq] at hyy
  obtain ⟨hy0, hy1, hy2⟩ := hyy
  have HA := hid ha
  have HB := hid hb
  have HSA := hid sa
  have HSB := hid sb
  have hal := sa.1
  have hbl := sb.1
  obtain ⟨aa, ac, hae⟩ := ha.slice
  subst hae
  obtain ⟨ba, bc, hbe⟩ := hb.slice
  subst hbe
  clear ha hb sa sb
  go_enter Try.func68, Try.ntmps68
  go_wp2
  go_loopw [7, 16] (fun o i wr => ∃ (k : Nat) (vs : List Value), k ≤ a.length ∧ i = .int .i64 k ∧ Hid (GrP w.heap.size wr o (meetP (a.take k) b y) vs) ∧ Below w.heap.size w wr) (fun _ i _ => a.length - (intOf i).toNat)
  case atStart => exact ⟨0, [], Nat.zero_le _, rfl, GrP.nil _ _, by go_grown⟩
  case round =>
    obtain ⟨k, vs, hk, rfl, hG, kb⟩ := hrel
    have kl := kb.size
    obtain ⟨oa, oc, hoe⟩ := hG.out.slice
    subst hoe
    by_cases hlt : k < a.length
    · obtain ⟨g, off, cap, hve, hgl, hpo⟩ := (HA.out.below kb).rows hlt
      cases hve
      obtain ⟨pv, p0, p1, hlp⟩ := hpo
      have hki : (k : Int) < (a.length : Int) := by omega
      have hk0i : (0 : Int) ≤ (k : Int) := by omega
      have hsm := HSA.out.2 (a.getD k default) (getD_memL a k hlt)
      have HST : Hid (meetP (a.take (k + 1)) b y = meetP (a.take k) b y ++ meet1 (a.getD k default) b y) := meet_step hlt
      have hml := meetP_len b y (a.take k)
      have hmk : (a.take k).length ≤ k := by simp; omega
      have HP := fun W h => implPlaces (.slice ba b.length bc) b (a.getD k default).1 W h (by omega)
      have hol : (plcs b (a.getD k default).1).length ≤ 1000 := plcs_len (fun p hp => (HSB.out.2 p hp).1)
      obtain ⟨M1, hM1⟩ : ∃ M1, M1 = meet1 (a.getD k default) b y := ⟨_, rfl⟩
      have HM1 := hid hM1
      unfold meet1 at hM1
      rw [← HM1.out] at HST
      obtain ⟨O, hO⟩ : ∃ O, O = plcs b (a.getD k default).1 := ⟨_, rfl⟩
      rw [← hO] at HP hol hM1
      have HL := hid hlp
      have hplen := hsm.1
      have HNB := hid hsm.2
      have HM2 := hid hM1
      obtain ⟨pa, pc, hpe⟩ := hlp.slice
      subst hpe
      clear hlp hsm hM1 HM1 hO
      generalize (a.getD k default).1 = d at *
      generalize (a.getD k default).2 = l at *
      generalize hMk : meetP (a.take k) b y = Mk at *
      have hMl : Mk.length ≤ 1000 := by omega
      clear hml hmk hMk
      have hx := boxNew wr #[.int .i64 d, .slice pa l.length pc] 39
      have x0 := hx.2.1 0 _ rfl
      have x1 := hx.2.1 1 _ rfl
      go_wp2_with fail
      refine (HP _ (HB.out.below (Below.trans kb (by go_grown)))).mono ?_
      rintro e w1 ⟨⟨ov, rfl, hov⟩, hb1⟩
      have k1 : Below w.heap.size w w1 := by
        refine Below.trans ?_ (hb1.mono ?_)
        · go_grown
        · go_size
      have hx1 := boxOf1 hb1
      have hyy0 := hx1.2.1 0 _ rfl
      have hyy1 := hx1.2.1 1 _ rfl
      have HBX : Hid (BoxAt w1 wr.heap.size [.int .i64 d, .slice pa l.length pc]) := hx1
      have hbx := hx1.1
      have HG1 : Hid (GrP w.heap.size w1 (.slice oa Mk.length oc) Mk vs) := hG.out.below (Below.trans (by go_grown) (hb1.mono (by go_size)))
      have HL1 : Hid (IntsAt w1 (.slice pa l.length pc) l) := HL.out.below (Below.trans (by go_grown) (hb1.mono (by go_size)))
      have HOV := hid hov
      obtain ⟨va, vc, hve⟩ := hov.slice
      subst hve
      have hwl : w.heap.size ≤ w1.heap.size := k1.size
      have hbxw : w.heap.size ≤ wr.heap.size := kl
      clear hb1 hx1 x0 x1 hx HP p0 p1 hG HL hov hgl
      generalize wr.heap.size = bx at *
      go_wp2_with fail
      go_loopw [11, 27] (fun o i wr => ∃ (j : Nat) (S : List Int), j ≤ l.length ∧ i = .int .i64 j ∧ Hid (S = keepP (l.take j) O y) ∧ Hid (OwnS wr w1.heap.size 3 o S.length (intsV S)) ∧ Below w1.heap.size w1 wr) (fun _ i _ => l.length - (intOf i).toNat)
      case atStart => exact ⟨0, [], Nat.zero_le _, rfl, rfl, OwnS.nil _ _ _, Below.refl _ _⟩
      case round =>
        obtain ⟨j, S, hjl, rfl, hS, hOS, kb2⟩ := hrel
        generalize wr = w2 at *
        have kl2 := kb2.size
        obtain ⟨sa, sc, hse⟩ := (rows_of_ownS hOS.out).slice
        subst hse
        by_cases hjt : j < l.length
        · obtain ⟨g2, off2, cap2, hve, hgl2, hc0⟩ := (HL1.out.below kb2).cellI hjt
          cases hve
          have hji : (j : Int) < (l.length : Int) := by omega
          have hj0i : (0 : Int) ≤ (j : Int) := by omega
          have hnb := HNB.out (l.getD j 0) (by simp [List.getD, hjt])
          have hKS : Hid (keepP (l.take (j + 1)) O y = S ++ (if decide (l.getD j 0 + y ∈ O) then [l.getD j 0] else [])) := by
            show _ = _
            rw [keep_step hjt, ← hS.out]
          have hSl : S.length ≤ j := by
            rw [hS.out]
            have := keep_len (l.take j) O y
            simp at this; omega
          obtain ⟨E, hE⟩ : ∃ E, decide (l.getD j 0 + y ∈ O) = E := ⟨_, rfl⟩
          have HCT := fun W h => implContains O (l.getD j 0 + y) E hE (.slice va O.length vc) W h (by omega)
          have HE := hid hE
          rw [hE] at hKS
          clear hE
          generalize l.getD j 0 = n at *
          have hny : IntKind.i64.wrap (n + y) = n + y := by rw [IntKind.wrap_i64]; omega
          go_wp2_with fail
          refine (HCT _ (HOV.out.below kb2)).mono ?_
          rintro e w3 ⟨rfl, hb3⟩
          have kb3 : Below w1.heap.size w1 w3 := kb2.trans (hb3.mono kl2)
          have kl3 := kb3.size
          have HO3 : Hid (OwnS w3 w1.heap.size 3 (.slice sa S.length sc) S.length (intsV S)) := hOS.out.below hb3
          clear hb3 hc0 hgl2 hOS HCT
          cases E with
          | false =>
            have HKS2 : Hid (S = keepP (l.take (j + 1)) O y) := by show _ = _; rw [hKS.out]; simp
            go_wp2
            refine ⟨?_, by simp [intOf]; omega⟩
            first | exact ⟨j + 1, S, by omega, by go_num, HKS2, HO3, kb3⟩ | ((repeat apply Exists.intro); exact ⟨⟨j + 1, S, by omega, by go_num, HKS2, HO3, kb3⟩, rfl⟩)
          | true =>
            have HKS2 : Hid (S ++ [n] = keepP (l.take (j + 1)) O y) := by show _ = _; rw [hKS.out]; simp
            have how := HO3.out
            go_wp2_with (first | (at_builtin; refine wplS rfl _ _ 37 rfl w1.heap.size 3 i0 (.int .i64 0) 8 Try.underlying37 hi hz0 hz1 hz2 rfl _ _ _ rfl (how.alloc _) _ 1 [.int .i64 n] rfl (news1 _ _ _) ?c1 ?c2 ?c3 ?c4 ?_) | fail)
            case c1 => first | rfl | (intro u hu; simp at hu; subst hu; rfl)
            case c2 => unfold maxLen; omega
            case c3 => omega
            case c4 => first | omega | (simp; omega)
            intro x1 w4 ho1 hg1 he1
            obtain ⟨va2, vc2, hve⟩ := (rows_of_ownS ho1).slice
            subst hve
            have HO4 : Hid (OwnS w4 w1.heap.size 3 (.slice va2 (S.length + 1) vc2) (S ++ [n]).length (intsV (S ++ [n]))) := by
              show OwnS _ _ _ _ _ _
              simpa [intsV] using ho1
            have HK4 : Below w1.heap.size w1 w4 := (kb3.alloc kb3.size _).trans (below_own (how.alloc _) (Nat.le_refl _) hg1 (by simp; omega))
            clear ho1 hg1 he1 how
            go_wp2
            refine ⟨?_, by simp [intOf]; omega⟩
            first | exact ⟨j + 1, S ++ [n], by omega, by go_num, HKS2, HO4, HK4⟩ | ((repeat apply Exists.intro); exact ⟨⟨j + 1, S ++ [n], by omega, by go_num, HKS2, HO4, HK4⟩, rfl⟩)
        · have hjl2 : j = l.length := by omega
          subst hjl2
          have hS2 := hS.out
          rw [List.take_length] at hS2
          have hSl : S.length ≤ 1000 := by
            rw [hS2]
            have := keep_len l O y
            omega
          have HG2 : Hid (GrP w.heap.size w2 (.slice oa Mk.length oc) Mk vs) := HG1.out.below kb2
          have k2 : Below w.heap.size w w2 := k1.trans (kb2.mono hwl)
          have kl2' := k2.size
          by_cases hS0 : S = []
          · have HM3 : Hid (meetP (a.take (k + 1)) b y = Mk) := by
              show _ = _
              rw [HST.out, HM2.out, ← hS2, if_pos hS0, List.append_nil]
            have hS0l : S.length = 0 := by rw [hS0]; rfl
            have HGF : Hid (GrP w.heap.size w2 (.slice oa Mk.length oc) (meetP (a.take (k + 1)) b y) vs) := by
              show GrP _ _ _ _ _
              rw [HM3.out]; exact HG2.out
            rw [hS0l]
            clear hS0 hS2 hS0l HG2 hS hOS
            go_wp2_with fail
            exact ⟨⟨k + 1, vs, by omega, by go_num, HGF, k2⟩, by simp [intOf]; omega⟩
          · have HM3 : Hid (meetP (a.take (k + 1)) b y = Mk ++ [(d, S)]) := by
              show _ = _
              rw [HST.out, HM2.out, ← hS2, if_neg hS0]
            have hS0l : decide ((0 : Int) < (S.length : Int)) = true := by
              have := List.length_pos_iff.2 hS0
              simp; omega
            have hSp : 0 < S.length := List.length_pos_iff.2 hS0
            have HBX2 := HBX.out.below kb2
            have b0 := HBX2.2.1 0 _ rfl
            have hbx2 := HBX2.1
            have how := HG2.out.row
            have hPD : Hid (∀ x ∈ obl (.slice sa S.length sc), x ∉ fpG (.slice oa Mk.length oc) vs) := fun x hx hm => by
              have h1 := (own_lt hOS.out x hx).1
              have h2 := (HG1.out.lt x hm).2
              omega
            clear hS0 hS2 hS
            go_wp2_with (first | (at_builtin; refine wplOwn rfl _ _ 26 rfl w.heap.size 39 j0 (.agg #[.int .i64 0, .slice none 0 0]) 2 32 Try.underlying26 hj hy0 hy1 hy2 rfl (by decide) _ _ _ rfl (how.alloc _) _ 1 [.int .i64 d, .slice sa S.length sc] rfl (news2 _ _ _ _) ?c1 ?c2 ?c3 ?c4 ?_) | fail)
            case c1 => first | rfl | (intro u hu; simp at hu; rcases hu with rfl | rfl <;> rfl)
            case c2 => unfold maxLen; omega
            case c3 => omega
            case c4 => first | omega | (simp; omega)
            intro x1 w4 ho1 hg1 he1
            have HGF : Hid (GrP w.heap.size w4 x1 (meetP (a.take (k + 1)) b y) (vs ++ [.slice sa S.length sc])) := by
              show GrP _ _ _ _ _
              rw [HM3.out]
              exact GrP.snoc (HG2.out.below ((Below.refl _ _).alloc (Nat.le_refl _) _)) (own_mono (hOS.out.alloc _) hwl) hPD.out ho1 hg1 (by simpa using he1)
            obtain ⟨va2, vc2, hve⟩ := HGF.out.slice
            subst hve
            have HK4 : Below w.heap.size w w4 := Below.grown (k2.alloc kl2' _) hg1 (by simp; omega) (fun q hq => (how.lt q hq).1)
            clear ho1 hg1 he1 how
            go_wp2
            refine ⟨?_, by simp [intOf]; omega⟩
            first | exact ⟨k + 1, _, by omega, by go_num, HGF, HK4⟩ | ((repeat apply Exists.intro); exact ⟨⟨k + 1, _, by omega, by go_num, HGF, HK4⟩, rfl⟩)
    · have hki : ¬ (k : Int) < (a.length : Int) := by omega
      have hke : k = a.length := by omega
      subst hke
      have hG2 := hG.out
      rw [List.take_length] at hG2 ⊢
      have HG2 := hid hG2
      clear hG hG2
      go_wp2
      go_ret
      exact ⟨⟨_, rfl, vs, HG2.out⟩, kb⟩
end Go.Proofs.Ytkkmnegmghllpaa
