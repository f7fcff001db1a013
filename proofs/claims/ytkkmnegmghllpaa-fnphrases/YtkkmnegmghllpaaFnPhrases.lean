/- At every two lists of bytes the function FnPhrases returns true and leaves its arguments as they were: a phrase stands where its words stand one behind the other, and near is near from both sides. No condition. -/
import Derived.Test.YtkkmnegmghllpaaSameP9
import Derived.Test.YtkkmnegmghllpaaDrawM9
import Derived.Lib.SmallJoins
namespace Go.Proofs.Ytkkmnegmghllpaa.fnPhrases
open Go.ChangeShapes Go.WideShapes Go.ChangeAt Go.RowKit Go.Joins Go.Deep
open Go.ChangeMaps (open_string shut_string)
set_option linter.unusedVariables false
attribute [local go_sem ↓] Go.wp_at_zero Go.wp_at_succ

theorem strs_sub {w : World} {b off c : Nat} {L ws : List ByteArray} {i : Nat} (h : StrsAt w (.slice (some ⟨b, off, none⟩) L.length c) L) (hi : i + ws.length ≤ L.length) (hw : 1 ≤ ws.length) (ht : (L.drop i).take ws.length = ws) (cc : Nat) : StrsAt w (.slice (some ⟨b, off + i, none⟩) ws.length cc) ws := by
  rcases h with ⟨a, c', e, e2⟩ | ⟨b', off', cap', e, hb, hc⟩
  · have : L.length = 0 := by rw [e2]; rfl
    omega
  · simp only [Value.slice.injEq, Option.some.injEq, Addr.mk.injEq, and_true, true_and] at e
    obtain ⟨⟨rfl, rfl⟩, rfl⟩ := e
    refine .inr ⟨b, off + i, cc, rfl, hb, fun j hj => ?_⟩
    rw [Nat.add_assoc, hc (i + j) (by omega)]
    have h2 : ws.getD j ByteArray.empty = ((L.drop i).take ws.length).getD j ByteArray.empty := by rw [ht]
    rw [h2]
    simp [List.getD, hj, List.getElem?_drop]
set_option maxRecDepth 100000 in
set_option maxHeartbeats 12800000 in
theorem walk0 (v0 : Value) (n0 : Nat) (v1 : Value) (n1 : Nat) (w : World) (hc0 : CodeAt w v0 n0) (hc1 : CodeAt w v1 n1) (hn : n0 + n1 ≤ 1048576) :
    Calls Try.prog 4 #[v0, v1] w fun e w' => e = .returned (.bool true) ∧ Below w.heap.size w w' := by
  have HC0 := hide hc0
  have HC1 := hide hc1
  obtain ⟨ad0, c0, rfl⟩ : ∃ ad c, v0 = .slice ad n0 c := by
    obtain ⟨ad, c, e, _⟩ := hc0
    exact ⟨ad, c, e⟩
  obtain ⟨ad1, c1, rfl⟩ : ∃ ad c, v1 = .slice ad n1 c := by
    obtain ⟨ad, c, e, _⟩ := hc1
    exact ⟨ad, c, e⟩
  have k0 : Below w.heap.size w w := Below.refl _ _
  have hbig : ¬ (1048576 : Int) < (n0 : Int) + (n1 : Int) := by omega
  clear hc0 hc1
  go_enter Try.func4, Try.ntmps4
  go_wp2_with fail
  refine (drawPhrase _ n0 _ HC0.out).mono ?_
  rintro e w1 ⟨x, y, ds, ws, rfl, ho, ho2, hdl, hA, hwl, hA2, hb1⟩
  have k1 : Below w.heap.size w w1 := k0.trans (hb1.mono k0.size)
  replace HC1 := hide (HC1.out.below hb1)
  have HX := hide (OwnA.ofStrs ho).1.strs
  have HY := hide (OwnA.ofStrs ho2).1.strs
  have HSZ : Hid (∀ u ∈ ds, u.size ≤ 1048576) := fun u hu => by have := hA u hu; omega
  have HSW : Hid (∀ u ∈ ws, u.size ≤ 1048576) := fun u hu => by have := hA2 u hu; omega
  obtain ⟨xa, xc, hxe⟩ := (rows_of_ownS ho).slice
  subst hxe
  obtain ⟨ya, yc, hye⟩ := (rows_of_ownS ho2).slice
  subst hye
  clear ho ho2 hA hA2 HC0
  clear hb1
  have hAb := phA_bd ds ws
  have HGX : Hid (phB ds ws = true → docsB ds = true ∧ ws.all wdB = true ∧ (1 ≤ ws.length ∧ ws.length ≤ 4) ∧ phA ds ws = phK ds ws (ws.length - 1)) := fun h => by
    have h1 := h
    unfold phB at h1
    rw [Bool.and_eq_true, Bool.and_eq_true] at h1
    exact ⟨h1.1.1, h1.1.2, of_decide_eq_true h1.2, by unfold phA; rw [h, if_pos rfl]⟩
  have HIP0 := fun x y W h g => implPhrase x y ds ws W h g (by omega) HSZ.out (by omega) HSW.out
  have HSP0 := fun x y W h g => specPhrase x y ds ws W h g (by omega) HSZ.out (by omega) HSW.out
  obtain ⟨B, hB⟩ : ∃ B, B = phB ds ws := ⟨_, rfl⟩
  obtain ⟨A, hA⟩ : ∃ A, A = phA ds ws := ⟨_, rfl⟩
  rw [← hB, ← hA] at HIP0 HSP0 HGX
  rw [← hA] at hAb
  have HIP : ∀ x y W, StrsAt W x ds → StrsAt W y ws → Calls Try.prog 29 #[x, y] W fun e w' => ∃ v, e = .returned (.tuple #[v, .bool B]) ∧ PosAt w' v A ∧ Below W.heap.size W w' := fun x y W h g => (HIP0 x y W h g).mono fun e w' ⟨⟨v, vs, h1, h2⟩, h3⟩ => ⟨v, h1, h2.at, h3⟩
  have HSP : ∀ x y W, StrsAt W x ds → StrsAt W y ws → Calls Try.prog 30 #[x, y] W fun e w' => ∃ v, e = .returned (.tuple #[v, .bool B]) ∧ PosAt w' v A ∧ Below W.heap.size W w' := fun x y W h g => (HSP0 x y W h g).mono fun e w' ⟨⟨v, vs, h1, h2⟩, h3⟩ => ⟨v, h1, h2.at, h3⟩
  have HEQP := fun x y W h g => samePos x y A W h g (by omega) (fun p hp => by have := sumL_mem hp; omega)
  have hbn : (B != B) = false := by cases B <;> rfl
  clear HIP0 HSP0 hB hA
  go_wp2_with fail
  refine (HIP _ _ _ HX.out HY.out).mono ?_
  rintro e w2 ⟨pl, rfl, hpl, hb2⟩
  have k2 : Below w.heap.size w w2 := k1.trans (hb2.mono k1.size)
  replace HC1 := hide (HC1.out.below hb2)
  replace HX := hide (HX.out.below hb2)
  replace HY := hide (HY.out.below hb2)
  have Hpl := hide hpl
  obtain ⟨apl, cpl, hve⟩ := hpl.slice
  subst hve
  clear hpl
  clear hb2
  go_wp2_with fail
  refine (HSP _ _ _ HX.out HY.out).mono ?_
  rintro e w3 ⟨pm, rfl, hpm, hb3⟩
  have k3 : Below w.heap.size w w3 := k2.trans (hb3.mono k2.size)
  replace HC1 := hide (HC1.out.below hb3)
  replace HX := hide (HX.out.below hb3)
  replace HY := hide (HY.out.below hb3)
  replace Hpl := hide (Hpl.out.below hb3)
  have Hpm := hide hpm
  obtain ⟨apm, cpm, hve⟩ := hpm.slice
  subst hve
  clear hpm
  clear hb3
  go_wp2_with fail
  refine (HEQP _ _ _ Hpl.out Hpm.out).mono ?_
  rintro e w4 ⟨rfl, hb4⟩
  have k4 : Below w.heap.size w w4 := k3.trans (hb4.mono k3.size)
  replace HC1 := hide (HC1.out.below hb4)
  replace HX := hide (HX.out.below hb4)
  replace HY := hide (HY.out.below hb4)
  replace Hpl := hide (Hpl.out.below hb4)
  replace Hpm := hide (Hpm.out.below hb4)
  clear hb4
  clear HIP HSP HEQP Hpm
  cases B
  case false =>
    have kT : Below w.heap.size w w4 := k4.trans ((Below.refl w4.heap.size w4).mono k4.size)
    replace HC1 := hide (HC1.out.below (Below.refl w4.heap.size w4))
    clear HX HY Hpl
    go_wp2_with fail
    refine (drawNear _ n1 _ HC1.out).mono ?_
    rintro e wa ⟨x, es, s, u, y, rfl, ho, hel, hA, hs4, hu4, hy0, hy1, hba⟩
    have ka : Below w.heap.size w wa := kT.trans (hba.mono kT.size)
    replace HC1 := hide (HC1.out.below hba)
    have HE := hide (OwnA.ofStrs ho).1.strs
    have HEZ : Hid (∀ q ∈ es, q.size ≤ 1048576) := fun q hq => by have := hA q hq; omega
    obtain ⟨ea, ec, hve⟩ := (rows_of_ownS ho).slice
    subst hve
    obtain ⟨N, hNE⟩ := neIs_ex es s u y
    have hNl := hNE.len
    have HIN0 := fun x W h => implNearIn x es s u y N hNE W h (by omega) HEZ.out (by omega) (by omega)
    have HSN0 := fun x W h => specNearIn x es s u y N hNE W h (by omega) HEZ.out (by omega) (by omega)
    have HBN0 := fun x W h => implNearIn x es u s y N (neIs_sym hNE) W h (by omega) HEZ.out (by omega) (by omega)
    obtain ⟨Bn, hBn⟩ : ∃ Bn, Bn = neB es s u y := ⟨_, rfl⟩
    rw [← hBn] at HIN0 HSN0
    rw [neB_sym, ← hBn] at HBN0
    have HIN : ∀ x W, StrsAt W x es → Calls Try.prog 32 #[x, .string s, .string u, .int .i64 y] W fun e w' => ∃ v, e = .returned (.tuple #[v, .bool Bn]) ∧ IntsAt w' v N ∧ Below W.heap.size W w' := fun x W h => (HIN0 x W h).mono fun e w' ⟨⟨v, h1, h2⟩, h3⟩ => ⟨v, h1, (OwnA.ofInts h2).1.ints, h3⟩
    have HSN : ∀ x W, StrsAt W x es → Calls Try.prog 33 #[x, .string s, .string u, .int .i64 y] W fun e w' => ∃ v, e = .returned (.tuple #[v, .bool Bn]) ∧ IntsAt w' v N ∧ Below W.heap.size W w' := fun x W h => (HSN0 x W h).mono fun e w' ⟨⟨v, h1, h2⟩, h3⟩ => ⟨v, h1, (OwnA.ofInts h2).1.ints, h3⟩
    have HBN : ∀ x W, StrsAt W x es → Calls Try.prog 32 #[x, .string u, .string s, .int .i64 y] W fun e w' => ∃ v, e = .returned (.tuple #[v, .bool Bn]) ∧ IntsAt w' v N ∧ Below W.heap.size W w' := fun x W h => (HBN0 x W h).mono fun e w' ⟨⟨v, h1, h2⟩, h3⟩ => ⟨v, h1, (OwnA.ofInts h2).1.ints, h3⟩
    have hbq : (Bn != Bn) = false := by cases Bn <;> rfl
    have HQI : Hid (∀ a b W, IntsAt W a N → IntsAt W b N → Calls Try.prog 34 #[a, b] W fun e w' => e = .returned (.bool true) ∧ Below W.heap.size W w') := fun a b W h g => by
      have h9 := sameI a b N N W h g (by omega) (by omega)
      rwa [decide_eq_true rfl] at h9
    clear HIN0 HSN0 HBN0 hBn hNE ho hA hba
    go_wp2_with fail
    refine (HIN _ _ HE.out).mono ?_
    rintro e wb ⟨v, rfl, hv, hbb⟩
    have kb2 : Below w.heap.size w wb := ka.trans (hbb.mono ka.size)
    replace HC1 := hide (HC1.out.below hbb)
    replace HE := hide (HE.out.below hbb)
    have HV1 := hide hv
    obtain ⟨na, nc, hve⟩ := hv.slice
    subst hve
    clear hv hbb HIN
    go_wp2_with fail
    refine (HSN _ _ HE.out).mono ?_
    rintro e wd ⟨v, rfl, hv, hbb⟩
    have kd2 : Below w.heap.size w wd := kb2.trans (hbb.mono kb2.size)
    replace HC1 := hide (HC1.out.below hbb)
    replace HE := hide (HE.out.below hbb)
    replace HV1 := hide (HV1.out.below hbb)
    have HV2 := hide hv
    obtain ⟨ma, mc, hve⟩ := hv.slice
    subst hve
    clear hv hbb HSN
    go_wp2_with fail
    refine (HQI.out _ _ _ HV1.out HV2.out).mono ?_
    rintro e we ⟨rfl, hbb⟩
    have ke2 : Below w.heap.size w we := kd2.trans (hbb.mono kd2.size)
    replace HC1 := hide (HC1.out.below hbb)
    replace HE := hide (HE.out.below hbb)
    replace HV1 := hide (HV1.out.below hbb)
    clear hbb HV2
    cases Bn
    case' true =>
      go_wp2_with fail
      refine (HBN _ _ HE.out).mono ?_
      rintro e wf2 ⟨v, rfl, hv, hbb⟩
      have kf2 : Below w.heap.size w wf2 := ke2.trans (hbb.mono ke2.size)
      replace HC1 := hide (HC1.out.below hbb)
      replace HV1 := hide (HV1.out.below hbb)
      have HV2 := hide hv
      obtain ⟨ma2, mc2, hve⟩ := hv.slice
      subst hve
      clear hv hbb
      go_wp2_with fail
      refine (HQI.out _ _ _ HV2.out HV1.out).mono ?_
      rintro e wg2 ⟨rfl, hbb⟩
      have kg2 : Below w.heap.size w wg2 := kf2.trans (hbb.mono kf2.size)
      replace HC1 := hide (HC1.out.below hbb)
      clear hbb HV2 HV1 HE HBN HQI
      go_upto_region 34 with fail
    case' false =>
      have kg2 := ke2
      clear HV1 HE HBN HQI
      generalize we = wg2 at *
      go_upto_region 34 with fail
    all_goals
      go_wp2_with fail
      refine (drawMeet _ n1 _ HC1.out).mono ?_
      rintro e wh ⟨px, pz, ps, qs, fy, rfl, hpx, hpz, l1, l2, l3, l4, hf0, hf1, hbm⟩
      have kh : Below w.heap.size w wh := kg2.trans (hbm.mono kg2.size)
      have HPX := hide hpx
      have HPZ := hide hpz
      obtain ⟨Ga, hGa⟩ : ∃ B : Bool, B = true ↔ GoodP ps := by
        by_cases hq : GoodP ps
        · exact ⟨true, ⟨fun _ => hq, fun _ => rfl⟩⟩
        · exact ⟨false, ⟨fun h => (by cases h), fun h => absurd h hq⟩⟩
      obtain ⟨Gb, hGb⟩ : ∃ B : Bool, B = true ↔ GoodP qs := by
        by_cases hq : GoodP qs
        · exact ⟨true, ⟨fun _ => hq, fun _ => rfl⟩⟩
        · exact ⟨false, ⟨fun h => (by cases h), fun h => absurd h hq⟩⟩
      have HS1 := hide (fun p hp => by have := l2 p hp; omega : ∀ p ∈ ps, p.2.length ≤ 1048576)
      have HS2 := hide (fun p hp => by have := l4 p hp; omega : ∀ p ∈ qs, p.2.length ≤ 1048576)
      have hMl : (mpA Ga Gb ps qs fy).length ≤ 12 := by
        unfold mpA
        split
        · exact Nat.le_trans (meetP_len qs fy ps) l1
        · simp
      have HMS : Hid (∀ p ∈ mpA Ga Gb ps qs fy, p.2.length ≤ 1048576) := fun p hp => by
        unfold mpA at hp
        split at hp
        · obtain ⟨q, hq, _, rfl⟩ := meet_mem.1 hp
          have h1 := keep_len q.2 (plcs qs q.1) fy
          have h2 := l2 q hq
          simp only
          omega
        · simp at hp
      have HIM0 := fun x z W h g => implMP x z ps qs Ga Gb hGa hGb fy W h g (by omega) (by omega) HS1.out HS2.out
      have HSM0 := fun x z W h g => specMP x z ps qs Ga Gb hGa hGb fy W h g (by omega) (by omega) HS1.out HS2.out
      have HBM0 := fun x z W h g => implMP z x qs ps Gb Ga hGb hGa (-fy) W g h (by omega) (by omega) HS2.out HS1.out
      have HGI := fun x W h => implGP x ps Ga hGa W h (by omega) HS1.out
      have HGS := fun x W h => specGP x ps Ga hGa W h (by omega) HS1.out
      have hbk : mpB Gb Ga (-fy) = mpB Ga Gb fy := by
        unfold mpB
        rw [Bool.and_comm Gb Ga]
        congr 1
        by_cases h : -20 ≤ fy ∧ fy ≤ 20
        · rw [decide_eq_true h, decide_eq_true (by omega)]
        · rw [decide_eq_false h, decide_eq_false (by omega)]
      have HMB : Hid (mpB Ga Gb fy = true → (mpA Gb Ga qs ps (-fy)).length = (mpA Ga Gb ps qs fy).length ∧ GoodP (mpA Ga Gb ps qs fy)) := fun h => by
        have h2 := h
        unfold mpB at h2
        rw [Bool.and_eq_true, Bool.and_eq_true] at h2
        have g1 := hGa.1 h2.1.1
        have g2 := hGb.1 h2.1.2
        unfold mpA
        rw [hbk, h, if_pos rfl, if_pos rfl]
        exact ⟨meet_back g1 g2 fy, meet_good g1 qs fy⟩
      obtain ⟨Bm, hBm⟩ : ∃ Bm, Bm = mpB Ga Gb fy := ⟨_, rfl⟩
      obtain ⟨M, hM⟩ : ∃ M, M = mpA Ga Gb ps qs fy := ⟨_, rfl⟩
      obtain ⟨M2, hM2⟩ : ∃ M2, M2 = mpA Gb Ga qs ps (-fy) := ⟨_, rfl⟩
      rw [hbk] at HBM0
      rw [← hBm, ← hM] at HIM0 HSM0
      rw [← hBm, ← hM2] at HBM0
      rw [← hBm, ← hM, ← hM2] at HMB
      rw [← hM] at hMl HMS
      have HIM : ∀ x z W, PosAt W x ps → PosAt W z qs → Calls Try.prog 36 #[x, z, .int .i64 fy] W fun e w' => ∃ v, e = .returned (.tuple #[v, .bool Bm]) ∧ PosAt w' v M ∧ Below W.heap.size W w' := fun x z W h g => (HIM0 x z W h g).mono fun e w' ⟨⟨v, vs, h1, h2⟩, h3⟩ => ⟨v, h1, h2.at, h3⟩
      have HSM : ∀ x z W, PosAt W x ps → PosAt W z qs → Calls Try.prog 37 #[x, z, .int .i64 fy] W fun e w' => ∃ v, e = .returned (.tuple #[v, .bool Bm]) ∧ PosAt w' v M ∧ Below W.heap.size W w' := fun x z W h g => (HSM0 x z W h g).mono fun e w' ⟨⟨v, vs, h1, h2⟩, h3⟩ => ⟨v, h1, h2.at, h3⟩
      have HBM : ∀ x z W, PosAt W x ps → PosAt W z qs → Calls Try.prog 36 #[z, x, .int .i64 (-fy)] W fun e w' => ∃ v, e = .returned (.tuple #[v, .bool Bm]) ∧ PosAt w' v M2 ∧ Below W.heap.size W w' := fun x z W h g => (HBM0 x z W h g).mono fun e w' ⟨⟨v, vs, h1, h2⟩, h3⟩ => ⟨v, h1, h2.at, h3⟩
      have hbx : (Bm != Bm) = false := by cases Bm <;> rfl
      have hgx : (Ga != Ga) = false := by cases Ga <;> rfl
      have hng : IntKind.i64.wrap (-fy) = -fy := by rw [IntKind.wrap_i64]; omega
      obtain ⟨pxa, pxc, hve⟩ := hpx.slice
      subst hve
      obtain ⟨pza, pzc, hve⟩ := hpz.slice
      subst hve
      clear HIM0 HSM0 HBM0 hBm hM hM2 hbk hpx hpz hbm hGa hGb HC1
      go_wp2_with fail
      refine (HIM _ _ _ HPX.out HPZ.out).mono ?_
      rintro e wi ⟨v, rfl, hv, hbb⟩
      have ki : Below w.heap.size w wi := kh.trans (hbb.mono kh.size)
      replace HPX := hide (HPX.out.below hbb)
      replace HPZ := hide (HPZ.out.below hbb)
      have HM1 := hide hv
      obtain ⟨m1a, m1c, hve⟩ := hv.slice
      subst hve
      clear hv hbb HIM
      go_wp2_with fail
      refine (HSM _ _ _ HPX.out HPZ.out).mono ?_
      rintro e wj ⟨v, rfl, hv, hbb⟩
      have kj : Below w.heap.size w wj := ki.trans (hbb.mono ki.size)
      replace HPX := hide (HPX.out.below hbb)
      replace HPZ := hide (HPZ.out.below hbb)
      replace HM1 := hide (HM1.out.below hbb)
      have HM2 := hide hv
      obtain ⟨m2a, m2c, hve⟩ := hv.slice
      subst hve
      clear hv hbb HSM
      go_wp2_with fail
      refine (samePos _ _ M _ HM1.out HM2.out (by omega) HMS.out).mono ?_
      rintro e wk ⟨rfl, hbb⟩
      have kk : Below w.heap.size w wk := kj.trans (hbb.mono kj.size)
      replace HPX := hide (HPX.out.below hbb)
      replace HPZ := hide (HPZ.out.below hbb)
      replace HM1 := hide (HM1.out.below hbb)
      clear hbb HM2
      go_wp2_with fail
      refine (HGI _ _ HPX.out).mono ?_
      rintro e wl ⟨rfl, hbb⟩
      have kl : Below w.heap.size w wl := kk.trans (hbb.mono kk.size)
      replace HPX := hide (HPX.out.below hbb)
      replace HPZ := hide (HPZ.out.below hbb)
      replace HM1 := hide (HM1.out.below hbb)
      clear hbb HGI
      go_wp2_with fail
      refine (HGS _ _ HPX.out).mono ?_
      rintro e wm ⟨rfl, hbb⟩
      have km : Below w.heap.size w wm := kl.trans (hbb.mono kl.size)
      replace HPX := hide (HPX.out.below hbb)
      replace HPZ := hide (HPZ.out.below hbb)
      replace HM1 := hide (HM1.out.below hbb)
      clear hbb HGS
      cases Bm
      · go_wp2_with fail
        go_returns
        exact ⟨rfl, km⟩
      · obtain ⟨hml, hmg⟩ := HMB.out rfl
        have hmi : ((M2.length : Int) == (M.length : Int)) = true := by rw [hml]; simp
        have HGM := hide (fun W h => implGP (.slice m1a M.length m1c) M true ⟨fun _ => hmg, fun _ => rfl⟩ W h (by omega) HMS.out)
        clear hml hmg HMB
        go_wp2_with fail
        refine (HBM _ _ _ HPX.out HPZ.out).mono ?_
        rintro e wn ⟨v, rfl, hv, hbb⟩
        have kn : Below w.heap.size w wn := km.trans (hbb.mono km.size)
        replace HM1 := hide (HM1.out.below hbb)
        obtain ⟨m3a, m3c, hve⟩ := hv.slice
        subst hve
        clear hv hbb HBM
        go_wp2_with fail
        refine (HGM.out _ HM1.out).mono ?_
        rintro e wo ⟨rfl, hbb⟩
        have ko : Below w.heap.size w wo := kn.trans (hbb.mono kn.size)
        clear hbb
        go_wp2_with fail
        go_returns
        exact ⟨rfl, ko⟩
  case true =>
    obtain ⟨hd, hwd, hwn, hAe⟩ := HGX.out rfl
    have HDB : Hid (docsB ds = true) := hd
    have HGA := hide hAe
    obtain ⟨hw1, hw4⟩ := hwn
    have hw0 : wdB (ws.getD 0 ByteArray.empty) = true := by
      rw [List.all_eq_true] at hwd
      exact hwd _ (getD_mem ws 0 (by omega))
    have hpo : poB ds (ws.getD 0 ByteArray.empty) = true := by unfold poB; rw [hd, hw0]; rfl
    have hpa : poA ds (ws.getD 0 ByteArray.empty) = psK ds (ws.getD 0 ByteArray.empty) ds.length := by unfold poA; rw [hpo, if_pos rfl]
    have h0s := HSW.out _ (getD_mem ws 0 (by omega))
    have HIO0 := fun x W h => implPosts x ds (ws.getD 0 ByteArray.empty) W h (by omega) HSZ.out h0s
    have hAl := phK_len ds ws (ws.length - 1)
    rw [← hAe] at hAl
    have HONE : Hid (ws.length = 1 → psK ds (ws.getD 0 ByteArray.empty) ds.length = A) := fun h => by
      rw [hAe, h]; rfl
    rw [hpo, hpa] at HIO0
    obtain ⟨A0, hA0⟩ : ∃ A0, A0 = psK ds (ws.getD 0 ByteArray.empty) ds.length := ⟨_, rfl⟩
    rw [← hA0] at HIO0 hAl HONE
    have HIO : Hid (∀ x W, StrsAt W x ds → Calls Try.prog 14 #[x, .string (ws.getD 0 ByteArray.empty)] W fun e w' => ∃ v, e = .returned (.tuple #[v, .bool true]) ∧ PosAt w' v A0 ∧ Below W.heap.size W w') := fun x W h => (HIO0 x W h).mono fun e w' ⟨⟨v, vs, h1, h2⟩, h3⟩ => ⟨v, h1, h2.at, h3⟩
    have HEQ := hide (fun x y W h g => samePos x y A W h g (by omega) (fun p hp => by have := sumL_mem hp; omega))
    clear hd hwd hAe HGX hw0 hpo hpa h0s HIO0 hA0
    go_wp2_with fail
    go_loopw [73] (fun i wr => ∃ k : Nat, k ≤ A.length ∧ i = .int .i64 (k : Int) ∧ Below w4.heap.size w4 wr) (fun i _ => A.length - (intOf i).toNat)
    case atStart => exact ⟨0, Nat.zero_le _, rfl, Below.refl _ _⟩
    case round =>
      obtain ⟨k, hk, rfl, kb⟩ := hrel
      have kl := kb.size
      by_cases hlt : k < A.length
      · obtain ⟨g, off, cap, hve, hgl, pv, p0, p1, hlp⟩ := (Hpl.out.below kb).rows hlt
        cases hve
        have hki : (k : Int) < (A.length : Int) := by omega
        have hk0 : (0 : Int) ≤ (k : Int) := by omega
        have hmem : A.getD k default ∈ phK ds ws (ws.length - 1) := by rw [← HGA.out]; exact getD_memL A k hlt
        obtain ⟨⟨q0, q1⟩, _⟩ := ph_at ds ws (ws.length - 1) _ hmem
        obtain ⟨D, hD⟩ : ∃ D : Nat, (A.getD k default).1 = (D : Int) := ⟨(A.getD k default).1.toNat, by omega⟩
        have hDl : D < ds.length := by omega
        have hDt : (A.getD k default).1.toNat = D := by omega
        have HPT : Hid (∀ n ∈ (A.getD k default).2, ∃ i : Nat, n = (i : Int) ∧ i + ws.length ≤ (docAt ds D).length ∧ ((docAt ds D).drop i).take ws.length = ws) := fun n hn => by
          have := ph_take hw1 hmem hn
          rwa [hDt] at this
        have hpl : (A.getD k default).2.length ≤ 240 := by have := sumL_mem (getD_memL A k hlt); omega
        have hyes := (docs_yes HDB.out).2 D hDl
        obtain ⟨hz1, hz2⟩ := doc_yes hyes
        have HIW := fun W => implWords (ds.getD D ByteArray.empty) (by unfold maxLen; omega) W
        obtain ⟨L, hL⟩ : ∃ L, L = docAt ds D := ⟨_, rfl⟩
        have hda : docA (ds.getD D ByteArray.empty) = L := by unfold docA; rw [hyes, if_pos rfl, hL]; rfl
        rw [hyes, hda] at HIW
        rw [← hL] at HPT
        have hLl : L.length ≤ 20 := by rw [hL]; exact hz2
        rw [hD] at p0
        obtain ⟨gd, offd, capd, hve, hgd2, hcd⟩ := (HX.out.below kb).cellS hDl
        cases hve
        have hdi : (D : Int) < (ds.length : Int) := by omega
        have hd0 : (0 : Int) ≤ (D : Int) := by omega
        have HLP := hide hlp
        obtain ⟨pa, pc, hpe⟩ := hlp.slice
        subst hpe
        clear hda hyes hz1 hz2 hL q0 q1 hD hDt hlp hmem
        generalize (A.getD k default).2 = pl at *
        generalize (A.getD k default).1 = dd at *
        generalize ds.getD D ByteArray.empty = txt at *
        obtain ⟨W1, hW1⟩ : ∃ W1, W1 = wr.alloc (.cells #[.int .i64 (D : Int), .slice pa pl.length pc] 39) := ⟨_, rfl⟩
        have hx0 := boxNew wr #[.int .i64 (D : Int), .slice pa pl.length pc] 39
        rw [← hW1] at hx0
        have kW : Below wr.heap.size wr W1 := by rw [hW1]; exact (Below.refl _ _).alloc (Nat.le_refl _) _
        obtain ⟨bx, hbx⟩ : ∃ bx, bx = wr.heap.size := ⟨_, rfl⟩
        go_upto_region 12 with fail
        rw [← hW1, ← hbx]
        rw [← hbx] at hx0
        have HBX := hide hx0
        have HLP1 := hide (HLP.out.below kW)
        have kb1 : Below w4.heap.size w4 W1 := kb.trans (kW.mono kl)
        have hcd1 := (kW.cell (p := ⟨gd, offd + D, none⟩) hgd2).trans hcd
        have x0 := HBX.out.2.1 0 _ rfl
        have x1 := HBX.out.2.1 1 _ rfl
        clear hW1 hbx kW hx0 p0 p1 hcd hgd2 HLP
        go_wp2_with fail
        refine (HIW _).mono ?_
        rintro e wq3 ⟨v, rfl, hov, hb3⟩
        have kb3 : Below w4.heap.size w4 wq3 := kb1.trans (hb3.mono kb1.size)
        replace HBX := hide (HBX.out.below hb3)
        replace HLP1 := hide (HLP1.out.below hb3)
        have HLW := hide (OwnA.ofStrs hov).1.strs
        have HCAP := hide (rows_of_ownS hov)
        obtain ⟨va, vc, hve⟩ := (rows_of_ownS hov).slice
        subst hve
        have hcw : L.length ≤ vc := by
          obtain ⟨_, ao, c', h1, h2, _⟩ := HCAP.out
          cases h1; exact h2
        clear x0 x1
        have x1 := HBX.out.2.1 1 _ rfl
        clear hov hb3 HIW hcd1 kb1 HCAP
        go_wp2_with fail
        clear x1
        go_loopw [91] (fun i wr => ∃ t : Nat, t ≤ pl.length ∧ i = .int .i64 (t : Int) ∧ Below wq3.heap.size wq3 wr) (fun i _ => pl.length - (intOf i).toNat)
        case atStart => exact ⟨0, Nat.zero_le _, rfl, Below.refl _ _⟩
        case round =>
          obtain ⟨t, ht, rfl, kt⟩ := hrel
          generalize wr = wq4 at *
          by_cases htt : t < pl.length
          · obtain ⟨gt, offt, capt, hve, hgt2, hct⟩ := (HLP1.out.below kt).cellI htt
            cases hve
            have hti : (t : Int) < (pl.length : Int) := by omega
            have ht0 : (0 : Int) ≤ (t : Int) := by omega
            obtain ⟨i, hi, hil, htk⟩ := HPT.out _ ((mem_getD (l := pl)).2 ⟨t, htt, rfl⟩)
            rw [hi] at hct
            obtain ⟨gw, offw, capw, hve, hgw, _⟩ := (HLW.out.below kt).cellS (k := i) (by omega)
            cases hve
            have hsub := hide (fun cc => strs_sub (HLW.out.below kt) hil hw1 htk cc)
            obtain ⟨c2, hc2⟩ : ∃ c2, vc = i + (c2 + 1) := ⟨vc - i - 1, by omega⟩
            subst hc2
            have HYr := hide (HY.out.below (kb3.trans (kt.mono kb3.size)))
            have s0 : (0 : Int) ≤ (i : Int) := by omega
            have s1 : (i : Int) ≤ (i : Int) + (ws.length : Int) := by omega
            have s2 : (i : Int) + (ws.length : Int) ≤ ((i + (c2 + 1) : Nat) : Int) := by omega
            have s3 : ¬ (L.length : Int) < (i : Int) + (ws.length : Int) := by omega
            have s4 : IntKind.i64.wrap ((i : Int) + (ws.length : Int)) = (i : Int) + (ws.length : Int) := by rw [IntKind.wrap_i64]; omega
            clear hi htk
            go_wp2_with fail
            refine (sameStr _ _ ws _ (hsub.out (c2 + 1)) HYr.out (by omega)).mono ?_
            rintro e wq5 ⟨rfl, hb5⟩
            have kt5 : Below wq3.heap.size wq3 wq5 := kt.trans (hb5.mono kt.size)
            clear hb5 hsub HYr hct
            go_wp2_with fail
            exact ⟨⟨t + 1, by omega, by go_num, kt5⟩, by simp [intOf]; omega⟩
          · have hte : t = pl.length := by omega
            subst hte
            have hti : ¬ (pl.length : Int) < (pl.length : Int) := by omega
            have kf : Below w4.heap.size w4 wq4 := kb3.trans (kt.mono kb3.size)
            go_wp2_with fail
            exact ⟨⟨k + 1, by omega, by go_num, kf⟩, by simp [intOf]; omega⟩
      · have hke : k = A.length := by omega
        subst hke
        have hki : ¬ (A.length : Int) < (A.length : Int) := by omega
        obtain ⟨gy, offy, capy, hve, hgy, hcy⟩ := (HY.out.below kb).cellS (k := 0) (by omega)
        cases hve
        rw [Nat.add_zero] at hcy
        have hyl : (0 : Int) < (ws.length : Int) := by omega
        have HIO2 := HIO.out
        generalize ws.getD 0 ByteArray.empty = s0 at *
        have HXr := hide (HX.out.below kb)
        have Hplr := hide (Hpl.out.below kb)
        clear HIO
        go_wp2_with fail
        refine (HIO2 _ _ HXr.out).mono ?_
        rintro e wq5 ⟨v, rfl, hv, hb5⟩
        have k5 : Below w4.heap.size w4 wq5 := kb.trans (hb5.mono kl)
        have HA0 := hide hv
        replace Hplr := hide (Hplr.out.below hb5)
        obtain ⟨aa, ac, hve⟩ := hv.slice
        subst hve
        have hln : ¬ (A0.length : Int) < (A.length : Int) := by omega
        clear hv hb5 HIO2 HXr
        by_cases hone : ws.length = 1
        · have h1 : ((ws.length : Int) == 1) = true := by rw [hone]; rfl
          have hAA := HONE.out hone
          subst hAA
          clear hone
          go_wp2_with fail
          refine (HEQ.out _ _ _ HA0.out Hplr.out).mono ?_
          rintro e wq6 ⟨rfl, hb6⟩
          have k6 : Below w4.heap.size w4 wq6 := k5.trans (hb6.mono k5.size)
          clear hb6 Hplr HA0 HEQ h1
          have kT : Below w.heap.size w wq6 := k4.trans (k6.mono k4.size)
          replace HC1 := hide (HC1.out.below k6)
          clear HX HY Hpl
          go_wp2_with fail
          refine (drawNear _ n1 _ HC1.out).mono ?_
          rintro e wa ⟨x, es, s, u, y, rfl, ho, hel, hA, hs4, hu4, hy0, hy1, hba⟩
          have ka : Below w.heap.size w wa := kT.trans (hba.mono kT.size)
          replace HC1 := hide (HC1.out.below hba)
          have HE := hide (OwnA.ofStrs ho).1.strs
          have HEZ : Hid (∀ q ∈ es, q.size ≤ 1048576) := fun q hq => by have := hA q hq; omega
          obtain ⟨ea, ec, hve⟩ := (rows_of_ownS ho).slice
          subst hve
          obtain ⟨N, hNE⟩ := neIs_ex es s u y
          have hNl := hNE.len
          have HIN0 := fun x W h => implNearIn x es s u y N hNE W h (by omega) HEZ.out (by omega) (by omega)
          have HSN0 := fun x W h => specNearIn x es s u y N hNE W h (by omega) HEZ.out (by omega) (by omega)
          have HBN0 := fun x W h => implNearIn x es u s y N (neIs_sym hNE) W h (by omega) HEZ.out (by omega) (by omega)
          obtain ⟨Bn, hBn⟩ : ∃ Bn, Bn = neB es s u y := ⟨_, rfl⟩
          rw [← hBn] at HIN0 HSN0
          rw [neB_sym, ← hBn] at HBN0
          have HIN : ∀ x W, StrsAt W x es → Calls Try.prog 32 #[x, .string s, .string u, .int .i64 y] W fun e w' => ∃ v, e = .returned (.tuple #[v, .bool Bn]) ∧ IntsAt w' v N ∧ Below W.heap.size W w' := fun x W h => (HIN0 x W h).mono fun e w' ⟨⟨v, h1, h2⟩, h3⟩ => ⟨v, h1, (OwnA.ofInts h2).1.ints, h3⟩
          have HSN : ∀ x W, StrsAt W x es → Calls Try.prog 33 #[x, .string s, .string u, .int .i64 y] W fun e w' => ∃ v, e = .returned (.tuple #[v, .bool Bn]) ∧ IntsAt w' v N ∧ Below W.heap.size W w' := fun x W h => (HSN0 x W h).mono fun e w' ⟨⟨v, h1, h2⟩, h3⟩ => ⟨v, h1, (OwnA.ofInts h2).1.ints, h3⟩
          have HBN : ∀ x W, StrsAt W x es → Calls Try.prog 32 #[x, .string u, .string s, .int .i64 y] W fun e w' => ∃ v, e = .returned (.tuple #[v, .bool Bn]) ∧ IntsAt w' v N ∧ Below W.heap.size W w' := fun x W h => (HBN0 x W h).mono fun e w' ⟨⟨v, h1, h2⟩, h3⟩ => ⟨v, h1, (OwnA.ofInts h2).1.ints, h3⟩
          have hbq : (Bn != Bn) = false := by cases Bn <;> rfl
          have HQI : Hid (∀ a b W, IntsAt W a N → IntsAt W b N → Calls Try.prog 34 #[a, b] W fun e w' => e = .returned (.bool true) ∧ Below W.heap.size W w') := fun a b W h g => by
            have h9 := sameI a b N N W h g (by omega) (by omega)
            rwa [decide_eq_true rfl] at h9
          clear HIN0 HSN0 HBN0 hBn hNE ho hA hba
          go_wp2_with fail
          refine (HIN _ _ HE.out).mono ?_
          rintro e wb ⟨v, rfl, hv, hbb⟩
          have kb2 : Below w.heap.size w wb := ka.trans (hbb.mono ka.size)
          replace HC1 := hide (HC1.out.below hbb)
          replace HE := hide (HE.out.below hbb)
          have HV1 := hide hv
          obtain ⟨na, nc, hve⟩ := hv.slice
          subst hve
          clear hv hbb HIN
          go_wp2_with fail
          refine (HSN _ _ HE.out).mono ?_
          rintro e wd ⟨v, rfl, hv, hbb⟩
          have kd2 : Below w.heap.size w wd := kb2.trans (hbb.mono kb2.size)
          replace HC1 := hide (HC1.out.below hbb)
          replace HE := hide (HE.out.below hbb)
          replace HV1 := hide (HV1.out.below hbb)
          have HV2 := hide hv
          obtain ⟨ma, mc, hve⟩ := hv.slice
          subst hve
          clear hv hbb HSN
          go_wp2_with fail
          refine (HQI.out _ _ _ HV1.out HV2.out).mono ?_
          rintro e we ⟨rfl, hbb⟩
          have ke2 : Below w.heap.size w we := kd2.trans (hbb.mono kd2.size)
          replace HC1 := hide (HC1.out.below hbb)
          replace HE := hide (HE.out.below hbb)
          replace HV1 := hide (HV1.out.below hbb)
          clear hbb HV2
          cases Bn
          case' true =>
            go_wp2_with fail
            refine (HBN _ _ HE.out).mono ?_
            rintro e wf2 ⟨v, rfl, hv, hbb⟩
            have kf2 : Below w.heap.size w wf2 := ke2.trans (hbb.mono ke2.size)
            replace HC1 := hide (HC1.out.below hbb)
            replace HV1 := hide (HV1.out.below hbb)
            have HV2 := hide hv
            obtain ⟨ma2, mc2, hve⟩ := hv.slice
            subst hve
            clear hv hbb
            go_wp2_with fail
            refine (HQI.out _ _ _ HV2.out HV1.out).mono ?_
            rintro e wg2 ⟨rfl, hbb⟩
            have kg2 : Below w.heap.size w wg2 := kf2.trans (hbb.mono kf2.size)
            replace HC1 := hide (HC1.out.below hbb)
            clear hbb HV2 HV1 HE HBN HQI
            go_upto_region 34 with fail
          case' false =>
            have kg2 := ke2
            clear HV1 HE HBN HQI
            generalize we = wg2 at *
            go_upto_region 34 with fail
          all_goals
            go_wp2_with fail
            refine (drawMeet _ n1 _ HC1.out).mono ?_
            rintro e wh ⟨px, pz, ps, qs, fy, rfl, hpx, hpz, l1, l2, l3, l4, hf0, hf1, hbm⟩
            have kh : Below w.heap.size w wh := kg2.trans (hbm.mono kg2.size)
            have HPX := hide hpx
            have HPZ := hide hpz
            obtain ⟨Ga, hGa⟩ : ∃ B : Bool, B = true ↔ GoodP ps := by
              by_cases hq : GoodP ps
              · exact ⟨true, ⟨fun _ => hq, fun _ => rfl⟩⟩
              · exact ⟨false, ⟨fun h => (by cases h), fun h => absurd h hq⟩⟩
            obtain ⟨Gb, hGb⟩ : ∃ B : Bool, B = true ↔ GoodP qs := by
              by_cases hq : GoodP qs
              · exact ⟨true, ⟨fun _ => hq, fun _ => rfl⟩⟩
              · exact ⟨false, ⟨fun h => (by cases h), fun h => absurd h hq⟩⟩
            have HS1 := hide (fun p hp => by have := l2 p hp; omega : ∀ p ∈ ps, p.2.length ≤ 1048576)
            have HS2 := hide (fun p hp => by have := l4 p hp; omega : ∀ p ∈ qs, p.2.length ≤ 1048576)
            have hMl : (mpA Ga Gb ps qs fy).length ≤ 12 := by
              unfold mpA
              split
              · exact Nat.le_trans (meetP_len qs fy ps) l1
              · simp
            have HMS : Hid (∀ p ∈ mpA Ga Gb ps qs fy, p.2.length ≤ 1048576) := fun p hp => by
              unfold mpA at hp
              split at hp
              · obtain ⟨q, hq, _, rfl⟩ := meet_mem.1 hp
                have h1 := keep_len q.2 (plcs qs q.1) fy
                have h2 := l2 q hq
                simp only
                omega
              · simp at hp
            have HIM0 := fun x z W h g => implMP x z ps qs Ga Gb hGa hGb fy W h g (by omega) (by omega) HS1.out HS2.out
            have HSM0 := fun x z W h g => specMP x z ps qs Ga Gb hGa hGb fy W h g (by omega) (by omega) HS1.out HS2.out
            have HBM0 := fun x z W h g => implMP z x qs ps Gb Ga hGb hGa (-fy) W g h (by omega) (by omega) HS2.out HS1.out
            have HGI := fun x W h => implGP x ps Ga hGa W h (by omega) HS1.out
            have HGS := fun x W h => specGP x ps Ga hGa W h (by omega) HS1.out
            have hbk : mpB Gb Ga (-fy) = mpB Ga Gb fy := by
              unfold mpB
              rw [Bool.and_comm Gb Ga]
              congr 1
              by_cases h : -20 ≤ fy ∧ fy ≤ 20
              · rw [decide_eq_true h, decide_eq_true (by omega)]
              · rw [decide_eq_false h, decide_eq_false (by omega)]
            have HMB : Hid (mpB Ga Gb fy = true → (mpA Gb Ga qs ps (-fy)).length = (mpA Ga Gb ps qs fy).length ∧ GoodP (mpA Ga Gb ps qs fy)) := fun h => by
              have h2 := h
              unfold mpB at h2
              rw [Bool.and_eq_true, Bool.and_eq_true] at h2
              have g1 := hGa.1 h2.1.1
              have g2 := hGb.1 h2.1.2
              unfold mpA
              rw [hbk, h, if_pos rfl, if_pos rfl]
              exact ⟨meet_back g1 g2 fy, meet_good g1 qs fy⟩
            obtain ⟨Bm, hBm⟩ : ∃ Bm, Bm = mpB Ga Gb fy := ⟨_, rfl⟩
            obtain ⟨M, hM⟩ : ∃ M, M = mpA Ga Gb ps qs fy := ⟨_, rfl⟩
            obtain ⟨M2, hM2⟩ : ∃ M2, M2 = mpA Gb Ga qs ps (-fy) := ⟨_, rfl⟩
            rw [hbk] at HBM0
            rw [← hBm, ← hM] at HIM0 HSM0
            rw [← hBm, ← hM2] at HBM0
            rw [← hBm, ← hM, ← hM2] at HMB
            rw [← hM] at hMl HMS
            have HIM : ∀ x z W, PosAt W x ps → PosAt W z qs → Calls Try.prog 36 #[x, z, .int .i64 fy] W fun e w' => ∃ v, e = .returned (.tuple #[v, .bool Bm]) ∧ PosAt w' v M ∧ Below W.heap.size W w' := fun x z W h g => (HIM0 x z W h g).mono fun e w' ⟨⟨v, vs, h1, h2⟩, h3⟩ => ⟨v, h1, h2.at, h3⟩
            have HSM : ∀ x z W, PosAt W x ps → PosAt W z qs → Calls Try.prog 37 #[x, z, .int .i64 fy] W fun e w' => ∃ v, e = .returned (.tuple #[v, .bool Bm]) ∧ PosAt w' v M ∧ Below W.heap.size W w' := fun x z W h g => (HSM0 x z W h g).mono fun e w' ⟨⟨v, vs, h1, h2⟩, h3⟩ => ⟨v, h1, h2.at, h3⟩
            have HBM : ∀ x z W, PosAt W x ps → PosAt W z qs → Calls Try.prog 36 #[z, x, .int .i64 (-fy)] W fun e w' => ∃ v, e = .returned (.tuple #[v, .bool Bm]) ∧ PosAt w' v M2 ∧ Below W.heap.size W w' := fun x z W h g => (HBM0 x z W h g).mono fun e w' ⟨⟨v, vs, h1, h2⟩, h3⟩ => ⟨v, h1, h2.at, h3⟩
            have hbx : (Bm != Bm) = false := by cases Bm <;> rfl
            have hgx : (Ga != Ga) = false := by cases Ga <;> rfl
            have hng : IntKind.i64.wrap (-fy) = -fy := by rw [IntKind.wrap_i64]; omega
            obtain ⟨pxa, pxc, hve⟩ := hpx.slice
            subst hve
            obtain ⟨pza, pzc, hve⟩ := hpz.slice
            subst hve
            clear HIM0 HSM0 HBM0 hBm hM hM2 hbk hpx hpz hbm hGa hGb HC1
            go_wp2_with fail
            refine (HIM _ _ _ HPX.out HPZ.out).mono ?_
            rintro e wi ⟨v, rfl, hv, hbb⟩
            have ki : Below w.heap.size w wi := kh.trans (hbb.mono kh.size)
            replace HPX := hide (HPX.out.below hbb)
            replace HPZ := hide (HPZ.out.below hbb)
            have HM1 := hide hv
            obtain ⟨m1a, m1c, hve⟩ := hv.slice
            subst hve
            clear hv hbb HIM
            go_wp2_with fail
            refine (HSM _ _ _ HPX.out HPZ.out).mono ?_
            rintro e wj ⟨v, rfl, hv, hbb⟩
            have kj : Below w.heap.size w wj := ki.trans (hbb.mono ki.size)
            replace HPX := hide (HPX.out.below hbb)
            replace HPZ := hide (HPZ.out.below hbb)
            replace HM1 := hide (HM1.out.below hbb)
            have HM2 := hide hv
            obtain ⟨m2a, m2c, hve⟩ := hv.slice
            subst hve
            clear hv hbb HSM
            go_wp2_with fail
            refine (samePos _ _ M _ HM1.out HM2.out (by omega) HMS.out).mono ?_
            rintro e wk ⟨rfl, hbb⟩
            have kk : Below w.heap.size w wk := kj.trans (hbb.mono kj.size)
            replace HPX := hide (HPX.out.below hbb)
            replace HPZ := hide (HPZ.out.below hbb)
            replace HM1 := hide (HM1.out.below hbb)
            clear hbb HM2
            go_wp2_with fail
            refine (HGI _ _ HPX.out).mono ?_
            rintro e wl ⟨rfl, hbb⟩
            have kl : Below w.heap.size w wl := kk.trans (hbb.mono kk.size)
            replace HPX := hide (HPX.out.below hbb)
            replace HPZ := hide (HPZ.out.below hbb)
            replace HM1 := hide (HM1.out.below hbb)
            clear hbb HGI
            go_wp2_with fail
            refine (HGS _ _ HPX.out).mono ?_
            rintro e wm ⟨rfl, hbb⟩
            have km : Below w.heap.size w wm := kl.trans (hbb.mono kl.size)
            replace HPX := hide (HPX.out.below hbb)
            replace HPZ := hide (HPZ.out.below hbb)
            replace HM1 := hide (HM1.out.below hbb)
            clear hbb HGS
            cases Bm
            · go_wp2_with fail
              go_returns
              exact ⟨rfl, km⟩
            · obtain ⟨hml, hmg⟩ := HMB.out rfl
              have hmi : ((M2.length : Int) == (M.length : Int)) = true := by rw [hml]; simp
              have HGM := hide (fun W h => implGP (.slice m1a M.length m1c) M true ⟨fun _ => hmg, fun _ => rfl⟩ W h (by omega) HMS.out)
              clear hml hmg HMB
              go_wp2_with fail
              refine (HBM _ _ _ HPX.out HPZ.out).mono ?_
              rintro e wn ⟨v, rfl, hv, hbb⟩
              have kn : Below w.heap.size w wn := km.trans (hbb.mono km.size)
              replace HM1 := hide (HM1.out.below hbb)
              obtain ⟨m3a, m3c, hve⟩ := hv.slice
              subst hve
              clear hv hbb HBM
              go_wp2_with fail
              refine (HGM.out _ HM1.out).mono ?_
              rintro e wo ⟨rfl, hbb⟩
              have ko : Below w.heap.size w wo := kn.trans (hbb.mono kn.size)
              clear hbb
              go_wp2_with fail
              go_returns
              exact ⟨rfl, ko⟩
        · have h1 : ((ws.length : Int) == 1) = false := by rw [beq_eq_false_iff_ne]; omega
          clear hone Hplr HA0 HEQ HONE
          have kT : Below w.heap.size w wq5 := k4.trans (k5.mono k4.size)
          replace HC1 := hide (HC1.out.below k5)
          clear HX HY Hpl
          go_wp2_with fail
          refine (drawNear _ n1 _ HC1.out).mono ?_
          rintro e wa ⟨x, es, s, u, y, rfl, ho, hel, hA, hs4, hu4, hy0, hy1, hba⟩
          have ka : Below w.heap.size w wa := kT.trans (hba.mono kT.size)
          replace HC1 := hide (HC1.out.below hba)
          have HE := hide (OwnA.ofStrs ho).1.strs
          have HEZ : Hid (∀ q ∈ es, q.size ≤ 1048576) := fun q hq => by have := hA q hq; omega
          obtain ⟨ea, ec, hve⟩ := (rows_of_ownS ho).slice
          subst hve
          obtain ⟨N, hNE⟩ := neIs_ex es s u y
          have hNl := hNE.len
          have HIN0 := fun x W h => implNearIn x es s u y N hNE W h (by omega) HEZ.out (by omega) (by omega)
          have HSN0 := fun x W h => specNearIn x es s u y N hNE W h (by omega) HEZ.out (by omega) (by omega)
          have HBN0 := fun x W h => implNearIn x es u s y N (neIs_sym hNE) W h (by omega) HEZ.out (by omega) (by omega)
          obtain ⟨Bn, hBn⟩ : ∃ Bn, Bn = neB es s u y := ⟨_, rfl⟩
          rw [← hBn] at HIN0 HSN0
          rw [neB_sym, ← hBn] at HBN0
          have HIN : ∀ x W, StrsAt W x es → Calls Try.prog 32 #[x, .string s, .string u, .int .i64 y] W fun e w' => ∃ v, e = .returned (.tuple #[v, .bool Bn]) ∧ IntsAt w' v N ∧ Below W.heap.size W w' := fun x W h => (HIN0 x W h).mono fun e w' ⟨⟨v, h1, h2⟩, h3⟩ => ⟨v, h1, (OwnA.ofInts h2).1.ints, h3⟩
          have HSN : ∀ x W, StrsAt W x es → Calls Try.prog 33 #[x, .string s, .string u, .int .i64 y] W fun e w' => ∃ v, e = .returned (.tuple #[v, .bool Bn]) ∧ IntsAt w' v N ∧ Below W.heap.size W w' := fun x W h => (HSN0 x W h).mono fun e w' ⟨⟨v, h1, h2⟩, h3⟩ => ⟨v, h1, (OwnA.ofInts h2).1.ints, h3⟩
          have HBN : ∀ x W, StrsAt W x es → Calls Try.prog 32 #[x, .string u, .string s, .int .i64 y] W fun e w' => ∃ v, e = .returned (.tuple #[v, .bool Bn]) ∧ IntsAt w' v N ∧ Below W.heap.size W w' := fun x W h => (HBN0 x W h).mono fun e w' ⟨⟨v, h1, h2⟩, h3⟩ => ⟨v, h1, (OwnA.ofInts h2).1.ints, h3⟩
          have hbq : (Bn != Bn) = false := by cases Bn <;> rfl
          have HQI : Hid (∀ a b W, IntsAt W a N → IntsAt W b N → Calls Try.prog 34 #[a, b] W fun e w' => e = .returned (.bool true) ∧ Below W.heap.size W w') := fun a b W h g => by
            have h9 := sameI a b N N W h g (by omega) (by omega)
            rwa [decide_eq_true rfl] at h9
          clear HIN0 HSN0 HBN0 hBn hNE ho hA hba
          go_wp2_with fail
          refine (HIN _ _ HE.out).mono ?_
          rintro e wb ⟨v, rfl, hv, hbb⟩
          have kb2 : Below w.heap.size w wb := ka.trans (hbb.mono ka.size)
          replace HC1 := hide (HC1.out.below hbb)
          replace HE := hide (HE.out.below hbb)
          have HV1 := hide hv
          obtain ⟨na, nc, hve⟩ := hv.slice
          subst hve
          clear hv hbb HIN
          go_wp2_with fail
          refine (HSN _ _ HE.out).mono ?_
          rintro e wd ⟨v, rfl, hv, hbb⟩
          have kd2 : Below w.heap.size w wd := kb2.trans (hbb.mono kb2.size)
          replace HC1 := hide (HC1.out.below hbb)
          replace HE := hide (HE.out.below hbb)
          replace HV1 := hide (HV1.out.below hbb)
          have HV2 := hide hv
          obtain ⟨ma, mc, hve⟩ := hv.slice
          subst hve
          clear hv hbb HSN
          go_wp2_with fail
          refine (HQI.out _ _ _ HV1.out HV2.out).mono ?_
          rintro e we ⟨rfl, hbb⟩
          have ke2 : Below w.heap.size w we := kd2.trans (hbb.mono kd2.size)
          replace HC1 := hide (HC1.out.below hbb)
          replace HE := hide (HE.out.below hbb)
          replace HV1 := hide (HV1.out.below hbb)
          clear hbb HV2
          cases Bn
          case' true =>
            go_wp2_with fail
            refine (HBN _ _ HE.out).mono ?_
            rintro e wf2 ⟨v, rfl, hv, hbb⟩
            have kf2 : Below w.heap.size w wf2 := ke2.trans (hbb.mono ke2.size)
            replace HC1 := hide (HC1.out.below hbb)
            replace HV1 := hide (HV1.out.below hbb)
            have HV2 := hide hv
            obtain ⟨ma2, mc2, hve⟩ := hv.slice
            subst hve
            clear hv hbb
            go_wp2_with fail
            refine (HQI.out _ _ _ HV2.out HV1.out).mono ?_
            rintro e wg2 ⟨rfl, hbb⟩
            have kg2 : Below w.heap.size w wg2 := kf2.trans (hbb.mono kf2.size)
            replace HC1 := hide (HC1.out.below hbb)
            clear hbb HV2 HV1 HE HBN HQI
            go_upto_region 34 with fail
          case' false =>
            have kg2 := ke2
            clear HV1 HE HBN HQI
            generalize we = wg2 at *
            go_upto_region 34 with fail
          all_goals
            go_wp2_with fail
            refine (drawMeet _ n1 _ HC1.out).mono ?_
            rintro e wh ⟨px, pz, ps, qs, fy, rfl, hpx, hpz, l1, l2, l3, l4, hf0, hf1, hbm⟩
            have kh : Below w.heap.size w wh := kg2.trans (hbm.mono kg2.size)
            have HPX := hide hpx
            have HPZ := hide hpz
            obtain ⟨Ga, hGa⟩ : ∃ B : Bool, B = true ↔ GoodP ps := by
              by_cases hq : GoodP ps
              · exact ⟨true, ⟨fun _ => hq, fun _ => rfl⟩⟩
              · exact ⟨false, ⟨fun h => (by cases h), fun h => absurd h hq⟩⟩
            obtain ⟨Gb, hGb⟩ : ∃ B : Bool, B = true ↔ GoodP qs := by
              by_cases hq : GoodP qs
              · exact ⟨true, ⟨fun _ => hq, fun _ => rfl⟩⟩
              · exact ⟨false, ⟨fun h => (by cases h), fun h => absurd h hq⟩⟩
            have HS1 := hide (fun p hp => by have := l2 p hp; omega : ∀ p ∈ ps, p.2.length ≤ 1048576)
            have HS2 := hide (fun p hp => by have := l4 p hp; omega : ∀ p ∈ qs, p.2.length ≤ 1048576)
            have hMl : (mpA Ga Gb ps qs fy).length ≤ 12 := by
              unfold mpA
              split
              · exact Nat.le_trans (meetP_len qs fy ps) l1
              · simp
            have HMS : Hid (∀ p ∈ mpA Ga Gb ps qs fy, p.2.length ≤ 1048576) := fun p hp => by
              unfold mpA at hp
              split at hp
              · obtain ⟨q, hq, _, rfl⟩ := meet_mem.1 hp
                have h1 := keep_len q.2 (plcs qs q.1) fy
                have h2 := l2 q hq
                simp only
                omega
              · simp at hp
            have HIM0 := fun x z W h g => implMP x z ps qs Ga Gb hGa hGb fy W h g (by omega) (by omega) HS1.out HS2.out
            have HSM0 := fun x z W h g => specMP x z ps qs Ga Gb hGa hGb fy W h g (by omega) (by omega) HS1.out HS2.out
            have HBM0 := fun x z W h g => implMP z x qs ps Gb Ga hGb hGa (-fy) W g h (by omega) (by omega) HS2.out HS1.out
            have HGI := fun x W h => implGP x ps Ga hGa W h (by omega) HS1.out
            have HGS := fun x W h => specGP x ps Ga hGa W h (by omega) HS1.out
            have hbk : mpB Gb Ga (-fy) = mpB Ga Gb fy := by
              unfold mpB
              rw [Bool.and_comm Gb Ga]
              congr 1
              by_cases h : -20 ≤ fy ∧ fy ≤ 20
              · rw [decide_eq_true h, decide_eq_true (by omega)]
              · rw [decide_eq_false h, decide_eq_false (by omega)]
            have HMB : Hid (mpB Ga Gb fy = true → (mpA Gb Ga qs ps (-fy)).length = (mpA Ga Gb ps qs fy).length ∧ GoodP (mpA Ga Gb ps qs fy)) := fun h => by
              have h2 := h
              unfold mpB at h2
              rw [Bool.and_eq_true, Bool.and_eq_true] at h2
              have g1 := hGa.1 h2.1.1
              have g2 := hGb.1 h2.1.2
              unfold mpA
              rw [hbk, h, if_pos rfl, if_pos rfl]
              exact ⟨meet_back g1 g2 fy, meet_good g1 qs fy⟩
            obtain ⟨Bm, hBm⟩ : ∃ Bm, Bm = mpB Ga Gb fy := ⟨_, rfl⟩
            obtain ⟨M, hM⟩ : ∃ M, M = mpA Ga Gb ps qs fy := ⟨_, rfl⟩
            obtain ⟨M2, hM2⟩ : ∃ M2, M2 = mpA Gb Ga qs ps (-fy) := ⟨_, rfl⟩
            rw [hbk] at HBM0
            rw [← hBm, ← hM] at HIM0 HSM0
            rw [← hBm, ← hM2] at HBM0
            rw [← hBm, ← hM, ← hM2] at HMB
            rw [← hM] at hMl HMS
            have HIM : ∀ x z W, PosAt W x ps → PosAt W z qs → Calls Try.prog 36 #[x, z, .int .i64 fy] W fun e w' => ∃ v, e = .returned (.tuple #[v, .bool Bm]) ∧ PosAt w' v M ∧ Below W.heap.size W w' := fun x z W h g => (HIM0 x z W h g).mono fun e w' ⟨⟨v, vs, h1, h2⟩, h3⟩ => ⟨v, h1, h2.at, h3⟩
            have HSM : ∀ x z W, PosAt W x ps → PosAt W z qs → Calls Try.prog 37 #[x, z, .int .i64 fy] W fun e w' => ∃ v, e = .returned (.tuple #[v, .bool Bm]) ∧ PosAt w' v M ∧ Below W.heap.size W w' := fun x z W h g => (HSM0 x z W h g).mono fun e w' ⟨⟨v, vs, h1, h2⟩, h3⟩ => ⟨v, h1, h2.at, h3⟩
            have HBM : ∀ x z W, PosAt W x ps → PosAt W z qs → Calls Try.prog 36 #[z, x, .int .i64 (-fy)] W fun e w' => ∃ v, e = .returned (.tuple #[v, .bool Bm]) ∧ PosAt w' v M2 ∧ Below W.heap.size W w' := fun x z W h g => (HBM0 x z W h g).mono fun e w' ⟨⟨v, vs, h1, h2⟩, h3⟩ => ⟨v, h1, h2.at, h3⟩
            have hbx : (Bm != Bm) = false := by cases Bm <;> rfl
            have hgx : (Ga != Ga) = false := by cases Ga <;> rfl
            have hng : IntKind.i64.wrap (-fy) = -fy := by rw [IntKind.wrap_i64]; omega
            obtain ⟨pxa, pxc, hve⟩ := hpx.slice
            subst hve
            obtain ⟨pza, pzc, hve⟩ := hpz.slice
            subst hve
            clear HIM0 HSM0 HBM0 hBm hM hM2 hbk hpx hpz hbm hGa hGb HC1
            go_wp2_with fail
            refine (HIM _ _ _ HPX.out HPZ.out).mono ?_
            rintro e wi ⟨v, rfl, hv, hbb⟩
            have ki : Below w.heap.size w wi := kh.trans (hbb.mono kh.size)
            replace HPX := hide (HPX.out.below hbb)
            replace HPZ := hide (HPZ.out.below hbb)
            have HM1 := hide hv
            obtain ⟨m1a, m1c, hve⟩ := hv.slice
            subst hve
            clear hv hbb HIM
            go_wp2_with fail
            refine (HSM _ _ _ HPX.out HPZ.out).mono ?_
            rintro e wj ⟨v, rfl, hv, hbb⟩
            have kj : Below w.heap.size w wj := ki.trans (hbb.mono ki.size)
            replace HPX := hide (HPX.out.below hbb)
            replace HPZ := hide (HPZ.out.below hbb)
            replace HM1 := hide (HM1.out.below hbb)
            have HM2 := hide hv
            obtain ⟨m2a, m2c, hve⟩ := hv.slice
            subst hve
            clear hv hbb HSM
            go_wp2_with fail
            refine (samePos _ _ M _ HM1.out HM2.out (by omega) HMS.out).mono ?_
            rintro e wk ⟨rfl, hbb⟩
            have kk : Below w.heap.size w wk := kj.trans (hbb.mono kj.size)
            replace HPX := hide (HPX.out.below hbb)
            replace HPZ := hide (HPZ.out.below hbb)
            replace HM1 := hide (HM1.out.below hbb)
            clear hbb HM2
            go_wp2_with fail
            refine (HGI _ _ HPX.out).mono ?_
            rintro e wl ⟨rfl, hbb⟩
            have kl : Below w.heap.size w wl := kk.trans (hbb.mono kk.size)
            replace HPX := hide (HPX.out.below hbb)
            replace HPZ := hide (HPZ.out.below hbb)
            replace HM1 := hide (HM1.out.below hbb)
            clear hbb HGI
            go_wp2_with fail
            refine (HGS _ _ HPX.out).mono ?_
            rintro e wm ⟨rfl, hbb⟩
            have km : Below w.heap.size w wm := kl.trans (hbb.mono kl.size)
            replace HPX := hide (HPX.out.below hbb)
            replace HPZ := hide (HPZ.out.below hbb)
            replace HM1 := hide (HM1.out.below hbb)
            clear hbb HGS
            cases Bm
            · go_wp2_with fail
              go_returns
              exact ⟨rfl, km⟩
            · obtain ⟨hml, hmg⟩ := HMB.out rfl
              have hmi : ((M2.length : Int) == (M.length : Int)) = true := by rw [hml]; simp
              have HGM := hide (fun W h => implGP (.slice m1a M.length m1c) M true ⟨fun _ => hmg, fun _ => rfl⟩ W h (by omega) HMS.out)
              clear hml hmg HMB
              go_wp2_with fail
              refine (HBM _ _ _ HPX.out HPZ.out).mono ?_
              rintro e wn ⟨v, rfl, hv, hbb⟩
              have kn : Below w.heap.size w wn := km.trans (hbb.mono km.size)
              replace HM1 := hide (HM1.out.below hbb)
              obtain ⟨m3a, m3c, hve⟩ := hv.slice
              subst hve
              clear hv hbb HBM
              go_wp2_with fail
              refine (HGM.out _ HM1.out).mono ?_
              rintro e wo ⟨rfl, hbb⟩
              have ko : Below w.heap.size w wo := kn.trans (hbb.mono kn.size)
              clear hbb
              go_wp2_with fail
              go_returns
              exact ⟨rfl, ko⟩
set_option maxRecDepth 100000 in
theorem walk (v0 : Value) (n0 : Nat) (h0 : n0 ≤ 140737488351232) (v1 : Value) (n1 : Nat) (h1 : n1 ≤ 140737488351232) (w : World) (hb0 : ByteRow w v0 n0) (hb1 : ByteRow w v1 n1) :
    Calls Try.prog 4 #[v0, v1] w fun e w' => e = .returned (.bool true) ∧ Below w.heap.size w w' := by
  by_cases hn : n0 + n1 ≤ 1048576
  · exact walk0 v0 n0 v1 n1 w (hb0.code (by omega)) (hb1.code (by omega)) hn
  · obtain ⟨ad0, c0, rfl, _⟩ := hb0
    obtain ⟨ad1, c1, rfl, _⟩ := hb1
    have hbig : (1048576 : Int) < (n0 : Int) + (n1 : Int) := by omega
    go_enter Try.func4, Try.ntmps4
    go_wp2
    go_returns
    exact ⟨rfl, by go_grown⟩


theorem own : ownKnob Try.prog.godebug = none := by kernel_rfl
theorem laidOut : laidOutB Try.prog = true := by kernel_rfl
set_option maxRecDepth 100000 in
theorem lifted (os : Os) (started : os.Started) (H : Type) (enc : TypeId × Value → H) :
    ReturnsInHanded {} Try.checked os 4 .any (Rows.fnPhrasesSpec.pre6 enc Try.prog Try.f4 Rows.fnPhrasesRow.domain false) (Rows.fnPhrasesSpec.post enc Try.prog Try.f4 false true false false) := by
  refine returnsInHanded_of_change_sized (C := Try.checked) own started (by kernel_rfl) Try.func4
    (ChangeSpec.witness6 (enc := enc) (C := Try.checked) false ⟨#[], #[.slice none 0 0, .slice none 0 0], []⟩ 8 (by kernel_rfl) (by kernel_rfl) (by kernel_rfl) (by kernel_rfl)) ?_
  intro W base args ds gs before hval0 hW hcnd hsz0 _
  have hsz : (DataW.weightsEach Try.prog (Try.f4.params.toList ++ (OpenSpec.ofChange Rows.fnPhrasesSpec).bare.plain.varTypes Try.prog) (ds ++ gs)).all (· ≤ reachBytes) = true := hsz0
  have hval : ∀ (j : Nat) t v, Try.f4.params[j]? = some t → args[j]? = some v → Value.okWide Try.prog W .any base t v := hval0
  have hW' := hW
  obtain ⟨p, q, hA0, hV, rfl, hfz, hnd⟩ := hW
  have hA : DataW.TrodAll enc Try.prog W 0 (fun _ => true) true Try.f4.params.toList args.toList ds p := hA0
  rw [Try.params4] at hA hval
  obtain ⟨v0, vs0, d0, ds0, p0, q0, hargs, rfl, rfl, h0, r0⟩ := trodAll_cons hA
  obtain ⟨v1, vs1, d1, ds1, p1, q1, rfl, rfl, rfl, h1, r1⟩ := trodAll_cons r0
  obtain ⟨rfl, rfl, rfl⟩ := trodAll_nil r1
  obtain rfl : args = #[v0, v1] := by cases args; simp_all
  obtain ⟨rfl, rfl⟩ := trodVars_none hV
  obtain ⟨ad0, len0, cap0, rfl⟩ := okWide_slice Try.underlying22 (hval 0 22 v0 rfl rfl)
  have kk0 := h0
  have lt0 : ∀ x ∈ p0, x.block < W.heap.size := by obtain ⟨m, hm⟩ := kk0; exact DataW.trod_lt m _ _ _ hm
  obtain ⟨hbr0, hbn0⟩ := bytes_of h0 hsz (j := 0) (by rw [Try.params4]; rfl) rfl
  obtain ⟨ad1, len1, cap1, rfl⟩ := okWide_slice Try.underlying22 (hval 1 22 v1 rfl rfl)
  have kk1 := h1
  have lt1 : ∀ x ∈ p1, x.block < W.heap.size := by obtain ⟨m, hm⟩ := kk1; exact DataW.trod_lt m _ _ _ hm
  obtain ⟨hbr1, hbn1⟩ := bytes_of h1 hsz (j := 1) (by rw [Try.params4]; rfl) rfl
  clear hA0 hval0
  refine (walk _ len0 hbn0 _ len1 hbn1 W hbr0 hbr1).mono fun e W' ⟨he, bel⟩ => ?_
  subst he
  exact ⟨_, rfl, _, _, _, [], _, [], hW', trodAll_mk1 (shut_bool Try.underlying4 _), (trodAll_cons_mk (Below.trod laidOut (by kernel_rfl) (of_decide_eq_true (by kernel_rfl)) kk0 bel lt0) (trodAll_cons_mk (Below.trod laidOut (by kernel_rfl) (of_decide_eq_true (by kernel_rfl)) kk1 bel lt1) trodAll_mk0)), rfl, bel.frame _, fun h => by cases h⟩

theorem over : Rows.fnPhrasesRow.holds Try.pinned (OpenSpec.ofChange Rows.fnPhrasesSpec) :=
  OpenClaim.holds_of_wide 4 Try.f4 rfl rfl rfl rfl rfl rfl rfl ⟨rfl, rfl, rfl, rfl, rfl⟩ rfl rfl rfl rfl rfl (by kernel_rfl) Try.func4 (by kernel_rfl)
    (of_decide_eq_true (by kernel_rfl)) (by unfold Func.isWrapper; first | (rw [if_pos (by decide +kernel)]; kernel_rfl) | (rw [if_neg (by decide +kernel)]; exact ⟨rfl, rfl⟩))
    (fun os started H enc _ => lifted os started H enc)
end Go.Proofs.Ytkkmnegmghllpaa.fnPhrases
namespace Go.Proofs.Ytkkmnegmghllpaa
theorem fnPhrases_holds : Rows.FnPhrasesSaid := fnPhrases.over
#print axioms fnPhrases_holds
end Go.Proofs.Ytkkmnegmghllpaa
