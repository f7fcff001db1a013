/- At every two lists of bytes the function FnBest returns true and leaves its arguments as they were: the best few are found without looking further than the bound bids. No condition. -/
import Derived.Test.YthdodlbhkpoadaaDrawRs
import Derived.Test.YthdodlbhkpoadaaThrS
import Derived.Test.YthdodlbhkpoadaaBestM
import Derived.Test.YthdodlbhkpoadaaSameH
import Derived.Lib.SmallJoins
namespace Go.Proofs.Ythdodlbhkpoadaa.fnBest
open Go.ChangeShapes Go.WideShapes Go.ChangeAt Go.RowKit Go.Joins Go.Deep
open Go.ChangeMaps (open_string shut_string)
set_option linter.unusedVariables false
attribute [local go_sem ↓] Go.wp_at_zero Go.wp_at_succ

set_option maxRecDepth 100000 in
set_option maxHeartbeats 12800000 in
theorem walk0 (v0 : Value) (n0 : Nat) (v1 : Value) (n1 : Nat) (w : World) (hc0 : CodeAt w v0 n0) (hc1 : CodeAt w v1 n1) (hn : n0 + n1 ≤ 1048576) :
    Calls Try.prog 3 #[v0, v1] w fun e w' => e = .returned (.bool true) ∧ Below w.heap.size w w' := by
  have HC0 := hide hc0
  have HC1 := hide hc1
  obtain ⟨ad0, c0, rfl⟩ : ∃ ad c, v0 = .slice ad n0 c := by
    obtain ⟨ad, c, e, _⟩ := hc0
    exact ⟨ad, c, e⟩
  obtain ⟨ad1, c1, rfl⟩ : ∃ ad c, v1 = .slice ad n1 c := by
    obtain ⟨ad, c, e, _⟩ := hc1
    exact ⟨ad, c, e⟩
  have k0 : Below w.heap.size w w := Below.refl _ _
  have hbig : ¬ (1048576 : Int) < (n0 : Int) + (n1 : Int) := by omega
  clear hc0 hc1
  go_enter Try.func3, Try.ntmps3
  go_wp2_with fail
  refine (drawThr _ n0 _ HC0.out).mono ?_
  rintro e w1 ⟨x, R, y, rfl, ⟨ho, hS⟩, hb1⟩
  have k1 : Below w.heap.size w w1 := k0.trans (hb1.mono k0.size)
  replace HC1 := hid (HC1.out.below hb1)
  have HX := hid ho
  obtain ⟨xa, xc, rfl⟩ := ho.slice
  have HSL := hid (fun r hr => by have := hS.2 r hr; omega : ∀ r ∈ R, r.length ≤ 1048576)
  have hR5 := hS.1
  clear ho HC0 hS
  clear hb1
  obtain ⟨B0, hB⟩ := bool_of (GoodRs R)
  obtain ⟨T, N, hT, hTl, hN20⟩ := thr_ex hB y
  have HIT := fun x W h => implThr x R y B0 hB T N hT W h (by omega) HSL.out
  have HST := fun x W h => specThr x R y B0 hB T N hT W h (by omega) HSL.out
  have HIB := fun x W h => implBestFew x R y B0 hB W h (by omega) HSL.out
  have HSB := fun x W h => specBestFew x R y B0 hB W h (by omega) HSL.out
  have hAl := bfA_len B0 R y
  have HKEY : Hid (bfB B0 y = true → GoodRs R ∧ (1 ≤ y ∧ y ≤ 10) ∧ T = (allS R R).take y.toNat ∧ bfA B0 R y = (allS R R).take y.toNat) := fun hb => by
    have h1 := hb
    simp [bfB] at h1
    have hg := hB.1 h1.1
    obtain ⟨h2, h3, _, h5⟩ := hT.2 hb
    refine ⟨hg, h1.2, by rw [h5]; exact stop_best hg.2 (by omega) h2 h3, ?_⟩
    unfold bfA
    rw [if_pos hb]
  obtain ⟨B, hBe⟩ : ∃ B, B = bfB B0 y := ⟨_, rfl⟩
  obtain ⟨A, hA⟩ : ∃ A, A = bfA B0 R y := ⟨_, rfl⟩
  rw [← hBe] at HIT HST HIB HSB HKEY
  rw [← hA] at HIB HSB HKEY hAl
  have HSA := fun x y W h g => sameSc x y A W h g (by omega)
  have HSTT := fun x y W h g => sameSc x y T W h g (by omega)
  have hbn : (B != B) = false := by cases B <;> rfl
  have hnn : ((N : Int) != (N : Int)) = false := by simp
  clear hB hT hBe hA
  go_wp2_with fail
  refine (HIT _ _ HX.out).mono ?_
  rintro e w2 ⟨aT1, cT1, rfl, hT1, hb2⟩
  have k2 : Below w.heap.size w w2 := k1.trans (hb2.mono k1.size)
  replace HC1 := hid (HC1.out.below hb2)
  replace HX := hid (HX.out.below hb2)
  have HT1 := hid hT1
  clear hT1
  clear hb2
  go_wp2_with fail
  refine (HST _ _ HX.out).mono ?_
  rintro e w3 ⟨aT2, cT2, rfl, hT2, hb3⟩
  have k3 : Below w.heap.size w w3 := k2.trans (hb3.mono k2.size)
  replace HC1 := hid (HC1.out.below hb3)
  replace HX := hid (HX.out.below hb3)
  replace HT1 := hid (HT1.out.below hb3)
  have HT2 := hid hT2
  clear hT2
  clear hb3
  go_wp2_with fail
  refine (HIB _ _ HX.out).mono ?_
  rintro e w4 ⟨aA1, cA1, rfl, hA1, hb4⟩
  have k4 : Below w.heap.size w w4 := k3.trans (hb4.mono k3.size)
  replace HC1 := hid (HC1.out.below hb4)
  replace HX := hid (HX.out.below hb4)
  replace HT1 := hid (HT1.out.below hb4)
  replace HT2 := hid (HT2.out.below hb4)
  have HA1 := hid hA1
  clear hA1
  clear hb4
  go_wp2_with fail
  refine (HSB _ _ HX.out).mono ?_
  rintro e w5 ⟨aA2, cA2, rfl, hA2, hb5⟩
  have k5 : Below w.heap.size w w5 := k4.trans (hb5.mono k4.size)
  replace HC1 := hid (HC1.out.below hb5)
  replace HX := hid (HX.out.below hb5)
  replace HT1 := hid (HT1.out.below hb5)
  replace HT2 := hid (HT2.out.below hb5)
  replace HA1 := hid (HA1.out.below hb5)
  have HA2 := hid hA2
  clear hA2
  clear hb5
  go_wp2_with fail
  refine (HSTT _ _ _ HT1.out.at HT2.out.at).mono ?_
  rintro e w6 ⟨rfl, hb6⟩
  have k6 : Below w.heap.size w w6 := k5.trans (hb6.mono k5.size)
  replace HC1 := hid (HC1.out.below hb6)
  replace HX := hid (HX.out.below hb6)
  replace HT1 := hid (HT1.out.below hb6)
  replace HT2 := hid (HT2.out.below hb6)
  replace HA1 := hid (HA1.out.below hb6)
  replace HA2 := hid (HA2.out.below hb6)
  clear hb6
  go_wp2_with fail
  refine (HSA _ _ _ HA1.out.at HA2.out.at).mono ?_
  rintro e w7 ⟨rfl, hb7⟩
  have k7 : Below w.heap.size w w7 := k6.trans (hb7.mono k6.size)
  replace HC1 := hid (HC1.out.below hb7)
  replace HX := hid (HX.out.below hb7)
  replace HT1 := hid (HT1.out.below hb7)
  replace HT2 := hid (HT2.out.below hb7)
  replace HA1 := hid (HA1.out.below hb7)
  replace HA2 := hid (HA2.out.below hb7)
  clear hb7
  clear HT2 HA2 HIT HST HIB HSB HSTT
  cases B
  case false =>
    clear HX HT1 HA1 HKEY HSA HSL
    go_wp2_with fail
    refine (drawTot _ n1 _ HC1.out).mono ?_
    rintro e w8 ⟨x, RP, yP, rfl, ⟨ho, hSP⟩, hb8⟩
    have k8 : Below w.heap.size w w8 := k7.trans (hb8.mono k7.size)
    replace HC1 := hid (HC1.out.below hb8)
    have HP := hid ho
    obtain ⟨aP, cP, rfl⟩ := ho.slice
    have HSLP := hid (fun r hr => by have := hSP.2 r hr; omega : ∀ r ∈ RP, r.length ≤ 1048576)
    have hR5P := hSP.1
    clear ho hSP
    clear hb8
    obtain ⟨GP, hGP⟩ := bool_of (GoodRs RP)
    have HIP := fun x W h => implTotalOf x RP yP GP hGP W h (by omega) HSLP.out
    have HSP := fun x W h => specTotalOf x RP yP GP hGP W h (by omega) HSLP.out
    generalize totV GP RP yP = V2 at *
    generalize totA GP RP yP = B2 at *
    have hvP : (V2 == V2) = true := by simp
    have hbP : (B2 == B2) = true := by cases B2 <;> rfl
    clear hGP HSLP hR5P
    go_wp2_with fail
    refine (HIP _ _ HP.out).mono ?_
    rintro e w9 ⟨rfl, hb9⟩
    have k9 : Below w.heap.size w w9 := k8.trans (hb9.mono k8.size)
    replace HC1 := hid (HC1.out.below hb9)
    replace HP := hid (HP.out.below hb9)
    clear hb9
    go_wp2_with fail
    refine (HSP _ _ HP.out).mono ?_
    rintro e w10 ⟨rfl, hb10⟩
    have k10 : Below w.heap.size w w10 := k9.trans (hb10.mono k9.size)
    replace HC1 := hid (HC1.out.below hb10)
    replace HP := hid (HP.out.below hb10)
    clear hb10
    clear HIP HSP HP
    go_wp2_with fail
    refine (drawBnd _ n1 _ HC1.out).mono ?_
    rintro e w11 ⟨x, RQ, yQ, rfl, ⟨ho, hSQ⟩, hb11⟩
    have k11 : Below w.heap.size w w11 := k10.trans (hb11.mono k10.size)
    replace HC1 := hid (HC1.out.below hb11)
    have HQ := hid ho
    obtain ⟨aQ, cQ, rfl⟩ := ho.slice
    have HSLQ := hid (fun r hr => by have := hSQ.2 r hr; omega : ∀ r ∈ RQ, r.length ≤ 1048576)
    have hR5Q := hSQ.1
    clear ho hSQ
    clear hb11
    obtain ⟨GQ, hGQ⟩ := bool_of (GoodRs RQ)
    have HIQ := fun x W h => implBoundAt x RQ yQ GQ hGQ W h (by omega) HSLQ.out
    have HSQ := fun x W h => specBoundAt x RQ yQ GQ hGQ W h (by omega) HSLQ.out
    generalize bndV GQ RQ yQ = V3 at *
    generalize bndA GQ yQ = B3 at *
    have hvQ : (V3 == V3) = true := by simp
    have hbQ : (B3 == B3) = true := by cases B3 <;> rfl
    clear hGQ HSLQ hR5Q
    go_wp2_with fail
    refine (HIQ _ _ HQ.out).mono ?_
    rintro e w12 ⟨rfl, hb12⟩
    have k12 : Below w.heap.size w w12 := k11.trans (hb12.mono k11.size)
    replace HC1 := hid (HC1.out.below hb12)
    replace HQ := hid (HQ.out.below hb12)
    clear hb12
    go_wp2_with fail
    refine (HSQ _ _ HQ.out).mono ?_
    rintro e w13 ⟨rfl, hb13⟩
    have k13 : Below w.heap.size w w13 := k12.trans (hb13.mono k12.size)
    replace HC1 := hid (HC1.out.below hb13)
    replace HQ := hid (HQ.out.below hb13)
    clear hb13
    clear HIQ HSQ HQ
    go_wp2_with fail
    refine (drawGR _ n1 _ HC1.out).mono ?_
    rintro e w14 ⟨x, g, rfl, ⟨ho, hgl⟩, hb14⟩
    have k14 : Below w.heap.size w w14 := k13.trans (hb14.mono k13.size)
    replace HC1 := hid (HC1.out.below hb14)
    have HG := hid ho
    obtain ⟨ga, gc, rfl⟩ := ho.slice
    clear ho HC1
    clear hb14
    obtain ⟨B4, hB4⟩ := bool_of (GoodR g)
    have HIG := fun x W h => implGood x g B4 hB4 W h (by omega)
    have HSG := fun x W h => specGood x g B4 hB4 W h (by omega)
    have hb4 : (B4 == B4) = true := by cases B4 <;> rfl
    clear hB4
    go_wp2_with fail
    refine (HIG _ _ HG.out).mono ?_
    rintro e w15 ⟨rfl, hb15⟩
    have k15 : Below w.heap.size w w15 := k14.trans (hb15.mono k14.size)
    replace HG := hid (HG.out.below hb15)
    clear hb15
    go_wp2_with fail
    refine (HSG _ _ HG.out).mono ?_
    rintro e w16 ⟨rfl, hb16⟩
    have k16 : Below w.heap.size w w16 := k15.trans (hb16.mono k15.size)
    replace HG := hid (HG.out.below hb16)
    clear hb16
    go_wp2
    go_returns
    exact ⟨rfl, k16⟩
  case true =>
    obtain ⟨hg, hyy, hTA, hAe⟩ := HKEY.out rfl
    rw [← hAe] at hTA
    subst hTA
    obtain ⟨m, hm⟩ : ∃ m : Nat, y = (m : Int) := ⟨y.toNat, by omega⟩
    subst hm
    rw [Int.toNat_natCast] at hAe
    have hAm : T.length ≤ m := by rw [hAe]; simp; omega
    have hm1 : 1 ≤ m ∧ m ≤ 10 := by omega
    have HEA : Hid (∀ k, k < T.length → (0 ≤ (gd T k).1 ∧ (gd T k).1 ≤ 99) ∧ (gd T k).2 = tot R (gd T k).1 ∧ 1 ≤ (gd T k).2 ∧ (0 < k → bet (gd T (k - 1)) (gd T k) = true)) := fun k hk => by
      have := best_each hg m k (by rw [← hAe]; exact hk)
      rw [← hAe] at this
      exact this
    have HRE : Hid (T.length = m → ∀ d, hasD T d = false → ¬ ((gd T (m - 1)).2 < tot R d ∨ (tot R d = (gd T (m - 1)).2 ∧ d < (gd T (m - 1)).1))) := fun hl d hn => by
      have := best_rest hg (m := m) (by omega) (by rw [← hAe]; exact hl) d (by rw [← hAe]; exact hasD_no.1 hn)
      rw [← hAe] at this
      exact this
    have HTO : Hid (∀ (d : Int) x W, (0 ≤ d ∧ d ≤ 99) → RdR W x R → Calls Try.prog 19 #[x, .int .i64 d] W fun e w' => e = .returned (.tuple #[.int .i64 (tot R d), .bool true]) ∧ Below W.heap.size W w') := fun d x W hd h => by
      have e1 : totA true R d = true := by simp [totA]; omega
      have e2 : totV true R d = tot R d := by unfold totV; rw [if_pos e1]
      have := implTotalOf x R d true ⟨fun _ => hg, fun _ => rfl⟩ W h (by omega) HSL.out
      rw [e1, e2] at this
      exact this
    have hNi : ¬ (20 : Int) < (N : Int) := by omega
    have hAmi : ¬ (m : Int) < (T.length : Int) := by omega
    have hNd : decide ((20 : Int) < (N : Int)) = false := decide_eq_false hNi
    have hAd : decide ((m : Int) < (T.length : Int)) = false := decide_eq_false hAmi
    have hAd2 : decide (m < T.length) = false := decide_eq_false (by omega)
    clear hg hyy hAe HKEY hAm
    go_wp2_with fail
    refine (HSA _ _ _ HT1.out.at HA1.out.at).mono ?_
    rintro e w8 ⟨rfl, hb8⟩
    have k8 : Below w.heap.size w w8 := k7.trans (hb8.mono k7.size)
    replace HC1 := hid (HC1.out.below hb8)
    replace HX := hid (HX.out.below hb8)
    replace HT1 := hid (HT1.out.below hb8)
    replace HA1 := hid (HA1.out.below hb8)
    clear hb8
    clear HSA HT1
    obtain ⟨W9, hW9⟩ : ∃ W9, W9 = w8 := ⟨_, rfl⟩
    subst hW9
    have HK9 := hid k8
    have kr : Below W9.heap.size W9 W9 := Below.refl _ _
    go_wp2_with fail
    go_loopw [124] (fun i wr => ∃ k : Nat, k ≤ T.length ∧ i = .int .i64 (k : Int) ∧ Below W9.heap.size W9 wr) (fun i _ => T.length - (intOf i).toNat)
    case atStart => exact ⟨0, Nat.zero_le _, rfl, kr⟩
    case round =>
      obtain ⟨k, hk, rfl, kb⟩ := hrel
      clear kr
      have kl := kb.size
      by_cases hlt : k < T.length
      · obtain ⟨g0, gcap, hge, hg0, hg1⟩ := HA1.out.lies (by omega)
        cases hge
        have hA := HA1.out.below kb
        have z0 := hA.c0 hlt
        have z1 := hA.c1 hlt
        obtain ⟨hz1, hz2, hz3, hz4⟩ := HEA.out k hlt
        have hgr : g0 < wr.heap.size := by omega
        have hki : (k : Int) < (T.length : Int) := by omega
        have hk0 : (0 : Int) ≤ (k : Int) := by omega
        have hq : ∃ q : Sc, 0 < k → (q = gd T (k - 1)) := ⟨_, fun _ => rfl⟩
        have hto := fun W hW => HTO.out (gd T k).1 (.slice xa R.length xc) W hz1 hW
        rw [← hz2] at hto
        obtain ⟨z, hz⟩ : ∃ z, z = gd T k := ⟨_, rfl⟩
        rw [← hz] at z0 z1 hz4 hto
        have hzn : (z.2 != z.2) = false := by simp
        obtain ⟨W1, hW1⟩ : ∃ W1, W1 = wr.alloc (.cells #[.int .i64 z.1, .int .i64 z.2] 33) := ⟨_, rfl⟩
        have k1 : Below wr.heap.size wr W1 := by rw [hW1]; exact al_ _ _
        have hbz : BoxAt W1 wr.heap.size [.int .i64 z.1, .int .i64 z.2] := by rw [hW1]; exact boxNew wr _ _
        obtain ⟨bz, ebz⟩ : ∃ b, b = wr.heap.size := ⟨_, rfl⟩
        rw [← ebz] at hbz
        have x0 := hbz.2.1 0 _ rfl
        have xl := hbz.1
        have kn : Below W9.heap.size W9 W1 := kb.trans (k1.mono kl)
        have HXN := hid (HX.out.below kn)
        have HBZ := hid hbz
        have HV := hid (And.intro hW1 ebz)
        clear hbz k1 hW1 ebz hA hz hz1 hz2 hz3
        go_upto_region 16 with fail
        rw [← HV.out.1, ← HV.out.2]
        clear HV z0 z1
        go_wp2_with fail
        refine (hto _ HXN.out).mono ?_
        rintro e w50 ⟨rfl, hb5⟩
        have kn5 : Below W9.heap.size W9 w50 := kn.trans (hb5.mono kn.size)
        have hbz5 := HBZ.out.below hb5
        have y0 := hbz5.2.1 0 _ rfl
        have y1 := hbz5.2.1 1 _ rfl
        have yl := hbz5.1
        have hA5 := HA1.out.below kn5
        have hgr5 : g0 < w50.heap.size := by have := kn5.size; omega
        have kfin : Below W9.heap.size W9 w50.drew := Below.drew kn5
        clear hbz5 HBZ HXN x0 xl hb5 kn hto hq
        by_cases hkz : 0 < k
        · have hkzi : (0 : Int) < (k : Int) := by omega
          have hkzd : decide ((0 : Int) < (k : Int)) = true := decide_eq_true hkzi
          have hkzd2 : decide (0 < k) = true := decide_eq_true hkz
          have hbt := hz4 hkz
          obtain ⟨j, hj⟩ : ∃ j, j = k - 1 := ⟨_, rfl⟩
          have hkj : (k : Int) - 1 = (j : Int) := by omega
          have hkw : IntKind.i64.wrap ((k : Int) - 1) = (j : Int) := by rw [IntKind.wrap_i64]; omega
          have hji : (j : Int) < (T.length : Int) := by omega
          have hj0 : (0 : Int) ≤ (j : Int) := by omega
          have hjw : IntKind.i64.wrap (j : Int) = (j : Int) := by rw [IntKind.wrap_i64]; omega
          have hjn : j < T.length := by omega
          have p0 := hA5.c0 hjn
          have p1 := hA5.c1 hjn
          rw [← hj] at hbt
          obtain ⟨q, hq⟩ : ∃ q, q = gd T j := ⟨_, rfl⟩
          rw [← hq] at p0 p1 hbt
          rw [bet_iff] at hbt
          clear hj hq hA5 hz4
          by_cases h2 : q.2 = z.2
          · have e1 : ¬ q.2 < z.2 := by omega
            have e1d : decide (q.2 < z.2) = false := decide_eq_false e1
            have e2 : (q.2 == z.2) = true := by rw [h2]; simp
            have e3 : ¬ z.1 ≤ q.1 := by omega
            have e4 : decide (z.1 ≤ q.1) = false := decide_eq_false e3
            clear hbt h2
            go_upto_region 17 with fail
            have HSK : Hid (∀ W, Below w50.heap.size w50 W → (fun w' : World => (w'.cell? ⟨bz, 1, none⟩ = some (.int .i64 z.2) ∧ w'.cell? ⟨bz, 0, none⟩ = some (.int .i64 z.1)) ∧ w'.cell? ⟨g0, j * 2, none⟩ = some (.int .i64 q.1) ∧ w'.cell? ⟨g0, j * 2 + 1, none⟩ = some (.int .i64 q.2)) W) := fun W hW => ⟨⟨(hW.cell yl).trans y1, (hW.cell yl).trans y0⟩, (hW.cell hgr5).trans p0, (hW.cell hgr5).trans p1⟩
            have kd : Below w50.heap.size w50 w50.drew := Below.drew (Below.refl _ _)
            have hHeld := HSK.out w50.drew kd
            refine wp_region_heldL (n := 45) (S := fun w' : World => (w'.cell? ⟨bz, 1, none⟩ = some (.int .i64 z.2) ∧ w'.cell? ⟨bz, 0, none⟩ = some (.int .i64 z.1)) ∧ w'.cell? ⟨g0, j * 2, none⟩ = some (.int .i64 q.1) ∧ w'.cell? ⟨g0, j * 2 + 1, none⟩ = some (.int .i64 q.2)) (by kernel_rfl) rfl ?_
            refine takeL (i := 0) (v := ?_) rfl (by kernel_rfl) (by kernel_rfl) (by kernel_rfl) (fun _ _ _ h => h) rfl ?_ (by assumption) ?_
            rotate_left
            · intro w hSw; (try dsimp only at hSw); go_simp; (try with_reducible rfl)
            (try simp only [Act.put, List.setIfInBounds_toArray, List.set_cons_zero, List.set_cons_succ])
            refine takeL (i := 1) (v := ?_) rfl (by kernel_rfl) (by kernel_rfl) (by kernel_rfl) (fun _ _ _ h => h) rfl ?_ (by assumption) ?_
            rotate_left
            · intro w hSw; (try dsimp only at hSw); go_simp; (try with_reducible rfl)
            (try simp only [Act.put, List.setIfInBounds_toArray, List.set_cons_zero, List.set_cons_succ])
            refine takeL (i := 2) (v := ?_) rfl (by kernel_rfl) (by kernel_rfl) (by kernel_rfl) (fun _ _ _ h => h) rfl ?_ (by assumption) ?_
            rotate_left
            · intro w hSw; (try dsimp only at hSw); go_simp; (try with_reducible rfl)
            (try simp only [Act.put, List.setIfInBounds_toArray, List.set_cons_zero, List.set_cons_succ])
            refine takeW (i := 3) (v := ?_) rfl (by kernel_rfl) (by kernel_rfl) (by kernel_rfl) (fun _ _ _ h => h) (by kernel_rfl) ?_ (by assumption) ?_
            rotate_left
            · intro w hSw; (try dsimp only at hSw); go_simp; (try with_reducible rfl)
            (try simp only [Act.put, List.setIfInBounds_toArray, List.set_cons_zero, List.set_cons_succ])
            refine takeW (i := 4) (v := ?_) rfl (by kernel_rfl) (by kernel_rfl) (by kernel_rfl) (fun _ _ _ h => h) (by kernel_rfl) ?_ (by assumption) ?_
            rotate_left
            · intro w hSw; (try dsimp only at hSw); go_simp; (try with_reducible rfl)
            (try simp only [Act.put, List.setIfInBounds_toArray, List.set_cons_zero, List.set_cons_succ])
            refine takeW (i := 5) (v := ?_) rfl (by kernel_rfl) (by kernel_rfl) (by kernel_rfl) (fun _ _ _ h => h) (by kernel_rfl) ?_ (by assumption) ?_
            rotate_left
            · intro w hSw; (try dsimp only at hSw); go_simp; (try with_reducible rfl)
            (try simp only [Act.put, List.setIfInBounds_toArray, List.set_cons_zero, List.set_cons_succ])
            refine takeW (i := 6) (v := ?_) rfl (by kernel_rfl) (by kernel_rfl) (by kernel_rfl) (fun _ _ _ h => h) (by kernel_rfl) ?_ (by assumption) ?_
            rotate_left
            · intro w hSw; (try dsimp only at hSw); go_simp; (try with_reducible rfl)
            (try simp only [Act.put, List.setIfInBounds_toArray, List.set_cons_zero, List.set_cons_succ])
            refine takeL (i := 7) (v := ?_) rfl (by kernel_rfl) (by kernel_rfl) (by kernel_rfl) (fun _ _ _ h => h) rfl ?_ (by assumption) ?_
            rotate_left
            · intro w hSw; (try dsimp only at hSw); go_simp; (try with_reducible rfl)
            (try simp only [Act.put, List.setIfInBounds_toArray, List.set_cons_zero, List.set_cons_succ])
            refine takeL (i := 8) (v := ?_) rfl (by kernel_rfl) (by kernel_rfl) (by kernel_rfl) (fun _ _ _ h => h) rfl ?_ (by assumption) ?_
            rotate_left
            · intro w hSw; (try dsimp only at hSw); go_simp; (try with_reducible rfl)
            (try simp only [Act.put, List.setIfInBounds_toArray, List.set_cons_zero, List.set_cons_succ])
            refine takeW (i := 9) (v := ?_) rfl (by kernel_rfl) (by kernel_rfl) (by kernel_rfl) (fun _ _ _ h => h) (by kernel_rfl) ?_ (by assumption) ?_
            rotate_left
            · intro w hSw; (try dsimp only at hSw); go_simp; (try with_reducible rfl)
            (try simp only [Act.put, List.setIfInBounds_toArray, List.set_cons_zero, List.set_cons_succ])
            refine takeW (i := 10) (v := ?_) rfl (by kernel_rfl) (by kernel_rfl) (by kernel_rfl) (fun _ _ _ h => h) (by kernel_rfl) ?_ (by assumption) ?_
            rotate_left
            · intro w hSw; (try dsimp only at hSw); go_simp; (try with_reducible rfl)
            (try simp only [Act.put, List.setIfInBounds_toArray, List.set_cons_zero, List.set_cons_succ])
            refine takeW (i := 11) (v := ?_) rfl (by kernel_rfl) (by kernel_rfl) (by kernel_rfl) (fun _ _ _ h => h) (by kernel_rfl) ?_ (by assumption) ?_
            rotate_left
            · intro w hSw; (try dsimp only at hSw); go_simp; (try with_reducible rfl)
            (try simp only [Act.put, List.setIfInBounds_toArray, List.set_cons_zero, List.set_cons_succ])
            refine takeW (i := 12) (v := ?_) rfl (by kernel_rfl) (by kernel_rfl) (by kernel_rfl) (fun _ _ _ h => h) (by kernel_rfl) ?_ (by assumption) ?_
            rotate_left
            · intro w hSw; (try dsimp only at hSw); go_simp; (try with_reducible rfl)
            (try simp only [Act.put, List.setIfInBounds_toArray, List.set_cons_zero, List.set_cons_succ])
            refine takeW (i := 13) (v := ?_) rfl (by kernel_rfl) (by kernel_rfl) (by kernel_rfl) (fun _ _ _ h => h) (by kernel_rfl) ?_ (by assumption) ?_
            rotate_left
            · intro w hSw; (try dsimp only at hSw); go_simp; (try with_reducible rfl)
            (try simp only [Act.put, List.setIfInBounds_toArray, List.set_cons_zero, List.set_cons_succ])
            refine takeW (i := 14) (v := ?_) rfl (by kernel_rfl) (by kernel_rfl) (by kernel_rfl) (fun _ _ _ h => h) (by kernel_rfl) ?_ (by assumption) ?_
            rotate_left
            · intro w hSw; (try dsimp only at hSw); go_simp; (try with_reducible rfl)
            (try simp only [Act.put, List.setIfInBounds_toArray, List.set_cons_zero, List.set_cons_succ])
            refine takeW (i := 15) (v := ?_) rfl (by kernel_rfl) (by kernel_rfl) (by kernel_rfl) (fun _ _ _ h => h) (by kernel_rfl) ?_ (by assumption) ?_
            rotate_left
            · intro w hSw; (try dsimp only at hSw); go_simp; (try with_reducible rfl)
            (try simp only [Act.put, List.setIfInBounds_toArray, List.set_cons_zero, List.set_cons_succ])
            refine takeW (i := 16) (v := ?_) rfl (by kernel_rfl) (by kernel_rfl) (by kernel_rfl) (fun _ _ _ h => h) (by kernel_rfl) ?_ (by assumption) ?_
            rotate_left
            · intro w hSw; (try dsimp only at hSw); go_simp; (try with_reducible rfl)
            (try simp only [Act.put, List.setIfInBounds_toArray, List.set_cons_zero, List.set_cons_succ])
            refine takeW (i := 17) (v := ?_) rfl (by kernel_rfl) (by kernel_rfl) (by kernel_rfl) (fun _ _ _ h => h) (by kernel_rfl) ?_ (by assumption) ?_
            rotate_left
            · intro w hSw; (try dsimp only at hSw); go_simp; (try with_reducible rfl)
            (try simp only [Act.put, List.setIfInBounds_toArray, List.set_cons_zero, List.set_cons_succ])
            refine takeW (i := 18) (v := ?_) rfl (by kernel_rfl) (by kernel_rfl) (by kernel_rfl) (fun _ _ _ h => h) (by kernel_rfl) ?_ (by assumption) ?_
            rotate_left
            · intro w hSw; (try dsimp only at hSw); go_simp; (try with_reducible rfl)
            (try simp only [Act.put, List.setIfInBounds_toArray, List.set_cons_zero, List.set_cons_succ])
            refine takeW (i := 19) (v := ?_) rfl (by kernel_rfl) (by kernel_rfl) (by kernel_rfl) (fun _ _ _ h => h) (by kernel_rfl) ?_ (by assumption) ?_
            rotate_left
            · intro w hSw; (try dsimp only at hSw); go_simp; (try with_reducible rfl)
            (try simp only [Act.put, List.setIfInBounds_toArray, List.set_cons_zero, List.set_cons_succ])
            refine takeW (i := 20) (v := ?_) rfl (by kernel_rfl) (by kernel_rfl) (by kernel_rfl) (fun _ _ _ h => h) (by kernel_rfl) ?_ (by assumption) ?_
            rotate_left
            · intro w hSw; (try dsimp only at hSw); go_simp; (try with_reducible rfl)
            (try simp only [Act.put, List.setIfInBounds_toArray, List.set_cons_zero, List.set_cons_succ])
            refine takeW (i := 21) (v := ?_) rfl (by kernel_rfl) (by kernel_rfl) (by kernel_rfl) (fun _ _ _ h => h) (by kernel_rfl) ?_ (by assumption) ?_
            rotate_left
            · intro w hSw; (try dsimp only at hSw); go_simp; (try with_reducible rfl)
            (try simp only [Act.put, List.setIfInBounds_toArray, List.set_cons_zero, List.set_cons_succ])
            refine takeW (i := 22) (v := ?_) rfl (by kernel_rfl) (by kernel_rfl) (by kernel_rfl) (fun _ _ _ h => h) (by kernel_rfl) ?_ (by assumption) ?_
            rotate_left
            · intro w hSw; (try dsimp only at hSw); go_simp; (try with_reducible rfl)
            (try simp only [Act.put, List.setIfInBounds_toArray, List.set_cons_zero, List.set_cons_succ])
            refine takeW (i := 23) (v := ?_) rfl (by kernel_rfl) (by kernel_rfl) (by kernel_rfl) (fun _ _ _ h => h) (by kernel_rfl) ?_ (by assumption) ?_
            rotate_left
            · intro w hSw; (try dsimp only at hSw); go_simp; (try with_reducible rfl)
            (try simp only [Act.put, List.setIfInBounds_toArray, List.set_cons_zero, List.set_cons_succ])
            refine takeW (i := 24) (v := ?_) rfl (by kernel_rfl) (by kernel_rfl) (by kernel_rfl) (fun _ _ _ h => h) (by kernel_rfl) ?_ (by assumption) ?_
            rotate_left
            · intro w hSw; (try dsimp only at hSw); go_simp; (try with_reducible rfl)
            (try simp only [Act.put, List.setIfInBounds_toArray, List.set_cons_zero, List.set_cons_succ])
            refine takeW (i := 25) (v := ?_) rfl (by kernel_rfl) (by kernel_rfl) (by kernel_rfl) (fun _ _ _ h => h) (by kernel_rfl) ?_ (by assumption) ?_
            rotate_left
            · intro w hSw; (try dsimp only at hSw); go_simp; (try with_reducible rfl)
            (try simp only [Act.put, List.setIfInBounds_toArray, List.set_cons_zero, List.set_cons_succ])
            refine takeW (i := 26) (v := ?_) rfl (by kernel_rfl) (by kernel_rfl) (by kernel_rfl) (fun _ _ _ h => h) (by kernel_rfl) ?_ (by assumption) ?_
            rotate_left
            · intro w hSw; (try dsimp only at hSw); go_simp; (try with_reducible rfl)
            (try simp only [Act.put, List.setIfInBounds_toArray, List.set_cons_zero, List.set_cons_succ])
            refine takeW (i := 27) (v := ?_) rfl (by kernel_rfl) (by kernel_rfl) (by kernel_rfl) (fun _ _ _ h => h) (by kernel_rfl) ?_ (by assumption) ?_
            rotate_left
            · intro w hSw; (try dsimp only at hSw); go_simp; (try with_reducible rfl)
            (try simp only [Act.put, List.setIfInBounds_toArray, List.set_cons_zero, List.set_cons_succ])
            refine takeW (i := 28) (v := ?_) rfl (by kernel_rfl) (by kernel_rfl) (by kernel_rfl) (fun _ _ _ h => h) (by kernel_rfl) ?_ (by assumption) ?_
            rotate_left
            · intro w hSw; (try dsimp only at hSw); go_simp; (try with_reducible rfl)
            (try simp only [Act.put, List.setIfInBounds_toArray, List.set_cons_zero, List.set_cons_succ])
            refine takeW (i := 29) (v := ?_) rfl (by kernel_rfl) (by kernel_rfl) (by kernel_rfl) (fun _ _ _ h => h) (by kernel_rfl) ?_ (by assumption) ?_
            rotate_left
            · intro w hSw; (try dsimp only at hSw); go_simp; (try with_reducible rfl)
            (try simp only [Act.put, List.setIfInBounds_toArray, List.set_cons_zero, List.set_cons_succ])
            refine takeW (i := 30) (v := ?_) rfl (by kernel_rfl) (by kernel_rfl) (by kernel_rfl) (fun _ _ _ h => h) (by kernel_rfl) ?_ (by assumption) ?_
            rotate_left
            · intro w hSw; (try dsimp only at hSw); go_simp; (try with_reducible rfl)
            (try simp only [Act.put, List.setIfInBounds_toArray, List.set_cons_zero, List.set_cons_succ])
            refine takeW (i := 31) (v := ?_) rfl (by kernel_rfl) (by kernel_rfl) (by kernel_rfl) (fun _ _ _ h => h) (by kernel_rfl) ?_ (by assumption) ?_
            rotate_left
            · intro w hSw; (try dsimp only at hSw); go_simp; (try with_reducible rfl)
            (try simp only [Act.put, List.setIfInBounds_toArray, List.set_cons_zero, List.set_cons_succ])
            refine takeW (i := 32) (v := ?_) rfl (by kernel_rfl) (by kernel_rfl) (by kernel_rfl) (fun _ _ _ h => h) (by kernel_rfl) ?_ (by assumption) ?_
            rotate_left
            · intro w hSw; (try dsimp only at hSw); go_simp; (try with_reducible rfl)
            (try simp only [Act.put, List.setIfInBounds_toArray, List.set_cons_zero, List.set_cons_succ])
            refine takeW (i := 33) (v := ?_) rfl (by kernel_rfl) (by kernel_rfl) (by kernel_rfl) (fun _ _ _ h => h) (by kernel_rfl) ?_ (by assumption) ?_
            rotate_left
            · intro w hSw; (try dsimp only at hSw); go_simp; (try with_reducible rfl)
            (try simp only [Act.put, List.setIfInBounds_toArray, List.set_cons_zero, List.set_cons_succ])
            refine takeW (i := 34) (v := ?_) rfl (by kernel_rfl) (by kernel_rfl) (by kernel_rfl) (fun _ _ _ h => h) (by kernel_rfl) ?_ (by assumption) ?_
            rotate_left
            · intro w hSw; (try dsimp only at hSw); go_simp; (try with_reducible rfl)
            (try simp only [Act.put, List.setIfInBounds_toArray, List.set_cons_zero, List.set_cons_succ])
            refine takeW (i := 35) (v := ?_) rfl (by kernel_rfl) (by kernel_rfl) (by kernel_rfl) (fun _ _ _ h => h) (by kernel_rfl) ?_ (by assumption) ?_
            rotate_left
            · intro w hSw; (try dsimp only at hSw); go_simp; (try with_reducible rfl)
            (try simp only [Act.put, List.setIfInBounds_toArray, List.set_cons_zero, List.set_cons_succ])
            refine takeW (i := 36) (v := ?_) rfl (by kernel_rfl) (by kernel_rfl) (by kernel_rfl) (fun _ _ _ h => h) (by kernel_rfl) ?_ (by assumption) ?_
            rotate_left
            · intro w hSw; (try dsimp only at hSw); go_simp; (try with_reducible rfl)
            (try simp only [Act.put, List.setIfInBounds_toArray, List.set_cons_zero, List.set_cons_succ])
            refine takeW (i := 37) (v := ?_) rfl (by kernel_rfl) (by kernel_rfl) (by kernel_rfl) (fun _ _ _ h => h) (by kernel_rfl) ?_ (by assumption) ?_
            rotate_left
            · intro w hSw; (try dsimp only at hSw); go_simp; (try with_reducible rfl)
            (try simp only [Act.put, List.setIfInBounds_toArray, List.set_cons_zero, List.set_cons_succ])
            refine takeW (i := 38) (v := ?_) rfl (by kernel_rfl) (by kernel_rfl) (by kernel_rfl) (fun _ _ _ h => h) (by kernel_rfl) ?_ (by assumption) ?_
            rotate_left
            · intro w hSw; (try dsimp only at hSw); go_simp; (try with_reducible rfl)
            (try simp only [Act.put, List.setIfInBounds_toArray, List.set_cons_zero, List.set_cons_succ])
            refine takeW (i := 39) (v := ?_) rfl (by kernel_rfl) (by kernel_rfl) (by kernel_rfl) (fun _ _ _ h => h) (by kernel_rfl) ?_ (by assumption) ?_
            rotate_left
            · intro w hSw; (try dsimp only at hSw); go_simp; (try with_reducible rfl)
            (try simp only [Act.put, List.setIfInBounds_toArray, List.set_cons_zero, List.set_cons_succ])
            refine takeW (i := 40) (v := ?_) rfl (by kernel_rfl) (by kernel_rfl) (by kernel_rfl) (fun _ _ _ h => h) (by kernel_rfl) ?_ (by assumption) ?_
            rotate_left
            · intro w hSw; (try dsimp only at hSw); go_simp; (try with_reducible rfl)
            (try simp only [Act.put, List.setIfInBounds_toArray, List.set_cons_zero, List.set_cons_succ])
            refine takeW (i := 41) (v := ?_) rfl (by kernel_rfl) (by kernel_rfl) (by kernel_rfl) (fun _ _ _ h => h) (by kernel_rfl) ?_ (by assumption) ?_
            rotate_left
            · intro w hSw; (try dsimp only at hSw); go_simp; (try with_reducible rfl)
            (try simp only [Act.put, List.setIfInBounds_toArray, List.set_cons_zero, List.set_cons_succ])
            refine takeW (i := 42) (v := ?_) rfl (by kernel_rfl) (by kernel_rfl) (by kernel_rfl) (fun _ _ _ h => h) (by kernel_rfl) ?_ (by assumption) ?_
            rotate_left
            · intro w hSw; (try dsimp only at hSw); go_simp; (try with_reducible rfl)
            (try simp only [Act.put, List.setIfInBounds_toArray, List.set_cons_zero, List.set_cons_succ])
            refine takeW (i := 43) (v := ?_) rfl (by kernel_rfl) (by kernel_rfl) (by kernel_rfl) (fun _ _ _ h => h) (by kernel_rfl) ?_ (by assumption) ?_
            rotate_left
            · intro w hSw; (try dsimp only at hSw); go_simp; (try with_reducible rfl)
            (try simp only [Act.put, List.setIfInBounds_toArray, List.set_cons_zero, List.set_cons_succ])
            refine takeL (i := 44) (v := ?_) rfl (by kernel_rfl) (by kernel_rfl) (by kernel_rfl) (fun _ _ _ h => h) rfl ?_ (by assumption) ?_
            rotate_left
            · intro w hSw; (try dsimp only at hSw); go_simp; (try with_reducible rfl)
            (try simp only [Act.put, List.setIfInBounds_toArray, List.set_cons_zero, List.set_cons_succ])
            refine wpAnyH_done (by kernel_rfl) ?_ _
            clear hHeld kd HSK
            go_wp2
            refine ⟨?_, by simp [intOf]; omega⟩
            first | exact ⟨k + 1, by omega, by go_num, kfin⟩ | ((repeat apply Exists.intro); refine ⟨⟨k + 1, ?_, ?_, kfin⟩, rfl⟩; omega; go_num) | ((repeat apply Exists.intro); refine ⟨⟨k + 1, ?_, ?_, kfin⟩, ?_⟩; rotate_left 2; rfl; omega; go_num)
          · have e1 : ¬ q.2 < z.2 := by omega
            have e1d : decide (q.2 < z.2) = false := decide_eq_false e1
            have e2 : (q.2 == z.2) = false := beq_false_of_ne h2
            clear hbt h2
            go_upto_region 17 with fail
            have HSK : Hid (∀ W, Below w50.heap.size w50 W → (fun w' : World => (w'.cell? ⟨bz, 1, none⟩ = some (.int .i64 z.2) ∧ w'.cell? ⟨bz, 0, none⟩ = some (.int .i64 z.1)) ∧ w'.cell? ⟨g0, j * 2, none⟩ = some (.int .i64 q.1) ∧ w'.cell? ⟨g0, j * 2 + 1, none⟩ = some (.int .i64 q.2)) W) := fun W hW => ⟨⟨(hW.cell yl).trans y1, (hW.cell yl).trans y0⟩, (hW.cell hgr5).trans p0, (hW.cell hgr5).trans p1⟩
            have kd : Below w50.heap.size w50 w50.drew := Below.drew (Below.refl _ _)
            have hHeld := HSK.out w50.drew kd
            refine wp_region_heldL (n := 45) (S := fun w' : World => (w'.cell? ⟨bz, 1, none⟩ = some (.int .i64 z.2) ∧ w'.cell? ⟨bz, 0, none⟩ = some (.int .i64 z.1)) ∧ w'.cell? ⟨g0, j * 2, none⟩ = some (.int .i64 q.1) ∧ w'.cell? ⟨g0, j * 2 + 1, none⟩ = some (.int .i64 q.2)) (by kernel_rfl) rfl ?_
            refine takeL (i := 0) (v := ?_) rfl (by kernel_rfl) (by kernel_rfl) (by kernel_rfl) (fun _ _ _ h => h) rfl ?_ (by assumption) ?_
            rotate_left
            · intro w hSw; (try dsimp only at hSw); go_simp; (try with_reducible rfl)
            (try simp only [Act.put, List.setIfInBounds_toArray, List.set_cons_zero, List.set_cons_succ])
            refine takeL (i := 1) (v := ?_) rfl (by kernel_rfl) (by kernel_rfl) (by kernel_rfl) (fun _ _ _ h => h) rfl ?_ (by assumption) ?_
            rotate_left
            · intro w hSw; (try dsimp only at hSw); go_simp; (try with_reducible rfl)
            (try simp only [Act.put, List.setIfInBounds_toArray, List.set_cons_zero, List.set_cons_succ])
            refine takeL (i := 2) (v := ?_) rfl (by kernel_rfl) (by kernel_rfl) (by kernel_rfl) (fun _ _ _ h => h) rfl ?_ (by assumption) ?_
            rotate_left
            · intro w hSw; (try dsimp only at hSw); go_simp; (try with_reducible rfl)
            (try simp only [Act.put, List.setIfInBounds_toArray, List.set_cons_zero, List.set_cons_succ])
            refine takeW (i := 3) (v := ?_) rfl (by kernel_rfl) (by kernel_rfl) (by kernel_rfl) (fun _ _ _ h => h) (by kernel_rfl) ?_ (by assumption) ?_
            rotate_left
            · intro w hSw; (try dsimp only at hSw); go_simp; (try with_reducible rfl)
            (try simp only [Act.put, List.setIfInBounds_toArray, List.set_cons_zero, List.set_cons_succ])
            refine takeW (i := 4) (v := ?_) rfl (by kernel_rfl) (by kernel_rfl) (by kernel_rfl) (fun _ _ _ h => h) (by kernel_rfl) ?_ (by assumption) ?_
            rotate_left
            · intro w hSw; (try dsimp only at hSw); go_simp; (try with_reducible rfl)
            (try simp only [Act.put, List.setIfInBounds_toArray, List.set_cons_zero, List.set_cons_succ])
            refine takeW (i := 5) (v := ?_) rfl (by kernel_rfl) (by kernel_rfl) (by kernel_rfl) (fun _ _ _ h => h) (by kernel_rfl) ?_ (by assumption) ?_
            rotate_left
            · intro w hSw; (try dsimp only at hSw); go_simp; (try with_reducible rfl)
            (try simp only [Act.put, List.setIfInBounds_toArray, List.set_cons_zero, List.set_cons_succ])
            refine takeW (i := 6) (v := ?_) rfl (by kernel_rfl) (by kernel_rfl) (by kernel_rfl) (fun _ _ _ h => h) (by kernel_rfl) ?_ (by assumption) ?_
            rotate_left
            · intro w hSw; (try dsimp only at hSw); go_simp; (try with_reducible rfl)
            (try simp only [Act.put, List.setIfInBounds_toArray, List.set_cons_zero, List.set_cons_succ])
            refine takeL (i := 7) (v := ?_) rfl (by kernel_rfl) (by kernel_rfl) (by kernel_rfl) (fun _ _ _ h => h) rfl ?_ (by assumption) ?_
            rotate_left
            · intro w hSw; (try dsimp only at hSw); go_simp; (try with_reducible rfl)
            (try simp only [Act.put, List.setIfInBounds_toArray, List.set_cons_zero, List.set_cons_succ])
            refine takeL (i := 8) (v := ?_) rfl (by kernel_rfl) (by kernel_rfl) (by kernel_rfl) (fun _ _ _ h => h) rfl ?_ (by assumption) ?_
            rotate_left
            · intro w hSw; (try dsimp only at hSw); go_simp; (try with_reducible rfl)
            (try simp only [Act.put, List.setIfInBounds_toArray, List.set_cons_zero, List.set_cons_succ])
            refine takeW (i := 9) (v := ?_) rfl (by kernel_rfl) (by kernel_rfl) (by kernel_rfl) (fun _ _ _ h => h) (by kernel_rfl) ?_ (by assumption) ?_
            rotate_left
            · intro w hSw; (try dsimp only at hSw); go_simp; (try with_reducible rfl)
            (try simp only [Act.put, List.setIfInBounds_toArray, List.set_cons_zero, List.set_cons_succ])
            refine takeW (i := 10) (v := ?_) rfl (by kernel_rfl) (by kernel_rfl) (by kernel_rfl) (fun _ _ _ h => h) (by kernel_rfl) ?_ (by assumption) ?_
            rotate_left
            · intro w hSw; (try dsimp only at hSw); go_simp; (try with_reducible rfl)
            (try simp only [Act.put, List.setIfInBounds_toArray, List.set_cons_zero, List.set_cons_succ])
            refine takeW (i := 11) (v := ?_) rfl (by kernel_rfl) (by kernel_rfl) (by kernel_rfl) (fun _ _ _ h => h) (by kernel_rfl) ?_ (by assumption) ?_
            rotate_left
            · intro w hSw; (try dsimp only at hSw); go_simp; (try with_reducible rfl)
            (try simp only [Act.put, List.setIfInBounds_toArray, List.set_cons_zero, List.set_cons_succ])
            refine takeW (i := 12) (v := ?_) rfl (by kernel_rfl) (by kernel_rfl) (by kernel_rfl) (fun _ _ _ h => h) (by kernel_rfl) ?_ (by assumption) ?_
            rotate_left
            · intro w hSw; (try dsimp only at hSw); go_simp; (try with_reducible rfl)
            (try simp only [Act.put, List.setIfInBounds_toArray, List.set_cons_zero, List.set_cons_succ])
            refine takeW (i := 13) (v := ?_) rfl (by kernel_rfl) (by kernel_rfl) (by kernel_rfl) (fun _ _ _ h => h) (by kernel_rfl) ?_ (by assumption) ?_
            rotate_left
            · intro w hSw; (try dsimp only at hSw); go_simp; (try with_reducible rfl)
            (try simp only [Act.put, List.setIfInBounds_toArray, List.set_cons_zero, List.set_cons_succ])
            refine takeW (i := 14) (v := ?_) rfl (by kernel_rfl) (by kernel_rfl) (by kernel_rfl) (fun _ _ _ h => h) (by kernel_rfl) ?_ (by assumption) ?_
            rotate_left
            · intro w hSw; (try dsimp only at hSw); go_simp; (try with_reducible rfl)
            (try simp only [Act.put, List.setIfInBounds_toArray, List.set_cons_zero, List.set_cons_succ])
            refine takeW (i := 15) (v := ?_) rfl (by kernel_rfl) (by kernel_rfl) (by kernel_rfl) (fun _ _ _ h => h) (by kernel_rfl) ?_ (by assumption) ?_
            rotate_left
            · intro w hSw; (try dsimp only at hSw); go_simp; (try with_reducible rfl)
            (try simp only [Act.put, List.setIfInBounds_toArray, List.set_cons_zero, List.set_cons_succ])
            refine takeW (i := 16) (v := ?_) rfl (by kernel_rfl) (by kernel_rfl) (by kernel_rfl) (fun _ _ _ h => h) (by kernel_rfl) ?_ (by assumption) ?_
            rotate_left
            · intro w hSw; (try dsimp only at hSw); go_simp; (try with_reducible rfl)
            (try simp only [Act.put, List.setIfInBounds_toArray, List.set_cons_zero, List.set_cons_succ])
            refine takeW (i := 17) (v := ?_) rfl (by kernel_rfl) (by kernel_rfl) (by kernel_rfl) (fun _ _ _ h => h) (by kernel_rfl) ?_ (by assumption) ?_
            rotate_left
            · intro w hSw; (try dsimp only at hSw); go_simp; (try with_reducible rfl)
            (try simp only [Act.put, List.setIfInBounds_toArray, List.set_cons_zero, List.set_cons_succ])
            refine takeW (i := 18) (v := ?_) rfl (by kernel_rfl) (by kernel_rfl) (by kernel_rfl) (fun _ _ _ h => h) (by kernel_rfl) ?_ (by assumption) ?_
            rotate_left
            · intro w hSw; (try dsimp only at hSw); go_simp; (try with_reducible rfl)
            (try simp only [Act.put, List.setIfInBounds_toArray, List.set_cons_zero, List.set_cons_succ])
            refine takeW (i := 19) (v := ?_) rfl (by kernel_rfl) (by kernel_rfl) (by kernel_rfl) (fun _ _ _ h => h) (by kernel_rfl) ?_ (by assumption) ?_
            rotate_left
            · intro w hSw; (try dsimp only at hSw); go_simp; (try with_reducible rfl)
            (try simp only [Act.put, List.setIfInBounds_toArray, List.set_cons_zero, List.set_cons_succ])
            refine takeW (i := 20) (v := ?_) rfl (by kernel_rfl) (by kernel_rfl) (by kernel_rfl) (fun _ _ _ h => h) (by kernel_rfl) ?_ (by assumption) ?_
            rotate_left
            · intro w hSw; (try dsimp only at hSw); go_simp; (try with_reducible rfl)
            (try simp only [Act.put, List.setIfInBounds_toArray, List.set_cons_zero, List.set_cons_succ])
            refine takeW (i := 21) (v := ?_) rfl (by kernel_rfl) (by kernel_rfl) (by kernel_rfl) (fun _ _ _ h => h) (by kernel_rfl) ?_ (by assumption) ?_
            rotate_left
            · intro w hSw; (try dsimp only at hSw); go_simp; (try with_reducible rfl)
            (try simp only [Act.put, List.setIfInBounds_toArray, List.set_cons_zero, List.set_cons_succ])
            refine takeW (i := 22) (v := ?_) rfl (by kernel_rfl) (by kernel_rfl) (by kernel_rfl) (fun _ _ _ h => h) (by kernel_rfl) ?_ (by assumption) ?_
            rotate_left
            · intro w hSw; (try dsimp only at hSw); go_simp; (try with_reducible rfl)
            (try simp only [Act.put, List.setIfInBounds_toArray, List.set_cons_zero, List.set_cons_succ])
            refine takeW (i := 23) (v := ?_) rfl (by kernel_rfl) (by kernel_rfl) (by kernel_rfl) (fun _ _ _ h => h) (by kernel_rfl) ?_ (by assumption) ?_
            rotate_left
            · intro w hSw; (try dsimp only at hSw); go_simp; (try with_reducible rfl)
            (try simp only [Act.put, List.setIfInBounds_toArray, List.set_cons_zero, List.set_cons_succ])
            refine takeW (i := 24) (v := ?_) rfl (by kernel_rfl) (by kernel_rfl) (by kernel_rfl) (fun _ _ _ h => h) (by kernel_rfl) ?_ (by assumption) ?_
            rotate_left
            · intro w hSw; (try dsimp only at hSw); go_simp; (try with_reducible rfl)
            (try simp only [Act.put, List.setIfInBounds_toArray, List.set_cons_zero, List.set_cons_succ])
            refine takeW (i := 25) (v := ?_) rfl (by kernel_rfl) (by kernel_rfl) (by kernel_rfl) (fun _ _ _ h => h) (by kernel_rfl) ?_ (by assumption) ?_
            rotate_left
            · intro w hSw; (try dsimp only at hSw); go_simp; (try with_reducible rfl)
            (try simp only [Act.put, List.setIfInBounds_toArray, List.set_cons_zero, List.set_cons_succ])
            refine takeW (i := 26) (v := ?_) rfl (by kernel_rfl) (by kernel_rfl) (by kernel_rfl) (fun _ _ _ h => h) (by kernel_rfl) ?_ (by assumption) ?_
            rotate_left
            · intro w hSw; (try dsimp only at hSw); go_simp; (try with_reducible rfl)
            (try simp only [Act.put, List.setIfInBounds_toArray, List.set_cons_zero, List.set_cons_succ])
            refine takeW (i := 27) (v := ?_) rfl (by kernel_rfl) (by kernel_rfl) (by kernel_rfl) (fun _ _ _ h => h) (by kernel_rfl) ?_ (by assumption) ?_
            rotate_left
            · intro w hSw; (try dsimp only at hSw); go_simp; (try with_reducible rfl)
            (try simp only [Act.put, List.setIfInBounds_toArray, List.set_cons_zero, List.set_cons_succ])
            refine takeW (i := 28) (v := ?_) rfl (by kernel_rfl) (by kernel_rfl) (by kernel_rfl) (fun _ _ _ h => h) (by kernel_rfl) ?_ (by assumption) ?_
            rotate_left
            · intro w hSw; (try dsimp only at hSw); go_simp; (try with_reducible rfl)
            (try simp only [Act.put, List.setIfInBounds_toArray, List.set_cons_zero, List.set_cons_succ])
            refine takeW (i := 29) (v := ?_) rfl (by kernel_rfl) (by kernel_rfl) (by kernel_rfl) (fun _ _ _ h => h) (by kernel_rfl) ?_ (by assumption) ?_
            rotate_left
            · intro w hSw; (try dsimp only at hSw); go_simp; (try with_reducible rfl)
            (try simp only [Act.put, List.setIfInBounds_toArray, List.set_cons_zero, List.set_cons_succ])
            refine takeW (i := 30) (v := ?_) rfl (by kernel_rfl) (by kernel_rfl) (by kernel_rfl) (fun _ _ _ h => h) (by kernel_rfl) ?_ (by assumption) ?_
            rotate_left
            · intro w hSw; (try dsimp only at hSw); go_simp; (try with_reducible rfl)
            (try simp only [Act.put, List.setIfInBounds_toArray, List.set_cons_zero, List.set_cons_succ])
            refine takeW (i := 31) (v := ?_) rfl (by kernel_rfl) (by kernel_rfl) (by kernel_rfl) (fun _ _ _ h => h) (by kernel_rfl) ?_ (by assumption) ?_
            rotate_left
            · intro w hSw; (try dsimp only at hSw); go_simp; (try with_reducible rfl)
            (try simp only [Act.put, List.setIfInBounds_toArray, List.set_cons_zero, List.set_cons_succ])
            refine skipL (i := 32) rfl (by kernel_rfl) (by kernel_rfl) (by kernel_rfl) (fun _ _ _ h => h) (by kernel_rfl) (by assumption) ?_
            (try simp only [Act.put, List.setIfInBounds_toArray, List.set_cons_zero, List.set_cons_succ])
            refine skipL (i := 33) rfl (by kernel_rfl) (by kernel_rfl) (by kernel_rfl) (fun _ _ _ h => h) (by kernel_rfl) (by assumption) ?_
            (try simp only [Act.put, List.setIfInBounds_toArray, List.set_cons_zero, List.set_cons_succ])
            refine skipL (i := 34) rfl (by kernel_rfl) (by kernel_rfl) (by kernel_rfl) (fun _ _ _ h => h) (by kernel_rfl) (by assumption) ?_
            (try simp only [Act.put, List.setIfInBounds_toArray, List.set_cons_zero, List.set_cons_succ])
            refine skipL (i := 35) rfl (by kernel_rfl) (by kernel_rfl) (by kernel_rfl) (fun _ _ _ h => h) (by kernel_rfl) (by assumption) ?_
            (try simp only [Act.put, List.setIfInBounds_toArray, List.set_cons_zero, List.set_cons_succ])
            refine skipL (i := 36) rfl (by kernel_rfl) (by kernel_rfl) (by kernel_rfl) (fun _ _ _ h => h) (by kernel_rfl) (by assumption) ?_
            (try simp only [Act.put, List.setIfInBounds_toArray, List.set_cons_zero, List.set_cons_succ])
            refine skipL (i := 37) rfl (by kernel_rfl) (by kernel_rfl) (by kernel_rfl) (fun _ _ _ h => h) (by kernel_rfl) (by assumption) ?_
            (try simp only [Act.put, List.setIfInBounds_toArray, List.set_cons_zero, List.set_cons_succ])
            refine skipL (i := 38) rfl (by kernel_rfl) (by kernel_rfl) (by kernel_rfl) (fun _ _ _ h => h) (by kernel_rfl) (by assumption) ?_
            (try simp only [Act.put, List.setIfInBounds_toArray, List.set_cons_zero, List.set_cons_succ])
            refine skipL (i := 39) rfl (by kernel_rfl) (by kernel_rfl) (by kernel_rfl) (fun _ _ _ h => h) (by kernel_rfl) (by assumption) ?_
            (try simp only [Act.put, List.setIfInBounds_toArray, List.set_cons_zero, List.set_cons_succ])
            refine skipL (i := 40) rfl (by kernel_rfl) (by kernel_rfl) (by kernel_rfl) (fun _ _ _ h => h) (by kernel_rfl) (by assumption) ?_
            (try simp only [Act.put, List.setIfInBounds_toArray, List.set_cons_zero, List.set_cons_succ])
            refine takeW (i := 41) (v := ?_) rfl (by kernel_rfl) (by kernel_rfl) (by kernel_rfl) (fun _ _ _ h => h) (by kernel_rfl) ?_ (by assumption) ?_
            rotate_left
            · intro w hSw; (try dsimp only at hSw); go_simp; (try with_reducible rfl)
            (try simp only [Act.put, List.setIfInBounds_toArray, List.set_cons_zero, List.set_cons_succ])
            refine takeW (i := 42) (v := ?_) rfl (by kernel_rfl) (by kernel_rfl) (by kernel_rfl) (fun _ _ _ h => h) (by kernel_rfl) ?_ (by assumption) ?_
            rotate_left
            · intro w hSw; (try dsimp only at hSw); go_simp; (try with_reducible rfl)
            (try simp only [Act.put, List.setIfInBounds_toArray, List.set_cons_zero, List.set_cons_succ])
            refine takeW (i := 43) (v := ?_) rfl (by kernel_rfl) (by kernel_rfl) (by kernel_rfl) (fun _ _ _ h => h) (by kernel_rfl) ?_ (by assumption) ?_
            rotate_left
            · intro w hSw; (try dsimp only at hSw); go_simp; (try with_reducible rfl)
            (try simp only [Act.put, List.setIfInBounds_toArray, List.set_cons_zero, List.set_cons_succ])
            refine takeL (i := 44) (v := ?_) rfl (by kernel_rfl) (by kernel_rfl) (by kernel_rfl) (fun _ _ _ h => h) rfl ?_ (by assumption) ?_
            rotate_left
            · intro w hSw; (try dsimp only at hSw); go_simp; (try with_reducible rfl)
            (try simp only [Act.put, List.setIfInBounds_toArray, List.set_cons_zero, List.set_cons_succ])
            refine wpAnyH_done (by kernel_rfl) ?_ _
            clear hHeld kd HSK
            go_wp2
            refine ⟨?_, by simp [intOf]; omega⟩
            first | exact ⟨k + 1, by omega, by go_num, kfin⟩ | ((repeat apply Exists.intro); refine ⟨⟨k + 1, ?_, ?_, kfin⟩, rfl⟩; omega; go_num) | ((repeat apply Exists.intro); refine ⟨⟨k + 1, ?_, ?_, kfin⟩, ?_⟩; rotate_left 2; rfl; omega; go_num)
        · have hkzi : ¬ (0 : Int) < (k : Int) := by omega
          clear hA5 hz4
          go_upto_region 17 with fail
          have HSK : Hid (∀ W, Below w50.heap.size w50 W → (fun w' : World => w'.cell? ⟨bz, 1, none⟩ = some (.int .i64 z.2)) W) := fun W hW => (hW.cell yl).trans y1
          have kd : Below w50.heap.size w50 w50.drew := Below.drew (Below.refl _ _)
          have hHeld := HSK.out w50.drew kd
          refine wp_region_heldL (n := 45) (S := fun w' : World => w'.cell? ⟨bz, 1, none⟩ = some (.int .i64 z.2)) (by kernel_rfl) rfl ?_
          refine takeL (i := 0) (v := ?_) rfl (by kernel_rfl) (by kernel_rfl) (by kernel_rfl) (fun _ _ _ h => h) rfl ?_ (by assumption) ?_
          rotate_left
          · intro w hSw; (try dsimp only at hSw); go_simp; (try with_reducible rfl)
          (try simp only [Act.put, List.setIfInBounds_toArray, List.set_cons_zero, List.set_cons_succ])
          refine takeL (i := 1) (v := ?_) rfl (by kernel_rfl) (by kernel_rfl) (by kernel_rfl) (fun _ _ _ h => h) rfl ?_ (by assumption) ?_
          rotate_left
          · intro w hSw; (try dsimp only at hSw); go_simp; (try with_reducible rfl)
          (try simp only [Act.put, List.setIfInBounds_toArray, List.set_cons_zero, List.set_cons_succ])
          refine takeL (i := 2) (v := ?_) rfl (by kernel_rfl) (by kernel_rfl) (by kernel_rfl) (fun _ _ _ h => h) rfl ?_ (by assumption) ?_
          rotate_left
          · intro w hSw; (try dsimp only at hSw); go_simp; (try with_reducible rfl)
          (try simp only [Act.put, List.setIfInBounds_toArray, List.set_cons_zero, List.set_cons_succ])
          refine takeW (i := 3) (v := ?_) rfl (by kernel_rfl) (by kernel_rfl) (by kernel_rfl) (fun _ _ _ h => h) (by kernel_rfl) ?_ (by assumption) ?_
          rotate_left
          · intro w hSw; (try dsimp only at hSw); go_simp; (try with_reducible rfl)
          (try simp only [Act.put, List.setIfInBounds_toArray, List.set_cons_zero, List.set_cons_succ])
          refine takeW (i := 4) (v := ?_) rfl (by kernel_rfl) (by kernel_rfl) (by kernel_rfl) (fun _ _ _ h => h) (by kernel_rfl) ?_ (by assumption) ?_
          rotate_left
          · intro w hSw; (try dsimp only at hSw); go_simp; (try with_reducible rfl)
          (try simp only [Act.put, List.setIfInBounds_toArray, List.set_cons_zero, List.set_cons_succ])
          refine takeW (i := 5) (v := ?_) rfl (by kernel_rfl) (by kernel_rfl) (by kernel_rfl) (fun _ _ _ h => h) (by kernel_rfl) ?_ (by assumption) ?_
          rotate_left
          · intro w hSw; (try dsimp only at hSw); go_simp; (try with_reducible rfl)
          (try simp only [Act.put, List.setIfInBounds_toArray, List.set_cons_zero, List.set_cons_succ])
          refine takeW (i := 6) (v := ?_) rfl (by kernel_rfl) (by kernel_rfl) (by kernel_rfl) (fun _ _ _ h => h) (by kernel_rfl) ?_ (by assumption) ?_
          rotate_left
          · intro w hSw; (try dsimp only at hSw); go_simp; (try with_reducible rfl)
          (try simp only [Act.put, List.setIfInBounds_toArray, List.set_cons_zero, List.set_cons_succ])
          refine takeL (i := 7) (v := ?_) rfl (by kernel_rfl) (by kernel_rfl) (by kernel_rfl) (fun _ _ _ h => h) rfl ?_ (by assumption) ?_
          rotate_left
          · intro w hSw; (try dsimp only at hSw); go_simp; (try with_reducible rfl)
          (try simp only [Act.put, List.setIfInBounds_toArray, List.set_cons_zero, List.set_cons_succ])
          refine takeL (i := 8) (v := ?_) rfl (by kernel_rfl) (by kernel_rfl) (by kernel_rfl) (fun _ _ _ h => h) rfl ?_ (by assumption) ?_
          rotate_left
          · intro w hSw; (try dsimp only at hSw); go_simp; (try with_reducible rfl)
          (try simp only [Act.put, List.setIfInBounds_toArray, List.set_cons_zero, List.set_cons_succ])
          refine takeW (i := 9) (v := ?_) rfl (by kernel_rfl) (by kernel_rfl) (by kernel_rfl) (fun _ _ _ h => h) (by kernel_rfl) ?_ (by assumption) ?_
          rotate_left
          · intro w hSw; (try dsimp only at hSw); go_simp; (try with_reducible rfl)
          (try simp only [Act.put, List.setIfInBounds_toArray, List.set_cons_zero, List.set_cons_succ])
          refine takeW (i := 10) (v := ?_) rfl (by kernel_rfl) (by kernel_rfl) (by kernel_rfl) (fun _ _ _ h => h) (by kernel_rfl) ?_ (by assumption) ?_
          rotate_left
          · intro w hSw; (try dsimp only at hSw); go_simp; (try with_reducible rfl)
          (try simp only [Act.put, List.setIfInBounds_toArray, List.set_cons_zero, List.set_cons_succ])
          refine takeW (i := 11) (v := ?_) rfl (by kernel_rfl) (by kernel_rfl) (by kernel_rfl) (fun _ _ _ h => h) (by kernel_rfl) ?_ (by assumption) ?_
          rotate_left
          · intro w hSw; (try dsimp only at hSw); go_simp; (try with_reducible rfl)
          (try simp only [Act.put, List.setIfInBounds_toArray, List.set_cons_zero, List.set_cons_succ])
          refine skipL (i := 12) rfl (by kernel_rfl) (by kernel_rfl) (by kernel_rfl) (fun _ _ _ h => h) (by kernel_rfl) (by assumption) ?_
          (try simp only [Act.put, List.setIfInBounds_toArray, List.set_cons_zero, List.set_cons_succ])
          refine skipL (i := 13) rfl (by kernel_rfl) (by kernel_rfl) (by kernel_rfl) (fun _ _ _ h => h) (by kernel_rfl) (by assumption) ?_
          (try simp only [Act.put, List.setIfInBounds_toArray, List.set_cons_zero, List.set_cons_succ])
          refine skipL (i := 14) rfl (by kernel_rfl) (by kernel_rfl) (by kernel_rfl) (fun _ _ _ h => h) (by kernel_rfl) (by assumption) ?_
          (try simp only [Act.put, List.setIfInBounds_toArray, List.set_cons_zero, List.set_cons_succ])
          refine skipL (i := 15) rfl (by kernel_rfl) (by kernel_rfl) (by kernel_rfl) (fun _ _ _ h => h) (by kernel_rfl) (by assumption) ?_
          (try simp only [Act.put, List.setIfInBounds_toArray, List.set_cons_zero, List.set_cons_succ])
          refine skipL (i := 16) rfl (by kernel_rfl) (by kernel_rfl) (by kernel_rfl) (fun _ _ _ h => h) (by kernel_rfl) (by assumption) ?_
          (try simp only [Act.put, List.setIfInBounds_toArray, List.set_cons_zero, List.set_cons_succ])
          refine skipL (i := 17) rfl (by kernel_rfl) (by kernel_rfl) (by kernel_rfl) (fun _ _ _ h => h) (by kernel_rfl) (by assumption) ?_
          (try simp only [Act.put, List.setIfInBounds_toArray, List.set_cons_zero, List.set_cons_succ])
          refine skipL (i := 18) rfl (by kernel_rfl) (by kernel_rfl) (by kernel_rfl) (fun _ _ _ h => h) (by kernel_rfl) (by assumption) ?_
          (try simp only [Act.put, List.setIfInBounds_toArray, List.set_cons_zero, List.set_cons_succ])
          refine skipL (i := 19) rfl (by kernel_rfl) (by kernel_rfl) (by kernel_rfl) (fun _ _ _ h => h) (by kernel_rfl) (by assumption) ?_
          (try simp only [Act.put, List.setIfInBounds_toArray, List.set_cons_zero, List.set_cons_succ])
          refine skipL (i := 20) rfl (by kernel_rfl) (by kernel_rfl) (by kernel_rfl) (fun _ _ _ h => h) (by kernel_rfl) (by assumption) ?_
          (try simp only [Act.put, List.setIfInBounds_toArray, List.set_cons_zero, List.set_cons_succ])
          refine skipL (i := 21) rfl (by kernel_rfl) (by kernel_rfl) (by kernel_rfl) (fun _ _ _ h => h) (by kernel_rfl) (by assumption) ?_
          (try simp only [Act.put, List.setIfInBounds_toArray, List.set_cons_zero, List.set_cons_succ])
          refine skipL (i := 22) rfl (by kernel_rfl) (by kernel_rfl) (by kernel_rfl) (fun _ _ _ h => h) (by kernel_rfl) (by assumption) ?_
          (try simp only [Act.put, List.setIfInBounds_toArray, List.set_cons_zero, List.set_cons_succ])
          refine skipL (i := 23) rfl (by kernel_rfl) (by kernel_rfl) (by kernel_rfl) (fun _ _ _ h => h) (by kernel_rfl) (by assumption) ?_
          (try simp only [Act.put, List.setIfInBounds_toArray, List.set_cons_zero, List.set_cons_succ])
          refine skipL (i := 24) rfl (by kernel_rfl) (by kernel_rfl) (by kernel_rfl) (fun _ _ _ h => h) (by kernel_rfl) (by assumption) ?_
          (try simp only [Act.put, List.setIfInBounds_toArray, List.set_cons_zero, List.set_cons_succ])
          refine skipL (i := 25) rfl (by kernel_rfl) (by kernel_rfl) (by kernel_rfl) (fun _ _ _ h => h) (by kernel_rfl) (by assumption) ?_
          (try simp only [Act.put, List.setIfInBounds_toArray, List.set_cons_zero, List.set_cons_succ])
          refine skipL (i := 26) rfl (by kernel_rfl) (by kernel_rfl) (by kernel_rfl) (fun _ _ _ h => h) (by kernel_rfl) (by assumption) ?_
          (try simp only [Act.put, List.setIfInBounds_toArray, List.set_cons_zero, List.set_cons_succ])
          refine skipL (i := 27) rfl (by kernel_rfl) (by kernel_rfl) (by kernel_rfl) (fun _ _ _ h => h) (by kernel_rfl) (by assumption) ?_
          (try simp only [Act.put, List.setIfInBounds_toArray, List.set_cons_zero, List.set_cons_succ])
          refine skipL (i := 28) rfl (by kernel_rfl) (by kernel_rfl) (by kernel_rfl) (fun _ _ _ h => h) (by kernel_rfl) (by assumption) ?_
          (try simp only [Act.put, List.setIfInBounds_toArray, List.set_cons_zero, List.set_cons_succ])
          refine skipL (i := 29) rfl (by kernel_rfl) (by kernel_rfl) (by kernel_rfl) (fun _ _ _ h => h) (by kernel_rfl) (by assumption) ?_
          (try simp only [Act.put, List.setIfInBounds_toArray, List.set_cons_zero, List.set_cons_succ])
          refine skipL (i := 30) rfl (by kernel_rfl) (by kernel_rfl) (by kernel_rfl) (fun _ _ _ h => h) (by kernel_rfl) (by assumption) ?_
          (try simp only [Act.put, List.setIfInBounds_toArray, List.set_cons_zero, List.set_cons_succ])
          refine skipL (i := 31) rfl (by kernel_rfl) (by kernel_rfl) (by kernel_rfl) (fun _ _ _ h => h) (by kernel_rfl) (by assumption) ?_
          (try simp only [Act.put, List.setIfInBounds_toArray, List.set_cons_zero, List.set_cons_succ])
          refine skipL (i := 32) rfl (by kernel_rfl) (by kernel_rfl) (by kernel_rfl) (fun _ _ _ h => h) (by kernel_rfl) (by assumption) ?_
          (try simp only [Act.put, List.setIfInBounds_toArray, List.set_cons_zero, List.set_cons_succ])
          refine skipL (i := 33) rfl (by kernel_rfl) (by kernel_rfl) (by kernel_rfl) (fun _ _ _ h => h) (by kernel_rfl) (by assumption) ?_
          (try simp only [Act.put, List.setIfInBounds_toArray, List.set_cons_zero, List.set_cons_succ])
          refine skipL (i := 34) rfl (by kernel_rfl) (by kernel_rfl) (by kernel_rfl) (fun _ _ _ h => h) (by kernel_rfl) (by assumption) ?_
          (try simp only [Act.put, List.setIfInBounds_toArray, List.set_cons_zero, List.set_cons_succ])
          refine skipL (i := 35) rfl (by kernel_rfl) (by kernel_rfl) (by kernel_rfl) (fun _ _ _ h => h) (by kernel_rfl) (by assumption) ?_
          (try simp only [Act.put, List.setIfInBounds_toArray, List.set_cons_zero, List.set_cons_succ])
          refine skipL (i := 36) rfl (by kernel_rfl) (by kernel_rfl) (by kernel_rfl) (fun _ _ _ h => h) (by kernel_rfl) (by assumption) ?_
          (try simp only [Act.put, List.setIfInBounds_toArray, List.set_cons_zero, List.set_cons_succ])
          refine skipL (i := 37) rfl (by kernel_rfl) (by kernel_rfl) (by kernel_rfl) (fun _ _ _ h => h) (by kernel_rfl) (by assumption) ?_
          (try simp only [Act.put, List.setIfInBounds_toArray, List.set_cons_zero, List.set_cons_succ])
          refine skipL (i := 38) rfl (by kernel_rfl) (by kernel_rfl) (by kernel_rfl) (fun _ _ _ h => h) (by kernel_rfl) (by assumption) ?_
          (try simp only [Act.put, List.setIfInBounds_toArray, List.set_cons_zero, List.set_cons_succ])
          refine skipL (i := 39) rfl (by kernel_rfl) (by kernel_rfl) (by kernel_rfl) (fun _ _ _ h => h) (by kernel_rfl) (by assumption) ?_
          (try simp only [Act.put, List.setIfInBounds_toArray, List.set_cons_zero, List.set_cons_succ])
          refine skipL (i := 40) rfl (by kernel_rfl) (by kernel_rfl) (by kernel_rfl) (fun _ _ _ h => h) (by kernel_rfl) (by assumption) ?_
          (try simp only [Act.put, List.setIfInBounds_toArray, List.set_cons_zero, List.set_cons_succ])
          refine skipL (i := 41) rfl (by kernel_rfl) (by kernel_rfl) (by kernel_rfl) (fun _ _ _ h => h) (by kernel_rfl) (by assumption) ?_
          (try simp only [Act.put, List.setIfInBounds_toArray, List.set_cons_zero, List.set_cons_succ])
          refine skipL (i := 42) rfl (by kernel_rfl) (by kernel_rfl) (by kernel_rfl) (fun _ _ _ h => h) (by kernel_rfl) (by assumption) ?_
          (try simp only [Act.put, List.setIfInBounds_toArray, List.set_cons_zero, List.set_cons_succ])
          refine takeW (i := 43) (v := ?_) rfl (by kernel_rfl) (by kernel_rfl) (by kernel_rfl) (fun _ _ _ h => h) (by kernel_rfl) ?_ (by assumption) ?_
          rotate_left
          · intro w hSw; (try dsimp only at hSw); go_simp; (try with_reducible rfl)
          (try simp only [Act.put, List.setIfInBounds_toArray, List.set_cons_zero, List.set_cons_succ])
          refine takeL (i := 44) (v := ?_) rfl (by kernel_rfl) (by kernel_rfl) (by kernel_rfl) (fun _ _ _ h => h) rfl ?_ (by assumption) ?_
          rotate_left
          · intro w hSw; (try dsimp only at hSw); go_simp; (try with_reducible rfl)
          (try simp only [Act.put, List.setIfInBounds_toArray, List.set_cons_zero, List.set_cons_succ])
          refine wpAnyH_done (by kernel_rfl) ?_ _
          clear hHeld kd HSK
          go_wp2
          refine ⟨?_, by simp [intOf]; omega⟩
          first | exact ⟨k + 1, by omega, by go_num, kfin⟩ | ((repeat apply Exists.intro); refine ⟨⟨k + 1, ?_, ?_, kfin⟩, rfl⟩; omega; go_num) | ((repeat apply Exists.intro); refine ⟨⟨k + 1, ?_, ?_, kfin⟩, ?_⟩; rotate_left 2; rfl; omega; go_num)
      · have hki : ¬ (k : Int) < (T.length : Int) := by omega
        go_wp2_with fail
        go_loopw [21] (fun i w2 => ∃ d : Nat, d ≤ 100 ∧ i = .int .i64 (d : Int) ∧ Below W9.heap.size W9 w2) (fun i _ => 100 - (intOf i).toNat)
        case atStart => exact ⟨0, by omega, rfl, kb⟩
        case round =>
          obtain ⟨d, hd, rfl, kb2⟩ := hrel
          clear kb
          have kl2 := kb2.size
          have hcs : (100 ≤ d) ∨ (d < 100 ∧ ¬ T.length = m) ∨ (d < 100 ∧ T.length = m) := by omega
          rcases hcs with hd1 | ⟨hd1, hne⟩ | ⟨hd1, heq⟩
          · have hdi : ¬ (d : Int) < 100 := by omega
            have k99 : Below w.heap.size w wr := HK9.out.trans (kb2.mono HK9.out.size)
            replace HC1 := hid (HC1.out.below kb2)
            clear HX HA1 HEA HRE HTO HSL kb2 HK9
            go_wp2_with fail
            refine (drawTot _ n1 _ HC1.out).mono ?_
            rintro e w100 ⟨x, RP, yP, rfl, ⟨ho, hSP⟩, hb100⟩
            have k100 : Below w.heap.size w w100 := k99.trans (hb100.mono k99.size)
            replace HC1 := hid (HC1.out.below hb100)
            have HP := hid ho
            obtain ⟨aP, cP, rfl⟩ := ho.slice
            have HSLP := hid (fun r hr => by have := hSP.2 r hr; omega : ∀ r ∈ RP, r.length ≤ 1048576)
            have hR5P := hSP.1
            clear ho hSP
            clear hb100
            obtain ⟨GP, hGP⟩ := bool_of (GoodRs RP)
            have HIP := fun x W h => implTotalOf x RP yP GP hGP W h (by omega) HSLP.out
            have HSP := fun x W h => specTotalOf x RP yP GP hGP W h (by omega) HSLP.out
            generalize totV GP RP yP = V2 at *
            generalize totA GP RP yP = B2 at *
            have hvP : (V2 == V2) = true := by simp
            have hbP : (B2 == B2) = true := by cases B2 <;> rfl
            clear hGP HSLP hR5P
            go_wp2_with fail
            refine (HIP _ _ HP.out).mono ?_
            rintro e w101 ⟨rfl, hb101⟩
            have k101 : Below w.heap.size w w101 := k100.trans (hb101.mono k100.size)
            replace HC1 := hid (HC1.out.below hb101)
            replace HP := hid (HP.out.below hb101)
            clear hb101
            go_wp2_with fail
            refine (HSP _ _ HP.out).mono ?_
            rintro e w102 ⟨rfl, hb102⟩
            have k102 : Below w.heap.size w w102 := k101.trans (hb102.mono k101.size)
            replace HC1 := hid (HC1.out.below hb102)
            replace HP := hid (HP.out.below hb102)
            clear hb102
            clear HIP HSP HP
            go_wp2_with fail
            refine (drawBnd _ n1 _ HC1.out).mono ?_
            rintro e w103 ⟨x, RQ, yQ, rfl, ⟨ho, hSQ⟩, hb103⟩
            have k103 : Below w.heap.size w w103 := k102.trans (hb103.mono k102.size)
            replace HC1 := hid (HC1.out.below hb103)
            have HQ := hid ho
            obtain ⟨aQ, cQ, rfl⟩ := ho.slice
            have HSLQ := hid (fun r hr => by have := hSQ.2 r hr; omega : ∀ r ∈ RQ, r.length ≤ 1048576)
            have hR5Q := hSQ.1
            clear ho hSQ
            clear hb103
            obtain ⟨GQ, hGQ⟩ := bool_of (GoodRs RQ)
            have HIQ := fun x W h => implBoundAt x RQ yQ GQ hGQ W h (by omega) HSLQ.out
            have HSQ := fun x W h => specBoundAt x RQ yQ GQ hGQ W h (by omega) HSLQ.out
            generalize bndV GQ RQ yQ = V3 at *
            generalize bndA GQ yQ = B3 at *
            have hvQ : (V3 == V3) = true := by simp
            have hbQ : (B3 == B3) = true := by cases B3 <;> rfl
            clear hGQ HSLQ hR5Q
            go_wp2_with fail
            refine (HIQ _ _ HQ.out).mono ?_
            rintro e w104 ⟨rfl, hb104⟩
            have k104 : Below w.heap.size w w104 := k103.trans (hb104.mono k103.size)
            replace HC1 := hid (HC1.out.below hb104)
            replace HQ := hid (HQ.out.below hb104)
            clear hb104
            go_wp2_with fail
            refine (HSQ _ _ HQ.out).mono ?_
            rintro e w105 ⟨rfl, hb105⟩
            have k105 : Below w.heap.size w w105 := k104.trans (hb105.mono k104.size)
            replace HC1 := hid (HC1.out.below hb105)
            replace HQ := hid (HQ.out.below hb105)
            clear hb105
            clear HIQ HSQ HQ
            go_wp2_with fail
            refine (drawGR _ n1 _ HC1.out).mono ?_
            rintro e w106 ⟨x, g, rfl, ⟨ho, hgl⟩, hb106⟩
            have k106 : Below w.heap.size w w106 := k105.trans (hb106.mono k105.size)
            replace HC1 := hid (HC1.out.below hb106)
            have HG := hid ho
            obtain ⟨ga, gc, rfl⟩ := ho.slice
            clear ho HC1
            clear hb106
            obtain ⟨B4, hB4⟩ := bool_of (GoodR g)
            have HIG := fun x W h => implGood x g B4 hB4 W h (by omega)
            have HSG := fun x W h => specGood x g B4 hB4 W h (by omega)
            have hb4 : (B4 == B4) = true := by cases B4 <;> rfl
            clear hB4
            go_wp2_with fail
            refine (HIG _ _ HG.out).mono ?_
            rintro e w107 ⟨rfl, hb107⟩
            have k107 : Below w.heap.size w w107 := k106.trans (hb107.mono k106.size)
            replace HG := hid (HG.out.below hb107)
            clear hb107
            go_wp2_with fail
            refine (HSG _ _ HG.out).mono ?_
            rintro e w108 ⟨rfl, hb108⟩
            have k108 : Below w.heap.size w w108 := k107.trans (hb108.mono k107.size)
            replace HG := hid (HG.out.below hb108)
            clear hb108
            go_wp2
            go_returns
            exact ⟨rfl, k108⟩
          · have hdi : (d : Int) < 100 := by omega
            have hnb : ((T.length : Int) == (m : Int)) = false := beq_false_of_ne (by omega)
            clear hne
            have k99 : Below w.heap.size w wr := HK9.out.trans (kb2.mono HK9.out.size)
            replace HC1 := hid (HC1.out.below kb2)
            clear HX HA1 HEA HRE HTO HSL kb2 HK9
            go_wp2_with fail
            refine (drawTot _ n1 _ HC1.out).mono ?_
            rintro e w100 ⟨x, RP, yP, rfl, ⟨ho, hSP⟩, hb100⟩
            have k100 : Below w.heap.size w w100 := k99.trans (hb100.mono k99.size)
            replace HC1 := hid (HC1.out.below hb100)
            have HP := hid ho
            obtain ⟨aP, cP, rfl⟩ := ho.slice
            have HSLP := hid (fun r hr => by have := hSP.2 r hr; omega : ∀ r ∈ RP, r.length ≤ 1048576)
            have hR5P := hSP.1
            clear ho hSP
            clear hb100
            obtain ⟨GP, hGP⟩ := bool_of (GoodRs RP)
            have HIP := fun x W h => implTotalOf x RP yP GP hGP W h (by omega) HSLP.out
            have HSP := fun x W h => specTotalOf x RP yP GP hGP W h (by omega) HSLP.out
            generalize totV GP RP yP = V2 at *
            generalize totA GP RP yP = B2 at *
            have hvP : (V2 == V2) = true := by simp
            have hbP : (B2 == B2) = true := by cases B2 <;> rfl
            clear hGP HSLP hR5P
            go_wp2_with fail
            refine (HIP _ _ HP.out).mono ?_
            rintro e w101 ⟨rfl, hb101⟩
            have k101 : Below w.heap.size w w101 := k100.trans (hb101.mono k100.size)
            replace HC1 := hid (HC1.out.below hb101)
            replace HP := hid (HP.out.below hb101)
            clear hb101
            go_wp2_with fail
            refine (HSP _ _ HP.out).mono ?_
            rintro e w102 ⟨rfl, hb102⟩
            have k102 : Below w.heap.size w w102 := k101.trans (hb102.mono k101.size)
            replace HC1 := hid (HC1.out.below hb102)
            replace HP := hid (HP.out.below hb102)
            clear hb102
            clear HIP HSP HP
            go_wp2_with fail
            refine (drawBnd _ n1 _ HC1.out).mono ?_
            rintro e w103 ⟨x, RQ, yQ, rfl, ⟨ho, hSQ⟩, hb103⟩
            have k103 : Below w.heap.size w w103 := k102.trans (hb103.mono k102.size)
            replace HC1 := hid (HC1.out.below hb103)
            have HQ := hid ho
            obtain ⟨aQ, cQ, rfl⟩ := ho.slice
            have HSLQ := hid (fun r hr => by have := hSQ.2 r hr; omega : ∀ r ∈ RQ, r.length ≤ 1048576)
            have hR5Q := hSQ.1
            clear ho hSQ
            clear hb103
            obtain ⟨GQ, hGQ⟩ := bool_of (GoodRs RQ)
            have HIQ := fun x W h => implBoundAt x RQ yQ GQ hGQ W h (by omega) HSLQ.out
            have HSQ := fun x W h => specBoundAt x RQ yQ GQ hGQ W h (by omega) HSLQ.out
            generalize bndV GQ RQ yQ = V3 at *
            generalize bndA GQ yQ = B3 at *
            have hvQ : (V3 == V3) = true := by simp
            have hbQ : (B3 == B3) = true := by cases B3 <;> rfl
            clear hGQ HSLQ hR5Q
            go_wp2_with fail
            refine (HIQ _ _ HQ.out).mono ?_
            rintro e w104 ⟨rfl, hb104⟩
            have k104 : Below w.heap.size w w104 := k103.trans (hb104.mono k103.size)
            replace HC1 := hid (HC1.out.below hb104)
            replace HQ := hid (HQ.out.below hb104)
            clear hb104
            go_wp2_with fail
            refine (HSQ _ _ HQ.out).mono ?_
            rintro e w105 ⟨rfl, hb105⟩
            have k105 : Below w.heap.size w w105 := k104.trans (hb105.mono k104.size)
            replace HC1 := hid (HC1.out.below hb105)
            replace HQ := hid (HQ.out.below hb105)
            clear hb105
            clear HIQ HSQ HQ
            go_wp2_with fail
            refine (drawGR _ n1 _ HC1.out).mono ?_
            rintro e w106 ⟨x, g, rfl, ⟨ho, hgl⟩, hb106⟩
            have k106 : Below w.heap.size w w106 := k105.trans (hb106.mono k105.size)
            replace HC1 := hid (HC1.out.below hb106)
            have HG := hid ho
            obtain ⟨ga, gc, rfl⟩ := ho.slice
            clear ho HC1
            clear hb106
            obtain ⟨B4, hB4⟩ := bool_of (GoodR g)
            have HIG := fun x W h => implGood x g B4 hB4 W h (by omega)
            have HSG := fun x W h => specGood x g B4 hB4 W h (by omega)
            have hb4 : (B4 == B4) = true := by cases B4 <;> rfl
            clear hB4
            go_wp2_with fail
            refine (HIG _ _ HG.out).mono ?_
            rintro e w107 ⟨rfl, hb107⟩
            have k107 : Below w.heap.size w w107 := k106.trans (hb107.mono k106.size)
            replace HG := hid (HG.out.below hb107)
            clear hb107
            go_wp2_with fail
            refine (HSG _ _ HG.out).mono ?_
            rintro e w108 ⟨rfl, hb108⟩
            have k108 : Below w.heap.size w w108 := k107.trans (hb108.mono k107.size)
            replace HG := hid (HG.out.below hb108)
            clear hb108
            go_wp2
            go_returns
            exact ⟨rfl, k108⟩
          · have hdi : (d : Int) < 100 := by omega
            have hnb : ((T.length : Int) == (m : Int)) = true := by rw [heq]; simp
            have HRD := hid (HRE.out heq)
            obtain ⟨g0, gcap, hge, hg0, hg1⟩ := HA1.out.lies (by omega)
            cases hge
            obtain ⟨j, hj⟩ : ∃ j, j = m - 1 := ⟨_, rfl⟩
            have hmj : (m : Int) - 1 = (j : Int) := by omega
            have hmw : IntKind.i64.wrap ((m : Int) - 1) = (j : Int) := by rw [IntKind.wrap_i64]; omega
            have hji : (j : Int) < (T.length : Int) := by omega
            have hj0 : (0 : Int) ≤ (j : Int) := by omega
            have hjw : IntKind.i64.wrap (j : Int) = (j : Int) := by rw [IntKind.wrap_i64]; omega
            have hjn : j < T.length := by omega
            rw [← hj] at HRD
            clear hj heq hki hk
            have hto := HTO.out (d : Int) (.slice xa R.length xc) _ (by omega) (HX.out.below kb2)
            obtain ⟨t, ht⟩ : ∃ t, t = tot R (d : Int) := ⟨_, rfl⟩
            have HRT := hid (HRD.out (d : Int))
            rw [← ht] at hto HRT
            clear HRD ht
            go_wp2_with fail
            refine hto.mono ?_
            rintro e w60 ⟨rfl, hb6⟩
            have kb6 : Below W9.heap.size W9 w60 := kb2.trans (hb6.mono kl2)
            clear hto hb6
            go_wp2
            go_loopw [24, 200] (fun v i w3 => ∃ q : Nat, q ≤ T.length ∧ i = .int .i64 (q : Int) ∧ v = .bool (hasD (T.take q) (d : Int)) ∧ Below W9.heap.size W9 w3) (fun _ i _ => T.length - (intOf i).toNat)
            case atStart => exact ⟨0, Nat.zero_le _, rfl, rfl, kb6⟩
            case round =>
              obtain ⟨q, hq, rfl, rfl, kb3⟩ := hrel
              clear kb6
              have kl3 := kb3.size
              by_cases hqt : q < T.length
              · have hA := HA1.out.below kb3
                have z0 := hA.c0 hqt
                have z1 := hA.c1 hqt
                have hgr : g0 < wr.heap.size := by omega
                have hqi : (q : Int) < (T.length : Int) := by omega
                have hq0 : (0 : Int) ≤ (q : Int) := by omega
                have hst : Hid (hasD (T.take (q + 1)) (d : Int) = (hasD (T.take q) (d : Int) || decide ((gd T q).1 = (d : Int)))) := by show _ = _; rw [take_gd T q hqt]; simp [hasD]
                obtain ⟨z, hz⟩ : ∃ z, z = gd T q := ⟨_, rfl⟩
                rw [← hz] at z0 z1 hst
                obtain ⟨W1, hW1⟩ : ∃ W1, W1 = wr.alloc (.cells #[.int .i64 z.1, .int .i64 z.2] 33) := ⟨_, rfl⟩
                have k1 : Below wr.heap.size wr W1 := by rw [hW1]; exact al_ _ _
                have hbz : BoxAt W1 wr.heap.size [.int .i64 z.1, .int .i64 z.2] := by rw [hW1]; exact boxNew wr _ _
                obtain ⟨bz, ebz⟩ : ∃ b, b = wr.heap.size := ⟨_, rfl⟩
                rw [← ebz] at hbz
                have x0 := hbz.2.1 0 _ rfl
                have xl := hbz.1
                have kn : Below W9.heap.size W9 W1 := kb3.trans (k1.mono kl3)
                have HV := hid (And.intro hW1 ebz)
                clear hbz k1 hW1 ebz hA hz
                go_upto_region 28 with fail
                rw [← HV.out.1, ← HV.out.2]
                clear HV z0 z1
                cases hin : hasD (T.take q) (d : Int) with
                | true =>
                  have HN : Hid (true = hasD (T.take (q + 1)) (d : Int)) := by show _ = _; rw [hst.out, hin]; rfl
                  clear hst hin
                  go_wp2
                  exact ⟨⟨q + 1, by omega, by go_num, by rw [← HN.out], by go_grown⟩, by simp [intOf]; omega⟩
                | false =>
                  obtain ⟨bb, hbb⟩ : ∃ bb, bb = (z.1 == (d : Int)) := ⟨_, rfl⟩
                  have HN : Hid (bb = hasD (T.take (q + 1)) (d : Int)) := by show _ = _; rw [hst.out, hin, hbb]; by_cases h9 : z.1 = (d : Int) <;> simp [h9]
                  have hbb2 : (z.1 == (d : Int)) = bb := hbb.symm
                  clear hst hin hbb
                  go_wp2
                  exact ⟨⟨q + 1, by omega, by go_num, by rw [← HN.out], by go_grown⟩, by simp [intOf]; omega⟩
              · have hqi : ¬ (q : Int) < (T.length : Int) := by omega
                have HTK : Hid (hasD (T.take q) (d : Int) = hasD T (d : Int)) := by show _ = _; rw [List.take_of_length_le (by omega)]
                have hA := HA1.out.below kb3
                have z0 := hA.c0 hjn
                have z1 := hA.c1 hjn
                have hgr : g0 < wr.heap.size := by omega
                obtain ⟨z, hz⟩ : ∃ z, z = gd T j := ⟨_, rfl⟩
                rw [← hz] at z0 z1 HRT
                obtain ⟨W1, hW1⟩ : ∃ W1, W1 = wr.alloc (.cells #[.int .i64 z.1, .int .i64 z.2] 33) := ⟨_, rfl⟩
                have k1 : Below wr.heap.size wr W1 := by rw [hW1]; exact al_ _ _
                have hbz : BoxAt W1 wr.heap.size [.int .i64 z.1, .int .i64 z.2] := by rw [hW1]; exact boxNew wr _ _
                obtain ⟨bz, ebz⟩ : ∃ b, b = wr.heap.size := ⟨_, rfl⟩
                rw [← ebz] at hbz
                have x0 := hbz.2.1 0 _ rfl
                have x1 := hbz.2.1 1 _ rfl
                have xl := hbz.1
                have kn : Below W9.heap.size W9 W1 := kb3.trans (k1.mono kl3)
                have HV := hid (And.intro hW1 ebz)
                clear hbz k1 hW1 ebz hA hz
                rw [HTK.out]
                clear HTK
                go_upto_region 31 with fail
                rw [← HV.out.1, ← HV.out.2]
                clear HV z0 z1
                cases hin : hasD T (d : Int) with
                | true =>
                  clear HRT hin
                  go_wp2
                  exact ⟨⟨d + 1, by omega, by go_num, by go_grown⟩, by simp [intOf]; omega⟩
                | false =>
                  have hnr := HRT.out hin
                  clear HRT hin
                  by_cases h2 : t = z.2
                  · have e1 : ¬ z.2 < t := by omega
                    have e2 : (t == z.2) = true := by rw [h2]; simp
                    have e3 : ¬ (d : Int) < z.1 := fun h => hnr (.inr ⟨h2, h⟩)
                    clear hnr h2
                    go_wp2
                    exact ⟨⟨d + 1, by omega, by go_num, by go_grown⟩, by simp [intOf]; omega⟩
                  · have e1 : ¬ z.2 < t := fun h => hnr (.inl h)
                    have e2 : (t == z.2) = false := beq_false_of_ne h2
                    clear hnr h2
                    go_wp2
                    exact ⟨⟨d + 1, by omega, by go_num, by go_grown⟩, by simp [intOf]; omega⟩
set_option maxRecDepth 100000 in
theorem walk (v0 : Value) (n0 : Nat) (h0 : n0 ≤ 140737488351232) (v1 : Value) (n1 : Nat) (h1 : n1 ≤ 140737488351232) (w : World) (hb0 : ByteRow w v0 n0) (hb1 : ByteRow w v1 n1) :
    Calls Try.prog 3 #[v0, v1] w fun e w' => e = .returned (.bool true) ∧ Below w.heap.size w w' := by
  by_cases hn : n0 + n1 ≤ 1048576
  · exact walk0 v0 n0 v1 n1 w (hb0.code (by omega)) (hb1.code (by omega)) hn
  · obtain ⟨ad0, c0, rfl, _⟩ := hb0
    obtain ⟨ad1, c1, rfl, _⟩ := hb1
    have hbig : (1048576 : Int) < (n0 : Int) + (n1 : Int) := by omega
    go_enter Try.func3, Try.ntmps3
    go_wp2
    go_returns
    exact ⟨rfl, by go_grown⟩


theorem own : ownKnob Try.prog.godebug = none := by kernel_rfl
theorem laidOut : laidOutB Try.prog = true := by kernel_rfl
set_option maxRecDepth 100000 in
theorem lifted (os : Os) (started : os.Started) (H : Type) (enc : TypeId × Value → H) :
    ReturnsInHanded {} Try.checked os 3 .any (Rows.fnBestSpec.pre6 enc Try.prog Try.f3 Rows.fnBestRow.domain false) (Rows.fnBestSpec.post enc Try.prog Try.f3 false true false false) := by
  refine returnsInHanded_of_change_sized (C := Try.checked) own started (by kernel_rfl) Try.func3
    (ChangeSpec.witness6 (enc := enc) (C := Try.checked) false ⟨#[], #[.slice none 0 0, .slice none 0 0], []⟩ 8 (by kernel_rfl) (by kernel_rfl) (by kernel_rfl) (by kernel_rfl)) ?_
  intro W base args ds gs before hval0 hW hcnd hsz0 _
  have hsz : (DataW.weightsEach Try.prog (Try.f3.params.toList ++ (OpenSpec.ofChange Rows.fnBestSpec).bare.plain.varTypes Try.prog) (ds ++ gs)).all (· ≤ reachBytes) = true := hsz0
  have hval : ∀ (j : Nat) t v, Try.f3.params[j]? = some t → args[j]? = some v → Value.okWide Try.prog W .any base t v := hval0
  have hW' := hW
  obtain ⟨p, q, hA0, hV, rfl, hfz, hnd⟩ := hW
  have hA : DataW.TrodAll enc Try.prog W 0 (fun _ => true) true Try.f3.params.toList args.toList ds p := hA0
  rw [Try.params3] at hA hval
  obtain ⟨v0, vs0, d0, ds0, p0, q0, hargs, rfl, rfl, h0, r0⟩ := trodAll_cons hA
  obtain ⟨v1, vs1, d1, ds1, p1, q1, rfl, rfl, rfl, h1, r1⟩ := trodAll_cons r0
  obtain ⟨rfl, rfl, rfl⟩ := trodAll_nil r1
  obtain rfl : args = #[v0, v1] := by cases args; simp_all
  obtain ⟨rfl, rfl⟩ := trodVars_none hV
  obtain ⟨ad0, len0, cap0, rfl⟩ := okWide_slice Try.underlying22 (hval 0 22 v0 rfl rfl)
  have kk0 := h0
  have lt0 : ∀ x ∈ p0, x.block < W.heap.size := by obtain ⟨m, hm⟩ := kk0; exact DataW.trod_lt m _ _ _ hm
  obtain ⟨hbr0, hbn0⟩ := bytes_of h0 hsz (j := 0) (by rw [Try.params3]; rfl) rfl
  obtain ⟨ad1, len1, cap1, rfl⟩ := okWide_slice Try.underlying22 (hval 1 22 v1 rfl rfl)
  have kk1 := h1
  have lt1 : ∀ x ∈ p1, x.block < W.heap.size := by obtain ⟨m, hm⟩ := kk1; exact DataW.trod_lt m _ _ _ hm
  obtain ⟨hbr1, hbn1⟩ := bytes_of h1 hsz (j := 1) (by rw [Try.params3]; rfl) rfl
  clear hA0 hval0
  refine (walk _ len0 hbn0 _ len1 hbn1 W hbr0 hbr1).mono fun e W' ⟨he, bel⟩ => ?_
  subst he
  exact ⟨_, rfl, _, _, _, [], _, [], hW', trodAll_mk1 (shut_bool Try.underlying4 _), (trodAll_cons_mk (Below.trod laidOut (by kernel_rfl) (of_decide_eq_true (by kernel_rfl)) kk0 bel lt0) (trodAll_cons_mk (Below.trod laidOut (by kernel_rfl) (of_decide_eq_true (by kernel_rfl)) kk1 bel lt1) trodAll_mk0)), rfl, bel.frame _, fun h => by cases h⟩

theorem over : Rows.fnBestRow.holds Try.pinned (OpenSpec.ofChange Rows.fnBestSpec) :=
  OpenClaim.holds_of_wide 3 Try.f3 rfl rfl rfl rfl rfl rfl rfl ⟨rfl, rfl, rfl, rfl, rfl⟩ rfl rfl rfl rfl rfl (by kernel_rfl) Try.func3 (by kernel_rfl)
    (of_decide_eq_true (by kernel_rfl)) (by unfold Func.isWrapper; first | (rw [if_pos (by decide +kernel)]; kernel_rfl) | (rw [if_neg (by decide +kernel)]; exact ⟨rfl, rfl⟩))
    (fun os started H enc _ => lifted os started H enc)
end Go.Proofs.Ythdodlbhkpoadaa.fnBest
namespace Go.Proofs.Ythdodlbhkpoadaa
theorem fnBest_holds : Rows.FnBestSaid := fnBest.over
#print axioms fnBest_holds
end Go.Proofs.Ythdodlbhkpoadaa
