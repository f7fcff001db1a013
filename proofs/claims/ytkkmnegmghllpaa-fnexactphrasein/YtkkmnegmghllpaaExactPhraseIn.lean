/- At every two lists of texts the function FnExactPhraseIn returns true and leaves its arguments as they were: PhraseIn answers as its model does, and its answer owns its memory. No condition. -/
import Derived.Test.YtkkmnegmghllpaaPostY
import Derived.Test.YtkkmnegmghllpaaPhr
import Derived.Lib.SmallJoins
namespace Go.Proofs.Ytkkmnegmghllpaa.fnExactPhraseIn
open Go.ChangeShapes Go.WideShapes Go.ChangeAt Go.RowKit Go.Joins Go.Deep
open Go.ChangeMaps (open_string shut_string)
set_option linter.unusedVariables false
attribute [local go_sem ↓] Go.wp_at_zero Go.wp_at_succ

set_option maxRecDepth 100000 in
set_option maxHeartbeats 12800000 in
theorem walk (xd : Value) (ssd : List ByteArray) (hld : ssd.length ≤ maxLen) (hmd : ∀ s ∈ ssd, s.size ≤ maxLen) (xq : Value) (ssq : List ByteArray) (hlq : ssq.length ≤ maxLen) (hmq : ∀ s ∈ ssq, s.size ≤ maxLen) (w : World) (hxd : StrsAt w xd ssd) (hxq : StrsAt w xq ssq) :
    Calls Try.prog 7 #[xd, xq] w fun e w' => e = .returned (.bool true) ∧ Below w.heap.size w w' := by
  have HAd := hid hxd
  obtain ⟨ad, cd, hved⟩ := hxd.slice
  subst hved
  clear hxd
  have HAq := hid hxq
  obtain ⟨aq, cq, hveq⟩ := hxq.slice
  subst hveq
  clear hxq
  have HZd := fun W h => szStrB (.slice ad ssd.length cd) ssd 1048576 W h (by omega) hld hmd
  simp only [show ((1048576 : Nat) : Int) = 1048576 from rfl] at HZd
  by_cases hbgd : 1048576 < ssd.length + sumS ssd
  · have hzn : szRK 1048576 ssd = -1 := by exact szRK_neg hbgd
    rw [hzn] at HZd
    clear hzn hbgd
    go_enter Try.func7, Try.ntmps7
    have k0 : Below w.heap.size w w := Below.refl _ _
    go_wp2_with fail
    refine (HZd _ (HAd.out.below k0)).mono ?_
    rintro e w1 ⟨rfl, hb1⟩
    have k1 : Below w.heap.size w w1 := k0.trans (hb1.mono k0.size)
    have sz1 : w.heap.size ≤ w1.heap.size := hb1.size
    clear hb1
    go_wp2
    go_returns
    exact ⟨rfl, k1⟩
  have hzpd : szRK 1048576 ssd = ((1048576 - (ssd.length + sumS ssd) : Nat) : Int) := by rw [szRK_pos (by omega)]
  rw [hzpd] at HZd
  obtain ⟨zd, hzd⟩ : ∃ z : Nat, z = 1048576 - (ssd.length + sumS ssd) := ⟨_, rfl⟩
  rw [← hzd] at HZd
  have hzdd : decide ((zd : Int) < 0) = false := decide_eq_false (by omega)
  have hzd2d : ¬ (zd : Int) < 0 := by omega
  clear hzpd
  have l1d : ssd.length ≤ 1048576 := by omega
  have HZq := fun W h => szStrB (.slice aq ssq.length cq) ssq zd W h (by omega) hlq hmq
  by_cases hbgq : zd < ssq.length + sumS ssq
  · have hzn : szRK zd ssq = -1 := by exact szRK_neg hbgq
    rw [hzn] at HZq
    clear hzn hbgq
    clear hzd hbgd
    go_enter Try.func7, Try.ntmps7
    have k0 : Below w.heap.size w w := Below.refl _ _
    go_wp2_with fail
    refine (HZd _ (HAd.out.below k0)).mono ?_
    rintro e w1 ⟨rfl, hb1⟩
    have k1 : Below w.heap.size w w1 := k0.trans (hb1.mono k0.size)
    have sz1 : w.heap.size ≤ w1.heap.size := hb1.size
    clear hb1
    go_wp2_with fail
    refine (HZq _ (HAq.out.below k1)).mono ?_
    rintro e w2 ⟨rfl, hb2⟩
    have k2 : Below w.heap.size w w2 := k1.trans (hb2.mono k1.size)
    have sz2 : w1.heap.size ≤ w2.heap.size := hb2.size
    clear hb2
    go_wp2
    go_returns
    exact ⟨rfl, k2⟩
  have hzpq : szRK zd ssq = ((zd - (ssq.length + sumS ssq) : Nat) : Int) := by rw [szRK_pos (by omega)]
  rw [hzpq] at HZq
  obtain ⟨zq, hzq⟩ : ∃ z : Nat, z = zd - (ssq.length + sumS ssq) := ⟨_, rfl⟩
  rw [← hzq] at HZq
  have hzdq : decide ((zq : Int) < 0) = false := decide_eq_false (by omega)
  have hzd2q : ¬ (zq : Int) < 0 := by omega
  clear hzpq
  have l1q : ssq.length ≤ 1048576 := by omega
  have l4d : ∀ s ∈ ssd, s.size ≤ 1048576 := fun s hs => by have := sumS_mem hs; omega

  have l4q : ∀ s ∈ ssq, s.size ≤ 1048576 := fun s hs => by have := sumS_mem hs; omega
  have hAb := phA_bd ssd ssq
  have HSP0 := fun x y W h g => specPhrase x y ssd ssq W h g l1d l4d l1q l4q
  have HIM0 := fun x y W h g => implPhrase x y ssd ssq W h g l1d l4d l1q l4q
  obtain ⟨B, hB⟩ : ∃ B, B = phB ssd ssq := ⟨_, rfl⟩
  obtain ⟨A, hA⟩ : ∃ A, A = phA ssd ssq := ⟨_, rfl⟩
  rw [← hB, ← hA] at HSP0 HIM0
  rw [← hA] at hAb
  have HSP : ∀ x y W, StrsAt W x ssd → StrsAt W y ssq → Calls Try.prog 30 #[x, y] W fun e w' => ∃ x pl, e = .returned (.tuple #[x, .bool B]) ∧ OwnsP W.heap.size w' x A pl ∧ Below W.heap.size W w' := fun x y W h g => (HSP0 x y W h g).mono fun e w' ⟨⟨v, vs, h1, h2⟩, h3⟩ => ⟨v, _, h1, h2.owns, h3⟩
  have HIM : ∀ x y W, StrsAt W x ssd → StrsAt W y ssq → Calls Try.prog 29 #[x, y] W fun e w' => ∃ x pl, e = .returned (.tuple #[x, .bool B]) ∧ OwnsP W.heap.size w' x A pl ∧ Below W.heap.size W w' := fun x y W h g => (HIM0 x y W h g).mono fun e w' ⟨⟨v, vs, h1, h2⟩, h3⟩ => ⟨v, _, h1, h2.owns, h3⟩
  clear HSP0 HIM0 hA hB l4d l4q
  have HTOd := fun x W h => toStrO x ssd W h l1d
  have HEAd := fun x y W h g => eqStr x y ssd W h g l1d
  obtain ⟨Xd, hXd⟩ : ∃ X : Nat, X = 1 + ssd.length := ⟨_, rfl⟩
  have HMAd := fun b v W (h : OwnA b W v ssd.length (strsF ssd)) => markStrE b 1 ssd.length v _ W h (by omega) (by omega) (fun i _ => ⟨_, rfl⟩)
  rw [← hXd] at HMAd
  simp only [show ((1 : Nat) : Int) = 1 from rfl] at HMAd
  have HTOq := fun x W h => toStrO x ssq W h l1q
  have HEAq := fun x y W h g => eqStr x y ssq W h g l1q
  obtain ⟨Xq, hXq⟩ : ∃ X : Nat, X = Xd + ssq.length := ⟨_, rfl⟩
  have HMAq := fun b v W (h : OwnA b W v ssq.length (strsF ssq)) => markStrE b Xd ssq.length v _ W h (by omega) (by omega) (fun i _ => ⟨_, rfl⟩)
  rw [← hXq] at HMAq
  have hXDEC : decide ((Xq : Int) < 0) = false := decide_eq_false (by omega)
  have HEQ := fun x y W h g => eqPos x y A W h g (by omega) (fun p hp => by have := sumL_mem hp; omega)
  obtain ⟨N, hN⟩ : ∃ N : Nat, N = 1 + A.length + sumL A := ⟨_, rfl⟩
  have HMG := fun b v pl W h => markPsA b 1 N v A pl W h hN (by omega)
  have HHG := fun b v pl W h => heldPsA b 1 N v A pl W h hN (by omega)
  simp only [show ((1 : Nat) : Int) = 1 from rfl] at HMG HHG
  have hN0 : decide ((N : Int) < 0) = false := decide_eq_false (by omega)
  have hN0' : ¬ (N : Int) < 0 := by omega
  have hNN : ((N : Int) != (N : Int)) = false := by simp
  have hbn : (B != B) = false := by cases B <;> rfl
  clear hXd hXq hzd hbgd hzq hbgq hN
  go_enter Try.func7, Try.ntmps7
  have k0 : Below w.heap.size w w := Below.refl _ _
  go_wp2_with fail
  refine (HZd _ (HAd.out.below k0)).mono ?_
  rintro e w1 ⟨rfl, hb1⟩
  have k1 : Below w.heap.size w w1 := k0.trans (hb1.mono k0.size)
  have sz1 : w.heap.size ≤ w1.heap.size := hb1.size
  clear hb1
  go_wp2_with fail
  refine (HZq _ (HAq.out.below k1)).mono ?_
  rintro e w2 ⟨rfl, hb2⟩
  have k2 : Below w.heap.size w w2 := k1.trans (hb2.mono k1.size)
  have sz2 : w1.heap.size ≤ w2.heap.size := hb2.size
  clear hb2
  go_wp2_with fail
  refine (HTOd _ _ (HAd.out.below k2)).mono ?_
  rintro e w3 ⟨Ud, rfl, hUd, hb3⟩
  have k3 : Below w.heap.size w w3 := k2.trans (hb3.mono k2.size)
  have sz3 : w2.heap.size ≤ w3.heap.size := hb3.size
  have HUd := hid hUd
  have RUd : Hid (∀ g ∈ ablk Ud, w2.heap.size ≤ g ∧ g < w3.heap.size) := hUd.lt
  obtain ⟨aUd, cUd, hve⟩ := hUd.slice
  subst hve
  clear hUd
  clear hb3
  go_wp2_with fail
  refine (HTOq _ _ (HAq.out.below k3)).mono ?_
  rintro e w4 ⟨Uq, rfl, hUq, hb4⟩
  have k4 : Below w.heap.size w w4 := k3.trans (hb4.mono k3.size)
  have sz4 : w3.heap.size ≤ w4.heap.size := hb4.size
  replace HUd := hid (HUd.out.below hb4)
  have HUq := hid hUq
  have RUq : Hid (∀ g ∈ ablk Uq, w3.heap.size ≤ g ∧ g < w4.heap.size) := hUq.lt
  obtain ⟨aUq, cUq, hve⟩ := hUq.slice
  subst hve
  clear hUq
  clear hb4
  go_wp2_with fail
  refine (HSP _ _ _ (HUd.out.strs) (HUq.out.strs)).mono ?_
  rintro e w5 ⟨OW, plOW, rfl, hOW, hb5⟩
  have k5 : Below w.heap.size w w5 := k4.trans (hb5.mono k4.size)
  have sz5 : w4.heap.size ≤ w5.heap.size := hb5.size
  replace HUd := hid (HUd.out.below hb5)
  replace HUq := hid (HUq.out.below hb5)
  have HOW := hid hOW
  have ROW : Hid (∀ g ∈ fpP OW A.length plOW, w4.heap.size ≤ g ∧ g < w5.heap.size) := hOW.lt
  obtain ⟨aOW, cOW, hve⟩ := hOW.slice
  subst hve
  clear hOW
  clear hb5
  clear HUd
  clear HUq
  go_wp2_with fail
  refine (HTOd _ _ (HAd.out.below k5)).mono ?_
  rintro e w6 ⟨Xd, rfl, hXd, hb6⟩
  have k6 : Below w.heap.size w w6 := k5.trans (hb6.mono k5.size)
  have sz6 : w5.heap.size ≤ w6.heap.size := hb6.size
  replace HOW := hid (HOW.out.below hb6)
  have HXd := hid hXd
  have RXd : Hid (∀ g ∈ ablk Xd, w5.heap.size ≤ g ∧ g < w6.heap.size) := hXd.lt
  obtain ⟨aXd, cXd, hve⟩ := hXd.slice
  subst hve
  clear hXd
  clear hb6
  go_wp2_with fail
  refine (HTOq _ _ (HAq.out.below k6)).mono ?_
  rintro e w7 ⟨Xq, rfl, hXq, hb7⟩
  have k7 : Below w.heap.size w w7 := k6.trans (hb7.mono k6.size)
  have sz7 : w6.heap.size ≤ w7.heap.size := hb7.size
  replace HOW := hid (HOW.out.below hb7)
  replace HXd := hid (HXd.out.below hb7)
  have HXq := hid hXq
  have RXq : Hid (∀ g ∈ ablk Xq, w6.heap.size ≤ g ∧ g < w7.heap.size) := hXq.lt
  obtain ⟨aXq, cXq, hve⟩ := hXq.slice
  subst hve
  clear hXq
  clear hb7
  go_wp2_with fail
  refine (HIM _ _ _ (HXd.out.strs) (HXq.out.strs)).mono ?_
  rintro e w8 ⟨OG, plOG, rfl, hOG, hb8⟩
  have k8 : Below w.heap.size w w8 := k7.trans (hb8.mono k7.size)
  have sz8 : w7.heap.size ≤ w8.heap.size := hb8.size
  replace HOW := hid (HOW.out.below hb8)
  replace HXd := hid (HXd.out.below hb8)
  replace HXq := hid (HXq.out.below hb8)
  have HOG := hid hOG
  have ROG : Hid (∀ g ∈ fpP OG A.length plOG, w7.heap.size ≤ g ∧ g < w8.heap.size) := hOG.lt
  obtain ⟨aOG, cOG, hve⟩ := hOG.slice
  subst hve
  clear hOG
  clear hb8
  go_wp2_with fail
  refine (HEQ _ _ _ (HOG.out.at) (HOW.out.at)).mono ?_
  rintro e w9 ⟨rfl, hb9⟩
  have k9 : Below w.heap.size w w9 := k8.trans (hb9.mono k8.size)
  have sz9 : w8.heap.size ≤ w9.heap.size := hb9.size
  replace HOW := hid (HOW.out.below hb9)
  replace HXd := hid (HXd.out.below hb9)
  replace HXq := hid (HXq.out.below hb9)
  replace HOG := hid (HOG.out.below hb9)
  clear hb9
  go_wp2_with fail
  refine (HTOd _ _ (HAd.out.below k9)).mono ?_
  rintro e w10 ⟨Yd, rfl, hYd, hb10⟩
  have k10 : Below w.heap.size w w10 := k9.trans (hb10.mono k9.size)
  have sz10 : w9.heap.size ≤ w10.heap.size := hb10.size
  replace HOW := hid (HOW.out.below hb10)
  replace HXd := hid (HXd.out.below hb10)
  replace HXq := hid (HXq.out.below hb10)
  replace HOG := hid (HOG.out.below hb10)
  have HYd := hid hYd
  have RYd : Hid (∀ g ∈ ablk Yd, w9.heap.size ≤ g ∧ g < w10.heap.size) := hYd.lt
  obtain ⟨aYd, cYd, hve⟩ := hYd.slice
  subst hve
  clear hYd
  clear hb10
  go_wp2_with fail
  refine (HEAd _ _ _ (HXd.out.strs) (HYd.out.strs)).mono ?_
  rintro e w11 ⟨rfl, hb11⟩
  have k11 : Below w.heap.size w w11 := k10.trans (hb11.mono k10.size)
  have sz11 : w10.heap.size ≤ w11.heap.size := hb11.size
  replace HOW := hid (HOW.out.below hb11)
  replace HXd := hid (HXd.out.below hb11)
  replace HXq := hid (HXq.out.below hb11)
  replace HOG := hid (HOG.out.below hb11)
  replace HYd := hid (HYd.out.below hb11)
  clear hb11
  clear HYd
  go_wp2_with fail
  refine (HTOq _ _ (HAq.out.below k11)).mono ?_
  rintro e w12 ⟨Yq, rfl, hYq, hb12⟩
  have k12 : Below w.heap.size w w12 := k11.trans (hb12.mono k11.size)
  have sz12 : w11.heap.size ≤ w12.heap.size := hb12.size
  replace HOW := hid (HOW.out.below hb12)
  replace HXd := hid (HXd.out.below hb12)
  replace HXq := hid (HXq.out.below hb12)
  replace HOG := hid (HOG.out.below hb12)
  have HYq := hid hYq
  have RYq : Hid (∀ g ∈ ablk Yq, w11.heap.size ≤ g ∧ g < w12.heap.size) := hYq.lt
  obtain ⟨aYq, cYq, hve⟩ := hYq.slice
  subst hve
  clear hYq
  clear hb12
  go_wp2_with fail
  refine (HEAq _ _ _ (HXq.out.strs) (HYq.out.strs)).mono ?_
  rintro e w13 ⟨rfl, hb13⟩
  have k13 : Below w.heap.size w w13 := k12.trans (hb13.mono k12.size)
  have sz13 : w12.heap.size ≤ w13.heap.size := hb13.size
  replace HOW := hid (HOW.out.below hb13)
  replace HXd := hid (HXd.out.below hb13)
  replace HXq := hid (HXq.out.below hb13)
  replace HOG := hid (HOG.out.below hb13)
  replace HYq := hid (HYq.out.below hb13)
  clear hb13
  clear HYq
  go_wp2_with fail
  refine (HMAd _ _ _ HXd.out).mono ?_
  rintro e w14 ⟨rfl, hm14, ho14⟩
  have k14 : Below w.heap.size w w14 := k13.trans (ho14.below k13.size (fun g hg => by have h1 := RXd.out g hg; have h2 := k5.size; omega))
  have sz14 : w13.heap.size ≤ w14.heap.size := ho14.size
  replace HOW := hid (HOW.out.off ho14 (fun g hg hm => by have h1 := ROW.out g hg; have h2 := RXd.out g hm; omega))
  replace HXq := hid (HXq.out.off ho14 (fun g hg hm => by have h1 := RXq.out g hg; have h2 := RXd.out g hm; omega))
  replace HOG := hid (HOG.out.off ho14 (fun g hg hm => by have h1 := ROG.out g hg; have h2 := RXd.out g hm; omega))
  clear hm14 ho14 HXd
  go_wp2_with fail
  refine (HMAq _ _ _ HXq.out).mono ?_
  rintro e w15 ⟨rfl, hm15, ho15⟩
  have k15 : Below w.heap.size w w15 := k14.trans (ho15.below k14.size (fun g hg => by have h1 := RXq.out g hg; have h2 := k6.size; omega))
  have sz15 : w14.heap.size ≤ w15.heap.size := ho15.size
  replace HOW := hid (HOW.out.off ho15 (fun g hg hm => by have h1 := ROW.out g hg; have h2 := RXq.out g hm; omega))
  replace HOG := hid (HOG.out.off ho15 (fun g hg hm => by have h1 := ROG.out g hg; have h2 := RXq.out g hm; omega))
  clear hm15 ho15 HXq
  go_wp2_with fail
  refine (HEQ _ _ _ (HOG.out.at) (HOW.out.at)).mono ?_
  rintro e w16 ⟨rfl, hb16⟩
  have k16 : Below w.heap.size w w16 := k15.trans (hb16.mono k15.size)
  have sz16 : w15.heap.size ≤ w16.heap.size := hb16.size
  replace HOW := hid (HOW.out.below hb16)
  replace HOG := hid (HOG.out.below hb16)
  clear hb16
  go_wp2_with fail
  refine (HMG _ _ _ _ HOG.out).mono ?_
  rintro e w17 ⟨rfl, hm17, ho17⟩
  have k17 : Below w.heap.size w w17 := k16.trans (ho17.below k16.size (fun g hg => by have h1 := ROG.out g hg; have h2 := k7.size; omega))
  have sz17 : w16.heap.size ≤ w17.heap.size := ho17.size
  replace HOW := hid (HOW.out.off ho17 (fun g hg hm => by have h1 := ROW.out g hg; have h2 := ROG.out g hm; omega))
  replace HOG := hid hm17
  clear ho17
  go_wp2_with fail
  refine (HHG _ _ _ _ HOG.out).mono ?_
  rintro e w18 ⟨rfl, hb18⟩
  have k18 : Below w.heap.size w w18 := k17.trans (hb18.mono k17.size)
  have sz18 : w17.heap.size ≤ w18.heap.size := hb18.size
  replace HOW := hid (HOW.out.below hb18)
  replace HOG := hid (HOG.out.below hb18)
  clear hb18
  go_wp2_with fail
  refine (HTOd _ _ (HAd.out.below k18)).mono ?_
  rintro e w19 ⟨Vd, rfl, hVd, hb19⟩
  have k19 : Below w.heap.size w w19 := k18.trans (hb19.mono k18.size)
  have sz19 : w18.heap.size ≤ w19.heap.size := hb19.size
  replace HOW := hid (HOW.out.below hb19)
  replace HOG := hid (HOG.out.below hb19)
  have HVd := hid hVd
  have RVd : Hid (∀ g ∈ ablk Vd, w18.heap.size ≤ g ∧ g < w19.heap.size) := hVd.lt
  obtain ⟨aVd, cVd, hve⟩ := hVd.slice
  subst hve
  clear hVd
  clear hb19
  go_wp2_with fail
  refine (HTOq _ _ (HAq.out.below k19)).mono ?_
  rintro e w20 ⟨Vq, rfl, hVq, hb20⟩
  have k20 : Below w.heap.size w w20 := k19.trans (hb20.mono k19.size)
  have sz20 : w19.heap.size ≤ w20.heap.size := hb20.size
  replace HOW := hid (HOW.out.below hb20)
  replace HOG := hid (HOG.out.below hb20)
  replace HVd := hid (HVd.out.below hb20)
  have HVq := hid hVq
  have RVq : Hid (∀ g ∈ ablk Vq, w19.heap.size ≤ g ∧ g < w20.heap.size) := hVq.lt
  obtain ⟨aVq, cVq, hve⟩ := hVq.slice
  subst hve
  clear hVq
  clear hb20
  go_wp2_with fail
  refine (HIM _ _ _ (HVd.out.strs) (HVq.out.strs)).mono ?_
  rintro e w21 ⟨OH, plOH, rfl, hOH, hb21⟩
  have k21 : Below w.heap.size w w21 := k20.trans (hb21.mono k20.size)
  have sz21 : w20.heap.size ≤ w21.heap.size := hb21.size
  replace HOW := hid (HOW.out.below hb21)
  replace HOG := hid (HOG.out.below hb21)
  replace HVd := hid (HVd.out.below hb21)
  replace HVq := hid (HVq.out.below hb21)
  have HOH := hid hOH
  have ROH : Hid (∀ g ∈ fpP OH A.length plOH, w20.heap.size ≤ g ∧ g < w21.heap.size) := hOH.lt
  obtain ⟨aOH, cOH, hve⟩ := hOH.slice
  subst hve
  clear hOH
  clear hb21
  clear HVd
  clear HVq
  go_wp2_with fail
  refine (HEQ _ _ _ (HOH.out.at) (HOW.out.at)).mono ?_
  rintro e w22 ⟨rfl, hb22⟩
  have k22 : Below w.heap.size w w22 := k21.trans (hb22.mono k21.size)
  have sz22 : w21.heap.size ≤ w22.heap.size := hb22.size
  replace HOW := hid (HOW.out.below hb22)
  replace HOG := hid (HOG.out.below hb22)
  replace HOH := hid (HOH.out.below hb22)
  clear hb22
  go_wp2_with fail
  refine (HHG _ _ _ _ HOG.out).mono ?_
  rintro e w23 ⟨rfl, hb23⟩
  have k23 : Below w.heap.size w w23 := k22.trans (hb23.mono k22.size)
  have sz23 : w22.heap.size ≤ w23.heap.size := hb23.size
  replace HOW := hid (HOW.out.below hb23)
  replace HOG := hid (HOG.out.below hb23)
  replace HOH := hid (HOH.out.below hb23)
  clear hb23
  go_wp2_with fail
  go_returns
  exact ⟨rfl, k23⟩
theorem own : ownKnob Try.prog.godebug = none := by kernel_rfl
theorem laidOut : laidOutB Try.prog = true := by kernel_rfl
set_option maxRecDepth 100000 in
theorem lifted (os : Os) (started : os.Started) (H : Type) (enc : TypeId × Value → H) :
    ReturnsInHanded {} Try.checked os 7 .any (Rows.fnExactPhraseInSpec.pre6 enc Try.prog Try.f7 Rows.fnExactPhraseInRow.domain false) (Rows.fnExactPhraseInSpec.post enc Try.prog Try.f7 false true false false) := by
  refine returnsInHanded_of_change (C := Try.checked) own started (by kernel_rfl) Try.func7
    (ChangeSpec.witness6 (enc := enc) (C := Try.checked) false ⟨#[], #[.slice none 0 0, .slice none 0 0], []⟩ 8 (by kernel_rfl) (by kernel_rfl) (by kernel_rfl) (by kernel_rfl)) ?_
  intro W base args ds gs before hval0 hW hcnd _
  have hval : ∀ (j : Nat) t v, Try.f7.params[j]? = some t → args[j]? = some v → Value.okWide Try.prog W .any base t v := hval0
  have hW' := hW
  obtain ⟨p, q, hA0, hV, rfl, hfz, hnd⟩ := hW
  have hA : DataW.TrodAll enc Try.prog W 0 (fun _ => true) true Try.f7.params.toList args.toList ds p := hA0
  rw [Try.params7] at hA hval
  obtain ⟨v0, vs0, d0, ds0, p0, q0, hargs, rfl, rfl, h0, r0⟩ := trodAll_cons hA
  obtain ⟨v1, vs1, d1, ds1, p1, q1, rfl, rfl, rfl, h1, r1⟩ := trodAll_cons r0
  obtain ⟨rfl, rfl, rfl⟩ := trodAll_nil r1
  obtain rfl : args = #[v0, v1] := by cases args; simp_all
  obtain ⟨rfl, rfl⟩ := trodVars_none hV
  obtain ⟨ad0, len0, cap0, rfl⟩ := okWide_slice Try.underlying23 (hval 0 23 v0 rfl rfl)
  have kk0 := h0
  have lt0 : ∀ x ∈ p0, x.block < W.heap.size := by obtain ⟨m, hm⟩ := kk0; exact DataW.trod_lt m _ _ _ hm
  obtain ⟨ss0, hss0, hsl0, hsm0⟩ := strs_of h0
  obtain ⟨ad1, len1, cap1, rfl⟩ := okWide_slice Try.underlying23 (hval 1 23 v1 rfl rfl)
  have kk1 := h1
  have lt1 : ∀ x ∈ p1, x.block < W.heap.size := by obtain ⟨m, hm⟩ := kk1; exact DataW.trod_lt m _ _ _ hm
  obtain ⟨ss1, hss1, hsl1, hsm1⟩ := strs_of h1
  clear hA0 hval0
  refine (walk _ ss0 hsl0 hsm0 _ ss1 hsl1 hsm1 W hss0 hss1).mono fun e W' ⟨he, bel⟩ => ?_
  subst he
  exact ⟨_, rfl, _, _, _, [], _, [], hW', trodAll_mk1 (shut_bool Try.underlying4 _), (trodAll_cons_mk (Below.trod laidOut (by kernel_rfl) (of_decide_eq_true (by kernel_rfl)) kk0 bel lt0) (trodAll_cons_mk (Below.trod laidOut (by kernel_rfl) (of_decide_eq_true (by kernel_rfl)) kk1 bel lt1) trodAll_mk0)), rfl, bel.frame _, fun h => by cases h⟩

theorem over : Rows.fnExactPhraseInRow.holds Try.pinned (OpenSpec.ofChange Rows.fnExactPhraseInSpec) :=
  OpenClaim.holds_of_wide 7 Try.f7 rfl rfl rfl rfl rfl rfl rfl ⟨rfl, rfl, rfl, rfl, rfl⟩ rfl rfl rfl rfl rfl (by kernel_rfl) Try.func7 (by kernel_rfl)
    (of_decide_eq_true (by kernel_rfl)) (by unfold Func.isWrapper; first | (rw [if_pos (by decide +kernel)]; kernel_rfl) | (rw [if_neg (by decide +kernel)]; exact ⟨rfl, rfl⟩))
    (fun os started H enc _ => lifted os started H enc)
end Go.Proofs.Ytkkmnegmghllpaa.fnExactPhraseIn
namespace Go.Proofs.Ytkkmnegmghllpaa
theorem fnExactPhraseIn_holds : Rows.FnExactPhraseInSaid := fnExactPhraseIn.over
#print axioms fnExactPhraseIn_holds
end Go.Proofs.Ytkkmnegmghllpaa
