/- At every two lists of posts and every number the function FnExactMeetPosts returns true and leaves its arguments as they were: MeetPosts answers as its model does, and its answer owns its memory. No condition. -/
import Derived.Test.YtkkmnegmghllpaaPostY
import Derived.Test.YtkkmnegmghllpaaMeetQ
import Derived.Lib.SmallJoins
namespace Go.Proofs.Ytkkmnegmghllpaa.fnExactMeetPosts
open Go.ChangeShapes Go.WideShapes Go.ChangeAt Go.RowKit Go.Joins Go.Deep
open Go.ChangeMaps (open_string shut_string)
set_option linter.unusedVariables false
attribute [local go_sem ↓] Go.wp_at_zero Go.wp_at_succ

set_option maxRecDepth 100000 in
set_option maxHeartbeats 12800000 in
theorem walk (xp : Value) (psp : List Po) (hmp : RePs psp) (xq : Value) (psq : List Po) (hmq : RePs psq) (yy : Int) (hwy : (Lit.int .i64 yy).wf = true) (w : World) (hxp : PosAt w xp psp) (hxq : PosAt w xq psq) :
    Calls Try.prog 12 #[xp, xq, .int .i64 yy] w fun e w' => e = .returned (.bool true) ∧ Below w.heap.size w w' := by
  have HAp := hid hxp
  obtain ⟨ap, cp, hvep⟩ := hxp.slice
  subst hvep
  clear hxp
  have HAq := hid hxq
  obtain ⟨aq, cq, hveq⟩ := hxq.slice
  subst hveq
  clear hxq
  have HZp := fun W h => szPos (.slice ap psp.length cp) psp 1048576 W h (by omega) hmp
  simp only [show ((1048576 : Nat) : Int) = 1048576 from rfl] at HZp
  by_cases hbgp : 1048576 < psp.length + sumL psp
  · have hzn : szRPo 1048576 psp = -1 := by unfold szRPo; rw [if_neg (by omega)]
    rw [hzn] at HZp
    clear hzn hbgp
    go_enter Try.func12, Try.ntmps12
    have k0 : Below w.heap.size w w := Below.refl _ _
    go_wp2_with fail
    refine (HZp _ (HAp.out.below k0)).mono ?_
    rintro e w1 ⟨rfl, hb1⟩
    have k1 : Below w.heap.size w w1 := k0.trans (hb1.mono k0.size)
    have sz1 : w.heap.size ≤ w1.heap.size := hb1.size
    clear hb1
    go_wp2
    go_returns
    exact ⟨rfl, k1⟩
  have hzpp : szRPo 1048576 psp = ((1048576 - (psp.length + sumL psp) : Nat) : Int) := by unfold szRPo; rw [if_pos (by omega)]
  rw [hzpp] at HZp
  obtain ⟨zp, hzp⟩ : ∃ z : Nat, z = 1048576 - (psp.length + sumL psp) := ⟨_, rfl⟩
  rw [← hzp] at HZp
  have hzdp : decide ((zp : Int) < 0) = false := decide_eq_false (by omega)
  have hzd2p : ¬ (zp : Int) < 0 := by omega
  clear hzpp
  have l1p : psp.length ≤ 1048576 := by omega
  have l2p : ∀ p ∈ psp, p.2.length ≤ 1048576 := fun p hp => by have := sumL_mem hp; omega
  have l3p : sumL psp ≤ 1048576 := by omega
  have HZq := fun W h => szPos (.slice aq psq.length cq) psq zp W h (by omega) hmq
  by_cases hbgq : zp < psq.length + sumL psq
  · have hzn : szRPo zp psq = -1 := by unfold szRPo; rw [if_neg (by omega)]
    rw [hzn] at HZq
    clear hzn hbgq
    clear hzp hbgp
    go_enter Try.func12, Try.ntmps12
    have k0 : Below w.heap.size w w := Below.refl _ _
    go_wp2_with fail
    refine (HZp _ (HAp.out.below k0)).mono ?_
    rintro e w1 ⟨rfl, hb1⟩
    have k1 : Below w.heap.size w w1 := k0.trans (hb1.mono k0.size)
    have sz1 : w.heap.size ≤ w1.heap.size := hb1.size
    clear hb1
    go_wp2_with fail
    refine (HZq _ (HAq.out.below k1)).mono ?_
    rintro e w2 ⟨rfl, hb2⟩
    have k2 : Below w.heap.size w w2 := k1.trans (hb2.mono k1.size)
    have sz2 : w1.heap.size ≤ w2.heap.size := hb2.size
    clear hb2
    go_wp2
    go_returns
    exact ⟨rfl, k2⟩
  have hzpq : szRPo zp psq = ((zp - (psq.length + sumL psq) : Nat) : Int) := by unfold szRPo; rw [if_pos (by omega)]
  rw [hzpq] at HZq
  obtain ⟨zq, hzq⟩ : ∃ z : Nat, z = zp - (psq.length + sumL psq) := ⟨_, rfl⟩
  rw [← hzq] at HZq
  have hzdq : decide ((zq : Int) < 0) = false := decide_eq_false (by omega)
  have hzd2q : ¬ (zq : Int) < 0 := by omega
  clear hzpq
  have l1q : psq.length ≤ 1048576 := by omega
  have l2q : ∀ p ∈ psq, p.2.length ≤ 1048576 := fun p hp => by have := sumL_mem hp; omega
  have l3q : sumL psq ≤ 1048576 := by omega
  obtain ⟨Ga, hGa⟩ : ∃ B : Bool, B = true ↔ GoodP psp := by
    by_cases hq : GoodP psp
    · exact ⟨true, ⟨fun _ => hq, fun _ => rfl⟩⟩
    · exact ⟨false, ⟨fun h => (by cases h), fun h => absurd h hq⟩⟩
  obtain ⟨Gb, hGb⟩ : ∃ B : Bool, B = true ↔ GoodP psq := by
    by_cases hq : GoodP psq
    · exact ⟨true, ⟨fun _ => hq, fun _ => rfl⟩⟩
    · exact ⟨false, ⟨fun h => (by cases h), fun h => absurd h hq⟩⟩
  have hAl : (mpA Ga Gb psp psq yy).length ≤ 1048576 := by
    unfold mpA
    split
    · exact Nat.le_trans (meetP_len psq yy psp) l1p
    · simp
  have hAs : sumL (mpA Ga Gb psp psq yy) ≤ 1048576 := by
    unfold mpA
    split
    · exact Nat.le_trans (meetP_sum psq yy psp) l3p
    · simp [sumL]
  have HSP0 := fun x y W h g => specMP x y psp psq Ga Gb hGa hGb yy W h g l1p l1q l2p l2q
  have HIM0 := fun x y W h g => implMP x y psp psq Ga Gb hGa hGb yy W h g l1p l1q l2p l2q
  obtain ⟨B, hB⟩ : ∃ B, B = mpB Ga Gb yy := ⟨_, rfl⟩
  obtain ⟨A, hA⟩ : ∃ A, A = mpA Ga Gb psp psq yy := ⟨_, rfl⟩
  rw [← hB, ← hA] at HSP0 HIM0
  rw [← hA] at hAl hAs
  have HSP : ∀ x y W, PosAt W x psp → PosAt W y psq → Calls Try.prog 37 #[x, y, .int .i64 yy] W fun e w' => ∃ x pl, e = .returned (.tuple #[x, .bool B]) ∧ OwnsP W.heap.size w' x A pl ∧ Below W.heap.size W w' := fun x y W h g => (HSP0 x y W h g).mono fun e w' ⟨⟨v, vs, h1, h2⟩, h3⟩ => ⟨v, _, h1, h2.owns, h3⟩
  have HIM : ∀ x y W, PosAt W x psp → PosAt W y psq → Calls Try.prog 36 #[x, y, .int .i64 yy] W fun e w' => ∃ x pl, e = .returned (.tuple #[x, .bool B]) ∧ OwnsP W.heap.size w' x A pl ∧ Below W.heap.size W w' := fun x y W h g => (HIM0 x y W h g).mono fun e w' ⟨⟨v, vs, h1, h2⟩, h3⟩ => ⟨v, _, h1, h2.owns, h3⟩
  clear HSP0 HIM0 hA hB hGa hGb
  have HTOp := fun x W h => toPos x psp W h l1p l2p
  have HEAp := fun x y W h g => eqPos x y psp W h g l1p l2p
  obtain ⟨Xp, hXp⟩ : ∃ X : Nat, X = 1 + psp.length + sumL psp := ⟨_, rfl⟩
  have HMAp := fun b v pl W h => markPsA b 1 Xp v psp pl W h hXp (by omega)
  simp only [show ((1 : Nat) : Int) = 1 from rfl] at HMAp
  have HTOq := fun x W h => toPos x psq W h l1q l2q
  have HEAq := fun x y W h g => eqPos x y psq W h g l1q l2q
  obtain ⟨Xq, hXq⟩ : ∃ X : Nat, X = Xp + psq.length + sumL psq := ⟨_, rfl⟩
  have HMAq := fun b v pl W h => markPsA b Xp Xq v psq pl W h hXq (by omega)
  have hXd : decide ((Xq : Int) < 0) = false := decide_eq_false (by omega)
  have HEQ := fun x y W h g => eqPos x y A W h g (by omega) (fun p hp => by have := sumL_mem hp; omega)
  obtain ⟨N, hN⟩ : ∃ N : Nat, N = 1 + A.length + sumL A := ⟨_, rfl⟩
  have HMG := fun b v pl W h => markPsA b 1 N v A pl W h hN (by omega)
  have HHG := fun b v pl W h => heldPsA b 1 N v A pl W h hN (by omega)
  simp only [show ((1 : Nat) : Int) = 1 from rfl] at HMG HHG
  have hN0 : decide ((N : Int) < 0) = false := decide_eq_false (by omega)
  have hN0' : ¬ (N : Int) < 0 := by omega
  have hNN : ((N : Int) != (N : Int)) = false := by simp
  have hbn : (B != B) = false := by cases B <;> rfl
  clear hXp hXq hzp hbgp hzq hbgq hN
  go_enter Try.func12, Try.ntmps12
  have k0 : Below w.heap.size w w := Below.refl _ _
  go_wp2_with fail
  refine (HZp _ (HAp.out.below k0)).mono ?_
  rintro e w1 ⟨rfl, hb1⟩
  have k1 : Below w.heap.size w w1 := k0.trans (hb1.mono k0.size)
  have sz1 : w.heap.size ≤ w1.heap.size := hb1.size
  clear hb1
  go_wp2_with fail
  refine (HZq _ (HAq.out.below k1)).mono ?_
  rintro e w2 ⟨rfl, hb2⟩
  have k2 : Below w.heap.size w w2 := k1.trans (hb2.mono k1.size)
  have sz2 : w1.heap.size ≤ w2.heap.size := hb2.size
  clear hb2
  go_wp2_with fail
  refine (HTOp _ _ (HAp.out.below k2)).mono ?_
  rintro e w3 ⟨Up, plUp, rfl, hUp, hb3⟩
  have k3 : Below w.heap.size w w3 := k2.trans (hb3.mono k2.size)
  have sz3 : w2.heap.size ≤ w3.heap.size := hb3.size
  have HUp := hid hUp
  have RUp : Hid (∀ g ∈ fpP Up psp.length plUp, w2.heap.size ≤ g ∧ g < w3.heap.size) := hUp.lt
  obtain ⟨aUp, cUp, hve⟩ := hUp.slice
  subst hve
  clear hUp
  clear hb3
  go_wp2_with fail
  refine (HTOq _ _ (HAq.out.below k3)).mono ?_
  rintro e w4 ⟨Uq, plUq, rfl, hUq, hb4⟩
  have k4 : Below w.heap.size w w4 := k3.trans (hb4.mono k3.size)
  have sz4 : w3.heap.size ≤ w4.heap.size := hb4.size
  replace HUp := hid (HUp.out.below hb4)
  have HUq := hid hUq
  have RUq : Hid (∀ g ∈ fpP Uq psq.length plUq, w3.heap.size ≤ g ∧ g < w4.heap.size) := hUq.lt
  obtain ⟨aUq, cUq, hve⟩ := hUq.slice
  subst hve
  clear hUq
  clear hb4
  go_wp2_with fail
  refine (HSP _ _ _ (HUp.out.at) (HUq.out.at)).mono ?_
  rintro e w5 ⟨OW, plOW, rfl, hOW, hb5⟩
  have k5 : Below w.heap.size w w5 := k4.trans (hb5.mono k4.size)
  have sz5 : w4.heap.size ≤ w5.heap.size := hb5.size
  replace HUp := hid (HUp.out.below hb5)
  replace HUq := hid (HUq.out.below hb5)
  have HOW := hid hOW
  have ROW : Hid (∀ g ∈ fpP OW A.length plOW, w4.heap.size ≤ g ∧ g < w5.heap.size) := hOW.lt
  obtain ⟨aOW, cOW, hve⟩ := hOW.slice
  subst hve
  clear hOW
  clear hb5
  clear HUp
  clear HUq
  go_wp2_with fail
  refine (HTOp _ _ (HAp.out.below k5)).mono ?_
  rintro e w6 ⟨Xp, plXp, rfl, hXp, hb6⟩
  have k6 : Below w.heap.size w w6 := k5.trans (hb6.mono k5.size)
  have sz6 : w5.heap.size ≤ w6.heap.size := hb6.size
  replace HOW := hid (HOW.out.below hb6)
  have HXp := hid hXp
  have RXp : Hid (∀ g ∈ fpP Xp psp.length plXp, w5.heap.size ≤ g ∧ g < w6.heap.size) := hXp.lt
  obtain ⟨aXp, cXp, hve⟩ := hXp.slice
  subst hve
  clear hXp
  clear hb6
  go_wp2_with fail
  refine (HTOq _ _ (HAq.out.below k6)).mono ?_
  rintro e w7 ⟨Xq, plXq, rfl, hXq, hb7⟩
  have k7 : Below w.heap.size w w7 := k6.trans (hb7.mono k6.size)
  have sz7 : w6.heap.size ≤ w7.heap.size := hb7.size
  replace HOW := hid (HOW.out.below hb7)
  replace HXp := hid (HXp.out.below hb7)
  have HXq := hid hXq
  have RXq : Hid (∀ g ∈ fpP Xq psq.length plXq, w6.heap.size ≤ g ∧ g < w7.heap.size) := hXq.lt
  obtain ⟨aXq, cXq, hve⟩ := hXq.slice
  subst hve
  clear hXq
  clear hb7
  go_wp2_with fail
  refine (HIM _ _ _ (HXp.out.at) (HXq.out.at)).mono ?_
  rintro e w8 ⟨OG, plOG, rfl, hOG, hb8⟩
  have k8 : Below w.heap.size w w8 := k7.trans (hb8.mono k7.size)
  have sz8 : w7.heap.size ≤ w8.heap.size := hb8.size
  replace HOW := hid (HOW.out.below hb8)
  replace HXp := hid (HXp.out.below hb8)
  replace HXq := hid (HXq.out.below hb8)
  have HOG := hid hOG
  have ROG : Hid (∀ g ∈ fpP OG A.length plOG, w7.heap.size ≤ g ∧ g < w8.heap.size) := hOG.lt
  obtain ⟨aOG, cOG, hve⟩ := hOG.slice
  subst hve
  clear hOG
  clear hb8
  go_wp2_with fail
  refine (HEQ _ _ _ (HOG.out.at) (HOW.out.at)).mono ?_
  rintro e w9 ⟨rfl, hb9⟩
  have k9 : Below w.heap.size w w9 := k8.trans (hb9.mono k8.size)
  have sz9 : w8.heap.size ≤ w9.heap.size := hb9.size
  replace HOW := hid (HOW.out.below hb9)
  replace HXp := hid (HXp.out.below hb9)
  replace HXq := hid (HXq.out.below hb9)
  replace HOG := hid (HOG.out.below hb9)
  clear hb9
  go_wp2_with fail
  refine (HTOp _ _ (HAp.out.below k9)).mono ?_
  rintro e w10 ⟨Yp, plYp, rfl, hYp, hb10⟩
  have k10 : Below w.heap.size w w10 := k9.trans (hb10.mono k9.size)
  have sz10 : w9.heap.size ≤ w10.heap.size := hb10.size
  replace HOW := hid (HOW.out.below hb10)
  replace HXp := hid (HXp.out.below hb10)
  replace HXq := hid (HXq.out.below hb10)
  replace HOG := hid (HOG.out.below hb10)
  have HYp := hid hYp
  have RYp : Hid (∀ g ∈ fpP Yp psp.length plYp, w9.heap.size ≤ g ∧ g < w10.heap.size) := hYp.lt
  obtain ⟨aYp, cYp, hve⟩ := hYp.slice
  subst hve
  clear hYp
  clear hb10
  go_wp2_with fail
  refine (HEAp _ _ _ (HXp.out.at) (HYp.out.at)).mono ?_
  rintro e w11 ⟨rfl, hb11⟩
  have k11 : Below w.heap.size w w11 := k10.trans (hb11.mono k10.size)
  have sz11 : w10.heap.size ≤ w11.heap.size := hb11.size
  replace HOW := hid (HOW.out.below hb11)
  replace HXp := hid (HXp.out.below hb11)
  replace HXq := hid (HXq.out.below hb11)
  replace HOG := hid (HOG.out.below hb11)
  replace HYp := hid (HYp.out.below hb11)
  clear hb11
  clear HYp
  go_wp2_with fail
  refine (HTOq _ _ (HAq.out.below k11)).mono ?_
  rintro e w12 ⟨Yq, plYq, rfl, hYq, hb12⟩
  have k12 : Below w.heap.size w w12 := k11.trans (hb12.mono k11.size)
  have sz12 : w11.heap.size ≤ w12.heap.size := hb12.size
  replace HOW := hid (HOW.out.below hb12)
  replace HXp := hid (HXp.out.below hb12)
  replace HXq := hid (HXq.out.below hb12)
  replace HOG := hid (HOG.out.below hb12)
  have HYq := hid hYq
  have RYq : Hid (∀ g ∈ fpP Yq psq.length plYq, w11.heap.size ≤ g ∧ g < w12.heap.size) := hYq.lt
  obtain ⟨aYq, cYq, hve⟩ := hYq.slice
  subst hve
  clear hYq
  clear hb12
  go_wp2_with fail
  refine (HEAq _ _ _ (HXq.out.at) (HYq.out.at)).mono ?_
  rintro e w13 ⟨rfl, hb13⟩
  have k13 : Below w.heap.size w w13 := k12.trans (hb13.mono k12.size)
  have sz13 : w12.heap.size ≤ w13.heap.size := hb13.size
  replace HOW := hid (HOW.out.below hb13)
  replace HXp := hid (HXp.out.below hb13)
  replace HXq := hid (HXq.out.below hb13)
  replace HOG := hid (HOG.out.below hb13)
  replace HYq := hid (HYq.out.below hb13)
  clear hb13
  clear HYq
  go_wp2_with fail
  refine (HMAp _ _ _ _ HXp.out).mono ?_
  rintro e w14 ⟨rfl, hm14, ho14⟩
  have k14 : Below w.heap.size w w14 := k13.trans (ho14.below k13.size (fun g hg => by have h1 := RXp.out g hg; have h2 := k5.size; omega))
  have sz14 : w13.heap.size ≤ w14.heap.size := ho14.size
  replace HOW := hid (HOW.out.off ho14 (fun g hg hm => by have h1 := ROW.out g hg; have h2 := RXp.out g hm; omega))
  replace HXq := hid (HXq.out.off ho14 (fun g hg hm => by have h1 := RXq.out g hg; have h2 := RXp.out g hm; omega))
  replace HOG := hid (HOG.out.off ho14 (fun g hg hm => by have h1 := ROG.out g hg; have h2 := RXp.out g hm; omega))
  clear hm14 ho14 HXp
  go_wp2_with fail
  refine (HMAq _ _ _ _ HXq.out).mono ?_
  rintro e w15 ⟨rfl, hm15, ho15⟩
  have k15 : Below w.heap.size w w15 := k14.trans (ho15.below k14.size (fun g hg => by have h1 := RXq.out g hg; have h2 := k6.size; omega))
  have sz15 : w14.heap.size ≤ w15.heap.size := ho15.size
  replace HOW := hid (HOW.out.off ho15 (fun g hg hm => by have h1 := ROW.out g hg; have h2 := RXq.out g hm; omega))
  replace HOG := hid (HOG.out.off ho15 (fun g hg hm => by have h1 := ROG.out g hg; have h2 := RXq.out g hm; omega))
  clear hm15 ho15 HXq
  go_wp2_with fail
  refine (HEQ _ _ _ (HOG.out.at) (HOW.out.at)).mono ?_
  rintro e w16 ⟨rfl, hb16⟩
  have k16 : Below w.heap.size w w16 := k15.trans (hb16.mono k15.size)
  have sz16 : w15.heap.size ≤ w16.heap.size := hb16.size
  replace HOW := hid (HOW.out.below hb16)
  replace HOG := hid (HOG.out.below hb16)
  clear hb16
  go_wp2_with fail
  refine (HMG _ _ _ _ HOG.out).mono ?_
  rintro e w17 ⟨rfl, hm17, ho17⟩
  have k17 : Below w.heap.size w w17 := k16.trans (ho17.below k16.size (fun g hg => by have h1 := ROG.out g hg; have h2 := k7.size; omega))
  have sz17 : w16.heap.size ≤ w17.heap.size := ho17.size
  replace HOW := hid (HOW.out.off ho17 (fun g hg hm => by have h1 := ROW.out g hg; have h2 := ROG.out g hm; omega))
  replace HOG := hid hm17
  clear ho17
  go_wp2_with fail
  refine (HHG _ _ _ _ HOG.out).mono ?_
  rintro e w18 ⟨rfl, hb18⟩
  have k18 : Below w.heap.size w w18 := k17.trans (hb18.mono k17.size)
  have sz18 : w17.heap.size ≤ w18.heap.size := hb18.size
  replace HOW := hid (HOW.out.below hb18)
  replace HOG := hid (HOG.out.below hb18)
  clear hb18
  go_wp2_with fail
  refine (HTOp _ _ (HAp.out.below k18)).mono ?_
  rintro e w19 ⟨Vp, plVp, rfl, hVp, hb19⟩
  have k19 : Below w.heap.size w w19 := k18.trans (hb19.mono k18.size)
  have sz19 : w18.heap.size ≤ w19.heap.size := hb19.size
  replace HOW := hid (HOW.out.below hb19)
  replace HOG := hid (HOG.out.below hb19)
  have HVp := hid hVp
  have RVp : Hid (∀ g ∈ fpP Vp psp.length plVp, w18.heap.size ≤ g ∧ g < w19.heap.size) := hVp.lt
  obtain ⟨aVp, cVp, hve⟩ := hVp.slice
  subst hve
  clear hVp
  clear hb19
  go_wp2_with fail
  refine (HTOq _ _ (HAq.out.below k19)).mono ?_
  rintro e w20 ⟨Vq, plVq, rfl, hVq, hb20⟩
  have k20 : Below w.heap.size w w20 := k19.trans (hb20.mono k19.size)
  have sz20 : w19.heap.size ≤ w20.heap.size := hb20.size
  replace HOW := hid (HOW.out.below hb20)
  replace HOG := hid (HOG.out.below hb20)
  replace HVp := hid (HVp.out.below hb20)
  have HVq := hid hVq
  have RVq : Hid (∀ g ∈ fpP Vq psq.length plVq, w19.heap.size ≤ g ∧ g < w20.heap.size) := hVq.lt
  obtain ⟨aVq, cVq, hve⟩ := hVq.slice
  subst hve
  clear hVq
  clear hb20
  go_wp2_with fail
  refine (HIM _ _ _ (HVp.out.at) (HVq.out.at)).mono ?_
  rintro e w21 ⟨OH, plOH, rfl, hOH, hb21⟩
  have k21 : Below w.heap.size w w21 := k20.trans (hb21.mono k20.size)
  have sz21 : w20.heap.size ≤ w21.heap.size := hb21.size
  replace HOW := hid (HOW.out.below hb21)
  replace HOG := hid (HOG.out.below hb21)
  replace HVp := hid (HVp.out.below hb21)
  replace HVq := hid (HVq.out.below hb21)
  have HOH := hid hOH
  have ROH : Hid (∀ g ∈ fpP OH A.length plOH, w20.heap.size ≤ g ∧ g < w21.heap.size) := hOH.lt
  obtain ⟨aOH, cOH, hve⟩ := hOH.slice
  subst hve
  clear hOH
  clear hb21
  clear HVp
  clear HVq
  go_wp2_with fail
  refine (HEQ _ _ _ (HOH.out.at) (HOW.out.at)).mono ?_
  rintro e w22 ⟨rfl, hb22⟩
  have k22 : Below w.heap.size w w22 := k21.trans (hb22.mono k21.size)
  have sz22 : w21.heap.size ≤ w22.heap.size := hb22.size
  replace HOW := hid (HOW.out.below hb22)
  replace HOG := hid (HOG.out.below hb22)
  replace HOH := hid (HOH.out.below hb22)
  clear hb22
  go_wp2_with fail
  refine (HHG _ _ _ _ HOG.out).mono ?_
  rintro e w23 ⟨rfl, hb23⟩
  have k23 : Below w.heap.size w w23 := k22.trans (hb23.mono k22.size)
  have sz23 : w22.heap.size ≤ w23.heap.size := hb23.size
  replace HOW := hid (HOW.out.below hb23)
  replace HOG := hid (HOG.out.below hb23)
  replace HOH := hid (HOH.out.below hb23)
  clear hb23
  go_wp2_with fail
  go_returns
  exact ⟨rfl, k23⟩
theorem own : ownKnob Try.prog.godebug = none := by kernel_rfl
theorem laidOut : laidOutB Try.prog = true := by kernel_rfl
set_option maxRecDepth 100000 in
theorem lifted (os : Os) (started : os.Started) (H : Type) (enc : TypeId × Value → H) :
    ReturnsInHanded {} Try.checked os 12 .any (Rows.fnExactMeetPostsSpec.pre6 enc Try.prog Try.f12 Rows.fnExactMeetPostsRow.domain false) (Rows.fnExactMeetPostsSpec.post enc Try.prog Try.f12 false true false false) := by
  refine returnsInHanded_of_change (C := Try.checked) own started (by kernel_rfl) Try.func12
    (ChangeSpec.witness6 (enc := enc) (C := Try.checked) false ⟨#[], #[.slice none 0 0, .slice none 0 0, .int .i64 0], []⟩ 8 (by kernel_rfl) (by kernel_rfl) (by kernel_rfl) (by kernel_rfl)) ?_
  intro W base args ds gs before hval0 hW hcnd _
  have hval : ∀ (j : Nat) t v, Try.f12.params[j]? = some t → args[j]? = some v → Value.okWide Try.prog W .any base t v := hval0
  have hW' := hW
  obtain ⟨p, q, hA0, hV, rfl, hfz, hnd⟩ := hW
  have hA : DataW.TrodAll enc Try.prog W 0 (fun _ => true) true Try.f12.params.toList args.toList ds p := hA0
  rw [Try.params12] at hA hval
  obtain ⟨v0, vs0, d0, ds0, p0, q0, hargs, rfl, rfl, h0, r0⟩ := trodAll_cons hA
  obtain ⟨v1, vs1, d1, ds1, p1, q1, rfl, rfl, rfl, h1, r1⟩ := trodAll_cons r0
  obtain ⟨v2, vs2, d2, ds2, p2, q2, rfl, rfl, rfl, h2, r2⟩ := trodAll_cons r1
  obtain ⟨rfl, rfl, rfl⟩ := trodAll_nil r2
  obtain rfl : args = #[v0, v1, v2] := by cases args; simp_all
  obtain ⟨rfl, rfl⟩ := trodVars_none hV
  have kk0 := h0
  have lt0 : ∀ x ∈ p0, x.block < W.heap.size := by obtain ⟨m, hm⟩ := kk0; exact DataW.trod_lt m _ _ _ hm
  obtain ⟨ps0_, hss0, hre0⟩ := pos_of (hval 0 62 v0 rfl rfl) h0
  have kk1 := h1
  have lt1 : ∀ x ∈ p1, x.block < W.heap.size := by obtain ⟨m, hm⟩ := kk1; exact DataW.trod_lt m _ _ _ hm
  obtain ⟨ps1_, hss1, hre1⟩ := pos_of (hval 1 62 v1 rfl rfl) h1
  obtain ⟨a2, rfl, rfl, rfl, wa2⟩ := open_int Try.underlying3 (hval 2 3 v2 rfl rfl) h2
  clear hA0 hval0
  refine (walk _ ps0_ hre0 _ ps1_ hre1 a2 wa2 W hss0 hss1).mono fun e W' ⟨he, bel⟩ => ?_
  subst he
  exact ⟨_, rfl, _, _, _, [], _, [], hW', trodAll_mk1 (shut_bool Try.underlying4 _), (trodAll_cons_mk (Below.trod laidOut (by kernel_rfl) (of_decide_eq_true (by kernel_rfl)) kk0 bel lt0) (trodAll_cons_mk (Below.trod laidOut (by kernel_rfl) (of_decide_eq_true (by kernel_rfl)) kk1 bel lt1) (trodAll_cons_mk (shut_int Try.underlying3 wa2) trodAll_mk0))), rfl, bel.frame _, fun h => by cases h⟩

theorem over : Rows.fnExactMeetPostsRow.holds Try.pinned (OpenSpec.ofChange Rows.fnExactMeetPostsSpec) :=
  OpenClaim.holds_of_wide 12 Try.f12 rfl rfl rfl rfl rfl rfl rfl ⟨rfl, rfl, rfl, rfl, rfl⟩ rfl rfl rfl rfl rfl (by kernel_rfl) Try.func12 (by kernel_rfl)
    (of_decide_eq_true (by kernel_rfl)) (by unfold Func.isWrapper; first | (rw [if_pos (by decide +kernel)]; kernel_rfl) | (rw [if_neg (by decide +kernel)]; exact ⟨rfl, rfl⟩))
    (fun os started H enc _ => lifted os started H enc)
end Go.Proofs.Ytkkmnegmghllpaa.fnExactMeetPosts
namespace Go.Proofs.Ytkkmnegmghllpaa
theorem fnExactMeetPosts_holds : Rows.FnExactMeetPostsSaid := fnExactMeetPosts.over
#print axioms fnExactMeetPosts_holds
end Go.Proofs.Ytkkmnegmghllpaa
