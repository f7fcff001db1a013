/- At every list of texts the function FnExactVocabularyOf returns true and leaves its argument as it was: VocabularyOf answers as its model does, and its answer owns its memory. No condition. -/
import Derived.Test.YtkkmnegmghllpaaPostY
import Derived.Test.YtkkmnegmghllpaaVocI
import Derived.Lib.SmallJoins
namespace Go.Proofs.Ytkkmnegmghllpaa.fnExactVocabularyOf
open Go.ChangeShapes Go.WideShapes Go.ChangeAt Go.RowKit Go.Joins Go.Deep
open Go.ChangeMaps (open_string shut_string)
set_option linter.unusedVariables false
attribute [local go_sem ↓] Go.wp_at_zero Go.wp_at_succ

set_option maxRecDepth 100000 in
set_option maxHeartbeats 12800000 in
theorem walk (xd : Value) (ssd : List ByteArray) (hld : ssd.length ≤ maxLen) (hmd : ∀ s ∈ ssd, s.size ≤ maxLen) (w : World) (hxd : StrsAt w xd ssd) :
    Calls Try.prog 10 #[xd] w fun e w' => e = .returned (.bool true) ∧ Below w.heap.size w w' := by
  have HAd := hid hxd
  obtain ⟨ad, cd, hved⟩ := hxd.slice
  subst hved
  clear hxd
  have HZd := fun W h => szStrB (.slice ad ssd.length cd) ssd 1048576 W h (by omega) hld hmd
  simp only [show ((1048576 : Nat) : Int) = 1048576 from rfl] at HZd
  by_cases hbgd : 1048576 < ssd.length + sumS ssd
  · have hzn : szRK 1048576 ssd = -1 := by exact szRK_neg hbgd
    rw [hzn] at HZd
    clear hzn hbgd
    go_enter Try.func10, Try.ntmps10
    have k0 : Below w.heap.size w w := Below.refl _ _
    go_wp2_with fail
    refine (HZd _ (HAd.out.below k0)).mono ?_
    rintro e w1 ⟨rfl, hb1⟩
    have k1 : Below w.heap.size w w1 := k0.trans (hb1.mono k0.size)
    have sz1 : w.heap.size ≤ w1.heap.size := hb1.size
    clear hb1
    go_wp2
    go_returns
    exact ⟨rfl, k1⟩
  have hzpd : szRK 1048576 ssd = ((1048576 - (ssd.length + sumS ssd) : Nat) : Int) := by rw [szRK_pos (by omega)]
  rw [hzpd] at HZd
  obtain ⟨zd, hzd⟩ : ∃ z : Nat, z = 1048576 - (ssd.length + sumS ssd) := ⟨_, rfl⟩
  rw [← hzd] at HZd
  have hzdd : decide ((zd : Int) < 0) = false := decide_eq_false (by omega)
  have hzd2d : ¬ (zd : Int) < 0 := by omega
  clear hzpd
  have l1d : ssd.length ≤ 1048576 := by omega
  have l4d : ∀ s ∈ ssd, s.size ≤ 1048576 := fun s hs => by have := sumS_mem hs; omega

  obtain ⟨A, hVI⟩ := voIs_ex ssd
  have hAb := hVI.len
  have HSP0 := fun x W h => specVoc x ssd A hVI W h l1d l4d
  have HIM0 := fun x W h => implVoc x ssd A hVI W h l1d l4d
  obtain ⟨B, hB⟩ : ∃ B, B = docsB ssd := ⟨_, rfl⟩
  rw [← hB] at HSP0 HIM0
  have HSP : ∀ x W, StrsAt W x ssd → Calls Try.prog 19 #[x] W fun e w' => ∃ x, e = .returned (.tuple #[x, .bool B]) ∧ OwnA W.heap.size w' x A.length (strsF A) ∧ Below W.heap.size W w' := fun x W h => (HSP0 x W h).mono fun e w' ⟨⟨v, h1, h2⟩, h3⟩ => ⟨v, h1, (OwnA.ofStrs h2).1, h3⟩
  have HIM : ∀ x W, StrsAt W x ssd → Calls Try.prog 18 #[x] W fun e w' => ∃ x, e = .returned (.tuple #[x, .bool B]) ∧ OwnA W.heap.size w' x A.length (strsF A) ∧ Below W.heap.size W w' := fun x W h => (HIM0 x W h).mono fun e w' ⟨⟨v, h1, h2⟩, h3⟩ => ⟨v, h1, (OwnA.ofStrs h2).1, h3⟩
  clear HSP0 HIM0 hB hVI l4d
  have HTOd := fun x W h => toStrO x ssd W h l1d
  have HEAd := fun x y W h g => eqStr x y ssd W h g l1d
  obtain ⟨Xd, hXd⟩ : ∃ X : Nat, X = 1 + ssd.length := ⟨_, rfl⟩
  have HMAd := fun b v W (h : OwnA b W v ssd.length (strsF ssd)) => markStrE b 1 ssd.length v _ W h (by omega) (by omega) (fun i _ => ⟨_, rfl⟩)
  rw [← hXd] at HMAd
  simp only [show ((1 : Nat) : Int) = 1 from rfl] at HMAd
  have hXDEC : decide ((Xd : Int) < 0) = false := decide_eq_false (by omega)
  have HEQ := fun x y W h g => eqStr x y A W h g (by omega)
  obtain ⟨N, hN⟩ : ∃ N : Nat, N = 1 + A.length := ⟨_, rfl⟩
  have HMG := fun b x W (h : OwnA b W x A.length (strsF A)) => markStrE b 1 A.length x _ W h (by omega) (by omega) (fun i _ => ⟨_, rfl⟩)
  have HHG := fun b x W (h : OwnA b W x A.length (fun i => .string (mkG (1 + i)))) => heldStrE b 1 A.length x W h (by omega) (by omega)
  rw [← hN] at HMG HHG
  simp only [show ((1 : Nat) : Int) = 1 from rfl] at HMG HHG
  have hN0 : decide ((N : Int) < 0) = false := decide_eq_false (by omega)
  have hN0' : ¬ (N : Int) < 0 := by omega
  have hNN : ((N : Int) != (N : Int)) = false := by simp
  have hbn : (B != B) = false := by cases B <;> rfl
  clear hXd hzd hbgd hN
  go_enter Try.func10, Try.ntmps10
  have k0 : Below w.heap.size w w := Below.refl _ _
  go_wp2_with fail
  refine (HZd _ (HAd.out.below k0)).mono ?_
  rintro e w1 ⟨rfl, hb1⟩
  have k1 : Below w.heap.size w w1 := k0.trans (hb1.mono k0.size)
  have sz1 : w.heap.size ≤ w1.heap.size := hb1.size
  clear hb1
  go_wp2_with fail
  refine (HTOd _ _ (HAd.out.below k1)).mono ?_
  rintro e w2 ⟨Ud, rfl, hUd, hb2⟩
  have k2 : Below w.heap.size w w2 := k1.trans (hb2.mono k1.size)
  have sz2 : w1.heap.size ≤ w2.heap.size := hb2.size
  have HUd := hid hUd
  have RUd : Hid (∀ g ∈ ablk Ud, w1.heap.size ≤ g ∧ g < w2.heap.size) := hUd.lt
  obtain ⟨aUd, cUd, hve⟩ := hUd.slice
  subst hve
  clear hUd
  clear hb2
  go_wp2_with fail
  refine (HSP _ _ (HUd.out.strs)).mono ?_
  rintro e w3 ⟨OW, rfl, hOW, hb3⟩
  have k3 : Below w.heap.size w w3 := k2.trans (hb3.mono k2.size)
  have sz3 : w2.heap.size ≤ w3.heap.size := hb3.size
  replace HUd := hid (HUd.out.below hb3)
  have HOW := hid hOW
  have ROW : Hid (∀ g ∈ ablk OW, w2.heap.size ≤ g ∧ g < w3.heap.size) := hOW.lt
  obtain ⟨aOW, cOW, hve⟩ := hOW.slice
  subst hve
  clear hOW
  clear hb3
  clear HUd
  go_wp2_with fail
  refine (HTOd _ _ (HAd.out.below k3)).mono ?_
  rintro e w4 ⟨Xd, rfl, hXd, hb4⟩
  have k4 : Below w.heap.size w w4 := k3.trans (hb4.mono k3.size)
  have sz4 : w3.heap.size ≤ w4.heap.size := hb4.size
  replace HOW := hid (HOW.out.below hb4)
  have HXd := hid hXd
  have RXd : Hid (∀ g ∈ ablk Xd, w3.heap.size ≤ g ∧ g < w4.heap.size) := hXd.lt
  obtain ⟨aXd, cXd, hve⟩ := hXd.slice
  subst hve
  clear hXd
  clear hb4
  go_wp2_with fail
  refine (HIM _ _ (HXd.out.strs)).mono ?_
  rintro e w5 ⟨OG, rfl, hOG, hb5⟩
  have k5 : Below w.heap.size w w5 := k4.trans (hb5.mono k4.size)
  have sz5 : w4.heap.size ≤ w5.heap.size := hb5.size
  replace HOW := hid (HOW.out.below hb5)
  replace HXd := hid (HXd.out.below hb5)
  have HOG := hid hOG
  have ROG : Hid (∀ g ∈ ablk OG, w4.heap.size ≤ g ∧ g < w5.heap.size) := hOG.lt
  obtain ⟨aOG, cOG, hve⟩ := hOG.slice
  subst hve
  clear hOG
  clear hb5
  go_wp2_with fail
  refine (HEQ _ _ _ (HOG.out.strs) (HOW.out.strs)).mono ?_
  rintro e w6 ⟨rfl, hb6⟩
  have k6 : Below w.heap.size w w6 := k5.trans (hb6.mono k5.size)
  have sz6 : w5.heap.size ≤ w6.heap.size := hb6.size
  replace HOW := hid (HOW.out.below hb6)
  replace HXd := hid (HXd.out.below hb6)
  replace HOG := hid (HOG.out.below hb6)
  clear hb6
  go_wp2_with fail
  refine (HTOd _ _ (HAd.out.below k6)).mono ?_
  rintro e w7 ⟨Yd, rfl, hYd, hb7⟩
  have k7 : Below w.heap.size w w7 := k6.trans (hb7.mono k6.size)
  have sz7 : w6.heap.size ≤ w7.heap.size := hb7.size
  replace HOW := hid (HOW.out.below hb7)
  replace HXd := hid (HXd.out.below hb7)
  replace HOG := hid (HOG.out.below hb7)
  have HYd := hid hYd
  have RYd : Hid (∀ g ∈ ablk Yd, w6.heap.size ≤ g ∧ g < w7.heap.size) := hYd.lt
  obtain ⟨aYd, cYd, hve⟩ := hYd.slice
  subst hve
  clear hYd
  clear hb7
  go_wp2_with fail
  refine (HEAd _ _ _ (HXd.out.strs) (HYd.out.strs)).mono ?_
  rintro e w8 ⟨rfl, hb8⟩
  have k8 : Below w.heap.size w w8 := k7.trans (hb8.mono k7.size)
  have sz8 : w7.heap.size ≤ w8.heap.size := hb8.size
  replace HOW := hid (HOW.out.below hb8)
  replace HXd := hid (HXd.out.below hb8)
  replace HOG := hid (HOG.out.below hb8)
  replace HYd := hid (HYd.out.below hb8)
  clear hb8
  clear HYd
  go_wp2_with fail
  refine (HMAd _ _ _ HXd.out).mono ?_
  rintro e w9 ⟨rfl, hm9, ho9⟩
  have k9 : Below w.heap.size w w9 := k8.trans (ho9.below k8.size (fun g hg => by have h1 := RXd.out g hg; have h2 := k3.size; omega))
  have sz9 : w8.heap.size ≤ w9.heap.size := ho9.size
  replace HOW := hid (HOW.out.off ho9 (fun g hg hm => by have h1 := ROW.out g hg; have h2 := RXd.out g hm; omega))
  replace HOG := hid (HOG.out.off ho9 (fun g hg hm => by have h1 := ROG.out g hg; have h2 := RXd.out g hm; omega))
  clear hm9 ho9 HXd
  go_wp2_with fail
  refine (HEQ _ _ _ (HOG.out.strs) (HOW.out.strs)).mono ?_
  rintro e w10 ⟨rfl, hb10⟩
  have k10 : Below w.heap.size w w10 := k9.trans (hb10.mono k9.size)
  have sz10 : w9.heap.size ≤ w10.heap.size := hb10.size
  replace HOW := hid (HOW.out.below hb10)
  replace HOG := hid (HOG.out.below hb10)
  clear hb10
  go_wp2_with fail
  refine (HMG _ _ _ HOG.out).mono ?_
  rintro e w11 ⟨rfl, hm11, ho11⟩
  have k11 : Below w.heap.size w w11 := k10.trans (ho11.below k10.size (fun g hg => by have h1 := ROG.out g hg; have h2 := k4.size; omega))
  have sz11 : w10.heap.size ≤ w11.heap.size := ho11.size
  replace HOW := hid (HOW.out.off ho11 (fun g hg hm => by have h1 := ROW.out g hg; have h2 := ROG.out g hm; omega))
  replace HOG := hid hm11
  clear ho11
  go_wp2_with fail
  refine (HHG _ _ _ HOG.out).mono ?_
  rintro e w12 ⟨rfl, hb12⟩
  have k12 : Below w.heap.size w w12 := k11.trans (hb12.mono k11.size)
  have sz12 : w11.heap.size ≤ w12.heap.size := hb12.size
  replace HOW := hid (HOW.out.below hb12)
  replace HOG := hid (HOG.out.below hb12)
  clear hb12
  go_wp2_with fail
  refine (HTOd _ _ (HAd.out.below k12)).mono ?_
  rintro e w13 ⟨Vd, rfl, hVd, hb13⟩
  have k13 : Below w.heap.size w w13 := k12.trans (hb13.mono k12.size)
  have sz13 : w12.heap.size ≤ w13.heap.size := hb13.size
  replace HOW := hid (HOW.out.below hb13)
  replace HOG := hid (HOG.out.below hb13)
  have HVd := hid hVd
  have RVd : Hid (∀ g ∈ ablk Vd, w12.heap.size ≤ g ∧ g < w13.heap.size) := hVd.lt
  obtain ⟨aVd, cVd, hve⟩ := hVd.slice
  subst hve
  clear hVd
  clear hb13
  go_wp2_with fail
  refine (HIM _ _ (HVd.out.strs)).mono ?_
  rintro e w14 ⟨OH, rfl, hOH, hb14⟩
  have k14 : Below w.heap.size w w14 := k13.trans (hb14.mono k13.size)
  have sz14 : w13.heap.size ≤ w14.heap.size := hb14.size
  replace HOW := hid (HOW.out.below hb14)
  replace HOG := hid (HOG.out.below hb14)
  replace HVd := hid (HVd.out.below hb14)
  have HOH := hid hOH
  have ROH : Hid (∀ g ∈ ablk OH, w13.heap.size ≤ g ∧ g < w14.heap.size) := hOH.lt
  obtain ⟨aOH, cOH, hve⟩ := hOH.slice
  subst hve
  clear hOH
  clear hb14
  clear HVd
  go_wp2_with fail
  refine (HEQ _ _ _ (HOH.out.strs) (HOW.out.strs)).mono ?_
  rintro e w15 ⟨rfl, hb15⟩
  have k15 : Below w.heap.size w w15 := k14.trans (hb15.mono k14.size)
  have sz15 : w14.heap.size ≤ w15.heap.size := hb15.size
  replace HOW := hid (HOW.out.below hb15)
  replace HOG := hid (HOG.out.below hb15)
  replace HOH := hid (HOH.out.below hb15)
  clear hb15
  go_wp2_with fail
  refine (HHG _ _ _ HOG.out).mono ?_
  rintro e w16 ⟨rfl, hb16⟩
  have k16 : Below w.heap.size w w16 := k15.trans (hb16.mono k15.size)
  have sz16 : w15.heap.size ≤ w16.heap.size := hb16.size
  replace HOW := hid (HOW.out.below hb16)
  replace HOG := hid (HOG.out.below hb16)
  replace HOH := hid (HOH.out.below hb16)
  clear hb16
  go_wp2_with fail
  go_returns
  exact ⟨rfl, k16⟩
theorem own : ownKnob Try.prog.godebug = none := by kernel_rfl
theorem laidOut : laidOutB Try.prog = true := by kernel_rfl
set_option maxRecDepth 100000 in
theorem lifted (os : Os) (started : os.Started) (H : Type) (enc : TypeId × Value → H) :
    ReturnsInHanded {} Try.checked os 10 .any (Rows.fnExactVocabularyOfSpec.pre6 enc Try.prog Try.f10 Rows.fnExactVocabularyOfRow.domain false) (Rows.fnExactVocabularyOfSpec.post enc Try.prog Try.f10 false true false false) := by
  refine returnsInHanded_of_change (C := Try.checked) own started (by kernel_rfl) Try.func10
    (ChangeSpec.witness6 (enc := enc) (C := Try.checked) false ⟨#[], #[.slice none 0 0], []⟩ 8 (by kernel_rfl) (by kernel_rfl) (by kernel_rfl) (by kernel_rfl)) ?_
  intro W base args ds gs before hval0 hW hcnd _
  have hval : ∀ (j : Nat) t v, Try.f10.params[j]? = some t → args[j]? = some v → Value.okWide Try.prog W .any base t v := hval0
  have hW' := hW
  obtain ⟨p, q, hA0, hV, rfl, hfz, hnd⟩ := hW
  have hA : DataW.TrodAll enc Try.prog W 0 (fun _ => true) true Try.f10.params.toList args.toList ds p := hA0
  rw [Try.params10] at hA hval
  obtain ⟨v0, vs0, d0, ds0, p0, q0, hargs, rfl, rfl, h0, r0⟩ := trodAll_cons hA
  obtain ⟨rfl, rfl, rfl⟩ := trodAll_nil r0
  obtain rfl : args = #[v0] := by cases args; simp_all
  obtain ⟨rfl, rfl⟩ := trodVars_none hV
  obtain ⟨ad0, len0, cap0, rfl⟩ := okWide_slice Try.underlying23 (hval 0 23 v0 rfl rfl)
  have kk0 := h0
  have lt0 : ∀ x ∈ p0, x.block < W.heap.size := by obtain ⟨m, hm⟩ := kk0; exact DataW.trod_lt m _ _ _ hm
  obtain ⟨ss0, hss0, hsl0, hsm0⟩ := strs_of h0
  clear hA0 hval0
  refine (walk _ ss0 hsl0 hsm0 W hss0).mono fun e W' ⟨he, bel⟩ => ?_
  subst he
  exact ⟨_, rfl, _, _, _, [], _, [], hW', trodAll_mk1 (shut_bool Try.underlying4 _), (trodAll_cons_mk (Below.trod laidOut (by kernel_rfl) (of_decide_eq_true (by kernel_rfl)) kk0 bel lt0) trodAll_mk0), rfl, bel.frame _, fun h => by cases h⟩

theorem over : Rows.fnExactVocabularyOfRow.holds Try.pinned (OpenSpec.ofChange Rows.fnExactVocabularyOfSpec) :=
  OpenClaim.holds_of_wide 10 Try.f10 rfl rfl rfl rfl rfl rfl rfl ⟨rfl, rfl, rfl, rfl, rfl⟩ rfl rfl rfl rfl rfl (by kernel_rfl) Try.func10 (by kernel_rfl)
    (of_decide_eq_true (by kernel_rfl)) (by unfold Func.isWrapper; first | (rw [if_pos (by decide +kernel)]; kernel_rfl) | (rw [if_neg (by decide +kernel)]; exact ⟨rfl, rfl⟩))
    (fun os started H enc _ => lifted os started H enc)
end Go.Proofs.Ytkkmnegmghllpaa.fnExactVocabularyOf
namespace Go.Proofs.Ytkkmnegmghllpaa
theorem fnExactVocabularyOf_holds : Rows.FnExactVocabularyOfSaid := fnExactVocabularyOf.over
#print axioms fnExactVocabularyOf_holds
end Go.Proofs.Ytkkmnegmghllpaa
