/- At every list of texts and every text the function FnExactCountOf returns true and leaves its argument as it was: CountOf answers as its model does. No condition. -/
import Derived.Test.YtkkmnegmghllpaaPostY
import Derived.Test.YtkkmnegmghllpaaImplLk
import Derived.Lib.SmallJoins
namespace Go.Proofs.Ytkkmnegmghllpaa.fnExactCountOf
open Go.ChangeShapes Go.WideShapes Go.ChangeAt Go.RowKit Go.Joins Go.Deep
open Go.ChangeMaps (open_string shut_string)
set_option linter.unusedVariables false
attribute [local go_sem ↓] Go.wp_at_zero Go.wp_at_succ

set_option maxRecDepth 100000 in
set_option maxHeartbeats 12800000 in
theorem walk (xd : Value) (ssd : List ByteArray) (hld : ssd.length ≤ maxLen) (hmd : ∀ s ∈ ssd, s.size ≤ maxLen) (sq : ByteArray) (hsq : sq.size ≤ maxLen) (w : World) (hxd : StrsAt w xd ssd) :
    Calls Try.prog 9 #[xd, .string sq] w fun e w' => e = .returned (.bool true) ∧ Below w.heap.size w w' := by
  have HAd := hid hxd
  obtain ⟨ad, cd, hved⟩ := hxd.slice
  subst hved
  clear hxd
  have hsuq := hsq
  unfold maxLen at hsuq
  by_cases hbigq : 1048576 < sq.size
  · have hb1 : (1048576 : Int) < (sq.size : Int) := by omega
    go_enter Try.func9, Try.ntmps9
    go_wp2
    go_returns
    exact ⟨rfl, by go_grown⟩
  have hbsq : ¬ (1048576 : Int) < (sq.size : Int) := by omega
  have HZd := fun W h => szStrB (.slice ad ssd.length cd) ssd 1048576 W h (by omega) hld hmd
  simp only [show ((1048576 : Nat) : Int) = 1048576 from rfl] at HZd
  by_cases hbgd : 1048576 < ssd.length + sumS ssd
  · have hzn : szRK 1048576 ssd = -1 := by exact szRK_neg hbgd
    rw [hzn] at HZd
    clear hzn hbgd
    go_enter Try.func9, Try.ntmps9
    have k0 : Below w.heap.size w w := Below.refl _ _
    go_wp2_with fail
    refine (HZd _ (HAd.out.below k0)).mono ?_
    rintro e w1 ⟨rfl, hb1⟩
    have k1 : Below w.heap.size w w1 := k0.trans (hb1.mono k0.size)
    have sz1 : w.heap.size ≤ w1.heap.size := hb1.size
    clear hb1
    go_wp2
    go_returns
    exact ⟨rfl, k1⟩
  have hzpd : szRK 1048576 ssd = ((1048576 - (ssd.length + sumS ssd) : Nat) : Int) := by rw [szRK_pos (by omega)]
  rw [hzpd] at HZd
  obtain ⟨zd, hzd⟩ : ∃ z : Nat, z = 1048576 - (ssd.length + sumS ssd) := ⟨_, rfl⟩
  rw [← hzd] at HZd
  have hzdd : decide ((zd : Int) < 0) = false := decide_eq_false (by omega)
  have hzd2d : ¬ (zd : Int) < 0 := by omega
  clear hzpd
  have l1d : ssd.length ≤ 1048576 := by omega
  have l4d : ∀ s ∈ ssd, s.size ≤ 1048576 := fun s hs => by have := sumS_mem hs; omega

  have HSP := fun x W h => specCount x ssd sq W h l1d l4d (by omega)
  have HIM := fun x W h => implCount x ssd sq W h l1d l4d (by omega)
  obtain ⟨B, hB⟩ : ∃ B, B = poB ssd sq := ⟨_, rfl⟩
  obtain ⟨C1, hC1⟩ : ∃ C1 : Int, C1 = ((poA ssd sq).length : Nat) := ⟨_, rfl⟩
  obtain ⟨C2, hC2⟩ : ∃ C2 : Int, C2 = (sumL (poA ssd sq) : Nat) := ⟨_, rfl⟩
  rw [← hB, ← hC1, ← hC2] at HSP HIM
  have hc1 : (C1 != C1) = false := by simp
  have hc2 : (C2 != C2) = false := by simp
  clear hB hC1 hC2 l4d
  have HTOd := fun x W h => toStrO x ssd W h l1d
  have HEAd := fun x y W h g => eqStr x y ssd W h g l1d
  obtain ⟨Xd, hXd⟩ : ∃ X : Nat, X = 1 + ssd.length := ⟨_, rfl⟩
  have HMAd := fun b v W (h : OwnA b W v ssd.length (strsF ssd)) => markStrE b 1 ssd.length v _ W h (by omega) (by omega) (fun i _ => ⟨_, rfl⟩)
  rw [← hXd] at HMAd
  simp only [show ((1 : Nat) : Int) = 1 from rfl] at HMAd
  have hXd : decide ((Xd : Int) < 0) = false := decide_eq_false (by omega)
  have hbn : (B != B) = false := by cases B <;> rfl
  clear hXd hzd hbgd
  go_enter Try.func9, Try.ntmps9
  have k0 : Below w.heap.size w w := Below.refl _ _
  go_wp2_with fail
  refine (HZd _ (HAd.out.below k0)).mono ?_
  rintro e w1 ⟨rfl, hb1⟩
  have k1 : Below w.heap.size w w1 := k0.trans (hb1.mono k0.size)
  have sz1 : w.heap.size ≤ w1.heap.size := hb1.size
  clear hb1
  go_wp2_with fail
  refine (HTOd _ _ (HAd.out.below k1)).mono ?_
  rintro e w2 ⟨Ud, rfl, hUd, hb2⟩
  have k2 : Below w.heap.size w w2 := k1.trans (hb2.mono k1.size)
  have sz2 : w1.heap.size ≤ w2.heap.size := hb2.size
  have HUd := hid hUd
  have RUd : Hid (∀ g ∈ ablk Ud, w1.heap.size ≤ g ∧ g < w2.heap.size) := hUd.lt
  obtain ⟨aUd, cUd, hve⟩ := hUd.slice
  subst hve
  clear hUd
  clear hb2
  go_wp2_with fail
  refine (HSP _ _ (HUd.out.strs)).mono ?_
  rintro e w3 ⟨rfl, hb3⟩
  have k3 : Below w.heap.size w w3 := k2.trans (hb3.mono k2.size)
  have sz3 : w2.heap.size ≤ w3.heap.size := hb3.size
  replace HUd := hid (HUd.out.below hb3)
  clear hb3
  clear HUd
  go_wp2_with fail
  refine (HTOd _ _ (HAd.out.below k3)).mono ?_
  rintro e w4 ⟨Xd, rfl, hXd, hb4⟩
  have k4 : Below w.heap.size w w4 := k3.trans (hb4.mono k3.size)
  have sz4 : w3.heap.size ≤ w4.heap.size := hb4.size
  have HXd := hid hXd
  have RXd : Hid (∀ g ∈ ablk Xd, w3.heap.size ≤ g ∧ g < w4.heap.size) := hXd.lt
  obtain ⟨aXd, cXd, hve⟩ := hXd.slice
  subst hve
  clear hXd
  clear hb4
  go_wp2_with fail
  refine (HIM _ _ (HXd.out.strs)).mono ?_
  rintro e w5 ⟨rfl, hb5⟩
  have k5 : Below w.heap.size w w5 := k4.trans (hb5.mono k4.size)
  have sz5 : w4.heap.size ≤ w5.heap.size := hb5.size
  replace HXd := hid (HXd.out.below hb5)
  clear hb5
  go_wp2_with fail
  refine (HTOd _ _ (HAd.out.below k5)).mono ?_
  rintro e w6 ⟨Yd, rfl, hYd, hb6⟩
  have k6 : Below w.heap.size w w6 := k5.trans (hb6.mono k5.size)
  have sz6 : w5.heap.size ≤ w6.heap.size := hb6.size
  replace HXd := hid (HXd.out.below hb6)
  have HYd := hid hYd
  have RYd : Hid (∀ g ∈ ablk Yd, w5.heap.size ≤ g ∧ g < w6.heap.size) := hYd.lt
  obtain ⟨aYd, cYd, hve⟩ := hYd.slice
  subst hve
  clear hYd
  clear hb6
  go_wp2_with fail
  refine (HEAd _ _ _ (HXd.out.strs) (HYd.out.strs)).mono ?_
  rintro e w7 ⟨rfl, hb7⟩
  have k7 : Below w.heap.size w w7 := k6.trans (hb7.mono k6.size)
  have sz7 : w6.heap.size ≤ w7.heap.size := hb7.size
  replace HXd := hid (HXd.out.below hb7)
  replace HYd := hid (HYd.out.below hb7)
  clear hb7
  clear HYd
  go_wp2_with fail
  go_returns
  exact ⟨rfl, k7⟩
theorem own : ownKnob Try.prog.godebug = none := by kernel_rfl
theorem laidOut : laidOutB Try.prog = true := by kernel_rfl
set_option maxRecDepth 100000 in
theorem lifted (os : Os) (started : os.Started) (H : Type) (enc : TypeId × Value → H) :
    ReturnsInHanded {} Try.checked os 9 .any (Rows.fnExactCountOfSpec.pre6 enc Try.prog Try.f9 Rows.fnExactCountOfRow.domain false) (Rows.fnExactCountOfSpec.post enc Try.prog Try.f9 false true false false) := by
  refine returnsInHanded_of_change (C := Try.checked) own started (by kernel_rfl) Try.func9
    (ChangeSpec.witness6 (enc := enc) (C := Try.checked) false ⟨#[], #[.slice none 0 0, .string ByteArray.empty], []⟩ 8 (by kernel_rfl) (by kernel_rfl) (by kernel_rfl) (by kernel_rfl)) ?_
  intro W base args ds gs before hval0 hW hcnd _
  have hval : ∀ (j : Nat) t v, Try.f9.params[j]? = some t → args[j]? = some v → Value.okWide Try.prog W .any base t v := hval0
  have hW' := hW
  obtain ⟨p, q, hA0, hV, rfl, hfz, hnd⟩ := hW
  have hA : DataW.TrodAll enc Try.prog W 0 (fun _ => true) true Try.f9.params.toList args.toList ds p := hA0
  rw [Try.params9] at hA hval
  obtain ⟨v0, vs0, d0, ds0, p0, q0, hargs, rfl, rfl, h0, r0⟩ := trodAll_cons hA
  obtain ⟨v1, vs1, d1, ds1, p1, q1, rfl, rfl, rfl, h1, r1⟩ := trodAll_cons r0
  obtain ⟨rfl, rfl, rfl⟩ := trodAll_nil r1
  obtain rfl : args = #[v0, v1] := by cases args; simp_all
  obtain ⟨rfl, rfl⟩ := trodVars_none hV
  obtain ⟨ad0, len0, cap0, rfl⟩ := okWide_slice Try.underlying23 (hval 0 23 v0 rfl rfl)
  have kk0 := h0
  have lt0 : ∀ x ∈ p0, x.block < W.heap.size := by obtain ⟨m, hm⟩ := kk0; exact DataW.trod_lt m _ _ _ hm
  obtain ⟨ss0, hss0, hsl0, hsm0⟩ := strs_of h0
  obtain ⟨s1, rfl, rfl, rfl, hs1⟩ := open_string Try.underlying9 (hval 1 9 v1 rfl rfl) h1
  clear hA0 hval0
  refine (walk _ ss0 hsl0 hsm0 s1 hs1 W hss0).mono fun e W' ⟨he, bel⟩ => ?_
  subst he
  exact ⟨_, rfl, _, _, _, [], _, [], hW', trodAll_mk1 (shut_bool Try.underlying4 _), (trodAll_cons_mk (Below.trod laidOut (by kernel_rfl) (of_decide_eq_true (by kernel_rfl)) kk0 bel lt0) (trodAll_cons_mk (shut_string Try.underlying9 hs1) trodAll_mk0)), rfl, bel.frame _, fun h => by cases h⟩

theorem over : Rows.fnExactCountOfRow.holds Try.pinned (OpenSpec.ofChange Rows.fnExactCountOfSpec) :=
  OpenClaim.holds_of_wide 9 Try.f9 rfl rfl rfl rfl rfl rfl rfl ⟨rfl, rfl, rfl, rfl, rfl⟩ rfl rfl rfl rfl rfl (by kernel_rfl) Try.func9 (by kernel_rfl)
    (of_decide_eq_true (by kernel_rfl)) (by unfold Func.isWrapper; first | (rw [if_pos (by decide +kernel)]; kernel_rfl) | (rw [if_neg (by decide +kernel)]; exact ⟨rfl, rfl⟩))
    (fun os started H enc _ => lifted os started H enc)
end Go.Proofs.Ytkkmnegmghllpaa.fnExactCountOf
namespace Go.Proofs.Ytkkmnegmghllpaa
theorem fnExactCountOf_holds : Rows.FnExactCountOfSaid := fnExactCountOf.over
#print axioms fnExactCountOf_holds
end Go.Proofs.Ytkkmnegmghllpaa
