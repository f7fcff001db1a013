/- At every argument the function FnExactAfterBeginning returns true and leaves its argument as it was: AfterBeginning answers as its model does. No condition. -/
import Derived.Test.YtolkiofdbdjfkaaImplRB
import Derived.Test.YtolkiofdbdjfkaaLawsW
import Derived.Test.YtolkiofdbdjfkaaValArg
namespace Go.Proofs.Ytolkiofdbdjfkaa.fnExactAfterBeginning
open Go.ChangeShapes Go.WideShapes Go.ChangeAt Go.RowKit Go.Joins
open Go.ChangeMaps (open_string shut_string)
set_option linter.unusedVariables false

set_option maxHeartbeats 3200000 in
theorem walk (x : Value) (vs : List VV) (hsl : vs.length ≤ maxLen) (hsm : ∀ v ∈ vs, v.t.size ≤ maxLen) (w : World) (hss : ValsAt w x vs) :
    Calls Try.prog 12 #[x] w fun e w' => e = .returned (.bool true) ∧ Below w.heap.size w w' := by
  have HSZ := szVals x vs 1048576 w hss (by omega) hsl hsm
  simp only [show ((1048576 : Nat) : Int) = 1048576 from rfl] at HSZ
  have HV : Hid (ValsAt w x vs) := hss
  clear hss
  by_cases hbig : 1048576 < vs.length + sumT vs
  · rw [szRV_neg hbig] at HSZ
    clear hsm
    go_enter Try.func12, Try.ntmps12
    go_wp2_with fail
    refine HSZ.mono ?_
    rintro e w1 ⟨rfl, hb1⟩
    clear HSZ
    go_wp2
    go_returns
    exact ⟨rfl, hb1⟩
  · rw [szRV_pos (by omega)] at HSZ
    have hl : vs.length ≤ 1048576 := by omega
    generalize 1048576 - (vs.length + sumT vs) = z at *
    have hz : ¬ (z : Int) < 0 := by omega
    by_cases hyes : AllGood vs ∧ vs.length ≤ 6
    · go_enter Try.func12, Try.ntmps12
      go_wp2_with fail
      refine HSZ.mono ?_
      rintro e w1 ⟨rfl, b1⟩
      have V1 := hid (HV.out.below b1)
      have l1 := b1.size
      go_wp2_with fail
      refine (toVals _ vs _ V1.out hl).mono ?_
      rintro e w2 ⟨x2, rfl, hx2, b2⟩
      have k2 := b1.trans (b2.mono l1)
      have l2 := k2.size
      have V2 := hid (V1.out.below b2)
      go_wp2_with fail
      refine (specAfterYes _ vs _ hx2 hyes.2 hyes.1).mono ?_
      rintro e w3 ⟨rfl, b3⟩
      have k3 := k2.trans (b3.mono l2)
      have l3 := k3.size
      have V3 := hid (V2.out.below b3)
      clear hx2
      go_wp2_with fail
      refine (toVals _ vs _ V3.out hl).mono ?_
      rintro e w4 ⟨x4, rfl, hx4, b4⟩
      have k4 := k3.trans (b4.mono l3)
      have l4 := k4.size
      have V4 := hid (V3.out.below b4)
      have X4 := hid hx4
      clear hx4
      go_wp2_with fail
      refine (implAfterYes _ vs _ X4.out hyes.2 hyes.1).mono ?_
      rintro e w5 ⟨rfl, b5⟩
      have k5 := k4.trans (b5.mono l4)
      have l5 := k5.size
      have V5 := hid (V4.out.below b5)
      have X5 := hid (X4.out.below b5)
      go_wp2_with fail
      refine (toVals _ vs _ V5.out hl).mono ?_
      rintro e w6 ⟨x6, rfl, hx6, b6⟩
      have k6 := k5.trans (b6.mono l5)
      have l6 := k6.size
      have X6 := hid (X5.out.below b6)
      have Y6 := hid hx6
      clear hx6
      go_wp2_with fail
      refine (eqVals _ _ vs _ X6.out Y6.out hl).mono ?_
      rintro e w7 ⟨rfl, b7⟩
      have k7 := k6.trans (b7.mono l6)
      clear b1 b2 b3 b4 b5 b6 b7
      go_wp2
      go_returns
      exact ⟨rfl, k7⟩
    · go_enter Try.func12, Try.ntmps12
      go_wp2_with fail
      refine HSZ.mono ?_
      rintro e w1 ⟨rfl, b1⟩
      have V1 := hid (HV.out.below b1)
      have l1 := b1.size
      go_wp2_with fail
      refine (toVals _ vs _ V1.out hl).mono ?_
      rintro e w2 ⟨x2, rfl, hx2, b2⟩
      have k2 := b1.trans (b2.mono l1)
      have l2 := k2.size
      have V2 := hid (V1.out.below b2)
      go_wp2_with fail
      refine (specAfterNo _ vs _ hx2 hl hsm hyes).mono ?_
      rintro e w3 ⟨rfl, b3⟩
      have k3 := k2.trans (b3.mono l2)
      have l3 := k3.size
      have V3 := hid (V2.out.below b3)
      clear hx2
      go_wp2_with fail
      refine (toVals _ vs _ V3.out hl).mono ?_
      rintro e w4 ⟨x4, rfl, hx4, b4⟩
      have k4 := k3.trans (b4.mono l3)
      have l4 := k4.size
      have V4 := hid (V3.out.below b4)
      have X4 := hid hx4
      clear hx4
      go_wp2_with fail
      refine (implAfterNo _ vs _ X4.out hl hsm hyes).mono ?_
      rintro e w5 ⟨rfl, b5⟩
      have k5 := k4.trans (b5.mono l4)
      have l5 := k5.size
      have V5 := hid (V4.out.below b5)
      have X5 := hid (X4.out.below b5)
      go_wp2_with fail
      refine (toVals _ vs _ V5.out hl).mono ?_
      rintro e w6 ⟨x6, rfl, hx6, b6⟩
      have k6 := k5.trans (b6.mono l5)
      have l6 := k6.size
      have X6 := hid (X5.out.below b6)
      have Y6 := hid hx6
      clear hx6
      go_wp2_with fail
      refine (eqVals _ _ vs _ X6.out Y6.out hl).mono ?_
      rintro e w7 ⟨rfl, b7⟩
      have k7 := k6.trans (b7.mono l6)
      clear b1 b2 b3 b4 b5 b6 b7
      go_wp2
      go_returns
      exact ⟨rfl, k7⟩

theorem own : ownKnob Try.prog.godebug = none := by kernel_rfl
theorem laidOut : laidOutB Try.prog = true := by kernel_rfl
set_option maxRecDepth 100000 in
theorem lifted (os : Os) (started : os.Started) (H : Type) (enc : TypeId × Value → H) :
    ReturnsInHanded {} Try.checked os 12 .any (Rows.fnExactAfterBeginningSpec.pre6 enc Try.prog Try.f12 Rows.fnExactAfterBeginningRow.domain false) (Rows.fnExactAfterBeginningSpec.post enc Try.prog Try.f12 false true false false) := by
  refine returnsInHanded_of_change (C := Try.checked) own started (by kernel_rfl) Try.func12
    (ChangeSpec.witness6 (enc := enc) (C := Try.checked) false ⟨#[], #[.slice none 0 0], []⟩ 8 (by kernel_rfl) (by kernel_rfl) (by kernel_rfl) (by kernel_rfl)) ?_
  intro W base args ds gs before hval0 hW hcnd _
  have hval : ∀ (j : Nat) t v, Try.f12.params[j]? = some t → args[j]? = some v → Value.okWide Try.prog W .any base t v := hval0
  have hW' := hW
  obtain ⟨p, q, hA0, hV, rfl, hfz, hnd⟩ := hW
  have hA : DataW.TrodAll enc Try.prog W 0 (fun _ => true) true Try.f12.params.toList args.toList ds p := hA0
  rw [Try.params12] at hA hval
  obtain ⟨v0, vs0, d0, ds0, p0, q0, hargs, rfl, rfl, h0, r0⟩ := trodAll_cons hA
  obtain ⟨rfl, rfl, rfl⟩ := trodAll_nil r0
  obtain rfl : args = #[v0] := by cases args; simp_all
  obtain ⟨rfl, rfl⟩ := trodVars_none hV
  obtain ⟨ad0, len0, cap0, rfl⟩ := okWide_slice Try.underlying59 (hval 0 59 v0 rfl rfl)
  have kk0 := h0
  have lt0 : ∀ x ∈ p0, x.block < W.heap.size := by obtain ⟨m, hm⟩ := kk0; exact DataW.trod_lt m _ _ _ hm
  obtain ⟨vs0_, hss0, hsl0, hsm0⟩ := vals_of h0
  clear hA0 hval0
  refine (walk _ vs0_ hsl0 hsm0 W hss0).mono fun e W' ⟨he, bel⟩ => ?_
  subst he
  exact ⟨_, rfl, _, _, _, [], _, [], hW', trodAll_mk1 (shut_bool Try.underlying4 _), (trodAll_cons_mk (Below.trod laidOut (by kernel_rfl) (of_decide_eq_true (by kernel_rfl)) kk0 bel lt0) trodAll_mk0), rfl, bel.frame _, fun h => by cases h⟩

theorem over : Rows.fnExactAfterBeginningRow.holds Try.pinned (OpenSpec.ofChange Rows.fnExactAfterBeginningSpec) :=
  OpenClaim.holds_of_wide 12 Try.f12 rfl rfl rfl rfl rfl rfl rfl ⟨rfl, rfl, rfl, rfl, rfl⟩ rfl rfl rfl rfl rfl (by kernel_rfl) Try.func12 (by kernel_rfl)
    (of_decide_eq_true (by kernel_rfl)) (by unfold Func.isWrapper; first | (rw [if_pos (by decide +kernel)]; kernel_rfl) | (rw [if_neg (by decide +kernel)]; exact ⟨rfl, rfl⟩))
    (fun os started H enc _ => lifted os started H enc)
end Go.Proofs.Ytolkiofdbdjfkaa.fnExactAfterBeginning
namespace Go.Proofs.Ytolkiofdbdjfkaa
theorem fnExactAfterBeginning_holds : Rows.FnExactAfterBeginningSaid := fnExactAfterBeginning.over
#print axioms fnExactAfterBeginning_holds
end Go.Proofs.Ytolkiofdbdjfkaa
