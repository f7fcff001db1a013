/- At every argument the function FnExactCompareRows returns true and leaves its argument as it was: CompareRows answers as its model does. No condition. -/
import Derived.Test.YtolkiofdbdjfkaaImplCR
import Derived.Test.YtolkiofdbdjfkaaLawsW
import Derived.Test.YtolkiofdbdjfkaaValArg
namespace Go.Proofs.Ytolkiofdbdjfkaa.fnExactCompareRows
open Go.ChangeShapes Go.WideShapes Go.ChangeAt Go.RowKit Go.Joins
open Go.ChangeMaps (open_string shut_string)
set_option linter.unusedVariables false

set_option maxHeartbeats 6400000 in
theorem walk (x : Value) (a : List VV) (hsl : a.length ≤ maxLen) (hma : ∀ v ∈ a, v.t.size ≤ maxLen) (y : Value) (b : List VV) (hsl2 : b.length ≤ maxLen) (hmb : ∀ v ∈ b, v.t.size ≤ maxLen) (w : World) (hss : ValsAt w x a) (hss2 : ValsAt w y b) :
    Calls Try.prog 11 #[x, y] w fun e w' => e = .returned (.bool true) ∧ Below w.heap.size w w' := by
  have HSZ := szVals x a 1048576 w hss (by omega) hsl hma
  simp only [show ((1048576 : Nat) : Int) = 1048576 from rfl] at HSZ
  have A0 : Hid (ValsAt w x a) := hss
  have B0 : Hid (ValsAt w y b) := hss2
  clear hss hss2
  by_cases hbig : 1048576 < a.length + sumT a
  · rw [szRV_neg hbig] at HSZ
    clear hma hmb
    go_enter Try.func11, Try.ntmps11
    go_wp2_with fail
    refine HSZ.mono ?_
    rintro e w1 ⟨rfl, hb1⟩
    clear HSZ
    go_wp2
    go_returns
    exact ⟨rfl, hb1⟩
  rw [szRV_pos (by omega)] at HSZ
  have hla : a.length ≤ 1048576 := by omega
  obtain ⟨z, hzz⟩ : ∃ z, z = 1048576 - (a.length + sumT a) := ⟨_, rfl⟩
  rw [← hzz] at HSZ
  have hz : ¬ (z : Int) < 0 := by omega
  have hz1 : z ≤ 1048576 := by omega
  clear hzz
  have HSZ2 := fun W hW => szVals y b z W hW hz1 hsl2 hmb
  by_cases hbig2 : z < b.length + sumT b
  · rw [szRV_neg hbig2] at HSZ2
    clear hma hmb
    go_enter Try.func11, Try.ntmps11
    go_wp2_with fail
    refine HSZ.mono ?_
    rintro e w1 ⟨rfl, hb1⟩
    go_wp2_with fail
    refine (HSZ2 _ (B0.out.below hb1)).mono ?_
    rintro e w2 ⟨rfl, hb2⟩
    have k2 := hb1.trans (hb2.mono hb1.size)
    clear HSZ HSZ2 hb1 hb2
    go_wp2
    go_returns
    exact ⟨rfl, k2⟩
  · rw [szRV_pos (by omega)] at HSZ2
    have hlb : b.length ≤ 1048576 := by omega
    generalize z - (b.length + sumT b) = z2 at *
    have hz2 : ¬ (z2 : Int) < 0 := by omega
    by_cases hyes : (AllGood a ∧ a.length ≤ 6) ∧ (AllGood b ∧ b.length ≤ 6)
    · go_enter Try.func11, Try.ntmps11
      go_wp2_with fail
      refine HSZ.mono ?_
      rintro e w1 ⟨rfl, b1⟩
      have k1 := b1
      have l1 := k1.size
      have A1 := hid (A0.out.below b1)
      have B1 := hid (B0.out.below b1)
      go_wp2_with fail
      refine (HSZ2 _ B1.out).mono ?_
      rintro e w2 ⟨rfl, b2⟩
      have k2 := k1.trans (b2.mono l1)
      have l2 := k2.size
      have A2 := hid (A1.out.below b2)
      have B2 := hid (B1.out.below b2)
      go_wp2_with fail
      refine (toVals _ a _ A2.out hla).mono ?_
      rintro e w3 ⟨x3, rfl, hx3, b3⟩
      have k3 := k2.trans (b3.mono l2)
      have l3 := k3.size
      have A3 := hid (A2.out.below b3)
      have B3 := hid (B2.out.below b3)
      have X3 := hid hx3
      clear hx3
      go_wp2_with fail
      refine (toVals _ b _ B3.out hlb).mono ?_
      rintro e w4 ⟨x4, rfl, hx4, b4⟩
      have k4 := k3.trans (b4.mono l3)
      have l4 := k4.size
      have A4 := hid (A3.out.below b4)
      have B4 := hid (B3.out.below b4)
      have X4 := hid (X3.out.below b4)
      have Y4 := hid hx4
      clear hx4
      go_wp2_with fail
      refine (specCRYes _ _ a b _ X4.out Y4.out hyes.1.2 hyes.2.2 hyes.1.1 hyes.2.1).mono ?_
      rintro e w5 ⟨rfl, b5⟩
      have k5 := k4.trans (b5.mono l4)
      have l5 := k5.size
      have A5 := hid (A4.out.below b5)
      have B5 := hid (B4.out.below b5)
      go_wp2_with fail
      refine (toVals _ a _ A5.out hla).mono ?_
      rintro e w6 ⟨x6, rfl, hx6, b6⟩
      have k6 := k5.trans (b6.mono l5)
      have l6 := k6.size
      have A6 := hid (A5.out.below b6)
      have B6 := hid (B5.out.below b6)
      have X6 := hid hx6
      clear hx6
      go_wp2_with fail
      refine (toVals _ b _ B6.out hlb).mono ?_
      rintro e w7 ⟨x7, rfl, hx7, b7⟩
      have k7 := k6.trans (b7.mono l6)
      have l7 := k7.size
      have A7 := hid (A6.out.below b7)
      have B7 := hid (B6.out.below b7)
      have X7 := hid (X6.out.below b7)
      have Y7 := hid hx7
      clear hx7
      go_wp2_with fail
      refine (implCRYes _ _ a b _ X7.out Y7.out hyes.1.2 hyes.2.2 hyes.1.1 hyes.2.1).mono ?_
      rintro e w8 ⟨rfl, b8⟩
      have k8 := k7.trans (b8.mono l7)
      have l8 := k8.size
      have A8 := hid (A7.out.below b8)
      have B8 := hid (B7.out.below b8)
      have X8 := hid (X7.out.below b8)
      have Y8 := hid (Y7.out.below b8)
      go_wp2_with fail
      refine (toVals _ a _ A8.out hla).mono ?_
      rintro e w9 ⟨x9, rfl, hx9, b9⟩
      have k9 := k8.trans (b9.mono l8)
      have l9 := k9.size
      have A9 := hid (A8.out.below b9)
      have B9 := hid (B8.out.below b9)
      have X9 := hid (X8.out.below b9)
      have Y9 := hid (Y8.out.below b9)
      have Z9 := hid hx9
      clear hx9
      go_wp2_with fail
      refine (eqVals _ _ a _ X9.out Z9.out hla).mono ?_
      rintro e w10 ⟨rfl, b10⟩
      have k10 := k9.trans (b10.mono l9)
      have l10 := k10.size
      have B10 := hid (B9.out.below b10)
      have Y10 := hid (Y9.out.below b10)
      go_wp2_with fail
      refine (toVals _ b _ B10.out hlb).mono ?_
      rintro e w11 ⟨x11, rfl, hx11, b11⟩
      have k11 := k10.trans (b11.mono l10)
      have l11 := k11.size
      have Y11 := hid (Y10.out.below b11)
      have Z11 := hid hx11
      clear hx11
      go_wp2_with fail
      refine (eqVals _ _ b _ Y11.out Z11.out hlb).mono ?_
      rintro e w12 ⟨rfl, b12⟩
      have k12 := k11.trans (b12.mono l11)
      clear b1 b2 b3 b4 b5 b6 b7 b8 b9 b10 b11 b12
      go_wp2
      go_returns
      exact ⟨rfl, k12⟩
    · go_enter Try.func11, Try.ntmps11
      go_wp2_with fail
      refine HSZ.mono ?_
      rintro e w1 ⟨rfl, b1⟩
      have k1 := b1
      have l1 := k1.size
      have A1 := hid (A0.out.below b1)
      have B1 := hid (B0.out.below b1)
      go_wp2_with fail
      refine (HSZ2 _ B1.out).mono ?_
      rintro e w2 ⟨rfl, b2⟩
      have k2 := k1.trans (b2.mono l1)
      have l2 := k2.size
      have A2 := hid (A1.out.below b2)
      have B2 := hid (B1.out.below b2)
      go_wp2_with fail
      refine (toVals _ a _ A2.out hla).mono ?_
      rintro e w3 ⟨x3, rfl, hx3, b3⟩
      have k3 := k2.trans (b3.mono l2)
      have l3 := k3.size
      have A3 := hid (A2.out.below b3)
      have B3 := hid (B2.out.below b3)
      have X3 := hid hx3
      clear hx3
      go_wp2_with fail
      refine (toVals _ b _ B3.out hlb).mono ?_
      rintro e w4 ⟨x4, rfl, hx4, b4⟩
      have k4 := k3.trans (b4.mono l3)
      have l4 := k4.size
      have A4 := hid (A3.out.below b4)
      have B4 := hid (B3.out.below b4)
      have X4 := hid (X3.out.below b4)
      have Y4 := hid hx4
      clear hx4
      go_wp2_with fail
      refine (specCRNo _ _ a b _ X4.out Y4.out hla hlb hma hmb hyes).mono ?_
      rintro e w5 ⟨rfl, b5⟩
      have k5 := k4.trans (b5.mono l4)
      have l5 := k5.size
      have A5 := hid (A4.out.below b5)
      have B5 := hid (B4.out.below b5)
      go_wp2_with fail
      refine (toVals _ a _ A5.out hla).mono ?_
      rintro e w6 ⟨x6, rfl, hx6, b6⟩
      have k6 := k5.trans (b6.mono l5)
      have l6 := k6.size
      have A6 := hid (A5.out.below b6)
      have B6 := hid (B5.out.below b6)
      have X6 := hid hx6
      clear hx6
      go_wp2_with fail
      refine (toVals _ b _ B6.out hlb).mono ?_
      rintro e w7 ⟨x7, rfl, hx7, b7⟩
      have k7 := k6.trans (b7.mono l6)
      have l7 := k7.size
      have A7 := hid (A6.out.below b7)
      have B7 := hid (B6.out.below b7)
      have X7 := hid (X6.out.below b7)
      have Y7 := hid hx7
      clear hx7
      go_wp2_with fail
      refine (implCRNo _ _ a b _ X7.out Y7.out hla hlb hma hmb hyes).mono ?_
      rintro e w8 ⟨rfl, b8⟩
      have k8 := k7.trans (b8.mono l7)
      have l8 := k8.size
      have A8 := hid (A7.out.below b8)
      have B8 := hid (B7.out.below b8)
      have X8 := hid (X7.out.below b8)
      have Y8 := hid (Y7.out.below b8)
      go_wp2_with fail
      refine (toVals _ a _ A8.out hla).mono ?_
      rintro e w9 ⟨x9, rfl, hx9, b9⟩
      have k9 := k8.trans (b9.mono l8)
      have l9 := k9.size
      have A9 := hid (A8.out.below b9)
      have B9 := hid (B8.out.below b9)
      have X9 := hid (X8.out.below b9)
      have Y9 := hid (Y8.out.below b9)
      have Z9 := hid hx9
      clear hx9
      go_wp2_with fail
      refine (eqVals _ _ a _ X9.out Z9.out hla).mono ?_
      rintro e w10 ⟨rfl, b10⟩
      have k10 := k9.trans (b10.mono l9)
      have l10 := k10.size
      have B10 := hid (B9.out.below b10)
      have Y10 := hid (Y9.out.below b10)
      go_wp2_with fail
      refine (toVals _ b _ B10.out hlb).mono ?_
      rintro e w11 ⟨x11, rfl, hx11, b11⟩
      have k11 := k10.trans (b11.mono l10)
      have l11 := k11.size
      have Y11 := hid (Y10.out.below b11)
      have Z11 := hid hx11
      clear hx11
      go_wp2_with fail
      refine (eqVals _ _ b _ Y11.out Z11.out hlb).mono ?_
      rintro e w12 ⟨rfl, b12⟩
      have k12 := k11.trans (b12.mono l11)
      clear b1 b2 b3 b4 b5 b6 b7 b8 b9 b10 b11 b12
      go_wp2
      go_returns
      exact ⟨rfl, k12⟩

theorem own : ownKnob Try.prog.godebug = none := by kernel_rfl
theorem laidOut : laidOutB Try.prog = true := by kernel_rfl
set_option maxRecDepth 100000 in
theorem lifted (os : Os) (started : os.Started) (H : Type) (enc : TypeId × Value → H) :
    ReturnsInHanded {} Try.checked os 11 .any (Rows.fnExactCompareRowsSpec.pre6 enc Try.prog Try.f11 Rows.fnExactCompareRowsRow.domain false) (Rows.fnExactCompareRowsSpec.post enc Try.prog Try.f11 false true false false) := by
  refine returnsInHanded_of_change (C := Try.checked) own started (by kernel_rfl) Try.func11
    (ChangeSpec.witness6 (enc := enc) (C := Try.checked) false ⟨#[], #[.slice none 0 0, .slice none 0 0], []⟩ 8 (by kernel_rfl) (by kernel_rfl) (by kernel_rfl) (by kernel_rfl)) ?_
  intro W base args ds gs before hval0 hW hcnd _
  have hval : ∀ (j : Nat) t v, Try.f11.params[j]? = some t → args[j]? = some v → Value.okWide Try.prog W .any base t v := hval0
  have hW' := hW
  obtain ⟨p, q, hA0, hV, rfl, hfz, hnd⟩ := hW
  have hA : DataW.TrodAll enc Try.prog W 0 (fun _ => true) true Try.f11.params.toList args.toList ds p := hA0
  rw [Try.params11] at hA hval
  obtain ⟨v0, vs0, d0, ds0, p0, q0, hargs, rfl, rfl, h0, r0⟩ := trodAll_cons hA
  obtain ⟨v1, vs1, d1, ds1, p1, q1, rfl, rfl, rfl, h1, r1⟩ := trodAll_cons r0
  obtain ⟨rfl, rfl, rfl⟩ := trodAll_nil r1
  obtain rfl : args = #[v0, v1] := by cases args; simp_all
  obtain ⟨rfl, rfl⟩ := trodVars_none hV
  obtain ⟨ad0, len0, cap0, rfl⟩ := okWide_slice Try.underlying59 (hval 0 59 v0 rfl rfl)
  have kk0 := h0
  have lt0 : ∀ x ∈ p0, x.block < W.heap.size := by obtain ⟨m, hm⟩ := kk0; exact DataW.trod_lt m _ _ _ hm
  obtain ⟨vs0_, hss0, hsl0, hsm0⟩ := vals_of h0
  obtain ⟨ad1, len1, cap1, rfl⟩ := okWide_slice Try.underlying59 (hval 1 59 v1 rfl rfl)
  have kk1 := h1
  have lt1 : ∀ x ∈ p1, x.block < W.heap.size := by obtain ⟨m, hm⟩ := kk1; exact DataW.trod_lt m _ _ _ hm
  obtain ⟨vs1_, hss1, hsl1, hsm1⟩ := vals_of h1
  clear hA0 hval0
  refine (walk _ vs0_ hsl0 hsm0 _ vs1_ hsl1 hsm1 W hss0 hss1).mono fun e W' ⟨he, bel⟩ => ?_
  subst he
  exact ⟨_, rfl, _, _, _, [], _, [], hW', trodAll_mk1 (shut_bool Try.underlying4 _), (trodAll_cons_mk (Below.trod laidOut (by kernel_rfl) (of_decide_eq_true (by kernel_rfl)) kk0 bel lt0) (trodAll_cons_mk (Below.trod laidOut (by kernel_rfl) (of_decide_eq_true (by kernel_rfl)) kk1 bel lt1) trodAll_mk0)), rfl, bel.frame _, fun h => by cases h⟩

theorem over : Rows.fnExactCompareRowsRow.holds Try.pinned (OpenSpec.ofChange Rows.fnExactCompareRowsSpec) :=
  OpenClaim.holds_of_wide 11 Try.f11 rfl rfl rfl rfl rfl rfl rfl ⟨rfl, rfl, rfl, rfl, rfl⟩ rfl rfl rfl rfl rfl (by kernel_rfl) Try.func11 (by kernel_rfl)
    (of_decide_eq_true (by kernel_rfl)) (by unfold Func.isWrapper; first | (rw [if_pos (by decide +kernel)]; kernel_rfl) | (rw [if_neg (by decide +kernel)]; exact ⟨rfl, rfl⟩))
    (fun os started H enc _ => lifted os started H enc)
end Go.Proofs.Ytolkiofdbdjfkaa.fnExactCompareRows
namespace Go.Proofs.Ytolkiofdbdjfkaa
theorem fnExactCompareRows_holds : Rows.FnExactCompareRowsSaid := fnExactCompareRows.over
#print axioms fnExactCompareRows_holds
end Go.Proofs.Ytolkiofdbdjfkaa
