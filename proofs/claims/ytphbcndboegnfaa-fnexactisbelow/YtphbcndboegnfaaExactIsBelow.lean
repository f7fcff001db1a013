/- At every two lists of numbers the function FnExactIsBelow returns true and leaves its arguments as they were: IsBelow answers as its model does. No condition. -/
import Derived.Test.YtphbcndboegnfaaIsB
import Derived.Lib.SmallJoins
namespace Go.Proofs.Ytphbcndboegnfaa.fnExactIsBelow
open Go.ChangeShapes Go.WideShapes Go.ChangeAt Go.RowKit Go.Joins
open Go.ChangeMaps (open_string shut_string)
set_option linter.unusedVariables false

set_option maxHeartbeats 3200000 in
theorem walk (v1 : Value) (zs : List Int) (hz : zs.length ≤ maxLen) (v2 : Value) (ys : List Int) (hy : ys.length ≤ maxLen) (w : World) (h1 : IntsAt w v1 zs) (h2 : IntsAt w v2 ys) :
    Calls Try.prog 3 #[v1, v2] w fun e w' => e = .returned (.bool true) ∧ Below w.heap.size w w' := by
  unfold maxLen at hz hy
  obtain ⟨a1, c1, rfl⟩ := intsForm h1
  obtain ⟨a2, c2, rfl⟩ := intsForm h2
  by_cases hb1 : 1048576 < zs.length
  · have i1 : (1048576 : Int) < (zs.length : Int) := by omega
    clear h1 h2
    go_enter Try.func3, Try.ntmps3
    go_wp2
    go_returns
    exact ⟨rfl, by go_grown⟩
  have i1 : ¬ (1048576 : Int) < (zs.length : Int) := by omega
  by_cases hb2 : 1048576 < ys.length
  · have i2 : (1048576 : Int) < (ys.length : Int) := by omega
    clear h1 h2
    go_enter Try.func3, Try.ntmps3
    go_wp2
    go_returns
    exact ⟨rfl, by go_grown⟩
  have i2 : ¬ (1048576 : Int) < (ys.length : Int) := by omega
  have hl1 : zs.length ≤ 1048576 := by omega
  have hl2 : ys.length ≤ 1048576 := by omega
  have H1 : Hid (IntsAt w _ zs) := h1
  have H2 : Hid (IntsAt w _ ys) := h2
  clear h1 h2
  by_cases hyes : BothZ zs ys
  all_goals
    try have HB := hyes
    obtain ⟨o, ho⟩ : ∃ o, belowB zs ys = o := ⟨_, rfl⟩
    have HO : Hid (belowB zs ys = o) := ho
    clear ho
    go_enter Try.func3, Try.ntmps3
    go_wp2_with fail
    refine (toInt _ zs _ H1.out hl1).mono ?_
    rintro e w1 ⟨x1, rfl, hx1, k1⟩
    go_wp2_with fail
    refine (toInt _ ys _ (H2.out.below k1) hl2).mono ?_
    rintro e w2 ⟨x2, rfl, hx2, hb2⟩
    have k2 := k1.trans (hb2.mono k1.size)
    have hx1' := hx1.below hb2
    go_wp2_with fail
    first
      | (refine (specBelowYes x1 x2 zs ys _ hx1' hx2 hyes).mono ?_)
      | (refine (specBelowNo x1 x2 zs ys _ hx1' hx2 hl1 hl2 hyes).mono ?_)
    rintro e w3 ⟨rfl, hb3⟩
    have k3 := k2.trans (hb3.mono k2.size)
    try rw [HO.out]
    go_wp2_with fail
    refine (toInt _ zs _ (H1.out.below k3) hl1).mono ?_
    rintro e w4 ⟨y1, rfl, hy1, hb4⟩
    have k4 := k3.trans (hb4.mono k3.size)
    go_wp2_with fail
    refine (toInt _ ys _ (H2.out.below k4) hl2).mono ?_
    rintro e w5 ⟨y2, rfl, hy2, hb5⟩
    have k5 := k4.trans (hb5.mono k4.size)
    have hy1' := hy1.below hb5
    go_wp2_with fail
    first
      | (refine (implBelowYes y1 y2 zs ys _ hy1' hy2 hyes).mono ?_)
      | (refine (implBelowNo y1 y2 zs ys _ hy1' hy2 hl1 hl2 hyes).mono ?_)
    rintro e w6 ⟨rfl, hb6⟩
    have k6 := k5.trans (hb6.mono k5.size)
    have hy16 := hy1'.below hb6
    have hy26 := hy2.below hb6
    try rw [HO.out]
    go_wp2_with fail
    refine (toInt _ zs _ (H1.out.below k6) hl1).mono ?_
    rintro e w7 ⟨z1, rfl, hz1, hb7⟩
    have k7 := k6.trans (hb7.mono k6.size)
    have hy17 := hy16.below hb7
    have hy27 := hy26.below hb7
    go_wp2_with fail
    refine (eqInt _ _ zs _ hy17 hz1 hl1).mono ?_
    rintro e w8 ⟨rfl, hb8⟩
    have k8 := k7.trans (hb8.mono k7.size)
    have hy28 := hy27.below hb8
    go_wp2_with fail
    refine (toInt _ ys _ (H2.out.below k8) hl2).mono ?_
    rintro e w9 ⟨z2, rfl, hz2, hb9⟩
    have k9 := k8.trans (hb9.mono k8.size)
    have hy29 := hy28.below hb9
    go_wp2_with fail
    refine (eqInt _ _ ys _ hy29 hz2 hl2).mono ?_
    rintro e w10 ⟨rfl, hb10⟩
    have k10 := k9.trans (hb10.mono k9.size)
    go_wp2_with fail
    go_returns
    exact ⟨rfl, k10⟩

theorem own : ownKnob Try.prog.godebug = none := by kernel_rfl
theorem laidOut : laidOutB Try.prog = true := by kernel_rfl
set_option maxRecDepth 100000 in
theorem lifted (os : Os) (started : os.Started) (H : Type) (enc : TypeId × Value → H) :
    ReturnsInHanded {} Try.checked os 3 .any (Rows.fnExactIsBelowSpec.pre6 enc Try.prog Try.f3 Rows.fnExactIsBelowRow.domain false) (Rows.fnExactIsBelowSpec.post enc Try.prog Try.f3 false true false false) := by
  refine returnsInHanded_of_change (C := Try.checked) own started (by kernel_rfl) Try.func3
    (ChangeSpec.witness6 (enc := enc) (C := Try.checked) false ⟨#[], #[.slice none 0 0, .slice none 0 0], []⟩ 8 (by kernel_rfl) (by kernel_rfl) (by kernel_rfl) (by kernel_rfl)) ?_
  intro W base args ds gs before hval0 hW hcnd _
  have hval : ∀ (j : Nat) t v, Try.f3.params[j]? = some t → args[j]? = some v → Value.okWide Try.prog W .any base t v := hval0
  have hW' := hW
  obtain ⟨p, q, hA0, hV, rfl, hfz, hnd⟩ := hW
  have hA : DataW.TrodAll enc Try.prog W 0 (fun _ => true) true Try.f3.params.toList args.toList ds p := hA0
  rw [Try.params3] at hA hval
  obtain ⟨v0, vs0, d0, ds0, p0, q0, hargs, rfl, rfl, h0, r0⟩ := trodAll_cons hA
  obtain ⟨v1, vs1, d1, ds1, p1, q1, rfl, rfl, rfl, h1, r1⟩ := trodAll_cons r0
  obtain ⟨rfl, rfl, rfl⟩ := trodAll_nil r1
  obtain rfl : args = #[v0, v1] := by cases args; simp_all
  obtain ⟨rfl, rfl⟩ := trodVars_none hV
  obtain ⟨ad0, len0, cap0, rfl⟩ := okWide_slice Try.underlying22 (hval 0 22 v0 rfl rfl)
  have kk0 := h0
  have lt0 : ∀ x ∈ p0, x.block < W.heap.size := by obtain ⟨m, hm⟩ := kk0; exact DataW.trod_lt m _ _ _ hm
  obtain ⟨zs0, hss0, hsl0⟩ := ints_of h0
  obtain ⟨ad1, len1, cap1, rfl⟩ := okWide_slice Try.underlying22 (hval 1 22 v1 rfl rfl)
  have kk1 := h1
  have lt1 : ∀ x ∈ p1, x.block < W.heap.size := by obtain ⟨m, hm⟩ := kk1; exact DataW.trod_lt m _ _ _ hm
  obtain ⟨zs1, hss1, hsl1⟩ := ints_of h1
  clear hA0 hval0
  refine (walk _ zs0 hsl0 _ zs1 hsl1 W hss0 hss1).mono fun e W' ⟨he, bel⟩ => ?_
  subst he
  exact ⟨_, rfl, _, _, _, [], _, [], hW', trodAll_mk1 (shut_bool Try.underlying4 _), (trodAll_cons_mk (Below.trod laidOut (by kernel_rfl) (of_decide_eq_true (by kernel_rfl)) kk0 bel lt0) (trodAll_cons_mk (Below.trod laidOut (by kernel_rfl) (of_decide_eq_true (by kernel_rfl)) kk1 bel lt1) trodAll_mk0)), rfl, bel.frame _, fun h => by cases h⟩

theorem over : Rows.fnExactIsBelowRow.holds Try.pinned (OpenSpec.ofChange Rows.fnExactIsBelowSpec) :=
  OpenClaim.holds_of_wide 3 Try.f3 rfl rfl rfl rfl rfl rfl rfl ⟨rfl, rfl, rfl, rfl, rfl⟩ rfl rfl rfl rfl rfl (by kernel_rfl) Try.func3 (by kernel_rfl)
    (of_decide_eq_true (by kernel_rfl)) (by unfold Func.isWrapper; first | (rw [if_pos (by decide +kernel)]; kernel_rfl) | (rw [if_neg (by decide +kernel)]; exact ⟨rfl, rfl⟩))
    (fun os started H enc _ => lifted os started H enc)
end Go.Proofs.Ytphbcndboegnfaa.fnExactIsBelow
namespace Go.Proofs.Ytphbcndboegnfaa
theorem fnExactIsBelow_holds : Rows.FnExactIsBelowSaid := fnExactIsBelow.over
#print axioms fnExactIsBelow_holds
end Go.Proofs.Ytphbcndboegnfaa
