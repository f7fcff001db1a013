/- At every list of rows and every number the function FnExactBoundAt returns true and leaves its argument as it was: BoundAt answers as its model does. No condition. -/
import Derived.Test.YthdodlbhkpoadaaScX
import Derived.Test.YthdodlbhkpoadaaTotX
import Derived.Lib.SmallJoins
namespace Go.Proofs.Ythdodlbhkpoadaa.fnExactBoundAt
open Go.ChangeShapes Go.WideShapes Go.ChangeAt Go.RowKit Go.Joins Go.Deep
open Go.ChangeMaps (open_string shut_string)
set_option linter.unusedVariables false
attribute [local go_sem ↓] Go.wp_at_zero Go.wp_at_succ

set_option maxRecDepth 100000 in
set_option maxHeartbeats 12800000 in
theorem walk (xq : Value) (Rq : List (List Sc)) (hmq : ReRs Rq) (yy : Int) (hwy : (Lit.int .i64 yy).wf = true) (w : World) (hxq : RwsAt w xq Rq) :
    Calls Try.prog 12 #[xq, .int .i64 yy] w fun e w' => e = .returned (.bool true) ∧ Below w.heap.size w w' := by
  have HAq := hid hxq
  obtain ⟨aq, cq, hveq⟩ := hxq.slice
  subst hveq
  clear hxq
  have HZq := fun W h => szScR (.slice aq Rq.length cq) Rq 1048576 W h (by omega) hmq
  simp only [show ((1048576 : Nat) : Int) = 1048576 from rfl] at HZq
  by_cases hbgq : 1048576 < Rq.length + sumR Rq
  · have hzn : szRR 1048576 Rq = -1 := by unfold szRR; rw [if_neg (by omega)]
    rw [hzn] at HZq
    clear hzn hbgq
    go_enter Try.func12, Try.ntmps12
    have k0 : Below w.heap.size w w := Below.refl _ _
    go_wp2_with fail
    refine (HZq _ (HAq.out.below k0)).mono ?_
    rintro e w1 ⟨rfl, hb1⟩
    have k1 : Below w.heap.size w w1 := k0.trans (hb1.mono k0.size)
    have sz1 : w.heap.size ≤ w1.heap.size := hb1.size
    clear hb1
    go_wp2
    go_returns
    exact ⟨rfl, k1⟩
  have hzpq : szRR 1048576 Rq = ((1048576 - (Rq.length + sumR Rq) : Nat) : Int) := by unfold szRR; rw [if_pos (by omega)]
  rw [hzpq] at HZq
  obtain ⟨zq, hzq⟩ : ∃ z : Nat, z = 1048576 - (Rq.length + sumR Rq) := ⟨_, rfl⟩
  rw [← hzq] at HZq
  have hzdq : decide ((zq : Int) < 0) = false := decide_eq_false (by omega)
  have hzd2q : ¬ (zq : Int) < 0 := by omega
  clear hzpq
  have l1q : Rq.length ≤ 1048576 := by omega
  have l2q : ∀ r ∈ Rq, r.length ≤ 1048576 := fun r hr => by have := sumR_mem hr; omega
  have l3q : sumR Rq ≤ 1048576 := by omega
  obtain ⟨B, hB⟩ := bool_of (GoodRs Rq)
  have HSP := fun x W h => specBoundAt x Rq yy B hB W h l1q l2q
  have HIM := fun x W h => implBoundAt x Rq yy B hB W h l1q l2q
  generalize bndV B Rq yy = V1 at *
  generalize bndA B yy = B1 at *
  have hbn : (B1 != B1) = false := by cases B1 <;> rfl
  have hvn : (V1 != V1) = false := by simp
  clear hB
  have HTOq := fun x W h => toScR x Rq W h l1q l2q
  have HEAq := fun x y W h g => eqScR x y Rq W h g l1q l2q
  obtain ⟨Xq, hXq⟩ : ∃ X : Nat, X = 1 + 2 * sumR Rq := ⟨_, rfl⟩
  have HMAq := fun b v vs W h => markScR b 1 v Rq vs W h (by omega) l1q
  rw [← hXq] at HMAq
  simp only [show ((1 : Nat) : Int) = 1 from rfl] at HMAq
  have hXDEC : decide ((Xq : Int) < 0) = false := decide_eq_false (by omega)
  have hXDE2 : ¬ (Xq : Int) < 0 := by omega
  clear hXq hzq hbgq
  go_enter Try.func12, Try.ntmps12
  have k0 : Below w.heap.size w w := Below.refl _ _
  go_wp2_with fail
  refine (HZq _ (HAq.out.below k0)).mono ?_
  rintro e w1 ⟨rfl, hb1⟩
  have k1 : Below w.heap.size w w1 := k0.trans (hb1.mono k0.size)
  have sz1 : w.heap.size ≤ w1.heap.size := hb1.size
  clear hb1
  go_wp2_with fail
  refine (HTOq _ _ (HAq.out.below k1)).mono ?_
  rintro e w2 ⟨aUq, cUq, vsUq, rfl, hUq, hb2⟩
  have k2 : Below w.heap.size w w2 := k1.trans (hb2.mono k1.size)
  have sz2 : w1.heap.size ≤ w2.heap.size := hb2.size
  have HUq := hid hUq
  have RUq : Hid (∀ g ∈ fpR (.slice aUq Rq.length cUq) vsUq, w1.heap.size ≤ g ∧ g < w2.heap.size) := hUq.lt
  clear hUq
  clear hb2
  go_wp2_with fail
  refine (HSP _ _ (HUq.out.rd)).mono ?_
  rintro e w3 ⟨rfl, hb3⟩
  have k3 : Below w.heap.size w w3 := k2.trans (hb3.mono k2.size)
  have sz3 : w2.heap.size ≤ w3.heap.size := hb3.size
  replace HUq := hid (HUq.out.below hb3)
  clear hb3
  clear HUq
  go_wp2_with fail
  refine (HTOq _ _ (HAq.out.below k3)).mono ?_
  rintro e w4 ⟨aXq, cXq, vsXq, rfl, hXq, hb4⟩
  have k4 : Below w.heap.size w w4 := k3.trans (hb4.mono k3.size)
  have sz4 : w3.heap.size ≤ w4.heap.size := hb4.size
  have HXq := hid hXq
  have RXq : Hid (∀ g ∈ fpR (.slice aXq Rq.length cXq) vsXq, w3.heap.size ≤ g ∧ g < w4.heap.size) := hXq.lt
  clear hXq
  clear hb4
  go_wp2_with fail
  refine (HIM _ _ (HXq.out.rd)).mono ?_
  rintro e w5 ⟨rfl, hb5⟩
  have k5 : Below w.heap.size w w5 := k4.trans (hb5.mono k4.size)
  have sz5 : w4.heap.size ≤ w5.heap.size := hb5.size
  replace HXq := hid (HXq.out.below hb5)
  clear hb5
  go_wp2_with fail
  refine (HTOq _ _ (HAq.out.below k5)).mono ?_
  rintro e w6 ⟨aYq, cYq, vsYq, rfl, hYq, hb6⟩
  have k6 : Below w.heap.size w w6 := k5.trans (hb6.mono k5.size)
  have sz6 : w5.heap.size ≤ w6.heap.size := hb6.size
  replace HXq := hid (HXq.out.below hb6)
  have HYq := hid hYq
  have RYq : Hid (∀ g ∈ fpR (.slice aYq Rq.length cYq) vsYq, w5.heap.size ≤ g ∧ g < w6.heap.size) := hYq.lt
  clear hYq
  clear hb6
  go_wp2_with fail
  refine (HEAq _ _ _ (HXq.out.rd.at) (HYq.out.rd.at)).mono ?_
  rintro e w7 ⟨rfl, hb7⟩
  have k7 : Below w.heap.size w w7 := k6.trans (hb7.mono k6.size)
  have sz7 : w6.heap.size ≤ w7.heap.size := hb7.size
  replace HXq := hid (HXq.out.below hb7)
  replace HYq := hid (HYq.out.below hb7)
  clear hb7
  clear HYq
  go_wp2_with fail
  go_returns
  exact ⟨rfl, k7⟩
theorem own : ownKnob Try.prog.godebug = none := by kernel_rfl
theorem laidOut : laidOutB Try.prog = true := by kernel_rfl
set_option maxRecDepth 100000 in
theorem lifted (os : Os) (started : os.Started) (H : Type) (enc : TypeId × Value → H) :
    ReturnsInHanded {} Try.checked os 12 .any (Rows.fnExactBoundAtSpec.pre6 enc Try.prog Try.f12 Rows.fnExactBoundAtRow.domain false) (Rows.fnExactBoundAtSpec.post enc Try.prog Try.f12 false true false false) := by
  refine returnsInHanded_of_change (C := Try.checked) own started (by kernel_rfl) Try.func12
    (ChangeSpec.witness6 (enc := enc) (C := Try.checked) false ⟨#[], #[.slice none 0 0, .int .i64 0], []⟩ 8 (by kernel_rfl) (by kernel_rfl) (by kernel_rfl) (by kernel_rfl)) ?_
  intro W base args ds gs before hval0 hW hcnd _
  have hval : ∀ (j : Nat) t v, Try.f12.params[j]? = some t → args[j]? = some v → Value.okWide Try.prog W .any base t v := hval0
  have hW' := hW
  obtain ⟨p, q, hA0, hV, rfl, hfz, hnd⟩ := hW
  have hA : DataW.TrodAll enc Try.prog W 0 (fun _ => true) true Try.f12.params.toList args.toList ds p := hA0
  rw [Try.params12] at hA hval
  obtain ⟨v0, vs0, d0, ds0, p0, q0, hargs, rfl, rfl, h0, r0⟩ := trodAll_cons hA
  obtain ⟨v1, vs1, d1, ds1, p1, q1, rfl, rfl, rfl, h1, r1⟩ := trodAll_cons r0
  obtain ⟨rfl, rfl, rfl⟩ := trodAll_nil r1
  obtain rfl : args = #[v0, v1] := by cases args; simp_all
  obtain ⟨rfl, rfl⟩ := trodVars_none hV
  have kk0 := h0
  have lt0 : ∀ x ∈ p0, x.block < W.heap.size := by obtain ⟨m, hm⟩ := kk0; exact DataW.trod_lt m _ _ _ hm
  obtain ⟨ps0_, hss0, hre0⟩ := rws_of (hval 0 50 v0 rfl rfl) h0
  obtain ⟨a1, rfl, rfl, rfl, wa1⟩ := open_int Try.underlying3 (hval 1 3 v1 rfl rfl) h1
  clear hA0 hval0
  refine (walk _ ps0_ hre0 a1 wa1 W hss0).mono fun e W' ⟨he, bel⟩ => ?_
  subst he
  exact ⟨_, rfl, _, _, _, [], _, [], hW', trodAll_mk1 (shut_bool Try.underlying4 _), (trodAll_cons_mk (Below.trod laidOut (by kernel_rfl) (of_decide_eq_true (by kernel_rfl)) kk0 bel lt0) (trodAll_cons_mk (shut_int Try.underlying3 wa1) trodAll_mk0)), rfl, bel.frame _, fun h => by cases h⟩

theorem over : Rows.fnExactBoundAtRow.holds Try.pinned (OpenSpec.ofChange Rows.fnExactBoundAtSpec) :=
  OpenClaim.holds_of_wide 12 Try.f12 rfl rfl rfl rfl rfl rfl rfl ⟨rfl, rfl, rfl, rfl, rfl⟩ rfl rfl rfl rfl rfl (by kernel_rfl) Try.func12 (by kernel_rfl)
    (of_decide_eq_true (by kernel_rfl)) (by unfold Func.isWrapper; first | (rw [if_pos (by decide +kernel)]; kernel_rfl) | (rw [if_neg (by decide +kernel)]; exact ⟨rfl, rfl⟩))
    (fun os started H enc _ => lifted os started H enc)
end Go.Proofs.Ythdodlbhkpoadaa.fnExactBoundAt
namespace Go.Proofs.Ythdodlbhkpoadaa
theorem fnExactBoundAt_holds : Rows.FnExactBoundAtSaid := fnExactBoundAt.over
#print axioms fnExactBoundAt_holds
end Go.Proofs.Ythdodlbhkpoadaa
