/- At every list of scores the function FnExactGoodRow returns true and leaves its argument as it was: GoodRow answers as its model does. No condition. -/
import Derived.Test.YthdodlbhkpoadaaScX
import Derived.Test.YthdodlbhkpoadaaGoodS
import Derived.Test.YthdodlbhkpoadaaRwB
import Derived.Lib.SmallJoins
namespace Go.Proofs.Ythdodlbhkpoadaa.fnExactGoodRow
open Go.ChangeShapes Go.WideShapes Go.ChangeAt Go.RowKit Go.Joins Go.Deep
open Go.ChangeMaps (open_string shut_string)
set_option linter.unusedVariables false
attribute [local go_sem ↓] Go.wp_at_zero Go.wp_at_succ

set_option maxRecDepth 100000 in
set_option maxHeartbeats 12800000 in
theorem walk (xq : Value) (lq : List Sc) (hmq : lq.length ≤ maxLen) (w : World) (hxq : ScsAt w xq lq) :
    Calls Try.prog 5 #[xq] w fun e w' => e = .returned (.bool true) ∧ Below w.heap.size w w' := by
  have HAq := hid hxq
  obtain ⟨aq, cq, hveq⟩ := hxq.slice
  subst hveq
  clear hxq
  have HZq := fun W h => szScB (.slice aq lq.length cq) lq 1048576 W h (by omega) hmq
  simp only [show ((1048576 : Nat) : Int) = 1048576 from rfl] at HZq
  by_cases hbgq : 1048576 < lq.length
  · have hzn : szS 1048576 lq.length = -1 := by unfold szS; rw [if_neg (by omega)]
    rw [hzn] at HZq
    clear hzn hbgq
    go_enter Try.func5, Try.ntmps5
    have k0 : Below w.heap.size w w := Below.refl _ _
    go_wp2_with fail
    refine (HZq _ (HAq.out.below k0)).mono ?_
    rintro e w1 ⟨rfl, hb1⟩
    have k1 : Below w.heap.size w w1 := k0.trans (hb1.mono k0.size)
    have sz1 : w.heap.size ≤ w1.heap.size := hb1.size
    clear hb1
    go_wp2
    go_returns
    exact ⟨rfl, k1⟩
  have hzpq : szS 1048576 lq.length = ((1048576 - lq.length : Nat) : Int) := by unfold szS; rw [if_pos (by omega)]
  rw [hzpq] at HZq
  obtain ⟨zq, hzq⟩ : ∃ z : Nat, z = 1048576 - lq.length := ⟨_, rfl⟩
  rw [← hzq] at HZq
  have hzdq : decide ((zq : Int) < 0) = false := decide_eq_false (by omega)
  have hzd2q : ¬ (zq : Int) < 0 := by omega
  clear hzpq
  have l1q : lq.length ≤ 1048576 := by omega
  obtain ⟨B, hB⟩ := bool_of (GoodR lq)
  have HSP := fun x W h => specGood x lq B hB W h l1q
  have HIM := fun x W h => implGood x lq B hB W h l1q
  have hbn : (B != B) = false := by cases B <;> rfl
  clear hB
  have HTOq := fun x W h => toScS x lq W h l1q
  have HEAq := fun x y W h g => eqScS x y lq W h g l1q
  obtain ⟨Xq, hXq⟩ : ∃ X : Nat, X = 1 + 2 * lq.length := ⟨_, rfl⟩
  have HMAq := fun b v W h => markScS b 1 v lq W h (by omega)
  rw [← hXq] at HMAq
  simp only [show ((1 : Nat) : Int) = 1 from rfl] at HMAq
  have hXDEC : decide ((Xq : Int) < 0) = false := decide_eq_false (by omega)
  have hXDE2 : ¬ (Xq : Int) < 0 := by omega
  clear hXq hzq hbgq
  go_enter Try.func5, Try.ntmps5
  have k0 : Below w.heap.size w w := Below.refl _ _
  go_wp2_with fail
  refine (HZq _ (HAq.out.below k0)).mono ?_
  rintro e w1 ⟨rfl, hb1⟩
  have k1 : Below w.heap.size w w1 := k0.trans (hb1.mono k0.size)
  have sz1 : w.heap.size ≤ w1.heap.size := hb1.size
  clear hb1
  go_wp2_with fail
  refine (HTOq _ _ (HAq.out.below k1)).mono ?_
  rintro e w2 ⟨aUq, cUq, rfl, hUq, hb2⟩
  have k2 : Below w.heap.size w w2 := k1.trans (hb2.mono k1.size)
  have sz2 : w1.heap.size ≤ w2.heap.size := hb2.size
  have HUq := hid hUq
  have RUq : Hid (∀ g ∈ hbl (.slice aUq lq.length cUq), w1.heap.size ≤ g ∧ g < w2.heap.size) := hUq.lt
  clear hUq
  clear hb2
  go_wp2_with fail
  refine (HSP _ _ (HUq.out.rd)).mono ?_
  rintro e w3 ⟨rfl, hb3⟩
  have k3 : Below w.heap.size w w3 := k2.trans (hb3.mono k2.size)
  have sz3 : w2.heap.size ≤ w3.heap.size := hb3.size
  replace HUq := hid (HUq.out.below hb3)
  clear hb3
  clear HUq
  go_wp2_with fail
  refine (HTOq _ _ (HAq.out.below k3)).mono ?_
  rintro e w4 ⟨aXq, cXq, rfl, hXq, hb4⟩
  have k4 : Below w.heap.size w w4 := k3.trans (hb4.mono k3.size)
  have sz4 : w3.heap.size ≤ w4.heap.size := hb4.size
  have HXq := hid hXq
  have RXq : Hid (∀ g ∈ hbl (.slice aXq lq.length cXq), w3.heap.size ≤ g ∧ g < w4.heap.size) := hXq.lt
  clear hXq
  clear hb4
  go_wp2_with fail
  refine (HIM _ _ (HXq.out.rd)).mono ?_
  rintro e w5 ⟨rfl, hb5⟩
  have k5 : Below w.heap.size w w5 := k4.trans (hb5.mono k4.size)
  have sz5 : w4.heap.size ≤ w5.heap.size := hb5.size
  replace HXq := hid (HXq.out.below hb5)
  clear hb5
  go_wp2_with fail
  refine (HTOq _ _ (HAq.out.below k5)).mono ?_
  rintro e w6 ⟨aYq, cYq, rfl, hYq, hb6⟩
  have k6 : Below w.heap.size w w6 := k5.trans (hb6.mono k5.size)
  have sz6 : w5.heap.size ≤ w6.heap.size := hb6.size
  replace HXq := hid (HXq.out.below hb6)
  have HYq := hid hYq
  have RYq : Hid (∀ g ∈ hbl (.slice aYq lq.length cYq), w5.heap.size ≤ g ∧ g < w6.heap.size) := hYq.lt
  clear hYq
  clear hb6
  go_wp2_with fail
  refine (HEAq _ _ _ (HXq.out.at) (HYq.out.at)).mono ?_
  rintro e w7 ⟨rfl, hb7⟩
  have k7 : Below w.heap.size w w7 := k6.trans (hb7.mono k6.size)
  have sz7 : w6.heap.size ≤ w7.heap.size := hb7.size
  replace HXq := hid (HXq.out.below hb7)
  replace HYq := hid (HYq.out.below hb7)
  clear hb7
  clear HYq
  go_wp2_with fail
  go_returns
  exact ⟨rfl, k7⟩
theorem own : ownKnob Try.prog.godebug = none := by kernel_rfl
theorem laidOut : laidOutB Try.prog = true := by kernel_rfl
set_option maxRecDepth 100000 in
theorem lifted (os : Os) (started : os.Started) (H : Type) (enc : TypeId × Value → H) :
    ReturnsInHanded {} Try.checked os 5 .any (Rows.fnExactGoodRowSpec.pre6 enc Try.prog Try.f5 Rows.fnExactGoodRowRow.domain false) (Rows.fnExactGoodRowSpec.post enc Try.prog Try.f5 false true false false) := by
  refine returnsInHanded_of_change (C := Try.checked) own started (by kernel_rfl) Try.func5
    (ChangeSpec.witness6 (enc := enc) (C := Try.checked) false ⟨#[], #[.slice none 0 0], []⟩ 8 (by kernel_rfl) (by kernel_rfl) (by kernel_rfl) (by kernel_rfl)) ?_
  intro W base args ds gs before hval0 hW hcnd _
  have hval : ∀ (j : Nat) t v, Try.f5.params[j]? = some t → args[j]? = some v → Value.okWide Try.prog W .any base t v := hval0
  have hW' := hW
  obtain ⟨p, q, hA0, hV, rfl, hfz, hnd⟩ := hW
  have hA : DataW.TrodAll enc Try.prog W 0 (fun _ => true) true Try.f5.params.toList args.toList ds p := hA0
  rw [Try.params5] at hA hval
  obtain ⟨v0, vs0, d0, ds0, p0, q0, hargs, rfl, rfl, h0, r0⟩ := trodAll_cons hA
  obtain ⟨rfl, rfl, rfl⟩ := trodAll_nil r0
  obtain rfl : args = #[v0] := by cases args; simp_all
  obtain ⟨rfl, rfl⟩ := trodVars_none hV
  have kk0 := h0
  have lt0 : ∀ x ∈ p0, x.block < W.heap.size := by obtain ⟨m, hm⟩ := kk0; exact DataW.trod_lt m _ _ _ hm
  obtain ⟨ps0_, hss0, hre0⟩ := scs_of (hval 0 46 v0 rfl rfl) h0
  clear hA0 hval0
  refine (walk _ ps0_ hre0 W hss0).mono fun e W' ⟨he, bel⟩ => ?_
  subst he
  exact ⟨_, rfl, _, _, _, [], _, [], hW', trodAll_mk1 (shut_bool Try.underlying4 _), (trodAll_cons_mk (Below.trod laidOut (by kernel_rfl) (of_decide_eq_true (by kernel_rfl)) kk0 bel lt0) trodAll_mk0), rfl, bel.frame _, fun h => by cases h⟩

theorem over : Rows.fnExactGoodRowRow.holds Try.pinned (OpenSpec.ofChange Rows.fnExactGoodRowSpec) :=
  OpenClaim.holds_of_wide 5 Try.f5 rfl rfl rfl rfl rfl rfl rfl ⟨rfl, rfl, rfl, rfl, rfl⟩ rfl rfl rfl rfl rfl (by kernel_rfl) Try.func5 (by kernel_rfl)
    (of_decide_eq_true (by kernel_rfl)) (by unfold Func.isWrapper; first | (rw [if_pos (by decide +kernel)]; kernel_rfl) | (rw [if_neg (by decide +kernel)]; exact ⟨rfl, rfl⟩))
    (fun os started H enc _ => lifted os started H enc)
end Go.Proofs.Ythdodlbhkpoadaa.fnExactGoodRow
namespace Go.Proofs.Ythdodlbhkpoadaa
theorem fnExactGoodRow_holds : Rows.FnExactGoodRowSaid := fnExactGoodRow.over
#print axioms fnExactGoodRow_holds
end Go.Proofs.Ythdodlbhkpoadaa
