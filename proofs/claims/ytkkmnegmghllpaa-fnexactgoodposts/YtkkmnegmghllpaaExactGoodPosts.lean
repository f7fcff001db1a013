/- At every list of posts the function FnExactGoodPosts returns true and leaves its argument as it was: GoodPosts answers as its model does. No condition. -/
import Derived.Test.YtkkmnegmghllpaaImplGP
import Derived.Test.YtkkmnegmghllpaaPostX
import Derived.Lib.SmallJoins
namespace Go.Proofs.Ytkkmnegmghllpaa.fnExactGoodPosts
open Go.ChangeShapes Go.WideShapes Go.ChangeAt Go.RowKit Go.Joins Go.Deep
open Go.ChangeMaps (open_string shut_string)
set_option linter.unusedVariables false
attribute [local go_sem ↓] Go.wp_at_zero Go.wp_at_succ

set_option maxRecDepth 100000 in
set_option maxHeartbeats 6400000 in
theorem walk (x : Value) (ps : List Po) (hm : RePs ps) (w : World) (hx : PosAt w x ps) :
    Calls Try.prog 11 #[x] w fun e w' => e = .returned (.bool true) ∧ Below w.heap.size w w' := by
  have HX := hid hx
  have HZ := fun W h => szPos x ps 1048576 W h (Nat.le_refl _) hm
  simp only [show ((1048576 : Nat) : Int) = 1048576 from rfl] at HZ
  obtain ⟨xa, xc, rfl⟩ := hx.slice
  clear hx
  by_cases hbig : 1048576 < ps.length + sumL ps
  · have hz : szRPo 1048576 ps = -1 := by unfold szRPo; rw [if_neg (by omega)]
    rw [hz] at HZ
    clear hz hbig
    go_enter Try.func11, Try.ntmps11
    go_wp2_with fail
    refine (HZ _ HX.out).mono ?_
    rintro e w1 ⟨rfl, hb1⟩
    go_wp2
    go_returns
    exact ⟨rfl, hb1⟩
  have hz : szRPo 1048576 ps = ((1048576 - (ps.length + sumL ps) : Nat) : Int) := by unfold szRPo; rw [if_pos (by omega)]
  rw [hz] at HZ
  have l1 : ps.length ≤ 1048576 := by omega
  have l2 : ∀ p ∈ ps, p.2.length ≤ 1048576 := fun p hp => by have := sumL_mem hp; omega
  obtain ⟨B, hB⟩ : ∃ B : Bool, B = true ↔ GoodP ps := by
    by_cases hq : GoodP ps
    · exact ⟨true, ⟨fun _ => hq, fun _ => rfl⟩⟩
    · exact ⟨false, ⟨fun h => (by cases h), fun h => absurd h hq⟩⟩
  have HSP := fun x W h => specGP x ps B hB W h l1 l2
  have HIM := fun x W h => implGP x ps B hB W h l1 l2
  have HTO := fun x W h => toPos x ps W h l1 l2
  have HEQ := fun x y W h g => eqPos x y ps W h g l1 l2
  have hbn : (B != B) = false := by cases B <;> rfl
  generalize 1048576 - (ps.length + sumL ps) = z at *
  have hz0 : decide ((z : Int) < 0) = false := decide_eq_false (by omega)
  clear hz hB hbig hm
  go_enter Try.func11, Try.ntmps11
  go_wp2_with fail
  refine (HZ _ HX.out).mono ?_
  rintro e w1 ⟨rfl, hb1⟩
  have k1 := hb1
  replace HX := hid (HX.out.below hb1)
  clear hb1 HZ
  go_wp2_with fail
  refine (HTO _ _ HX.out).mono ?_
  rintro e w2 ⟨y, pl, rfl, hy, hb2⟩
  have k2 := k1.trans (hb2.mono k1.size)
  replace HX := hid (HX.out.below hb2)
  have HY := hid hy.at
  clear hb2 hy
  go_wp2_with fail
  refine (HSP _ _ HY.out).mono ?_
  rintro e w3 ⟨rfl, hb3⟩
  have k3 := k2.trans (hb3.mono k2.size)
  replace HX := hid (HX.out.below hb3)
  clear hb3 HY
  go_wp2_with fail
  refine (HTO _ _ HX.out).mono ?_
  rintro e w4 ⟨y4, pl4, rfl, hy4, hb4⟩
  have k4 := k3.trans (hb4.mono k3.size)
  replace HX := hid (HX.out.below hb4)
  have HY4 := hid hy4.at
  obtain ⟨va, vc, hve⟩ := hy4.slice
  subst hve
  clear hb4 hy4
  go_wp2_with fail
  refine (HIM _ _ HY4.out).mono ?_
  rintro e w5 ⟨rfl, hb5⟩
  have k5 := k4.trans (hb5.mono k4.size)
  replace HX := hid (HX.out.below hb5)
  replace HY4 := hid (HY4.out.below hb5)
  clear hb5
  go_wp2_with fail
  refine (HTO _ _ HX.out).mono ?_
  rintro e w6 ⟨y6, pl6, rfl, hy6, hb6⟩
  have k6 := k5.trans (hb6.mono k5.size)
  replace HY4 := hid (HY4.out.below hb6)
  have HY6 := hid hy6.at
  obtain ⟨vb, vd, hve⟩ := hy6.slice
  subst hve
  clear hb6 hy6
  go_wp2_with fail
  refine (HEQ _ _ _ HY4.out HY6.out).mono ?_
  rintro e w7 ⟨rfl, hb7⟩
  have k7 := k6.trans (hb7.mono k6.size)
  clear hb7
  go_wp2
  go_returns
  exact ⟨rfl, k7⟩
theorem own : ownKnob Try.prog.godebug = none := by kernel_rfl
theorem laidOut : laidOutB Try.prog = true := by kernel_rfl
set_option maxRecDepth 100000 in
theorem lifted (os : Os) (started : os.Started) (H : Type) (enc : TypeId × Value → H) :
    ReturnsInHanded {} Try.checked os 11 .any (Rows.fnExactGoodPostsSpec.pre6 enc Try.prog Try.f11 Rows.fnExactGoodPostsRow.domain false) (Rows.fnExactGoodPostsSpec.post enc Try.prog Try.f11 false true false false) := by
  refine returnsInHanded_of_change (C := Try.checked) own started (by kernel_rfl) Try.func11
    (ChangeSpec.witness6 (enc := enc) (C := Try.checked) false ⟨#[], #[.slice none 0 0], []⟩ 8 (by kernel_rfl) (by kernel_rfl) (by kernel_rfl) (by kernel_rfl)) ?_
  intro W base args ds gs before hval0 hW hcnd _
  have hval : ∀ (j : Nat) t v, Try.f11.params[j]? = some t → args[j]? = some v → Value.okWide Try.prog W .any base t v := hval0
  have hW' := hW
  obtain ⟨p, q, hA0, hV, rfl, hfz, hnd⟩ := hW
  have hA : DataW.TrodAll enc Try.prog W 0 (fun _ => true) true Try.f11.params.toList args.toList ds p := hA0
  rw [Try.params11] at hA hval
  obtain ⟨v0, vs0, d0, ds0, p0, q0, hargs, rfl, rfl, h0, r0⟩ := trodAll_cons hA
  obtain ⟨rfl, rfl, rfl⟩ := trodAll_nil r0
  obtain rfl : args = #[v0] := by cases args; simp_all
  obtain ⟨rfl, rfl⟩ := trodVars_none hV
  have kk0 := h0
  have lt0 : ∀ x ∈ p0, x.block < W.heap.size := by obtain ⟨m, hm⟩ := kk0; exact DataW.trod_lt m _ _ _ hm
  obtain ⟨ps0_, hss0, hre0⟩ := pos_of (hval 0 62 v0 rfl rfl) h0
  clear hA0 hval0
  refine (walk _ ps0_ hre0 W hss0).mono fun e W' ⟨he, bel⟩ => ?_
  subst he
  exact ⟨_, rfl, _, _, _, [], _, [], hW', trodAll_mk1 (shut_bool Try.underlying4 _), (trodAll_cons_mk (Below.trod laidOut (by kernel_rfl) (of_decide_eq_true (by kernel_rfl)) kk0 bel lt0) trodAll_mk0), rfl, bel.frame _, fun h => by cases h⟩

theorem over : Rows.fnExactGoodPostsRow.holds Try.pinned (OpenSpec.ofChange Rows.fnExactGoodPostsSpec) :=
  OpenClaim.holds_of_wide 11 Try.f11 rfl rfl rfl rfl rfl rfl rfl ⟨rfl, rfl, rfl, rfl, rfl⟩ rfl rfl rfl rfl rfl (by kernel_rfl) Try.func11 (by kernel_rfl)
    (of_decide_eq_true (by kernel_rfl)) (by unfold Func.isWrapper; first | (rw [if_pos (by decide +kernel)]; kernel_rfl) | (rw [if_neg (by decide +kernel)]; exact ⟨rfl, rfl⟩))
    (fun os started H enc _ => lifted os started H enc)
end Go.Proofs.Ytkkmnegmghllpaa.fnExactGoodPosts
namespace Go.Proofs.Ytkkmnegmghllpaa
theorem fnExactGoodPosts_holds : Rows.FnExactGoodPostsSaid := fnExactGoodPosts.over
#print axioms fnExactGoodPosts_holds
end Go.Proofs.Ytkkmnegmghllpaa
