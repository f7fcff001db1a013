/- At every packed list the function FnExactBitsIn returns true and leaves its argument as it was: BitsIn answers as its model does. No condition. -/
import Derived.Test.YtaafdcghafbfhaaPkArg
import Derived.Test.YtaafdcghafbfhaaSpecW
import Derived.Test.YtaafdcghafbfhaaListW
import Derived.Lib.SmallJoins
namespace Go.Proofs.Ytaafdcghafbfhaa.fnExactBitsIn
open Go.ChangeShapes Go.WideShapes Go.ChangeAt Go.RowKit Go.Joins
open Go.ChangeMaps (open_string shut_string)
set_option linter.unusedVariables false
attribute [local go_sem ↓] Go.wp_at_zero Go.wp_at_succ
theorem hide {p : Prop} (h : p) : Hid p := h
theorem unhide {p : Prop} (h : Hid p) : p := h

set_option maxRecDepth 100000 in
set_option maxHeartbeats 6400000 in
theorem walk (p : Pk) (lv hv : Value) (hm : ReP p) (w : World) (hp : PkAt w lv hv p) :
    Calls Try.prog 10 #[.agg #[.int .i64 p.many, .int .i64 p.low, lv, hv]] w fun e w' => e = .returned (.bool true) ∧ Below w.heap.size w w' := by
  have HS := hide hp
  have HK : Hid (Below w.heap.size w w) := Below.refl _ _
  obtain ⟨la, lc, hle⟩ := hp.1.slice
  subst hle
  obtain ⟨ha, hc, hhe⟩ := hp.2.slice
  subst hhe
  clear hp
  by_cases hbig : 1048576 < amountP p
  · have HZ := fun M L W => szPkNo p la ha lc hc M L 1048576 W (by omega) hm.1 hm.2 hbig
    simp only [show ((1048576 : Nat) : Int) = 1048576 from rfl] at HZ
    obtain ⟨M, hM⟩ : ∃ M, M = p.many := ⟨_, rfl⟩
    obtain ⟨L, hL⟩ : ∃ L, L = p.low := ⟨_, rfl⟩
    rw [← hM, ← hL]
    clear hM hL
    go_enter Try.func10, Try.ntmps10
    go_wp2_with fail
    refine (HZ _ _ _).mono ?_
    rintro e w1 ⟨rfl, hx1⟩
    have hb1 : Below w.heap.size w w1 := Below.trans (by go_grown) (hx1.mono (by go_size))
    replace HS := hide ((unhide HS).below hb1)
    replace HK := hide ((unhide HK).trans (hb1.mono (unhide HK).size))
    have hfin := unhide HK
    go_wp2
    go_returns
    exact ⟨rfl, hfin⟩
  have HZ := fun M L W => szPkYes p la ha lc hc M L 1048576 W (by omega) hm.1 hm.2 (by omega)
  simp only [show ((1048576 : Nat) : Int) = 1048576 from rfl] at HZ
  have l1 : p.lows.length ≤ 1048576 := by unfold amountP at hbig; omega
  have l2 : p.high.length ≤ 1048576 := by unfold amountP at hbig; omega
  obtain ⟨B, A, hA⟩ := ans_ex p
  have HSP := fun a b W h => specBits p B A hA a b W h l1 l2
  have HIM := fun a b W h => implBits p B A hA a b W h l1 l2
  have HTO : ∀ a b W, PkAt W a b p → Calls Try.prog 45 #[.agg #[.int .i64 p.many, .int .i64 p.low, a, b]] W fun e w' => ∃ ku vu, e = .returned (.agg #[.int .i64 p.many, .int .i64 p.low, ku, vu]) ∧ PkAt w' ku vu p ∧ Below W.heap.size W w' := fun a b W h => (toPk p a b W h l1 l2).mono (fun e w' h => by
    obtain ⟨g, q, h1, h2, h3⟩ := h
    exact ⟨_, _, h1, h2.at _ _, h3⟩)
  have HEQ := fun a b c d W h g => eqPk p a b c d W h g l1 l2
  have hbn : (B != B) = false := by cases B <;> rfl
  have hvn : (bitsI B p != bitsI B p) = false := by simp
  generalize bitsI B p = V at *
  obtain ⟨M, hM⟩ : ∃ M, M = p.many := ⟨_, rfl⟩
  obtain ⟨L, hL⟩ : ∃ L, L = p.low := ⟨_, rfl⟩
  rw [← hM, ← hL] at HSP HIM HTO HEQ
  rw [← hM, ← hL]
  clear hM hL hA hm l1 l2 hbig
  generalize 1048576 - amountP p = z at *
  have hz : ¬ (z : Int) < 0 := by omega
  go_enter Try.func10, Try.ntmps10
  go_wp2_with fail
  refine (HZ _ _ _).mono ?_
  rintro e w1 ⟨rfl, hx1⟩
  have hb1 : Below w.heap.size w w1 := Below.trans (by go_grown) (hx1.mono (by go_size))
  replace HS := hide ((unhide HS).below hb1)
  replace HK := hide ((unhide HK).trans (hb1.mono (unhide HK).size))
  have qBX := boxOf1 hx1
  have BX := hide qBX
  clear qBX
  have BXz := (unhide BX).1
  have BXc0 := (unhide BX).2.1 0 _ rfl
  have BXc1 := (unhide BX).2.1 1 _ rfl
  have BXc2 := (unhide BX).2.1 2 _ rfl
  have BXc3 := (unhide BX).2.1 3 _ rfl
  go_wp2_with fail
  refine (HTO _ _ _ (unhide HS)).mono ?_
  rintro e w2 ⟨u1, u2, rfl, hu, hx2⟩
  have hb2 : Below w1.heap.size w1 w2 := Below.trans (by go_grown) (hx2.mono (by go_size))
  replace HS := hide ((unhide HS).below hb2)
  (try clear BXz BXc0 BXc1 BXc2 BXc3)
  replace BX := hide ((unhide BX).below hb2)
  have BXz := (unhide BX).1
  have BXc0 := (unhide BX).2.1 0 _ rfl
  have BXc1 := (unhide BX).2.1 1 _ rfl
  have BXc2 := (unhide BX).2.1 2 _ rfl
  have BXc3 := (unhide BX).2.1 3 _ rfl
  replace HK := hide ((unhide HK).trans (hb2.mono (unhide HK).size))
  have HU := hide hu
  obtain ⟨_, _, hz1⟩ := hu.1.slice
  subst hz1
  obtain ⟨_, _, hz2⟩ := hu.2.slice
  subst hz2
  clear hu hx1 hb1
  go_wp2_with fail
  refine (HSP _ _ _ (unhide HU)).mono ?_
  rintro e w3 ⟨rfl, hx3⟩
  have hb3 : Below w2.heap.size w2 w3 := Below.trans (by go_grown) (hx3.mono (by go_size))
  replace HS := hide ((unhide HS).below hb3)
  (try clear BXz BXc0 BXc1 BXc2 BXc3)
  replace BX := hide ((unhide BX).below hb3)
  have BXz := (unhide BX).1
  have BXc0 := (unhide BX).2.1 0 _ rfl
  have BXc1 := (unhide BX).2.1 1 _ rfl
  have BXc2 := (unhide BX).2.1 2 _ rfl
  have BXc3 := (unhide BX).2.1 3 _ rfl
  replace HK := hide ((unhide HK).trans (hb3.mono (unhide HK).size))
  clear HU hx2 hb2
  go_wp2_with fail
  refine (HTO _ _ _ (unhide HS)).mono ?_
  rintro e w4 ⟨x1, x2, rfl, hx, hx4⟩
  have hb4 : Below w3.heap.size w3 w4 := Below.trans (by go_grown) (hx4.mono (by go_size))
  replace HS := hide ((unhide HS).below hb4)
  (try clear BXz BXc0 BXc1 BXc2 BXc3)
  replace BX := hide ((unhide BX).below hb4)
  have BXz := (unhide BX).1
  have BXc0 := (unhide BX).2.1 0 _ rfl
  have BXc1 := (unhide BX).2.1 1 _ rfl
  have BXc2 := (unhide BX).2.1 2 _ rfl
  have BXc3 := (unhide BX).2.1 3 _ rfl
  replace HK := hide ((unhide HK).trans (hb4.mono (unhide HK).size))
  have HX := hide hx
  obtain ⟨xa1, xc1, hz1⟩ := hx.1.slice
  subst hz1
  obtain ⟨xa2, xc2, hz2⟩ := hx.2.slice
  subst hz2
  clear hx hx3 hb3
  go_wp2_with fail
  refine (HIM _ _ _ ((unhide HX).below (by go_grown))).mono ?_
  rintro e w5 ⟨rfl, hx5⟩
  have hb5 : Below w4.heap.size w4 w5 := Below.trans (by go_grown) (hx5.mono (by go_size))
  replace HS := hide ((unhide HS).below hb5)
  (try clear BXz BXc0 BXc1 BXc2 BXc3)
  replace BX := hide ((unhide BX).below hb5)
  have BXz := (unhide BX).1
  have BXc0 := (unhide BX).2.1 0 _ rfl
  have BXc1 := (unhide BX).2.1 1 _ rfl
  have BXc2 := (unhide BX).2.1 2 _ rfl
  have BXc3 := (unhide BX).2.1 3 _ rfl
  replace HX := hide ((unhide HX).below hb5)
  replace HK := hide ((unhide HK).trans (hb5.mono (unhide HK).size))
  have qBY := boxOf1 hx5
  have BY := hide qBY
  clear qBY
  have BYz := (unhide BY).1
  have BYc0 := (unhide BY).2.1 0 _ rfl
  have BYc1 := (unhide BY).2.1 1 _ rfl
  have BYc2 := (unhide BY).2.1 2 _ rfl
  have BYc3 := (unhide BY).2.1 3 _ rfl
  clear hx4 hb4
  clear hx5 hb5
  go_upto_region 10 with fail
  go_region_held3 (fun w' => (w'.cell? ⟨w.heap.size, 0, none⟩ = some (.int .i64 M) ∧ w'.cell? ⟨w.heap.size, 1, none⟩ = some (.int .i64 L) ∧ w'.cell? ⟨w.heap.size, 2, none⟩ = some (.slice la p.lows.length lc) ∧ w'.cell? ⟨w.heap.size, 3, none⟩ = some (.slice ha p.high.length hc)) ∧ w'.cell? ⟨w4.heap.size, 0, none⟩ = some (.int .i64 M) ∧ w'.cell? ⟨w4.heap.size, 1, none⟩ = some (.int .i64 L) ∧ w'.cell? ⟨w4.heap.size, 2, none⟩ = some (.slice xa1 p.lows.length xc1) ∧ w'.cell? ⟨w4.heap.size, 3, none⟩ = some (.slice xa2 p.high.length xc2)) (first | go_keep | trivial)
    (first
      | (go_at_call 45; refine (HTO _ _ _ ((unhide HS).below (by go_grown))).mono ?_; rintro e w6 ⟨y1, y2, rfl, hy, hx6⟩; have hp6 := kept hx6 w.heap.size (by go_size); have hq6 := kept hx6 w4.heap.size (by go_size); have k6 : Below w5.heap.size w5 w6 := (by exact Below.trans (by go_grown) (hx6.mono (by go_size))); have HY := hide hy; have HX3 := hide ((unhide HX).below k6); have kz6 := k6.size; obtain ⟨_, _, hz1⟩ := hy.1.slice; subst hz1; obtain ⟨_, _, hz2⟩ := hy.2.slice; subst hz2; clear hx6 hy)
      | (go_at_call 38; refine (HEQ _ _ _ _ _ ((unhide HX3).below (by go_grown)) ((unhide HY).below (by go_grown))).mono ?_; rintro e w7 ⟨rfl, hx7⟩; have hp7 := kept hx7 w.heap.size (by omega); have hq7 := kept hx7 w4.heap.size (by omega); have k7 : Below w5.heap.size w5 w7 := (by exact k6.trans (hx7.mono (by omega))); have kz7 := k7.size; clear hx7))
  all_goals
    have hfin := (unhide HK).trans (k7.mono (unhide HK).size)
    go_wp2_with fail
    go_returns
    exact ⟨rfl, hfin⟩

theorem own : ownKnob Try.prog.godebug = none := by kernel_rfl
theorem laidOut : laidOutB Try.prog = true := by kernel_rfl
theorem cellsPacked : Try.prog.cellsOf 55 = 4 := by kernel_rfl
set_option maxRecDepth 100000 in
theorem lifted (os : Os) (started : os.Started) (H : Type) (enc : TypeId × Value → H) :
    ReturnsInHanded {} Try.checked os 10 .any (Rows.fnExactBitsInSpec.pre6 enc Try.prog Try.f10 Rows.fnExactBitsInRow.domain false) (Rows.fnExactBitsInSpec.post enc Try.prog Try.f10 false true false false) := by
  refine returnsInHanded_of_change (C := Try.checked) own started (by kernel_rfl) Try.func10
    (ChangeSpec.witness6 (enc := enc) (C := Try.checked) false ⟨#[], #[.agg #[.int .i64 0, .int .i64 0, .slice none 0 0, .slice none 0 0]], []⟩ 8 (by kernel_rfl) (by kernel_rfl) (by kernel_rfl) (by kernel_rfl)) ?_
  intro W base args ds gs before hval0 hW hcnd _
  have hval : ∀ (j : Nat) t v, Try.f10.params[j]? = some t → args[j]? = some v → Value.okWide Try.prog W .any base t v := hval0
  have hW' := hW
  obtain ⟨p, q, hA0, hV, rfl, hfz, hnd⟩ := hW
  have hA : DataW.TrodAll enc Try.prog W 0 (fun _ => true) true Try.f10.params.toList args.toList ds p := hA0
  rw [Try.params10] at hA hval
  obtain ⟨v0, vs0, d0, ds0, p0, q0, hargs, rfl, rfl, h0, r0⟩ := trodAll_cons hA
  obtain ⟨rfl, rfl, rfl⟩ := trodAll_nil r0
  obtain rfl : args = #[v0] := by cases args; simp_all
  obtain ⟨rfl, rfl⟩ := trodVars_none hV
  have kk0 := h0
  have lt0 : ∀ x ∈ p0, x.block < W.heap.size := by obtain ⟨m, hm⟩ := kk0; exact DataW.trod_lt m _ _ _ hm
  obtain ⟨c00, c01, c02, c03, y00, y01, y02, y03, m0, rfl, rfl, rfl, hy00, hy01, hy02, hy03⟩ := open_agg4 Try.underlying55 (by kernel_rfl) cellsPacked (hval 0 55 v0 rfl rfl) h0
  obtain ⟨a0, e00, x00, wa0⟩ := DataW.trod_int Try.underlying3 hy00
  obtain ⟨b0, e01, x01, wb0⟩ := DataW.trod_int Try.underlying3 hy01
  simp at e00 e01
  subst e00 e01
  obtain ⟨ks0, hks0, hkl0⟩ := ints_of1 hy02
  obtain ⟨us0, hus0, hul0⟩ := bools_of1 hy03
  have hss0 : PkAt W c02 c03 ⟨a0, b0, ks0, us0⟩ := ⟨hks0, hus0⟩
  clear hA0 hval0
  refine (walk ⟨a0, b0, ks0, us0⟩ c02 c03 ⟨hkl0, hul0⟩ W hss0).mono fun e W' ⟨he, bel⟩ => ?_
  subst he
  exact ⟨_, rfl, _, _, _, [], _, [], hW', trodAll_mk1 (shut_bool Try.underlying4 _), (trodAll_cons_mk (Below.trod laidOut (by kernel_rfl) (of_decide_eq_true (by kernel_rfl)) kk0 bel lt0) trodAll_mk0), rfl, bel.frame _, fun h => by cases h⟩

theorem over : Rows.fnExactBitsInRow.holds Try.pinned (OpenSpec.ofChange Rows.fnExactBitsInSpec) :=
  OpenClaim.holds_of_wide 10 Try.f10 rfl rfl rfl rfl rfl rfl rfl ⟨rfl, rfl, rfl, rfl, rfl⟩ rfl rfl rfl rfl rfl (by kernel_rfl) Try.func10 (by kernel_rfl)
    (of_decide_eq_true (by kernel_rfl)) (by unfold Func.isWrapper; first | (rw [if_pos (by decide +kernel)]; kernel_rfl) | (rw [if_neg (by decide +kernel)]; exact ⟨rfl, rfl⟩))
    (fun os started H enc _ => lifted os started H enc)
end Go.Proofs.Ytaafdcghafbfhaa.fnExactBitsIn
namespace Go.Proofs.Ytaafdcghafbfhaa
theorem fnExactBitsIn_holds : Rows.FnExactBitsInSaid := fnExactBitsIn.over
#print axioms fnExactBitsIn_holds
end Go.Proofs.Ytaafdcghafbfhaa
