/- At every tree and two texts the function FnExactCountIn returns true and leaves its arguments as they were: CountIn answers as its model does. No condition. -/
import Derived.Test.YtmmccjdkafojgaaTreeArg
import Derived.Test.YtmmccjdkafojgaaRangeX
import Derived.Test.YtmmccjdkafojgaaRangeS
namespace Go.Proofs.Ytmmccjdkafojgaa.fnExactCountIn
open Go.ChangeShapes Go.WideShapes Go.ChangeAt Go.RowKit Go.Joins
open Go.ChangeMaps (open_string shut_string)
set_option linter.unusedVariables false
attribute [local go_sem ↓] Go.wp_at_zero Go.wp_at_succ
theorem hide {p : Prop} (h : p) : Hid p := h
theorem unhide {p : Prop} (h : Hid p) : p := h

set_option maxRecDepth 100000 in
set_option maxHeartbeats 6400000 in
theorem walk (x : Value) (ps : List Pg) (hm : ReTree ps) (f : ByteArray) (hmf : f.size ≤ maxLen) (u : ByteArray) (hmu : u.size ≤ maxLen) (w : World) (hx : LPgsAt w x ps) :
    Calls Try.prog 12 #[.agg #[x], .string f, .string u] w fun e w' => e = .returned (.bool true) ∧ Below w.heap.size w w' := by
  have hmf2 := hmf
  have hmu2 := hmu
  unfold maxLen at hmf2 hmu2
  by_cases hbf : 1048576 < f.size
  · have hb1 : (1048576 : Int) < (f.size : Int) := by omega
    obtain ⟨xa, xc, rfl⟩ := hx.slice
    clear hx hbf
    go_enter Try.func12, Try.ntmps12
    go_wp2
    go_returns
    exact ⟨rfl, by go_grown⟩
  have hbf2 : ¬ (1048576 : Int) < (f.size : Int) := by omega
  by_cases hbu : 1048576 < u.size
  · have hb1 : (1048576 : Int) < (u.size : Int) := by omega
    obtain ⟨xa, xc, rfl⟩ := hx.slice
    clear hx hbf hbu
    go_enter Try.func12, Try.ntmps12
    go_wp2
    go_returns
    exact ⟨rfl, by go_grown⟩
  have hbu2 : ¬ (1048576 : Int) < (u.size : Int) := by omega
  have HS := hide hx
  have HK : Hid (Below w.heap.size w w) := Below.refl _ _
  obtain ⟨xa, xc, rfl⟩ := hx.slice
  clear hx
  have HZ := fun W h => szTreeIs (.slice xa ps.length xc) ps 1048576 W h (by omega) hm
  simp only [show ((1048576 : Nat) : Int) = 1048576 from rfl] at HZ
  by_cases hbig : 1048576 < ps.length + sumP ps
  · have HR : Hid (szRP 1048576 ps = -1) := by show _ = _; unfold szRP; rw [if_neg (by omega)]
    rw [HR.out] at HZ
    go_enter Try.func12, Try.ntmps12
    go_wp2_with fail
    refine (HZ _ ((unhide HS).below (by go_grown))).mono ?_
    rintro e w1 ⟨rfl, hx1⟩
    have hb1 : Below w.heap.size w w1 := Below.trans (by go_grown) (hx1.mono (by go_size))
    replace HS := hide ((unhide HS).below hb1)
    replace HK := hide ((unhide HK).trans (hb1.mono (unhide HK).size))
    have hfin := unhide HK
    go_wp2
    go_returns
    exact ⟨rfl, hfin⟩
  have HR : Hid (szRP 1048576 ps = ((1048576 - (ps.length + sumP ps) : Nat) : Int)) := by show _ = _; unfold szRP; rw [if_pos (by omega)]
  rw [HR.out] at HZ
  have hh := hm.small (by omega)
  obtain ⟨V, B, HSP, HIM⟩ : ∃ (V : Int) (B : Bool), (∀ x W, PgsAt W x ps → Calls Try.prog 56 #[.agg #[x], .string f, .string u] W fun e w' => e = .returned (.tuple #[.int .i64 V, .bool B]) ∧ Below W.heap.size W w') ∧
      (∀ x W, PgsAt W x ps → Calls Try.prog 57 #[.agg #[x], .string f, .string u] W fun e w' => e = .returned (.tuple #[.int .i64 V, .bool B]) ∧ Below W.heap.size W w') := by
    by_cases ht : ∃ t, TreeIs ps t
    · obtain ⟨t, ht⟩ := ht
      by_cases hr : GoodR f u
      · exact ⟨_, _, fun x W h => specCountYes hh ht f u hr hmf hmu W x h, fun x W h => implCountYes hh ht f u hr hmf hmu W x h⟩
      · exact ⟨_, _, fun x W h => specCountOut hh ht f u hr hmf hmu W x h, fun x W h => implCountOut hh ht f u hr hmf hmu W x h⟩
    · have ht' : ∀ t, ¬ TreeIs ps t := fun t h => ht ⟨t, h⟩
      exact ⟨_, _, fun x W h => specCountNo hh ht' f u W x h, fun x W h => implCountNo hh ht' f u W x h⟩
  have HTO := fun x W h => toTreeIs x ps W h hh.1
  have HEQ := fun x y W h g => eqTreeIs x y ps W h g hh.1
  have hbn : (B != B) = false := by cases B <;> rfl
  have hvn : (V != V) = false := by simp
  clear hh hm HR hmf hmf2 hmu hmu2 hbf hbu
  generalize 1048576 - (ps.length + sumP ps) = z at *
  have hz : ¬ (z : Int) < 0 := by omega
  go_enter Try.func12, Try.ntmps12
  go_wp2_with fail
  refine (HZ _ ((unhide HS).below (by go_grown))).mono ?_
  rintro e w1 ⟨rfl, hx1⟩
  have hb1 : Below w.heap.size w w1 := Below.trans (by go_grown) (hx1.mono (by go_size))
  replace HS := hide ((unhide HS).below hb1)
  replace HK := hide ((unhide HK).trans (hb1.mono (unhide HK).size))
  have qBX := boxOf1 hx1
  have BX := hide qBX
  clear qBX
  have BXz := (unhide BX).1
  have BXc0 := (unhide BX).2.1 0 _ rfl
  go_wp2_with fail
  refine (HTO _ _ (unhide HS)).mono ?_
  rintro e w2 ⟨u1, rfl, hu, hx2⟩
  have hb2 : Below w1.heap.size w1 w2 := Below.trans (by go_grown) (hx2.mono (by go_size))
  replace HS := hide ((unhide HS).below hb2)
  (try clear BXz BXc0)
  replace BX := hide ((unhide BX).below hb2)
  have BXz := (unhide BX).1
  have BXc0 := (unhide BX).2.1 0 _ rfl
  replace HK := hide ((unhide HK).trans (hb2.mono (unhide HK).size))
  have HU := hide hu.at
  obtain ⟨_, _, rfl⟩ := hu.at.slice
  clear hu hx1 hb1
  go_wp2_with fail
  refine (HSP _ _ (unhide HU)).mono ?_
  rintro e w3 ⟨rfl, hx3⟩
  have hb3 : Below w2.heap.size w2 w3 := Below.trans (by go_grown) (hx3.mono (by go_size))
  replace HS := hide ((unhide HS).below hb3)
  (try clear BXz BXc0)
  replace BX := hide ((unhide BX).below hb3)
  have BXz := (unhide BX).1
  have BXc0 := (unhide BX).2.1 0 _ rfl
  replace HK := hide ((unhide HK).trans (hb3.mono (unhide HK).size))
  clear HU hx2 hb2
  go_wp2_with fail
  refine (HTO _ _ (unhide HS)).mono ?_
  rintro e w4 ⟨x1, rfl, hx, hx4⟩
  have hb4 : Below w3.heap.size w3 w4 := Below.trans (by go_grown) (hx4.mono (by go_size))
  replace HS := hide ((unhide HS).below hb4)
  (try clear BXz BXc0)
  replace BX := hide ((unhide BX).below hb4)
  have BXz := (unhide BX).1
  have BXc0 := (unhide BX).2.1 0 _ rfl
  replace HK := hide ((unhide HK).trans (hb4.mono (unhide HK).size))
  have HX := hide hx.at
  obtain ⟨xa1, xc1, rfl⟩ := hx.at.slice
  clear hx hx3 hb3
  go_wp2_with fail
  refine (HIM _ _ ((unhide HX).below (by go_grown))).mono ?_
  rintro e w5 ⟨rfl, hx5⟩
  have hb5 : Below w4.heap.size w4 w5 := Below.trans (by go_grown) (hx5.mono (by go_size))
  replace HS := hide ((unhide HS).below hb5)
  (try clear BXz BXc0)
  replace BX := hide ((unhide BX).below hb5)
  have BXz := (unhide BX).1
  have BXc0 := (unhide BX).2.1 0 _ rfl
  replace HX := hide ((unhide HX).below hb5)
  replace HK := hide ((unhide HK).trans (hb5.mono (unhide HK).size))
  have qBY := boxOf1 hx5
  have BY := hide qBY
  clear qBY
  have BYz := (unhide BY).1
  have BYc0 := (unhide BY).2.1 0 _ rfl
  clear hx4 hb4
  clear hx5 hb5
  go_upto_region 14 with fail
  go_region_held3 (fun w' => w'.cell? ⟨w.heap.size, 0, none⟩ = some (.slice xa ps.length xc) ∧ w'.cell? ⟨w4.heap.size, 0, none⟩ = some (.slice xa1 ps.length xc1)) (first | go_keep | trivial)
    (first
      | (go_at_call 43; refine (HTO _ _ ((unhide HS).below (by go_grown))).mono ?_; rintro e w6 ⟨y1, rfl, hy, hx6⟩; have hp6 := kept hx6 w.heap.size (by go_size); have hq6 := kept hx6 w4.heap.size (by go_size); have k6 : Below w5.heap.size w5 w6 := (by exact Below.trans (by go_grown) (hx6.mono (by go_size))); have HY := hide hy.at; have HX3 := hide ((unhide HX).below k6); have kz6 := k6.size; clear hx6 hy)
      | (go_at_call 39; refine (HEQ _ y1 _ ((unhide HX3).read.below (by go_grown)) ((unhide HY).read.below (by go_grown))).mono ?_; rintro e w7 ⟨rfl, hx7⟩; have hp7 := kept hx7 w.heap.size (by omega); have hq7 := kept hx7 w4.heap.size (by omega); have k7 : Below w5.heap.size w5 w7 := (by exact Below.trans k6 (hx7.mono k6.size)); clear hx7))
  all_goals
    have hfin := (unhide HK).trans (k7.mono (unhide HK).size)
    go_wp2_with fail
    go_returns
    exact ⟨rfl, hfin⟩

theorem own : ownKnob Try.prog.godebug = none := by kernel_rfl
theorem laidOut : laidOutB Try.prog = true := by kernel_rfl
set_option maxRecDepth 100000 in
theorem lifted (os : Os) (started : os.Started) (H : Type) (enc : TypeId × Value → H) :
    ReturnsInHanded {} Try.checked os 12 .any (Rows.fnExactCountInSpec.pre6 enc Try.prog Try.f12 Rows.fnExactCountInRow.domain false) (Rows.fnExactCountInSpec.post enc Try.prog Try.f12 false true false false) := by
  refine returnsInHanded_of_change (C := Try.checked) own started (by kernel_rfl) Try.func12
    (ChangeSpec.witness6 (enc := enc) (C := Try.checked) false ⟨#[], #[.agg #[.slice none 0 0], .string ByteArray.empty, .string ByteArray.empty], []⟩ 8 (by kernel_rfl) (by kernel_rfl) (by kernel_rfl) (by kernel_rfl)) ?_
  intro W base args ds gs before hval0 hW hcnd _
  have hval : ∀ (j : Nat) t v, Try.f12.params[j]? = some t → args[j]? = some v → Value.okWide Try.prog W .any base t v := hval0
  have hW' := hW
  obtain ⟨p, q, hA0, hV, rfl, hfz, hnd⟩ := hW
  have hA : DataW.TrodAll enc Try.prog W 0 (fun _ => true) true Try.f12.params.toList args.toList ds p := hA0
  rw [Try.params12] at hA hval
  obtain ⟨v0, vs0, d0, ds0, p0, q0, hargs, rfl, rfl, h0, r0⟩ := trodAll_cons hA
  obtain ⟨v1, vs1, d1, ds1, p1, q1, rfl, rfl, rfl, h1, r1⟩ := trodAll_cons r0
  obtain ⟨v2, vs2, d2, ds2, p2, q2, rfl, rfl, rfl, h2, r2⟩ := trodAll_cons r1
  obtain ⟨rfl, rfl, rfl⟩ := trodAll_nil r2
  obtain rfl : args = #[v0, v1, v2] := by cases args; simp_all
  obtain ⟨rfl, rfl⟩ := trodVars_none hV
  have kk0 := h0
  have lt0 : ∀ x ∈ p0, x.block < W.heap.size := by obtain ⟨m, hm⟩ := kk0; exact DataW.trod_lt m _ _ _ hm
  obtain ⟨xt0, ps0_, rfl, hss0, hre0⟩ := openTree (hval 0 56 v0 rfl rfl) h0
  obtain ⟨s1, rfl, rfl, rfl, hs1⟩ := open_string Try.underlying9 (hval 1 9 v1 rfl rfl) h1
  obtain ⟨s2, rfl, rfl, rfl, hs2⟩ := open_string Try.underlying9 (hval 2 9 v2 rfl rfl) h2
  clear hA0 hval0
  refine (walk xt0 ps0_ hre0 s1 hs1 s2 hs2 W hss0).mono fun e W' ⟨he, bel⟩ => ?_
  subst he
  exact ⟨_, rfl, _, _, _, [], _, [], hW', trodAll_mk1 (shut_bool Try.underlying4 _), (trodAll_cons_mk (Below.trod laidOut (by kernel_rfl) (of_decide_eq_true (by kernel_rfl)) kk0 bel lt0) (trodAll_cons_mk (shut_string Try.underlying9 hs1) (trodAll_cons_mk (shut_string Try.underlying9 hs2) trodAll_mk0))), rfl, bel.frame _, fun h => by cases h⟩

theorem over : Rows.fnExactCountInRow.holds Try.pinned (OpenSpec.ofChange Rows.fnExactCountInSpec) :=
  OpenClaim.holds_of_wide 12 Try.f12 rfl rfl rfl rfl rfl rfl rfl ⟨rfl, rfl, rfl, rfl, rfl⟩ rfl rfl rfl rfl rfl (by kernel_rfl) Try.func12 (by kernel_rfl)
    (of_decide_eq_true (by kernel_rfl)) (by unfold Func.isWrapper; first | (rw [if_pos (by decide +kernel)]; kernel_rfl) | (rw [if_neg (by decide +kernel)]; exact ⟨rfl, rfl⟩))
    (fun os started H enc _ => lifted os started H enc)
end Go.Proofs.Ytmmccjdkafojgaa.fnExactCountIn
namespace Go.Proofs.Ytmmccjdkafojgaa
theorem fnExactCountIn_holds : Rows.FnExactCountInSaid := fnExactCountIn.over
#print axioms fnExactCountIn_holds
end Go.Proofs.Ytmmccjdkafojgaa
