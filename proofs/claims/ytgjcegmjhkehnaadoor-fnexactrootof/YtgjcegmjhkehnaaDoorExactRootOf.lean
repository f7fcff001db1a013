/- At every tree the function FnExactRootOf returns true and leaves its argument as it was: RootOf answers as its model does. The table of weights lies as the text of the program lays it (the card ties that). No other condition. -/
import Derived.Test.YtgjcegmjhkehnaaDoorTreeArg
import Derived.Test.YtgjcegmjhkehnaaDoorSpecShw
import Derived.Test.YtgjcegmjhkehnaaDoorDoor
namespace Go.Proofs.YtgjcegmjhkehnaaDoor.fnExactRootOf
open Go.ChangeShapes Go.WideShapes Go.ChangeAt Go.RowKit Go.Joins
open Go.ChangeMaps (open_string shut_string)
set_option linter.unusedVariables false
attribute [local go_sem ↓] Go.wp_at_zero Go.wp_at_succ
theorem hide {p : Prop} (h : p) : Hid p := h
theorem unhide {p : Prop} (h : Hid p) : p := h

set_option maxRecDepth 100000 in
set_option maxHeartbeats 6400000 in
theorem walk (x : Value) (ps : List Pg) (hm : ReTree ps) (w : World) (ht : Table w) (hx : LPgsAt w x ps) :
    Calls Tryd.prog 4 #[.agg #[x]] w fun e w' => e = .returned (.bool true) ∧ Below w.heap.size w w' := by
  have HS := hide hx
  have HT := hide ht
  clear ht
  have HK : Hid (Below w.heap.size w w) := Below.refl _ _
  obtain ⟨xa, xc, rfl⟩ := hx.slice
  clear hx
  have HZ := fun W h => szTreeIs (.slice xa ps.length xc) ps 1048576 W h (by omega) hm
  simp only [show ((1048576 : Nat) : Int) = 1048576 from rfl] at HZ
  by_cases hbig : 1048576 < ps.length + sumP ps
  · have HR : Hid (szRP 1048576 ps = -1) := by show _ = _; unfold szRP; rw [if_neg (by omega)]
    rw [HR.out] at HZ
    go_enter Tryd.func4, Tryd.ntmps4
    go_wp2_with fail
    refine (HZ _ ((unhide HS).below (by go_grown))).mono ?_
    rintro e w1 ⟨rfl, hx1⟩
    have hb1 : Below w.heap.size w w1 := Below.trans (by go_grown) (hx1.mono (by go_size))
    replace HT := hide ((unhide HT).below hb1)
    replace HS := hide ((unhide HS).below hb1)
    replace HK := hide ((unhide HK).trans (hb1.mono (unhide HK).size))
    have hfin := unhide HK
    go_wp2
    go_returns
    exact ⟨rfl, hfin⟩
  have HR : Hid (szRP 1048576 ps = ((1048576 - (ps.length + sumP ps) : Nat) : Int)) := by show _ = _; unfold szRP; rw [if_pos (by omega)]
  rw [HR.out] at HZ
  have hh := hm.small (by omega)
  obtain ⟨V, B, HSP, HIM⟩ : ∃ (V : ByteArray) (B : Bool), (∀ x W, PgsAt W x ps → Calls Tryd.prog 18 #[.agg #[x]] W fun e w' => e = .returned (.tuple #[.string V, .bool B]) ∧ Below W.heap.size W w') ∧
      (∀ x W, PgsAt W x ps → Table W → Calls Tryd.prog 20 #[.agg #[x]] W fun e w' => e = .returned (.tuple #[.string V, .bool B]) ∧ Below W.heap.size W w') := by
    by_cases ht : ∃ t, TreeIs ps t
    · obtain ⟨t, ht⟩ := ht
      exact ⟨_, _, fun x W h => specRootYes hh ht W x h, fun x W h hta => implRootYes hh ht W x h hta⟩
    · have ht' : ∀ t, ¬ TreeIs ps t := fun t h => ht ⟨t, h⟩
      exact ⟨_, _, fun x W h => specRootNo hh ht' W x h, fun x W h _ => implRootNo hh ht' W x h⟩
  have HTO := fun x W h => toTreeIs x ps W h hh.1
  have HEQ := fun x y W h g => eqTreeIs x y ps W h g hh.1
  have hbn : (B != B) = false := by cases B <;> rfl
  have hvn : (V.toList != V.toList) = false := by simp
  clear hh hm HR
  generalize 1048576 - (ps.length + sumP ps) = z at *
  have hz : ¬ (z : Int) < 0 := by omega
  go_enter Tryd.func4, Tryd.ntmps4
  go_wp2_with fail
  refine (HZ _ ((unhide HS).below (by go_grown))).mono ?_
  rintro e w1 ⟨rfl, hx1⟩
  have hb1 : Below w.heap.size w w1 := Below.trans (by go_grown) (hx1.mono (by go_size))
  replace HT := hide ((unhide HT).below hb1)
  replace HS := hide ((unhide HS).below hb1)
  replace HK := hide ((unhide HK).trans (hb1.mono (unhide HK).size))
  have qBX := boxOf1 hx1
  have BX := hide qBX
  clear qBX
  have BXz := (unhide BX).1
  have BXc0 := (unhide BX).2.1 0 _ rfl
  go_wp2_with fail
  refine (HTO _ _ (unhide HS)).mono ?_
  rintro e w2 ⟨u1, rfl, hu, hx2⟩
  have hb2 : Below w1.heap.size w1 w2 := Below.trans (by go_grown) (hx2.mono (by go_size))
  replace HT := hide ((unhide HT).below hb2)
  replace HS := hide ((unhide HS).below hb2)
  (try clear BXz BXc0)
  replace BX := hide ((unhide BX).below hb2)
  have BXz := (unhide BX).1
  have BXc0 := (unhide BX).2.1 0 _ rfl
  replace HK := hide ((unhide HK).trans (hb2.mono (unhide HK).size))
  have HU := hide hu.at
  obtain ⟨_, _, rfl⟩ := hu.at.slice
  clear hu hx1 hb1
  go_wp2_with fail
  refine (HSP _ _ (unhide HU)).mono ?_
  rintro e w3 ⟨rfl, hx3⟩
  have hb3 : Below w2.heap.size w2 w3 := Below.trans (by go_grown) (hx3.mono (by go_size))
  replace HT := hide ((unhide HT).below hb3)
  replace HS := hide ((unhide HS).below hb3)
  (try clear BXz BXc0)
  replace BX := hide ((unhide BX).below hb3)
  have BXz := (unhide BX).1
  have BXc0 := (unhide BX).2.1 0 _ rfl
  replace HK := hide ((unhide HK).trans (hb3.mono (unhide HK).size))
  clear HU hx2 hb2
  go_wp2_with fail
  refine (HTO _ _ (unhide HS)).mono ?_
  rintro e w4 ⟨x1, rfl, hx, hx4⟩
  have hb4 : Below w3.heap.size w3 w4 := Below.trans (by go_grown) (hx4.mono (by go_size))
  replace HT := hide ((unhide HT).below hb4)
  replace HS := hide ((unhide HS).below hb4)
  (try clear BXz BXc0)
  replace BX := hide ((unhide BX).below hb4)
  have BXz := (unhide BX).1
  have BXc0 := (unhide BX).2.1 0 _ rfl
  replace HK := hide ((unhide HK).trans (hb4.mono (unhide HK).size))
  have HX := hide hx.at
  obtain ⟨xa1, xc1, rfl⟩ := hx.at.slice
  clear hx hx3 hb3
  go_wp2_with fail
  refine (HIM _ _ ((unhide HX).below (by go_grown)) ((unhide HT).below (by go_grown))).mono ?_
  rintro e w5 ⟨rfl, hx5⟩
  have hb5 : Below w4.heap.size w4 w5 := Below.trans (by go_grown) (hx5.mono (by go_size))
  replace HT := hide ((unhide HT).below hb5)
  replace HS := hide ((unhide HS).below hb5)
  (try clear BXz BXc0)
  replace BX := hide ((unhide BX).below hb5)
  have BXz := (unhide BX).1
  have BXc0 := (unhide BX).2.1 0 _ rfl
  replace HX := hide ((unhide HX).below hb5)
  replace HK := hide ((unhide HK).trans (hb5.mono (unhide HK).size))
  have qBY := boxOf1 hx5
  have BY := hide qBY
  clear qBY
  have BYz := (unhide BY).1
  have BYc0 := (unhide BY).2.1 0 _ rfl
  clear hx4 hb4
  clear hx5 hb5
  go_upto_region 10 with fail
  go_region_held3 (fun w' => w'.cell? ⟨w.heap.size, 0, none⟩ = some (.slice xa ps.length xc) ∧ w'.cell? ⟨w4.heap.size, 0, none⟩ = some (.slice xa1 ps.length xc1)) (first | go_keep | trivial)
    (first
      | (go_at_call 19; refine (HTO _ _ ((unhide HS).below (by go_grown))).mono ?_; rintro e w6 ⟨y1, rfl, hy, hx6⟩; have hp6 := kept hx6 w.heap.size (by go_size); have hq6 := kept hx6 w4.heap.size (by go_size); have k6 : Below w5.heap.size w5 w6 := (by exact Below.trans (by go_grown) (hx6.mono (by go_size))); have HY := hide hy.at; have HX3 := hide ((unhide HX).below k6); have kz6 := k6.size; clear hx6 hy)
      | (go_at_call 21; refine (HEQ _ y1 _ ((unhide HX3).read.below (by go_grown)) ((unhide HY).read.below (by go_grown))).mono ?_; rintro e w7 ⟨rfl, hx7⟩; have hp7 := kept hx7 w.heap.size (by omega); have hq7 := kept hx7 w4.heap.size (by omega); have k7 : Below w5.heap.size w5 w7 := (by exact Below.trans k6 (hx7.mono k6.size)); clear hx7))
  all_goals
    have hfin := (unhide HK).trans (k7.mono (unhide HK).size)
    go_wp2_with fail
    go_returns
    exact ⟨rfl, hfin⟩

theorem own : ownKnob Tryd.prog.godebug = none := by kernel_rfl
theorem laidOut : laidOutB Tryd.prog = true := by kernel_rfl
set_option maxRecDepth 100000 in
theorem contract (H : Type) (enc : TypeId × Value → H) (W : World) (base : Nat) (args : Array Value) (ds gs : List (DataW H)) (before : List MemPlace)
    (hval : ∀ (j : Nat) t v, Tryd.f4.params[j]? = some t → args[j]? = some v → Value.okWide Tryd.prog W .any base t v)
    (hW : DataW.Whole enc Tryd.prog Tryd.f4.params.toList Rows.fnExactRootOfSpec.vars false W args.toList ds gs before) (hL : laidMetH Tryd.prog Rows.fnExactRootOfRow.laid W) :
    Calls Tryd.prog 4 args W fun e W' => ∃ v, e = .returned v ∧ Rows.fnExactRootOfSpec.post enc Tryd.prog Tryd.f4 false true false false W args v W' := by
  have tab := table_of hL
  have hW' := hW
  obtain ⟨p, q, hA0, hV, rfl, hfz, hnd⟩ := hW
  have hA : DataW.TrodAll enc Tryd.prog W 0 (fun _ => true) true Tryd.f4.params.toList args.toList ds p := hA0
  rw [Tryd.params4] at hA hval
  obtain ⟨v0, vs0, d0, ds0, p0, q0, hargs, rfl, rfl, h0, r0⟩ := trodAll_cons hA
  obtain ⟨rfl, rfl, rfl⟩ := trodAll_nil r0
  obtain rfl : args = #[v0] := by cases args; simp_all
  obtain ⟨g, t, cs, fuel, d, pv, rfl, hg, hty, hv, htr, rfl⟩ := trodVars_one hV
  obtain rfl := Option.some.inj (gTab.symm.trans hg)
  obtain rfl := Option.some.inj (gTabType.symm.trans hty)
  have kv : DataW.Trod enc Tryd.prog W 0 (fun _ => true) true 215 (.agg cs) d pv := ⟨fuel, htr⟩
  have ltv : ∀ x ∈ pv, x.block < W.heap.size := DataW.trod_lt fuel _ _ _ htr
  have kk0 := h0
  have lt0 : ∀ x ∈ p0, x.block < W.heap.size := by obtain ⟨m, hm⟩ := kk0; exact DataW.trod_lt m _ _ _ hm
  obtain ⟨xt0, ps0_, rfl, hss0, hre0⟩ := openTree (hval 0 39 v0 rfl rfl) h0
  clear hA0
  refine (walk xt0 ps0_ hre0 W tab hss0).mono fun e W' ⟨he, bel⟩ => ?_
  subst he
  obtain ⟨f2, hf2⟩ := Below.trod laidOut (by kernel_rfl) (of_decide_eq_true (by kernel_rfl)) kv bel ltv
  exact ⟨_, rfl, _, _, _, [], _, _, hW', trodAll_mk1 (shut_bool Tryd.underlying4 _), (trodAll_cons_mk (Below.trod laidOut (by kernel_rfl) (of_decide_eq_true (by kernel_rfl)) kk0 bel lt0) trodAll_mk0), ⟨0, 215, cs, f2, pv, [], gTab, gTabType, var?_below bel gTab tab.1 hv, hf2, rfl, rfl⟩, bel.frame _, fun h => by cases h⟩

theorem reads (os : Os) {H : Type} (enc : TypeId × Value → H) : ∃ places, DataW.whole enc Tryd.prog (({ World.holding Tryd.prog os ⟨#[], #[], []⟩ with heap := (World.holding Tryd.prog os ⟨#[], #[], []⟩).heap.modify 0 layTab } : World).forCall (fun _ _ => 0) ⟨#[], #[.agg #[.slice none 0 0]], []⟩).memory Tryd.f4.params.toList Rows.fnExactRootOfSpec.vars false (#[.agg #[.slice none 0 0]] : Array Value).toList 16 = some ([.agg [.nil]], [Rows.laid_loop_example_g00537_impl_pieceWeights], places) :=
  ⟨MemPlace.row ⟨0, 0, none⟩ 8, by kernel_rfl⟩
theorem laid_met (os : Os) : laidMet Tryd.prog Rows.fnExactRootOfRow.laid (({ World.holding Tryd.prog os ⟨#[], #[], []⟩ with heap := (World.holding Tryd.prog os ⟨#[], #[], []⟩).heap.modify 0 layTab } : World).forCall (fun _ _ => 0) ⟨#[], #[.agg #[.slice none 0 0]], []⟩).memory :=
  laidMet_of_run' 16 (by kernel_rfl) (by kernel_rfl)
set_option maxRecDepth 100000 in
theorem lifted (os : Os) (started : os.Started) (H : Type) (enc : TypeId × Value → H) (F : Stop.Interp) :
    ReturnsInHanded {} Tryd.checked os 4 .any ((OpenSpec.ofChange Rows.fnExactRootOfSpec).preRow enc Tryd.prog Tryd.f4 Rows.fnExactRootOfRow.domain false Rows.fnExactRootOfRow.laid) (((OpenSpec.ofChange Rows.fnExactRootOfSpec).at F).post enc Tryd.prog Tryd.f4 false true false false) := by
  obtain ⟨places, hx⟩ := reads os enc
  refine returnsInHanded_of_row (C := Tryd.checked) (s := OpenSpec.ofChange Rows.fnExactRootOfSpec) own started (by kernel_rfl) Tryd.func4
    (witness_row_at (enc := enc) (C := Tryd.checked) false ({ World.holding Tryd.prog os ⟨#[], #[], []⟩ with heap := (World.holding Tryd.prog os ⟨#[], #[], []⟩).heap.modify 0 layTab } : World) #[.agg #[.slice none 0 0]] rfl (by kernel_rfl) (by kernel_rfl) (by kernel_rfl)
      (OpenSpec.preRow_of_cond 16 hx (by kernel_rfl) (fun k hk => by cases hk) (by kernel_rfl) (laid_met os))) ?_
  intro W base args ds gs before hval hW _ _ _ hL _ _
  exact contract H enc W base args ds gs before hval hW hL
theorem said : Rows.FnExactRootOfSaid :=
  OpenClaim.holds_of_cond 4 Tryd.f4 rfl rfl rfl rfl rfl rfl rfl ⟨rfl, rfl, rfl, rfl, rfl⟩ rfl rfl rfl rfl rfl (by kernel_rfl) Tryd.func4 (by kernel_rfl)
    (of_decide_eq_true (by kernel_rfl)) (by unfold Func.isWrapper; first | (rw [if_pos (by decide +kernel)]; kernel_rfl) | (rw [if_neg (by decide +kernel)]; exact ⟨rfl, rfl⟩))
    (fun os started H enc _ F => by rw [OpenClaim.pre_eq_preRow]; exact lifted os started H enc F)
theorem plain (f : FuncId) (fn : Func) (hf : Tryd.pinned.checked.prog.funcNamed Rows.fnExactRootOfRow.func = some f) (hfn : Tryd.pinned.checked.prog.funcs[f]? = some fn) :
    false = Tryd.pinned.checked.prog.looks [] ∧ ∀ (j : Nat) t, fn.params[j]? = some t → Tryd.pinned.checked.prog.wantsStandIn t = false := by
  obtain rfl : f = 4 := Option.some.inj ((show Tryd.prog.funcNamed Rows.fnExactRootOfRow.func = some 4 by kernel_rfl).symm.trans hf) |>.symm
  obtain rfl : fn = Tryd.f4 := (Option.some.inj (Tryd.func4.symm.trans hfn)).symm
  refine ⟨by kernel_rfl, fun j t ht => ?_⟩
  rw [Tryd.params4] at ht
  have hm : t ∈ [39] := by simpa using Array.mem_of_getElem? ht
  have hall : ([39].all fun u => !Tryd.prog.wantsStandIn u) = true := by kernel_rfl
  exact (show Tryd.prog.wantsStandIn t = false by simpa using List.all_eq_true.1 hall t hm)
theorem card : Rows.FnExactRootOfCardSaid :=
  Claim7.holds_tied_plain_at .later [] _ _ _ _ said (fun _ h => by cases h) (by kernel_rfl) (fun _ h => by cases h) fnExactRootOf_row_tie rfl ⟨rfl, rfl⟩ (by kernel_rfl) rfl plain (by kernel_rfl)
end Go.Proofs.YtgjcegmjhkehnaaDoor.fnExactRootOf
namespace Go.Proofs.YtgjcegmjhkehnaaDoor
theorem fnExactRootOf_card_holds : Rows.FnExactRootOfCardSaid := fnExactRootOf.card
#print axioms fnExactRootOf_card_holds
end Go.Proofs.YtgjcegmjhkehnaaDoor
