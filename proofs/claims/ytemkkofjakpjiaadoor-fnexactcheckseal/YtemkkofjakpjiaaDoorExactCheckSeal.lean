/- At every argument the function FnExactCheckSeal returns true and leaves its arguments as they were: CheckSeal answers as its model does. The table of weights lies as the program's text lays it (the card ties that). No other condition. -/
import Derived.Test.YtemkkofjakpjiaaDoorDoor
import Derived.Test.YtemkkofjakpjiaaDoorLaw3
import Derived.Test.YtemkkofjakpjiaaDoorImplText
import Derived.Deep.RegionHeld3
import Derived.Deep.DeepCutAuto
import Derived.Deep.DrawnRows
namespace Go.Proofs.YtemkkofjakpjiaaDoor.fnExactCheckSeal
open Go.ChangeShapes Go.WideShapes Go.ChangeAt Go.RowKit Go.Joins
open Go.ChangeMaps (open_string shut_string)
set_option linter.unusedVariables false
attribute [local go_sem ↓] Go.wp_at_zero Go.wp_at_succ
theorem hide {p : Prop} (h : p) : Hid p := h
theorem unhide {p : Prop} (h : Hid p) : p := h

set_option maxRecDepth 100000 in
set_option maxHeartbeats 6400000 in
theorem walk (p : ByteArray) (hmp : p.size ≤ maxLen) (t : ByteArray) (hmt : t.size ≤ maxLen) (n : Int) (wn : (Lit.int .i64 n).wf = true) (v1 v2 : Value) (ss ws : List ByteArray) (hsl : ss.length ≤ maxLen) (hsm : ∀ s ∈ ss, s.size ≤ maxLen) (hwl : ws.length ≤ maxLen) (hwm : ∀ s ∈ ws, s.size ≤ maxLen) (w : World) (ht : Table w) (hss : StrsAt w v1 ss) (hws : StrsAt w v2 ws) :
    Calls Tryd.prog 11 #[.string p, .string t, .agg #[.int .i64 n, v1, v2]] w fun e w' => e = .returned (.bool true) ∧ Below w.heap.size w w' := by
  have hmp2 := hmp
  unfold maxLen at hmp2
  have hmt2 := hmt
  unfold maxLen at hmt2
  have HS := hide hss
  have HW := hide hws
  have HT := hide ht
  have HK : Hid (Below w.heap.size w w) := Below.refl _ _
  clear hss hws ht
  by_cases hbigp : 1048576 < p.size
  · have hb1 : (1048576 : Int) < (p.size : Int) := by omega
    go_enter Tryd.func11, Tryd.ntmps11
    go_wp2
    go_returns
    exact ⟨rfl, by go_grown⟩
  have hbp : ¬ (1048576 : Int) < (p.size : Int) := by omega
  by_cases hbigt : 1048576 < t.size
  · have hb1 : (1048576 : Int) < (t.size : Int) := by omega
    go_enter Tryd.func11, Tryd.ntmps11
    go_wp2
    go_returns
    exact ⟨rfl, by go_grown⟩
  have hbt : ¬ (1048576 : Int) < (t.size : Int) := by omega
  by_cases hbig : 1048576 < (ss.length + sumS ss) + (ws.length + sumS ws)
  · have HZ := fun W h1 h2 => szSealNo n v1 v2 ss ws 1048576 W h1 h2 (by omega) hsl hsm hwl hwm hbig
    simp only [show ((1048576 : Nat) : Int) = 1048576 from rfl] at HZ
    go_enter Tryd.func11, Tryd.ntmps11
    go_wp2_with fail
    refine (HZ _ ((unhide HS).below (by go_grown)) ((unhide HW).below (by go_grown))).mono ?_
    rintro e w1 ⟨rfl, hx1⟩
    have hb1 : Below w.heap.size w w1 := Below.trans (by go_grown) (hx1.mono (by go_size))
    replace HT := hide ((unhide HT).below hb1)
    replace HK := hide ((unhide HK).trans (hb1.mono (unhide HK).size))
    have hfin := unhide HK
    go_wp2
    go_returns
    exact ⟨rfl, hfin⟩
  have HZ := fun W h1 h2 => szSealYes n v1 v2 ss ws 1048576 W h1 h2 (by omega) hsl hsm hwl hwm (by omega)
  simp only [show ((1048576 : Nat) : Int) = 1048576 from rfl] at HZ
  have hl1 : ss.length ≤ 1048576 := by omega
  have hl2 : ws.length ≤ 1048576 := by omega
  generalize 1048576 - (ss.length + sumS ss) - (ws.length + sumS ws) = z at *
  have hz : ¬ (z : Int) < 0 := by omega
  obtain ⟨o1, o2, HI, HP⟩ := checkTBoth p t n ss ws hmp hmt hl1 hl2
  have HTO := fun W h1 h2 => toSeal n v1 v2 ss ws W h1 h2 hl1 hl2
  go_enter Tryd.func11, Tryd.ntmps11
  go_wp2_with fail
  refine (HZ _ ((unhide HS).below (by go_grown)) ((unhide HW).below (by go_grown))).mono ?_
  rintro e w1 ⟨rfl, hx1⟩
  have hb1 : Below w.heap.size w w1 := Below.trans (by go_grown) (hx1.mono (by go_size))
  replace HT := hide ((unhide HT).below hb1)
  replace HS := hide ((unhide HS).below hb1)
  replace HW := hide ((unhide HW).below hb1)
  replace HK := hide ((unhide HK).trans (hb1.mono (unhide HK).size))
  have qBX := boxOf1 hx1
  have BX := hide qBX
  clear qBX
  have BXz := (unhide BX).1
  have BXc0 := (unhide BX).2.1 0 _ rfl
  have BXc1 := (unhide BX).2.1 1 _ rfl
  have BXc2 := (unhide BX).2.1 2 _ rfl
  go_wp2_with fail
  refine (HTO _ (unhide HS) (unhide HW)).mono ?_
  rintro e w2 ⟨u1, u2, rfl, hu1, hu2, hx2⟩
  have hb2 : Below w1.heap.size w1 w2 := Below.trans (by go_grown) (hx2.mono (by go_size))
  replace HT := hide ((unhide HT).below hb2)
  replace HS := hide ((unhide HS).below hb2)
  replace HW := hide ((unhide HW).below hb2)
  (try clear BXz BXc0 BXc1 BXc2)
  replace BX := hide ((unhide BX).below hb2)
  have BXz := (unhide BX).1
  have BXc0 := (unhide BX).2.1 0 _ rfl
  have BXc1 := (unhide BX).2.1 1 _ rfl
  have BXc2 := (unhide BX).2.1 2 _ rfl
  replace HK := hide ((unhide HK).trans (hb2.mono (unhide HK).size))
  have HU1 := hide hu1
  have HU2 := hide hu2
  clear hu1 hu2 hx1 hb1
  go_wp2_with fail
  refine (HP u1 u2 _ (unhide HU1) (unhide HU2)).mono ?_
  rintro e w3 ⟨rfl, hx3⟩
  have hb3 : Below w2.heap.size w2 w3 := Below.trans (by go_grown) (hx3.mono (by go_size))
  replace HT := hide ((unhide HT).below hb3)
  replace HS := hide ((unhide HS).below hb3)
  replace HW := hide ((unhide HW).below hb3)
  (try clear BXz BXc0 BXc1 BXc2)
  replace BX := hide ((unhide BX).below hb3)
  have BXz := (unhide BX).1
  have BXc0 := (unhide BX).2.1 0 _ rfl
  have BXc1 := (unhide BX).2.1 1 _ rfl
  have BXc2 := (unhide BX).2.1 2 _ rfl
  replace HK := hide ((unhide HK).trans (hb3.mono (unhide HK).size))
  clear HU1 HU2 hx2 hb2
  go_wp2_with fail
  refine (HTO _ (unhide HS) (unhide HW)).mono ?_
  rintro e w4 ⟨x1, x2, rfl, hx1, hx2, hx4⟩
  have hb4 : Below w3.heap.size w3 w4 := Below.trans (by go_grown) (hx4.mono (by go_size))
  replace HT := hide ((unhide HT).below hb4)
  replace HS := hide ((unhide HS).below hb4)
  replace HW := hide ((unhide HW).below hb4)
  (try clear BXz BXc0 BXc1 BXc2)
  replace BX := hide ((unhide BX).below hb4)
  have BXz := (unhide BX).1
  have BXc0 := (unhide BX).2.1 0 _ rfl
  have BXc1 := (unhide BX).2.1 1 _ rfl
  have BXc2 := (unhide BX).2.1 2 _ rfl
  replace HK := hide ((unhide HK).trans (hb4.mono (unhide HK).size))
  have HX1 := hide hx1
  have HX2 := hide hx2
  obtain ⟨xa1, xl1, xc1, rfl⟩ := strs_slice hx1
  obtain ⟨xa2, xl2, xc2, rfl⟩ := strs_slice hx2
  clear hx1 hx2 hx3 hb3
  go_wp2_with fail
  refine (HI _ _ _ ((unhide HX1).below (by go_grown)) ((unhide HX2).below (by go_grown)) ((unhide HT).below (by go_grown))).mono ?_
  rintro e w5 ⟨rfl, hx5⟩
  have hb5 : Below w4.heap.size w4 w5 := Below.trans (by go_grown) (hx5.mono (by go_size))
  replace HT := hide ((unhide HT).below hb5)
  replace HS := hide ((unhide HS).below hb5)
  replace HW := hide ((unhide HW).below hb5)
  (try clear BXz BXc0 BXc1 BXc2)
  replace BX := hide ((unhide BX).below hb5)
  have BXz := (unhide BX).1
  have BXc0 := (unhide BX).2.1 0 _ rfl
  have BXc1 := (unhide BX).2.1 1 _ rfl
  have BXc2 := (unhide BX).2.1 2 _ rfl
  replace HX1 := hide ((unhide HX1).below hb5)
  replace HX2 := hide ((unhide HX2).below hb5)
  replace HK := hide ((unhide HK).trans (hb5.mono (unhide HK).size))
  have qBY := boxOf1 hx5
  have BY := hide qBY
  clear qBY
  have BYz := (unhide BY).1
  have BYc0 := (unhide BY).2.1 0 _ rfl
  have BYc1 := (unhide BY).2.1 1 _ rfl
  have BYc2 := (unhide BY).2.1 2 _ rfl
  clear hx4 hb4
  clear hx5 hb5
  go_upto_region 14 with fail
  go_region_held3 (fun w' => (w'.cell? ⟨w.heap.size, 0, none⟩ = some (.int .i64 n) ∧ w'.cell? ⟨w.heap.size, 1, none⟩ = some v1 ∧ w'.cell? ⟨w.heap.size, 2, none⟩ = some v2) ∧ w'.cell? ⟨w4.heap.size, 0, none⟩ = some (.int .i64 n) ∧ w'.cell? ⟨w4.heap.size, 1, none⟩ = some (.slice xa1 xl1 xc1) ∧ w'.cell? ⟨w4.heap.size, 2, none⟩ = some (.slice xa2 xl2 xc2)) (first | go_keep | trivial)
    (first
      | (go_at_call 63; refine (HTO _ ((unhide HS).below (by go_grown)) ((unhide HW).below (by go_grown))).mono ?_; rintro e w6 ⟨y1, y2, rfl, hy1, hy2, hx6⟩; have hp6 := kept hx6 w.heap.size (by go_size); have hq6 := kept hx6 w4.heap.size (by go_size); have k6 : Below w5.heap.size w5 w6 := (by exact Below.trans (by go_grown) (hx6.mono (by go_size))); have HY1 := hide hy1; have HY2 := hide hy2; have HX3 := hide ((unhide HX1).below k6); have HX4 := hide ((unhide HX2).below k6); have kz6 := k6.size; clear hx6 hy1 hy2)
      | (go_at_call 59; refine (eqSeal n _ _ y1 y2 ss ws _ ((unhide HX3).below (by go_grown)) ((unhide HX4).below (by go_grown)) ((unhide HY1).below (by go_grown)) ((unhide HY2).below (by go_grown)) hl1 hl2).mono ?_; rintro e w7 ⟨rfl, hx7⟩; have hp7 := kept hx7 w.heap.size (by omega); have hq7 := kept hx7 w4.heap.size (by omega); have k7 : Below w5.heap.size w5 w7 := (by exact Below.trans k6 (hx7.mono k6.size)); clear hx7))
  all_goals
    have hfin := (unhide HK).trans (k7.mono (unhide HK).size)
    go_wp2_with fail
    go_returns
    exact ⟨rfl, hfin⟩

theorem own : ownKnob Tryd.prog.godebug = none := by kernel_rfl
theorem laidOut : laidOutB Tryd.prog = true := by kernel_rfl
theorem cellsSeal : Tryd.prog.cellsOf 79 = 3 := by kernel_rfl
set_option maxRecDepth 100000 in
theorem contract (H : Type) (enc : TypeId × Value → H) (W : World) (base : Nat) (args : Array Value) (ds gs : List (DataW H)) (before : List MemPlace)
    (hval : ∀ (j : Nat) t v, Tryd.f11.params[j]? = some t → args[j]? = some v → Value.okWide Tryd.prog W .any base t v)
    (hW : DataW.Whole enc Tryd.prog Tryd.f11.params.toList Rows.fnExactCheckSealSpec.vars false W args.toList ds gs before) (hL : laidMetH Tryd.prog Rows.fnExactCheckSealRow.laid W) :
    Calls Tryd.prog 11 args W fun e W' => ∃ v, e = .returned v ∧ Rows.fnExactCheckSealSpec.post enc Tryd.prog Tryd.f11 false true false false W args v W' := by
  have tab := table_of hL
  have hW' := hW
  obtain ⟨p, q, hA0, hV, rfl, hfz, hnd⟩ := hW
  have hA : DataW.TrodAll enc Tryd.prog W 0 (fun _ => true) true Tryd.f11.params.toList args.toList ds p := hA0
  rw [Tryd.params11] at hA hval
  obtain ⟨v0, vs0, d0, ds0, p0, q0, hargs, rfl, rfl, h0, r0⟩ := trodAll_cons hA
  obtain ⟨v1, vs1, d1, ds1, p1, q1, rfl, rfl, rfl, h1, r1⟩ := trodAll_cons r0
  obtain ⟨v2, vs2, d2, ds2, p2, q2, rfl, rfl, rfl, h2, r2⟩ := trodAll_cons r1
  obtain ⟨rfl, rfl, rfl⟩ := trodAll_nil r2
  obtain rfl : args = #[v0, v1, v2] := by cases args; simp_all
  obtain ⟨g, t, cs, fuel, d, pv, rfl, hg, hty, hv, htr, rfl⟩ := trodVars_one hV
  obtain rfl := Option.some.inj (gTab.symm.trans hg)
  obtain rfl := Option.some.inj (gTabType.symm.trans hty)
  have kv : DataW.Trod enc Tryd.prog W 0 (fun _ => true) true 148 (.agg cs) d pv := ⟨fuel, htr⟩
  have ltv : ∀ x ∈ pv, x.block < W.heap.size := DataW.trod_lt fuel _ _ _ htr
  obtain ⟨s0, rfl, rfl, rfl, hs0⟩ := open_string Tryd.underlying9 (hval 0 9 v0 rfl rfl) h0
  obtain ⟨s1, rfl, rfl, rfl, hs1⟩ := open_string Tryd.underlying9 (hval 1 9 v1 rfl rfl) h1
  have kk2 := h2
  have lt2 : ∀ x ∈ p2, x.block < W.heap.size := by obtain ⟨m, hm⟩ := kk2; exact DataW.trod_lt m _ _ _ hm
  obtain ⟨c0, c1, c2, y0, y1, y2, m2, rfl, rfl, rfl, hy0, hy1, hy2⟩ := open_agg3 Tryd.underlying79 (by kernel_rfl) cellsSeal (hval 2 79 v2 rfl rfl) h2
  obtain ⟨a2, e0, x0, wa2⟩ := DataW.trod_int Tryd.underlying3 hy0
  simp at e0
  subst e0
  obtain ⟨ss2, hss2, hsl2, hsm2⟩ := strs_of1 hy1
  obtain ⟨ws2, hws2, hwl2, hwm2⟩ := strs_of1 hy2
  clear hA0
  refine (walk s0 hs0 s1 hs1 a2 wa2 c1 c2 ss2 ws2 hsl2 hsm2 hwl2 hwm2 W tab hss2 hws2).mono fun e W' ⟨he, bel⟩ => ?_
  subst he
  obtain ⟨f2, hf2⟩ := Below.trod laidOut (by kernel_rfl) (of_decide_eq_true (by kernel_rfl)) kv bel ltv
  exact ⟨_, rfl, _, _, _, [], _, _, hW', trodAll_mk1 (shut_bool Tryd.underlying4 _), (trodAll_cons_mk (shut_string Tryd.underlying9 hs0) (trodAll_cons_mk (shut_string Tryd.underlying9 hs1) (trodAll_cons_mk (Below.trod laidOut (by kernel_rfl) (of_decide_eq_true (by kernel_rfl)) kk2 bel lt2) trodAll_mk0))), ⟨0, 148, cs, f2, pv, [], gTab, gTabType, var?_below bel gTab tab.1 hv, hf2, rfl, rfl⟩, bel.frame _, fun h => by cases h⟩

theorem reads (os : Os) {H : Type} (enc : TypeId × Value → H) : ∃ places, DataW.whole enc Tryd.prog (({ World.holding Tryd.prog os ⟨#[], #[], []⟩ with heap := (World.holding Tryd.prog os ⟨#[], #[], []⟩).heap.modify 0 layTab } : World).forCall (fun _ _ => 0) ⟨#[], #[.string ByteArray.empty, .string ByteArray.empty, .agg #[.int .i64 0, .slice none 0 0, .slice none 0 0]], []⟩).memory Tryd.f11.params.toList Rows.fnExactCheckSealSpec.vars false (#[.string ByteArray.empty, .string ByteArray.empty, .agg #[.int .i64 0, .slice none 0 0, .slice none 0 0]] : Array Value).toList 16 = some ([.lit (.string []), .lit (.string []), .agg [.lit (.int .i64 0), .nil, .nil]], [Rows.laid_loop_example_g00537_impl_pieceWeights], places) :=
  ⟨MemPlace.row ⟨0, 0, none⟩ 8, by kernel_rfl⟩
theorem laid_met (os : Os) : laidMet Tryd.prog Rows.fnExactCheckSealRow.laid (({ World.holding Tryd.prog os ⟨#[], #[], []⟩ with heap := (World.holding Tryd.prog os ⟨#[], #[], []⟩).heap.modify 0 layTab } : World).forCall (fun _ _ => 0) ⟨#[], #[.string ByteArray.empty, .string ByteArray.empty, .agg #[.int .i64 0, .slice none 0 0, .slice none 0 0]], []⟩).memory :=
  laidMet_of_run' 16 (by kernel_rfl) (by kernel_rfl)
set_option maxRecDepth 100000 in
theorem lifted (os : Os) (started : os.Started) (H : Type) (enc : TypeId × Value → H) (F : Stop.Interp) :
    ReturnsInHanded {} Tryd.checked os 11 .any ((OpenSpec.ofChange Rows.fnExactCheckSealSpec).preRow enc Tryd.prog Tryd.f11 Rows.fnExactCheckSealRow.domain false Rows.fnExactCheckSealRow.laid) (((OpenSpec.ofChange Rows.fnExactCheckSealSpec).at F).post enc Tryd.prog Tryd.f11 false true false false) := by
  obtain ⟨places, hx⟩ := reads os enc
  refine returnsInHanded_of_row (C := Tryd.checked) (s := OpenSpec.ofChange Rows.fnExactCheckSealSpec) own started (by kernel_rfl) Tryd.func11
    (witness_row_at (enc := enc) (C := Tryd.checked) false ({ World.holding Tryd.prog os ⟨#[], #[], []⟩ with heap := (World.holding Tryd.prog os ⟨#[], #[], []⟩).heap.modify 0 layTab } : World) #[.string ByteArray.empty, .string ByteArray.empty, .agg #[.int .i64 0, .slice none 0 0, .slice none 0 0]] rfl (by kernel_rfl) (by kernel_rfl) (by kernel_rfl)
      (OpenSpec.preRow_of_cond 16 hx (by kernel_rfl) (fun k hk => by cases hk) (by kernel_rfl) (laid_met os))) ?_
  intro W base args ds gs before hval hW _ _ _ hL _ _
  exact contract H enc W base args ds gs before hval hW hL
theorem said : Rows.FnExactCheckSealSaid :=
  OpenClaim.holds_of_cond 11 Tryd.f11 rfl rfl rfl rfl rfl rfl rfl ⟨rfl, rfl, rfl, rfl, rfl⟩ rfl rfl rfl rfl rfl (by kernel_rfl) Tryd.func11 (by kernel_rfl)
    (of_decide_eq_true (by kernel_rfl)) (by unfold Func.isWrapper; first | (rw [if_pos (by decide +kernel)]; kernel_rfl) | (rw [if_neg (by decide +kernel)]; exact ⟨rfl, rfl⟩))
    (fun os started H enc _ F => by rw [OpenClaim.pre_eq_preRow]; exact lifted os started H enc F)
theorem plain (f : FuncId) (fn : Func) (hf : Tryd.pinned.checked.prog.funcNamed Rows.fnExactCheckSealRow.func = some f) (hfn : Tryd.pinned.checked.prog.funcs[f]? = some fn) :
    false = Tryd.pinned.checked.prog.looks [] ∧ ∀ (j : Nat) t, fn.params[j]? = some t → Tryd.pinned.checked.prog.wantsStandIn t = false := by
  obtain rfl : f = 11 := Option.some.inj ((show Tryd.prog.funcNamed Rows.fnExactCheckSealRow.func = some 11 by kernel_rfl).symm.trans hf) |>.symm
  obtain rfl : fn = Tryd.f11 := (Option.some.inj (Tryd.func11.symm.trans hfn)).symm
  refine ⟨by kernel_rfl, fun j t ht => ?_⟩
  rw [Tryd.params11] at ht
  have hm : t ∈ [9, 9, 79] := by simpa using Array.mem_of_getElem? ht
  have hall : ([9, 9, 79].all fun u => !Tryd.prog.wantsStandIn u) = true := by kernel_rfl
  exact (show Tryd.prog.wantsStandIn t = false by simpa using List.all_eq_true.1 hall t hm)
theorem card : Rows.FnExactCheckSealCardSaid :=
  Claim7.holds_tied_plain_at .later [] _ _ _ _ said (fun _ h => by cases h) (by kernel_rfl) (fun _ h => by cases h) fnExactCheckSeal_row_tie rfl ⟨rfl, rfl⟩ (by kernel_rfl) rfl plain (by kernel_rfl)
end Go.Proofs.YtemkkofjakpjiaaDoor.fnExactCheckSeal
namespace Go.Proofs.YtemkkofjakpjiaaDoor
theorem fnExactCheckSeal_card_holds : Rows.FnExactCheckSealCardSaid := fnExactCheckSeal.card
#print axioms fnExactCheckSeal_card_holds
end Go.Proofs.YtemkkofjakpjiaaDoor
