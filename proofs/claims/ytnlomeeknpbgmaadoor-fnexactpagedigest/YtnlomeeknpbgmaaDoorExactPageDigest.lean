/- At every shown page the function FnExactPageDigest returns true and leaves its argument as it was: PageDigest answers as its model does. The table of weights lies as the program's text lays it (the card ties that). No other condition. -/
import Derived.Test.YtnlomeeknpbgmaaDoorLawsSh
import Derived.Test.YtnlomeeknpbgmaaDoorPageD
import Derived.Test.YtnlomeeknpbgmaaDoorDoor
import Derived.Lib.SmallJoins
namespace Go.Proofs.YtnlomeeknpbgmaaDoor.fnExactPageDigest
open Go.ChangeShapes Go.WideShapes Go.ChangeAt Go.RowKit Go.Joins
open Go.ChangeMaps (open_string shut_string)
set_option linter.unusedVariables false
attribute [local go_sem ↓] Go.wp_at_zero Go.wp_at_succ
theorem hide {p : Prop} (h : p) : Hid p := h
theorem unhide {p : Prop} (h : Hid p) : p := h

set_option maxRecDepth 100000 in
set_option maxHeartbeats 6400000 in
theorem walk (p : Sh) (kv vv cv : Value) (hm : ReSh p) (w : World) (ht : Table w) (hsh : ShAt w kv vv cv p) :
    Calls Tryd.prog 4 #[.agg #[kv, vv, cv, .int .i64 p.go]] w fun e w' => e = .returned (.bool true) ∧ Below w.heap.size w w' := by
  have HS := hide hsh
  have HT := hide ht
  clear ht
  have HK : Hid (Below w.heap.size w w) := Below.refl _ _
  obtain ⟨ka, kc, rfl⟩ := strs_len hsh.1
  obtain ⟨va, vc, rfl⟩ := strs_len hsh.2.1
  obtain ⟨ca, cc, rfl⟩ := strs_len hsh.2.2
  clear hsh
  by_cases hbig : 1048576 < amount p
  · have HZ := fun W h => szShNo p (.slice ka p.keys.length kc) (.slice va p.vals.length vc) (.slice ca p.kids.length cc) 1048576 W h (by omega) hm hbig
    simp only [show ((1048576 : Nat) : Int) = 1048576 from rfl] at HZ
    obtain ⟨G, hG⟩ : ∃ G, G = p.go := ⟨_, rfl⟩
    rw [← hG] at HZ ⊢
    clear hG
    go_enter Tryd.func4, Tryd.ntmps4
    go_wp2_with fail
    refine (HZ _ ((unhide HS).below (by go_grown))).mono ?_
    rintro e w1 ⟨rfl, hx1⟩
    have hb1 : Below w.heap.size w w1 := Below.trans (by go_grown) (hx1.mono (by go_size))
    replace HT := hide ((unhide HT).below hb1)
    replace HS := hide ((unhide HS).below hb1)
    replace HK := hide ((unhide HK).trans (hb1.mono (unhide HK).size))
    have hfin := unhide HK
    go_wp2
    go_returns
    exact ⟨rfl, hfin⟩
  have HZ := fun W h => szShYes p (.slice ka p.keys.length kc) (.slice va p.vals.length vc) (.slice ca p.kids.length cc) 1048576 W h (by omega) hm (by omega)
  simp only [show ((1048576 : Nat) : Int) = 1048576 from rfl] at HZ
  have hs := hm.small (by omega)
  obtain ⟨T, B, HSP, HIM⟩ : ∃ (T : ByteArray) (B : Bool), (∀ a b c W, ShAt W a b c p → Calls Tryd.prog 17 #[.agg #[a, b, c, .int .i64 p.go]] W fun e w' => e = .returned (.tuple #[.string T, .bool B]) ∧ Below W.heap.size W w') ∧
      (∀ a b c W, ShAt W a b c p → Table W → Calls Tryd.prog 14 #[.agg #[a, b, c, .int .i64 p.go]] W fun e w' => e = .returned (.tuple #[.string T, .bool B]) ∧ Below W.heap.size W w') := by
    by_cases hg : GoodSh p
    · exact ⟨_, _, fun a b c W h => specPDYes p a b c W hs hg h, fun a b c W h hT => implPDYes p a b c W hs hg h hT⟩
    · exact ⟨_, _, fun a b c W h => specPDNo p a b c W hs hg h, fun a b c W h _ => implPDNo p a b c W hs hg h⟩
  have HTO := fun a b c W h => toSh p a b c W h hs
  have HEQ := fun a b c x y z W h g => eqSh p a b c x y z W h g hs
  obtain ⟨G, hG⟩ : ∃ G, G = p.go := ⟨_, rfl⟩
  rw [← hG] at HZ HSP HIM HTO HEQ ⊢
  have hbn : (B != B) = false := by cases B <;> rfl
  have htn : (T.toList != T.toList) = false := by simp
  clear hG hs hm
  generalize 1048576 - amount p = z at *
  have hz : ¬ (z : Int) < 0 := by omega
  go_enter Tryd.func4, Tryd.ntmps4
  go_wp2_with fail
  refine (HZ _ ((unhide HS).below (by go_grown))).mono ?_
  rintro e w1 ⟨rfl, hx1⟩
  have hb1 : Below w.heap.size w w1 := Below.trans (by go_grown) (hx1.mono (by go_size))
  replace HT := hide ((unhide HT).below hb1)
  replace HS := hide ((unhide HS).below hb1)
  replace HK := hide ((unhide HK).trans (hb1.mono (unhide HK).size))
  have qBX := boxOf1 hx1
  have BX := hide qBX
  clear qBX
  have BXz := (unhide BX).1
  have BXc0 := (unhide BX).2.1 0 _ rfl
  have BXc1 := (unhide BX).2.1 1 _ rfl
  have BXc2 := (unhide BX).2.1 2 _ rfl
  have BXc3 := (unhide BX).2.1 3 _ rfl
  go_wp2_with fail
  refine (HTO _ _ _ _ (unhide HS)).mono ?_
  rintro e w2 ⟨u1, u2, u3, rfl, hu, hx2⟩
  have hb2 : Below w1.heap.size w1 w2 := Below.trans (by go_grown) (hx2.mono (by go_size))
  replace HT := hide ((unhide HT).below hb2)
  replace HS := hide ((unhide HS).below hb2)
  (try clear BXz BXc0 BXc1 BXc2 BXc3)
  replace BX := hide ((unhide BX).below hb2)
  have BXz := (unhide BX).1
  have BXc0 := (unhide BX).2.1 0 _ rfl
  have BXc1 := (unhide BX).2.1 1 _ rfl
  have BXc2 := (unhide BX).2.1 2 _ rfl
  have BXc3 := (unhide BX).2.1 3 _ rfl
  replace HK := hide ((unhide HK).trans (hb2.mono (unhide HK).size))
  have HU := hide hu
  obtain ⟨_, _, rfl⟩ := strs_len hu.1
  obtain ⟨_, _, rfl⟩ := strs_len hu.2.1
  obtain ⟨_, _, rfl⟩ := strs_len hu.2.2
  clear hu hx1 hb1
  go_wp2_with fail
  refine (HSP _ _ _ _ (unhide HU)).mono ?_
  rintro e w3 ⟨rfl, hx3⟩
  have hb3 : Below w2.heap.size w2 w3 := Below.trans (by go_grown) (hx3.mono (by go_size))
  replace HT := hide ((unhide HT).below hb3)
  replace HS := hide ((unhide HS).below hb3)
  (try clear BXz BXc0 BXc1 BXc2 BXc3)
  replace BX := hide ((unhide BX).below hb3)
  have BXz := (unhide BX).1
  have BXc0 := (unhide BX).2.1 0 _ rfl
  have BXc1 := (unhide BX).2.1 1 _ rfl
  have BXc2 := (unhide BX).2.1 2 _ rfl
  have BXc3 := (unhide BX).2.1 3 _ rfl
  replace HK := hide ((unhide HK).trans (hb3.mono (unhide HK).size))
  clear HU hx2 hb2
  go_wp2_with fail
  refine (HTO _ _ _ _ (unhide HS)).mono ?_
  rintro e w4 ⟨x1, x2, x3, rfl, hx, hx4⟩
  have hb4 : Below w3.heap.size w3 w4 := Below.trans (by go_grown) (hx4.mono (by go_size))
  replace HT := hide ((unhide HT).below hb4)
  replace HS := hide ((unhide HS).below hb4)
  (try clear BXz BXc0 BXc1 BXc2 BXc3)
  replace BX := hide ((unhide BX).below hb4)
  have BXz := (unhide BX).1
  have BXc0 := (unhide BX).2.1 0 _ rfl
  have BXc1 := (unhide BX).2.1 1 _ rfl
  have BXc2 := (unhide BX).2.1 2 _ rfl
  have BXc3 := (unhide BX).2.1 3 _ rfl
  replace HK := hide ((unhide HK).trans (hb4.mono (unhide HK).size))
  have HX := hide hx
  obtain ⟨xa1, xc1, rfl⟩ := strs_len hx.1
  obtain ⟨xa2, xc2, rfl⟩ := strs_len hx.2.1
  obtain ⟨xa3, xc3, rfl⟩ := strs_len hx.2.2
  clear hx hx3 hb3
  go_wp2_with fail
  refine (HIM _ _ _ _ ((unhide HX).below (by go_grown)) ((unhide HT).below (by go_grown))).mono ?_
  rintro e w5 ⟨rfl, hx5⟩
  have hb5 : Below w4.heap.size w4 w5 := Below.trans (by go_grown) (hx5.mono (by go_size))
  replace HT := hide ((unhide HT).below hb5)
  replace HS := hide ((unhide HS).below hb5)
  (try clear BXz BXc0 BXc1 BXc2 BXc3)
  replace BX := hide ((unhide BX).below hb5)
  have BXz := (unhide BX).1
  have BXc0 := (unhide BX).2.1 0 _ rfl
  have BXc1 := (unhide BX).2.1 1 _ rfl
  have BXc2 := (unhide BX).2.1 2 _ rfl
  have BXc3 := (unhide BX).2.1 3 _ rfl
  replace HX := hide ((unhide HX).below hb5)
  replace HK := hide ((unhide HK).trans (hb5.mono (unhide HK).size))
  have qBY := boxOf1 hx5
  have BY := hide qBY
  clear qBY
  have BYz := (unhide BY).1
  have BYc0 := (unhide BY).2.1 0 _ rfl
  have BYc1 := (unhide BY).2.1 1 _ rfl
  have BYc2 := (unhide BY).2.1 2 _ rfl
  have BYc3 := (unhide BY).2.1 3 _ rfl
  clear hx4 hb4
  clear hx5 hb5
  go_upto_region 10 with fail
  go_region_held3 (fun w' => (w'.cell? ⟨w.heap.size, 0, none⟩ = some (.slice ka p.keys.length kc) ∧ w'.cell? ⟨w.heap.size, 1, none⟩ = some (.slice va p.vals.length vc) ∧ w'.cell? ⟨w.heap.size, 2, none⟩ = some (.slice ca p.kids.length cc) ∧ w'.cell? ⟨w.heap.size, 3, none⟩ = some (.int .i64 G)) ∧ w'.cell? ⟨w4.heap.size, 0, none⟩ = some (.slice xa1 p.keys.length xc1) ∧ w'.cell? ⟨w4.heap.size, 1, none⟩ = some (.slice xa2 p.vals.length xc2) ∧ w'.cell? ⟨w4.heap.size, 2, none⟩ = some (.slice xa3 p.kids.length xc3) ∧ w'.cell? ⟨w4.heap.size, 3, none⟩ = some (.int .i64 G)) (first | go_keep | trivial)
    (first
      | (go_at_call 18; refine (HTO _ _ _ _ ((unhide HS).below (by go_grown))).mono ?_; rintro e w6 ⟨y1, y2, y3, rfl, hy, hx6⟩; have hp6 := kept hx6 w.heap.size (by go_size); have hq6 := kept hx6 w4.heap.size (by go_size); have k6 : Below w5.heap.size w5 w6 := (by exact Below.trans (by go_grown) (hx6.mono (by go_size))); have HY := hide hy; have HX3 := hide ((unhide HX).below k6); have kz6 := k6.size; clear hx6 hy)
      | (go_at_call 19; refine (HEQ _ _ _ y1 y2 y3 _ ((unhide HX3).below (by go_grown)) ((unhide HY).below (by go_grown))).mono ?_; rintro e w7 ⟨rfl, hx7⟩; have hp7 := kept hx7 w.heap.size (by omega); have hq7 := kept hx7 w4.heap.size (by omega); have k7 : Below w5.heap.size w5 w7 := (by exact Below.trans k6 (hx7.mono k6.size)); clear hx7))
  all_goals
    have hfin := (unhide HK).trans (k7.mono (unhide HK).size)
    go_wp2_with fail
    go_returns
    exact ⟨rfl, hfin⟩

theorem own : ownKnob Tryd.prog.godebug = none := by kernel_rfl
theorem laidOut : laidOutB Tryd.prog = true := by kernel_rfl
theorem cellsShown : Tryd.prog.cellsOf 37 = 4 := by kernel_rfl
set_option maxRecDepth 100000 in
theorem contract (H : Type) (enc : TypeId × Value → H) (W : World) (base : Nat) (args : Array Value) (ds gs : List (DataW H)) (before : List MemPlace)
    (hval : ∀ (j : Nat) t v, Tryd.f4.params[j]? = some t → args[j]? = some v → Value.okWide Tryd.prog W .any base t v)
    (hW : DataW.Whole enc Tryd.prog Tryd.f4.params.toList Rows.fnExactPageDigestSpec.vars false W args.toList ds gs before) (hL : laidMetH Tryd.prog Rows.fnExactPageDigestRow.laid W) :
    Calls Tryd.prog 4 args W fun e W' => ∃ v, e = .returned v ∧ Rows.fnExactPageDigestSpec.post enc Tryd.prog Tryd.f4 false true false false W args v W' := by
  have tab := table_of hL
  have hW' := hW
  obtain ⟨p, q, hA0, hV, rfl, hfz, hnd⟩ := hW
  have hA : DataW.TrodAll enc Tryd.prog W 0 (fun _ => true) true Tryd.f4.params.toList args.toList ds p := hA0
  rw [Tryd.params4] at hA hval
  obtain ⟨v0, vs0, d0, ds0, p0, q0, hargs, rfl, rfl, h0, r0⟩ := trodAll_cons hA
  obtain ⟨rfl, rfl, rfl⟩ := trodAll_nil r0
  obtain rfl : args = #[v0] := by cases args; simp_all
  obtain ⟨g, t, cs, fuel, d, pv, rfl, hg, hty, hv, htr, rfl⟩ := trodVars_one hV
  obtain rfl := Option.some.inj (gTab.symm.trans hg)
  obtain rfl := Option.some.inj (gTabType.symm.trans hty)
  have kv : DataW.Trod enc Tryd.prog W 0 (fun _ => true) true 176 (.agg cs) d pv := ⟨fuel, htr⟩
  have ltv : ∀ x ∈ pv, x.block < W.heap.size := DataW.trod_lt fuel _ _ _ htr
  have kk0 := h0
  have lt0 : ∀ x ∈ p0, x.block < W.heap.size := by obtain ⟨m, hm⟩ := kk0; exact DataW.trod_lt m _ _ _ hm
  obtain ⟨c00, c01, c02, c03, y00, y01, y02, y03, m0, rfl, rfl, rfl, hy00, hy01, hy02, hy03⟩ := open_agg4 Tryd.underlying37 (by kernel_rfl) cellsShown (hval 0 37 v0 rfl rfl) h0
  obtain ⟨ks0, hks0, hkl0, hkm0⟩ := strs_of1 hy00
  obtain ⟨us0, hus0, hul0, hum0⟩ := strs_of1 hy01
  obtain ⟨ws0, hws0, hwl0, hwm0⟩ := strs_of1 hy02
  obtain ⟨a0, e03, x03, wa0⟩ := DataW.trod_int Tryd.underlying3 hy03
  simp at e03
  subst e03
  have hss0 : ShAt W c00 c01 c02 ⟨ks0, us0, ws0, a0⟩ := ⟨hks0, hus0, hws0⟩
  clear hA0
  refine (walk ⟨ks0, us0, ws0, a0⟩ c00 c01 c02 ⟨⟨hkl0, hul0, hwl0⟩, hkm0, hum0, hwm0⟩ W tab hss0).mono fun e W' ⟨he, bel⟩ => ?_
  subst he
  obtain ⟨f2, hf2⟩ := Below.trod laidOut (by kernel_rfl) (of_decide_eq_true (by kernel_rfl)) kv bel ltv
  exact ⟨_, rfl, _, _, _, [], _, _, hW', trodAll_mk1 (shut_bool Tryd.underlying4 _), (trodAll_cons_mk (Below.trod laidOut (by kernel_rfl) (of_decide_eq_true (by kernel_rfl)) kk0 bel lt0) trodAll_mk0), ⟨0, 176, cs, f2, pv, [], gTab, gTabType, var?_below bel gTab tab.1 hv, hf2, rfl, rfl⟩, bel.frame _, fun h => by cases h⟩

theorem reads (os : Os) {H : Type} (enc : TypeId × Value → H) : ∃ places, DataW.whole enc Tryd.prog (({ World.holding Tryd.prog os ⟨#[], #[], []⟩ with heap := (World.holding Tryd.prog os ⟨#[], #[], []⟩).heap.modify 0 layTab } : World).forCall (fun _ _ => 0) ⟨#[], #[.agg #[.slice none 0 0, .slice none 0 0, .slice none 0 0, .int .i64 0]], []⟩).memory Tryd.f4.params.toList Rows.fnExactPageDigestSpec.vars false (#[.agg #[.slice none 0 0, .slice none 0 0, .slice none 0 0, .int .i64 0]] : Array Value).toList 16 = some ([.agg [.nil, .nil, .nil, .lit (.int .i64 0)]], [Rows.laid_loop_example_g00537_impl_pieceWeights], places) :=
  ⟨MemPlace.row ⟨0, 0, none⟩ 8, by kernel_rfl⟩
theorem laid_met (os : Os) : laidMet Tryd.prog Rows.fnExactPageDigestRow.laid (({ World.holding Tryd.prog os ⟨#[], #[], []⟩ with heap := (World.holding Tryd.prog os ⟨#[], #[], []⟩).heap.modify 0 layTab } : World).forCall (fun _ _ => 0) ⟨#[], #[.agg #[.slice none 0 0, .slice none 0 0, .slice none 0 0, .int .i64 0]], []⟩).memory :=
  laidMet_of_run' 16 (by kernel_rfl) (by kernel_rfl)
set_option maxRecDepth 100000 in
theorem lifted (os : Os) (started : os.Started) (H : Type) (enc : TypeId × Value → H) (F : Stop.Interp) :
    ReturnsInHanded {} Tryd.checked os 4 .any ((OpenSpec.ofChange Rows.fnExactPageDigestSpec).preRow enc Tryd.prog Tryd.f4 Rows.fnExactPageDigestRow.domain false Rows.fnExactPageDigestRow.laid) (((OpenSpec.ofChange Rows.fnExactPageDigestSpec).at F).post enc Tryd.prog Tryd.f4 false true false false) := by
  obtain ⟨places, hx⟩ := reads os enc
  refine returnsInHanded_of_row (C := Tryd.checked) (s := OpenSpec.ofChange Rows.fnExactPageDigestSpec) own started (by kernel_rfl) Tryd.func4
    (witness_row_at (enc := enc) (C := Tryd.checked) false ({ World.holding Tryd.prog os ⟨#[], #[], []⟩ with heap := (World.holding Tryd.prog os ⟨#[], #[], []⟩).heap.modify 0 layTab } : World) #[.agg #[.slice none 0 0, .slice none 0 0, .slice none 0 0, .int .i64 0]] rfl (by kernel_rfl) (by kernel_rfl) (by kernel_rfl)
      (OpenSpec.preRow_of_cond 16 hx (by kernel_rfl) (fun k hk => by cases hk) (by kernel_rfl) (laid_met os))) ?_
  intro W base args ds gs before hval hW _ _ _ hL _ _
  exact contract H enc W base args ds gs before hval hW hL
theorem said : Rows.FnExactPageDigestSaid :=
  OpenClaim.holds_of_cond 4 Tryd.f4 rfl rfl rfl rfl rfl rfl rfl ⟨rfl, rfl, rfl, rfl, rfl⟩ rfl rfl rfl rfl rfl (by kernel_rfl) Tryd.func4 (by kernel_rfl)
    (of_decide_eq_true (by kernel_rfl)) (by unfold Func.isWrapper; first | (rw [if_pos (by decide +kernel)]; kernel_rfl) | (rw [if_neg (by decide +kernel)]; exact ⟨rfl, rfl⟩))
    (fun os started H enc _ F => by rw [OpenClaim.pre_eq_preRow]; exact lifted os started H enc F)
theorem plain (f : FuncId) (fn : Func) (hf : Tryd.pinned.checked.prog.funcNamed Rows.fnExactPageDigestRow.func = some f) (hfn : Tryd.pinned.checked.prog.funcs[f]? = some fn) :
    false = Tryd.pinned.checked.prog.looks [] ∧ ∀ (j : Nat) t, fn.params[j]? = some t → Tryd.pinned.checked.prog.wantsStandIn t = false := by
  obtain rfl : f = 4 := Option.some.inj ((show Tryd.prog.funcNamed Rows.fnExactPageDigestRow.func = some 4 by kernel_rfl).symm.trans hf) |>.symm
  obtain rfl : fn = Tryd.f4 := (Option.some.inj (Tryd.func4.symm.trans hfn)).symm
  refine ⟨by kernel_rfl, fun j t ht => ?_⟩
  rw [Tryd.params4] at ht
  have hm : t ∈ [37] := by simpa using Array.mem_of_getElem? ht
  have hall : ([37].all fun u => !Tryd.prog.wantsStandIn u) = true := by kernel_rfl
  exact (show Tryd.prog.wantsStandIn t = false by simpa using List.all_eq_true.1 hall t hm)
theorem card : Rows.FnExactPageDigestCardSaid :=
  Claim7.holds_tied_plain_at .later [] _ _ _ _ said (fun _ h => by cases h) (by kernel_rfl) (fun _ h => by cases h) fnExactPageDigest_row_tie rfl ⟨rfl, rfl⟩ (by kernel_rfl) rfl plain (by kernel_rfl)
end Go.Proofs.YtnlomeeknpbgmaaDoor.fnExactPageDigest
namespace Go.Proofs.YtnlomeeknpbgmaaDoor
theorem fnExactPageDigest_card_holds : Rows.FnExactPageDigestCardSaid := fnExactPageDigest.card
#print axioms fnExactPageDigest_card_holds
end Go.Proofs.YtnlomeeknpbgmaaDoor
