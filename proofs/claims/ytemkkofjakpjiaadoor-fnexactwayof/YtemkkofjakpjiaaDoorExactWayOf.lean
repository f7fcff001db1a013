/- At every argument the function FnExactWayOf returns true: WayOf answers as its model does, and its answer owns its memory. The table of weights lies as the program's text lays it (the card ties that). No other condition. -/
import Derived.Test.YtemkkofjakpjiaaDoorDoor
import Derived.Test.YtemkkofjakpjiaaDoorImplWay
import Derived.Test.YtemkkofjakpjiaaDoorSpecWay
import Derived.Test.YtemkkofjakpjiaaDoorOwn3
namespace Go.Proofs.YtemkkofjakpjiaaDoor.fnExactWayOf
open Go.ChangeShapes Go.WideShapes Go.ChangeAt Go.RowKit Go.Joins
open Go.ChangeMaps (open_string shut_string)
set_option linter.unusedVariables false

set_option maxHeartbeats 6400000 in
theorem walk (s : ByteArray) (hms : s.size ≤ maxLen) (n : Int) (wn : (Lit.int .i64 n).wf = true) (w : World) (ht : Table w) :
    Calls Tryd.prog 9 #[.string s, .int .i64 n] w fun e w' => e = .returned (.bool true) ∧ Below w.heap.size w w' := by
  have hms2 := hms
  unfold maxLen at hms2
  by_cases hbigs : 1048576 < s.size
  · have hb1 : (1048576 : Int) < (s.size : Int) := by omega
    go_enter Tryd.func9, Tryd.ntmps9
    go_wp2
    go_returns
    exact ⟨rfl, by go_grown⟩
  have hbs : ¬ (1048576 : Int) < (s.size : Int) := by omega
  by_cases hyes : (1 ≤ s.size ∧ s.size ≤ 8) ∧ 0 ≤ n ∧ n ≤ 7
  · have HT : Hid (Table w) := ht
    clear ht
    obtain ⟨⟨h0, h1⟩, h2, h3⟩ := hyes
    obtain ⟨N, rfl⟩ := Int.eq_ofNat_of_zero_le h2
    go_enter Tryd.func9, Tryd.ntmps9
    go_wp2_with fail
    refine (specWayYes s N _ h0 h1 (by omega)).mono ?_
    rintro e w1 ⟨g0, cap0, rfl, ho0, hb1⟩
    have hI0 := OwnRow.strs (ss := wayB s N) ho0 cap0
    have hl1 := hb1.size
    go_wp2_with fail
    refine (implWayYes s N _ h0 h1 (by omega) (HT.out.below hb1)).mono ?_
    rintro e w2 ⟨g, cap, rfl, ho2, hb2⟩
    have k2 := hb1.trans (hb2.mono hl1)
    have hl2 := hb2.size
    go_wp2_with fail
    refine (eqStr _ _ (wayB s N) _ (OwnRow.strs (ss := wayB s N) ho2 cap) (hI0.below hb2) (by rw [wayB_len]; omega)).mono ?_
    rintro e w3 ⟨rfl, hb3⟩
    have k3 := k2.trans (hb3.mono k2.size)
    have hl3 := hb3.size
    have ho3 := ho2.below hb3
    have b13 : Below w1.heap.size w1 w3 := hb2.trans (hb3.mono hl2)
    go_wp2_with fail
    refine (markStr w1.heap.size g 3 cap _ _ ho3 (by omega) (fun i _ => ⟨_, rfl⟩)).mono ?_
    rintro e w4 ⟨rfl, ho4, hg4⟩
    have hI4 := hI0.other ho3.1 b13.size b13 hg4
    have k4 : Below w.heap.size w w4 := k3.trans (bel_gb hg4 (by have := ho3.1; omega) k3.size)
    go_wp2_with fail
    refine (heldStr w1.heap.size g 3 cap _ ho4 (by omega)).mono ?_
    rintro e w5 ⟨rfl, hb5⟩
    have k5 := k4.trans (hb5.mono k4.size)
    have ho5 := ho4.below hb5
    have hI5 := hI4.below hb5
    go_wp2_with fail
    refine (implWayYes s N _ h0 h1 (by omega) (HT.out.below k5)).mono ?_
    rintro e w6 ⟨g6, cap6, rfl, ho6, hb6⟩
    have k6 := k5.trans (hb6.mono k5.size)
    have ho6' := ho5.below hb6
    go_wp2_with fail
    refine (eqStr _ _ (wayB s N) _ (OwnRow.strs (ss := wayB s N) ho6 cap6) (hI5.below hb6) (by rw [wayB_len]; omega)).mono ?_
    rintro e w7 ⟨rfl, hb7⟩
    have k7 := k6.trans (hb7.mono k6.size)
    have ho7 := ho6'.below hb7
    go_wp2_with fail
    refine (heldStr w1.heap.size g 3 cap _ ho7 (by omega)).mono ?_
    rintro e w8 ⟨rfl, hb8⟩
    have k8 := k7.trans (hb8.mono k7.size)
    go_wp2_with fail
    go_returns
    exact ⟨rfl, k8⟩
  · have HS := fun W => specWayNo s n W hms hyes
    have HI := fun W => implWayNo s n W hms hyes
    clear hyes
    go_enter Tryd.func9, Tryd.ntmps9
    go_wp2_with fail
    refine (HS _).mono ?_
    rintro e w1 ⟨rfl, hb1⟩
    go_wp2_with fail
    refine (HI _).mono ?_
    rintro e w2 ⟨rfl, hb2⟩
    have k2 := hb1.trans (hb2.mono hb1.size)
    go_wp2_with fail
    refine (eqStr _ _ [] _ (.inl ⟨_, _, rfl, rfl⟩) (.inl ⟨_, _, rfl, rfl⟩) (by simp)).mono ?_
    rintro e w3 ⟨rfl, hb3⟩
    have k3 := k2.trans (hb3.mono k2.size)
    go_wp2_with fail
    refine (markStrNil _ _ _).mono ?_
    rintro e w4 ⟨rfl, rfl⟩
    go_wp2_with fail
    refine (heldStrNil _ _ _).mono ?_
    rintro e w5 ⟨rfl, rfl⟩
    go_wp2_with fail
    refine (HI _).mono ?_
    rintro e w6 ⟨rfl, hb6⟩
    have k6 := k3.trans (hb6.mono k3.size)
    go_wp2_with fail
    refine (eqStr _ _ [] _ (.inl ⟨_, _, rfl, rfl⟩) (.inl ⟨_, _, rfl, rfl⟩) (by simp)).mono ?_
    rintro e w7 ⟨rfl, hb7⟩
    have k7 := k6.trans (hb7.mono k6.size)
    go_wp2_with fail
    refine (heldStrNil _ _ _).mono ?_
    rintro e w8 ⟨rfl, rfl⟩
    go_wp2_with fail
    go_returns
    exact ⟨rfl, k7⟩

theorem own : ownKnob Tryd.prog.godebug = none := by kernel_rfl
theorem laidOut : laidOutB Tryd.prog = true := by kernel_rfl
set_option maxRecDepth 100000 in
theorem contract (H : Type) (enc : TypeId × Value → H) (W : World) (base : Nat) (args : Array Value) (ds gs : List (DataW H)) (before : List MemPlace)
    (hval : ∀ (j : Nat) t v, Tryd.f9.params[j]? = some t → args[j]? = some v → Value.okWide Tryd.prog W .any base t v)
    (hW : DataW.Whole enc Tryd.prog Tryd.f9.params.toList Rows.fnExactWayOfSpec.vars false W args.toList ds gs before) (hL : laidMetH Tryd.prog Rows.fnExactWayOfRow.laid W) :
    Calls Tryd.prog 9 args W fun e W' => ∃ v, e = .returned v ∧ Rows.fnExactWayOfSpec.post enc Tryd.prog Tryd.f9 false true false false W args v W' := by
  have tab := table_of hL
  have hW' := hW
  obtain ⟨p, q, hA0, hV, rfl, hfz, hnd⟩ := hW
  have hA : DataW.TrodAll enc Tryd.prog W 0 (fun _ => true) true Tryd.f9.params.toList args.toList ds p := hA0
  rw [Tryd.params9] at hA hval
  obtain ⟨v0, vs0, d0, ds0, p0, q0, hargs, rfl, rfl, h0, r0⟩ := trodAll_cons hA
  obtain ⟨v1, vs1, d1, ds1, p1, q1, rfl, rfl, rfl, h1, r1⟩ := trodAll_cons r0
  obtain ⟨rfl, rfl, rfl⟩ := trodAll_nil r1
  obtain rfl : args = #[v0, v1] := by cases args; simp_all
  obtain ⟨g, t, cs, fuel, d, pv, rfl, hg, hty, hv, htr, rfl⟩ := trodVars_one hV
  obtain rfl := Option.some.inj (gTab.symm.trans hg)
  obtain rfl := Option.some.inj (gTabType.symm.trans hty)
  have kv : DataW.Trod enc Tryd.prog W 0 (fun _ => true) true 148 (.agg cs) d pv := ⟨fuel, htr⟩
  have ltv : ∀ x ∈ pv, x.block < W.heap.size := DataW.trod_lt fuel _ _ _ htr
  obtain ⟨s0, rfl, rfl, rfl, hs0⟩ := open_string Tryd.underlying9 (hval 0 9 v0 rfl rfl) h0
  obtain ⟨a1, rfl, rfl, rfl, wa1⟩ := open_int Tryd.underlying3 (hval 1 3 v1 rfl rfl) h1
  clear hA0
  refine (walk s0 hs0 a1 wa1 W tab).mono fun e W' ⟨he, bel⟩ => ?_
  subst he
  obtain ⟨f2, hf2⟩ := Below.trod laidOut (by kernel_rfl) (of_decide_eq_true (by kernel_rfl)) kv bel ltv
  exact ⟨_, rfl, _, _, _, [], _, _, hW', trodAll_mk1 (shut_bool Tryd.underlying4 _), (trodAll_cons_mk (shut_string Tryd.underlying9 hs0) (trodAll_cons_mk (shut_int Tryd.underlying3 wa1) trodAll_mk0)), ⟨0, 148, cs, f2, pv, [], gTab, gTabType, var?_below bel gTab tab.1 hv, hf2, rfl, rfl⟩, bel.frame _, fun h => by cases h⟩

theorem reads (os : Os) {H : Type} (enc : TypeId × Value → H) : ∃ places, DataW.whole enc Tryd.prog (({ World.holding Tryd.prog os ⟨#[], #[], []⟩ with heap := (World.holding Tryd.prog os ⟨#[], #[], []⟩).heap.modify 0 layTab } : World).forCall (fun _ _ => 0) ⟨#[], #[.string ByteArray.empty, .int .i64 0], []⟩).memory Tryd.f9.params.toList Rows.fnExactWayOfSpec.vars false (#[.string ByteArray.empty, .int .i64 0] : Array Value).toList 16 = some ([.lit (.string []), .lit (.int .i64 0)], [Rows.laid_loop_example_g00537_impl_pieceWeights], places) :=
  ⟨MemPlace.row ⟨0, 0, none⟩ 8, by kernel_rfl⟩
theorem laid_met (os : Os) : laidMet Tryd.prog Rows.fnExactWayOfRow.laid (({ World.holding Tryd.prog os ⟨#[], #[], []⟩ with heap := (World.holding Tryd.prog os ⟨#[], #[], []⟩).heap.modify 0 layTab } : World).forCall (fun _ _ => 0) ⟨#[], #[.string ByteArray.empty, .int .i64 0], []⟩).memory :=
  laidMet_of_run' 16 (by kernel_rfl) (by kernel_rfl)
set_option maxRecDepth 100000 in
theorem lifted (os : Os) (started : os.Started) (H : Type) (enc : TypeId × Value → H) (F : Stop.Interp) :
    ReturnsInHanded {} Tryd.checked os 9 .any ((OpenSpec.ofChange Rows.fnExactWayOfSpec).preRow enc Tryd.prog Tryd.f9 Rows.fnExactWayOfRow.domain false Rows.fnExactWayOfRow.laid) (((OpenSpec.ofChange Rows.fnExactWayOfSpec).at F).post enc Tryd.prog Tryd.f9 false true false false) := by
  obtain ⟨places, hx⟩ := reads os enc
  refine returnsInHanded_of_row (C := Tryd.checked) (s := OpenSpec.ofChange Rows.fnExactWayOfSpec) own started (by kernel_rfl) Tryd.func9
    (witness_row_at (enc := enc) (C := Tryd.checked) false ({ World.holding Tryd.prog os ⟨#[], #[], []⟩ with heap := (World.holding Tryd.prog os ⟨#[], #[], []⟩).heap.modify 0 layTab } : World) #[.string ByteArray.empty, .int .i64 0] rfl (by kernel_rfl) (by kernel_rfl) (by kernel_rfl)
      (OpenSpec.preRow_of_cond 16 hx (by kernel_rfl) (fun k hk => by cases hk) (by kernel_rfl) (laid_met os))) ?_
  intro W base args ds gs before hval hW _ _ _ hL _ _
  exact contract H enc W base args ds gs before hval hW hL
theorem said : Rows.FnExactWayOfSaid :=
  OpenClaim.holds_of_cond 9 Tryd.f9 rfl rfl rfl rfl rfl rfl rfl ⟨rfl, rfl, rfl, rfl, rfl⟩ rfl rfl rfl rfl rfl (by kernel_rfl) Tryd.func9 (by kernel_rfl)
    (of_decide_eq_true (by kernel_rfl)) (by unfold Func.isWrapper; first | (rw [if_pos (by decide +kernel)]; kernel_rfl) | (rw [if_neg (by decide +kernel)]; exact ⟨rfl, rfl⟩))
    (fun os started H enc _ F => by rw [OpenClaim.pre_eq_preRow]; exact lifted os started H enc F)
theorem plain (f : FuncId) (fn : Func) (hf : Tryd.pinned.checked.prog.funcNamed Rows.fnExactWayOfRow.func = some f) (hfn : Tryd.pinned.checked.prog.funcs[f]? = some fn) :
    false = Tryd.pinned.checked.prog.looks [] ∧ ∀ (j : Nat) t, fn.params[j]? = some t → Tryd.pinned.checked.prog.wantsStandIn t = false := by
  obtain rfl : f = 9 := Option.some.inj ((show Tryd.prog.funcNamed Rows.fnExactWayOfRow.func = some 9 by kernel_rfl).symm.trans hf) |>.symm
  obtain rfl : fn = Tryd.f9 := (Option.some.inj (Tryd.func9.symm.trans hfn)).symm
  refine ⟨by kernel_rfl, fun j t ht => ?_⟩
  rw [Tryd.params9] at ht
  have hm : t ∈ [9, 3] := by simpa using Array.mem_of_getElem? ht
  have hall : ([9, 3].all fun u => !Tryd.prog.wantsStandIn u) = true := by kernel_rfl
  exact (show Tryd.prog.wantsStandIn t = false by simpa using List.all_eq_true.1 hall t hm)
theorem card : Rows.FnExactWayOfCardSaid :=
  Claim7.holds_tied_plain_at .later [] _ _ _ _ said (fun _ h => by cases h) (by kernel_rfl) (fun _ h => by cases h) fnExactWayOf_row_tie rfl ⟨rfl, rfl⟩ (by kernel_rfl) rfl plain (by kernel_rfl)
end Go.Proofs.YtemkkofjakpjiaaDoor.fnExactWayOf
namespace Go.Proofs.YtemkkofjakpjiaaDoor
theorem fnExactWayOf_card_holds : Rows.FnExactWayOfCardSaid := fnExactWayOf.card
#print axioms fnExactWayOf_card_holds
end Go.Proofs.YtemkkofjakpjiaaDoor
