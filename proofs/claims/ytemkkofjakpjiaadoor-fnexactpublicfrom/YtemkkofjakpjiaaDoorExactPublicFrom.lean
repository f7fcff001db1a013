/- At every argument the function FnExactPublicFrom returns true and leaves its arguments as they were: PublicFrom answers as its model does. The table of weights lies as the program's text lays it (the card ties that). No other condition. -/
import Derived.Test.YtemkkofjakpjiaaDoorDoor
import Derived.Test.YtemkkofjakpjiaaDoorFrom2
namespace Go.Proofs.YtemkkofjakpjiaaDoor.fnExactPublicFrom
open Go.ChangeShapes Go.WideShapes Go.ChangeAt Go.RowKit Go.Joins
open Go.ChangeMaps (open_string shut_string)
set_option linter.unusedVariables false

theorem szR_neg {ss : List ByteArray} (h : 1048576 < ss.length + sumS ss) : szR ss = -1 := by unfold szR; rw [if_neg (by omega)]
theorem szR_pos {ss : List ByteArray} (h : ss.length + sumS ss ≤ 1048576) : 0 ≤ szR ss := by unfold szR; rw [if_pos h]; omega

set_option maxHeartbeats 3200000 in
theorem walk (t : ByteArray) (hmt : t.size ≤ maxLen) (v : Value) (ss : List ByteArray) (hsl : ss.length ≤ maxLen) (hsm : ∀ s ∈ ss, s.size ≤ maxLen) (w : World) (ht : Table w) (hss : StrsAt w v ss) :
    Calls Tryd.prog 7 #[.string t, v] w fun e w' => e = .returned (.bool true) ∧ Below w.heap.size w w' := by
  have hmt2 := hmt
  unfold maxLen at hmt2
  by_cases hbigt : 1048576 < t.size
  · have hb1 : (1048576 : Int) < (t.size : Int) := by omega
    clear hss
    go_enter Tryd.func7, Tryd.ntmps7
    go_wp2
    go_returns
    exact ⟨rfl, by go_grown⟩
  have hbt : ¬ (1048576 : Int) < (t.size : Int) := by omega
  have HSZ := szStr v ss w hss hsl hsm
  by_cases hbig : 1048576 < ss.length + sumS ss
  · rw [szR_neg hbig] at HSZ
    go_enter Tryd.func7, Tryd.ntmps7
    go_wp2_with fail
    refine HSZ.mono ?_
    rintro e w1 ⟨rfl, hw1⟩
    subst hw1
    clear HSZ
    go_wp2
    go_returns
    exact ⟨rfl, by go_grown⟩
  · have hpos := szR_pos (ss := ss) (by omega)
    generalize szR ss = z at *
    have hzn : ¬ z < 0 := by omega
    have hl : ss.length ≤ 1048576 := by omega
    by_cases hyes : FromYes t ss
    all_goals
      go_enter Tryd.func7, Tryd.ntmps7
      go_wp2_with fail
      refine HSZ.mono ?_
      rintro e w0 ⟨rfl, hw0⟩
      subst hw0
      clear HSZ
      go_wp2_with fail
      refine (toStr v ss _ hss hl).mono ?_
      rintro e w1 ⟨v1, rfl, hs1, k1⟩
      have hl1 := k1.size
      go_wp2_with fail
      first
        | (refine (specFromYes t v1 ss _ hs1 hl hyes).mono ?_)
        | (refine (specFromNo t v1 ss _ hmt hs1 hl hyes).mono ?_)
      rintro e w2 ⟨rfl, hb2⟩
      have k2 := k1.trans (hb2.mono hl1)
      have hl2 := k2.size
      clear hb2
      go_wp2_with fail
      refine (toStr v ss _ (hss.below k2) hl).mono ?_
      rintro e w3 ⟨v3, rfl, hs3, hb3⟩
      have k3 := k2.trans (hb3.mono hl2)
      have hl3 := k3.size
      clear hb3
      go_wp2_with fail
      first
        | (refine (implFromYes t v3 ss _ hs3 hl hyes (ht.below k3)).mono ?_)
        | (refine (implFromNo t v3 ss _ hmt hs3 hl hyes (ht.below k3)).mono ?_)
      rintro e w4 ⟨rfl, hb4⟩
      have hs4 := hs3.below hb4
      have k4 := k3.trans (hb4.mono hl3)
      have hl4 := k4.size
      clear hb4
      go_wp2_with fail
      refine (toStr v ss _ (hss.below k4) hl).mono ?_
      rintro e w5 ⟨v5, rfl, hs5, hb5⟩
      have hs6 := hs4.below hb5
      have k5 := k4.trans (hb5.mono hl4)
      have hl5 := k5.size
      clear hb5
      go_wp2_with fail
      refine (eqStr v3 v5 ss _ hs6 hs5 hl).mono ?_
      rintro e w6 ⟨rfl, hb6⟩
      have k6 := k5.trans (hb6.mono hl5)
      clear hb6
      go_wp2
      go_returns
      exact ⟨rfl, k6⟩

theorem own : ownKnob Tryd.prog.godebug = none := by kernel_rfl
theorem laidOut : laidOutB Tryd.prog = true := by kernel_rfl
set_option maxRecDepth 100000 in
theorem contract (H : Type) (enc : TypeId × Value → H) (W : World) (base : Nat) (args : Array Value) (ds gs : List (DataW H)) (before : List MemPlace)
    (hval : ∀ (j : Nat) t v, Tryd.f7.params[j]? = some t → args[j]? = some v → Value.okWide Tryd.prog W .any base t v)
    (hW : DataW.Whole enc Tryd.prog Tryd.f7.params.toList Rows.fnExactPublicFromSpec.vars false W args.toList ds gs before) (hL : laidMetH Tryd.prog Rows.fnExactPublicFromRow.laid W) :
    Calls Tryd.prog 7 args W fun e W' => ∃ v, e = .returned v ∧ Rows.fnExactPublicFromSpec.post enc Tryd.prog Tryd.f7 false true false false W args v W' := by
  have tab := table_of hL
  have hW' := hW
  obtain ⟨p, q, hA0, hV, rfl, hfz, hnd⟩ := hW
  have hA : DataW.TrodAll enc Tryd.prog W 0 (fun _ => true) true Tryd.f7.params.toList args.toList ds p := hA0
  rw [Tryd.params7] at hA hval
  obtain ⟨v0, vs0, d0, ds0, p0, q0, hargs, rfl, rfl, h0, r0⟩ := trodAll_cons hA
  obtain ⟨v1, vs1, d1, ds1, p1, q1, rfl, rfl, rfl, h1, r1⟩ := trodAll_cons r0
  obtain ⟨rfl, rfl, rfl⟩ := trodAll_nil r1
  obtain rfl : args = #[v0, v1] := by cases args; simp_all
  obtain ⟨g, t, cs, fuel, d, pv, rfl, hg, hty, hv, htr, rfl⟩ := trodVars_one hV
  obtain rfl := Option.some.inj (gTab.symm.trans hg)
  obtain rfl := Option.some.inj (gTabType.symm.trans hty)
  have kv : DataW.Trod enc Tryd.prog W 0 (fun _ => true) true 148 (.agg cs) d pv := ⟨fuel, htr⟩
  have ltv : ∀ x ∈ pv, x.block < W.heap.size := DataW.trod_lt fuel _ _ _ htr
  obtain ⟨s0, rfl, rfl, rfl, hs0⟩ := open_string Tryd.underlying9 (hval 0 9 v0 rfl rfl) h0
  obtain ⟨ad1, len1, cap1, rfl⟩ := okWide_slice Tryd.underlying25 (hval 1 25 v1 rfl rfl)
  have kk1 := h1
  have lt1 : ∀ x ∈ p1, x.block < W.heap.size := by obtain ⟨m, hm⟩ := kk1; exact DataW.trod_lt m _ _ _ hm
  obtain ⟨ss1, hss1, hsl1, hsm1⟩ := strs_of h1
  clear hA0
  refine (walk s0 hs0 _ ss1 hsl1 hsm1 W tab hss1).mono fun e W' ⟨he, bel⟩ => ?_
  subst he
  obtain ⟨f2, hf2⟩ := Below.trod laidOut (by kernel_rfl) (of_decide_eq_true (by kernel_rfl)) kv bel ltv
  exact ⟨_, rfl, _, _, _, [], _, _, hW', trodAll_mk1 (shut_bool Tryd.underlying4 _), (trodAll_cons_mk (shut_string Tryd.underlying9 hs0) (trodAll_cons_mk (Below.trod laidOut (by kernel_rfl) (of_decide_eq_true (by kernel_rfl)) kk1 bel lt1) trodAll_mk0)), ⟨0, 148, cs, f2, pv, [], gTab, gTabType, var?_below bel gTab tab.1 hv, hf2, rfl, rfl⟩, bel.frame _, fun h => by cases h⟩

theorem reads (os : Os) {H : Type} (enc : TypeId × Value → H) : ∃ places, DataW.whole enc Tryd.prog (({ World.holding Tryd.prog os ⟨#[], #[], []⟩ with heap := (World.holding Tryd.prog os ⟨#[], #[], []⟩).heap.modify 0 layTab } : World).forCall (fun _ _ => 0) ⟨#[], #[.string ByteArray.empty, .slice none 0 0], []⟩).memory Tryd.f7.params.toList Rows.fnExactPublicFromSpec.vars false (#[.string ByteArray.empty, .slice none 0 0] : Array Value).toList 16 = some ([.lit (.string []), .nil], [Rows.laid_loop_example_g00537_impl_pieceWeights], places) :=
  ⟨MemPlace.row ⟨0, 0, none⟩ 8, by kernel_rfl⟩
theorem laid_met (os : Os) : laidMet Tryd.prog Rows.fnExactPublicFromRow.laid (({ World.holding Tryd.prog os ⟨#[], #[], []⟩ with heap := (World.holding Tryd.prog os ⟨#[], #[], []⟩).heap.modify 0 layTab } : World).forCall (fun _ _ => 0) ⟨#[], #[.string ByteArray.empty, .slice none 0 0], []⟩).memory :=
  laidMet_of_run' 16 (by kernel_rfl) (by kernel_rfl)
set_option maxRecDepth 100000 in
theorem lifted (os : Os) (started : os.Started) (H : Type) (enc : TypeId × Value → H) (F : Stop.Interp) :
    ReturnsInHanded {} Tryd.checked os 7 .any ((OpenSpec.ofChange Rows.fnExactPublicFromSpec).preRow enc Tryd.prog Tryd.f7 Rows.fnExactPublicFromRow.domain false Rows.fnExactPublicFromRow.laid) (((OpenSpec.ofChange Rows.fnExactPublicFromSpec).at F).post enc Tryd.prog Tryd.f7 false true false false) := by
  obtain ⟨places, hx⟩ := reads os enc
  refine returnsInHanded_of_row (C := Tryd.checked) (s := OpenSpec.ofChange Rows.fnExactPublicFromSpec) own started (by kernel_rfl) Tryd.func7
    (witness_row_at (enc := enc) (C := Tryd.checked) false ({ World.holding Tryd.prog os ⟨#[], #[], []⟩ with heap := (World.holding Tryd.prog os ⟨#[], #[], []⟩).heap.modify 0 layTab } : World) #[.string ByteArray.empty, .slice none 0 0] rfl (by kernel_rfl) (by kernel_rfl) (by kernel_rfl)
      (OpenSpec.preRow_of_cond 16 hx (by kernel_rfl) (fun k hk => by cases hk) (by kernel_rfl) (laid_met os))) ?_
  intro W base args ds gs before hval hW _ _ _ hL _ _
  exact contract H enc W base args ds gs before hval hW hL
theorem said : Rows.FnExactPublicFromSaid :=
  OpenClaim.holds_of_cond 7 Tryd.f7 rfl rfl rfl rfl rfl rfl rfl ⟨rfl, rfl, rfl, rfl, rfl⟩ rfl rfl rfl rfl rfl (by kernel_rfl) Tryd.func7 (by kernel_rfl)
    (of_decide_eq_true (by kernel_rfl)) (by unfold Func.isWrapper; first | (rw [if_pos (by decide +kernel)]; kernel_rfl) | (rw [if_neg (by decide +kernel)]; exact ⟨rfl, rfl⟩))
    (fun os started H enc _ F => by rw [OpenClaim.pre_eq_preRow]; exact lifted os started H enc F)
theorem plain (f : FuncId) (fn : Func) (hf : Tryd.pinned.checked.prog.funcNamed Rows.fnExactPublicFromRow.func = some f) (hfn : Tryd.pinned.checked.prog.funcs[f]? = some fn) :
    false = Tryd.pinned.checked.prog.looks [] ∧ ∀ (j : Nat) t, fn.params[j]? = some t → Tryd.pinned.checked.prog.wantsStandIn t = false := by
  obtain rfl : f = 7 := Option.some.inj ((show Tryd.prog.funcNamed Rows.fnExactPublicFromRow.func = some 7 by kernel_rfl).symm.trans hf) |>.symm
  obtain rfl : fn = Tryd.f7 := (Option.some.inj (Tryd.func7.symm.trans hfn)).symm
  refine ⟨by kernel_rfl, fun j t ht => ?_⟩
  rw [Tryd.params7] at ht
  have hm : t ∈ [9, 25] := by simpa using Array.mem_of_getElem? ht
  have hall : ([9, 25].all fun u => !Tryd.prog.wantsStandIn u) = true := by kernel_rfl
  exact (show Tryd.prog.wantsStandIn t = false by simpa using List.all_eq_true.1 hall t hm)
theorem card : Rows.FnExactPublicFromCardSaid :=
  Claim7.holds_tied_plain_at .later [] _ _ _ _ said (fun _ h => by cases h) (by kernel_rfl) (fun _ h => by cases h) fnExactPublicFrom_row_tie rfl ⟨rfl, rfl⟩ (by kernel_rfl) rfl plain (by kernel_rfl)
end Go.Proofs.YtemkkofjakpjiaaDoor.fnExactPublicFrom
namespace Go.Proofs.YtemkkofjakpjiaaDoor
theorem fnExactPublicFrom_card_holds : Rows.FnExactPublicFromCardSaid := fnExactPublicFrom.card
#print axioms fnExactPublicFrom_card_holds
end Go.Proofs.YtemkkofjakpjiaaDoor
