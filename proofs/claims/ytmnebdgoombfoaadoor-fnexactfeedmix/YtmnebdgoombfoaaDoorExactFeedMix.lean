/- At every mix and every text the function FnExactFeedMix returns true and leaves its arguments as they were: FeedMix answers as its model does. The table of weights lies as the program's text lays it (the card ties that). No other condition. -/
import Derived.Test.YtmnebdgoombfoaaDoorDoor
namespace Go.Proofs.YtmnebdgoombfoaaDoor.fnExactFeedMix
open Go.ChangeShapes Go.WideShapes Go.ChangeAt Go.RowKit Go.Joins
open Go.ChangeMaps (open_string shut_string)
set_option linter.unusedVariables false

set_option maxHeartbeats 1600000 in
theorem walk (a b l : Int) (s : ByteArray) (hs : s.size ≤ maxLen) (w : World) (ht : Table w) :
    Calls Tryd.prog 5 #[.agg #[.int .i64 a, .int .i64 b, .int .i64 l], .string s] w fun e w' => e = .returned (.bool true) ∧ Below w.heap.size w w' := by
  have hs' := hs
  unfold maxLen at hs'
  by_cases hbig : 1048576 < s.size
  · have hb : (1048576 : Int) < (s.size : Int) := by omega
    go_enter Tryd.func5, Tryd.ntmps5
    go_wp2
    go_returns
    exact ⟨rfl, by go_grown⟩
  · have hb : ¬ (1048576 : Int) < (s.size : Int) := by omega
    by_cases h : FeedNo a b l s.size
    · go_enter Tryd.func5, Tryd.ntmps5
      go_wp2_with fail
      refine (toMix a b l _).mono ?_
      rintro e w1 ⟨rfl, hb1⟩
      obtain ⟨hc1, hf1⟩ := bcell hb1
      have hz1 := hb1.size
      try simp only [World.size_drew] at hz1
      try simp only [World.size_setCell] at hz1
      try simp only [World.size_alloc] at hz1
      have hz1_0 : w.heap.size < w1.heap.size := by omega
      clear hz1
      have k1 : Below w.heap.size w w1 := by
        refine Below.trans ?_ (hb1.mono ?_)
        · go_grown
        · go_size
      have hl1 : w.heap.size ≤ w1.heap.size := k1.size
      clear hb1
      go_wp2_with fail
      refine (specFeedNo a b l s _ hs h).mono ?_
      rintro e w2 ⟨rfl, hb2⟩
      obtain ⟨hc2, hf2⟩ := bcell hb2
      have hz2 := hb2.size
      try simp only [World.size_drew] at hz2
      try simp only [World.size_setCell] at hz2
      try simp only [World.size_alloc] at hz2
      have hz2_0 : w.heap.size < w2.heap.size := by omega
      try have hy2_1 : w1.heap.size < w2.heap.size := (by omega)
      clear hz2
      have k2 : Below w.heap.size w w2 := by
        refine Below.trans ?_ (hb2.mono ?_)
        · go_grown
        · go_size
      have hl2 : w.heap.size ≤ w2.heap.size := k2.size
      clear hb2
      go_wp2_with fail
      refine (toMix a b l _).mono ?_
      rintro e w3 ⟨rfl, hb3⟩
      obtain ⟨hc3, hf3⟩ := bcell hb3
      have hz3 := hb3.size
      try simp only [World.size_drew] at hz3
      try simp only [World.size_setCell] at hz3
      try simp only [World.size_alloc] at hz3
      have hz3_0 : w.heap.size < w3.heap.size := by omega
      have hz3_1 : w.heap.size + 1 < w3.heap.size := by omega
      try have hy3_1 : w1.heap.size < w3.heap.size := (by omega)
      try have hy3_2 : w2.heap.size < w3.heap.size := (by omega)
      clear hz3
      have k3 : Below w.heap.size w w3 := by
        refine Below.trans ?_ (hb3.mono ?_)
        · go_grown
        · go_size
      have hl3 : w.heap.size ≤ w3.heap.size := k3.size
      clear hb3
      go_wp2_with fail
      refine (implFeedNo a b l s _ hs h).mono ?_
      rintro e w4 ⟨rfl, hb4⟩
      obtain ⟨hc4, hf4⟩ := bcell hb4
      have hz4 := hb4.size
      try simp only [World.size_drew] at hz4
      try simp only [World.size_setCell] at hz4
      try simp only [World.size_alloc] at hz4
      have hz4_0 : w.heap.size < w4.heap.size := by omega
      have hz4_1 : w.heap.size + 1 < w4.heap.size := by omega
      try have hy4_1 : w1.heap.size < w4.heap.size := (by omega)
      try have hy4_2 : w2.heap.size < w4.heap.size := (by omega)
      try have hy4_3 : w3.heap.size < w4.heap.size := (by omega)
      clear hz4
      have k4 : Below w.heap.size w w4 := by
        refine Below.trans ?_ (hb4.mono ?_)
        · go_grown
        · go_size
      have hl4 : w.heap.size ≤ w4.heap.size := k4.size
      clear hb4
      go_wp2_with fail
      refine (eqMix 0 0 0 _).mono ?_
      rintro e w5 ⟨rfl, hb5⟩
      obtain ⟨hc5, hf5⟩ := bcell hb5
      have hz5 := hb5.size
      try simp only [World.size_drew] at hz5
      try simp only [World.size_setCell] at hz5
      try simp only [World.size_alloc] at hz5
      have hz5_0 : w.heap.size < w5.heap.size := by omega
      have hz5_1 : w.heap.size + 1 < w5.heap.size := by omega
      try have hy5_1 : w1.heap.size < w5.heap.size := (by omega)
      try have hy5_2 : w2.heap.size < w5.heap.size := (by omega)
      try have hy5_3 : w3.heap.size < w5.heap.size := (by omega)
      try have hy5_4 : w4.heap.size < w5.heap.size := (by omega)
      clear hz5
      have k5 : Below w.heap.size w w5 := by
        refine Below.trans ?_ (hb5.mono ?_)
        · go_grown
        · go_size
      have hl5 : w.heap.size ≤ w5.heap.size := k5.size
      clear hb5
      go_wp2
      go_returns
      exact ⟨rfl, by go_grown⟩
    · have g1 : goodB a b l = true := by
        cases e : goodB a b l
        · exact absurd (.inl e) h
        · rfl
      have g2 : s.size ≤ 600 := by
        rcases Nat.lt_or_ge 600 s.size with e | e
        · exact absurd (.inr (.inl ⟨g1, e⟩)) h
        · exact e
      have g3 : l + s.size ≤ 1000000 := by
        rcases Int.lt_or_le 1000000 (l + s.size) with e | e
        · exact absurd (.inr (.inr ⟨g1, g2, e⟩)) h
        · exact e
      clear h
      go_enter Tryd.func5, Tryd.ntmps5
      go_wp2_with fail
      refine (toMix a b l _).mono ?_
      rintro e w1 ⟨rfl, hb1⟩
      obtain ⟨hc1, hf1⟩ := bcell hb1
      have hz1 := hb1.size
      try simp only [World.size_drew] at hz1
      try simp only [World.size_setCell] at hz1
      try simp only [World.size_alloc] at hz1
      have hz1_0 : w.heap.size < w1.heap.size := by omega
      clear hz1
      have k1 : Below w.heap.size w w1 := by
        refine Below.trans ?_ (hb1.mono ?_)
        · go_grown
        · go_size
      have hl1 : w.heap.size ≤ w1.heap.size := k1.size
      clear hb1
      go_wp2_with fail
      refine (specFeedYes a b l s _ g1 g2 g3).mono ?_
      rintro e w2 ⟨rfl, hb2⟩
      obtain ⟨hc2, hf2⟩ := bcell hb2
      have hz2 := hb2.size
      try simp only [World.size_drew] at hz2
      try simp only [World.size_setCell] at hz2
      try simp only [World.size_alloc] at hz2
      have hz2_0 : w.heap.size < w2.heap.size := by omega
      try have hy2_1 : w1.heap.size < w2.heap.size := (by omega)
      clear hz2
      have k2 : Below w.heap.size w w2 := by
        refine Below.trans ?_ (hb2.mono ?_)
        · go_grown
        · go_size
      have hl2 : w.heap.size ≤ w2.heap.size := k2.size
      clear hb2
      go_wp2_with fail
      refine (toMix a b l _).mono ?_
      rintro e w3 ⟨rfl, hb3⟩
      obtain ⟨hc3, hf3⟩ := bcell hb3
      have hz3 := hb3.size
      try simp only [World.size_drew] at hz3
      try simp only [World.size_setCell] at hz3
      try simp only [World.size_alloc] at hz3
      have hz3_0 : w.heap.size < w3.heap.size := by omega
      have hz3_1 : w.heap.size + 1 < w3.heap.size := by omega
      try have hy3_1 : w1.heap.size < w3.heap.size := (by omega)
      try have hy3_2 : w2.heap.size < w3.heap.size := (by omega)
      clear hz3
      have k3 : Below w.heap.size w w3 := by
        refine Below.trans ?_ (hb3.mono ?_)
        · go_grown
        · go_size
      have hl3 : w.heap.size ≤ w3.heap.size := k3.size
      clear hb3
      go_wp2_with fail
      refine (implFeedYes a b l s _ g1 g2 g3 (ht.below k3)).mono ?_
      rintro e w4 ⟨rfl, hb4⟩
      obtain ⟨hc4, hf4⟩ := bcell hb4
      have hz4 := hb4.size
      try simp only [World.size_drew] at hz4
      try simp only [World.size_setCell] at hz4
      try simp only [World.size_alloc] at hz4
      have hz4_0 : w.heap.size < w4.heap.size := by omega
      have hz4_1 : w.heap.size + 1 < w4.heap.size := by omega
      try have hy4_1 : w1.heap.size < w4.heap.size := (by omega)
      try have hy4_2 : w2.heap.size < w4.heap.size := (by omega)
      try have hy4_3 : w3.heap.size < w4.heap.size := (by omega)
      clear hz4
      have k4 : Below w.heap.size w w4 := by
        refine Below.trans ?_ (hb4.mono ?_)
        · go_grown
        · go_size
      have hl4 : w.heap.size ≤ w4.heap.size := k4.size
      clear hb4
      go_wp2_with fail
      refine (eqMix _ _ _ _).mono ?_
      rintro e w5 ⟨rfl, hb5⟩
      obtain ⟨hc5, hf5⟩ := bcell hb5
      have hz5 := hb5.size
      try simp only [World.size_drew] at hz5
      try simp only [World.size_setCell] at hz5
      try simp only [World.size_alloc] at hz5
      have hz5_0 : w.heap.size < w5.heap.size := by omega
      have hz5_1 : w.heap.size + 1 < w5.heap.size := by omega
      try have hy5_1 : w1.heap.size < w5.heap.size := (by omega)
      try have hy5_2 : w2.heap.size < w5.heap.size := (by omega)
      try have hy5_3 : w3.heap.size < w5.heap.size := (by omega)
      try have hy5_4 : w4.heap.size < w5.heap.size := (by omega)
      clear hz5
      have k5 : Below w.heap.size w w5 := by
        refine Below.trans ?_ (hb5.mono ?_)
        · go_grown
        · go_size
      have hl5 : w.heap.size ≤ w5.heap.size := k5.size
      clear hb5
      go_wp2
      go_returns
      exact ⟨rfl, by go_grown⟩

theorem own : ownKnob Tryd.prog.godebug = none := by kernel_rfl
theorem laidOut : laidOutB Tryd.prog = true := by kernel_rfl
theorem cellsMix : Tryd.prog.cellsOf 51 = 3 := by kernel_rfl
theorem contract (H : Type) (enc : TypeId × Value → H) (W : World) (base : Nat) (args : Array Value) (ds gs : List (DataW H)) (before : List MemPlace)
    (hval : ∀ (j : Nat) t v, Tryd.f5.params[j]? = some t → args[j]? = some v → Value.okWide Tryd.prog W .any base t v)
    (hW : DataW.Whole enc Tryd.prog Tryd.f5.params.toList Rows.fnExactFeedMixSpec.vars false W args.toList ds gs before) (hL : laidMetH Tryd.prog Rows.fnExactFeedMixRow.laid W) :
    Calls Tryd.prog 5 args W fun e W' => ∃ v, e = .returned v ∧ Rows.fnExactFeedMixSpec.post enc Tryd.prog Tryd.f5 false true false false W args v W' := by
  have tab := table_of hL
  have hW' := hW
  obtain ⟨p, q, hA0, hV, rfl, hfz, hnd⟩ := hW
  have hA : DataW.TrodAll enc Tryd.prog W 0 (fun _ => true) true Tryd.f5.params.toList args.toList ds p := hA0
  rw [Tryd.params5] at hA hval
  obtain ⟨v0, vs0, d0, ds0, p0, q0, hargs, rfl, rfl, h0, r0⟩ := trodAll_cons hA
  obtain ⟨v1, vs1, d1, ds1, p1, q1, rfl, rfl, rfl, h1, r1⟩ := trodAll_cons r0
  obtain ⟨rfl, rfl, rfl⟩ := trodAll_nil r1
  obtain rfl : args = #[v0, v1] := by cases args; simp_all
  obtain ⟨g, t, cs, fuel, d, pv, rfl, hg, hty, hv, htr, rfl⟩ := trodVars_one hV
  obtain rfl := Option.some.inj (gTab.symm.trans hg)
  obtain rfl := Option.some.inj (gTabType.symm.trans hty)
  have kv : DataW.Trod enc Tryd.prog W 0 (fun _ => true) true 81 (.agg cs) d pv := ⟨fuel, htr⟩
  have ltv : ∀ x ∈ pv, x.block < W.heap.size := DataW.trod_lt fuel _ _ _ htr
  obtain ⟨c0, c1, c2, y0, y1, y2, m0, rfl, rfl, rfl, hy0, hy1, hy2⟩ := open_agg3 Tryd.underlying51 (by kernel_rfl) cellsMix (hval 0 51 v0 rfl rfl) h0
  obtain ⟨a0, e0, rfl, wa0⟩ := DataW.trod_int Tryd.underlying3 hy0
  obtain ⟨b0, e1, rfl, wb0⟩ := DataW.trod_int Tryd.underlying3 hy1
  obtain ⟨l0, e2, rfl, wl0⟩ := DataW.trod_int Tryd.underlying3 hy2
  simp at e0 e1 e2
  subst e0 e1 e2
  have reads0 : ∀ (W' : World) (sp : Nat → Bool), DataW.Trod enc Tryd.prog W' 0 sp true 51 (.agg #[.int .i64 a0, .int .i64 b0, .int .i64 l0]) (.agg [.lit (.int .i64 a0), .lit (.int .i64 b0), .lit (.int .i64 l0)]) [] := fun W' sp =>
    shut_agg3 (y0 := (.lit (.int .i64 a0), [])) (y1 := (.lit (.int .i64 b0), [])) (y2 := (.lit (.int .i64 l0), [])) Tryd.underlying51 (by kernel_rfl) cellsMix
      ⟨1, by simp [DataW.trod, Tryd.underlying3, wa0]⟩ ⟨1, by simp [DataW.trod, Tryd.underlying3, wb0]⟩ ⟨1, by simp [DataW.trod, Tryd.underlying3, wl0]⟩
  obtain ⟨s1, rfl, rfl, rfl, hs1⟩ := open_string Tryd.underlying9 (hval 1 9 v1 rfl rfl) h1
  clear hA0
  refine (walk a0 b0 l0 s1 hs1 W tab).mono fun e W' ⟨he, bel⟩ => ?_
  subst he
  obtain ⟨f2, hf2⟩ := Below.trod laidOut (by kernel_rfl) (of_decide_eq_true (by kernel_rfl)) kv bel ltv
  exact ⟨_, rfl, _, _, _, [], _, _, hW', trodAll_mk1 (shut_bool Tryd.underlying4 _), (trodAll_cons_mk (reads0 _ _) (trodAll_cons_mk (shut_string Tryd.underlying9 hs1) trodAll_mk0)), ⟨0, 81, cs, f2, pv, [], gTab, gTabType, var?_below bel gTab tab.1 hv, hf2, rfl, rfl⟩, bel.frame _, fun h => by cases h⟩

theorem reads (os : Os) {H : Type} (enc : TypeId × Value → H) : ∃ places, DataW.whole enc Tryd.prog (({ World.holding Tryd.prog os ⟨#[], #[], []⟩ with heap := (World.holding Tryd.prog os ⟨#[], #[], []⟩).heap.modify 0 layTab } : World).forCall (fun _ _ => 0) ⟨#[], #[.agg #[.int .i64 0, .int .i64 0, .int .i64 0], .string ByteArray.empty], []⟩).memory Tryd.f5.params.toList Rows.fnExactFeedMixSpec.vars false (#[.agg #[.int .i64 0, .int .i64 0, .int .i64 0], .string ByteArray.empty] : Array Value).toList 16 = some ([.agg [.lit (.int .i64 0), .lit (.int .i64 0), .lit (.int .i64 0)], .lit (.string [])], [Rows.laid_loop_example_g00537_impl_pieceWeights], places) :=
  ⟨MemPlace.row ⟨0, 0, none⟩ 8, by kernel_rfl⟩
theorem laid_met (os : Os) : laidMet Tryd.prog Rows.fnExactFeedMixRow.laid (({ World.holding Tryd.prog os ⟨#[], #[], []⟩ with heap := (World.holding Tryd.prog os ⟨#[], #[], []⟩).heap.modify 0 layTab } : World).forCall (fun _ _ => 0) ⟨#[], #[.agg #[.int .i64 0, .int .i64 0, .int .i64 0], .string ByteArray.empty], []⟩).memory :=
  laidMet_of_run' 16 (by kernel_rfl) (by kernel_rfl)
set_option maxRecDepth 100000 in
theorem lifted (os : Os) (started : os.Started) (H : Type) (enc : TypeId × Value → H) (F : Stop.Interp) :
    ReturnsInHanded {} Tryd.checked os 5 .any ((OpenSpec.ofChange Rows.fnExactFeedMixSpec).preRow enc Tryd.prog Tryd.f5 Rows.fnExactFeedMixRow.domain false Rows.fnExactFeedMixRow.laid) (((OpenSpec.ofChange Rows.fnExactFeedMixSpec).at F).post enc Tryd.prog Tryd.f5 false true false false) := by
  obtain ⟨places, hx⟩ := reads os enc
  refine returnsInHanded_of_row (C := Tryd.checked) (s := OpenSpec.ofChange Rows.fnExactFeedMixSpec) own started (by kernel_rfl) Tryd.func5
    (witness_row_at (enc := enc) (C := Tryd.checked) false ({ World.holding Tryd.prog os ⟨#[], #[], []⟩ with heap := (World.holding Tryd.prog os ⟨#[], #[], []⟩).heap.modify 0 layTab } : World) #[.agg #[.int .i64 0, .int .i64 0, .int .i64 0], .string ByteArray.empty] rfl (by kernel_rfl) (by kernel_rfl) (by kernel_rfl)
      (OpenSpec.preRow_of_cond 16 hx (by kernel_rfl) (fun k hk => by cases hk) (by kernel_rfl) (laid_met os))) ?_
  intro W base args ds gs before hval hW _ _ _ hL _ _
  exact contract H enc W base args ds gs before hval hW hL
theorem said : Rows.FnExactFeedMixSaid :=
  OpenClaim.holds_of_cond 5 Tryd.f5 rfl rfl rfl rfl rfl rfl rfl ⟨rfl, rfl, rfl, rfl, rfl⟩ rfl rfl rfl rfl rfl (by kernel_rfl) Tryd.func5 (by kernel_rfl)
    (of_decide_eq_true (by kernel_rfl)) (by unfold Func.isWrapper; first | (rw [if_pos (by decide +kernel)]; kernel_rfl) | (rw [if_neg (by decide +kernel)]; exact ⟨rfl, rfl⟩))
    (fun os started H enc _ F => by rw [OpenClaim.pre_eq_preRow]; exact lifted os started H enc F)
theorem plain (f : FuncId) (fn : Func) (hf : Tryd.pinned.checked.prog.funcNamed Rows.fnExactFeedMixRow.func = some f) (hfn : Tryd.pinned.checked.prog.funcs[f]? = some fn) :
    false = Tryd.pinned.checked.prog.looks [] ∧ ∀ (j : Nat) t, fn.params[j]? = some t → Tryd.pinned.checked.prog.wantsStandIn t = false := by
  obtain rfl : f = 5 := Option.some.inj ((show Tryd.prog.funcNamed Rows.fnExactFeedMixRow.func = some 5 by kernel_rfl).symm.trans hf) |>.symm
  obtain rfl : fn = Tryd.f5 := (Option.some.inj (Tryd.func5.symm.trans hfn)).symm
  refine ⟨by kernel_rfl, fun j t ht => ?_⟩
  rw [Tryd.params5] at ht
  have hm : t ∈ [51, 9] := by simpa using Array.mem_of_getElem? ht
  have hall : ([51, 9].all fun u => !Tryd.prog.wantsStandIn u) = true := by kernel_rfl
  exact (show Tryd.prog.wantsStandIn t = false by simpa using List.all_eq_true.1 hall t hm)
theorem card : Rows.FnExactFeedMixCardSaid :=
  Claim7.holds_tied_plain_at .later [] _ _ _ _ said (fun _ h => by cases h) (by kernel_rfl) (fun _ h => by cases h) fnExactFeedMix_row_tie rfl ⟨rfl, rfl⟩ (by kernel_rfl) rfl plain (by kernel_rfl)
end Go.Proofs.YtmnebdgoombfoaaDoor.fnExactFeedMix
namespace Go.Proofs.YtmnebdgoombfoaaDoor
theorem fnExactFeedMix_card_holds : Rows.FnExactFeedMixCardSaid := fnExactFeedMix.card
#print axioms fnExactFeedMix_card_holds
end Go.Proofs.YtmnebdgoombfoaaDoor
