/- At every mix the function FnExactEndMix returns true and leaves its argument as it was: EndMix answers as its model does. No condition. -/
import Derived.Test.YtmnebdgoombfoaaEndJoin
import Derived.Lib.SmallJoins
namespace Go.Proofs.Ytmnebdgoombfoaa.fnExactEndMix
open Go.ChangeShapes Go.WideShapes Go.ChangeAt Go.RowKit Go.Joins
open Go.ChangeMaps (open_string shut_string)
set_option linter.unusedVariables false

set_option maxHeartbeats 800000 in
theorem walk (a b l : Int) (w : World) :
    Calls Try.prog 5 #[.agg #[.int .i64 a, .int .i64 b, .int .i64 l]] w fun e w' => e = .returned (.bool true) ∧ Below w.heap.size w w' := by
  cases hg : goodB a b l
  · go_enter Try.func5, Try.ntmps5
    go_wp2_with fail
    refine (toMix a b l _).mono ?_
    rintro e w1 ⟨rfl, hb1⟩
    obtain ⟨hc1, hf1⟩ := bcell hb1
    have hz1 := hb1.size
    try simp only [World.size_drew] at hz1
    try simp only [World.size_setCell] at hz1
    try simp only [World.size_alloc] at hz1
    have hz1_0 : w.heap.size < w1.heap.size := by omega
    clear hz1
    have k1 : Below w.heap.size w w1 := by
      refine Below.trans ?_ (hb1.mono ?_)
      · go_grown
      · go_size
    clear hb1
    go_wp2_with fail
    refine (specEndNo a b l _ hg).mono ?_
    rintro e w2 ⟨rfl, hb2⟩
    obtain ⟨hc2, hf2⟩ := bcell hb2
    have hz2 := hb2.size
    try simp only [World.size_drew] at hz2
    try simp only [World.size_setCell] at hz2
    try simp only [World.size_alloc] at hz2
    have hz2_0 : w.heap.size < w2.heap.size := by omega
    clear hz2
    have k2 : Below w.heap.size w w2 := by
      refine Below.trans ?_ (hb2.mono ?_)
      · go_grown
      · go_size
    clear hb2
    go_wp2_with fail
    refine (toMix a b l _).mono ?_
    rintro e w3 ⟨rfl, hb3⟩
    obtain ⟨hc3, hf3⟩ := bcell hb3
    have hz3 := hb3.size
    try simp only [World.size_drew] at hz3
    try simp only [World.size_setCell] at hz3
    try simp only [World.size_alloc] at hz3
    have hz3_0 : w.heap.size < w3.heap.size := by omega
    clear hz3
    have k3 : Below w.heap.size w w3 := by
      refine Below.trans ?_ (hb3.mono ?_)
      · go_grown
      · go_size
    clear hb3
    go_wp2_with fail
    refine (implEndNo a b l _ hg).mono ?_
    rintro e w4 ⟨rfl, hb4⟩
    obtain ⟨hc4, hf4⟩ := bcell hb4
    have hz4 := hb4.size
    try simp only [World.size_drew] at hz4
    try simp only [World.size_setCell] at hz4
    try simp only [World.size_alloc] at hz4
    have hz4_0 : w.heap.size < w4.heap.size := by omega
    clear hz4
    have k4 : Below w.heap.size w w4 := by
      refine Below.trans ?_ (hb4.mono ?_)
      · go_grown
      · go_size
    clear hb4
    go_wp2
    go_returns
    exact ⟨rfl, by go_grown⟩
  · go_enter Try.func5, Try.ntmps5
    go_wp2_with fail
    refine (toMix a b l _).mono ?_
    rintro e w1 ⟨rfl, hb1⟩
    obtain ⟨hc1, hf1⟩ := bcell hb1
    have hz1 := hb1.size
    try simp only [World.size_drew] at hz1
    try simp only [World.size_setCell] at hz1
    try simp only [World.size_alloc] at hz1
    have hz1_0 : w.heap.size < w1.heap.size := by omega
    clear hz1
    have k1 : Below w.heap.size w w1 := by
      refine Below.trans ?_ (hb1.mono ?_)
      · go_grown
      · go_size
    clear hb1
    go_wp2_with fail
    refine (specEndYes a b l _ hg).mono ?_
    rintro e w2 ⟨rfl, hb2⟩
    obtain ⟨hc2, hf2⟩ := bcell hb2
    have hz2 := hb2.size
    try simp only [World.size_drew] at hz2
    try simp only [World.size_setCell] at hz2
    try simp only [World.size_alloc] at hz2
    have hz2_0 : w.heap.size < w2.heap.size := by omega
    clear hz2
    have k2 : Below w.heap.size w w2 := by
      refine Below.trans ?_ (hb2.mono ?_)
      · go_grown
      · go_size
    clear hb2
    go_wp2_with fail
    refine (toMix a b l _).mono ?_
    rintro e w3 ⟨rfl, hb3⟩
    obtain ⟨hc3, hf3⟩ := bcell hb3
    have hz3 := hb3.size
    try simp only [World.size_drew] at hz3
    try simp only [World.size_setCell] at hz3
    try simp only [World.size_alloc] at hz3
    have hz3_0 : w.heap.size < w3.heap.size := by omega
    clear hz3
    have k3 : Below w.heap.size w w3 := by
      refine Below.trans ?_ (hb3.mono ?_)
      · go_grown
      · go_size
    clear hb3
    go_wp2_with fail
    refine (implEndYes a b l _ hg).mono ?_
    rintro e w4 ⟨rfl, hb4⟩
    obtain ⟨hc4, hf4⟩ := bcell hb4
    have hz4 := hb4.size
    try simp only [World.size_drew] at hz4
    try simp only [World.size_setCell] at hz4
    try simp only [World.size_alloc] at hz4
    have hz4_0 : w.heap.size < w4.heap.size := by omega
    clear hz4
    have k4 : Below w.heap.size w w4 := by
      refine Below.trans ?_ (hb4.mono ?_)
      · go_grown
      · go_size
    clear hb4
    go_wp2
    go_returns
    exact ⟨rfl, by go_grown⟩

theorem own : ownKnob Try.prog.godebug = none := by kernel_rfl
theorem laidOut : laidOutB Try.prog = true := by kernel_rfl
theorem cellsMix : Try.prog.cellsOf 28 = 3 := by kernel_rfl
set_option maxRecDepth 100000 in
theorem lifted (os : Os) (started : os.Started) (H : Type) (enc : TypeId × Value → H) :
    ReturnsInHanded {} Try.checked os 5 .any (Rows.fnExactEndMixSpec.pre6 enc Try.prog Try.f5 Rows.fnExactEndMixRow.domain false) (Rows.fnExactEndMixSpec.post enc Try.prog Try.f5 false true false false) := by
  refine returnsInHanded_of_change (C := Try.checked) own started (by kernel_rfl) Try.func5
    (ChangeSpec.witness6 (enc := enc) (C := Try.checked) false ⟨#[], #[.agg #[.int .i64 0, .int .i64 0, .int .i64 0]], []⟩ 8 (by kernel_rfl) (by kernel_rfl) (by kernel_rfl) (by kernel_rfl)) ?_
  intro W base args ds gs before hval0 hW hcnd _
  have hval : ∀ (j : Nat) t v, Try.f5.params[j]? = some t → args[j]? = some v → Value.okWide Try.prog W .any base t v := hval0
  have hW' := hW
  obtain ⟨p, q, hA0, hV, rfl, hfz, hnd⟩ := hW
  have hA : DataW.TrodAll enc Try.prog W 0 (fun _ => true) true Try.f5.params.toList args.toList ds p := hA0
  rw [Try.params5] at hA hval
  obtain ⟨v0, vs0, d0, ds0, p0, q0, hargs, rfl, rfl, h0, r0⟩ := trodAll_cons hA
  obtain ⟨rfl, rfl, rfl⟩ := trodAll_nil r0
  obtain rfl : args = #[v0] := by cases args; simp_all
  obtain ⟨rfl, rfl⟩ := trodVars_none hV
  obtain ⟨c0, c1, c2, y0, y1, y2, m0, rfl, rfl, rfl, hy0, hy1, hy2⟩ := open_agg3 Try.underlying28 (by kernel_rfl) cellsMix (hval 0 28 v0 rfl rfl) h0
  obtain ⟨a0, e0, rfl, wa0⟩ := DataW.trod_int Try.underlying3 hy0
  obtain ⟨b0, e1, rfl, wb0⟩ := DataW.trod_int Try.underlying3 hy1
  obtain ⟨l0, e2, rfl, wl0⟩ := DataW.trod_int Try.underlying3 hy2
  simp at e0 e1 e2
  subst e0 e1 e2
  have reads0 : ∀ (W' : World) (sp : Nat → Bool), DataW.Trod enc Try.prog W' 0 sp true 28 (.agg #[.int .i64 a0, .int .i64 b0, .int .i64 l0]) (.agg [.lit (.int .i64 a0), .lit (.int .i64 b0), .lit (.int .i64 l0)]) [] := fun W' sp =>
    shut_agg3 (y0 := (.lit (.int .i64 a0), [])) (y1 := (.lit (.int .i64 b0), [])) (y2 := (.lit (.int .i64 l0), [])) Try.underlying28 (by kernel_rfl) cellsMix
      ⟨1, by simp [DataW.trod, Try.underlying3, wa0]⟩ ⟨1, by simp [DataW.trod, Try.underlying3, wb0]⟩ ⟨1, by simp [DataW.trod, Try.underlying3, wl0]⟩
  clear hA0 hval0
  refine (walk a0 b0 l0 W).mono fun e W' ⟨he, bel⟩ => ?_
  subst he
  exact ⟨_, rfl, _, _, _, [], _, [], hW', trodAll_mk1 (shut_bool Try.underlying4 _), (trodAll_cons_mk (reads0 _ _) trodAll_mk0), rfl, bel.frame _, fun h => by cases h⟩

theorem over : Rows.fnExactEndMixRow.holds Try.pinned (OpenSpec.ofChange Rows.fnExactEndMixSpec) :=
  OpenClaim.holds_of_wide 5 Try.f5 rfl rfl rfl rfl rfl rfl rfl ⟨rfl, rfl, rfl, rfl, rfl⟩ rfl rfl rfl rfl rfl (by kernel_rfl) Try.func5 (by kernel_rfl)
    (of_decide_eq_true (by kernel_rfl)) (by unfold Func.isWrapper; first | (rw [if_pos (by decide +kernel)]; kernel_rfl) | (rw [if_neg (by decide +kernel)]; exact ⟨rfl, rfl⟩))
    (fun os started H enc _ => lifted os started H enc)
end Go.Proofs.Ytmnebdgoombfoaa.fnExactEndMix
namespace Go.Proofs.Ytmnebdgoombfoaa
theorem fnExactEndMix_holds : Rows.FnExactEndMixSaid := fnExactEndMix.over
#print axioms fnExactEndMix_holds
end Go.Proofs.Ytmnebdgoombfoaa
