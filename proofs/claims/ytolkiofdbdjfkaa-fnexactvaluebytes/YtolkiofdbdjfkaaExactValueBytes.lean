/- At every argument the function FnExactValueBytes returns true and leaves its argument as it was: ValueBytes answers as its model does. No condition. -/
import Derived.Test.YtolkiofdbdjfkaaImplRB
import Derived.Test.YtolkiofdbdjfkaaLawsV
import Derived.Test.YtolkiofdbdjfkaaValArg
namespace Go.Proofs.Ytolkiofdbdjfkaa.fnExactValueBytes
open Go.ChangeShapes Go.WideShapes Go.ChangeAt Go.RowKit Go.Joins
open Go.ChangeMaps (open_string shut_string)
set_option linter.unusedVariables false

set_option maxHeartbeats 1600000 in
theorem walk (v : VV) (hm : v.t.size ≤ maxLen) (w : World) :
    Calls Try.prog 7 #[encV v] w fun e w' => e = .returned (.bool true) ∧ Below w.heap.size w w' := by
  have HT := fun W => toVal v W
  by_cases hbig : 1048576 < v.t.size
  · have HZ := fun W => szValNo v 1048576 W hm (by omega) hbig
    simp only [show ((1048576 : Nat) : Int) = 1048576 from rfl] at HZ
    obtain ⟨k, n, t⟩ := v
    unfold encV at *
    simp only [] at *
    go_enter Try.func7, Try.ntmps7
    go_wp2_with fail
    refine (HZ _).mono ?_
    rintro e w1 ⟨rfl, hb1⟩
    obtain ⟨hc1, hf1⟩ := bcell hb1
    have hz1 := hb1.size
    try simp only [World.size_drew] at hz1
    try simp only [World.size_setCell] at hz1
    try simp only [World.size_alloc] at hz1
    have hz1_0 : w.heap.size < w1.heap.size := by omega
    clear hz1
    have k1 : Below w.heap.size w w1 := by
      refine Below.trans ?_ (hb1.mono ?_)
      · go_grown
      · go_size
    have hl1 : w.heap.size ≤ w1.heap.size := k1.size
    clear hb1
    go_wp2
    go_returns
    exact ⟨rfl, by go_grown⟩
  · have HZ := fun W => szValYes v 1048576 W (by omega) (by omega)
    simp only [show ((1048576 : Nat) : Int) = 1048576 from rfl] at HZ
    have hz : ¬ (1048576 : Int) - (v.t.size : Int) < 0 := by omega
    generalize (1048576 : Int) - (v.t.size : Int) = z at *
    by_cases hg : GoodV v
    · have HS := fun W => specVBYes v W hg
      have HI := fun W => implVBYes v W hg
      generalize bytesV v = R at *
      clear hg hm hbig
      obtain ⟨k, n, t⟩ := v
      unfold encV at *
      simp only [] at *
      go_enter Try.func7, Try.ntmps7
      go_wp2_with fail
      refine (HZ _).mono ?_
      rintro e w1 ⟨rfl, hb1⟩
      obtain ⟨hc1, hf1⟩ := bcell hb1
      have hz1 := hb1.size
      try simp only [World.size_drew] at hz1
      try simp only [World.size_setCell] at hz1
      try simp only [World.size_alloc] at hz1
      have hz1_0 : w.heap.size < w1.heap.size := by omega
      clear hz1
      have k1 : Below w.heap.size w w1 := by
        refine Below.trans ?_ (hb1.mono ?_)
        · go_grown
        · go_size
      have hl1 : w.heap.size ≤ w1.heap.size := k1.size
      clear hb1
      go_wp2_with fail
      refine (HT _).mono ?_
      rintro e w2 ⟨rfl, hb2⟩
      obtain ⟨hc2, hf2⟩ := bcell hb2
      have hz2 := hb2.size
      try simp only [World.size_drew] at hz2
      try simp only [World.size_setCell] at hz2
      try simp only [World.size_alloc] at hz2
      have hz2_0 : w.heap.size < w2.heap.size := by omega
      try have hy2_1 : w1.heap.size < w2.heap.size := (by omega)
      clear hz2
      have k2 : Below w.heap.size w w2 := by
        refine Below.trans ?_ (hb2.mono ?_)
        · go_grown
        · go_size
      have hl2 : w.heap.size ≤ w2.heap.size := k2.size
      clear hb2
      go_wp2_with fail
      refine (HS _).mono ?_
      rintro e w3 ⟨rfl, hb3⟩
      obtain ⟨hc3, hf3⟩ := bcell hb3
      have hz3 := hb3.size
      try simp only [World.size_drew] at hz3
      try simp only [World.size_setCell] at hz3
      try simp only [World.size_alloc] at hz3
      have hz3_0 : w.heap.size < w3.heap.size := by omega
      try have hy3_1 : w1.heap.size < w3.heap.size := (by omega)
      try have hy3_2 : w2.heap.size < w3.heap.size := (by omega)
      clear hz3
      have k3 : Below w.heap.size w w3 := by
        refine Below.trans ?_ (hb3.mono ?_)
        · go_grown
        · go_size
      have hl3 : w.heap.size ≤ w3.heap.size := k3.size
      clear hb3
      go_wp2_with fail
      refine (HT _).mono ?_
      rintro e w4 ⟨rfl, hb4⟩
      obtain ⟨hc4, hf4⟩ := bcell hb4
      have hz4 := hb4.size
      try simp only [World.size_drew] at hz4
      try simp only [World.size_setCell] at hz4
      try simp only [World.size_alloc] at hz4
      have hz4_0 : w.heap.size < w4.heap.size := by omega
      try have hy4_1 : w1.heap.size < w4.heap.size := (by omega)
      try have hy4_2 : w2.heap.size < w4.heap.size := (by omega)
      try have hy4_3 : w3.heap.size < w4.heap.size := (by omega)
      clear hz4
      have k4 : Below w.heap.size w w4 := by
        refine Below.trans ?_ (hb4.mono ?_)
        · go_grown
        · go_size
      have hl4 : w.heap.size ≤ w4.heap.size := k4.size
      clear hb4
      go_wp2_with fail
      refine (HI _).mono ?_
      rintro e w5 ⟨rfl, hb5⟩
      obtain ⟨hc5, hf5⟩ := bcell hb5
      have hz5 := hb5.size
      try simp only [World.size_drew] at hz5
      try simp only [World.size_setCell] at hz5
      try simp only [World.size_alloc] at hz5
      have hz5_0 : w.heap.size < w5.heap.size := by omega
      try have hy5_1 : w1.heap.size < w5.heap.size := (by omega)
      try have hy5_2 : w2.heap.size < w5.heap.size := (by omega)
      try have hy5_3 : w3.heap.size < w5.heap.size := (by omega)
      try have hy5_4 : w4.heap.size < w5.heap.size := (by omega)
      clear hz5
      have k5 : Below w.heap.size w w5 := by
        refine Below.trans ?_ (hb5.mono ?_)
        · go_grown
        · go_size
      have hl5 : w.heap.size ≤ w5.heap.size := k5.size
      clear hb5
      go_wp2
      go_returns
      exact ⟨rfl, by go_grown⟩
    · have HS := fun W => specVBNo v W hm hg
      have HI := fun W => implVBNo v W hm hg
      clear hg hm hbig
      obtain ⟨k, n, t⟩ := v
      unfold encV at *
      simp only [] at *
      go_enter Try.func7, Try.ntmps7
      go_wp2_with fail
      refine (HZ _).mono ?_
      rintro e w1 ⟨rfl, hb1⟩
      obtain ⟨hc1, hf1⟩ := bcell hb1
      have hz1 := hb1.size
      try simp only [World.size_drew] at hz1
      try simp only [World.size_setCell] at hz1
      try simp only [World.size_alloc] at hz1
      have hz1_0 : w.heap.size < w1.heap.size := by omega
      clear hz1
      have k1 : Below w.heap.size w w1 := by
        refine Below.trans ?_ (hb1.mono ?_)
        · go_grown
        · go_size
      have hl1 : w.heap.size ≤ w1.heap.size := k1.size
      clear hb1
      go_wp2_with fail
      refine (HT _).mono ?_
      rintro e w2 ⟨rfl, hb2⟩
      obtain ⟨hc2, hf2⟩ := bcell hb2
      have hz2 := hb2.size
      try simp only [World.size_drew] at hz2
      try simp only [World.size_setCell] at hz2
      try simp only [World.size_alloc] at hz2
      have hz2_0 : w.heap.size < w2.heap.size := by omega
      try have hy2_1 : w1.heap.size < w2.heap.size := (by omega)
      clear hz2
      have k2 : Below w.heap.size w w2 := by
        refine Below.trans ?_ (hb2.mono ?_)
        · go_grown
        · go_size
      have hl2 : w.heap.size ≤ w2.heap.size := k2.size
      clear hb2
      go_wp2_with fail
      refine (HS _).mono ?_
      rintro e w3 ⟨rfl, hb3⟩
      obtain ⟨hc3, hf3⟩ := bcell hb3
      have hz3 := hb3.size
      try simp only [World.size_drew] at hz3
      try simp only [World.size_setCell] at hz3
      try simp only [World.size_alloc] at hz3
      have hz3_0 : w.heap.size < w3.heap.size := by omega
      try have hy3_1 : w1.heap.size < w3.heap.size := (by omega)
      try have hy3_2 : w2.heap.size < w3.heap.size := (by omega)
      clear hz3
      have k3 : Below w.heap.size w w3 := by
        refine Below.trans ?_ (hb3.mono ?_)
        · go_grown
        · go_size
      have hl3 : w.heap.size ≤ w3.heap.size := k3.size
      clear hb3
      go_wp2_with fail
      refine (HT _).mono ?_
      rintro e w4 ⟨rfl, hb4⟩
      obtain ⟨hc4, hf4⟩ := bcell hb4
      have hz4 := hb4.size
      try simp only [World.size_drew] at hz4
      try simp only [World.size_setCell] at hz4
      try simp only [World.size_alloc] at hz4
      have hz4_0 : w.heap.size < w4.heap.size := by omega
      try have hy4_1 : w1.heap.size < w4.heap.size := (by omega)
      try have hy4_2 : w2.heap.size < w4.heap.size := (by omega)
      try have hy4_3 : w3.heap.size < w4.heap.size := (by omega)
      clear hz4
      have k4 : Below w.heap.size w w4 := by
        refine Below.trans ?_ (hb4.mono ?_)
        · go_grown
        · go_size
      have hl4 : w.heap.size ≤ w4.heap.size := k4.size
      clear hb4
      go_wp2_with fail
      refine (HI _).mono ?_
      rintro e w5 ⟨rfl, hb5⟩
      obtain ⟨hc5, hf5⟩ := bcell hb5
      have hz5 := hb5.size
      try simp only [World.size_drew] at hz5
      try simp only [World.size_setCell] at hz5
      try simp only [World.size_alloc] at hz5
      have hz5_0 : w.heap.size < w5.heap.size := by omega
      try have hy5_1 : w1.heap.size < w5.heap.size := (by omega)
      try have hy5_2 : w2.heap.size < w5.heap.size := (by omega)
      try have hy5_3 : w3.heap.size < w5.heap.size := (by omega)
      try have hy5_4 : w4.heap.size < w5.heap.size := (by omega)
      clear hz5
      have k5 : Below w.heap.size w w5 := by
        refine Below.trans ?_ (hb5.mono ?_)
        · go_grown
        · go_size
      have hl5 : w.heap.size ≤ w5.heap.size := k5.size
      clear hb5
      go_wp2
      go_returns
      exact ⟨rfl, by go_grown⟩

theorem own : ownKnob Try.prog.godebug = none := by kernel_rfl
theorem laidOut : laidOutB Try.prog = true := by kernel_rfl
theorem cellsValue : Try.prog.cellsOf 52 = 3 := by kernel_rfl
set_option maxRecDepth 100000 in
theorem lifted (os : Os) (started : os.Started) (H : Type) (enc : TypeId × Value → H) :
    ReturnsInHanded {} Try.checked os 7 .any (Rows.fnExactValueBytesSpec.pre6 enc Try.prog Try.f7 Rows.fnExactValueBytesRow.domain false) (Rows.fnExactValueBytesSpec.post enc Try.prog Try.f7 false true false false) := by
  refine returnsInHanded_of_change (C := Try.checked) own started (by kernel_rfl) Try.func7
    (ChangeSpec.witness6 (enc := enc) (C := Try.checked) false ⟨#[], #[.agg #[.int .i64 0, .int .i64 0, .string ByteArray.empty]], []⟩ 8 (by kernel_rfl) (by kernel_rfl) (by kernel_rfl) (by kernel_rfl)) ?_
  intro W base args ds gs before hval0 hW hcnd _
  have hval : ∀ (j : Nat) t v, Try.f7.params[j]? = some t → args[j]? = some v → Value.okWide Try.prog W .any base t v := hval0
  have hW' := hW
  obtain ⟨p, q, hA0, hV, rfl, hfz, hnd⟩ := hW
  have hA : DataW.TrodAll enc Try.prog W 0 (fun _ => true) true Try.f7.params.toList args.toList ds p := hA0
  rw [Try.params7] at hA hval
  obtain ⟨v0, vs0, d0, ds0, p0, q0, hargs, rfl, rfl, h0, r0⟩ := trodAll_cons hA
  obtain ⟨rfl, rfl, rfl⟩ := trodAll_nil r0
  obtain rfl : args = #[v0] := by cases args; simp_all
  obtain ⟨rfl, rfl⟩ := trodVars_none hV
  have kk0 := h0
  have lt0 : ∀ x ∈ p0, x.block < W.heap.size := by obtain ⟨m, hm⟩ := kk0; exact DataW.trod_lt m _ _ _ hm
  obtain ⟨c00, c01, c02, y00, y01, y02, m0, rfl, rfl, rfl, hy00, hy01, hy02⟩ := open_agg3 Try.underlying52 (by kernel_rfl) cellsValue (hval 0 52 v0 rfl rfl) h0
  obtain ⟨k0, e00, x00, wk0⟩ := DataW.trod_int Try.underlying3 hy00
  obtain ⟨n0, e01, x01, wn0⟩ := DataW.trod_int Try.underlying3 hy01
  obtain ⟨t0, e02, x02, ht0⟩ := DataW.trod_string Try.underlying9 hy02
  simp at e00 e01 e02
  subst e00 e01 e02
  clear hA0 hval0
  refine (walk ⟨k0, n0, t0⟩ ht0 W).mono fun e W' ⟨he, bel⟩ => ?_
  subst he
  exact ⟨_, rfl, _, _, _, [], _, [], hW', trodAll_mk1 (shut_bool Try.underlying4 _), (trodAll_cons_mk (Below.trod laidOut (by kernel_rfl) (of_decide_eq_true (by kernel_rfl)) kk0 bel lt0) trodAll_mk0), rfl, bel.frame _, fun h => by cases h⟩

theorem over : Rows.fnExactValueBytesRow.holds Try.pinned (OpenSpec.ofChange Rows.fnExactValueBytesSpec) :=
  OpenClaim.holds_of_wide 7 Try.f7 rfl rfl rfl rfl rfl rfl rfl ⟨rfl, rfl, rfl, rfl, rfl⟩ rfl rfl rfl rfl rfl (by kernel_rfl) Try.func7 (by kernel_rfl)
    (of_decide_eq_true (by kernel_rfl)) (by unfold Func.isWrapper; first | (rw [if_pos (by decide +kernel)]; kernel_rfl) | (rw [if_neg (by decide +kernel)]; exact ⟨rfl, rfl⟩))
    (fun os started H enc _ => lifted os started H enc)
end Go.Proofs.Ytolkiofdbdjfkaa.fnExactValueBytes
namespace Go.Proofs.Ytolkiofdbdjfkaa
theorem fnExactValueBytes_holds : Rows.FnExactValueBytesSaid := fnExactValueBytes.over
#print axioms fnExactValueBytes_holds
end Go.Proofs.Ytolkiofdbdjfkaa
