/- At every argument the function FnExactCompareValues returns true and leaves its argument as it was: CompareValues answers as its model does. No condition. -/
import Derived.Test.YtolkiofdbdjfkaaImplC
import Derived.Test.YtolkiofdbdjfkaaLawsV
import Derived.Test.YtolkiofdbdjfkaaValArg
import Derived.Test.YtolkiofdbdjfkaaBoxes
namespace Go.Proofs.Ytolkiofdbdjfkaa.fnExactCompareValues
open Go.ChangeShapes Go.WideShapes Go.ChangeAt Go.RowKit Go.Joins
open Go.Deep
attribute [local go_sem ↓] Go.wp_at_zero Go.wp_at_succ
open Go.ChangeMaps (open_string shut_string)
set_option linter.unusedVariables false

set_option maxHeartbeats 3200000 in
theorem walk (a : VV) (hma : a.t.size ≤ maxLen) (b : VV) (hmb : b.t.size ≤ maxLen) (w : World) :
    Calls Try.prog 6 #[encV a, encV b] w fun e w' => e = .returned (.bool true) ∧ Below w.heap.size w w' := by
  have HTA := fun W => toVal a W
  have HTB := fun W => toVal b W
  by_cases hbig : 1048576 < a.t.size
  · have HZ := fun W => szValNo a 1048576 W hma (by omega) hbig
    simp only [show ((1048576 : Nat) : Int) = 1048576 from rfl] at HZ
    obtain ⟨k, n, t⟩ := a
    obtain ⟨kB, nB, tB⟩ := b
    unfold encV at *
    simp only [] at *
    go_enter Try.func6, Try.ntmps6
    go_wp2_with fail
    refine (HZ _).mono ?_
    rintro e w1 ⟨rfl, hb1⟩
    obtain ⟨hc1, hf1⟩ := bcell hb1
    have hz1 := hb1.size
    try simp only [World.size_drew] at hz1
    try simp only [World.size_setCell] at hz1
    try simp only [World.size_alloc] at hz1
    have hz1_0 : w.heap.size < w1.heap.size := by omega
    clear hz1
    have k1 : Below w.heap.size w w1 := by
      refine Below.trans ?_ (hb1.mono ?_)
      · go_grown
      · go_size
    have hl1 : w.heap.size ≤ w1.heap.size := k1.size
    clear hb1
    go_wp2
    go_returns
    exact ⟨rfl, by go_grown⟩
  have HZ := fun W => szValYes a 1048576 W (by omega) (by omega)
  simp only [show ((1048576 : Nat) : Int) = 1048576 from rfl] at HZ
  obtain ⟨z, hz⟩ : ∃ z : Nat, (1048576 : Int) - (a.t.size : Int) = (z : Int) := ⟨1048576 - a.t.size, by omega⟩
  rw [hz] at HZ
  have hz0 : ¬ (z : Int) < 0 := by omega
  have hz1 : z ≤ 1048576 := by omega
  clear hz
  by_cases hbig2 : z < b.t.size
  · have HZ2 := fun W => szValNo b z W hmb hz1 hbig2
    obtain ⟨k, n, t⟩ := a
    obtain ⟨kB, nB, tB⟩ := b
    unfold encV at *
    simp only [] at *
    go_enter Try.func6, Try.ntmps6
    go_wp2_with fail
    refine (HZ _).mono ?_
    rintro e w1 ⟨rfl, hb1⟩
    obtain ⟨hc1, hf1⟩ := bcell hb1
    have hz1 := hb1.size
    try simp only [World.size_drew] at hz1
    try simp only [World.size_setCell] at hz1
    try simp only [World.size_alloc] at hz1
    have hz1_0 : w.heap.size < w1.heap.size := by omega
    have hz1_1 : w.heap.size + 1 < w1.heap.size := by omega
    clear hz1
    have k1 : Below w.heap.size w w1 := by
      refine Below.trans ?_ (hb1.mono ?_)
      · go_grown
      · go_size
    have hl1 : w.heap.size ≤ w1.heap.size := k1.size
    clear hb1
    go_wp2_with fail
    refine (HZ2 _).mono ?_
    rintro e w2 ⟨rfl, hb2⟩
    obtain ⟨hc2, hf2⟩ := bcell hb2
    have hz2 := hb2.size
    try simp only [World.size_drew] at hz2
    try simp only [World.size_setCell] at hz2
    try simp only [World.size_alloc] at hz2
    have hz2_0 : w.heap.size < w2.heap.size := by omega
    have hz2_1 : w.heap.size + 1 < w2.heap.size := by omega
    try have hy2_1 : w1.heap.size < w2.heap.size := (by omega)
    clear hz2
    have k2 : Below w.heap.size w w2 := by
      refine Below.trans ?_ (hb2.mono ?_)
      · go_grown
      · go_size
    have hl2 : w.heap.size ≤ w2.heap.size := k2.size
    clear hb2
    go_wp2
    go_returns
    exact ⟨rfl, by go_grown⟩
  have HZ2 := fun W => szValYes b z W hz1 (by omega)
  have hy0 : ¬ (z : Int) - (b.t.size : Int) < 0 := by omega
  generalize (z : Int) - (b.t.size : Int) = y at *
  by_cases hg : GoodV a ∧ GoodV b
  · have HS := fun W => specCmpYes a b W hg.1 hg.2
    have HI := fun W => implCVYes a b W hg.1 hg.2
    generalize cmpV a b = R at *
    clear hg hma hmb hbig hbig2
    obtain ⟨k, n, t⟩ := a
    obtain ⟨kB, nB, tB⟩ := b
    unfold encV at *
    simp only [] at *
    go_enter Try.func6, Try.ntmps6
    go_wp2_with fail
    refine (HZ _).mono ?_
    rintro e w1 ⟨rfl, hx1⟩
    obtain ⟨qa, qb⟩ := boxOf2 hx1
    have k1 : Below w.heap.size w w1 := Below.trans (by go_grown) (hx1.mono (by go_size))
    have l1 := k1.size
    have BA := hid qa
    have BB := hid qb
    clear hx1 qa qb
    have f0 := BB.out.2.1 0 _ rfl
    have f1 := BB.out.2.1 1 _ rfl
    have f2 := BB.out.2.1 2 _ rfl
    go_wp2_with fail
    refine (HZ2 _).mono ?_
    rintro e w2 ⟨rfl, hx2⟩
    have k2 : Below w.heap.size w w2 := k1.trans (hx2.mono l1)
    replace BA := hid (BA.out.below hx2)
    replace BB := hid (BB.out.below hx2)
    clear hx2 f0 f1 f2
    have f0 := BB.out.2.1 0 _ rfl
    have f1 := BB.out.2.1 1 _ rfl
    have f2 := BB.out.2.1 2 _ rfl
    have f3 := BA.out.2.1 0 _ rfl
    have f4 := BA.out.2.1 1 _ rfl
    have f5 := BA.out.2.1 2 _ rfl
    have fz := BB.out.1
    have fy := BA.out.1
    go_upto_region 8 with fail
    go_region_held3 (fun w' => (w'.cell? ⟨w.heap.size, 0, none⟩ = some (.int .i64 k) ∧ w'.cell? ⟨w.heap.size, 1, none⟩ = some (.int .i64 n) ∧ w'.cell? ⟨w.heap.size, 2, none⟩ = some (.string t)) ∧ w'.cell? ⟨w.heap.size + 1, 0, none⟩ = some (.int .i64 kB) ∧ w'.cell? ⟨w.heap.size + 1, 1, none⟩ = some (.int .i64 nB) ∧ w'.cell? ⟨w.heap.size + 1, 2, none⟩ = some (.string tB)) (go_keep) (first | (go_at_call_of 39 (Value.agg #[Value.int IntKind.i64 k, Value.int IntKind.i64 n, Value.string t]); refine (HTA _).mono ?_; rintro e w3 ⟨rfl, hx3⟩; have hp3 := kept hx3 w.heap.size (by go_size); have hq3 := kept hx3 (w.heap.size + 1) (by go_size); have hz3 := hx3.size; (try simp only [World.size_drew] at hz3); have hy3 : w.heap.size < w3.heap.size := (by omega); have hw3 : w.heap.size + 1 < w3.heap.size := (by omega); have k3 : Below w.heap.size w w3 := (by exact Below.trans (by go_grown) (hx3.mono (by go_size))); clear hx3 hz3) | (go_at_call_of 39 (Value.agg #[Value.int IntKind.i64 kB, Value.int IntKind.i64 nB, Value.string tB]); refine (HTB _).mono ?_; rintro e w4 ⟨rfl, hx4⟩; have hp4 := kept hx4 w.heap.size (by go_size); have hq4 := kept hx4 (w.heap.size + 1) (by go_size); have hz4 := hx4.size; (try simp only [World.size_drew] at hz4); have hy4 : w.heap.size < w4.heap.size := (by omega); have hw4 : w.heap.size + 1 < w4.heap.size := (by omega); have k4 : Below w.heap.size w w4 := (by exact Below.trans (by go_grown) (hx4.mono (by go_size))); clear hx4 hz4) | (go_at_call_of 15 (Value.agg #[Value.int IntKind.i64 k, Value.int IntKind.i64 n, Value.string t]); refine (HS _).mono ?_; rintro e w5 ⟨rfl, hx5⟩; have hp5 := kept hx5 w.heap.size (by go_size); have hq5 := kept hx5 (w.heap.size + 1) (by go_size); have hz5 := hx5.size; (try simp only [World.size_drew] at hz5); have hy5 : w.heap.size < w5.heap.size := (by omega); have hw5 : w.heap.size + 1 < w5.heap.size := (by omega); have k5 : Below w.heap.size w w5 := (by exact Below.trans (by go_grown) (hx5.mono (by go_size))); clear hx5 hz5))
    all_goals go_upto_region 9 with fail
    all_goals go_region_held3 (fun w' => (w'.cell? ⟨w.heap.size, 0, none⟩ = some (.int .i64 k) ∧ w'.cell? ⟨w.heap.size, 1, none⟩ = some (.int .i64 n) ∧ w'.cell? ⟨w.heap.size, 2, none⟩ = some (.string t)) ∧ w'.cell? ⟨w.heap.size + 1, 0, none⟩ = some (.int .i64 kB) ∧ w'.cell? ⟨w.heap.size + 1, 1, none⟩ = some (.int .i64 nB) ∧ w'.cell? ⟨w.heap.size + 1, 2, none⟩ = some (.string tB)) (go_keep) (first | (go_at_call_of 39 (Value.agg #[Value.int IntKind.i64 k, Value.int IntKind.i64 n, Value.string t]); refine (HTA _).mono ?_; rintro e w6 ⟨rfl, hx6⟩; have hp6 := kept hx6 w.heap.size (by go_size); have hq6 := kept hx6 (w.heap.size + 1) (by go_size); have hz6 := hx6.size; (try simp only [World.size_drew] at hz6); have hy6 : w.heap.size < w6.heap.size := (by omega); have hw6 : w.heap.size + 1 < w6.heap.size := (by omega); have k6 : Below w.heap.size w w6 := (by exact Below.trans (by go_grown) (hx6.mono (by go_size))); clear hx6 hz6) | (go_at_call_of 39 (Value.agg #[Value.int IntKind.i64 kB, Value.int IntKind.i64 nB, Value.string tB]); refine (HTB _).mono ?_; rintro e w7 ⟨rfl, hx7⟩; have hp7 := kept hx7 w.heap.size (by go_size); have hq7 := kept hx7 (w.heap.size + 1) (by go_size); have hz7 := hx7.size; (try simp only [World.size_drew] at hz7); have hy7 : w.heap.size < w7.heap.size := (by omega); have hw7 : w.heap.size + 1 < w7.heap.size := (by omega); have k7 : Below w.heap.size w w7 := (by exact Below.trans (by go_grown) (hx7.mono (by go_size))); clear hx7 hz7) | (go_at_call_of 14 (Value.agg #[Value.int IntKind.i64 k, Value.int IntKind.i64 n, Value.string t]); refine (HI _).mono ?_; rintro e w8 ⟨rfl, hx8⟩; have hp8 := kept hx8 w.heap.size (by go_size); have hq8 := kept hx8 (w.heap.size + 1) (by go_size); have hz8 := hx8.size; (try simp only [World.size_drew] at hz8); have hy8 : w.heap.size < w8.heap.size := (by omega); have hw8 : w.heap.size + 1 < w8.heap.size := (by omega); have k8 : Below w.heap.size w w8 := (by exact Below.trans (by go_grown) (hx8.mono (by go_size))); clear hx8 hz8))
    all_goals go_wp2
    all_goals go_returns
    all_goals exact ⟨rfl, by go_grown⟩
  · have HS := fun W => specCmpNo a b W hma hmb hg
    have HI := fun W => implCVNo a b W hma hmb hg
    clear hg hma hmb hbig hbig2
    obtain ⟨k, n, t⟩ := a
    obtain ⟨kB, nB, tB⟩ := b
    unfold encV at *
    simp only [] at *
    go_enter Try.func6, Try.ntmps6
    go_wp2_with fail
    refine (HZ _).mono ?_
    rintro e w1 ⟨rfl, hx1⟩
    obtain ⟨qa, qb⟩ := boxOf2 hx1
    have k1 : Below w.heap.size w w1 := Below.trans (by go_grown) (hx1.mono (by go_size))
    have l1 := k1.size
    have BA := hid qa
    have BB := hid qb
    clear hx1 qa qb
    have f0 := BB.out.2.1 0 _ rfl
    have f1 := BB.out.2.1 1 _ rfl
    have f2 := BB.out.2.1 2 _ rfl
    go_wp2_with fail
    refine (HZ2 _).mono ?_
    rintro e w2 ⟨rfl, hx2⟩
    have k2 : Below w.heap.size w w2 := k1.trans (hx2.mono l1)
    replace BA := hid (BA.out.below hx2)
    replace BB := hid (BB.out.below hx2)
    clear hx2 f0 f1 f2
    have f0 := BB.out.2.1 0 _ rfl
    have f1 := BB.out.2.1 1 _ rfl
    have f2 := BB.out.2.1 2 _ rfl
    have f3 := BA.out.2.1 0 _ rfl
    have f4 := BA.out.2.1 1 _ rfl
    have f5 := BA.out.2.1 2 _ rfl
    have fz := BB.out.1
    have fy := BA.out.1
    go_upto_region 8 with fail
    go_region_held3 (fun w' => (w'.cell? ⟨w.heap.size, 0, none⟩ = some (.int .i64 k) ∧ w'.cell? ⟨w.heap.size, 1, none⟩ = some (.int .i64 n) ∧ w'.cell? ⟨w.heap.size, 2, none⟩ = some (.string t)) ∧ w'.cell? ⟨w.heap.size + 1, 0, none⟩ = some (.int .i64 kB) ∧ w'.cell? ⟨w.heap.size + 1, 1, none⟩ = some (.int .i64 nB) ∧ w'.cell? ⟨w.heap.size + 1, 2, none⟩ = some (.string tB)) (go_keep) (first | (go_at_call_of 39 (Value.agg #[Value.int IntKind.i64 k, Value.int IntKind.i64 n, Value.string t]); refine (HTA _).mono ?_; rintro e w3 ⟨rfl, hx3⟩; have hp3 := kept hx3 w.heap.size (by go_size); have hq3 := kept hx3 (w.heap.size + 1) (by go_size); have hz3 := hx3.size; (try simp only [World.size_drew] at hz3); have hy3 : w.heap.size < w3.heap.size := (by omega); have hw3 : w.heap.size + 1 < w3.heap.size := (by omega); have k3 : Below w.heap.size w w3 := (by exact Below.trans (by go_grown) (hx3.mono (by go_size))); clear hx3 hz3) | (go_at_call_of 39 (Value.agg #[Value.int IntKind.i64 kB, Value.int IntKind.i64 nB, Value.string tB]); refine (HTB _).mono ?_; rintro e w4 ⟨rfl, hx4⟩; have hp4 := kept hx4 w.heap.size (by go_size); have hq4 := kept hx4 (w.heap.size + 1) (by go_size); have hz4 := hx4.size; (try simp only [World.size_drew] at hz4); have hy4 : w.heap.size < w4.heap.size := (by omega); have hw4 : w.heap.size + 1 < w4.heap.size := (by omega); have k4 : Below w.heap.size w w4 := (by exact Below.trans (by go_grown) (hx4.mono (by go_size))); clear hx4 hz4) | (go_at_call_of 15 (Value.agg #[Value.int IntKind.i64 k, Value.int IntKind.i64 n, Value.string t]); refine (HS _).mono ?_; rintro e w5 ⟨rfl, hx5⟩; have hp5 := kept hx5 w.heap.size (by go_size); have hq5 := kept hx5 (w.heap.size + 1) (by go_size); have hz5 := hx5.size; (try simp only [World.size_drew] at hz5); have hy5 : w.heap.size < w5.heap.size := (by omega); have hw5 : w.heap.size + 1 < w5.heap.size := (by omega); have k5 : Below w.heap.size w w5 := (by exact Below.trans (by go_grown) (hx5.mono (by go_size))); clear hx5 hz5))
    all_goals go_upto_region 9 with fail
    all_goals go_region_held3 (fun w' => (w'.cell? ⟨w.heap.size, 0, none⟩ = some (.int .i64 k) ∧ w'.cell? ⟨w.heap.size, 1, none⟩ = some (.int .i64 n) ∧ w'.cell? ⟨w.heap.size, 2, none⟩ = some (.string t)) ∧ w'.cell? ⟨w.heap.size + 1, 0, none⟩ = some (.int .i64 kB) ∧ w'.cell? ⟨w.heap.size + 1, 1, none⟩ = some (.int .i64 nB) ∧ w'.cell? ⟨w.heap.size + 1, 2, none⟩ = some (.string tB)) (go_keep) (first | (go_at_call_of 39 (Value.agg #[Value.int IntKind.i64 k, Value.int IntKind.i64 n, Value.string t]); refine (HTA _).mono ?_; rintro e w6 ⟨rfl, hx6⟩; have hp6 := kept hx6 w.heap.size (by go_size); have hq6 := kept hx6 (w.heap.size + 1) (by go_size); have hz6 := hx6.size; (try simp only [World.size_drew] at hz6); have hy6 : w.heap.size < w6.heap.size := (by omega); have hw6 : w.heap.size + 1 < w6.heap.size := (by omega); have k6 : Below w.heap.size w w6 := (by exact Below.trans (by go_grown) (hx6.mono (by go_size))); clear hx6 hz6) | (go_at_call_of 39 (Value.agg #[Value.int IntKind.i64 kB, Value.int IntKind.i64 nB, Value.string tB]); refine (HTB _).mono ?_; rintro e w7 ⟨rfl, hx7⟩; have hp7 := kept hx7 w.heap.size (by go_size); have hq7 := kept hx7 (w.heap.size + 1) (by go_size); have hz7 := hx7.size; (try simp only [World.size_drew] at hz7); have hy7 : w.heap.size < w7.heap.size := (by omega); have hw7 : w.heap.size + 1 < w7.heap.size := (by omega); have k7 : Below w.heap.size w w7 := (by exact Below.trans (by go_grown) (hx7.mono (by go_size))); clear hx7 hz7) | (go_at_call_of 14 (Value.agg #[Value.int IntKind.i64 k, Value.int IntKind.i64 n, Value.string t]); refine (HI _).mono ?_; rintro e w8 ⟨rfl, hx8⟩; have hp8 := kept hx8 w.heap.size (by go_size); have hq8 := kept hx8 (w.heap.size + 1) (by go_size); have hz8 := hx8.size; (try simp only [World.size_drew] at hz8); have hy8 : w.heap.size < w8.heap.size := (by omega); have hw8 : w.heap.size + 1 < w8.heap.size := (by omega); have k8 : Below w.heap.size w w8 := (by exact Below.trans (by go_grown) (hx8.mono (by go_size))); clear hx8 hz8))
    all_goals go_wp2
    all_goals go_returns
    all_goals exact ⟨rfl, by go_grown⟩

theorem own : ownKnob Try.prog.godebug = none := by kernel_rfl
theorem laidOut : laidOutB Try.prog = true := by kernel_rfl
theorem cellsValue : Try.prog.cellsOf 52 = 3 := by kernel_rfl
set_option maxRecDepth 100000 in
theorem lifted (os : Os) (started : os.Started) (H : Type) (enc : TypeId × Value → H) :
    ReturnsInHanded {} Try.checked os 6 .any (Rows.fnExactCompareValuesSpec.pre6 enc Try.prog Try.f6 Rows.fnExactCompareValuesRow.domain false) (Rows.fnExactCompareValuesSpec.post enc Try.prog Try.f6 false true false false) := by
  refine returnsInHanded_of_change (C := Try.checked) own started (by kernel_rfl) Try.func6
    (ChangeSpec.witness6 (enc := enc) (C := Try.checked) false ⟨#[], #[.agg #[.int .i64 0, .int .i64 0, .string ByteArray.empty], .agg #[.int .i64 0, .int .i64 0, .string ByteArray.empty]], []⟩ 8 (by kernel_rfl) (by kernel_rfl) (by kernel_rfl) (by kernel_rfl)) ?_
  intro W base args ds gs before hval0 hW hcnd _
  have hval : ∀ (j : Nat) t v, Try.f6.params[j]? = some t → args[j]? = some v → Value.okWide Try.prog W .any base t v := hval0
  have hW' := hW
  obtain ⟨p, q, hA0, hV, rfl, hfz, hnd⟩ := hW
  have hA : DataW.TrodAll enc Try.prog W 0 (fun _ => true) true Try.f6.params.toList args.toList ds p := hA0
  rw [Try.params6] at hA hval
  obtain ⟨v0, vs0, d0, ds0, p0, q0, hargs, rfl, rfl, h0, r0⟩ := trodAll_cons hA
  obtain ⟨v1, vs1, d1, ds1, p1, q1, rfl, rfl, rfl, h1, r1⟩ := trodAll_cons r0
  obtain ⟨rfl, rfl, rfl⟩ := trodAll_nil r1
  obtain rfl : args = #[v0, v1] := by cases args; simp_all
  obtain ⟨rfl, rfl⟩ := trodVars_none hV
  have kk0 := h0
  have lt0 : ∀ x ∈ p0, x.block < W.heap.size := by obtain ⟨m, hm⟩ := kk0; exact DataW.trod_lt m _ _ _ hm
  obtain ⟨c00, c01, c02, y00, y01, y02, m0, rfl, rfl, rfl, hy00, hy01, hy02⟩ := open_agg3 Try.underlying52 (by kernel_rfl) cellsValue (hval 0 52 v0 rfl rfl) h0
  obtain ⟨k0, e00, x00, wk0⟩ := DataW.trod_int Try.underlying3 hy00
  obtain ⟨n0, e01, x01, wn0⟩ := DataW.trod_int Try.underlying3 hy01
  obtain ⟨t0, e02, x02, ht0⟩ := DataW.trod_string Try.underlying9 hy02
  simp at e00 e01 e02
  subst e00 e01 e02
  have kk1 := h1
  have lt1 : ∀ x ∈ p1, x.block < W.heap.size := by obtain ⟨m, hm⟩ := kk1; exact DataW.trod_lt m _ _ _ hm
  obtain ⟨c10, c11, c12, y10, y11, y12, m1, rfl, rfl, rfl, hy10, hy11, hy12⟩ := open_agg3 Try.underlying52 (by kernel_rfl) cellsValue (hval 1 52 v1 rfl rfl) h1
  obtain ⟨k1, e10, x10, wk1⟩ := DataW.trod_int Try.underlying3 hy10
  obtain ⟨n1, e11, x11, wn1⟩ := DataW.trod_int Try.underlying3 hy11
  obtain ⟨t1, e12, x12, ht1⟩ := DataW.trod_string Try.underlying9 hy12
  simp at e10 e11 e12
  subst e10 e11 e12
  clear hA0 hval0
  refine (walk ⟨k0, n0, t0⟩ ht0 ⟨k1, n1, t1⟩ ht1 W).mono fun e W' ⟨he, bel⟩ => ?_
  subst he
  exact ⟨_, rfl, _, _, _, [], _, [], hW', trodAll_mk1 (shut_bool Try.underlying4 _), (trodAll_cons_mk (Below.trod laidOut (by kernel_rfl) (of_decide_eq_true (by kernel_rfl)) kk0 bel lt0) (trodAll_cons_mk (Below.trod laidOut (by kernel_rfl) (of_decide_eq_true (by kernel_rfl)) kk1 bel lt1) trodAll_mk0)), rfl, bel.frame _, fun h => by cases h⟩

theorem over : Rows.fnExactCompareValuesRow.holds Try.pinned (OpenSpec.ofChange Rows.fnExactCompareValuesSpec) :=
  OpenClaim.holds_of_wide 6 Try.f6 rfl rfl rfl rfl rfl rfl rfl ⟨rfl, rfl, rfl, rfl, rfl⟩ rfl rfl rfl rfl rfl (by kernel_rfl) Try.func6 (by kernel_rfl)
    (of_decide_eq_true (by kernel_rfl)) (by unfold Func.isWrapper; first | (rw [if_pos (by decide +kernel)]; kernel_rfl) | (rw [if_neg (by decide +kernel)]; exact ⟨rfl, rfl⟩))
    (fun os started H enc _ => lifted os started H enc)
end Go.Proofs.Ytolkiofdbdjfkaa.fnExactCompareValues
namespace Go.Proofs.Ytolkiofdbdjfkaa
theorem fnExactCompareValues_holds : Rows.FnExactCompareValuesSaid := fnExactCompareValues.over
#print axioms fnExactCompareValues_holds
end Go.Proofs.Ytolkiofdbdjfkaa
