/- At every two mixes the function FnExactJoinMixes returns true and leaves its arguments as it was: JoinMixes answers as its model does. No condition. -/
import Derived.Test.YtmnebdgoombfoaaJoin
import Derived.Lib.SmallJoins
import Derived.Deep.RegionHeld3
import Derived.Deep.DeepCutAuto
import Derived.Deep.DrawnRows
namespace Go.Proofs.Ytmnebdgoombfoaa.fnExactJoinMixes
open Go.ChangeShapes Go.WideShapes Go.ChangeAt Go.RowKit Go.Joins
open Go.ChangeMaps (open_string shut_string)
set_option linter.unusedVariables false

attribute [local go_sem ↓] Go.wp_at_zero Go.wp_at_succ

set_option maxHeartbeats 6400000 in
theorem walkNo (aa ab al ba bb bl : Int) (w : World) (h : JoinNo aa ab al ba bb bl) :
    Calls Try.prog 6 #[.agg #[.int .i64 aa, .int .i64 ab, .int .i64 al], .agg #[.int .i64 ba, .int .i64 bb, .int .i64 bl]] w fun e w' => e = .returned (.bool true) ∧ Below w.heap.size w w' := by
  have hn0 : w.heap.size + 1 + 1 ≠ w.heap.size := by omega
  have hn1 : w.heap.size + 1 + 1 ≠ w.heap.size + 1 := by omega
  go_enter Try.func6, Try.ntmps6
  go_upto_region 1 with fail
  go_cut [5, 6] (fun p ok wc => ∃ g', p = .pointer (some ⟨g', 0, none⟩) ∧ ok = .bool false ∧ w.heap.size + 1 < g' ∧ g' < wc.heap.size ∧ wc.cell? ⟨g', 0, none⟩ = some (.int .i64 0) ∧ wc.cell? ⟨g', 1, none⟩ = some (.int .i64 0) ∧ wc.cell? ⟨g', 2, none⟩ = some (.int .i64 0) ∧ wc.cell? ⟨w.heap.size, 0, none⟩ = some (.int .i64 aa) ∧ wc.cell? ⟨w.heap.size, 1, none⟩ = some (.int .i64 ab) ∧ wc.cell? ⟨w.heap.size, 2, none⟩ = some (.int .i64 al) ∧ wc.cell? ⟨w.heap.size + 1, 0, none⟩ = some (.int .i64 ba) ∧ wc.cell? ⟨w.heap.size + 1, 1, none⟩ = some (.int .i64 bb) ∧ wc.cell? ⟨w.heap.size + 1, 2, none⟩ = some (.int .i64 bl) ∧ Below w.heap.size w wc)
  case first =>
    go_region_held3 (fun w' => w'.cell? ⟨w.heap.size, 0, none⟩ = some (.int .i64 aa) ∧ w'.cell? ⟨w.heap.size, 1, none⟩ = some (.int .i64 ab) ∧ w'.cell? ⟨w.heap.size, 2, none⟩ = some (.int .i64 al) ∧ w'.cell? ⟨w.heap.size + 1, 0, none⟩ = some (.int .i64 ba) ∧ w'.cell? ⟨w.heap.size + 1, 1, none⟩ = some (.int .i64 bb) ∧ w'.cell? ⟨w.heap.size + 1, 2, none⟩ = some (.int .i64 bl)) (go_keep)
      (first
        | (go_at_call_of 11 (Value.agg #[Value.int IntKind.i64 aa, Value.int IntKind.i64 ab, Value.int IntKind.i64 al]); refine (toMix aa ab al _).mono ?_; rintro e w1 ⟨rfl, hb1⟩; have hp1_0 := kept hb1 (w.heap.size) (by go_size); have hp1_1 := kept hb1 (w.heap.size + 1) (by go_size); obtain ⟨hc1, hf1⟩ := bcell hb1; have ht1 : ∀ b, b < _ → b < w1.heap.size := fun b hb => Nat.lt_of_lt_of_le hb hb1.size; have hz1 := hb1.size; (try simp only [World.size_drew] at hz1); (try simp only [World.size_setCell] at hz1); (try simp only [World.size_alloc] at hz1); have hx1_0 : w.heap.size < w1.heap.size := (by omega); have hu1_0 : w.heap.size ≠ w1.heap.size := (by omega); have hv1_0 : w1.heap.size ≠ w.heap.size := (by omega); have hx1_1 : w.heap.size + 1 < w1.heap.size := (by omega); have hu1_1 : w.heap.size + 1 ≠ w1.heap.size := (by omega); have hv1_1 : w1.heap.size ≠ w.heap.size + 1 := (by omega); (try have hm1 : w.heap.size + 1 + 1 < w1.heap.size := (by omega)); have k1 : Below w.heap.size w w1 := (by exact Below.trans (by go_grown) (hb1.mono (by go_size))); clear hb1 hz1)
        | (go_at_call_of 11 (Value.agg #[Value.int IntKind.i64 ba, Value.int IntKind.i64 bb, Value.int IntKind.i64 bl]); refine (toMix ba bb bl _).mono ?_; rintro e w2 ⟨rfl, hb2⟩; have hp2_0 := kept hb2 (w.heap.size) (by go_size); have hp2_1 := kept hb2 (w.heap.size + 1) (by go_size); obtain ⟨hc2, hf2⟩ := bcell hb2; have ht2 : ∀ b, b < _ → b < w2.heap.size := fun b hb => Nat.lt_of_lt_of_le hb hb2.size; have hz2 := hb2.size; (try simp only [World.size_drew] at hz2); (try simp only [World.size_setCell] at hz2); (try simp only [World.size_alloc] at hz2); have hx2_0 : w.heap.size < w2.heap.size := (by omega); have hu2_0 : w.heap.size ≠ w2.heap.size := (by omega); have hv2_0 : w2.heap.size ≠ w.heap.size := (by omega); have hx2_1 : w.heap.size + 1 < w2.heap.size := (by omega); have hu2_1 : w.heap.size + 1 ≠ w2.heap.size := (by omega); have hv2_1 : w2.heap.size ≠ w.heap.size + 1 := (by omega); (try have hj2_1 : w1.heap.size < w2.heap.size := (by omega)); (try have hm2 : w.heap.size + 1 + 1 < w2.heap.size := (by omega)); have k2 : Below w.heap.size w w2 := (by exact Below.trans (by go_grown) (hb2.mono (by go_size))); clear hb2 hz2)
        | (go_at_call_of 15 (Value.agg #[Value.int IntKind.i64 aa, Value.int IntKind.i64 ab, Value.int IntKind.i64 al]); refine (specJoinNo aa ab al ba bb bl _ h).mono ?_; rintro e w3 ⟨rfl, hb3⟩; have hp3_0 := kept hb3 (w.heap.size) (by go_size); have hp3_1 := kept hb3 (w.heap.size + 1) (by go_size); obtain ⟨hc3, hf3⟩ := bcell hb3; have ht3 : ∀ b, b < _ → b < w3.heap.size := fun b hb => Nat.lt_of_lt_of_le hb hb3.size; have hz3 := hb3.size; (try simp only [World.size_drew] at hz3); (try simp only [World.size_setCell] at hz3); (try simp only [World.size_alloc] at hz3); have hx3_0 : w.heap.size < w3.heap.size := (by omega); have hu3_0 : w.heap.size ≠ w3.heap.size := (by omega); have hv3_0 : w3.heap.size ≠ w.heap.size := (by omega); have hx3_1 : w.heap.size + 1 < w3.heap.size := (by omega); have hu3_1 : w.heap.size + 1 ≠ w3.heap.size := (by omega); have hv3_1 : w3.heap.size ≠ w.heap.size + 1 := (by omega); (try have hj3_1 : w1.heap.size < w3.heap.size := (by omega)); (try have hj3_2 : w2.heap.size < w3.heap.size := (by omega)); (try have hm3 : w.heap.size + 1 + 1 < w3.heap.size := (by omega)); have k3 : Below w.heap.size w w3 := (by exact Below.trans (by go_grown) (hb3.mono (by go_size))); clear hb3 hz3))
    all_goals go_wp2_with fail
    all_goals go_meet
    all_goals refine ⟨_, rfl, rfl, ?_, ?_, ?_, ?_, ?_, ?_, ?_, ?_, ?_, ?_, ?_, ?_⟩
    all_goals first | (simp [*]; done) | omega | (simp; omega) | (simp [*, go_sem]; done) | (go_grown; done)
  case rest =>
    obtain ⟨g, rfl, rfl, hg1, hg2, q0, q1, q2, q3, q4, q5, q6, q7, q8, kc⟩ := hcut
    have hd0 : w.heap.size < wc.heap.size := by omega
    have hd1 : w.heap.size + 1 < wc.heap.size := by omega
    have he0 : wc.heap.size ≠ w.heap.size := by omega
    have he1 : wc.heap.size ≠ w.heap.size + 1 := by omega
    have he2 : wc.heap.size ≠ g := by omega
    go_upto_region 2 with fail
    go_cut [7, 8] (fun p ok wd => ∃ g', p = .pointer (some ⟨g', 0, none⟩) ∧ ok = .bool false ∧ g < g' ∧ g' < wd.heap.size ∧ wd.cell? ⟨g', 0, none⟩ = some (.int .i64 0) ∧ wd.cell? ⟨g', 1, none⟩ = some (.int .i64 0) ∧ wd.cell? ⟨g', 2, none⟩ = some (.int .i64 0) ∧ wd.cell? ⟨w.heap.size, 0, none⟩ = some (.int .i64 aa) ∧ wd.cell? ⟨w.heap.size, 1, none⟩ = some (.int .i64 ab) ∧ wd.cell? ⟨w.heap.size, 2, none⟩ = some (.int .i64 al) ∧ wd.cell? ⟨w.heap.size + 1, 0, none⟩ = some (.int .i64 ba) ∧ wd.cell? ⟨w.heap.size + 1, 1, none⟩ = some (.int .i64 bb) ∧ wd.cell? ⟨w.heap.size + 1, 2, none⟩ = some (.int .i64 bl) ∧ wd.cell? ⟨g, 0, none⟩ = some (.int .i64 0) ∧ wd.cell? ⟨g, 1, none⟩ = some (.int .i64 0) ∧ wd.cell? ⟨g, 2, none⟩ = some (.int .i64 0) ∧ Below w.heap.size w wd)
    case first =>
      go_region_held3 (fun w' => w'.cell? ⟨w.heap.size, 0, none⟩ = some (.int .i64 aa) ∧ w'.cell? ⟨w.heap.size, 1, none⟩ = some (.int .i64 ab) ∧ w'.cell? ⟨w.heap.size, 2, none⟩ = some (.int .i64 al) ∧ w'.cell? ⟨w.heap.size + 1, 0, none⟩ = some (.int .i64 ba) ∧ w'.cell? ⟨w.heap.size + 1, 1, none⟩ = some (.int .i64 bb) ∧ w'.cell? ⟨w.heap.size + 1, 2, none⟩ = some (.int .i64 bl) ∧ w'.cell? ⟨g, 0, none⟩ = some (.int .i64 0) ∧ w'.cell? ⟨g, 1, none⟩ = some (.int .i64 0) ∧ w'.cell? ⟨g, 2, none⟩ = some (.int .i64 0)) (go_keep)
      (first
        | (go_at_call_of 11 (Value.agg #[Value.int IntKind.i64 aa, Value.int IntKind.i64 ab, Value.int IntKind.i64 al]); refine (toMix aa ab al _).mono ?_; rintro e w1 ⟨rfl, hb1⟩; have hp1_0 := kept hb1 (w.heap.size) (by go_size); have hp1_1 := kept hb1 (w.heap.size + 1) (by go_size); have hp1_2 := kept hb1 (g) (by go_size); obtain ⟨hc1, hf1⟩ := bcell hb1; have ht1 : ∀ b, b < _ → b < w1.heap.size := fun b hb => Nat.lt_of_lt_of_le hb hb1.size; have hz1 := hb1.size; (try simp only [World.size_drew] at hz1); (try simp only [World.size_setCell] at hz1); (try simp only [World.size_alloc] at hz1); have hx1_0 : w.heap.size < w1.heap.size := (by omega); have hu1_0 : w.heap.size ≠ w1.heap.size := (by omega); have hv1_0 : w1.heap.size ≠ w.heap.size := (by omega); have hx1_1 : w.heap.size + 1 < w1.heap.size := (by omega); have hu1_1 : w.heap.size + 1 ≠ w1.heap.size := (by omega); have hv1_1 : w1.heap.size ≠ w.heap.size + 1 := (by omega); have hx1_2 : g < w1.heap.size := (by omega); have hu1_2 : g ≠ w1.heap.size := (by omega); have hv1_2 : w1.heap.size ≠ g := (by omega); (try have hm1 : wc.heap.size < w1.heap.size := (by omega)); have k1 : Below w.heap.size w w1 := (by exact Below.trans (by go_grown) (hb1.mono (by go_size))); clear hb1 hz1)
        | (go_at_call_of 11 (Value.agg #[Value.int IntKind.i64 ba, Value.int IntKind.i64 bb, Value.int IntKind.i64 bl]); refine (toMix ba bb bl _).mono ?_; rintro e w2 ⟨rfl, hb2⟩; have hp2_0 := kept hb2 (w.heap.size) (by go_size); have hp2_1 := kept hb2 (w.heap.size + 1) (by go_size); have hp2_2 := kept hb2 (g) (by go_size); obtain ⟨hc2, hf2⟩ := bcell hb2; have ht2 : ∀ b, b < _ → b < w2.heap.size := fun b hb => Nat.lt_of_lt_of_le hb hb2.size; have hz2 := hb2.size; (try simp only [World.size_drew] at hz2); (try simp only [World.size_setCell] at hz2); (try simp only [World.size_alloc] at hz2); have hx2_0 : w.heap.size < w2.heap.size := (by omega); have hu2_0 : w.heap.size ≠ w2.heap.size := (by omega); have hv2_0 : w2.heap.size ≠ w.heap.size := (by omega); have hx2_1 : w.heap.size + 1 < w2.heap.size := (by omega); have hu2_1 : w.heap.size + 1 ≠ w2.heap.size := (by omega); have hv2_1 : w2.heap.size ≠ w.heap.size + 1 := (by omega); have hx2_2 : g < w2.heap.size := (by omega); have hu2_2 : g ≠ w2.heap.size := (by omega); have hv2_2 : w2.heap.size ≠ g := (by omega); (try have hj2_1 : w1.heap.size < w2.heap.size := (by omega)); (try have hm2 : wc.heap.size < w2.heap.size := (by omega)); have k2 : Below w.heap.size w w2 := (by exact Below.trans (by go_grown) (hb2.mono (by go_size))); clear hb2 hz2)
        | (go_at_call_of 16 (Value.agg #[Value.int IntKind.i64 aa, Value.int IntKind.i64 ab, Value.int IntKind.i64 al]); refine (implJoinNo aa ab al ba bb bl _ h).mono ?_; rintro e w3 ⟨rfl, hb3⟩; have hp3_0 := kept hb3 (w.heap.size) (by go_size); have hp3_1 := kept hb3 (w.heap.size + 1) (by go_size); have hp3_2 := kept hb3 (g) (by go_size); obtain ⟨hc3, hf3⟩ := bcell hb3; have ht3 : ∀ b, b < _ → b < w3.heap.size := fun b hb => Nat.lt_of_lt_of_le hb hb3.size; have hz3 := hb3.size; (try simp only [World.size_drew] at hz3); (try simp only [World.size_setCell] at hz3); (try simp only [World.size_alloc] at hz3); have hx3_0 : w.heap.size < w3.heap.size := (by omega); have hu3_0 : w.heap.size ≠ w3.heap.size := (by omega); have hv3_0 : w3.heap.size ≠ w.heap.size := (by omega); have hx3_1 : w.heap.size + 1 < w3.heap.size := (by omega); have hu3_1 : w.heap.size + 1 ≠ w3.heap.size := (by omega); have hv3_1 : w3.heap.size ≠ w.heap.size + 1 := (by omega); have hx3_2 : g < w3.heap.size := (by omega); have hu3_2 : g ≠ w3.heap.size := (by omega); have hv3_2 : w3.heap.size ≠ g := (by omega); (try have hj3_1 : w1.heap.size < w3.heap.size := (by omega)); (try have hj3_2 : w2.heap.size < w3.heap.size := (by omega)); (try have hm3 : wc.heap.size < w3.heap.size := (by omega)); have k3 : Below w.heap.size w w3 := (by exact Below.trans (by go_grown) (hb3.mono (by go_size))); clear hb3 hz3))
      all_goals go_wp2_with fail
      all_goals go_meet
      all_goals refine ⟨_, rfl, rfl, ?_, ?_, ?_, ?_, ?_, ?_, ?_, ?_, ?_, ?_, ?_, ?_, ?_, ?_, ?_⟩
      all_goals first | (simp [*]; done) | omega | (simp; omega) | (simp [*, go_sem]; done) | (go_grown; done)
    case rest =>
      obtain ⟨g', rfl, rfl, hh1, hh2, r0, r1, r2, r3, r4, r5, r6, r7, r8, r9, r10, r11, kd⟩ := hcut
      go_wp2_with fail
      refine (eqMix _ _ _ _).mono ?_
      rintro e w7 ⟨rfl, hb7⟩
      have k7 : Below w.heap.size w w7 := kd.trans (hb7.mono kd.size)
      clear hb7
      go_wp2
      go_returns
      exact ⟨rfl, k7⟩

set_option maxHeartbeats 6400000 in
theorem walkYes (aa ab al ba bb bl : Int) (w : World) (g1 : goodB aa ab al = true) (g2 : goodB ba bb bl = true) (g3 : al + bl ≤ 1000000) :
    Calls Try.prog 6 #[.agg #[.int .i64 aa, .int .i64 ab, .int .i64 al], .agg #[.int .i64 ba, .int .i64 bb, .int .i64 bl]] w fun e w' => e = .returned (.bool true) ∧ Below w.heap.size w w' := by
  have hn0 : w.heap.size + 1 + 1 ≠ w.heap.size := by omega
  have hn1 : w.heap.size + 1 + 1 ≠ w.heap.size + 1 := by omega
  go_enter Try.func6, Try.ntmps6
  go_upto_region 1 with fail
  go_cut [5, 6] (fun p ok wc => ∃ g', p = .pointer (some ⟨g', 0, none⟩) ∧ ok = .bool true ∧ w.heap.size + 1 < g' ∧ g' < wc.heap.size ∧ wc.cell? ⟨g', 0, none⟩ = some (.int .i64 (joinA aa ba)) ∧ wc.cell? ⟨g', 1, none⟩ = some (.int .i64 (joinB aa ab bb bl)) ∧ wc.cell? ⟨g', 2, none⟩ = some (.int .i64 (al + bl)) ∧ wc.cell? ⟨w.heap.size, 0, none⟩ = some (.int .i64 aa) ∧ wc.cell? ⟨w.heap.size, 1, none⟩ = some (.int .i64 ab) ∧ wc.cell? ⟨w.heap.size, 2, none⟩ = some (.int .i64 al) ∧ wc.cell? ⟨w.heap.size + 1, 0, none⟩ = some (.int .i64 ba) ∧ wc.cell? ⟨w.heap.size + 1, 1, none⟩ = some (.int .i64 bb) ∧ wc.cell? ⟨w.heap.size + 1, 2, none⟩ = some (.int .i64 bl) ∧ Below w.heap.size w wc)
  case first =>
    go_region_held3 (fun w' => w'.cell? ⟨w.heap.size, 0, none⟩ = some (.int .i64 aa) ∧ w'.cell? ⟨w.heap.size, 1, none⟩ = some (.int .i64 ab) ∧ w'.cell? ⟨w.heap.size, 2, none⟩ = some (.int .i64 al) ∧ w'.cell? ⟨w.heap.size + 1, 0, none⟩ = some (.int .i64 ba) ∧ w'.cell? ⟨w.heap.size + 1, 1, none⟩ = some (.int .i64 bb) ∧ w'.cell? ⟨w.heap.size + 1, 2, none⟩ = some (.int .i64 bl)) (go_keep)
      (first
        | (go_at_call_of 11 (Value.agg #[Value.int IntKind.i64 aa, Value.int IntKind.i64 ab, Value.int IntKind.i64 al]); refine (toMix aa ab al _).mono ?_; rintro e w1 ⟨rfl, hb1⟩; have hp1_0 := kept hb1 (w.heap.size) (by go_size); have hp1_1 := kept hb1 (w.heap.size + 1) (by go_size); obtain ⟨hc1, hf1⟩ := bcell hb1; have ht1 : ∀ b, b < _ → b < w1.heap.size := fun b hb => Nat.lt_of_lt_of_le hb hb1.size; have hz1 := hb1.size; (try simp only [World.size_drew] at hz1); (try simp only [World.size_setCell] at hz1); (try simp only [World.size_alloc] at hz1); have hx1_0 : w.heap.size < w1.heap.size := (by omega); have hu1_0 : w.heap.size ≠ w1.heap.size := (by omega); have hv1_0 : w1.heap.size ≠ w.heap.size := (by omega); have hx1_1 : w.heap.size + 1 < w1.heap.size := (by omega); have hu1_1 : w.heap.size + 1 ≠ w1.heap.size := (by omega); have hv1_1 : w1.heap.size ≠ w.heap.size + 1 := (by omega); (try have hm1 : w.heap.size + 1 + 1 < w1.heap.size := (by omega)); have k1 : Below w.heap.size w w1 := (by exact Below.trans (by go_grown) (hb1.mono (by go_size))); clear hb1 hz1)
        | (go_at_call_of 11 (Value.agg #[Value.int IntKind.i64 ba, Value.int IntKind.i64 bb, Value.int IntKind.i64 bl]); refine (toMix ba bb bl _).mono ?_; rintro e w2 ⟨rfl, hb2⟩; have hp2_0 := kept hb2 (w.heap.size) (by go_size); have hp2_1 := kept hb2 (w.heap.size + 1) (by go_size); obtain ⟨hc2, hf2⟩ := bcell hb2; have ht2 : ∀ b, b < _ → b < w2.heap.size := fun b hb => Nat.lt_of_lt_of_le hb hb2.size; have hz2 := hb2.size; (try simp only [World.size_drew] at hz2); (try simp only [World.size_setCell] at hz2); (try simp only [World.size_alloc] at hz2); have hx2_0 : w.heap.size < w2.heap.size := (by omega); have hu2_0 : w.heap.size ≠ w2.heap.size := (by omega); have hv2_0 : w2.heap.size ≠ w.heap.size := (by omega); have hx2_1 : w.heap.size + 1 < w2.heap.size := (by omega); have hu2_1 : w.heap.size + 1 ≠ w2.heap.size := (by omega); have hv2_1 : w2.heap.size ≠ w.heap.size + 1 := (by omega); (try have hj2_1 : w1.heap.size < w2.heap.size := (by omega)); (try have hm2 : w.heap.size + 1 + 1 < w2.heap.size := (by omega)); have k2 : Below w.heap.size w w2 := (by exact Below.trans (by go_grown) (hb2.mono (by go_size))); clear hb2 hz2)
        | (go_at_call_of 15 (Value.agg #[Value.int IntKind.i64 aa, Value.int IntKind.i64 ab, Value.int IntKind.i64 al]); refine (specJoinYes aa ab al ba bb bl _ g1 g2 g3).mono ?_; rintro e w3 ⟨rfl, hb3⟩; have hp3_0 := kept hb3 (w.heap.size) (by go_size); have hp3_1 := kept hb3 (w.heap.size + 1) (by go_size); obtain ⟨hc3, hf3⟩ := bcell hb3; have ht3 : ∀ b, b < _ → b < w3.heap.size := fun b hb => Nat.lt_of_lt_of_le hb hb3.size; have hz3 := hb3.size; (try simp only [World.size_drew] at hz3); (try simp only [World.size_setCell] at hz3); (try simp only [World.size_alloc] at hz3); have hx3_0 : w.heap.size < w3.heap.size := (by omega); have hu3_0 : w.heap.size ≠ w3.heap.size := (by omega); have hv3_0 : w3.heap.size ≠ w.heap.size := (by omega); have hx3_1 : w.heap.size + 1 < w3.heap.size := (by omega); have hu3_1 : w.heap.size + 1 ≠ w3.heap.size := (by omega); have hv3_1 : w3.heap.size ≠ w.heap.size + 1 := (by omega); (try have hj3_1 : w1.heap.size < w3.heap.size := (by omega)); (try have hj3_2 : w2.heap.size < w3.heap.size := (by omega)); (try have hm3 : w.heap.size + 1 + 1 < w3.heap.size := (by omega)); have k3 : Below w.heap.size w w3 := (by exact Below.trans (by go_grown) (hb3.mono (by go_size))); clear hb3 hz3))
    all_goals go_wp2_with fail
    all_goals go_meet
    all_goals refine ⟨_, rfl, rfl, ?_, ?_, ?_, ?_, ?_, ?_, ?_, ?_, ?_, ?_, ?_, ?_⟩
    all_goals first | (simp [*]; done) | omega | (simp; omega) | (simp [*, go_sem]; done) | (go_grown; done)
  case rest =>
    obtain ⟨g, rfl, rfl, hg1, hg2, q0, q1, q2, q3, q4, q5, q6, q7, q8, kc⟩ := hcut
    have hd0 : w.heap.size < wc.heap.size := by omega
    have hd1 : w.heap.size + 1 < wc.heap.size := by omega
    have he0 : wc.heap.size ≠ w.heap.size := by omega
    have he1 : wc.heap.size ≠ w.heap.size + 1 := by omega
    have he2 : wc.heap.size ≠ g := by omega
    go_upto_region 2 with fail
    go_cut [7, 8] (fun p ok wd => ∃ g', p = .pointer (some ⟨g', 0, none⟩) ∧ ok = .bool true ∧ g < g' ∧ g' < wd.heap.size ∧ wd.cell? ⟨g', 0, none⟩ = some (.int .i64 (joinA aa ba)) ∧ wd.cell? ⟨g', 1, none⟩ = some (.int .i64 (joinB aa ab bb bl)) ∧ wd.cell? ⟨g', 2, none⟩ = some (.int .i64 (al + bl)) ∧ wd.cell? ⟨w.heap.size, 0, none⟩ = some (.int .i64 aa) ∧ wd.cell? ⟨w.heap.size, 1, none⟩ = some (.int .i64 ab) ∧ wd.cell? ⟨w.heap.size, 2, none⟩ = some (.int .i64 al) ∧ wd.cell? ⟨w.heap.size + 1, 0, none⟩ = some (.int .i64 ba) ∧ wd.cell? ⟨w.heap.size + 1, 1, none⟩ = some (.int .i64 bb) ∧ wd.cell? ⟨w.heap.size + 1, 2, none⟩ = some (.int .i64 bl) ∧ wd.cell? ⟨g, 0, none⟩ = some (.int .i64 (joinA aa ba)) ∧ wd.cell? ⟨g, 1, none⟩ = some (.int .i64 (joinB aa ab bb bl)) ∧ wd.cell? ⟨g, 2, none⟩ = some (.int .i64 (al + bl)) ∧ Below w.heap.size w wd)
    case first =>
      go_region_held3 (fun w' => w'.cell? ⟨w.heap.size, 0, none⟩ = some (.int .i64 aa) ∧ w'.cell? ⟨w.heap.size, 1, none⟩ = some (.int .i64 ab) ∧ w'.cell? ⟨w.heap.size, 2, none⟩ = some (.int .i64 al) ∧ w'.cell? ⟨w.heap.size + 1, 0, none⟩ = some (.int .i64 ba) ∧ w'.cell? ⟨w.heap.size + 1, 1, none⟩ = some (.int .i64 bb) ∧ w'.cell? ⟨w.heap.size + 1, 2, none⟩ = some (.int .i64 bl) ∧ w'.cell? ⟨g, 0, none⟩ = some (.int .i64 (joinA aa ba)) ∧ w'.cell? ⟨g, 1, none⟩ = some (.int .i64 (joinB aa ab bb bl)) ∧ w'.cell? ⟨g, 2, none⟩ = some (.int .i64 (al + bl))) (go_keep)
      (first
        | (go_at_call_of 11 (Value.agg #[Value.int IntKind.i64 aa, Value.int IntKind.i64 ab, Value.int IntKind.i64 al]); refine (toMix aa ab al _).mono ?_; rintro e w1 ⟨rfl, hb1⟩; have hp1_0 := kept hb1 (w.heap.size) (by go_size); have hp1_1 := kept hb1 (w.heap.size + 1) (by go_size); have hp1_2 := kept hb1 (g) (by go_size); obtain ⟨hc1, hf1⟩ := bcell hb1; have ht1 : ∀ b, b < _ → b < w1.heap.size := fun b hb => Nat.lt_of_lt_of_le hb hb1.size; have hz1 := hb1.size; (try simp only [World.size_drew] at hz1); (try simp only [World.size_setCell] at hz1); (try simp only [World.size_alloc] at hz1); have hx1_0 : w.heap.size < w1.heap.size := (by omega); have hu1_0 : w.heap.size ≠ w1.heap.size := (by omega); have hv1_0 : w1.heap.size ≠ w.heap.size := (by omega); have hx1_1 : w.heap.size + 1 < w1.heap.size := (by omega); have hu1_1 : w.heap.size + 1 ≠ w1.heap.size := (by omega); have hv1_1 : w1.heap.size ≠ w.heap.size + 1 := (by omega); have hx1_2 : g < w1.heap.size := (by omega); have hu1_2 : g ≠ w1.heap.size := (by omega); have hv1_2 : w1.heap.size ≠ g := (by omega); (try have hm1 : wc.heap.size < w1.heap.size := (by omega)); have k1 : Below w.heap.size w w1 := (by exact Below.trans (by go_grown) (hb1.mono (by go_size))); clear hb1 hz1)
        | (go_at_call_of 11 (Value.agg #[Value.int IntKind.i64 ba, Value.int IntKind.i64 bb, Value.int IntKind.i64 bl]); refine (toMix ba bb bl _).mono ?_; rintro e w2 ⟨rfl, hb2⟩; have hp2_0 := kept hb2 (w.heap.size) (by go_size); have hp2_1 := kept hb2 (w.heap.size + 1) (by go_size); have hp2_2 := kept hb2 (g) (by go_size); obtain ⟨hc2, hf2⟩ := bcell hb2; have ht2 : ∀ b, b < _ → b < w2.heap.size := fun b hb => Nat.lt_of_lt_of_le hb hb2.size; have hz2 := hb2.size; (try simp only [World.size_drew] at hz2); (try simp only [World.size_setCell] at hz2); (try simp only [World.size_alloc] at hz2); have hx2_0 : w.heap.size < w2.heap.size := (by omega); have hu2_0 : w.heap.size ≠ w2.heap.size := (by omega); have hv2_0 : w2.heap.size ≠ w.heap.size := (by omega); have hx2_1 : w.heap.size + 1 < w2.heap.size := (by omega); have hu2_1 : w.heap.size + 1 ≠ w2.heap.size := (by omega); have hv2_1 : w2.heap.size ≠ w.heap.size + 1 := (by omega); have hx2_2 : g < w2.heap.size := (by omega); have hu2_2 : g ≠ w2.heap.size := (by omega); have hv2_2 : w2.heap.size ≠ g := (by omega); (try have hj2_1 : w1.heap.size < w2.heap.size := (by omega)); (try have hm2 : wc.heap.size < w2.heap.size := (by omega)); have k2 : Below w.heap.size w w2 := (by exact Below.trans (by go_grown) (hb2.mono (by go_size))); clear hb2 hz2)
        | (go_at_call_of 16 (Value.agg #[Value.int IntKind.i64 aa, Value.int IntKind.i64 ab, Value.int IntKind.i64 al]); refine (implJoinYes aa ab al ba bb bl _ g1 g2 g3).mono ?_; rintro e w3 ⟨rfl, hb3⟩; have hp3_0 := kept hb3 (w.heap.size) (by go_size); have hp3_1 := kept hb3 (w.heap.size + 1) (by go_size); have hp3_2 := kept hb3 (g) (by go_size); obtain ⟨hc3, hf3⟩ := bcell hb3; have ht3 : ∀ b, b < _ → b < w3.heap.size := fun b hb => Nat.lt_of_lt_of_le hb hb3.size; have hz3 := hb3.size; (try simp only [World.size_drew] at hz3); (try simp only [World.size_setCell] at hz3); (try simp only [World.size_alloc] at hz3); have hx3_0 : w.heap.size < w3.heap.size := (by omega); have hu3_0 : w.heap.size ≠ w3.heap.size := (by omega); have hv3_0 : w3.heap.size ≠ w.heap.size := (by omega); have hx3_1 : w.heap.size + 1 < w3.heap.size := (by omega); have hu3_1 : w.heap.size + 1 ≠ w3.heap.size := (by omega); have hv3_1 : w3.heap.size ≠ w.heap.size + 1 := (by omega); have hx3_2 : g < w3.heap.size := (by omega); have hu3_2 : g ≠ w3.heap.size := (by omega); have hv3_2 : w3.heap.size ≠ g := (by omega); (try have hj3_1 : w1.heap.size < w3.heap.size := (by omega)); (try have hj3_2 : w2.heap.size < w3.heap.size := (by omega)); (try have hm3 : wc.heap.size < w3.heap.size := (by omega)); have k3 : Below w.heap.size w w3 := (by exact Below.trans (by go_grown) (hb3.mono (by go_size))); clear hb3 hz3))
      all_goals go_wp2_with fail
      all_goals go_meet
      all_goals refine ⟨_, rfl, rfl, ?_, ?_, ?_, ?_, ?_, ?_, ?_, ?_, ?_, ?_, ?_, ?_, ?_, ?_, ?_⟩
      all_goals first | (simp [*]; done) | omega | (simp; omega) | (simp [*, go_sem]; done) | (go_grown; done)
    case rest =>
      obtain ⟨g', rfl, rfl, hh1, hh2, r0, r1, r2, r3, r4, r5, r6, r7, r8, r9, r10, r11, kd⟩ := hcut
      go_wp2_with fail
      refine (eqMix _ _ _ _).mono ?_
      rintro e w7 ⟨rfl, hb7⟩
      have k7 : Below w.heap.size w w7 := kd.trans (hb7.mono kd.size)
      clear hb7
      go_wp2
      go_returns
      exact ⟨rfl, k7⟩

theorem walk (aa ab al ba bb bl : Int) (w : World) :
    Calls Try.prog 6 #[.agg #[.int .i64 aa, .int .i64 ab, .int .i64 al], .agg #[.int .i64 ba, .int .i64 bb, .int .i64 bl]] w fun e w' => e = .returned (.bool true) ∧ Below w.heap.size w w' := by
  by_cases h : JoinNo aa ab al ba bb bl
  · exact walkNo aa ab al ba bb bl w h
  · have g1 : goodB aa ab al = true := by
      cases e : goodB aa ab al
      · exact absurd (.inl e) h
      · rfl
    have g2 : goodB ba bb bl = true := by
      cases e : goodB ba bb bl
      · exact absurd (.inr (.inl ⟨g1, e⟩)) h
      · rfl
    have g3 : al + bl ≤ 1000000 := by
      rcases Int.lt_or_le 1000000 (al + bl) with e | e
      · exact absurd (.inr (.inr ⟨g1, g2, e⟩)) h
      · exact e
    exact walkYes aa ab al ba bb bl w g1 g2 g3

theorem own : ownKnob Try.prog.godebug = none := by kernel_rfl
theorem laidOut : laidOutB Try.prog = true := by kernel_rfl
theorem cellsMix : Try.prog.cellsOf 28 = 3 := by kernel_rfl
set_option maxRecDepth 100000 in
theorem lifted (os : Os) (started : os.Started) (H : Type) (enc : TypeId × Value → H) :
    ReturnsInHanded {} Try.checked os 6 .any (Rows.fnExactJoinMixesSpec.pre6 enc Try.prog Try.f6 Rows.fnExactJoinMixesRow.domain false) (Rows.fnExactJoinMixesSpec.post enc Try.prog Try.f6 false true false false) := by
  refine returnsInHanded_of_change (C := Try.checked) own started (by kernel_rfl) Try.func6
    (ChangeSpec.witness6 (enc := enc) (C := Try.checked) false ⟨#[], #[.agg #[.int .i64 0, .int .i64 0, .int .i64 0], .agg #[.int .i64 0, .int .i64 0, .int .i64 0]], []⟩ 8 (by kernel_rfl) (by kernel_rfl) (by kernel_rfl) (by kernel_rfl)) ?_
  intro W base args ds gs before hval0 hW hcnd _
  have hval : ∀ (j : Nat) t v, Try.f6.params[j]? = some t → args[j]? = some v → Value.okWide Try.prog W .any base t v := hval0
  have hW' := hW
  obtain ⟨p, q, hA0, hV, rfl, hfz, hnd⟩ := hW
  have hA : DataW.TrodAll enc Try.prog W 0 (fun _ => true) true Try.f6.params.toList args.toList ds p := hA0
  rw [Try.params6] at hA hval
  obtain ⟨v0, vs0, d0, ds0, p0, q0, hargs, rfl, rfl, h0, r0⟩ := trodAll_cons hA
  obtain ⟨v1, vs1, d1, ds1, p1, q1, rfl, rfl, rfl, h1, r1⟩ := trodAll_cons r0
  obtain ⟨rfl, rfl, rfl⟩ := trodAll_nil r1
  obtain rfl : args = #[v0, v1] := by cases args; simp_all
  obtain ⟨rfl, rfl⟩ := trodVars_none hV
  obtain ⟨c0, c1, c2, y0, y1, y2, m0, rfl, rfl, rfl, hy0, hy1, hy2⟩ := open_agg3 Try.underlying28 (by kernel_rfl) cellsMix (hval 0 28 v0 rfl rfl) h0
  obtain ⟨a0, e0, rfl, wa0⟩ := DataW.trod_int Try.underlying3 hy0
  obtain ⟨b0, e1, rfl, wb0⟩ := DataW.trod_int Try.underlying3 hy1
  obtain ⟨l0, e2, rfl, wl0⟩ := DataW.trod_int Try.underlying3 hy2
  simp at e0 e1 e2
  subst e0 e1 e2
  have reads0 : ∀ (W' : World) (sp : Nat → Bool), DataW.Trod enc Try.prog W' 0 sp true 28 (.agg #[.int .i64 a0, .int .i64 b0, .int .i64 l0]) (.agg [.lit (.int .i64 a0), .lit (.int .i64 b0), .lit (.int .i64 l0)]) [] := fun W' sp =>
    shut_agg3 (y0 := (.lit (.int .i64 a0), [])) (y1 := (.lit (.int .i64 b0), [])) (y2 := (.lit (.int .i64 l0), [])) Try.underlying28 (by kernel_rfl) cellsMix
      ⟨1, by simp [DataW.trod, Try.underlying3, wa0]⟩ ⟨1, by simp [DataW.trod, Try.underlying3, wb0]⟩ ⟨1, by simp [DataW.trod, Try.underlying3, wl0]⟩
  obtain ⟨c0, c1, c2, y0, y1, y2, m1, rfl, rfl, rfl, hy0, hy1, hy2⟩ := open_agg3 Try.underlying28 (by kernel_rfl) cellsMix (hval 1 28 v1 rfl rfl) h1
  obtain ⟨a1, e0, rfl, wa1⟩ := DataW.trod_int Try.underlying3 hy0
  obtain ⟨b1, e1, rfl, wb1⟩ := DataW.trod_int Try.underlying3 hy1
  obtain ⟨l1, e2, rfl, wl1⟩ := DataW.trod_int Try.underlying3 hy2
  simp at e0 e1 e2
  subst e0 e1 e2
  have reads1 : ∀ (W' : World) (sp : Nat → Bool), DataW.Trod enc Try.prog W' 0 sp true 28 (.agg #[.int .i64 a1, .int .i64 b1, .int .i64 l1]) (.agg [.lit (.int .i64 a1), .lit (.int .i64 b1), .lit (.int .i64 l1)]) [] := fun W' sp =>
    shut_agg3 (y0 := (.lit (.int .i64 a1), [])) (y1 := (.lit (.int .i64 b1), [])) (y2 := (.lit (.int .i64 l1), [])) Try.underlying28 (by kernel_rfl) cellsMix
      ⟨1, by simp [DataW.trod, Try.underlying3, wa1]⟩ ⟨1, by simp [DataW.trod, Try.underlying3, wb1]⟩ ⟨1, by simp [DataW.trod, Try.underlying3, wl1]⟩
  clear hA0 hval0
  refine (walk a0 b0 l0 a1 b1 l1 W).mono fun e W' ⟨he, bel⟩ => ?_
  subst he
  exact ⟨_, rfl, _, _, _, [], _, [], hW', trodAll_mk1 (shut_bool Try.underlying4 _), (trodAll_cons_mk (reads0 _ _) (trodAll_cons_mk (reads1 _ _) trodAll_mk0)), rfl, bel.frame _, fun h => by cases h⟩

theorem over : Rows.fnExactJoinMixesRow.holds Try.pinned (OpenSpec.ofChange Rows.fnExactJoinMixesSpec) :=
  OpenClaim.holds_of_wide 6 Try.f6 rfl rfl rfl rfl rfl rfl rfl ⟨rfl, rfl, rfl, rfl, rfl⟩ rfl rfl rfl rfl rfl (by kernel_rfl) Try.func6 (by kernel_rfl)
    (of_decide_eq_true (by kernel_rfl)) (by unfold Func.isWrapper; first | (rw [if_pos (by decide +kernel)]; kernel_rfl) | (rw [if_neg (by decide +kernel)]; exact ⟨rfl, rfl⟩))
    (fun os started H enc _ => lifted os started H enc)
end Go.Proofs.Ytmnebdgoombfoaa.fnExactJoinMixes
namespace Go.Proofs.Ytmnebdgoombfoaa
theorem fnExactJoinMixes_holds : Rows.FnExactJoinMixesSaid := fnExactJoinMixes.over
#print axioms fnExactJoinMixes_holds
end Go.Proofs.Ytmnebdgoombfoaa
