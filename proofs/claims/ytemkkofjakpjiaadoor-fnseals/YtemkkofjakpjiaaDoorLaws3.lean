/- Contracts of the laws' helpers for signers and seals. Condition: lists lie in memory. -/
import Derived.Test.YtemkkofjakpjiaaDoorSpecText
import Derived.Test.YtemkkofjakpjiaaDoorOwn3
namespace Go.Proofs.YtemkkofjakpjiaaDoor
open Go.ChangeShapes Go.WideShapes Go.ChangeAt Go.RowKit Go.Deep
set_option linter.unusedVariables false
attribute [local go_sem ↓] Go.wp_at_zero Go.wp_at_succ

theorem toSigner (s : ByteArray) (u : Int) (w : World) :
    Calls Tryd.prog 57 #[.agg #[.string s, .int .i64 u]] w fun e w' => e = .returned (.agg #[.string s, .int .i64 u]) ∧ Below w.heap.size w w' := by
  go_enter Tryd.func57, Tryd.ntmps57
  go_wp2
  go_returns
  exact ⟨rfl, by go_grown⟩
theorem eqSigner (s : ByteArray) (u : Int) (w : World) :
    Calls Tryd.prog 58 #[.agg #[.string s, .int .i64 u], .agg #[.string s, .int .i64 u]] w fun e w' => e = .returned (.bool true) ∧ Below w.heap.size w w' := by
  go_enter Tryd.func58, Tryd.ntmps58
  go_wp2
  go_returns
  exact ⟨rfl, by go_grown⟩
theorem szSignerYes (s : ByteArray) (u : Int) (z : Nat) (w : World) (hz : z ≤ 1048576) (h : s.size ≤ z) :
    Calls Tryd.prog 56 #[.agg #[.string s, .int .i64 u], .int .i64 z] w fun e w' => e = .returned (.int .i64 ((z : Int) - (s.size : Int))) ∧ Below w.heap.size w w' := by
  have h0 : ¬ (z : Int) - (s.size : Int) < 0 := by omega
  go_enter Tryd.func56, Tryd.ntmps56
  go_wp2
  go_returns
  exact ⟨rfl, by go_grown⟩
theorem szSignerNo (s : ByteArray) (u : Int) (z : Nat) (w : World) (hm : s.size ≤ maxLen) (hz : z ≤ 1048576) (h : z < s.size) :
    Calls Tryd.prog 56 #[.agg #[.string s, .int .i64 u], .int .i64 z] w fun e w' => e = .returned (.int .i64 (-1)) ∧ Below w.heap.size w w' := by
  unfold maxLen at hm
  have h0 : (z : Int) - (s.size : Int) < 0 := by omega
  go_enter Tryd.func56, Tryd.ntmps56
  go_wp2
  go_returns
  exact ⟨rfl, by go_grown⟩
set_option maxHeartbeats 1600000 in
theorem eqSeal (n : Int) (v1 v2 u1 u2 : Value) (ss ws : List ByteArray) (w : World) (h1 : StrsAt w v1 ss) (h2 : StrsAt w v2 ws) (h3 : StrsAt w u1 ss) (h4 : StrsAt w u2 ws) (hl1 : ss.length ≤ 1048576) (hl2 : ws.length ≤ 1048576) :
    Calls Tryd.prog 59 #[.agg #[.int .i64 n, v1, v2], .agg #[.int .i64 n, u1, u2]] w fun e w' => e = .returned (.bool true) ∧ Below w.heap.size w w' := by
  have H1 : Hid (StrsAt w v1 ss) := h1
  have H2 : Hid (StrsAt w v2 ws) := h2
  have H3 : Hid (StrsAt w u1 ss) := h3
  have H4 : Hid (StrsAt w u2 ws) := h4
  clear h1 h2 h3 h4
  go_enter Tryd.func59, Tryd.ntmps59
  go_wp2_with fail
  refine (eqStr v1 u1 ss _ (H1.out.below (by go_grown)) (H3.out.below (by go_grown)) hl1).mono ?_
  rintro e w1 ⟨rfl, hb1⟩
  obtain ⟨hc1, hf1⟩ := bcell hb1
  have hz1 := hb1.size
  try simp only [World.size_drew] at hz1
  try simp only [World.size_setCell] at hz1
  try simp only [World.size_alloc] at hz1
  have hz1_0 : w.heap.size < w1.heap.size := by omega
  have hz1_1 : w.heap.size + 1 < w1.heap.size := by omega
  clear hz1
  have k1 : Below w.heap.size w w1 := by
    refine Below.trans ?_ (hb1.mono ?_)
    · go_grown
    · go_size
  have hl1 : w.heap.size ≤ w1.heap.size := k1.size
  clear hb1
  go_wp2_with fail
  refine (eqStr v2 u2 ws _ (H2.out.below (by go_grown)) (H4.out.below (by go_grown)) hl2).mono ?_
  rintro e w2 ⟨rfl, hb2⟩
  obtain ⟨hc2, hf2⟩ := bcell hb2
  have hz2 := hb2.size
  try simp only [World.size_drew] at hz2
  try simp only [World.size_setCell] at hz2
  try simp only [World.size_alloc] at hz2
  have hz2_0 : w.heap.size < w2.heap.size := by omega
  have hz2_1 : w.heap.size + 1 < w2.heap.size := by omega
  try have hy2_1 : w1.heap.size < w2.heap.size := (by omega)
  clear hz2
  have k2 : Below w.heap.size w w2 := by
    refine Below.trans ?_ (hb2.mono ?_)
    · go_grown
    · go_size
  have hl2 : w.heap.size ≤ w2.heap.size := k2.size
  clear hb2
  go_wp2
  go_returns
  exact ⟨rfl, by go_grown⟩
set_option maxHeartbeats 1600000 in
theorem sameSeal (n : Int) (v1 v2 u1 u2 : Value) (ss ws : List ByteArray) (w : World) (h1 : StrsAt w v1 ss) (h2 : StrsAt w v2 ws) (h3 : StrsAt w u1 ss) (h4 : StrsAt w u2 ws) (hl1 : ss.length ≤ 1048576) (hl2 : ws.length ≤ 1048576) :
    Calls Tryd.prog 35 #[.agg #[.int .i64 n, v1, v2], .agg #[.int .i64 n, u1, u2]] w fun e w' => e = .returned (.bool true) ∧ Below w.heap.size w w' := by
  have H1 : Hid (StrsAt w v1 ss) := h1
  have H2 : Hid (StrsAt w v2 ws) := h2
  have H3 : Hid (StrsAt w u1 ss) := h3
  have H4 : Hid (StrsAt w u2 ws) := h4
  clear h1 h2 h3 h4
  go_enter Tryd.func35, Tryd.ntmps35
  go_wp2_with fail
  refine (sameStr v1 u1 ss _ (H1.out.below (by go_grown)) (H3.out.below (by go_grown)) hl1).mono ?_
  rintro e w1 ⟨rfl, hb1⟩
  obtain ⟨hc1, hf1⟩ := bcell hb1
  have hz1 := hb1.size
  try simp only [World.size_drew] at hz1
  try simp only [World.size_setCell] at hz1
  try simp only [World.size_alloc] at hz1
  have hz1_0 : w.heap.size < w1.heap.size := by omega
  have hz1_1 : w.heap.size + 1 < w1.heap.size := by omega
  clear hz1
  have k1 : Below w.heap.size w w1 := by
    refine Below.trans ?_ (hb1.mono ?_)
    · go_grown
    · go_size
  have hl1 : w.heap.size ≤ w1.heap.size := k1.size
  clear hb1
  go_wp2_with fail
  refine (sameStr v2 u2 ws _ (H2.out.below (by go_grown)) (H4.out.below (by go_grown)) hl2).mono ?_
  rintro e w2 ⟨rfl, hb2⟩
  obtain ⟨hc2, hf2⟩ := bcell hb2
  have hz2 := hb2.size
  try simp only [World.size_drew] at hz2
  try simp only [World.size_setCell] at hz2
  try simp only [World.size_alloc] at hz2
  have hz2_0 : w.heap.size < w2.heap.size := by omega
  have hz2_1 : w.heap.size + 1 < w2.heap.size := by omega
  try have hy2_1 : w1.heap.size < w2.heap.size := (by omega)
  clear hz2
  have k2 : Below w.heap.size w w2 := by
    refine Below.trans ?_ (hb2.mono ?_)
    · go_grown
    · go_size
  have hl2 : w.heap.size ≤ w2.heap.size := k2.size
  clear hb2
  go_wp2
  go_returns
  exact ⟨rfl, by go_grown⟩
set_option maxHeartbeats 1600000 in
theorem heldSeal (n : Int) (b1 b2 g4 g5 c4 c5 : Nat) (w : World) (h1 : OwnRow b1 w g4 11 (fun i => .string (mkT (1 + i)))) (h2 : OwnRow b2 w g5 3 (fun i => .string (mkT (12 + i)))) :
    Calls Tryd.prog 61 #[.agg #[.int .i64 n, .slice (some ⟨g4, 0, none⟩) 11 c4, .slice (some ⟨g5, 0, none⟩) 3 c5], .int .i64 1] w fun e w' => e = .returned (.int .i64 15) ∧ Below w.heap.size w w' := by
  have H1 : Hid (OwnRow b1 w g4 11 (fun i => .string (mkT (1 + i)))) := h1
  have H2 : Hid (OwnRow b2 w g5 3 (fun i => .string (mkT (12 + i)))) := h2
  clear h1 h2
  go_enter Tryd.func61, Tryd.ntmps61
  go_wp2_with fail
  refine (heldStrK b1 g4 11 c4 1 _ (H1.out.below (by go_grown)) (by omega) (by omega)).mono ?_
  rintro e w1 ⟨rfl, hb1⟩
  obtain ⟨hc1, hf1⟩ := bcell hb1
  have hz1 := hb1.size
  try simp only [World.size_drew] at hz1
  try simp only [World.size_setCell] at hz1
  try simp only [World.size_alloc] at hz1
  have hz1_0 : w.heap.size < w1.heap.size := by omega
  clear hz1
  have k1 : Below w.heap.size w w1 := by
    refine Below.trans ?_ (hb1.mono ?_)
    · go_grown
    · go_size
  have hl1 : w.heap.size ≤ w1.heap.size := k1.size
  clear hb1
  go_wp2_with fail
  refine (heldStrK b2 g5 3 c5 12 _ (H2.out.below (by go_grown)) (by omega) (by omega)).mono ?_
  rintro e w2 ⟨rfl, hb2⟩
  obtain ⟨hc2, hf2⟩ := bcell hb2
  have hz2 := hb2.size
  try simp only [World.size_drew] at hz2
  try simp only [World.size_setCell] at hz2
  try simp only [World.size_alloc] at hz2
  have hz2_0 : w.heap.size < w2.heap.size := by omega
  try have hy2_1 : w1.heap.size < w2.heap.size := (by omega)
  clear hz2
  have k2 : Below w.heap.size w w2 := by
    refine Below.trans ?_ (hb2.mono ?_)
    · go_grown
    · go_size
  have hl2 : w.heap.size ≤ w2.heap.size := k2.size
  clear hb2
  go_wp2
  go_returns
  exact ⟨rfl, by go_grown⟩
set_option maxHeartbeats 1600000 in
theorem heldSealNil (n : Int) (a1 a2 : Option Addr) (c1 c2 : Nat) (w : World) :
    Calls Tryd.prog 61 #[.agg #[.int .i64 n, .slice a1 0 c1, .slice a2 0 c2], .int .i64 1] w fun e w' => e = .returned (.int .i64 1) ∧ Below w.heap.size w w' := by
  go_enter Tryd.func61, Tryd.ntmps61
  go_wp2_with fail
  refine (heldStrKNil a1 c1 1 _).mono ?_
  rintro e w1 ⟨rfl, rfl⟩
  go_wp2_with fail
  refine (heldStrKNil a2 c2 1 _).mono ?_
  rintro e w2 ⟨rfl, rfl⟩
  go_wp2
  go_returns
  exact ⟨rfl, by go_grown⟩
set_option maxHeartbeats 1600000 in
theorem markSealNil (n : Int) (a1 a2 : Option Addr) (c1 c2 : Nat) (w : World) :
    Calls Tryd.prog 60 #[.agg #[.int .i64 n, .slice a1 0 c1, .slice a2 0 c2], .int .i64 1] w fun e w' => e = .returned (.int .i64 1) ∧ Below w.heap.size w w' := by
  go_enter Tryd.func60, Tryd.ntmps60
  go_wp2_with fail
  refine (markStrKNil a1 c1 1 _).mono ?_
  rintro e w1 ⟨rfl, rfl⟩
  go_wp2_with fail
  refine (markStrKNil a2 c2 1 _).mono ?_
  rintro e w2 ⟨rfl, rfl⟩
  go_wp2
  go_returns
  exact ⟨rfl, by go_grown⟩
theorem strs_slice {w : World} {v : Value} {ss : List ByteArray} (h : StrsAt w v ss) : ∃ a l c, v = .slice a l c := by
  rcases h with ⟨a0, c0, h1, h2⟩ | ⟨b, off, cap, h1, h2, h3⟩
  · exact ⟨_, _, _, by assumption⟩
  · exact ⟨_, _, _, h1⟩
theorem StrsAt.setOther {w : World} {v u : Value} {ss : List ByteArray} {g o : Nat} (h : StrsAt w v ss) (hp : ∀ s, w.cell? ⟨g, o, none⟩ ≠ some (.string s)) : StrsAt (w.setCell ⟨g, o, none⟩ u) v ss := by
  rcases h with h | ⟨b, off, cap, h1, h2, h3⟩
  · exact .inl h
  · refine .inr ⟨b, off, cap, h1, by simpa using h2, fun i hi => ?_⟩
    rw [World.cell?_setCell_other w ⟨g, o, none⟩ ⟨b, off + i, none⟩ _ (fun e => hp _ (by rw [e]; exact h3 i hi)), h3 i hi]
set_option maxHeartbeats 3200000 in
theorem toSeal (n : Int) (v1 v2 : Value) (ss ws : List ByteArray) (w : World) (h1 : StrsAt w v1 ss) (h2 : StrsAt w v2 ws) (hl1 : ss.length ≤ 1048576) (hl2 : ws.length ≤ 1048576) :
    Calls Tryd.prog 63 #[.agg #[.int .i64 n, v1, v2]] w fun e w' => ∃ u1 u2, e = .returned (.agg #[.int .i64 n, u1, u2]) ∧ StrsAt w' u1 ss ∧ StrsAt w' u2 ws ∧ Below w.heap.size w w' := by
  have H1 : Hid (StrsAt w v1 ss) := h1
  have H2 : Hid (StrsAt w v2 ws) := h2
  obtain ⟨x1, y1, q1, e1⟩ := strs_slice h1
  obtain ⟨x2, y2, q2, e2⟩ := strs_slice h2
  clear h1 h2
  subst e1
  subst e2
  go_enter Tryd.func63, Tryd.ntmps63
  go_wp2_with fail
  refine (toStr _ ss _ (H1.out.below (by go_grown)) hl1).mono ?_
  rintro e w1 ⟨u1, rfl, hs1, hb1⟩
  obtain ⟨x3, y3, q3, rfl⟩ := strs_slice hs1
  have hbX : Below (w.alloc (.cells #[.int .i64 n, .slice x1 y1 q1, .slice x2 y2 q2] 79)).heap.size (w.alloc (.cells #[.int .i64 n, .slice x1 y1 q1, .slice x2 y2 q2] 79)) w1 := by
    refine Below.trans ?_ (hb1.mono ?_)
    · go_grown
    · go_size
  have a2 : w1.cell? ⟨w.heap.size, 2, none⟩ = some (.slice x2 y2 q2) := (hbX.cell (p := ⟨w.heap.size, 2, none⟩) (by simp)).trans (by simp)
  clear hbX
  have hbY : Below ((w.alloc (.cells #[.int .i64 n, .slice x1 y1 q1, .slice x2 y2 q2] 79)).alloc (.cells #[.int .i64 0, .slice none 0 0, .slice none 0 0] 49)).heap.size ((w.alloc (.cells #[.int .i64 n, .slice x1 y1 q1, .slice x2 y2 q2] 79)).alloc (.cells #[.int .i64 0, .slice none 0 0, .slice none 0 0] 49)) w1 := by
    refine Below.trans ?_ (hb1.mono ?_)
    · go_grown
    · go_size
  have r0 : w1.cell? ⟨w.heap.size + 1, 0, none⟩ = some (.int .i64 0) := (hbY.cell (p := ⟨w.heap.size + 1, 0, none⟩) (by simp)).trans (by simp)
  have r1 : w1.cell? ⟨w.heap.size + 1, 1, none⟩ = some (.slice none 0 0) := (hbY.cell (p := ⟨w.heap.size + 1, 1, none⟩) (by simp)).trans (by simp)
  have r2 : w1.cell? ⟨w.heap.size + 1, 2, none⟩ = some (.slice none 0 0) := (hbY.cell (p := ⟨w.heap.size + 1, 2, none⟩) (by simp)).trans (by simp)
  clear hbY
  have o0 : w1.cell? ⟨w.heap.size + 1 + 1, 0, none⟩ = some (.int .i64 n) := (hb1.cell (p := ⟨w.heap.size + 1 + 1, 0, none⟩) (by simp)).trans (allocCell _ _ _ _ _ _ (by simp) (by rfl))
  have o1 : w1.cell? ⟨w.heap.size + 1 + 1, 1, none⟩ = some (.slice none 0 0) := (hb1.cell (p := ⟨w.heap.size + 1 + 1, 1, none⟩) (by simp)).trans (allocCell _ _ _ _ _ _ (by simp) (by rfl))
  have o2 : w1.cell? ⟨w.heap.size + 1 + 1, 2, none⟩ = some (.slice none 0 0) := (hb1.cell (p := ⟨w.heap.size + 1 + 1, 2, none⟩) (by simp)).trans (allocCell _ _ _ _ _ _ (by simp) (by rfl))
  obtain ⟨hc1, hf1⟩ := bcell hb1
  have hz1 := hb1.size
  simp only [World.size_alloc] at hz1
  have k1 : Below w.heap.size w w1 := by
    refine Below.trans ?_ (hb1.mono ?_)
    · go_grown
    · go_size
  clear hb1
  have z0 : w.heap.size < w1.heap.size := by omega
  have z1 : w.heap.size + 1 < w1.heap.size := by omega
  have z2 : w.heap.size + 1 + 1 < w1.heap.size := by omega
  have S1 : Hid (StrsAt w1 (.slice x3 y3 q3) ss) := hs1
  clear hs1 hz1
  go_wp2_with fail
  refine (toStr _ ws _ (H2.out.below (by go_grown)) hl2).mono ?_
  rintro e w2 ⟨u2, rfl, hs2, hb2⟩
  obtain ⟨x4, y4, q4, rfl⟩ := strs_slice hs2
  have T1 : StrsAt (w1.setCell ⟨w.heap.size + 1 + 1, 1, none⟩ (.slice x3 y3 q3)) (.slice x3 y3 q3) ss := StrsAt.setOther S1.out (fun s => by rw [o1]; simp)
  have r0B : w2.cell? ⟨w.heap.size + 1, 0, none⟩ = some (.int .i64 0) := (hb2.cell (p := ⟨w.heap.size + 1, 0, none⟩) (by simp; omega)).trans (by simp [r0, go_sem])
  have r1B : w2.cell? ⟨w.heap.size + 1, 1, none⟩ = some (.slice none 0 0) := (hb2.cell (p := ⟨w.heap.size + 1, 1, none⟩) (by simp; omega)).trans (by simp [r1, go_sem])
  have r2B : w2.cell? ⟨w.heap.size + 1, 2, none⟩ = some (.slice none 0 0) := (hb2.cell (p := ⟨w.heap.size + 1, 2, none⟩) (by simp; omega)).trans (by simp [r2, go_sem])
  have o0B : w2.cell? ⟨w.heap.size + 1 + 1, 0, none⟩ = some (.int .i64 n) := (hb2.cell (p := ⟨w.heap.size + 1 + 1, 0, none⟩) (by simp; omega)).trans (by simp [o0, go_sem])
  have o1B : w2.cell? ⟨w.heap.size + 1 + 1, 1, none⟩ = some (.slice x3 y3 q3) := (hb2.cell (p := ⟨w.heap.size + 1 + 1, 1, none⟩) (by simp; omega)).trans (by simp [o1, go_sem])
  have o2B : w2.cell? ⟨w.heap.size + 1 + 1, 2, none⟩ = some (.slice none 0 0) := (hb2.cell (p := ⟨w.heap.size + 1 + 1, 2, none⟩) (by simp; omega)).trans (by simp [o2, go_sem])
  have hz2 := hb2.size
  simp only [World.size_setCell] at hz2
  have k2 : Below w.heap.size w w2 := by
    refine Below.trans ?_ (hb2.mono ?_)
    · go_grown
    · go_size
  obtain ⟨hc2, hf2⟩ := bcell hb2
  have S2 : Hid (StrsAt w2 (.slice x3 y3 q3) ss) := T1.below hb2
  have S3 : Hid (StrsAt w2 (.slice x4 y4 q4) ws) := hs2
  clear T1 hs2 hb2
  have y0 : w.heap.size < w2.heap.size := by omega
  have y1 : w.heap.size + 1 < w2.heap.size := by omega
  have y2 : w.heap.size + 1 + 1 < w2.heap.size := by omega
  go_wp2_with fail
  (try simp only [Exit.inBlock, Exit.then])
  refine bodyPost_ret (by simp [r0B, r1B, r2B, results, Tryd.results63, go_sem]; try rfl) rfl ?_
  refine ⟨.slice x3 y3 q3, .slice x4 y4 q4, rfl, ?_, ?_, ?_⟩
  · refine StrsAt.setOther (StrsAt.setOther (StrsAt.setOther (StrsAt.setOther S2.out ?_) ?_) ?_) ?_ <;> (intro s; simp [r0B, r1B, r2B, o2B, go_sem])
  · refine StrsAt.setOther (StrsAt.setOther (StrsAt.setOther (StrsAt.setOther S3.out ?_) ?_) ?_) ?_ <;> (intro s; simp [r0B, r1B, r2B, o2B, go_sem])
  · go_grown
set_option maxHeartbeats 3200000 in
theorem markSeal (n : Int) (base g4 g5 c4 c5 : Nat) (f4 f5 : Nat → Value) (w : World) (h1 : OwnRow base w g4 11 f4) (h2 : OwnRow base w g5 3 f5) (hne : g4 ≠ g5) (hf4 : ∀ i, i < 11 → ∃ x, f4 i = .string x) (hf5 : ∀ i, i < 3 → ∃ x, f5 i = .string x) :
    Calls Tryd.prog 60 #[.agg #[.int .i64 n, .slice (some ⟨g4, 0, none⟩) 11 c4, .slice (some ⟨g5, 0, none⟩) 3 c5], .int .i64 1] w fun e w' => e = .returned (.int .i64 15) ∧ OwnRow base w' g4 11 (fun i => .string (mkT (1 + i))) ∧ OwnRow base w' g5 3 (fun i => .string (mkT (12 + i))) ∧
      ∃ w0 w1, Below w.heap.size w w0 ∧ w0.grownBy w1 (some g4) ∧ w1.grownBy w' (some g5) := by
  have l4 := h1.2.1
  have l5 := h2.2.1
  have H1 : Hid (OwnRow base w g4 11 f4) := h1
  have H2 : Hid (OwnRow base w g5 3 f5) := h2
  have HF4 : Hid (∀ i, i < 11 → ∃ x, f4 i = .string x) := hf4
  have HF5 : Hid (∀ i, i < 3 → ∃ x, f5 i = .string x) := hf5
  clear h1 h2 hf4 hf5
  go_enter Tryd.func60, Tryd.ntmps60
  go_wp2_with fail
  refine (markStrK base g4 11 c4 1 f4 _ (H1.out.below (by go_grown)) (by omega) (by omega) HF4.out).mono ?_
  rintro e w1 ⟨rfl, ho1, hg1⟩
  have a2 : w1.cell? ⟨w.heap.size, 2, none⟩ = some (.slice (some ⟨g5, 0, none⟩) 3 c5) := hg1.cell (by simp) (fun e => by simp only [Option.some.injEq] at e; omega)
  have z1 := hg1.size
  have ho5 : OwnRow base w1 g5 3 f5 := by
    have q := H2.out.below ((Below.refl w.heap.size w).alloc (Nat.le_refl _) (.cells #[.int .i64 n, .slice (some ⟨g4, 0, none⟩) 11 c4, .slice (some ⟨g5, 0, none⟩) 3 c5] 49))
    exact ⟨q.1, Nat.lt_of_lt_of_le q.2.1 hg1.size, fun i hi => (hg1.cell_far ⟨g5, i, none⟩ q.2.1 (fun e => by simp only [Option.some.injEq] at e; omega)).trans (q.2.2.1 i hi), fun i hi => (hg1.frozen_far ⟨g5, i, none⟩ q.2.1 (fun e => by simp only [Option.some.injEq] at e; omega)).trans (q.2.2.2 i hi)⟩
  have HO1 : Hid (OwnRow base w1 g4 11 (fun i => .string (mkT (1 + i)))) := ho1
  have HO5 : Hid (OwnRow base w1 g5 3 f5) := ho5
  have HG1 : Hid (World.grownBy _ w1 (some g4)) := hg1
  clear ho1 ho5 hg1
  go_wp2_with fail
  refine (markStrK base g5 3 c5 12 f5 _ HO5.out (by omega) (by omega) HF5.out).mono ?_
  rintro e w2 ⟨rfl, ho2, hg2⟩
  have ho4 : OwnRow base w2 g4 11 (fun i => .string (mkT (1 + i))) := by
    have q := HO1.out
    exact ⟨q.1, Nat.lt_of_lt_of_le q.2.1 hg2.size, fun i hi => (hg2.cell_far ⟨g4, i, none⟩ q.2.1 (fun e => by simp only [Option.some.injEq] at e; omega)).trans (q.2.2.1 i hi), fun i hi => (hg2.frozen_far ⟨g4, i, none⟩ q.2.1 (fun e => by simp only [Option.some.injEq] at e; omega)).trans (q.2.2.2 i hi)⟩
  have HO2 : Hid (OwnRow base w2 g5 3 (fun i => .string (mkT (12 + i)))) := ho2
  have HO4 : Hid (OwnRow base w2 g4 11 (fun i => .string (mkT (1 + i)))) := ho4
  have HG2 : Hid (w1.grownBy w2 (some g5)) := hg2
  clear ho2 ho4 hg2
  go_wp2
  go_returns
  exact ⟨rfl, HO4.out, HO2.out, _, w1, by go_grown, HG1.out, HG2.out⟩
set_option maxHeartbeats 1600000 in
theorem szSealYes (n : Int) (v1 v2 : Value) (ss ws : List ByteArray) (z : Nat) (w : World) (h1 : StrsAt w v1 ss) (h2 : StrsAt w v2 ws) (hz : z ≤ 1048576) (hm1 : ss.length ≤ maxLen) (hs1 : ∀ s ∈ ss, s.size ≤ maxLen) (hm2 : ws.length ≤ maxLen) (hs2 : ∀ s ∈ ws, s.size ≤ maxLen) (h : (ss.length + sumS ss) + (ws.length + sumS ws) ≤ z) :
    Calls Tryd.prog 62 #[.agg #[.int .i64 n, v1, v2], .int .i64 z] w fun e w' => e = .returned (.int .i64 ((z - (ss.length + sumS ss) - (ws.length + sumS ws) : Nat) : Int)) ∧ Below w.heap.size w w' := by
  have H1 : Hid (StrsAt w v1 ss) := h1
  have H2 : Hid (StrsAt w v2 ws) := h2
  have G1 := fun W hW => szStrK v1 ss z W hW hz hm1 hs1
  have G2 := fun W hW => szStrK v2 ws (z - (ss.length + sumS ss)) W hW (by omega) hm2 hs2
  rw [szRK_pos (by omega)] at G1
  rw [szRK_pos (by omega)] at G2
  clear h1 h2 hs1 hs2 hm1 hm2
  generalize z - (ss.length + sumS ss) = y at *
  generalize y - (ws.length + sumS ws) = x at *
  have hy : ¬ (y : Int) < 0 := by omega
  have hx : ¬ (x : Int) < 0 := by omega
  go_enter Tryd.func62, Tryd.ntmps62
  go_wp2_with fail
  refine (G1 _ (H1.out.below (by go_grown))).mono ?_
  rintro e w1 ⟨rfl, rfl⟩
  go_wp2_with fail
  refine (G2 _ (H2.out.below (by go_grown))).mono ?_
  rintro e w2 ⟨rfl, rfl⟩
  clear G1 G2
  go_wp2
  go_returns
  exact ⟨rfl, by go_grown⟩
set_option maxHeartbeats 1600000 in
theorem szSealNo (n : Int) (v1 v2 : Value) (ss ws : List ByteArray) (z : Nat) (w : World) (h1 : StrsAt w v1 ss) (h2 : StrsAt w v2 ws) (hz : z ≤ 1048576) (hm1 : ss.length ≤ maxLen) (hs1 : ∀ s ∈ ss, s.size ≤ maxLen) (hm2 : ws.length ≤ maxLen) (hs2 : ∀ s ∈ ws, s.size ≤ maxLen) (h : z < (ss.length + sumS ss) + (ws.length + sumS ws)) :
    Calls Tryd.prog 62 #[.agg #[.int .i64 n, v1, v2], .int .i64 z] w fun e w' => e = .returned (.int .i64 (-1)) ∧ Below w.heap.size w w' := by
  have H1 : Hid (StrsAt w v1 ss) := h1
  have H2 : Hid (StrsAt w v2 ws) := h2
  have G1 := fun W hW => szStrK v1 ss z W hW hz hm1 hs1
  by_cases h3 : z < ss.length + sumS ss
  · rw [szRK_neg h3] at G1
    clear h1 h2 hs1 hs2 hm1 hm2 h h3
    go_enter Tryd.func62, Tryd.ntmps62
    go_wp2_with fail
    refine (G1 _ (H1.out.below (by go_grown))).mono ?_
    rintro e w1 ⟨rfl, rfl⟩
    clear G1
    go_wp2
    go_returns
    exact ⟨rfl, by go_grown⟩
  · have G2 := fun W hW => szStrK v2 ws (z - (ss.length + sumS ss)) W hW (by omega) hm2 hs2
    rw [szRK_pos (by omega)] at G1
    rw [szRK_neg (by omega)] at G2
    clear h1 h2 hs1 hs2 hm1 hm2 h h3
    generalize z - (ss.length + sumS ss) = y at *
    have hy : ¬ (y : Int) < 0 := by omega
    go_enter Tryd.func62, Tryd.ntmps62
    go_wp2_with fail
    refine (G1 _ (H1.out.below (by go_grown))).mono ?_
    rintro e w1 ⟨rfl, rfl⟩
    go_wp2_with fail
    refine (G2 _ (H2.out.below (by go_grown))).mono ?_
    rintro e w2 ⟨rfl, rfl⟩
    clear G1 G2
    go_wp2
    go_returns
    exact ⟨rfl, by go_grown⟩
end Go.Proofs.YtemkkofjakpjiaaDoor
