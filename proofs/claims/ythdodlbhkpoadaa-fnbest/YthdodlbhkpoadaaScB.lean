/- Which score is better: program and model. No condition. -/
import Derived.Test.YthdodlbhkpoadaaScM
import Derived.Deep.RegionHeld3
namespace Go.Proofs.Ythdodlbhkpoadaa
open Go.ChangeShapes Go.WideShapes Go.ChangeAt Go.RowKit Go.Deep
set_option linter.unusedVariables false
attribute [local go_sem ↓] Go.wp_at_zero Go.wp_at_succ

set_option maxHeartbeats 1600000 in
theorem implBet (a b : Sc) (w : World) :
    Calls Try.prog 68 #[.agg #[.int .i64 a.1, .int .i64 a.2], .agg #[.int .i64 b.1, .int .i64 b.2]] w fun e w' => e = .returned (.bool (bet a b)) ∧ Below w.heap.size w w' := by
  obtain ⟨a1, a2⟩ := a
  obtain ⟨b1, b2⟩ := b
  dsimp only
  obtain ⟨B, hB⟩ : ∃ B, B = bet (a1, a2) (b1, b2) := ⟨_, rfl⟩
  rw [← hB]
  have HB := hid hB
  unfold bet at HB
  clear hB
  by_cases h1 : b2 < a2
  · have HT : Hid (B = true) := by show _ = _; rw [HB.out]; simp [h1]
    clear HB
    go_enter Try.func68, Try.ntmps68
    go_wp2
    go_returns
    exact ⟨by rw [HT.out]; rfl, by go_grown⟩
  · by_cases h2 : a2 = b2
    · by_cases h3 : a1 < b1
      · have HT : Hid (B = true) := by show _ = _; rw [HB.out]; simp [h2, h3]
        have h2b : (a2 == b2) = true := by simp [h2]
        clear HB h2
        go_enter Try.func68, Try.ntmps68
        go_wp2
        go_returns
        exact ⟨by rw [HT.out]; rfl, by go_grown⟩
      · have HT : Hid (B = false) := by show _ = _; rw [HB.out]; simp [h1, h3]
        have h2b : (a2 == b2) = true := by simp [h2]
        clear HB h2
        go_enter Try.func68, Try.ntmps68
        go_wp2
        go_returns
        exact ⟨by rw [HT.out]; rfl, by go_grown⟩
    · have HT : Hid (B = false) := by show _ = _; rw [HB.out]; simp [h1, h2]
      have h2b : (a2 == b2) = false := by simp [h2]
      clear HB h2
      go_enter Try.func68, Try.ntmps68
      go_wp2
      go_returns
      exact ⟨by rw [HT.out]; rfl, by go_grown⟩
set_option maxHeartbeats 1600000 in
theorem specBet (a b : Sc) (w : World) :
    Calls Try.prog 69 #[.agg #[.int .i64 a.1, .int .i64 a.2], .agg #[.int .i64 b.1, .int .i64 b.2]] w fun e w' => e = .returned (.bool (bet a b)) ∧ Below w.heap.size w w' := by
  obtain ⟨a1, a2⟩ := a
  obtain ⟨b1, b2⟩ := b
  dsimp only
  obtain ⟨B, hB⟩ : ∃ B, B = bet (a1, a2) (b1, b2) := ⟨_, rfl⟩
  rw [← hB]
  have HB := hid hB
  unfold bet at HB
  clear hB
  by_cases h1 : b2 < a2
  · have HT : Hid (B = true) := by show _ = _; rw [HB.out]; simp [h1]
    clear HB
    go_enter Try.func69, Try.ntmps69
    go_wp2
    go_returns
    exact ⟨by rw [HT.out]; rfl, by go_grown⟩
  · by_cases h2 : a2 = b2
    · by_cases h3 : a1 < b1
      · have HT : Hid (B = true) := by show _ = _; rw [HB.out]; simp [h2, h3]
        have h2b : (a2 == b2) = true := by simp [h2]
        clear HB h2
        go_enter Try.func69, Try.ntmps69
        go_wp2
        go_returns
        exact ⟨by rw [HT.out]; rfl, by go_grown⟩
      · have HT : Hid (B = false) := by show _ = _; rw [HB.out]; simp [h1, h3]
        have h2b : (a2 == b2) = true := by simp [h2]
        clear HB h2
        go_enter Try.func69, Try.ntmps69
        go_wp2
        go_returns
        exact ⟨by rw [HT.out]; rfl, by go_grown⟩
    · have HT : Hid (B = false) := by show _ = _; rw [HB.out]; simp [h1, h2]
      have h2b : (a2 == b2) = false := by simp [h2]
      clear HB h2
      go_enter Try.func69, Try.ntmps69
      go_wp2
      go_returns
      exact ⟨by rw [HT.out]; rfl, by go_grown⟩
end Go.Proofs.Ythdodlbhkpoadaa
