/- Small tests: docs, scores, numbers in a range; program and model. No condition. -/
import Derived.Test.YthdodlbhkpoadaaHasD
namespace Go.Proofs.Ythdodlbhkpoadaa
open Go.ChangeShapes Go.WideShapes Go.ChangeAt Go.RowKit Go.Deep
set_option linter.unusedVariables false
attribute [local go_sem ↓] Go.wp_at_zero Go.wp_at_succ

theorem specIn (x a b : Int) (B : Bool) (hB : B = decide (a ≤ x ∧ x ≤ b)) (w : World) : Calls Try.prog 55 #[.int .i64 x, .int .i64 a, .int .i64 b] w fun e w' => e = .returned (.bool B) ∧ w' = w := by
  by_cases h1 : a ≤ x
  · by_cases h2 : x ≤ b
    · have HT : Hid (B = true) := by show _ = _; rw [hB]; simp [h1, h2]
      clear hB
      go_enter Try.func55, Try.ntmps55
      go_wp2
      go_returns
      exact ⟨by rw [HT.out]; rfl, rfl⟩
    · have HT : Hid (B = false) := by show _ = _; rw [hB]; simp [h2]
      clear hB
      go_enter Try.func55, Try.ntmps55
      go_wp2
      go_returns
      exact ⟨by rw [HT.out]; rfl, rfl⟩
  · have HT : Hid (B = false) := by show _ = _; rw [hB]; simp [h1]
    clear hB
    go_enter Try.func55, Try.ntmps55
    go_wp2
    go_returns
    exact ⟨by rw [HT.out]; rfl, rfl⟩
theorem implGDoc (x : Int) (B : Bool) (hB : B = decide (0 ≤ x ∧ x ≤ 99)) (w : World) : Calls Try.prog 60 #[.int .i64 x] w fun e w' => e = .returned (.bool B) ∧ w' = w := by
  by_cases h1 : 0 ≤ x
  · by_cases h2 : x ≤ 99
    · have HT : Hid (B = true) := by show _ = _; rw [hB]; simp [h1, h2]
      clear hB
      go_enter Try.func60, Try.ntmps60
      go_wp2
      go_returns
      exact ⟨by rw [HT.out]; rfl, rfl⟩
    · have HT : Hid (B = false) := by show _ = _; rw [hB]; simp [h2]
      clear hB
      go_enter Try.func60, Try.ntmps60
      go_wp2
      go_returns
      exact ⟨by rw [HT.out]; rfl, rfl⟩
  · have HT : Hid (B = false) := by show _ = _; rw [hB]; simp [h1]
    clear hB
    go_enter Try.func60, Try.ntmps60
    go_wp2
    go_returns
    exact ⟨by rw [HT.out]; rfl, rfl⟩
theorem implMany (x : Int) (B : Bool) (hB : B = decide (1 ≤ x ∧ x ≤ 10)) (w : World) : Calls Try.prog 49 #[.int .i64 x] w fun e w' => e = .returned (.bool B) ∧ w' = w := by
  by_cases h1 : 1 ≤ x
  · by_cases h2 : x ≤ 10
    · have HT : Hid (B = true) := by show _ = _; rw [hB]; simp [h1, h2]
      clear hB
      go_enter Try.func49, Try.ntmps49
      go_wp2
      go_returns
      exact ⟨by rw [HT.out]; rfl, rfl⟩
    · have HT : Hid (B = false) := by show _ = _; rw [hB]; simp [h2]
      clear hB
      go_enter Try.func49, Try.ntmps49
      go_wp2
      go_returns
      exact ⟨by rw [HT.out]; rfl, rfl⟩
  · have HT : Hid (B = false) := by show _ = _; rw [hB]; simp [h1]
    clear hB
    go_enter Try.func49, Try.ntmps49
    go_wp2
    go_returns
    exact ⟨by rw [HT.out]; rfl, rfl⟩
/-- A score whose doc and number are as said. -/
def okSc (p : Sc) (lo hi : Int) : Bool := decide (0 ≤ p.1 ∧ p.1 ≤ 99) && decide (lo ≤ p.2 ∧ p.2 ≤ hi)
theorem okSc_iff {p : Sc} {lo hi : Int} : okSc p lo hi = true ↔ (0 ≤ p.1 ∧ p.1 ≤ 99) ∧ lo ≤ p.2 ∧ p.2 ≤ hi := by simp [okSc]
set_option maxHeartbeats 1600000 in
theorem implGSc (p : Sc) (lo hi : Int) (w : World) : Calls Try.prog 66 #[.agg #[.int .i64 p.1, .int .i64 p.2], .int .i64 lo, .int .i64 hi] w fun e w' => e = .returned (.bool (okSc p lo hi)) ∧ Below w.heap.size w w' := by
  obtain ⟨B, hB⟩ : ∃ B, B = decide (0 ≤ p.1 ∧ p.1 ≤ 99) := ⟨_, rfl⟩
  have HD := fun W => implGDoc p.1 B hB W
  have HO : Hid (okSc p lo hi = (B && decide (lo ≤ p.2 ∧ p.2 ≤ hi))) := by show _ = _; rw [hB]; rfl
  generalize okSc p lo hi = O at *
  generalize p.1 = p1 at *
  generalize p.2 = p2 at *
  clear hB
  cases B with
  | false =>
    have HT : Hid (O = false) := by show _ = _; rw [HO.out]; rfl
    go_enter Try.func66, Try.ntmps66
    go_wp2_with fail
    refine (HD _).mono ?_
    rintro e w1 ⟨rfl, hw1⟩
    subst w1
    go_wp2
    go_returns
    exact ⟨by rw [HT.out]; rfl, by go_grown⟩
  | true =>
    by_cases h1 : lo ≤ p2
    · by_cases h2 : p2 ≤ hi
      · have HT : Hid (O = true) := by show _ = _; rw [HO.out]; simp [h1, h2]
        go_enter Try.func66, Try.ntmps66
        go_wp2_with fail
        refine (HD _).mono ?_
        rintro e w1 ⟨rfl, hw1⟩
        subst w1
        go_wp2
        go_returns
        exact ⟨by rw [HT.out]; rfl, by go_grown⟩
      · have HT : Hid (O = false) := by show _ = _; rw [HO.out]; simp [h2]
        have h2d : decide (p2 ≤ hi) = false := decide_eq_false h2
        go_enter Try.func66, Try.ntmps66
        go_wp2_with fail
        refine (HD _).mono ?_
        rintro e w1 ⟨rfl, hw1⟩
        subst w1
        go_wp2
        go_returns
        exact ⟨by rw [HT.out]; first | rfl | (simp [h2d]; done), by go_grown⟩
    · have HT : Hid (O = false) := by show _ = _; rw [HO.out]; simp [h1]
      go_enter Try.func66, Try.ntmps66
      go_wp2_with fail
      refine (HD _).mono ?_
      rintro e w1 ⟨rfl, hw1⟩
      subst w1
      go_wp2
      go_returns
      exact ⟨by rw [HT.out]; rfl, by go_grown⟩
end Go.Proofs.Ythdodlbhkpoadaa
