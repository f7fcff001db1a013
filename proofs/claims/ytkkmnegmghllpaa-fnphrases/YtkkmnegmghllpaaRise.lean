/- Contracts of what tells whether numbers rise within their limits, program and model. Condition: the list lies in memory. -/
import Derived.Test.YtkkmnegmghllpaaPostL
namespace Go.Proofs.Ytkkmnegmghllpaa
open Go.ChangeShapes Go.WideShapes Go.ChangeAt Go.RowKit Go.Deep
set_option linter.unusedVariables false
attribute [local go_sem ↓] Go.wp_at_zero Go.wp_at_succ

/-- Whether a list can be packed, step by step. -/
def riseTo (m : Int) (l : List Int) (k : Nat) : Prop := (∀ i, i < k → 0 ≤ l.getD i 0 ∧ l.getD i 0 ≤ m) ∧ ∀ i, i + 1 < k → l.getD i 0 < l.getD (i + 1) 0
theorem rise_step {m : Int} {l : List Int} {k : Nat} (h : riseTo m l k) (h1 : 0 ≤ l.getD k 0 ∧ l.getD k 0 ≤ m) (h2 : 0 < k → l.getD (k - 1) 0 < l.getD k 0) : riseTo m l (k + 1) := by
  refine ⟨fun i hi => ?_, fun i hi => ?_⟩
  · by_cases e : i = k
    · subst e; exact h1
    · exact h.1 i (by omega)
  · by_cases e : i + 1 = k
    · have := h2 (by omega)
      rw [show k - 1 = i by omega] at this
      rw [e]; exact this
    · exact h.2 i (by omega)
set_option maxHeartbeats 3200000 in
set_option maxRecDepth 100000 in
theorem implRises (m : Int) (v : Value) (l : List Int) (B : Bool) (hB : B = true ↔ riseTo m l l.length) (w : World) (h : IntsAt w v l) (hl : l.length ≤ 1048576) :
    Calls Try.prog 62 #[v, .int .i64 m] w fun e w' => e = .returned (.bool B) ∧ Below w.heap.size w w' := by
  have HT : Hid (riseTo m l l.length → B = true) := fun hr => hB.2 hr
  have HN0 : Hid (∀ i, i < l.length → ¬ (0 ≤ l.getD i 0 ∧ l.getD i 0 ≤ m) → B = false) := fun i hi hn => by
    cases B
    · rfl
    · exact absurd ((hB.1 rfl).1 i hi) hn
  have HN1 : Hid (∀ i, i + 1 < l.length → l.getD (i + 1) 0 ≤ l.getD i 0 → B = false) := fun i hi hn => by
    cases B
    · rfl
    · exact absurd ((hB.1 rfl).2 i hi) (by omega)
  clear hB
  rcases h with ⟨a0, c0, rfl, rfl⟩ | ⟨b, off, cap, rfl, hb, hcell⟩
  · have HS : Hid (B = true) := HT.out ⟨fun i hi => by simp at hi, fun i hi => by simp at hi⟩
    go_enter Try.func62, Try.ntmps62
    go_wp2
    go_loopw [9] (fun i wr => i = .int .i64 0 ∧ Below w.heap.size w wr) (fun _ _ => 0)
    case atStart => exact ⟨rfl, by go_grown⟩
    case round =>
      obtain ⟨rfl, kb⟩ := hrel
      go_wp2
      go_returns
      exact ⟨by rw [HS.out]; rfl, by go_grown⟩
  · have HC : Hid (∀ i, i < l.length → w.cell? ⟨b, off + i, none⟩ = some (.int .i64 (l.getD i 0))) := hcell
    clear hcell
    go_enter Try.func62, Try.ntmps62
    go_wp2
    go_loopw [9] (fun i wr => ∃ k : Nat, k ≤ l.length ∧ i = .int .i64 k ∧ Hid (riseTo m l k) ∧ Below w.heap.size w wr) (fun i _ => l.length - (intOf i).toNat)
    case atStart => exact ⟨0, Nat.zero_le _, rfl, ⟨fun i hi => by omega, fun i hi => by omega⟩, by go_grown⟩
    case round =>
      obtain ⟨k, hk, rfl, hr, kb⟩ := hrel
      by_cases hlt : k < l.length
      · have hc : wr.cell? ⟨b, off + k, none⟩ = some (.int .i64 (l.getD k 0)) := (kb.cell (p := ⟨b, off + k, none⟩) hb).trans (HC.out k hlt)
        have HNk : Hid (¬ (0 ≤ l.getD k 0 ∧ l.getD k 0 ≤ m) → B = false) := HN0.out k hlt
        have HST := hid (fun h1 h2 => rise_step (k := k) hr.out h1 h2)
        by_cases hk0 : k = 0
        · subst hk0
          simp only [Nat.add_zero] at hc
          generalize l.getD 0 0 = t at *
          by_cases h0 : t < 0
          · have HS : Hid (B = false) := HNk.out (by omega)
            go_wp2
            go_returns
            exact ⟨by rw [HS.out]; rfl, by go_grown⟩
          · by_cases h1 : m < t
            · have HS : Hid (B = false) := HNk.out (by omega)
              go_wp2
              go_returns
              exact ⟨by rw [HS.out]; rfl, by go_grown⟩
            · have HS : Hid (riseTo m l (0 + 1)) := HST.out (by omega) (fun h => by omega)
              go_wp2
              exact ⟨⟨0 + 1, by omega, by go_num, HS, by go_grown⟩, by simp [intOf]; omega⟩
        · obtain ⟨j, rfl⟩ : ∃ j, k = j + 1 := ⟨k - 1, by omega⟩
          have hcj : wr.cell? ⟨b, off + j, none⟩ = some (.int .i64 (l.getD j 0)) := (kb.cell (p := ⟨b, off + j, none⟩) hb).trans (HC.out j (by omega))
          have HN2 : Hid (l.getD (j + 1) 0 ≤ l.getD j 0 → B = false) := HN1.out j hlt
          simp only [Nat.add_sub_cancel] at HST
          have hj0 : (0 : Int) < (j : Int) + 1 := by omega
          have hjw : IntKind.i64.wrap (j : Int) = (j : Int) := by rw [IntKind.wrap_i64]; omega
          have hjs : (j : Int) + 1 - 1 = (j : Int) := by omega
          generalize l.getD (j + 1) 0 = t at *
          generalize l.getD j 0 = s at *
          by_cases h0 : t < 0
          · have HS : Hid (B = false) := HNk.out (by omega)
            go_wp2
            go_returns
            exact ⟨by rw [HS.out]; rfl, by go_grown⟩
          · by_cases h1 : m < t
            · have HS : Hid (B = false) := HNk.out (by omega)
              go_wp2
              go_returns
              exact ⟨by rw [HS.out]; rfl, by go_grown⟩
            · by_cases h2 : t ≤ s
              · have HS : Hid (B = false) := HN2.out (by omega)
                have hd1 : decide (m < t) = false := by simp; omega
                go_wp2
                go_returns
                exact ⟨by rw [HS.out]; rfl, by go_grown⟩
              · have HS : Hid (riseTo m l (j + 1 + 1)) := HST.out (by omega) (fun _ => by omega)
                have hd1 : decide (m < t) = false := by simp; omega
                have hd2 : decide (t ≤ s) = false := by simp; omega
                go_wp2
                exact ⟨⟨j + 1 + 1, by omega, by go_num, HS, by go_grown⟩, by simp [intOf]; omega⟩
      · have hke : k = l.length := by omega
        subst hke
        have HS : Hid (B = true) := HT.out hr.out
        go_wp2
        go_returns
        exact ⟨by rw [HS.out]; rfl, by go_grown⟩
theorem l1InB (n lo hi : Int) (w : World) : Calls Try.prog 69 #[.int .i64 n, .int .i64 lo, .int .i64 hi] w fun e w' => e = .returned (.bool (decide (lo ≤ n ∧ n ≤ hi))) ∧ w' = w := by
  by_cases h1 : lo ≤ n
  · by_cases h2 : n ≤ hi
    · rw [decide_eq_true ⟨h1, h2⟩]
      go_enter Try.func69, Try.ntmps69
      go_wp2
      go_returns
      exact ⟨rfl, rfl⟩
    · rw [decide_eq_false (fun h => h2 h.2)]
      go_enter Try.func69, Try.ntmps69
      go_wp2
      go_returns
      exact ⟨rfl, rfl⟩
  · rw [decide_eq_false (fun h => h1 h.1)]
    go_enter Try.func69, Try.ntmps69
    go_wp2
    go_returns
    exact ⟨rfl, rfl⟩
set_option maxHeartbeats 3200000 in
set_option maxRecDepth 100000 in
theorem specRise (m : Int) (v : Value) (l : List Int) (B : Bool) (hB : B = true ↔ riseTo m l l.length) (w : World) (h : IntsAt w v l) (hl : l.length ≤ 1048576) :
    Calls Try.prog 75 #[v, .int .i64 0, .int .i64 m] w fun e w' => e = .returned (.bool B) ∧ Below w.heap.size w w' := by
  have HT : Hid (riseTo m l l.length → B = true) := hB.2
  have HN0 : Hid (∀ i, i < l.length → ¬ (0 ≤ l.getD i 0 ∧ l.getD i 0 ≤ m) → B = false) := fun i hi hn => by
    cases B
    · rfl
    · exact absurd ((hB.1 rfl).1 i hi) hn
  have HN1 : Hid (∀ i, i + 1 < l.length → l.getD (i + 1) 0 ≤ l.getD i 0 → B = false) := fun i hi hn => by
    cases B
    · rfl
    · exact absurd ((hB.1 rfl).2 i hi) (by omega)
  clear hB
  rcases h with ⟨a0, c0, rfl, rfl⟩ | ⟨b, off, cap, rfl, hb, hcell⟩
  · have HS : Hid (B = true) := HT.out ⟨fun i hi => by simp at hi, fun i hi => by simp at hi⟩
    go_enter Try.func75, Try.ntmps75
    go_wp2
    go_loopw [11] (fun i wr => i = .int .i64 0 ∧ Below w.heap.size w wr) (fun _ _ => 0)
    case atStart => exact ⟨rfl, by go_grown⟩
    case round =>
      obtain ⟨rfl, kb⟩ := hrel
      go_wp2
      go_returns
      exact ⟨by rw [HS.out]; rfl, by go_grown⟩
  · have HC : Hid (∀ i, i < l.length → w.cell? ⟨b, off + i, none⟩ = some (.int .i64 (l.getD i 0))) := hcell
    clear hcell
    go_enter Try.func75, Try.ntmps75
    go_wp2
    go_loopw [11] (fun i wr => ∃ k : Nat, k ≤ l.length ∧ i = .int .i64 k ∧ Hid (riseTo m l k) ∧ Below w.heap.size w wr) (fun i _ => l.length - (intOf i).toNat)
    case atStart => exact ⟨0, Nat.zero_le _, rfl, ⟨fun i hi => by omega, fun i hi => by omega⟩, by go_grown⟩
    case round =>
      obtain ⟨k, hk, rfl, hr, kb⟩ := hrel
      by_cases hlt : k < l.length
      · have hc : wr.cell? ⟨b, off + k, none⟩ = some (.int .i64 (l.getD k 0)) := (kb.cell (p := ⟨b, off + k, none⟩) hb).trans (HC.out k hlt)
        have HNk : Hid (¬ (0 ≤ l.getD k 0 ∧ l.getD k 0 ≤ m) → B = false) := HN0.out k hlt
        have HST := hid (fun h1 h2 => rise_step (k := k) hr.out h1 h2)
        have HIN := fun W => l1InB (l.getD k 0) 0 m W
        have hki : (k : Int) < (l.length : Int) := by omega
        by_cases hk0 : k = 0
        · subst hk0
          simp only [Nat.add_zero] at hc
          generalize l.getD 0 0 = t at *
          by_cases h0 : 0 ≤ t ∧ t ≤ m
          · rw [decide_eq_true h0] at HIN
            have HS : Hid (riseTo m l (0 + 1)) := HST.out h0 (fun h => by omega)
            clear h0
            go_wp2_with fail
            refine (HIN _).mono ?_
            rintro e w1 ⟨rfl, rfl⟩
            clear HIN
            go_wp2
            exact ⟨⟨0 + 1, by omega, by go_num, HS, by go_grown⟩, by simp [intOf]; omega⟩
          · rw [decide_eq_false h0] at HIN
            have HS : Hid (B = false) := HNk.out h0
            clear h0
            go_wp2_with fail
            refine (HIN _).mono ?_
            rintro e w1 ⟨rfl, rfl⟩
            clear HIN
            go_wp2
            go_returns
            exact ⟨by rw [HS.out]; rfl, by go_grown⟩
        · obtain ⟨j, rfl⟩ : ∃ j, k = j + 1 := ⟨k - 1, by omega⟩
          have hcj : wr.cell? ⟨b, off + j, none⟩ = some (.int .i64 (l.getD j 0)) := (kb.cell (p := ⟨b, off + j, none⟩) hb).trans (HC.out j (by omega))
          have HN2 : Hid (l.getD (j + 1) 0 ≤ l.getD j 0 → B = false) := HN1.out j hlt
          simp only [Nat.add_sub_cancel] at HST
          have hj0 : (0 : Int) < (j : Int) + 1 := by omega
          have hjw : IntKind.i64.wrap (j : Int) = (j : Int) := by rw [IntKind.wrap_i64]; omega
          have hjs : (j : Int) + 1 - 1 = (j : Int) := by omega
          generalize l.getD (j + 1) 0 = t at *
          generalize l.getD j 0 = s at *
          by_cases h0 : 0 ≤ t ∧ t ≤ m
          · rw [decide_eq_true h0] at HIN
            by_cases h2 : t ≤ s
            · have HS : Hid (B = false) := HN2.out h2
              clear h0
              go_wp2_with fail
              refine (HIN _).mono ?_
              rintro e w1 ⟨rfl, rfl⟩
              clear HIN
              go_wp2
              go_returns
              exact ⟨by rw [HS.out]; rfl, by go_grown⟩
            · have HS : Hid (riseTo m l (j + 1 + 1)) := HST.out h0 (fun _ => by omega)
              have hd2 : decide (t ≤ s) = false := by simp; omega
              clear h0
              go_wp2_with fail
              refine (HIN _).mono ?_
              rintro e w1 ⟨rfl, rfl⟩
              clear HIN
              go_wp2
              exact ⟨⟨j + 1 + 1, by omega, by go_num, HS, by go_grown⟩, by simp [intOf]; omega⟩
          · rw [decide_eq_false h0] at HIN
            have HS : Hid (B = false) := HNk.out h0
            clear h0
            go_wp2_with fail
            refine (HIN _).mono ?_
            rintro e w1 ⟨rfl, rfl⟩
            clear HIN
            go_wp2
            go_returns
            exact ⟨by rw [HS.out]; rfl, by go_grown⟩
      · have hke : k = l.length := by omega
        subst hke
        have hki : ¬ (l.length : Int) < (l.length : Int) := by omega
        have HS : Hid (B = true) := HT.out hr.out
        go_wp2
        go_returns
        exact ⟨by rw [HS.out]; rfl, by go_grown⟩
end Go.Proofs.Ytkkmnegmghllpaa
