/- Contracts of the model's LowFor, PackList and what they call. Condition: the list lies in memory. -/
import Derived.Test.YtaafdcghafbfhaaImplPkd
import Derived.Laws.BitsAllLaws
namespace Go.Proofs.Ytaafdcghafbfhaa
open Go.ChangeShapes Go.WideShapes Go.ChangeAt Go.RowKit Go.Deep
set_option linter.unusedVariables false
attribute [local go_sem ↓] Go.wp_at_zero Go.wp_at_succ

theorem conv64 (k : Nat) (hk : k ≤ 100) : IntKind.u64.wrap ((k : Int)) = (k : Int) := by rw [IntKind.wrap_u64]; omega
set_option maxHeartbeats 1600000 in
theorem specLow8 (a b : Nat) (w : World) (ha : a ≤ 60) (hb : b ≤ 10000) :
    Calls Try.prog 58 #[.int .i64 a, .int .i64 b] w fun e w' => e = .returned (.int .i64 (lowN a b : Nat)) ∧ w' = w := by
  by_cases h0 : a = 0
  · subst h0
    have hl : lowN 0 b = 0 := rfl
    rw [hl]
    go_enter Try.func58, Try.ntmps58
    go_wp2
    go_loopw [5] (fun i wr => i = .int .i64 0 ∧ wr = w) (fun _ _ => 0)
    case atStart => exact ⟨rfl, rfl⟩
    case round =>
      obtain ⟨rfl, hw⟩ := hrel
      subst wr
      go_wp2
      go_returns
      exact ⟨rfl, rfl⟩
  · have HL : Hid (lowN a b = lowR a b 14 0) := by show _ = _; unfold lowN; rw [if_neg h0]
    have he : (0 : Int) < (a : Int) := by omega
    go_enter Try.func58, Try.ntmps58
    go_wp2
    go_loopw [5] (fun i wr => ∃ k : Nat, k ≤ 13 ∧ i = .int .i64 k ∧ Hid (lowR a b (14 - k) k = lowN a b) ∧ wr = w) (fun i _ => 14 - (intOf i).toNat)
    case atStart => exact ⟨0, by omega, rfl, HL.out.symm, rfl⟩
    case round =>
      obtain ⟨k, hk, rfl, hR, hw⟩ := hrel
      subst wr
      obtain ⟨hT, hle⟩ := shl_low a b k ha hk
      have hu : IntKind.u64.wrap ((k : Int) + 1) = (k : Int) + 1 := by rw [IntKind.wrap_u64]; omega
      by_cases hlt : a * 2 ^ (k + 1) ≤ b
      · have hk2 := lowR_room (by omega) hb hlt
        have hle2 := hle.2 hlt
        have HS : Hid (lowR a b (14 - (k + 1)) (k + 1) = lowN a b) := by
          show _ = _
          rw [← hR.out, show 14 - k = (14 - (k + 1)) + 1 by omega]
          exact (lowR_step a b _ k hlt).symm
        clear hle hlt
        go_wp2
        exact ⟨⟨k + 1, by omega, by go_num, HS, by first | rfl | trivial⟩, by simp [intOf]; omega⟩
      · have hle2 : ¬ (a : Int) * 2 ^ (k + 1) ≤ b := fun h => hlt (hle.1 h)
        have HE : Hid (k = lowN a b) := by
          show _ = _
          rw [← hR.out]; exact (lowR_end a b _ k hlt).symm
        clear hle hlt
        go_wp2
        go_returns
        exact ⟨by rw [← HE.out]; rfl, rfl⟩
theorem l1InB (n lo hi : Int) (w : World) : Calls Try.prog 57 #[.int .i64 n, .int .i64 lo, .int .i64 hi] w fun e w' => e = .returned (.bool (decide (lo ≤ n ∧ n ≤ hi))) ∧ w' = w := by
  by_cases h1 : lo ≤ n
  · by_cases h2 : n ≤ hi
    · rw [decide_eq_true ⟨h1, h2⟩]
      go_enter Try.func57, Try.ntmps57
      go_wp2
      go_returns
      exact ⟨rfl, rfl⟩
    · rw [decide_eq_false (fun h => h2 h.2)]
      go_enter Try.func57, Try.ntmps57
      go_wp2
      go_returns
      exact ⟨rfl, rfl⟩
  · rw [decide_eq_false (fun h => h1 h.1)]
    go_enter Try.func57, Try.ntmps57
    go_wp2
    go_returns
    exact ⟨rfl, rfl⟩
set_option maxHeartbeats 1600000 in
theorem specLow (a b : Int) (w : World) : Calls Try.prog 26 #[.int .i64 a, .int .i64 b] w fun e w' => e = .returned (.tuple #[.int .i64 (lowV a b), .bool (lowB a b)]) ∧ w' = w := by
  have HI := fun W => l1InB a 0 60 W
  have HJ := fun W => l1InB b 0 10000 W
  by_cases h1 : 0 ≤ a ∧ a ≤ 60
  · rw [decide_eq_true h1] at HI
    by_cases h2 : 0 ≤ b ∧ b ≤ 10000
    · rw [decide_eq_true h2] at HJ
      have hb : lowB a b = true := by simp [lowB]; omega
      obtain ⟨x, rfl⟩ : ∃ x : Nat, a = x := ⟨a.toNat, by omega⟩
      obtain ⟨y, rfl⟩ : ∃ y : Nat, b = y := ⟨b.toNat, by omega⟩
      unfold lowV
      rw [hb]
      have HL := fun W => specLow8 x y W (by omega) (by omega)
      simp only [Int.toNat_natCast, if_true]
      clear h1 h2 hb
      go_enter Try.func26, Try.ntmps26
      go_wp2_with fail
      refine (HI _).mono ?_
      rintro e w1 ⟨rfl, rfl⟩
      go_wp2_with fail
      refine (HJ _).mono ?_
      rintro e w2 ⟨rfl, rfl⟩
      go_wp2_with fail
      refine (HL _).mono ?_
      rintro e w3 ⟨rfl, rfl⟩
      go_wp2_with fail
      go_returns
      exact ⟨rfl, rfl⟩
    · rw [decide_eq_false h2] at HJ
      have hb : lowB a b = false := by simp [lowB]; omega
      unfold lowV
      rw [hb]
      clear h1 h2 hb
      go_enter Try.func26, Try.ntmps26
      go_wp2_with fail
      refine (HI _).mono ?_
      rintro e w1 ⟨rfl, rfl⟩
      go_wp2_with fail
      refine (HJ _).mono ?_
      rintro e w2 ⟨rfl, rfl⟩
      go_wp2_with fail
      go_returns
      exact ⟨rfl, rfl⟩
  · rw [decide_eq_false h1] at HI
    have hb : lowB a b = false := by simp [lowB]; omega
    unfold lowV
    rw [hb]
    clear h1 hb
    go_enter Try.func26, Try.ntmps26
    go_wp2_with fail
    refine (HI _).mono ?_
    rintro e w1 ⟨rfl, rfl⟩
    go_wp2_with fail
    go_returns
    exact ⟨rfl, rfl⟩
set_option maxHeartbeats 3200000 in
set_option maxRecDepth 100000 in
theorem specRise (v : Value) (l : List Int) (B : Bool) (hB : B = true ↔ riseTo l l.length) (w : World) (h : IntsAt w v l) (hl : l.length ≤ 1048576) :
    Calls Try.prog 72 #[v, .int .i64 0, .int .i64 10000] w fun e w' => e = .returned (.bool B) ∧ Below w.heap.size w w' := by
  have HT : Hid (riseTo l l.length → B = true) := hB.2
  have HN0 : Hid (∀ i, i < l.length → ¬ (0 ≤ l.getD i 0 ∧ l.getD i 0 ≤ 10000) → B = false) := fun i hi hn => by
    cases B
    · rfl
    · exact absurd ((hB.1 rfl).1 i hi) hn
  have HN1 : Hid (∀ i, i + 1 < l.length → l.getD (i + 1) 0 ≤ l.getD i 0 → B = false) := fun i hi hn => by
    cases B
    · rfl
    · exact absurd ((hB.1 rfl).2 i hi) (by omega)
  clear hB
  rcases h with ⟨a0, c0, rfl, rfl⟩ | ⟨b, off, cap, rfl, hb, hcell⟩
  · have HS : Hid (B = true) := HT.out ⟨fun i hi => by simp at hi, fun i hi => by simp at hi⟩
    go_enter Try.func72, Try.ntmps72
    go_wp2
    go_loopw [11] (fun i wr => i = .int .i64 0 ∧ Below w.heap.size w wr) (fun _ _ => 0)
    case atStart => exact ⟨rfl, by go_grown⟩
    case round =>
      obtain ⟨rfl, kb⟩ := hrel
      go_wp2
      go_returns
      exact ⟨by rw [HS.out]; rfl, by go_grown⟩
  · have HC : Hid (∀ i, i < l.length → w.cell? ⟨b, off + i, none⟩ = some (.int .i64 (l.getD i 0))) := hcell
    clear hcell
    go_enter Try.func72, Try.ntmps72
    go_wp2
    go_loopw [11] (fun i wr => ∃ k : Nat, k ≤ l.length ∧ i = .int .i64 k ∧ Hid (riseTo l k) ∧ Below w.heap.size w wr) (fun i _ => l.length - (intOf i).toNat)
    case atStart => exact ⟨0, Nat.zero_le _, rfl, ⟨fun i hi => by omega, fun i hi => by omega⟩, by go_grown⟩
    case round =>
      obtain ⟨k, hk, rfl, hr, kb⟩ := hrel
      by_cases hlt : k < l.length
      · have hc : wr.cell? ⟨b, off + k, none⟩ = some (.int .i64 (l.getD k 0)) := (kb.cell (p := ⟨b, off + k, none⟩) hb).trans (HC.out k hlt)
        have HNk : Hid (¬ (0 ≤ l.getD k 0 ∧ l.getD k 0 ≤ 10000) → B = false) := HN0.out k hlt
        have HST := hid (fun h1 h2 => rise_step (k := k) hr.out h1 h2)
        have HIN := fun W => l1InB (l.getD k 0) 0 10000 W
        have hki : (k : Int) < (l.length : Int) := by omega
        by_cases hk0 : k = 0
        · subst hk0
          simp only [Nat.add_zero] at hc
          generalize l.getD 0 0 = t at *
          by_cases h0 : 0 ≤ t ∧ t ≤ 10000
          · rw [decide_eq_true h0] at HIN
            have HS : Hid (riseTo l (0 + 1)) := HST.out h0 (fun h => by omega)
            clear h0
            go_wp2_with fail
            refine (HIN _).mono ?_
            rintro e w1 ⟨rfl, rfl⟩
            clear HIN
            go_wp2
            exact ⟨⟨0 + 1, by omega, by go_num, HS, by go_grown⟩, by simp [intOf]; omega⟩
          · rw [decide_eq_false h0] at HIN
            have HS : Hid (B = false) := HNk.out h0
            clear h0
            go_wp2_with fail
            refine (HIN _).mono ?_
            rintro e w1 ⟨rfl, rfl⟩
            clear HIN
            go_wp2
            go_returns
            exact ⟨by rw [HS.out]; rfl, by go_grown⟩
        · obtain ⟨j, rfl⟩ : ∃ j, k = j + 1 := ⟨k - 1, by omega⟩
          have hcj : wr.cell? ⟨b, off + j, none⟩ = some (.int .i64 (l.getD j 0)) := (kb.cell (p := ⟨b, off + j, none⟩) hb).trans (HC.out j (by omega))
          have HN2 : Hid (l.getD (j + 1) 0 ≤ l.getD j 0 → B = false) := HN1.out j hlt
          simp only [Nat.add_sub_cancel] at HST
          have hj0 : (0 : Int) < (j : Int) + 1 := by omega
          have hjw : IntKind.i64.wrap (j : Int) = (j : Int) := by rw [IntKind.wrap_i64]; omega
          have hjs : (j : Int) + 1 - 1 = (j : Int) := by omega
          generalize l.getD (j + 1) 0 = t at *
          generalize l.getD j 0 = s at *
          by_cases h0 : 0 ≤ t ∧ t ≤ 10000
          · rw [decide_eq_true h0] at HIN
            by_cases h2 : t ≤ s
            · have HS : Hid (B = false) := HN2.out h2
              clear h0
              go_wp2_with fail
              refine (HIN _).mono ?_
              rintro e w1 ⟨rfl, rfl⟩
              clear HIN
              go_wp2
              go_returns
              exact ⟨by rw [HS.out]; rfl, by go_grown⟩
            · have HS : Hid (riseTo l (j + 1 + 1)) := HST.out h0 (fun _ => by omega)
              have hd2 : decide (t ≤ s) = false := by simp; omega
              clear h0
              go_wp2_with fail
              refine (HIN _).mono ?_
              rintro e w1 ⟨rfl, rfl⟩
              clear HIN
              go_wp2
              exact ⟨⟨j + 1 + 1, by omega, by go_num, HS, by go_grown⟩, by simp [intOf]; omega⟩
          · rw [decide_eq_false h0] at HIN
            have HS : Hid (B = false) := HNk.out h0
            clear h0
            go_wp2_with fail
            refine (HIN _).mono ?_
            rintro e w1 ⟨rfl, rfl⟩
            clear HIN
            go_wp2
            go_returns
            exact ⟨by rw [HS.out]; rfl, by go_grown⟩
      · have hke : k = l.length := by omega
        subst hke
        have hki : ¬ (l.length : Int) < (l.length : Int) := by omega
        have HS : Hid (B = true) := HT.out hr.out
        go_wp2
        go_returns
        exact ⟨by rw [HS.out]; rfl, by go_grown⟩
set_option maxHeartbeats 1600000 in
theorem specGoodL (v : Value) (l : List Int) (B : Bool) (hB : B = true ↔ GoodL l) (w : World) (h : IntsAt w v l) (hl : l.length ≤ 1048576) :
    Calls Try.prog 50 #[v] w fun e w' => e = .returned (.bool B) ∧ Below w.heap.size w w' := by
  have HS := hid h
  obtain ⟨a, c, rfl⟩ := h.slice
  by_cases h60 : 60 < l.length
  · have HF : Hid (B = false) := by
      show _ = _
      cases B
      · rfl
      · exact absurd (hB.1 rfl).1 (by omega)
    have h60i : ¬ ((l.length : Int) ≤ 60) := by omega
    clear h hB
    go_enter Try.func50, Try.ntmps50
    go_wp2
    go_returns
    exact ⟨by rw [HF.out]; rfl, by go_grown⟩
  · have HR := fun W hW => specRise (.slice a l.length c) l B ⟨fun hb => (hB.1 hb).2, fun hr => hB.2 ⟨by omega, hr⟩⟩ W hW hl
    have h60i : (l.length : Int) ≤ 60 := by omega
    clear h hB
    go_enter Try.func50, Try.ntmps50
    go_wp2_with fail
    refine (HR _ (HS.out.below (by go_grown))).mono ?_
    rintro e w1 ⟨rfl, hb1⟩
    go_wp2
    go_returns
    exact ⟨rfl, by go_grown⟩
end Go.Proofs.Ytaafdcghafbfhaa
