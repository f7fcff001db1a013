/- Contracts of LowFor, of the lists that can be packed. Condition: the list lies in memory. -/
import Derived.Test.YtaafdcghafbfhaaLawsM
namespace Go.Proofs.Ytaafdcghafbfhaa
open Go.ChangeShapes Go.WideShapes Go.ChangeAt Go.RowKit Go.Deep
set_option linter.unusedVariables false
attribute [local go_sem ↓] Go.wp_at_zero Go.wp_at_succ

theorem shl_low (a b k : Nat) (ha : a ≤ 60) (hk : k ≤ 13) : IntKind.i64.wrap ((a : Int) * 2 ^ (k + 1)) = (a : Int) * 2 ^ (k + 1) ∧ ((a : Int) * 2 ^ (k + 1) ≤ b ↔ a * 2 ^ (k + 1) ≤ b) := by
  have h0 : ((a : Int) * 2 ^ (k + 1)) = ((a * 2 ^ (k + 1) : Nat) : Int) := by push_cast; rfl
  have h1 : 2 ^ (k + 1) ≤ 2 ^ 14 := Nat.pow_le_pow_right (by decide) (by omega)
  have h2 : a * 2 ^ (k + 1) ≤ 60 * 2 ^ 14 := Nat.mul_le_mul ha h1
  have h3 : (60 : Nat) * 2 ^ 14 = 983040 := by decide
  rw [h0]
  refine ⟨by rw [IntKind.wrap_i64]; omega, by omega⟩
set_option maxHeartbeats 1600000 in
theorem implLowYes (a b : Nat) (w : World) (ha : a ≤ 60) (hb : b ≤ 10000) :
    Calls Try.prog 25 #[.int .i64 a, .int .i64 b] w fun e w' => e = .returned (.tuple #[.int .i64 (lowN a b : Nat), .bool true]) ∧ w' = w := by
  have d1 : decide ((60 : Int) < (a : Int)) = false := by simp; omega
  have d2 : decide ((10000 : Int) < (b : Int)) = false := by simp; omega
  by_cases h0 : a = 0
  · subst h0
    have hl : lowN 0 b = 0 := rfl
    rw [hl]
    go_enter Try.func25, Try.ntmps25
    go_wp2
    go_returns
    exact ⟨rfl, rfl⟩
  · have HL : Hid (lowN a b = lowR a b 14 0) := by show _ = _; unfold lowN; rw [if_neg h0]
    have he : ((a : Int) == 0) = false := by simp; omega
    go_enter Try.func25, Try.ntmps25
    go_wp2
    go_loopw [6] (fun i wr => ∃ k : Nat, k ≤ 13 ∧ i = .int .i64 k ∧ Hid (lowR a b (14 - k) k = lowN a b) ∧ wr = w) (fun i _ => 14 - (intOf i).toNat)
    case atStart => exact ⟨0, by omega, rfl, HL.out.symm, rfl⟩
    case round =>
      obtain ⟨k, hk, rfl, hR, hw⟩ := hrel
      subst wr
      obtain ⟨hT, hle⟩ := shl_low a b k ha hk
      by_cases hlt : a * 2 ^ (k + 1) ≤ b
      · have hk2 := lowR_room (by omega) hb hlt
        have hle2 := hle.2 hlt
        have HS : Hid (lowR a b (14 - (k + 1)) (k + 1) = lowN a b) := by
          show _ = _
          rw [← hR.out, show 14 - k = (14 - (k + 1)) + 1 by omega]
          exact (lowR_step a b _ k hlt).symm
        clear hle hlt
        go_wp2
        exact ⟨⟨k + 1, by omega, by go_num, HS, by first | rfl | trivial⟩, by simp [intOf]; omega⟩
      · have hle2 : ¬ (a : Int) * 2 ^ (k + 1) ≤ b := fun h => hlt (hle.1 h)
        have HE : Hid (k = lowN a b) := by
          show _ = _
          rw [← hR.out]; exact (lowR_end a b _ k hlt).symm
        clear hle hlt
        go_wp2
        go_returns
        exact ⟨by rw [← HE.out]; rfl, rfl⟩
set_option maxHeartbeats 1600000 in
theorem implLowNo (a b : Int) (w : World) (h : ¬ ((0 ≤ a ∧ a ≤ 60) ∧ (0 ≤ b ∧ b ≤ 10000))) :
    Calls Try.prog 25 #[.int .i64 a, .int .i64 b] w fun e w' => e = .returned (.tuple #[.int .i64 0, .bool false]) ∧ w' = w := by
  by_cases h1 : a < 0
  · go_enter Try.func25, Try.ntmps25
    go_wp2
    go_returns
    exact ⟨rfl, rfl⟩
  · by_cases h2 : 60 < a
    · go_enter Try.func25, Try.ntmps25
      go_wp2
      go_returns
      exact ⟨rfl, rfl⟩
    · by_cases h3 : b < 0
      · have d1 : decide (60 < a) = false := by simp; omega
        go_enter Try.func25, Try.ntmps25
        go_wp2
        go_returns
        exact ⟨rfl, rfl⟩
      · have h4 : 10000 < b := by omega
        have d1 : decide (60 < a) = false := by simp; omega
        go_enter Try.func25, Try.ntmps25
        go_wp2
        go_returns
        exact ⟨rfl, rfl⟩
/-- What LowFor answers. -/
def lowB (a b : Int) : Bool := decide ((0 ≤ a ∧ a ≤ 60) ∧ (0 ≤ b ∧ b ≤ 10000))
def lowV (a b : Int) : Int := if lowB a b then (lowN a.toNat b.toNat : Nat) else 0
theorem implLow (a b : Int) (w : World) : Calls Try.prog 25 #[.int .i64 a, .int .i64 b] w fun e w' => e = .returned (.tuple #[.int .i64 (lowV a b), .bool (lowB a b)]) ∧ w' = w := by
  by_cases h : (0 ≤ a ∧ a ≤ 60) ∧ (0 ≤ b ∧ b ≤ 10000)
  · have hb : lowB a b = true := by simp [lowB]; omega
    obtain ⟨x, rfl⟩ : ∃ x : Nat, a = x := ⟨a.toNat, by omega⟩
    obtain ⟨y, rfl⟩ : ∃ y : Nat, b = y := ⟨b.toNat, by omega⟩
    unfold lowV
    rw [hb]
    exact implLowYes x y w (by omega) (by omega)
  · have hb : lowB a b = false := by simp [lowB]; omega
    unfold lowV
    rw [hb]
    exact implLowNo a b w h
/-- The number that lowers are counted by. -/
def lowI (l : List Int) : Int := (lowL l : Nat)
set_option maxHeartbeats 1600000 in
theorem implLowOf (v : Value) (l : List Int) (w : World) (h : IntsAt w v l) (hg : GoodL l) :
    Calls Try.prog 71 #[v] w fun e w' => e = .returned (.int .i64 (lowL l : Nat)) ∧ Below w.heap.size w w' := by
  rcases h with ⟨a0, c0, rfl, rfl⟩ | ⟨b, off, cap, rfl, hb, hcell⟩
  · have hl : lowL [] = 0 := rfl
    rw [hl]
    go_enter Try.func71, Try.ntmps71
    go_wp2
    go_returns
    exact ⟨rfl, by go_grown⟩
  · by_cases he : l = []
    · subst he
      have hl : lowL [] = 0 := rfl
      rw [hl]
      go_enter Try.func71, Try.ntmps71
      go_wp2
      go_returns
      exact ⟨rfl, by go_grown⟩
    · have hp : 0 < l.length := List.length_pos_iff.2 he
      obtain ⟨m, hm⟩ : ∃ m, l.length = m + 1 := ⟨l.length - 1, by omega⟩
      have hbd := last_bd hg he
      have h60 := hg.1
      have hL : lowL l = lowN l.length (l.getD (l.length - 1) 0).toNat := by unfold lowL; rw [if_neg he]
      have hc := hcell m (by omega)
      rw [show l.length - 1 = m by omega] at hbd hL
      obtain ⟨q, hq⟩ : ∃ q : Nat, l.getD m 0 = (q : Int) := ⟨(l.getD m 0).toNat, by omega⟩
      rw [hq] at hc hbd hL
      simp only [Int.toNat_natCast] at hL
      rw [hL, hm]
      have hml : (l.length : Int) = (m : Int) + 1 := by omega
      have hm60 : m + 1 ≤ 60 := by omega
      have hz : (((m : Int) + 1) == 0) = false := by simp; omega
      have HW := fun W => implLowYes (m + 1) q W hm60 (by omega)
      clear hcell hL hq he hp hg h60 hml
      have hc0 := hc
      simp only [Int.natCast_add, Int.natCast_one] at HW
      go_enter Try.func71, Try.ntmps71
      go_wp2_with fail
      refine (HW _).mono ?_
      rintro e w1 ⟨rfl, rfl⟩
      go_wp2_with fail
      go_returns
      exact ⟨rfl, by go_grown⟩
/-- Whether a list can be packed, step by step. -/
def riseTo (l : List Int) (k : Nat) : Prop := (∀ i, i < k → 0 ≤ l.getD i 0 ∧ l.getD i 0 ≤ 10000) ∧ ∀ i, i + 1 < k → l.getD i 0 < l.getD (i + 1) 0
theorem rise_step {l : List Int} {k : Nat} (h : riseTo l k) (h1 : 0 ≤ l.getD k 0 ∧ l.getD k 0 ≤ 10000) (h2 : 0 < k → l.getD (k - 1) 0 < l.getD k 0) : riseTo l (k + 1) := by
  refine ⟨fun i hi => ?_, fun i hi => ?_⟩
  · by_cases e : i = k
    · subst e; exact h1
    · exact h.1 i (by omega)
  · by_cases e : i + 1 = k
    · have := h2 (by omega)
      rw [show k - 1 = i by omega] at this
      rw [e]; exact this
    · exact h.2 i (by omega)
theorem rise_good {l : List Int} (h60 : l.length ≤ 60) (h : riseTo l l.length) : GoodL l := ⟨h60, h.1, h.2⟩
set_option maxHeartbeats 3200000 in
set_option maxRecDepth 100000 in
theorem implRises (v : Value) (l : List Int) (B : Bool) (hB : B = true ↔ riseTo l l.length) (w : World) (h : IntsAt w v l) (hl : l.length ≤ 1048576) :
    Calls Try.prog 70 #[v, .int .i64 10000] w fun e w' => e = .returned (.bool B) ∧ Below w.heap.size w w' := by
  have HT : Hid (riseTo l l.length → B = true) := fun hr => hB.2 hr
  have HN0 : Hid (∀ i, i < l.length → ¬ (0 ≤ l.getD i 0 ∧ l.getD i 0 ≤ 10000) → B = false) := fun i hi hn => by
    cases B
    · rfl
    · exact absurd ((hB.1 rfl).1 i hi) hn
  have HN1 : Hid (∀ i, i + 1 < l.length → l.getD (i + 1) 0 ≤ l.getD i 0 → B = false) := fun i hi hn => by
    cases B
    · rfl
    · exact absurd ((hB.1 rfl).2 i hi) (by omega)
  clear hB
  rcases h with ⟨a0, c0, rfl, rfl⟩ | ⟨b, off, cap, rfl, hb, hcell⟩
  · have HS : Hid (B = true) := HT.out ⟨fun i hi => by simp at hi, fun i hi => by simp at hi⟩
    go_enter Try.func70, Try.ntmps70
    go_wp2
    go_loopw [9] (fun i wr => i = .int .i64 0 ∧ Below w.heap.size w wr) (fun _ _ => 0)
    case atStart => exact ⟨rfl, by go_grown⟩
    case round =>
      obtain ⟨rfl, kb⟩ := hrel
      go_wp2
      go_returns
      exact ⟨by rw [HS.out]; rfl, by go_grown⟩
  · have HC : Hid (∀ i, i < l.length → w.cell? ⟨b, off + i, none⟩ = some (.int .i64 (l.getD i 0))) := hcell
    clear hcell
    go_enter Try.func70, Try.ntmps70
    go_wp2
    go_loopw [9] (fun i wr => ∃ k : Nat, k ≤ l.length ∧ i = .int .i64 k ∧ Hid (riseTo l k) ∧ Below w.heap.size w wr) (fun i _ => l.length - (intOf i).toNat)
    case atStart => exact ⟨0, Nat.zero_le _, rfl, ⟨fun i hi => by omega, fun i hi => by omega⟩, by go_grown⟩
    case round =>
      obtain ⟨k, hk, rfl, hr, kb⟩ := hrel
      by_cases hlt : k < l.length
      · have hc : wr.cell? ⟨b, off + k, none⟩ = some (.int .i64 (l.getD k 0)) := (kb.cell (p := ⟨b, off + k, none⟩) hb).trans (HC.out k hlt)
        have HNk : Hid (¬ (0 ≤ l.getD k 0 ∧ l.getD k 0 ≤ 10000) → B = false) := HN0.out k hlt
        have HST := hid (fun h1 h2 => rise_step (k := k) hr.out h1 h2)
        by_cases hk0 : k = 0
        · subst hk0
          simp only [Nat.add_zero] at hc
          generalize l.getD 0 0 = t at *
          by_cases h0 : t < 0
          · have HS : Hid (B = false) := HNk.out (by omega)
            go_wp2
            go_returns
            exact ⟨by rw [HS.out]; rfl, by go_grown⟩
          · by_cases h1 : 10000 < t
            · have HS : Hid (B = false) := HNk.out (by omega)
              go_wp2
              go_returns
              exact ⟨by rw [HS.out]; rfl, by go_grown⟩
            · have HS : Hid (riseTo l (0 + 1)) := HST.out (by omega) (fun h => by omega)
              go_wp2
              exact ⟨⟨0 + 1, by omega, by go_num, HS, by go_grown⟩, by simp [intOf]; omega⟩
        · obtain ⟨j, rfl⟩ : ∃ j, k = j + 1 := ⟨k - 1, by omega⟩
          have hcj : wr.cell? ⟨b, off + j, none⟩ = some (.int .i64 (l.getD j 0)) := (kb.cell (p := ⟨b, off + j, none⟩) hb).trans (HC.out j (by omega))
          have HN2 : Hid (l.getD (j + 1) 0 ≤ l.getD j 0 → B = false) := HN1.out j hlt
          simp only [Nat.add_sub_cancel] at HST
          have hj0 : (0 : Int) < (j : Int) + 1 := by omega
          have hjw : IntKind.i64.wrap (j : Int) = (j : Int) := by rw [IntKind.wrap_i64]; omega
          have hjs : (j : Int) + 1 - 1 = (j : Int) := by omega
          generalize l.getD (j + 1) 0 = t at *
          generalize l.getD j 0 = s at *
          by_cases h0 : t < 0
          · have HS : Hid (B = false) := HNk.out (by omega)
            go_wp2
            go_returns
            exact ⟨by rw [HS.out]; rfl, by go_grown⟩
          · by_cases h1 : 10000 < t
            · have HS : Hid (B = false) := HNk.out (by omega)
              go_wp2
              go_returns
              exact ⟨by rw [HS.out]; rfl, by go_grown⟩
            · by_cases h2 : t ≤ s
              · have HS : Hid (B = false) := HN2.out (by omega)
                have hd1 : decide (10000 < t) = false := by simp; omega
                go_wp2
                go_returns
                exact ⟨by rw [HS.out]; rfl, by go_grown⟩
              · have HS : Hid (riseTo l (j + 1 + 1)) := HST.out (by omega) (fun _ => by omega)
                have hd1 : decide (10000 < t) = false := by simp; omega
                have hd2 : decide (t ≤ s) = false := by simp; omega
                go_wp2
                exact ⟨⟨j + 1 + 1, by omega, by go_num, HS, by go_grown⟩, by simp [intOf]; omega⟩
      · have hke : k = l.length := by omega
        subst hke
        have HS : Hid (B = true) := HT.out hr.out
        go_wp2
        go_returns
        exact ⟨by rw [HS.out]; rfl, by go_grown⟩
set_option maxHeartbeats 3200000 in
theorem implGoodL (v : Value) (l : List Int) (B : Bool) (hB : B = true ↔ GoodL l) (w : World) (h : IntsAt w v l) (hl : l.length ≤ 1048576) :
    Calls Try.prog 48 #[v] w fun e w' => e = .returned (.bool B) ∧ Below w.heap.size w w' := by
  have H := hid h
  by_cases h60 : l.length ≤ 60
  · have hB2 : B = true ↔ riseTo l l.length := hB.trans ⟨fun hg => ⟨hg.2.1, hg.2.2⟩, fun hr => rise_good h60 hr⟩
    have HR := fun W g => implRises v l B hB2 W g hl
    obtain ⟨a, c, rfl⟩ := h.slice
    have h60i : decide ((l.length : Int) ≤ 60) = true := by simp; omega
    clear h hB hB2
    go_enter Try.func48, Try.ntmps48
    go_wp2_with fail
    refine (HR _ H.out).mono ?_
    rintro e w1 ⟨rfl, hb1⟩
    go_wp2
    go_returns
    exact ⟨rfl, hb1⟩
  · have HF : Hid (B = false) := by
      show _ = _
      cases B
      · rfl
      · exact absurd (hB.1 rfl).1 h60
    obtain ⟨a, c, rfl⟩ := h.slice
    have h60i : decide ((l.length : Int) ≤ 60) = false := by simp; omega
    clear h hB
    go_enter Try.func48, Try.ntmps48
    go_wp2
    go_returns
    exact ⟨by rw [HF.out]; rfl, by go_grown⟩
end Go.Proofs.Ytaafdcghafbfhaa
