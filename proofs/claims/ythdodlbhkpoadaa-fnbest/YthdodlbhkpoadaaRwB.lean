/- Good rows together: program and model. Condition: the rows lie in memory. -/
import Derived.Test.YthdodlbhkpoadaaGoodS
namespace Go.Proofs.Ythdodlbhkpoadaa
open Go.ChangeShapes Go.WideShapes Go.ChangeAt Go.RowKit Go.Deep
set_option linter.unusedVariables false
attribute [local go_sem ↓] Go.wp_at_zero Go.wp_at_succ

theorem bool_of (p : Prop) : ∃ B : Bool, B = true ↔ p := by
  rcases Classical.em p with h | h
  · exact ⟨true, fun _ => h, fun _ => rfl⟩
  · exact ⟨false, fun g => (by cases g), fun g => absurd g h⟩
theorem bool_no {B : Bool} {p : Prop} (h : B = true ↔ p) (hn : ¬ p) : B = false := by
  cases hb : B with
  | false => rfl
  | true => exact absurd (h.1 hb) hn
set_option maxHeartbeats 3200000 in
set_option maxRecDepth 100000 in
theorem implRows (x : Value) (R : List (List Sc)) (B : Bool) (hB : B = true ↔ GoodRs R) (w : World) (h : RdR w x R) (hl : R.length ≤ 1048576) (hs : ∀ r ∈ R, r.length ≤ 1048576) :
    Calls Try.prog 48 #[x] w fun e w' => e = .returned (.bool B) ∧ Below w.heap.size w w' := by
  have HB := hid hB
  have HSL := hid hs
  clear hB hs
  by_cases h1 : R.length < 1
  · have HF : Hid (B = false) := bool_no HB.out (fun hg => by have := hg.1.1; omega)
    obtain ⟨xa, xc, rfl⟩ := h.slice
    have hi : (R.length : Int) < 1 := by omega
    clear h
    go_enter Try.func48, Try.ntmps48
    go_wp2
    go_returns
    exact ⟨by rw [HF.out]; rfl, by go_grown⟩
  by_cases h4 : 4 < R.length
  · have HF : Hid (B = false) := bool_no HB.out (fun hg => by have := hg.1.2; omega)
    obtain ⟨xa, xc, rfl⟩ := h.slice
    have hi : ¬ (R.length : Int) < 1 := by omega
    have hi4 : (4 : Int) < (R.length : Int) := by omega
    clear h
    go_enter Try.func48, Try.ntmps48
    go_wp2
    go_returns
    exact ⟨by rw [HF.out]; rfl, by go_grown⟩
  have hi : ¬ (R.length : Int) < 1 := by omega
  have hi4 : ¬ (4 : Int) < (R.length : Int) := by omega
  rcases h with ⟨a0, c0, rfl, rfl⟩ | ⟨b, off, cap, rfl, hb, hcell⟩
  · simp at h1
  · have HC := hid hcell
    clear hcell
    go_enter Try.func48, Try.ntmps48
    go_wp2
    go_loopw [15] (fun i wr => ∃ k : Nat, k ≤ R.length ∧ i = .int .i64 k ∧ Hid (∀ i, i < k → GoodR (gR R i)) ∧ Below w.heap.size w wr) (fun i _ => R.length - (intOf i).toNat)
    case atStart => exact ⟨0, Nat.zero_le _, rfl, fun i hi => by omega, by go_grown⟩
    case round =>
      obtain ⟨k, hk, rfl, hall, kb⟩ := hrel
      have kl := kb.size
      by_cases hlt : k < R.length
      · obtain ⟨rv, r0, hrs⟩ := HC.out k hlt
        have r1 : wr.cell? ⟨b, off + k, none⟩ = some rv := (kb.cell (p := ⟨b, off + k, none⟩) hb).trans r0
        have hki : (k : Int) < (R.length : Int) := by omega
        have hk0 : (0 : Int) ≤ (k : Int) := by omega
        have hbr : b < wr.heap.size := by omega
        obtain ⟨G, hG⟩ := bool_of (GoodR (gR R k))
        have HGR := implGood rv (gR R k) G hG wr (hrs.below kb) (HSL.out _ (gR_mem hlt))
        have HG := hid hG
        obtain ⟨ra, rc, rfl⟩ := hrs.slice
        clear r0 hrs hG
        go_wp2_with fail
        refine HGR.mono ?_
        rintro e w1 ⟨rfl, hb1⟩
        have k1 : Below w.heap.size w w1 := kb.trans (hb1.mono kl)
        clear hb1 HGR r1
        cases G with
        | false =>
          have HF : Hid (B = false) := bool_no HB.out (fun hg => by have := HG.out.2 (hg.2 _ (gR_mem hlt)); cases this)
          go_wp2
          go_returns
          exact ⟨by rw [HF.out]; rfl, k1⟩
        | true =>
          have HY : Hid (∀ i, i < k + 1 → GoodR (gR R i)) := fun i hi => by
            by_cases e : i = k
            · rw [e]; exact HG.out.1 rfl
            · exact hall.out i (by omega)
          go_wp2
          exact ⟨⟨k + 1, by omega, by go_num, HY.out, k1⟩, by simp [intOf]; omega⟩
      · have hki : ¬ (k : Int) < (R.length : Int) := by omega
        have HT : Hid (B = true) := HB.out.2 ⟨by omega, fun r hr => by
          obtain ⟨i, hi, rfl⟩ := mem_gR hr
          exact hall.out i (by omega)⟩
        go_wp2
        go_returns
        exact ⟨by rw [HT.out]; rfl, kb⟩
set_option maxHeartbeats 3200000 in
set_option maxRecDepth 100000 in
theorem specRows (x : Value) (R : List (List Sc)) (B : Bool) (hB : B = true ↔ GoodRs R) (w : World) (h : RdR w x R) (hl : R.length ≤ 1048576) (hs : ∀ r ∈ R, r.length ≤ 1048576) :
    Calls Try.prog 54 #[x] w fun e w' => e = .returned (.bool B) ∧ Below w.heap.size w w' := by
  have HB := hid hB
  have HSL := hid hs
  clear hB hs
  rcases h with ⟨a0, c0, rfl, rfl⟩ | ⟨b, off, cap, rfl, hb, hcell⟩
  · have HF : Hid (B = false) := bool_no HB.out (fun hg => by have := hg.1.1; simp at this)
    have HN := fun W => specIn 0 1 4 false rfl W
    go_enter Try.func54, Try.ntmps54
    go_wp2
    go_loopw [7] (fun i wr => i = .int .i64 0 ∧ Below w.heap.size w wr) (fun _ _ => 0)
    case atStart => exact ⟨rfl, by go_grown⟩
    case round =>
      obtain ⟨rfl, kb⟩ := hrel
      go_wp2_with fail
      refine (HN _).mono ?_
      rintro e w1 ⟨rfl, hw1⟩
      subst w1
      go_wp2
      go_returns
      exact ⟨by rw [HF.out]; rfl, kb⟩
  · have HC := hid hcell
    clear hcell
    obtain ⟨L, hL⟩ : ∃ L, L = decide (1 ≤ (R.length : Int) ∧ (R.length : Int) ≤ 4) := ⟨_, rfl⟩
    have HN := fun W => specIn R.length 1 4 L hL W
    have HL := hid hL
    clear hL
    go_enter Try.func54, Try.ntmps54
    go_wp2
    go_loopw [7] (fun i wr => ∃ k : Nat, k ≤ R.length ∧ i = .int .i64 k ∧ Hid (∀ i, i < k → GoodR (gR R i)) ∧ Below w.heap.size w wr) (fun i _ => R.length - (intOf i).toNat)
    case atStart => exact ⟨0, Nat.zero_le _, rfl, fun i hi => by omega, by go_grown⟩
    case round =>
      obtain ⟨k, hk, rfl, hall, kb⟩ := hrel
      have kl := kb.size
      by_cases hlt : k < R.length
      · obtain ⟨rv, r0, hrs⟩ := HC.out k hlt
        have r1 : wr.cell? ⟨b, off + k, none⟩ = some rv := (kb.cell (p := ⟨b, off + k, none⟩) hb).trans r0
        have hki : (k : Int) < (R.length : Int) := by omega
        have hk0 : (0 : Int) ≤ (k : Int) := by omega
        have hbr : b < wr.heap.size := by omega
        obtain ⟨G, hG⟩ := bool_of (GoodR (gR R k))
        have HGR := specGood rv (gR R k) G hG wr (hrs.below kb) (HSL.out _ (gR_mem hlt))
        have HG := hid hG
        obtain ⟨ra, rc, rfl⟩ := hrs.slice
        clear r0 hrs hG
        go_wp2_with fail
        refine HGR.mono ?_
        rintro e w1 ⟨rfl, hb1⟩
        have k1 : Below w.heap.size w w1 := kb.trans (hb1.mono kl)
        clear hb1 HGR r1
        cases G with
        | false =>
          have HF : Hid (B = false) := bool_no HB.out (fun hg => by have := HG.out.2 (hg.2 _ (gR_mem hlt)); cases this)
          go_wp2
          go_returns
          exact ⟨by rw [HF.out]; rfl, k1⟩
        | true =>
          have HY : Hid (∀ i, i < k + 1 → GoodR (gR R i)) := fun i hi => by
            by_cases e : i = k
            · rw [e]; exact HG.out.1 rfl
            · exact hall.out i (by omega)
          go_wp2
          exact ⟨⟨k + 1, by omega, by go_num, HY.out, k1⟩, by simp [intOf]; omega⟩
      · have hki : ¬ (k : Int) < (R.length : Int) := by omega
        have HT : Hid (L = B) := by
          show _ = _
          have hall2 : ∀ r ∈ R, GoodR r := fun r hr => by
            obtain ⟨i, hi, rfl⟩ := mem_gR hr
            exact hall.out i (by omega)
          by_cases hc : 1 ≤ R.length ∧ R.length ≤ 4
          · rw [HB.out.2 ⟨hc, hall2⟩, HL.out]; exact decide_eq_true (by omega)
          · rw [bool_no HB.out (fun hg => hc hg.1), HL.out]; exact decide_eq_false (by omega)
        go_wp2_with fail
        refine (HN _).mono ?_
        rintro e w1 ⟨rfl, hw1⟩
        subst w1
        go_wp2
        go_returns
        exact ⟨by rw [HT.out]; rfl, kb⟩
end Go.Proofs.Ythdodlbhkpoadaa
