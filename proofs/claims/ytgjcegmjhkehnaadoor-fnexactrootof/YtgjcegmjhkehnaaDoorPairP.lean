/- Contracts of the small tests of digests. Condition: lists lie in memory. -/
import Derived.Test.YtgjcegmjhkehnaaDoorShn
import Derived.Test.YtgjcegmjhkehnaaDoorSpecOf
import Derived.Test.YtgjcegmjhkehnaaDoorImplN
import Derived.Laws.Cover1
import Derived.Deep.DrawnRows
namespace Go.Proofs.YtgjcegmjhkehnaaDoor
open Go.ChangeShapes Go.WideShapes Go.ChangeAt Go.RowKit Go.Deep
set_option linter.unusedVariables false
attribute [local go_sem ↓] Go.wp_at_zero Go.wp_at_succ

/-- A list of N texts of four bytes. -/
def areB (N : Nat) (ss : List ByteArray) : Bool := decide (ss.length = N) && ss.all fun s => decide (s.size = 4)
theorem areB_true {N : Nat} {ss : List ByteArray} (h1 : ss.length = N) (h2 : ∀ i, i < ss.length → (ss.getD i ByteArray.empty).size = 4) : areB N ss = true := by
  simp only [areB, Bool.and_eq_true, decide_eq_true_eq, List.all_eq_true]
  refine ⟨h1, fun s hs => ?_⟩
  obtain ⟨i, hi, he⟩ := List.getElem_of_mem hs
  have := h2 i hi
  simpa [List.getD, hi, he] using this
theorem areB_len {N : Nat} {ss : List ByteArray} (h : ss.length ≠ N) : areB N ss = false := by simp [areB, h]
theorem areB_at {N : Nat} {ss : List ByteArray} (i : Nat) (hi : i < ss.length) (h : (ss.getD i ByteArray.empty).size ≠ 4) : areB N ss = false := by
  cases e : areB N ss
  · rfl
  · simp only [areB, Bool.and_eq_true, decide_eq_true_eq, List.all_eq_true] at e
    exact absurd (e.2 _ (getD_mem ss i hi)) h
set_option maxHeartbeats 1600000 in
theorem implAre (v : Value) (ss : List ByteArray) (N : Nat) (w : World) (h : StrsAt w v ss) (hlen : ss.length ≤ 1048576) (hN0 : 1 ≤ N) (hN1 : N ≤ 11) :
    Calls Tryd.prog 115 #[v, .int .i64 N] w fun e w' => e = .returned (.bool (areB N ss)) ∧ Below w.heap.size w w' := by
  rcases h with ⟨a0, c0, rfl, rfl⟩ | ⟨b, off, cap, rfl, hb, hcell⟩
  · have HS : Hid (areB N [] = false) := areB_len (by simp; omega)
    have hne : ¬ (0 : Int) = (N : Int) := by omega
    generalize areB N [] = ok at *
    go_enter Tryd.func115, Tryd.ntmps115
    go_wp2
    go_returns
    exact ⟨by rw [HS.out]; rfl, by go_grown⟩
  · have HC : Hid (∀ i, i < ss.length → w.cell? ⟨b, off + i, none⟩ = some (.string (ss.getD i ByteArray.empty))) := hcell
    have HE : Hid (ss.length = N → (∀ i, i < ss.length → (ss.getD i ByteArray.empty).size = 4) → areB N ss = true) := fun h1 h2 => areB_true h1 h2
    have HN1 : Hid (ss.length ≠ N → areB N ss = false) := fun h => areB_len h
    have HN2 : Hid (∀ i, i < ss.length → (ss.getD i ByteArray.empty).size ≠ 4 → areB N ss = false) := fun i hi h => areB_at i hi h
    clear hcell
    generalize areB N ss = ok at *
    by_cases h11 : ss.length = N
    · have hl11 : (ss.length : Int) = (N : Int) := by omega
      go_enter Tryd.func115, Tryd.ntmps115
      go_wp2
      go_loopw [6, 13] (fun x i wr => ∃ k : Nat, k ≤ ss.length ∧ i = .int .i64 k ∧ (∀ j, j < k → (ss.getD j ByteArray.empty).size = 4) ∧ Below w.heap.size w wr) (fun _ i _ => ss.length - (intOf i).toNat)
      case atStart => exact ⟨0, Nat.zero_le _, rfl, fun j hj => by omega, by go_grown⟩
      case round =>
        obtain ⟨k, hk, rfl, hall, kb⟩ := hrel
        have HA : Hid (∀ j, j < k → (ss.getD j ByteArray.empty).size = 4) := hall
        clear hall
        by_cases hlt : k < ss.length
        · have hc : wr.cell? ⟨b, off + k, none⟩ = some (.string (ss.getD k ByteArray.empty)) := (kb.cell (p := ⟨b, off + k, none⟩) hb).trans (HC.out k hlt)
          have HNk : Hid ((ss.getD k ByteArray.empty).size ≠ 4 → ok = false) := HN2.out k hlt
          have HAk : Hid ((ss.getD k ByteArray.empty).size = 4 → ∀ j, j < k + 1 → (ss.getD j ByteArray.empty).size = 4) := by
            intro h j hj
            by_cases e : j = k
            · rw [e]; exact h
            · exact HA.out j (by omega)
          have hki : (k : Int) < (N : Int) := by omega
          generalize ss.getD k ByteArray.empty = t at *
          by_cases ht : t.size = 4
          · have hti : (t.size : Int) = 4 := by omega
            have HAl : Hid (∀ j, j < k + 1 → (ss.getD j ByteArray.empty).size = 4) := HAk.out ht
            go_wp2
            exact ⟨⟨k + 1, by omega, by go_num, HAl.out, by go_grown⟩, by simp [intOf]; omega⟩
          · have hti : ¬ (t.size : Int) = 4 := by omega
            have HS : Hid (ok = false) := HNk.out ht
            go_wp2
            go_returns
            exact ⟨by rw [HS.out]; rfl, by go_grown⟩
        · have hke : k = ss.length := by omega
          have hki : ¬ (k : Int) < (N : Int) := by omega
          have HS : Hid (ok = true) := HE.out h11 (fun i hi => HA.out i (by omega))
          go_wp2
          go_returns
          exact ⟨by rw [HS.out]; rfl, by go_grown⟩
    · have hl11 : ¬ (ss.length : Int) = (N : Int) := by omega
      have HS : Hid (ok = false) := HN1.out h11
      go_enter Tryd.func115, Tryd.ntmps115
      go_wp2
      go_returns
      exact ⟨by rw [HS.out]; rfl, by go_grown⟩
end Go.Proofs.YtgjcegmjhkehnaaDoor
