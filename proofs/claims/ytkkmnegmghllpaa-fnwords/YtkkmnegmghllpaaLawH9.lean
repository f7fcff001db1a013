/- Contracts of the laws' has and hasText. No condition. -/
import Derived.Test.YtkkmnegmghllpaaDrawW9
import Derived.Test.YtkkmnegmghllpaaImplLk
import Derived.Test.YtkkmnegmghllpaaVocI
import Derived.Test.YtkkmnegmghllpaaPostY
namespace Go.Proofs.Ytkkmnegmghllpaa
open Go.ChangeShapes Go.WideShapes Go.ChangeAt Go.RowKit Go.Deep
set_option linter.unusedVariables false
attribute [local go_sem ↓] Go.wp_at_zero Go.wp_at_succ

theorem mem_getDS {l : List ByteArray} {n : ByteArray} : n ∈ l ↔ ∃ i, i < l.length ∧ l.getD i ByteArray.empty = n := by
  constructor
  · intro h
    obtain ⟨i, hi, e⟩ := List.mem_iff_getElem.1 h
    exact ⟨i, hi, by simp [List.getD, hi, e]⟩
  · rintro ⟨i, hi, rfl⟩
    exact getD_mem l i hi
set_option maxHeartbeats 1600000 in
set_option maxRecDepth 100000 in
theorem lawHasT (l : List ByteArray) (n : ByteArray) (B : Bool) (hB : B = true ↔ n ∈ l) (x : Value) (w : World) (hx : StrsAt w x l) (hl : l.length ≤ 1048576) :
    Calls Try.prog 23 #[x, .string n] w fun e w' => e = .returned (.bool B) ∧ Below w.heap.size w w' := by
  have HT : Hid (∀ i, i < l.length → l.getD i ByteArray.empty = n → B = true) := fun i hi he => hB.2 (mem_getDS.2 ⟨i, hi, he⟩)
  have HF : Hid ((∀ i, i < l.length → l.getD i ByteArray.empty ≠ n) → B = false) := fun h => by
    cases B with
    | false => rfl
    | true =>
      obtain ⟨i, hi, he⟩ := mem_getDS.1 (hB.1 rfl)
      exact absurd he (h i hi)
  clear hB
  rcases hx with ⟨a0, c0, rfl, rfl⟩ | ⟨b, off, cap, rfl, hb, hcell⟩
  · have HE : Hid (B = false) := HF.out (fun i hi => by simp at hi)
    go_enter Try.func23, Try.ntmps23
    go_wp2
    go_loopw [9] (fun i wr => i = .int .i64 0 ∧ Below w.heap.size w wr) (fun _ _ => 0)
    case atStart => exact ⟨rfl, by go_grown⟩
    case round =>
      obtain ⟨rfl, kb⟩ := hrel
      go_wp2
      go_returns
      exact ⟨by rw [HE.out]; rfl, by go_grown⟩
  · have HC : Hid (∀ i, i < l.length → w.cell? ⟨b, off + i, none⟩ = some (.string (l.getD i ByteArray.empty))) := hcell
    clear hcell
    go_enter Try.func23, Try.ntmps23
    go_wp2
    go_loopw [9] (fun i wr => ∃ k : Nat, k ≤ l.length ∧ i = .int .i64 k ∧ Hid (∀ j, j < k → l.getD j ByteArray.empty ≠ n) ∧ Below w.heap.size w wr) (fun i _ => l.length - (intOf i).toNat)
    case atStart => exact ⟨0, Nat.zero_le _, rfl, fun j hj => by omega, by go_grown⟩
    case round =>
      obtain ⟨k, hk, rfl, hall, kb⟩ := hrel
      by_cases hlt : k < l.length
      · have hc : wr.cell? ⟨b, off + k, none⟩ = some (.string (l.getD k ByteArray.empty)) := (kb.cell (p := ⟨b, off + k, none⟩) hb).trans (HC.out k hlt)
        have hki : (k : Int) < (l.length : Int) := by omega
        have HTk := hid (HT.out k hlt)
        have HAk : Hid (l.getD k ByteArray.empty ≠ n → ∀ j, j < k + 1 → l.getD j ByteArray.empty ≠ n) := fun h j hj => by
          by_cases e : j = k
          · rw [e]; exact h
          · exact hall.out j (by omega)
        generalize l.getD k ByteArray.empty = t at *
        by_cases ht : t = n
        · have HE := hid (HTk.out ht)
          have hte : (t.toList == n.toList) = true := by rw [sEq, decide_eq_true ht]
          clear HTk HAk hall ht
          go_wp2
          go_returns
          exact ⟨by rw [HE.out]; rfl, by go_grown⟩
        · have HA := hid (HAk.out ht)
          have hte : (t.toList == n.toList) = false := by rw [sEq, decide_eq_false ht]
          clear HTk HAk hall ht
          go_wp2
          exact ⟨⟨k + 1, by omega, by go_num, HA.out, by go_grown⟩, by simp [intOf]; omega⟩
      · have hki : ¬ (k : Int) < (l.length : Int) := by omega
        have HE := hid (HF.out (fun i hi => hall.out i (by omega)))
        clear hall
        go_wp2
        go_returns
        exact ⟨by rw [HE.out]; rfl, by go_grown⟩
end Go.Proofs.Ytkkmnegmghllpaa
