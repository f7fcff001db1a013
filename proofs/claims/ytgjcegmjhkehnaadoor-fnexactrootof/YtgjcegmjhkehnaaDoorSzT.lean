/- Contract of the laws' measure of a list of texts. Condition: the list lies in memory. -/
import Derived.Test.YtgjcegmjhkehnaaDoorStrs
import Derived.Test.YtgjcegmjhkehnaaDoorIntsP
import Derived.Deep.DeepCutAuto
import Derived.Deep.DrawnRows
namespace Go.Proofs.YtgjcegmjhkehnaaDoor
open Go.ChangeShapes Go.WideShapes Go.ChangeAt Go.RowKit Go.Deep
set_option linter.unusedVariables false
attribute [local go_sem ↓] Go.wp_at_zero Go.wp_at_succ

/-- What is left of z behind the list, or -1. -/
def szRK (z : Nat) (ss : List ByteArray) : Int := if ss.length + sumS ss ≤ z then (z : Int) - ((ss.length + sumS ss : Nat) : Int) else -1
theorem szRK_neg {z : Nat} {ss : List ByteArray} (h : z < ss.length + sumS ss) : szRK z ss = -1 := by unfold szRK; rw [if_neg (by omega)]
theorem szRK_pos {z : Nat} {ss : List ByteArray} (h : ss.length + sumS ss ≤ z) : szRK z ss = ((z - (ss.length + sumS ss) : Nat) : Int) := by unfold szRK; rw [if_pos h]; omega
set_option maxHeartbeats 1600000 in
theorem szStrK (v : Value) (ss : List ByteArray) (z : Nat) (w : World) (h : StrsAt w v ss) (hz : z ≤ 1048576) (hlen : ss.length ≤ maxLen) (hsz : ∀ s ∈ ss, s.size ≤ maxLen) :
    Calls Tryd.prog 128 #[v, .int .i64 z] w fun e w' => e = .returned (.int .i64 (szRK z ss)) ∧ w' = w := by
  unfold maxLen at hlen
  rcases h with ⟨a0, c0, rfl, rfl⟩ | ⟨b, off, cap, rfl, hb, hcell⟩
  · go_enter Tryd.func128, Tryd.ntmps128
    go_wp2
    go_loop [1, 5] (fun x i => i = .int .i64 0 ∧ x = .int .i64 z) (fun _ _ => 0)
    case atStart => exact ⟨rfl, rfl⟩
    case round =>
      obtain ⟨rfl, rfl⟩ := hrel
      go_wp2
      go_ret
      exact ⟨ret_int (by simp [szRK, sumS]), rfl⟩
  · by_cases hbig : z < ss.length
    · have hl : (z : Int) - (ss.length : Int) < 0 := by omega
      go_enter Tryd.func128, Tryd.ntmps128
      go_wp2
      go_ret
      exact ⟨ret_int (by unfold szRK; rw [if_neg (by omega)]), rfl⟩
    · have hl : ¬ (z : Int) - (ss.length : Int) < 0 := by omega
      have hl2 : decide ((z : Int) - (ss.length : Int) < 0) = false := by simp; omega
      have HC : Hid (∀ i, i < ss.length → w.cell? ⟨b, off + i, none⟩ = some (.string (ss.getD i ByteArray.empty))) := hcell
      have HZ : Hid (∀ s ∈ ss, s.size ≤ maxLen) := hsz
      clear hcell hsz
      go_enter Tryd.func128, Tryd.ntmps128
      go_wp2
      go_loop [1, 5] (fun x i => ∃ k : Nat, k ≤ ss.length ∧ ss.length + sumS (ss.take k) ≤ z ∧ i = .int .i64 k ∧ x = .int .i64 ((z : Int) - (ss.length : Int) - (sumS (ss.take k) : Nat))) (fun _ i => ss.length - (intOf i).toNat)
      case atStart => exact ⟨0, Nat.zero_le _, by simp [sumS]; omega, rfl, by simp [sumS]⟩
      case round =>
        obtain ⟨k, hk, hle, rfl, rfl⟩ := hrel
        by_cases hlt : k < ss.length
        · have hc := HC.out k hlt
          have hm := HZ.out _ (getD_mem ss k hlt)
          unfold maxLen at hm
          have HS : Hid (sumS (ss.take (k + 1)) = sumS (ss.take k) + (ss.getD k ByteArray.empty).size) := by
            show _ = _
            rw [take_snocS ss k hlt]; exact sumS_snoc _ _
          have HT : Hid (sumS (ss.take (k + 1)) ≤ sumS ss) := sumS_take ss (k + 1)
          generalize ss.getD k ByteArray.empty = t at *
          generalize sumS (ss.take k) = S at *
          by_cases hout : (z : Int) - (ss.length : Int) - (S : Int) - (t.size : Int) < 0
          · go_wp2
            go_ret
            exact ⟨ret_int (by unfold szRK; have h1 := HS.out; have h2 := HT.out; rw [if_neg (by omega)]), rfl⟩
          · go_wp2
            go_round
            case rel => exact ⟨k + 1, by omega, by rw [HS.out]; omega, by go_num, by rw [HS.out]; go_num⟩
            case measure => simp [intOf]; omega
        · have hke : k = ss.length := by omega
          subst hke
          rw [List.take_length] at hle
          go_wp2
          go_ret
          exact ⟨ret_int (by unfold szRK; rw [if_pos (by omega)]; omega), rfl⟩
end Go.Proofs.YtgjcegmjhkehnaaDoor
