/- Contracts of the program's reading of numbers and texts. Condition: at most six hundred bytes, and a place within them. -/
import Derived.Test.YtolkiofdbdjfkaaRead
import Derived.Test.YtolkiofdbdjfkaaImplB
import Derived.Test.YtolkiofdbdjfkaaBoxes
import Derived.Lib.QuoteBits
namespace Go.Proofs.Ytolkiofdbdjfkaa
open Go.ChangeShapes Go.WideShapes Go.ChangeAt Go.RowKit Go.Deep
set_option linter.unusedVariables false
attribute [local go_sem ↓] Go.wp_at_zero Go.wp_at_succ

theorem or256 (n c : Nat) (hn : n < 36028797018963968) (hc : c < 256) : bits .or .i64 ((n * 256 : Nat) : Int) (c : Int) = ((n * 256 + c : Nat) : Int) := by
  show IntKind.i64.wrap ((BitVec.ofInt 64 ((n * 256 : Nat) : Int) ||| BitVec.ofInt 64 ((c : Nat) : Int)).toNat : Int) = _
  have e : n * 256 ||| c = n * 256 + c := by
    have := Nat.shiftLeft_add_eq_or_of_lt (i := 8) (b := c) hc n
    rw [Nat.shiftLeft_eq] at this
    exact this.symm
  rw [BitVec.toNat_or, ofInt_u64 _ (by omega), ofInt_u64 c (by omega), e]
  exact Lib.wrap_i64_small _ (by omega)
theorem or_i (n c : Int) (hn : 0 ≤ n) (hn2 : n < 36028797018963968) (hc : 0 ≤ c) (hc2 : c ≤ 255) : bits .or .i64 (n * 256) c = n * 256 + c := by
  obtain ⟨N, rfl⟩ := Int.eq_ofNat_of_zero_le hn
  obtain ⟨C, rfl⟩ := Int.eq_ofNat_of_zero_le hc
  have := or256 N C (by omega) (by omega)
  simpa using this
theorem or_0 (c : Int) (hc : 0 ≤ c) (hc2 : c ≤ 255) : bits .or .i64 0 c = c := by
  have := or_i 0 c (by omega) (by omega) hc hc2
  simpa using this

set_option maxHeartbeats 1600000 in
theorem implNumNo (s : ByteArray) (a n : Nat) (w : World) (hs : s.size ≤ 600) (ha : a ≤ s.size) (hn : n ≤ 4) (h : s.size - a < n) :
    Calls Try.prog 52 #[.string s, .int .i64 a, .int .i64 n] w fun e w' => e = .returned (.tuple #[.int .i64 0, .int .i64 0, .bool false]) ∧ w' = w := by
  have h1 : (s.size : Int) - (a : Int) < (n : Int) := by omega
  go_enter Try.func52, Try.ntmps52
  go_wp2
  go_returns
  exact ⟨rfl, rfl⟩
set_option maxHeartbeats 1600000 in
theorem implNumR1 (s : ByteArray) (a : Nat) (w : World) (hs : s.size ≤ 600) (ha : a < s.size) :
    Calls Try.prog 52 #[.string s, .int .i64 a, .int .i64 1] w fun e w' => e = .returned (.tuple #[.int .i64 (s[a].toNat : Int), .int .i64 ((a : Int) + 1), .bool true]) ∧ w' = w := by
  have h1 : ¬ (s.size : Int) - (a : Int) < 1 := by omega
  have h2 : (a : Int) < (s.size : Int) := by omega
  have h3 : (0 : Int) ≤ (a : Int) := by omega
  have hb := byteLt s[a]
  generalize hc : (s[a].toNat : Int) = c at *
  have ho := or_0 c hb.1 hb.2
  go_enter Try.func52, Try.ntmps52
  go_wp2_with fail
  refine wp_loop_rounds 2 ?_
  rw [rounds_succ]
  go_wp2
  rw [rounds_succ]
  go_wp2
  go_returns
  exact ⟨rfl, rfl⟩
set_option maxHeartbeats 1600000 in
theorem implNumR4 (s : ByteArray) (a : Nat) (w : World) (hs : s.size ≤ 600) (ha : a + 3 < s.size) :
    Calls Try.prog 52 #[.string s, .int .i64 a, .int .i64 4] w fun e w' => e = .returned (.tuple #[.int .i64 ((s[a].toNat : Int) * 16777216 + (s[a + 1].toNat : Int) * 65536 + (s[a + 2].toNat : Int) * 256 + (s[a + 3].toNat : Int)), .int .i64 ((a : Int) + 4), .bool true]) ∧ w' = w := by
  have h1 : ¬ (s.size : Int) - (a : Int) < 4 := by omega
  have h2 : (a : Int) < (s.size : Int) := by omega
  have h21 : (a : Int) + 1 < (s.size : Int) := by omega
  have h22 : (a : Int) + 2 < (s.size : Int) := by omega
  have h23 : (a : Int) + 3 < (s.size : Int) := by omega
  have h3 : (0 : Int) ≤ (a : Int) := by omega
  have hb0 := byteLt s[a]
  have hb1 := byteLt s[a + 1]
  have hb2 := byteLt s[a + 2]
  have hb3 := byteLt s[a + 3]
  generalize hc0 : (s[a].toNat : Int) = c0 at *
  generalize hc1 : (s[a + 1].toNat : Int) = c1 at *
  generalize hc2 : (s[a + 2].toNat : Int) = c2 at *
  generalize hc3 : (s[a + 3].toNat : Int) = c3 at *
  have ho0 := or_0 c0 hb0.1 hb0.2
  have ho1 := or_i c0 c1 (by omega) (by omega) hb1.1 hb1.2
  have ho2 := or_i (c0 * 256 + c1) c2 (by omega) (by omega) hb2.1 hb2.2
  have ho3 := or_i ((c0 * 256 + c1) * 256 + c2) c3 (by omega) (by omega) hb3.1 hb3.2
  go_enter Try.func52, Try.ntmps52
  go_wp2_with fail
  refine wp_loop_rounds 5 ?_
  rw [rounds_succ]
  go_wp2
  rw [rounds_succ]
  go_wp2
  rw [rounds_succ]
  go_wp2
  rw [rounds_succ]
  go_wp2
  rw [rounds_succ]
  go_wp2
  go_returns
  refine ⟨?_, rfl⟩
  simp
  omega
end Go.Proofs.Ytolkiofdbdjfkaa
