/- Contracts of the program's kinds of fields. No condition. -/
import Derived.Test.YtolkiofdbdjfkaaImplF
namespace Go.Proofs.Ytolkiofdbdjfkaa
open Go.ChangeShapes Go.WideShapes Go.ChangeAt Go.RowKit Go.Deep
set_option linter.unusedVariables false
attribute [local go_sem ↓] Go.wp_at_zero Go.wp_at_succ

theorem kind1 (w : World) : Calls Try.prog 97 #[.agg #[]] w fun e w' => e = .returned (.int .i64 1) ∧ Below w.heap.size w w' := by
  go_enter Try.func97, Try.ntmps97
  go_wp2
  go_returns
  exact ⟨rfl, by go_grown⟩
theorem kind2 (n : Int) (w : World) : Calls Try.prog 98 #[.int .i64 n] w fun e w' => e = .returned (.int .i64 2) ∧ w' = w := by
  go_enter Try.func98, Try.ntmps98
  go_wp2
  go_returns
  exact ⟨rfl, rfl⟩
theorem kind3 (n : Int) (w : World) : Calls Try.prog 99 #[.int .i64 n] w fun e w' => e = .returned (.int .i64 3) ∧ w' = w := by
  go_enter Try.func99, Try.ntmps99
  go_wp2
  go_returns
  exact ⟨rfl, rfl⟩
theorem kind4 (t : ByteArray) (w : World) : Calls Try.prog 100 #[.string t] w fun e w' => e = .returned (.int .i64 4) ∧ w' = w := by
  go_enter Try.func100, Try.ntmps100
  go_wp2
  go_returns
  exact ⟨rfl, rfl⟩
theorem as12 (w : World) : (Instr.typeAssert (.iface 103 (.agg #[])) 73 104 true).run Try.prog w = .ok (.tuple #[.int .i64 0, .bool false]) w := by kernel_rfl
theorem as13 (w : World) : (Instr.typeAssert (.iface 103 (.agg #[])) 73 105 true).run Try.prog w = .ok (.tuple #[.int .i64 0, .bool false]) w := by kernel_rfl
theorem as14 (w : World) : (Instr.typeAssert (.iface 103 (.agg #[])) 73 106 true).run Try.prog w = .ok (.tuple #[.string ⟨#[]⟩, .bool false]) w := by kernel_rfl
theorem as22 (n : Int) (w : World) : (Instr.typeAssert (.iface 104 (.int .i64 n)) 73 104 true).run Try.prog w = .ok (.tuple #[.int .i64 n, .bool true]) w := by kernel_rfl
theorem as23 (n : Int) (w : World) : (Instr.typeAssert (.iface 104 (.int .i64 n)) 73 105 true).run Try.prog w = .ok (.tuple #[.int .i64 0, .bool false]) w := by kernel_rfl
theorem as24 (n : Int) (w : World) : (Instr.typeAssert (.iface 104 (.int .i64 n)) 73 106 true).run Try.prog w = .ok (.tuple #[.string ⟨#[]⟩, .bool false]) w := by kernel_rfl
theorem at2 (n : Int) (w : World) : (Instr.typeAssert (.iface 104 (.int .i64 n)) 73 104 false).run Try.prog w = .ok (.int .i64 n) w := by kernel_rfl
theorem as32 (n : Int) (w : World) : (Instr.typeAssert (.iface 105 (.int .i64 n)) 73 104 true).run Try.prog w = .ok (.tuple #[.int .i64 0, .bool false]) w := by kernel_rfl
theorem as33 (n : Int) (w : World) : (Instr.typeAssert (.iface 105 (.int .i64 n)) 73 105 true).run Try.prog w = .ok (.tuple #[.int .i64 n, .bool true]) w := by kernel_rfl
theorem as34 (n : Int) (w : World) : (Instr.typeAssert (.iface 105 (.int .i64 n)) 73 106 true).run Try.prog w = .ok (.tuple #[.string ⟨#[]⟩, .bool false]) w := by kernel_rfl
theorem at3 (n : Int) (w : World) : (Instr.typeAssert (.iface 105 (.int .i64 n)) 73 105 false).run Try.prog w = .ok (.int .i64 n) w := by kernel_rfl
theorem as42 (t : ByteArray) (w : World) : (Instr.typeAssert (.iface 106 (.string t)) 73 104 true).run Try.prog w = .ok (.tuple #[.int .i64 0, .bool false]) w := by kernel_rfl
theorem as43 (t : ByteArray) (w : World) : (Instr.typeAssert (.iface 106 (.string t)) 73 105 true).run Try.prog w = .ok (.tuple #[.int .i64 0, .bool false]) w := by kernel_rfl
theorem as44 (t : ByteArray) (w : World) : (Instr.typeAssert (.iface 106 (.string t)) 73 106 true).run Try.prog w = .ok (.tuple #[.string t, .bool true]) w := by kernel_rfl
theorem at4 (t : ByteArray) (w : World) : (Instr.typeAssert (.iface 106 (.string t)) 73 106 false).run Try.prog w = .ok (.string t) w := by kernel_rfl
end Go.Proofs.Ytolkiofdbdjfkaa
