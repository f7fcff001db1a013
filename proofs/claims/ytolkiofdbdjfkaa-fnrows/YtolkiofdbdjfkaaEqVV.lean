/- Values held against one another with == and !=. No condition. -/
import Derived.Test.YtolkiofdbdjfkaaSpecVal
import Derived.Laws.StructEq
namespace Go.Proofs.Ytolkiofdbdjfkaa
open Go.ChangeShapes Go.WideShapes Go.ChangeAt Go.RowKit Go.Deep
set_option linter.unusedVariables false

theorem structVal : Try.prog.underlying 24 = some (.struct (Try.prog.fieldsOf 24)) := by kernel_rfl
theorem stoodVal : Try.prog.stoodInHeld 24 = false := by kernel_rfl
theorem bytes_inj (s t : ByteArray) : s.toList = t.toList ↔ s = t := by
  rw [ByteArray.toList_eq, ByteArray.toList_eq]
  refine ⟨fun e => ?_, fun e => by rw [e]⟩
  cases s; cases t; simp at e; simp [e]
theorem eqlVV (K N K2 N2 : Int) (T T2 : ByteArray) (w : World) : (binOp .eql 24 (.agg #[.int .i64 K, .int .i64 N, .string T]) (.agg #[.int .i64 K2, .int .i64 N2, .string T2])).run Try.prog w = .ok (.bool (decide (K = K2 ∧ N = N2 ∧ T = T2))) w := by
  have u3 := Try.underlying3
  have a3 := Try.isAgg3
  have z3 := Try.sizeOf3
  have u9 := Try.underlying9
  have a9 := Try.isAgg9
  have z9 := Try.sizeOf9
  rw [run_eql_struct, show (10000 : Nat) = 9999 + 1 from rfl, run_equalIn_agg w 9999 24 _ _ structVal stoodVal]
  simp only [Program.fieldsOf, Try.underlying24]
  go_simp
  simp only [bytes_inj]
  by_cases h1 : K = K2 <;> by_cases h2 : N = N2 <;> by_cases h3 : T = T2 <;> simp [h1, h2, h3]
theorem neqVV (K N K2 N2 : Int) (T T2 : ByteArray) (w : World) : (binOp .neq 24 (.agg #[.int .i64 K, .int .i64 N, .string T]) (.agg #[.int .i64 K2, .int .i64 N2, .string T2])).run Try.prog w = .ok (.bool (!decide (K = K2 ∧ N = N2 ∧ T = T2))) w := by
  have u3 := Try.underlying3
  have a3 := Try.isAgg3
  have z3 := Try.sizeOf3
  have u9 := Try.underlying9
  have a9 := Try.isAgg9
  have z9 := Try.sizeOf9
  rw [run_neq_struct, show (10000 : Nat) = 9999 + 1 from rfl, run_equalIn_agg w 9999 24 _ _ structVal stoodVal]
  simp only [Program.fieldsOf, Try.underlying24]
  go_simp
  simp only [bytes_inj]
  by_cases h1 : K = K2 <;> by_cases h2 : N = N2 <;> by_cases h3 : T = T2 <;> simp [h1, h2, h3]
end Go.Proofs.Ytolkiofdbdjfkaa
