/- One answer for program and model: reading of a value at a place. No condition but the numbers' and the text's own reach. -/
import Derived.Test.YtolkiofdbdjfkaaSpecRV
import Derived.Test.YtolkiofdbdjfkaaImplRR
namespace Go.Proofs.Ytolkiofdbdjfkaa
open Go.ChangeShapes Go.WideShapes Go.ChangeAt Go.RowKit Go.Deep
set_option linter.unusedVariables false

/-- What stands at a place, with the place behind, or nothing. -/
def ReadsAs (s : ByteArray) (a : Int) (v : VV) (E : Int) (ok : Bool) : Prop :=
  (ok = true ∧ ∃ A : Nat, a = (A : Int) ∧ A < s.size ∧ s.size ≤ 600 ∧ Stands (s.data.toList.drop A) v ∧ E = (A : Int) + ((bytesV v).size : Int)) ∨ (ok = false ∧ v = v0 ∧ E = 0)
theorem bothRV (s : ByteArray) (a : Int) (hm : s.size ≤ maxLen) (hw : -9223372036854775808 ≤ a ∧ a ≤ 9223372036854775807) : ∃ v E ok, ReadsAs s a v E ok ∧
    (∀ W, Calls Try.prog 22 #[.string s, .int .i64 a] W fun e w' => e = .returned (.tuple #[encV v, .int .i64 E, .bool ok]) ∧ Below W.heap.size W w') ∧
    (∀ W, Calls Try.prog 20 #[.string s, .int .i64 a] W fun e w' => e = .returned (.tuple #[encV v, .int .i64 E, .bool ok]) ∧ Below W.heap.size W w') := by
  by_cases hin : s.size ≤ 600 ∧ 0 ≤ a ∧ a < (s.size : Int)
  · obtain ⟨h6, h0, h1⟩ := hin
    obtain ⟨A, rfl⟩ := Int.eq_ofNat_of_zero_le h0
    have hA : A < s.size := by omega
    by_cases hst : ∃ v, Stands (s.data.toList.drop A) v
    · obtain ⟨v, hv⟩ := hst
      exact ⟨v, _, true, .inl ⟨rfl, A, rfl, hA, h6, hv, rfl⟩, fun W => specRVAt s A v W h6 hA hv, fun W => implRVat s A v W h6 hA hv⟩
    · have hn : ∀ v, ¬ Stands (s.data.toList.drop A) v := fun v hv => hst ⟨v, hv⟩
      exact ⟨v0, 0, false, .inr ⟨rfl, rfl, rfl⟩, fun W => specRVNo s A W h6 hA hn, fun W => implRVno s A W h6 hA hn⟩
  · exact ⟨v0, 0, false, .inr ⟨rfl, rfl, rfl⟩, fun W => specRVOut s a W hm hw hin, fun W => implRVOut s a W hm hw hin⟩
end Go.Proofs.Ytolkiofdbdjfkaa
