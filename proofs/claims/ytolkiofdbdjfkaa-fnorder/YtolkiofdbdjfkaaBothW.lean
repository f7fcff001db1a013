/- One answer for program and model: values held against one another, good values, bytes of values. No condition but the texts' own reach. -/
import Derived.Test.YtolkiofdbdjfkaaImplC
import Derived.Test.YtolkiofdbdjfkaaImplRB
namespace Go.Proofs.Ytolkiofdbdjfkaa
open Go.ChangeShapes Go.WideShapes Go.ChangeAt Go.RowKit Go.Deep
set_option linter.unusedVariables false

theorem bothCV (a b : VV) (hma : a.t.size ≤ maxLen) (hmb : b.t.size ≤ maxLen) : ∃ c ok, ((ok = true ∧ GoodV a ∧ GoodV b ∧ c = cmpV a b) ∨ (ok = false ∧ ¬ (GoodV a ∧ GoodV b) ∧ c = 0)) ∧
    (∀ W, Calls Try.prog 15 #[encV a, encV b] W fun e w' => e = .returned (.tuple #[.int .i64 c, .bool ok]) ∧ Below W.heap.size W w') ∧
    (∀ W, Calls Try.prog 14 #[encV a, encV b] W fun e w' => e = .returned (.tuple #[.int .i64 c, .bool ok]) ∧ Below W.heap.size W w') := by
  by_cases h : GoodV a ∧ GoodV b
  · exact ⟨cmpV a b, true, .inl ⟨rfl, h.1, h.2, rfl⟩, fun W => specCmpYes a b W h.1 h.2, fun W => implCVYes a b W h.1 h.2⟩
  · exact ⟨0, false, .inr ⟨rfl, h, rfl⟩, fun W => specCmpNo a b W hma hmb h, fun W => implCVNo a b W hma hmb h⟩
theorem bothGV (v : VV) (hm : v.t.size ≤ maxLen) : ∃ g,
    (∀ W, Calls Try.prog 17 #[encV v] W fun e w' => e = .returned (.bool g) ∧ Below W.heap.size W w') ∧
    (∀ W, Calls Try.prog 16 #[encV v] W fun e w' => e = .returned (.bool g) ∧ Below W.heap.size W w') := by
  by_cases h : GoodV v
  · exact ⟨true, fun W => specGoodYes v W h, fun W => implGoodYes v W h⟩
  · exact ⟨false, fun W => specGoodNo v W hm h, fun W => implGoodNo v W hm h⟩
theorem bothVB (v : VV) (hm : v.t.size ≤ maxLen) : ∃ s ok,
    (∀ W, Calls Try.prog 24 #[encV v] W fun e w' => e = .returned (.tuple #[.string s, .bool ok]) ∧ Below W.heap.size W w') ∧
    (∀ W, Calls Try.prog 18 #[encV v] W fun e w' => e = .returned (.tuple #[.string s, .bool ok]) ∧ Below W.heap.size W w') := by
  by_cases h : GoodV v
  · exact ⟨bytesV v, true, fun W => specVBYes v W h, fun W => implVBYes v W h⟩
  · exact ⟨ByteArray.empty, false, fun W => specVBNo v W hm h, fun W => implVBNo v W hm h⟩
end Go.Proofs.Ytolkiofdbdjfkaa
