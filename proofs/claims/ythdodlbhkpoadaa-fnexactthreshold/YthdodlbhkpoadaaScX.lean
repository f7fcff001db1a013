/- What the laws' walks over lists of scores carry. No condition. -/
import Derived.Test.YthdodlbhkpoadaaScArg
namespace Go.Proofs.Ythdodlbhkpoadaa
open Go.ChangeShapes Go.WideShapes Go.ChangeAt Go.RowKit Go.Deep
set_option linter.unusedVariables false

def szS (z n : Nat) : Int := if n ≤ z then ((z - n : Nat) : Int) else -1
theorem szScB (v : Value) (l : List Sc) (z : Nat) (w : World) (h : ScsAt w v l) (hz : z ≤ 1048576) (hl : l.length ≤ maxLen) :
    Calls Try.prog 36 #[v, .int .i64 z] w fun e w' => e = .returned (.int .i64 (szS z l.length)) ∧ Below w.heap.size w w' := by
  obtain ⟨a, c, rfl⟩ := h.slice
  refine (szScO a l.length c z w hz hl).mono ?_
  rintro e w' ⟨h1, h2⟩
  exact ⟨h1, by rw [h2]; exact Below.refl _ _⟩
end Go.Proofs.Ythdodlbhkpoadaa
