/- What a new block leaves as it was. No condition. -/
import Derived.Test.YtgjcegmjhkehnaaDoorSpecRd
import Derived.Test.YtgjcegmjhkehnaaDoorImplN
namespace Go.Proofs.YtgjcegmjhkehnaaDoor
open Go.ChangeShapes Go.WideShapes Go.ChangeAt Go.RowKit Go.Deep
set_option linter.unusedVariables false
theorem al_ (w : World) (o : Obj) : Below w.heap.size w (w.alloc o) := (Below.refl _ _).alloc (Nat.le_refl _) o
end Go.Proofs.YtgjcegmjhkehnaaDoor
