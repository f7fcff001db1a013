/- What a law keeps of a tree that it marks. No condition. -/
import Derived.Test.YtmmccjdkafojgaaMarks
namespace Go.Proofs.Ytmmccjdkafojgaa
open Go.ChangeShapes Go.WideShapes Go.ChangeAt Go.RowKit Go.Deep
set_option linter.unusedVariables false
/-- A tree whose rows lie in the blocks from B on, up to C, and may be written. -/
def MkP (B C n : Nat) (x : Value) (w : World) : Prop := PgRow B C w x n ∧ NR B C w ∧ C ≤ w.heap.size
theorem MkP.below {B C n : Nat} {x : Value} {w w' : World} (h : MkP B C n x w) (hb : Below w.heap.size w w') : MkP B C n x w' := ⟨h.1.kk (KK.below hb), h.2.1.below h.2.2 hb, Nat.le_trans h.2.2 hb.size⟩
theorem MkP.of {B : Nat} {x : Value} {ps : List Pg} {w : World} (h : PgsO B w x ps) (hs : Small ps) (hf : NoFz B w) : MkP B w.heap.size ps.length x w := ⟨pgRow_of h hs, NR.of hf, Nat.le_refl _⟩
theorem strs_own {w : World} {base n : Nat} {e : TypeId} {v : Value} {ss : List ByteArray} (h : OwnS w base e v n (strsV ss)) (hn : n = ss.length) : StrsAt w v ss := by
  subst hn
  exact strs_of_rows (rows_of_ownS h)
end Go.Proofs.Ytmmccjdkafojgaa
