/- Boxes that are written: what a store leaves of them. It speaks of every program. No condition. -/
import Derived.Test.YtkkmnegmghllpaaBoxes
namespace Go.Proofs.Ytkkmnegmghllpaa
open Go.ChangeShapes Go.WideShapes Go.ChangeAt Go.RowKit
set_option linter.unusedVariables false

theorem BoxAt.drew {W : World} {b : Nat} {vs : List Value} (h : BoxAt W b vs) : BoxAt W.drew b vs := ⟨by simpa using h.1, fun i v hv => by simpa using h.2.1 i v hv, fun i hi => by simpa using h.2.2 i hi⟩
theorem BoxAt.other {W : World} {b c i : Nat} {vs : List Value} (h : BoxAt W b vs) (hne : c ≠ b) (u : Value) : BoxAt (W.setCell ⟨c, i, none⟩ u) b vs := by
  refine ⟨by simpa using h.1, fun j v hv => ?_, fun j hj => ?_⟩
  · rw [World.cell?_setCell_other W ⟨c, i, none⟩ ⟨b, j, none⟩ _ (fun e => hne (by cases e; rfl))]; exact h.2.1 j v hv
  · have := h.2.2 j hj
    simp [*, go_sem]
theorem BoxAt.set {W : World} {b i : Nat} {vs : List Value} (h : BoxAt W b vs) (hi : i < vs.length) (u : Value) : BoxAt (W.setCell ⟨b, i, none⟩ u) b (vs.set i u) := by
  refine ⟨by simpa using h.1, fun j v hv => ?_, fun j hj => ?_⟩
  · by_cases e : i = j
    · subst e
      have hc := h.2.1 i vs[i] (by simp [hi])
      rw [List.getElem?_set_self hi] at hv
      cases hv
      simp [*, go_sem]
    · rw [World.cell?_setCell_other W ⟨b, i, none⟩ ⟨b, j, none⟩ _ (fun h => e (by cases h; rfl))]
      rw [List.getElem?_set_ne e] at hv
      exact h.2.1 j v hv
  · have := h.2.2 j (by simpa using hj)
    simp [*, go_sem]
end Go.Proofs.Ytkkmnegmghllpaa
