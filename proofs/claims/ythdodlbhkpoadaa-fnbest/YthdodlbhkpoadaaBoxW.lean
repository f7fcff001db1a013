/- Writes into a local variable that lies in memory. No condition. -/
import Derived.Test.YthdodlbhkpoadaaBoxes
import Derived.Deep.DrawnRows
namespace Go.Proofs.Ythdodlbhkpoadaa
open Go.ChangeShapes Go.WideShapes Go.ChangeAt Go.RowKit Go.Deep
set_option linter.unusedVariables false
attribute [local go_sem ↓] Go.wp_at_zero Go.wp_at_succ

theorem setCell_other (w : World) (g k o : Nat) (v : Value) (hne : k ≠ g) : (w.setCell ⟨g, o, none⟩ v).heap[k]? = w.heap[k]? := Below.heap_setCell w ⟨g, o, none⟩ v k hne
theorem bel_set {a b : World} {B g : Nat} (h : Below B a b) (hg : B ≤ g) (o : Nat) (v : Value) : Below B a (b.setCell ⟨g, o, none⟩ v) :=
  ⟨h.os, h.tape, h.output, Nat.le_trans h.size (by simp [World.setCell]), fun k hk => (setCell_other _ _ _ _ _ (by omega)).trans (h.block k hk)⟩
theorem BoxAt.set {W : World} {b : Nat} {vs : List Value} (h : BoxAt W b vs) (i : Nat) (u : Value) : BoxAt (W.setCell ⟨b, i, none⟩ u) b (vs.set i u) := by
  obtain ⟨h1, h2, h3⟩ := h
  refine ⟨by simpa using h1, fun j v hj => ?_, fun j hj => ?_⟩
  · by_cases e : i = j
    · subst e
      have hl : i < vs.length := by
        have := (List.getElem?_eq_some_iff.1 hj).1
        simpa using this
      have hc := h2 i _ (List.getElem?_eq_getElem hl)
      rw [List.getElem?_set_self hl] at hj
      cases hj
      simp [*, go_sem]
    · rw [List.getElem?_set_ne e] at hj
      rw [World.cell?_setCell_other W ⟨b, i, none⟩ ⟨b, j, none⟩ _ (fun h => e (by cases h; rfl))]
      exact h2 j v hj
  · have := h3 j (by simpa using hj)
    simp [*, go_sem]
theorem BoxAt.setOther {W : World} {b g o : Nat} {vs : List Value} {u : Value} (h : BoxAt W b vs) (hne : b ≠ g) : BoxAt (W.setCell ⟨g, o, none⟩ u) b vs := by
  obtain ⟨h1, h2, h3⟩ := h
  have e := setCell_other W g b o u hne
  exact ⟨by simpa using h1, fun j v hj => by simp only [World.cell?, e]; exact h2 j v hj, fun j hj => by simp only [World.frozen?, e]; exact h3 j hj⟩
theorem al_ (w : World) (o : Obj) : Below w.heap.size w (w.alloc o) := (Below.refl _ _).alloc (Nat.le_refl _) o
end Go.Proofs.Ythdodlbhkpoadaa
