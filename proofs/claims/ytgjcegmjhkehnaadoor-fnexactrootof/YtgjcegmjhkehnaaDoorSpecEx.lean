/- Contracts of the model's GoodTree, GetKey, KeysIn, DepthOf. Condition: the pages lie in memory. -/
import Derived.Test.YtgjcegmjhkehnaaDoorSpecOf
namespace Go.Proofs.YtgjcegmjhkehnaaDoor
open Go.ChangeShapes Go.WideShapes Go.ChangeAt Go.RowKit Go.Deep
set_option linter.unusedVariables false
attribute [local go_sem ↓] Go.wp_at_zero Go.wp_at_succ

/-- Pages that the laws hand over. -/
def Hand (pages : List Pg) : Prop := Small pages ∧ Texts pages
theorem specOfYes {pages : List Pg} {t : Nd} (hh : Hand pages) (h : TreeIs pages t) (w : World) (x : Value) (hx : PgsAt w x pages) :
    Calls Tryd.prog 61 #[.agg #[x]] w fun e w' => ∃ b F, e = .returned (.tuple #[.pointer (some ⟨b, 0, none⟩), .bool true]) ∧ OwnT w' w.heap.size t (.pointer (some ⟨b, 0, none⟩)) F ∧ Below w.heap.size w w' := by
  refine (specOf pages hh.1 hh.2 w x hx).mono ?_
  rintro e w' ⟨⟨t', v, F, ht, rfl, hot⟩ | ⟨hno, _⟩, hb⟩
  · have := ht.one h
    subst this
    cases t' with
    | mk p k =>
      have hot' := hot
      obtain ⟨b, _, _, _, _, _, he, _⟩ := hot'
      subst he
      exact ⟨b, F, rfl, hot, hb⟩
  · exact absurd h (hno t)
theorem specOfNo {pages : List Pg} (hh : Hand pages) (h : ∀ t, ¬ TreeIs pages t) (w : World) (x : Value) (hx : PgsAt w x pages) :
    Calls Tryd.prog 61 #[.agg #[x]] w fun e w' => e = .returned (.tuple #[.pointer none, .bool false]) ∧ Below w.heap.size w w' := by
  refine (specOf pages hh.1 hh.2 w x hx).mono ?_
  rintro e w' ⟨⟨t', v, F, ht, rfl, hot⟩ | ⟨hno, rfl⟩, hb⟩
  · exact absurd ht (h t')
  · exact ⟨rfl, hb⟩
theorem al1 (w : World) (o : Obj) : Below w.heap.size w (w.alloc o) := (Below.refl _ _).alloc (Nat.le_refl _) o
theorem belA {w w1 : World} {o : Obj} (h : Below (w.alloc o).heap.size (w.alloc o) w1) : Below w.heap.size w w1 := (al1 w o).trans (h.mono (by simp))
theorem TreeIs.shape {pages : List Pg} {t : Nd} (h : TreeIs pages t) : Shape t := readM_shape h.1

end Go.Proofs.YtgjcegmjhkehnaaDoor
