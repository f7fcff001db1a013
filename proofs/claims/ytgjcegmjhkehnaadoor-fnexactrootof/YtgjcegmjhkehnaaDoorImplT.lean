/- Contracts of the program's GoodTree and DepthOf. Condition: the pages lie in memory. -/
import Derived.Test.YtgjcegmjhkehnaaDoorImplWh
namespace Go.Proofs.YtgjcegmjhkehnaaDoor
open Go.ChangeShapes Go.WideShapes Go.ChangeAt Go.RowKit Go.Deep
set_option linter.unusedVariables false
attribute [local go_sem ↓] Go.wp_at_zero Go.wp_at_succ

theorem wholeYes {pages : List Pg} {t : Nd} (hh : Hand pages) (ht : TreeIs pages t) (w : World) (x : Value) (hx : PgsAt w x pages) :
    Calls Tryd.prog 64 #[.agg #[x]] w fun e w' => ∃ a1 k1 a2 k2 a3 k3, e = .returned (.tuple #[.agg #[.slice a1 t.prs.length k1, .slice a2 t.prs.length k2, .slice a3 t.kids.length k3], .int .i64 ((allN t).length : Nat), .bool true]) ∧ NodeP (fun _ => True) w' t (.slice a1 t.prs.length k1) (.slice a2 t.prs.length k2) (.slice a3 t.kids.length k3) ∧ Below w.heap.size w w' := by
  refine (wholeIs hh w x hx).mono ?_
  rintro e w' ⟨⟨t', kv, vv, cv, ht', rfl, hn⟩ | ⟨hno, _⟩, hb⟩
  · have := ht'.one ht
    subst this
    obtain ⟨a1, k1, a2, k2, a3, k3, rfl, rfl, rfl⟩ := hn.slices
    exact ⟨a1, k1, a2, k2, a3, k3, rfl, hn, hb⟩
  · exact absurd ht (hno t)
theorem wholeNo {pages : List Pg} (hh : Hand pages) (ht : ∀ t, ¬ TreeIs pages t) (w : World) (x : Value) (hx : PgsAt w x pages) :
    Calls Tryd.prog 64 #[.agg #[x]] w fun e w' => e = .returned (.tuple #[.agg #[.slice none 0 0, .slice none 0 0, .slice none 0 0], .int .i64 0, .bool false]) ∧ Below w.heap.size w w' := by
  refine (wholeIs hh w x hx).mono ?_
  rintro e w' ⟨⟨t', kv, vv, cv, ht', _, hn⟩ | ⟨hno, rfl⟩, hb⟩
  · exact absurd ht' (ht t')
  · exact ⟨rfl, hb⟩
theorem implLeaf (a1 a2 a3 : Option Addr) (n m c k1 k2 k3 : Nat) (w : World) (hc : c ≤ 1048576) :
    Calls Tryd.prog 72 #[.agg #[.slice a1 n k1, .slice a2 m k2, .slice a3 c k3]] w fun e w' => e = .returned (.bool (decide (c = 0))) ∧ Below w.heap.size w w' := by
  by_cases h : c = 0
  · rw [decide_eq_true h]
    have hb : ((c : Int) == 0) = true := by rw [h]; rfl
    clear h
    go_enter Tryd.func72, Tryd.ntmps72
    go_wp2
    go_returns
    exact ⟨rfl, by go_grown⟩
  · rw [decide_eq_false h]
    have hb : ((c : Int) == 0) = false := beq_false_of_ne (by omega)
    clear h
    go_enter Tryd.func72, Tryd.ntmps72
    go_wp2
    go_returns
    exact ⟨rfl, by go_grown⟩
end Go.Proofs.YtgjcegmjhkehnaaDoor
