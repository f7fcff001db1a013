/- Bytes as values, and rows of bytes turned into texts. No condition. -/
import Derived.Test.YtgjcegmjhkehnaaDoorStrs
import Derived.Test.YtgjcegmjhkehnaaDoorBoxW
import Derived.Lib.AppendStr
import Derived.Laws.Concat
import Derived.Deep.AppendLies
import Derived.Deep.DrawnRows
namespace Go.Proofs.YtgjcegmjhkehnaaDoor
open Go.ChangeShapes Go.WideShapes Go.ChangeAt Go.RowKit Go.Deep Go.Lib
set_option linter.unusedVariables false
attribute [local go_sem ↓] Go.wp_at_zero Go.wp_at_succ

theorem conv1 (w : World) (x : Int) (tt : TypeId) (g : Nat) (hg : g = w.heap.size) :
    (convert 22 9 (.slice (some ⟨g, 0, none⟩) 1 1)).run Tryd.prog (w.alloc (.cells #[.int .u8 x] tt)) =
      .ok (.string (strOfNums [x])) (w.alloc (.cells #[.int .u8 x] tt)) := by
  subst hg
  refine run_convert_bytes_arg _ 22 5 Tryd.underlying22 Tryd.underlying5 w.heap.size 0 1 1 [x] rfl ?_ 9 Tryd.underlying9
  intro i hi
  match i, hi with
  | 0, _ => simp
theorem info8 : (Tryd.prog.info? 5).map (fun i => (i.zero, i.size, i.bytes)) = some (some (.int .u8 0), 1, 1) := by kernel_rfl
/-- Bytes as values. -/
def u8s (R : List UInt8) : List Value := R.map fun c => Value.int .u8 (c.toNat : Int)
theorem u8s_append (a b : List UInt8) : u8s (a ++ b) = u8s a ++ u8s b := by simp [u8s]
theorem conv_own (w : World) (base : Nat) (v : Value) (R : List UInt8) (h : w.ownsRow base 5 1 v R.length (u8s R)) :
    (convert 22 9 v).run Tryd.prog w = .ok (.string ⟨R.toArray⟩) w := by
  have hc := fun g hg => h.cells (g := g) hg
  obtain ⟨hl, ⟨rfl, h0⟩ | ⟨g, cap, cur, rfl, hb, hcur, _, _, _, _⟩⟩ := h
  · have hR : R = [] := List.eq_nil_of_length_eq_zero h0
    subst hR
    exact run_convert_bytes_nil w 22 5 Tryd.underlying22 Tryd.underlying5 0 0 9 Tryd.underlying9
  · refine run_convert_bytes_back w 22 9 5 ⟨g, 0, none⟩ cap R Tryd.underlying22 Tryd.underlying5 Tryd.underlying9 (fun j hj => ?_)
    exact hc g rfl j _ (by simp [u8s, hj])
theorem newsAt (X : World) (cs : Array Value) (T : TypeId) (b : Nat) (h : b = X.heap.size) : ∀ j u, cs.toList[j]? = some u → (X.alloc (.cells cs T)).cell? ((⟨b, 0, none⟩ : Addr).add j) = some u := by
  subst h
  exact World.news_of_block (cs := cs) (t := T) (fr := (0, 0)) (heap_alloc_new X _)
end Go.Proofs.YtgjcegmjhkehnaaDoor
