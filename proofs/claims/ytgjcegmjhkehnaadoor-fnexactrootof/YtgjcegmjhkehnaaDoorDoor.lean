/- What the listed table of weights gives the walks, and a world in which it lies. -/
import Derived.Test.YtgjcegmjhkehnaaDoorFeed
import Derived.Test.YtgjcegmjhkehnaaDoorCards
import Derived.Test.YtgjcegmjhkehnaaDoorTie
import Derived.Lib.SmallJoins
import Derived.Deep.DeepHandedRow
import Derived.Lib.LaidTab
import Derived.WalkSmall
namespace Go.Proofs.YtgjcegmjhkehnaaDoor
open Go.ChangeShapes Go.WideShapes Go.ChangeAt Go.RowKit

theorem gTab : Tryd.prog.globalNamed (Rows.fnUnlikeSpec.vars.headD default) = some 0 := by kernel_rfl
theorem gTabType : (Tryd.prog.globals[0]?).map (·.type) = some 215 := by kernel_rfl
theorem cellsTab : Tryd.prog.cellsOf 215 = 8 := by kernel_rfl
theorem cellsInt : Tryd.prog.cellsOf 3 = 1 := by kernel_rfl

theorem table_of {W : World} (h : laidMetH Tryd.prog Rows.fnUnlikeRow.laid W) : Table W := by
  have tab : Lib.TabIs Tryd.prog W (Rows.fnUnlikeSpec.vars.headD default) .i64 [8, 7, 6, 5, 4, 3, 2, 1] :=
    Lib.tabIs_of_head (rest := []) gTab gTabType Tryd.underlying215 Tryd.underlying3 cellsInt cellsTab h
  refine ⟨World.block_lt_of_cell? W ⟨0, 0, none⟩ (tab.cell gTab 0 (by decide)), fun i hi => ?_⟩
  rw [tab.cell gTab i (by simpa using hi)]
  match i, hi with
  | 0, _ => rfl
  | 1, _ => rfl
  | 2, _ => rfl
  | 3, _ => rfl
  | 4, _ => rfl
  | 5, _ => rfl
  | 6, _ => rfl
  | 7, _ => rfl

/-- The table, laid into its block. -/
def layTab : Obj → Obj
  | .cells _ t frozen => .cells #[.int .i64 8, .int .i64 7, .int .i64 6, .int .i64 5, .int .i64 4, .int .i64 3, .int .i64 2, .int .i64 1] t frozen
  | o => o
end Go.Proofs.YtgjcegmjhkehnaaDoor
