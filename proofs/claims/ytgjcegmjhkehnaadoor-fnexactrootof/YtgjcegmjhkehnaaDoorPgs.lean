/- Pages in memory, three cells a page. No condition. -/
import Derived.Test.YtgjcegmjhkehnaaDoorOwnT
namespace Go.Proofs.YtgjcegmjhkehnaaDoor
open Go.ChangeShapes Go.WideShapes Go.ChangeAt Go.RowKit Go.Deep
set_option linter.unusedVariables false

def strsV (l : List ByteArray) : List Value := l.map Value.string
def intsV (l : List Int) : List Value := l.map (Value.int .i64)
/-- The three cells of a page. -/
def PgAt (w : World) (b o : Nat) (p : Pg) : Prop := ∃ kv vv cv, w.cell? ⟨b, o, none⟩ = some kv ∧ w.cell? ⟨b, o + 1, none⟩ = some vv ∧ w.cell? ⟨b, o + 2, none⟩ = some cv ∧
  RowsAt w 1 kv p.keys.length (strsV p.keys) ∧ RowsAt w 1 vv p.vals.length (strsV p.vals) ∧ RowsAt w 1 cv p.kids.length (intsV p.kids)
/-- The slice value x reads as the pages. -/
def PgsAt (w : World) (x : Value) (pages : List Pg) : Prop :=
  (∃ a c, x = .slice a 0 c ∧ pages = []) ∨ ∃ b off cap, x = .slice (some ⟨b, off, none⟩) pages.length cap ∧ b < w.heap.size ∧ ∀ i, i < pages.length → PgAt w b (off + i * 3) (pages.getD i default)
theorem PgAt.below {w w' : World} {b o : Nat} {p : Pg} (h : PgAt w b o p) (hl : b < w.heap.size) (hb : Below w.heap.size w w') : PgAt w' b o p := by
  obtain ⟨kv, vv, cv, h1, h2, h3, h4, h5, h6⟩ := h
  exact ⟨kv, vv, cv, (hb.cell (p := ⟨b, o, none⟩) hl).trans h1, (hb.cell (p := ⟨b, o + 1, none⟩) hl).trans h2, (hb.cell (p := ⟨b, o + 2, none⟩) hl).trans h3, h4.below hb, h5.below hb, h6.below hb⟩
theorem PgsAt.below {w w' : World} {x : Value} {ps : List Pg} (h : PgsAt w x ps) (hb : Below w.heap.size w w') : PgsAt w' x ps := by
  rcases h with h | ⟨b, off, cap, h1, h2, h3⟩
  · exact .inl h
  · exact .inr ⟨b, off, cap, h1, Nat.lt_of_lt_of_le h2 hb.size, fun i hi => (h3 i hi).below h2 hb⟩
theorem PgsAt.slice {w : World} {x : Value} {ps : List Pg} (h : PgsAt w x ps) : ∃ a c, x = .slice a ps.length c := by
  rcases h with ⟨a, c, rfl, rfl⟩ | ⟨b, off, cap, rfl, _⟩
  · exact ⟨a, c, rfl⟩
  · exact ⟨_, cap, rfl⟩
theorem PgsAt.page {w : World} {x : Value} {ps : List Pg} (h : PgsAt w x ps) {i : Nat} (hi : i < ps.length) : ∃ b off c, x = .slice (some ⟨b, off, none⟩) ps.length c ∧ b < w.heap.size ∧ PgAt w b (off + i * 3) (ps.getD i default) := by
  rcases h with ⟨a, c, rfl, rfl⟩ | ⟨b, off, cap, rfl, h1, h2⟩
  · simp at hi
  · exact ⟨b, off, cap, rfl, h1, h2 i hi⟩
theorem intsV_get (p : List Int) (i : Nat) (h : i < p.length) : (intsV p).getD i default = .int .i64 (p.getD i 0) := by simp [intsV, List.getD, h]
theorem strsV_get (p : List ByteArray) (i : Nat) (h : i < p.length) : (strsV p).getD i default = .string (p.getD i ByteArray.empty) := by simp [strsV, List.getD, h]
theorem keysV_prs {p : Pg} (h : cntOk p) : keysV p.prs = strsV p.keys := by
  have := Pg.prs_keys h
  unfold keysV strsV
  rw [← this, List.map_map]; rfl
theorem valsV_prs {p : Pg} (h : cntOk p) : valsV p.prs = strsV p.vals := by
  have := Pg.prs_vals h
  unfold valsV strsV
  conv => rhs; rw [← this]
  rw [List.map_map]; rfl
/-- How long the lists of pages may be. -/
def Small (pages : List Pg) : Prop := pages.length ≤ 1048576 ∧ ∀ p ∈ pages, p.keys.length ≤ 1048576 ∧ p.vals.length ≤ 1048576 ∧ p.kids.length ≤ 1048576
theorem Small.at {pages : List Pg} (h : Small pages) {i : Nat} (hi : i < pages.length) : (pages.getD i default).keys.length ≤ 1048576 ∧ (pages.getD i default).vals.length ≤ 1048576 ∧ (pages.getD i default).kids.length ≤ 1048576 := h.2 _ (by simp [List.getD, hi])
end Go.Proofs.YtgjcegmjhkehnaaDoor
