/- What row stands in bytes, in plain mathematics; a list of values that may be written on. -/
import Derived.Test.YtolkiofdbdjfkaaReadV
import Derived.Test.YtolkiofdbdjfkaaVals
import Derived.Laws.OwnMore
namespace Go.Proofs.Ytolkiofdbdjfkaa
open Go.ChangeShapes Go.WideShapes Go.ChangeAt Go.RowKit Go.Deep
set_option linter.unusedVariables false

/-- The bytes are just those of this row. -/
def RowIs (s : ByteArray) (vs : List VV) : Prop := AllGood vs ∧ vs.length ≤ 6 ∧ s.data.toList = vrowL vs
theorem row_pre : ∀ {vs us : List VV} {X : List UInt8}, AllGood vs → AllGood us → vrowL vs ++ X = vrowL us → ∃ rest, us = vs ++ rest ∧ X = vrowL rest
  | [], us, X, _, _, h => ⟨us, rfl, h⟩
  | v :: vs, [], X, hv, _, h => by
    obtain ⟨c, r, e, _⟩ := vrowL_ne (l := vs) hv.head X
    rw [e] at h
    simp [vrowL] at h
  | v :: vs, u :: us, X, hv, hu, h => by
    simp only [vrowL, List.append_assoc] at h
    obtain ⟨e1, e2⟩ := bytes_free hv.head hu.head h
    obtain ⟨rest, e3, e4⟩ := row_pre hv.tail hu.tail e2
    exact ⟨rest, by rw [e1, e3]; rfl, e4⟩
/-- Where bytes are left and no value stands there, there is no row. -/
theorem row_none {L X : List UInt8} {vs : List VV} (hv : AllGood vs) (hL : L = vrowL vs ++ X) (hX : X ≠ []) (hn : ∀ v, ¬ Stands X v) (us : List VV) (hu : AllGood us) : L ≠ vrowL us := by
  intro e
  rw [hL] at e
  obtain ⟨rest, e1, e2⟩ := row_pre hv hu e
  cases rest with
  | nil => exact hX e2
  | cons u rest => exact hn u ⟨hu u (by rw [e1]; simp), vrowL rest, e2⟩
/-- Where more than six values stand there is no row. -/
theorem row_many {L X : List UInt8} {vs us : List VV} (hv : AllGood vs) (hL : L = vrowL vs ++ X) (hu : AllGood us) (hl : us.length < vs.length) : L ≠ vrowL us := by
  intro e
  rw [hL] at e
  obtain ⟨rest, e1, e2⟩ := row_pre hv hu e
  rw [e1] at hl
  simp at hl
  omega
theorem bytesL_pos {v : VV} (h : GoodV v) : 1 ≤ (bytesL v).length := by
  obtain ⟨r, e, _, _⟩ := bytesL_head h
  rw [e]; simp
theorem vrowL_pos {vs : List VV} (h : AllGood vs) : vs.length ≤ (vrowL vs).length := by
  induction vs with
  | nil => simp
  | cons v vs ih =>
    have h1 := bytesL_pos h.head
    have h2 := ih h.tail
    simp [vrowL]
    omega
/-- The cells of values. -/
def cellsV (vs : List VV) : List Value := vs.flatMap fun v => [.int .i64 v.k, .int .i64 v.n, .string v.t]
theorem cellsV_append (a b : List VV) : cellsV (a ++ b) = cellsV a ++ cellsV b := by simp [cellsV]
theorem cellsV_len (vs : List VV) : (cellsV vs).length = vs.length * 3 := by
  induction vs with
  | nil => rfl
  | cons v vs ih => simp only [cellsV, List.flatMap_cons, List.length_append, List.length_cons, List.length_nil] at *; omega
theorem cellsV_at : ∀ (vs : List VV) (i : Nat), i < vs.length → (cellsV vs)[i * 3]? = some (.int .i64 (vs.getD i v0).k) ∧ (cellsV vs)[i * 3 + 1]? = some (.int .i64 (vs.getD i v0).n) ∧ (cellsV vs)[i * 3 + 2]? = some (.string (vs.getD i v0).t)
  | [], i, h => by simp at h
  | v :: vs, 0, h => by simp [cellsV]
  | v :: vs, i + 1, h => by
    have := cellsV_at vs i (by simp at h; omega)
    have e : (i + 1) * 3 = i * 3 + 3 := by omega
    rw [e]
    simpa [cellsV] using this
/-- The values vs, in memory that may be written, from base on. -/
def OwnVs (w : World) (base : Nat) (x : Value) (vs : List VV) : Prop := w.ownsRow base 24 3 x vs.length (cellsV vs)
theorem OwnVs.nil (w : World) (base : Nat) : OwnVs w base (.slice none 0 0) [] := ⟨rfl, .inl ⟨rfl, rfl⟩⟩
theorem OwnVs.below {w w' : World} {base : Nat} {x : Value} {vs : List VV} (h : OwnVs w base x vs) (hb : Below w.heap.size w w') : OwnVs w' base x vs :=
  World.ownsRow.kept (row := none) h ⟨hb.os, hb.tape, hb.output, hb.size, fun k hk _ => hb.block k hk⟩ (by cases x.ownBlock <;> simp)
theorem OwnVs.mono {w : World} {base base' : Nat} {x : Value} {vs : List VV} (h : OwnVs w base x vs) (hb : base' ≤ base) : OwnVs w base' x vs := by
  obtain ⟨h1, h2 | ⟨g, cap, cur, e, hg, h3⟩⟩ := h
  · exact ⟨h1, .inl h2⟩
  · exact ⟨h1, .inr ⟨g, cap, cur, e, Nat.le_trans hb hg, h3⟩⟩
theorem OwnVs.vals {w : World} {base : Nat} {x : Value} {vs : List VV} (h : OwnVs w base x vs) : ValsAt w x vs := by
  have h' : w.ownsRow base 24 3 x vs.length (cellsV vs) := h
  have hlt := World.ownsRow.lt h'
  obtain ⟨hl, ⟨rfl, h0⟩ | ⟨g, cap, cur, rfl, hb, hcur, _, _, _, _⟩⟩ := h
  · exact .inl ⟨_, _, rfl, List.eq_nil_of_length_eq_zero h0⟩
  · refine .inr ⟨g, 0, cap, rfl, (hlt g rfl).2, fun i hi => ?_⟩
    obtain ⟨c0, c1, c2⟩ := cellsV_at vs i hi
    rw [Nat.zero_add]
    refine ⟨?_, ?_, ?_⟩
    · rw [World.ownsRow.cellAt h' (i * 3) (by omega)]; exact c0
    · rw [World.ownsRow.cellAt h' (i * 3 + 1) (by omega)]; exact c1
    · rw [World.ownsRow.cellAt h' (i * 3 + 2) (by omega)]; exact c2
end Go.Proofs.Ytolkiofdbdjfkaa
