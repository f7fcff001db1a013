/- Contracts of what the cursor draws out of lists of texts; the bytes that are drawn from; the number of a list of bytes. Condition: the cursor's block and its bytes lie in memory. -/
import Derived.Test.YthdodlbhkpoadaaCur
import Derived.RegionTactic
namespace Go.Proofs.Ythdodlbhkpoadaa
open Go.ChangeShapes Go.WideShapes Go.ChangeAt Go.RowKit Go.Deep
set_option linter.unusedVariables false

theorem Drawn.start {w w0 w1 : World} {g : Nat} {v : Value} {n m : Nat} (hb : Below w.heap.size w w0) (h : Drawn w0 w1 g v n m) : Drawn w w1 g v n m := ⟨h.1, h.2.1, (gb_of_below hb).trans h.2.2⟩
theorem CurAt.lt {w : World} {g : Nat} {v : Value} {m : Nat} (h : CurAt w g v m) : g < w.heap.size := by
  obtain ⟨a, s, _, _, c0, _⟩ := h
  exact World.block_lt_of_cell? w ⟨g, 0, none⟩ c0
theorem hide {p : Prop} (h : p) : Hid p := h
theorem unhide {p : Prop} (h : Hid p) : p := h
/-- The slice value v holds n bytes. -/
def CodeAt (w : World) (v : Value) (n : Nat) : Prop :=
  ∃ ad c, v = .slice ad n c ∧ n ≤ 1048576 ∧ (n = 0 ∨ ∃ b off, ad = some ⟨b, off, none⟩ ∧ b < w.heap.size ∧ ∀ i, i < n → ∃ x : Int, 0 ≤ x ∧ x ≤ 255 ∧ w.cell? ⟨b, off + i, none⟩ = some (.int .u8 x))
theorem CodeAt.bytes {w w' : World} {v : Value} {n g : Nat} (h : CodeAt w v n) (hb : Below w.heap.size w w') (hg : w.heap.size ≤ g) : BytesAt w' g v n := by
  obtain ⟨ad, c, e, hn, h0 | ⟨b, off, e2, hl, hc⟩⟩ := h
  · exact ⟨ad, c, e, hn, .inl h0⟩
  · refine ⟨ad, c, e, hn, .inr ⟨b, off, e2, by omega, Nat.lt_of_lt_of_le hl hb.size, fun i hi => ?_⟩⟩
    obtain ⟨x, h0, h1, h2⟩ := hc i hi
    exact ⟨x, h0, h1, (hb.cell (p := ⟨b, off + i, none⟩) hl).trans h2⟩
theorem CodeAt.below {w w' : World} {v : Value} {n : Nat} (h : CodeAt w v n) (hb : Below w.heap.size w w') : CodeAt w' v n := by
  obtain ⟨ad, c, e, hn, h0 | ⟨b, off, e2, hl, hc⟩⟩ := h
  · exact ⟨ad, c, e, hn, .inl h0⟩
  · refine ⟨ad, c, e, hn, .inr ⟨b, off, e2, Nat.lt_of_lt_of_le hl hb.size, fun i hi => ?_⟩⟩
    obtain ⟨x, h0, h1, h2⟩ := hc i hi
    exact ⟨x, h0, h1, (hb.cell (p := ⟨b, off + i, none⟩) hl).trans h2⟩
theorem cur_new (w : World) (v : Value) (t : TypeId) : CurAt (w.alloc (.cells #[v, .int .i64 0, .int .u64 0] t)) w.heap.size v 0 :=
  ⟨0, 0, by omega, by omega, by simp, by simp, by simp, by omega, by omega, by simp, by simp, by simp⟩
end Go.Proofs.Ythdodlbhkpoadaa
