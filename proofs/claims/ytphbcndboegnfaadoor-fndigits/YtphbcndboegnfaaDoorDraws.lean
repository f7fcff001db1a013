/- Contracts of the drawing functions of chapter 1, and of the number of a list of bytes. Condition: the bytes lie in memory. -/
import Derived.Test.YtphbcndboegnfaaDoorText
import Derived.RegionTactic
namespace Go.Proofs.YtphbcndboegnfaaDoor
open Go.ChangeShapes Go.WideShapes Go.ChangeAt Go.RowKit Go.Deep
set_option linter.unusedVariables false

theorem hide {p : Prop} (h : p) : Hid p := h
theorem unhide {p : Prop} (h : Hid p) : p := h
/-- The slice value v holds n bytes. -/
def CodeAt (w : World) (v : Value) (n : Nat) : Prop :=
  ∃ ad c, v = .slice ad n c ∧ n ≤ 1048576 ∧ (n = 0 ∨ ∃ b off, ad = some ⟨b, off, none⟩ ∧ b < w.heap.size ∧ ∀ i, i < n → ∃ x : Int, 0 ≤ x ∧ x ≤ 255 ∧ w.cell? ⟨b, off + i, none⟩ = some (.int .u8 x))
theorem CodeAt.bytes {w w' : World} {v : Value} {n g : Nat} (h : CodeAt w v n) (hb : Below w.heap.size w w') (hg : w.heap.size ≤ g) : BytesAt w' g v n := by
  obtain ⟨ad, c, e, hn, h0 | ⟨b, off, e2, hl, hc⟩⟩ := h
  · exact ⟨ad, c, e, hn, .inl h0⟩
  · refine ⟨ad, c, e, hn, .inr ⟨b, off, e2, by omega, Nat.lt_of_lt_of_le hl hb.size, fun i hi => ?_⟩⟩
    obtain ⟨x, h0, h1, h2⟩ := hc i hi
    exact ⟨x, h0, h1, (hb.cell (p := ⟨b, off + i, none⟩) hl).trans h2⟩
theorem CodeAt.below {w w' : World} {v : Value} {n : Nat} (h : CodeAt w v n) (hb : Below w.heap.size w w') : CodeAt w' v n := by
  obtain ⟨ad, c, e, hn, h0 | ⟨b, off, e2, hl, hc⟩⟩ := h
  · exact ⟨ad, c, e, hn, .inl h0⟩
  · refine ⟨ad, c, e, hn, .inr ⟨b, off, e2, Nat.lt_of_lt_of_le hl hb.size, fun i hi => ?_⟩⟩
    obtain ⟨x, h0, h1, h2⟩ := hc i hi
    exact ⟨x, h0, h1, (hb.cell (p := ⟨b, off + i, none⟩) hl).trans h2⟩
theorem cur_new (w : World) (v : Value) (t : TypeId) : CurAt (w.alloc (.cells #[v, .int .i64 0, .int .u64 0] t)) w.heap.size v 0 :=
  ⟨0, 0, by omega, by omega, by simp, by simp, by simp, by omega, by omega, by simp, by simp, by simp⟩

set_option maxHeartbeats 800000 in
theorem numberIn (v : Value) (n : Nat) (w : World) (h : CodeAt w v n) :
    Calls Tryd.prog 34 #[v] w fun e w' => ∃ x : Int, e = .returned (.int .i64 x) ∧ 0 ≤ x ∧ x ≤ 1000002 ∧ w = w' := by
  obtain ⟨ad, c, rfl, hn, hb⟩ := h
  have HB := hide hb
  clear hb
  go_enter Tryd.func34, Tryd.ntmps34
  go_wp2
  go_loop [3, 5, 8] (fun x y i => ∃ (k : Nat) (z : Int), k ≤ n ∧ 0 ≤ z ∧ z ≤ 1000002 ∧ i = .int .i64 k ∧ x = .int .i64 z) (fun _ _ i => n - (intOf i).toNat)
  case atStart => exact ⟨0, 0, Nat.zero_le _, by omega, by omega, rfl, rfl⟩
  case round =>
    obtain ⟨k, z, hk, hz0, hz1, rfl, rfl⟩ := hrel
    by_cases hlt : k < n
    · rcases unhide HB with h0 | ⟨b, off, rfl, hbl, hcell⟩
      · omega
      · obtain ⟨x, hx0, hx1, hx⟩ := hcell k hlt
        clear hcell
        have hi : (k : Int) < (n : Int) := by omega
        go_wp2
        go_round
        case rel => exact ⟨k + 1, (31 * z + x) % 1000003, by omega, by omega, by omega, by go_num, rfl⟩
        case measure => simp [intOf]; omega
    · go_wp2
      go_ret
      exact ⟨z, rfl, hz0, hz1, rfl⟩

end Go.Proofs.YtphbcndboegnfaaDoor
