/- Contracts of what the cursor draws out of lists of texts; the bytes that are drawn from; the number of a list of bytes. Condition: the cursor's block and its bytes lie in memory. -/
import Derived.Test.YtkkmnegmghllpaaCur
import Derived.RegionTactic
namespace Go.Proofs.Ytkkmnegmghllpaa
open Go.ChangeShapes Go.WideShapes Go.ChangeAt Go.RowKit Go.Deep
set_option linter.unusedVariables false

theorem Drawn.start {w w0 w1 : World} {g : Nat} {v : Value} {n m : Nat} (hb : Below w.heap.size w w0) (h : Drawn w0 w1 g v n m) : Drawn w w1 g v n m := ⟨h.1, h.2.1, (gb_of_below hb).trans h.2.2⟩
theorem CurAt.lt {w : World} {g : Nat} {v : Value} {m : Nat} (h : CurAt w g v m) : g < w.heap.size := by
  obtain ⟨a, s, _, _, c0, _⟩ := h
  exact World.block_lt_of_cell? w ⟨g, 0, none⟩ c0
set_option maxHeartbeats 800000 in
theorem ofIn (g : Nat) (v : Value) (n m : Nat) (zs : List ByteArray) (b c : Nat) (w : World) (hc : CurAt w g v m) (hb : BytesAt w g v n) (hm : m ≤ 1000000 - 2) (hz0 : 1 ≤ zs.length) (hz1 : zs.length ≤ 65536)
    (hbg : b ≠ g) (hrow : ∀ i, i < zs.length → w.cell? ⟨b, i, none⟩ = some (.string (zs.getD i ByteArray.empty))) :
    Calls Try.prog 66 #[.pointer (some ⟨g, 0, none⟩), .slice (some ⟨b, 0, none⟩) zs.length c] w fun e w' => ∃ x : ByteArray, e = .returned (.string x) ∧ x ∈ zs ∧ Drawn w w' g v n (m + 2) := by
  have HP := pickIn g v n m (zs.length : Int) w hc hb hm (by omega) (by omega)
  have HR : Hid (∀ i, i < zs.length → w.cell? ⟨b, i, none⟩ = some (.string (zs.getD i ByteArray.empty))) := hrow
  clear hc hb hrow
  go_enter Try.func66, Try.ntmps66
  go_wp2_with fail
  refine HP.mono ?_
  rintro e w1 ⟨x, rfl, hx0, hx1, hd⟩
  clear HP
  obtain ⟨k, rfl⟩ := Int.eq_ofNat_of_zero_le hx0
  have hk : k < zs.length := by omega
  have hcell : w1.cell? ⟨b, k, none⟩ = some (.string (zs.getD k ByteArray.empty)) := hd.2.2.cell (HR.out k hk) (fun e => hbg (by cases e; rfl))
  have HM : Hid (zs.getD k ByteArray.empty ∈ zs) := by
    show _ ∈ _
    simp [List.getD, hk]
  generalize zs.getD k ByteArray.empty = z at *
  go_wp2
  go_ret
  exact ⟨z, rfl, HM.out, hd⟩
theorem hide {p : Prop} (h : p) : Hid p := h
theorem unhide {p : Prop} (h : Hid p) : p := h
/-- The slice value v holds n bytes. -/
def CodeAt (w : World) (v : Value) (n : Nat) : Prop :=
  ∃ ad c, v = .slice ad n c ∧ n ≤ 1048576 ∧ (n = 0 ∨ ∃ b off, ad = some ⟨b, off, none⟩ ∧ b < w.heap.size ∧ ∀ i, i < n → ∃ x : Int, 0 ≤ x ∧ x ≤ 255 ∧ w.cell? ⟨b, off + i, none⟩ = some (.int .u8 x))
theorem CodeAt.bytes {w w' : World} {v : Value} {n g : Nat} (h : CodeAt w v n) (hb : Below w.heap.size w w') (hg : w.heap.size ≤ g) : BytesAt w' g v n := by
  obtain ⟨ad, c, e, hn, h0 | ⟨b, off, e2, hl, hc⟩⟩ := h
  · exact ⟨ad, c, e, hn, .inl h0⟩
  · refine ⟨ad, c, e, hn, .inr ⟨b, off, e2, by omega, Nat.lt_of_lt_of_le hl hb.size, fun i hi => ?_⟩⟩
    obtain ⟨x, h0, h1, h2⟩ := hc i hi
    exact ⟨x, h0, h1, (hb.cell (p := ⟨b, off + i, none⟩) hl).trans h2⟩
theorem CodeAt.below {w w' : World} {v : Value} {n : Nat} (h : CodeAt w v n) (hb : Below w.heap.size w w') : CodeAt w' v n := by
  obtain ⟨ad, c, e, hn, h0 | ⟨b, off, e2, hl, hc⟩⟩ := h
  · exact ⟨ad, c, e, hn, .inl h0⟩
  · refine ⟨ad, c, e, hn, .inr ⟨b, off, e2, Nat.lt_of_lt_of_le hl hb.size, fun i hi => ?_⟩⟩
    obtain ⟨x, h0, h1, h2⟩ := hc i hi
    exact ⟨x, h0, h1, (hb.cell (p := ⟨b, off + i, none⟩) hl).trans h2⟩
theorem cur_new (w : World) (v : Value) (t : TypeId) : CurAt (w.alloc (.cells #[v, .int .i64 0, .int .u64 0] t)) w.heap.size v 0 :=
  ⟨0, 0, by omega, by omega, by simp, by simp, by simp, by omega, by omega, by simp, by simp, by simp⟩
end Go.Proofs.Ytkkmnegmghllpaa
