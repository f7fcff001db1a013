/- Contracts of what the cursor draws: kinds, texts. Condition: the cursor's block and its bytes lie in memory. -/
import Derived.Test.YtemkkofjakpjiaaDoorCur
import Derived.Test.YtemkkofjakpjiaaDoorDigest
namespace Go.Proofs.YtemkkofjakpjiaaDoor
open Go.ChangeShapes Go.WideShapes Go.ChangeAt Go.RowKit Go.Deep
set_option linter.unusedVariables false

theorem Drawn.start {w w0 w1 : World} {g : Nat} {v : Value} {n m : Nat} (hb : Below w.heap.size w w0) (h : Drawn w0 w1 g v n m) : Drawn w w1 g v n m := ⟨h.1, h.2.1, (gb_of_below hb).trans h.2.2⟩
theorem CurAt.lt {w : World} {g : Nat} {v : Value} {m : Nat} (h : CurAt w g v m) : g < w.heap.size := by
  obtain ⟨a, s, _, _, c0, _⟩ := h
  exact World.block_lt_of_cell? w ⟨g, 0, none⟩ c0

set_option maxHeartbeats 800000 in
theorem ofIn (g : Nat) (v : Value) (n m : Nat) (zs : List ByteArray) (b c : Nat) (w : World) (hc : CurAt w g v m) (hb : BytesAt w g v n) (hm : m ≤ 1000000 - 2) (hz0 : 1 ≤ zs.length) (hz1 : zs.length ≤ 65536)
    (hbg : b ≠ g) (hrow : ∀ i, i < zs.length → w.cell? ⟨b, i, none⟩ = some (.string (zs.getD i ByteArray.empty))) :
    Calls Tryd.prog 104 #[.pointer (some ⟨g, 0, none⟩), .slice (some ⟨b, 0, none⟩) zs.length c] w fun e w' => ∃ x : ByteArray, e = .returned (.string x) ∧ x ∈ zs ∧ Drawn w w' g v n (m + 2) := by
  have HP := pickIn g v n m (zs.length : Int) w hc hb hm (by omega) (by omega)
  have HR : Hid (∀ i, i < zs.length → w.cell? ⟨b, i, none⟩ = some (.string (zs.getD i ByteArray.empty))) := hrow
  clear hc hb hrow
  go_enter Tryd.func104, Tryd.ntmps104
  go_wp2_with fail
  refine HP.mono ?_
  rintro e w1 ⟨x, rfl, hx0, hx1, hd⟩
  clear HP
  obtain ⟨k, rfl⟩ := Int.eq_ofNat_of_zero_le hx0
  have hk : k < zs.length := by omega
  have hcell : w1.cell? ⟨b, k, none⟩ = some (.string (zs.getD k ByteArray.empty)) := hd.2.2.cell (HR.out k hk) (fun e => hbg (by cases e; rfl))
  have HM : Hid (zs.getD k ByteArray.empty ∈ zs) := by
    show _ ∈ _
    simp [List.getD, hk]
  generalize zs.getD k ByteArray.empty = z at *
  go_wp2
  go_ret
  exact ⟨z, rfl, HM.out, hd⟩

def kinds : List ByteArray := [⟨#[97]⟩, ⟨#[108]⟩, ⟨#[110]⟩, ⟨#[122]⟩, ⟨#[65]⟩, ⟨#[48]⟩]
def kindRow : Array Value := #[.string ⟨#[97]⟩, .string ⟨#[108]⟩, .string ⟨#[110]⟩, .string ⟨#[122]⟩, .string ⟨#[65]⟩, .string ⟨#[48]⟩]
theorem kind_cells (w : World) (t : TypeId) : ∀ i, i < kinds.length → (w.alloc (.cells kindRow t)).cell? ⟨w.heap.size, i, none⟩ = some (.string (kinds.getD i ByteArray.empty)) := by
  intro i hi
  have h6 : i < 6 := hi
  match i, h6 with
  | 0, _ => simp [kindRow, kinds]
  | 1, _ => simp [kindRow, kinds]
  | 2, _ => simp [kindRow, kinds]
  | 3, _ => simp [kindRow, kinds]
  | 4, _ => simp [kindRow, kinds]
  | 5, _ => simp [kindRow, kinds]

end Go.Proofs.YtemkkofjakpjiaaDoor
