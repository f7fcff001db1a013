/- Contracts of what the cursor draws: messages. Condition: the cursor's block and its bytes lie in memory. -/
import Derived.Test.YtemkkofjakpjiaaDoorDraws
import Derived.Test.YtemkkofjakpjiaaDoorOwn2
namespace Go.Proofs.YtemkkofjakpjiaaDoor
open Go.ChangeShapes Go.WideShapes Go.ChangeAt Go.RowKit Go.Deep
set_option linter.unusedVariables false
attribute [local go_sem ↓] Go.wp_at_zero Go.wp_at_succ

def mess : List ByteArray := [⟨#[]⟩, ⟨#[97]⟩, ⟨#[98]⟩, ⟨#[112, 97, 121, 32, 53]⟩, ⟨#[112, 97, 121, 32, 54]⟩, ⟨#[97, 32, 114, 111, 111, 116]⟩]
def messRow : Array Value := #[.string ⟨#[]⟩, .string ⟨#[97]⟩, .string ⟨#[98]⟩, .string ⟨#[112, 97, 121, 32, 53]⟩, .string ⟨#[112, 97, 121, 32, 54]⟩, .string ⟨#[97, 32, 114, 111, 111, 116]⟩]
theorem mess_cells (w : World) (t : TypeId) : ∀ i, i < mess.length → (w.alloc (.cells messRow t)).cell? ⟨w.heap.size, i, none⟩ = some (.string (mess.getD i ByteArray.empty)) := by
  intro i hi
  have h6 : i < 6 := hi
  match i, h6 with
  | 0, _ => simp [messRow, mess]
  | 1, _ => simp [messRow, mess]
  | 2, _ => simp [messRow, mess]
  | 3, _ => simp [messRow, mess]
  | 4, _ => simp [messRow, mess]
  | 5, _ => simp [messRow, mess]
theorem mess_small (x : ByteArray) (h : x ∈ mess) : x.size ≤ 201 := by
  simp only [mess, List.mem_cons, List.not_mem_nil, or_false] at h
  rcases h with rfl | rfl | rfl | rfl | rfl | rfl <;> decide
set_option maxHeartbeats 1600000 in
theorem messIn (g : Nat) (v : Value) (n m : Nat) (w : World) (hc : CurAt w g v m) (hb : BytesAt w g v n) (hm : m ≤ 1000000 - 10) :
    Calls Tryd.prog 65 #[.pointer (some ⟨g, 0, none⟩)] w fun e w' => ∃ s : ByteArray, e = .returned (.string s) ∧ s.size ≤ 201 ∧ Drawn w w' g v n (m + 4) := by
  have HP := oneIn g v n m 20 w hc hb (by omega) (by omega) (by omega)
  have hgl := hc.lt
  clear hc hb
  go_enter Tryd.func65, Tryd.ntmps65
  go_wp2_with fail
  refine HP.mono ?_
  rintro e w1 ⟨o, rfl, hd1⟩
  clear HP
  have hl1 := hd1.2.2.size
  have HD1 : Hid (Drawn w w1 g v n (m + 2)) := hd1
  clear hd1
  cases o
  · have hbel : Below w1.heap.size w1 (w1.alloc (.cells messRow 9)) := (Below.refl _ w1).alloc (Nat.le_refl _) _
    have hd1b := HD1.out.below hbel
    have HA := ofIn g v n (m + 2) mess w1.heap.size 6 _ hd1b.1 hd1b.2.1 (by omega) (by decide) (by decide) (by omega) (mess_cells w1 9)
    have HDB : Hid (Drawn w (w1.alloc (.cells messRow 9)) g v n (m + 2)) := hd1b
    clear hd1b hbel
    go_wp2_with fail
    refine HA.mono ?_
    rintro e w2 ⟨x, rfl, hx, hd2⟩
    clear HA
    have HD2 : Hid (Drawn w w2 g v n (m + 2 + 2)) := HDB.out.trans hd2
    have hxs := mess_small x hx
    clear hd2 hx
    go_wp2
    go_ret
    exact ⟨x, rfl, hxs, HD2.out⟩
  · go_wp2_with fail
    refine (pickIn g v n (m + 2) 2 w1 HD1.out.1 HD1.out.2.1 (by omega) (by omega) (by omega)).mono ?_
    rintro e w2 ⟨x, rfl, hx0, hx1, hd2⟩
    have HD2 : Hid (Drawn w w2 g v n (m + 2 + 2)) := HD1.out.trans hd2
    have hl2 := HD2.out.2.2.size
    clear hd2
    obtain ⟨N, rfl⟩ := Int.eq_ofNat_of_zero_le hx0
    have hmk : ∀ W : World, (Instr.makeSlice 22 (.int .i64 (200 + (N : Int))) (.int .i64 (200 + (N : Int)))).run Tryd.prog W = .ok (.slice (some ⟨W.heap.size, 0, none⟩) (200 + N) (200 + N)) (W.alloc (.cells (madeCells #[.int .u8 0] (200 + N)) 5)) := fun W => by
      have h := make8 (200 + N) (by omega) W
      have e : ((200 + N : Nat) : Int) = 200 + (N : Int) := by omega
      rw [e] at h
      exact h
    have hcz := conv_zero (200 + N)
    go_wp2
    go_ret
    exact ⟨_, rfl, by rw [strOfNums_size]; simp; omega, (HD2.out.below ((Below.refl _ w2).alloc (Nat.le_refl _) _))⟩
theorem OwnRow.otherBy {base : Nat} {w w' : World} {g n r : Nat} {f : Nat → Value} (h : OwnRow base w g n f) (hg : w.grownBy w' (some r)) (hne : r ≠ g) : OwnRow base w' g n f :=
  ⟨h.1, Nat.lt_of_lt_of_le h.2.1 hg.size, fun i hi => hg.cell (h.2.2.1 i hi) (fun e => hne (by cases e; rfl)), fun i hi => (World.frozen?_of_block (hg.block g h.2.1 (fun e => hne (by cases e; rfl)))).trans (h.2.2.2 i hi)⟩
theorem OwnRow.setStr {base : Nat} {w : World} {g n k : Nat} {f : Nat → ByteArray} (h : OwnRow base w g n (fun i => .string (f i))) (hk : k < n) (x : ByteArray) : ∃ f' : Nat → ByteArray, OwnRow base (w.setCell ⟨g, k, none⟩ (.string x)) g n (fun i => .string (f' i)) :=
  ⟨fun i => if i = k then x else f i, (h.set hk (.string x)).congr (fun i _ => by by_cases e : i = k <;> simp [e])⟩
end Go.Proofs.YtemkkofjakpjiaaDoor
