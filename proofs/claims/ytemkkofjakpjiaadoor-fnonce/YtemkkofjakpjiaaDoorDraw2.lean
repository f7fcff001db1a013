/- Contracts of what the cursor draws for chapter 2: seeds, messages, signs. Condition: the cursor's block and its bytes lie in memory. -/
import Derived.Test.YtemkkofjakpjiaaDoorDraws
import Derived.Test.YtemkkofjakpjiaaDoorCheck
import Derived.Test.YtemkkofjakpjiaaDoorIsB
namespace Go.Proofs.YtemkkofjakpjiaaDoor
open Go.ChangeShapes Go.WideShapes Go.ChangeAt Go.RowKit Go.Deep
set_option linter.unusedVariables false

def seeds : List ByteArray := [⟨#[115, 101, 101, 100]⟩, ⟨#[111, 116, 104, 101, 114]⟩, ⟨#[120]⟩, ⟨#[]⟩, ⟨#[115, 105, 120, 116, 101, 101, 110, 32, 98, 121, 116, 101, 115, 32, 111, 107]⟩, ⟨#[115, 101, 118, 101, 110, 116, 101, 101, 110, 32, 98, 121, 116, 101, 115, 33, 33]⟩]
def seedRow : Array Value := #[.string ⟨#[115, 101, 101, 100]⟩, .string ⟨#[111, 116, 104, 101, 114]⟩, .string ⟨#[120]⟩, .string ⟨#[]⟩, .string ⟨#[115, 105, 120, 116, 101, 101, 110, 32, 98, 121, 116, 101, 115, 32, 111, 107]⟩, .string ⟨#[115, 101, 118, 101, 110, 116, 101, 101, 110, 32, 98, 121, 116, 101, 115, 33, 33]⟩]
theorem seed_cells (w : World) (t : TypeId) : ∀ i, i < seeds.length → (w.alloc (.cells seedRow t)).cell? ⟨w.heap.size, i, none⟩ = some (.string (seeds.getD i ByteArray.empty)) := by
  intro i hi
  have h6 : i < 6 := hi
  match i, h6 with
  | 0, _ => simp [seedRow, seeds]
  | 1, _ => simp [seedRow, seeds]
  | 2, _ => simp [seedRow, seeds]
  | 3, _ => simp [seedRow, seeds]
  | 4, _ => simp [seedRow, seeds]
  | 5, _ => simp [seedRow, seeds]
theorem seed_small (x : ByteArray) (h : x ∈ seeds) : x.size ≤ 17 := by
  simp only [seeds, List.mem_cons, List.not_mem_nil, or_false] at h
  rcases h with rfl | rfl | rfl | rfl | rfl | rfl <;> decide
set_option maxHeartbeats 800000 in
theorem seedIn (g : Nat) (v : Value) (n m : Nat) (w : World) (hc : CurAt w g v m) (hb : BytesAt w g v n) (hm : m ≤ 1000000 - 2) :
    Calls Tryd.prog 64 #[.pointer (some ⟨g, 0, none⟩)] w fun e w' => ∃ s : ByteArray, e = .returned (.string s) ∧ s.size ≤ 17 ∧ Drawn w w' g v n (m + 2) := by
  have hbel : Below w.heap.size w (w.alloc (.cells seedRow 9)) := (Below.refl _ w).alloc (Nat.le_refl _) _
  have hgl := hc.lt
  have HP := ofIn g v n m seeds w.heap.size 6 _ (hc.below hbel) (hb.kept (gb_of_below hbel)) hm (by decide) (by decide) (by omega) (seed_cells w 9)
  clear hc hb
  go_enter Tryd.func64, Tryd.ntmps64
  go_wp2_with fail
  refine HP.mono ?_
  rintro e w1 ⟨x, rfl, hx, hd⟩
  clear HP
  have HD2 : Hid (Drawn w w1 g v n (m + 2)) := hd.start hbel
  have hxs := seed_small x hx
  clear hd hbel hx
  go_wp2
  go_ret
  exact ⟨x, rfl, hxs, HD2.out⟩

def mess : List ByteArray := [⟨#[]⟩, ⟨#[97]⟩, ⟨#[98]⟩, ⟨#[112, 97, 121, 32, 53]⟩, ⟨#[112, 97, 121, 32, 54]⟩, ⟨#[97, 32, 114, 111, 111, 116]⟩]
def messRow : Array Value := #[.string ⟨#[]⟩, .string ⟨#[97]⟩, .string ⟨#[98]⟩, .string ⟨#[112, 97, 121, 32, 53]⟩, .string ⟨#[112, 97, 121, 32, 54]⟩, .string ⟨#[97, 32, 114, 111, 111, 116]⟩]
theorem mess_cells (w : World) (t : TypeId) : ∀ i, i < mess.length → (w.alloc (.cells messRow t)).cell? ⟨w.heap.size, i, none⟩ = some (.string (mess.getD i ByteArray.empty)) := by
  intro i hi
  have h6 : i < 6 := hi
  match i, h6 with
  | 0, _ => simp [messRow, mess]
  | 1, _ => simp [messRow, mess]
  | 2, _ => simp [messRow, mess]
  | 3, _ => simp [messRow, mess]
  | 4, _ => simp [messRow, mess]
  | 5, _ => simp [messRow, mess]
theorem mess_small (x : ByteArray) (h : x ∈ mess) : x.size ≤ 201 := by
  simp only [mess, List.mem_cons, List.not_mem_nil, or_false] at h
  rcases h with rfl | rfl | rfl | rfl | rfl | rfl <;> decide
set_option maxHeartbeats 1600000 in
theorem messIn (g : Nat) (v : Value) (n m : Nat) (w : World) (hc : CurAt w g v m) (hb : BytesAt w g v n) (hm : m ≤ 1000000 - 10) :
    Calls Tryd.prog 65 #[.pointer (some ⟨g, 0, none⟩)] w fun e w' => ∃ s : ByteArray, e = .returned (.string s) ∧ s.size ≤ 201 ∧ Drawn w w' g v n (m + 4) := by
  have HP := oneIn g v n m 20 w hc hb (by omega) (by omega) (by omega)
  have hgl := hc.lt
  clear hc hb
  go_enter Tryd.func65, Tryd.ntmps65
  go_wp2_with fail
  refine HP.mono ?_
  rintro e w1 ⟨o, rfl, hd1⟩
  clear HP
  have hl1 := hd1.2.2.size
  have HD1 : Hid (Drawn w w1 g v n (m + 2)) := hd1
  clear hd1
  cases o
  · have hbel : Below w1.heap.size w1 (w1.alloc (.cells messRow 9)) := (Below.refl _ w1).alloc (Nat.le_refl _) _
    have hd1b := HD1.out.below hbel
    have HA := ofIn g v n (m + 2) mess w1.heap.size 6 _ hd1b.1 hd1b.2.1 (by omega) (by decide) (by decide) (by omega) (mess_cells w1 9)
    have HDB : Hid (Drawn w (w1.alloc (.cells messRow 9)) g v n (m + 2)) := hd1b
    clear hd1b hbel
    go_wp2_with fail
    refine HA.mono ?_
    rintro e w2 ⟨x, rfl, hx, hd2⟩
    clear HA
    have HD2 : Hid (Drawn w w2 g v n (m + 2 + 2)) := HDB.out.trans hd2
    have hxs := mess_small x hx
    clear hd2 hx
    go_wp2
    go_ret
    exact ⟨x, rfl, hxs, HD2.out⟩
  · go_wp2_with fail
    refine (pickIn g v n (m + 2) 2 w1 HD1.out.1 HD1.out.2.1 (by omega) (by omega) (by omega)).mono ?_
    rintro e w2 ⟨x, rfl, hx0, hx1, hd2⟩
    have HD2 : Hid (Drawn w w2 g v n (m + 2 + 2)) := HD1.out.trans hd2
    have hl2 := HD2.out.2.2.size
    clear hd2
    obtain ⟨N, rfl⟩ := Int.eq_ofNat_of_zero_le hx0
    have hmk : ∀ W : World, (Instr.makeSlice 22 (.int .i64 (200 + (N : Int))) (.int .i64 (200 + (N : Int)))).run Tryd.prog W = .ok (.slice (some ⟨W.heap.size, 0, none⟩) (200 + N) (200 + N)) (W.alloc (.cells (madeCells #[.int .u8 0] (200 + N)) 5)) := fun W => by
      have h := make8 (200 + N) (by omega) W
      have e : ((200 + N : Nat) : Int) = 200 + (N : Int) := by omega
      rw [e] at h
      exact h
    have hcz := conv_zero (200 + N)
    go_wp2
    go_ret
    exact ⟨_, rfl, by rw [strOfNums_size]; simp; omega, (HD2.out.below ((Below.refl _ w2).alloc (Nat.le_refl _) _))⟩

set_option maxHeartbeats 800000 in
theorem drawSign (v : Value) (n : Nat) (w : World) (h : CodeAt w v n) :
    Calls Tryd.prog 14 #[v] w fun e w' => ∃ s t : ByteArray, e = .returned (.tuple #[.string s, .string t]) ∧ s.size ≤ 17 ∧ t.size ≤ 201 ∧ Below w.heap.size w w' := by
  obtain ⟨ad, c, rfl⟩ : ∃ ad c, v = .slice ad n c := by
    obtain ⟨ad, c, e, _⟩ := h
    exact ⟨ad, c, e⟩
  have hbel := (Below.refl w.heap.size w).alloc (Nat.le_refl _) (.cells #[.slice ad n c, .int .i64 0, .int .u64 0] 87)
  have HK := seedIn w.heap.size (.slice ad n c) n 0 _ (cur_new w (.slice ad n c) 87) (h.bytes hbel (Nat.le_refl _)) (by omega)
  have HBE := hide hbel
  clear h hbel
  go_enter Tryd.func14, Tryd.ntmps14
  go_wp2_with fail
  refine HK.mono ?_
  rintro e w1 ⟨s, rfl, hs, hd⟩
  clear HK
  have HD1 := hide hd
  clear hd
  go_wp2_with fail
  refine (messIn w.heap.size (.slice ad n c) n 2 _ (unhide HD1).1 (unhide HD1).2.1 (by omega)).mono ?_
  rintro e w2 ⟨t, rfl, htt, hd2⟩
  have hd3 := (unhide HD1).trans hd2
  have hb1 : Below w.heap.size w w2 := (unhide HBE).trans (gb_below hd3.2.2 (Nat.le_refl _) (by simp))
  clear hd2 hd3 HBE HD1
  go_wp2
  go_returns
  exact ⟨s, t, rfl, hs, htt, hb1⟩

def starts : List ByteArray := [⟨#[97, 98, 99, 100]⟩, ⟨#[0, 0, 0, 0]⟩, ⟨#[97, 98, 99]⟩, ⟨#[122, 122, 122, 122]⟩]
def startRow : Array Value := #[.string ⟨#[97, 98, 99, 100]⟩, .string ⟨#[0, 0, 0, 0]⟩, .string ⟨#[97, 98, 99]⟩, .string ⟨#[122, 122, 122, 122]⟩]
theorem start_cells (w : World) (t : TypeId) : ∀ i, i < starts.length → (w.alloc (.cells startRow t)).cell? ⟨w.heap.size, i, none⟩ = some (.string (starts.getD i ByteArray.empty)) := by
  intro i hi
  have h4 : i < 4 := hi
  match i, h4 with
  | 0, _ => simp [startRow, starts]
  | 1, _ => simp [startRow, starts]
  | 2, _ => simp [startRow, starts]
  | 3, _ => simp [startRow, starts]
theorem start_small (x : ByteArray) (h : x ∈ starts) : x.size ≤ 4 := by
  simp only [starts, List.mem_cons, List.not_mem_nil, or_false] at h
  rcases h with rfl | rfl | rfl | rfl <;> decide
end Go.Proofs.YtemkkofjakpjiaaDoor
