/- Contracts of what the cursor draws: values. Condition: the cursor's block and its bytes lie in memory. -/
import Derived.Test.YtolkiofdbdjfkaaCodeV
import Derived.Test.YtolkiofdbdjfkaaSpecVal
import Derived.Test.YtolkiofdbdjfkaaBoxes2
namespace Go.Proofs.Ytolkiofdbdjfkaa
open Go.ChangeShapes Go.WideShapes Go.ChangeAt Go.RowKit Go.Deep
set_option linter.unusedVariables false
attribute [local go_sem ↓] Go.wp_at_zero Go.wp_at_succ

theorem BoxAt.grown {W W' : World} {b g : Nat} {vs : List Value} (h : BoxAt W b vs) (hg : W.grownBy W' (some g)) (hne : b ≠ g) : BoxAt W' b vs := h.otherBy hg (Ne.symm hne)
def vtexts : List ByteArray := [⟨#[]⟩, ⟨#[97]⟩, ⟨#[97, 98]⟩, ⟨#[98]⟩, ⟨#[0]⟩, ⟨#[97, 0]⟩, ⟨#[97, 0, 98]⟩, ⟨#[97, 255]⟩, ⟨#[116, 119, 101, 108, 118, 101, 32, 98, 121, 116, 101, 115]⟩, ⟨#[116, 104, 105, 114, 116, 101, 101, 110, 32, 98, 121, 116, 101]⟩]
def vtextRow : Array Value := #[.string ⟨#[]⟩, .string ⟨#[97]⟩, .string ⟨#[97, 98]⟩, .string ⟨#[98]⟩, .string ⟨#[0]⟩, .string ⟨#[97, 0]⟩, .string ⟨#[97, 0, 98]⟩, .string ⟨#[97, 255]⟩, .string ⟨#[116, 119, 101, 108, 118, 101, 32, 98, 121, 116, 101, 115]⟩, .string ⟨#[116, 104, 105, 114, 116, 101, 101, 110, 32, 98, 121, 116, 101]⟩]
theorem vtext_cells (w : World) (t : TypeId) : ∀ i, i < vtexts.length → (w.alloc (.cells vtextRow t)).cell? ⟨w.heap.size, i, none⟩ = some (.string (vtexts.getD i ByteArray.empty)) := by
  intro i hi
  have h6 : i < 10 := hi
  match i, h6 with
  | 0, _ => simp [vtextRow, vtexts]
  | 1, _ => simp [vtextRow, vtexts]
  | 2, _ => simp [vtextRow, vtexts]
  | 3, _ => simp [vtextRow, vtexts]
  | 4, _ => simp [vtextRow, vtexts]
  | 5, _ => simp [vtextRow, vtexts]
  | 6, _ => simp [vtextRow, vtexts]
  | 7, _ => simp [vtextRow, vtexts]
  | 8, _ => simp [vtextRow, vtexts]
  | 9, _ => simp [vtextRow, vtexts]
theorem vtext_small (x : ByteArray) (h : x ∈ vtexts) : x.size ≤ 13 := by
  simp only [vtexts, List.mem_cons, List.not_mem_nil, or_false] at h
  rcases h with rfl | rfl | rfl | rfl | rfl | rfl | rfl | rfl | rfl | rfl <;> decide
theorem gb_setNew {a b : World} {g c o : Nat} {u : Value} (h : a.grownBy b (some g)) (hc : a.heap.size ≤ c) : a.grownBy (b.setCell ⟨c, o, none⟩ u) (some g) :=
  ⟨h.os, h.tape, h.output, Nat.le_trans h.size (by simp [World.setCell]), fun k hk hn => (Below.heap_setCell b ⟨c, o, none⟩ u k (fun e => by have e' : k = c := e; omega)).trans (h.block k hk hn)⟩
theorem CurAt.set {w : World} {g c o : Nat} {v u : Value} {m : Nat} (h : CurAt w g v m) (hne : c ≠ g) : CurAt (w.setCell ⟨c, o, none⟩ u) g v m := by
  obtain ⟨a, s, h0, h1, c0, c1, c2, s0, s1, f0, f1, f2⟩ := h
  have ne : ∀ i, (⟨c, o, none⟩ : Addr) ≠ ⟨g, i, none⟩ := fun i e => hne (by cases e; rfl)
  refine ⟨a, s, h0, h1, ?_, ?_, ?_, s0, s1, ?_, ?_, ?_⟩
  · rw [World.cell?_setCell_other w _ _ _ (ne 0)]; exact c0
  · rw [World.cell?_setCell_other w _ _ _ (ne 1)]; exact c1
  · rw [World.cell?_setCell_other w _ _ _ (ne 2)]; exact c2
  · simp [*, go_sem]
  · simp [*, go_sem]
  · simp [*, go_sem]
theorem Drawn.set {w w1 : World} {g c o : Nat} {v u : Value} {n m : Nat} (hb : BytesAt w g v n) (h : Drawn w w1 g v n m) (hc : w.heap.size ≤ c) (hne : c ≠ g) : Drawn w (w1.setCell ⟨c, o, none⟩ u) g v n m :=
  ⟨h.1.set hne, hb.kept (gb_setNew h.2.2 hc), gb_setNew h.2.2 hc⟩
theorem Drawn.mono {w w1 : World} {g : Nat} {v : Value} {n m m' : Nat} (h : Drawn w w1 g v n m) (hm : m ≤ m') : Drawn w w1 g v n m' := ⟨h.1.mono hm, h.2⟩
def vnums (z : Int) : List Int := [0, 1, -1, 5, 256, -256, 1000000000, -1000000000, z]
def vnumRow (z : Int) : Array Value := #[.int .i64 0, .int .i64 1, .int .i64 (-1), .int .i64 5, .int .i64 256, .int .i64 (-256), .int .i64 1000000000, .int .i64 (-1000000000), .int .i64 z]
theorem vnum_cells (z : Int) (w : World) (t : TypeId) : ∀ i, i < (vnums z).length → (w.alloc (.cells (vnumRow z) t)).cell? ⟨w.heap.size, i, none⟩ = some (.int .i64 ((vnums z).getD i 0)) := by
  intro i hi
  have h6 : i < 9 := hi
  match i, h6 with
  | 0, _ => simp [vnumRow, vnums]
  | 1, _ => simp [vnumRow, vnums]
  | 2, _ => simp [vnumRow, vnums]
  | 3, _ => simp [vnumRow, vnums]
  | 4, _ => simp [vnumRow, vnums]
  | 5, _ => simp [vnumRow, vnums]
  | 6, _ => simp [vnumRow, vnums]
  | 7, _ => simp [vnumRow, vnums]
  | 8, _ => simp [vnumRow, vnums]
set_option maxHeartbeats 3200000 in
set_option maxRecDepth 100000 in
theorem valueIn (g : Nat) (v : Value) (n m : Nat) (w : World) (hc : CurAt w g v m) (hb : BytesAt w g v n) (hm : m ≤ 1000000 - 10) :
    Calls Try.prog 46 #[.pointer (some ⟨g, 0, none⟩)] w fun e w' => ∃ u : VV, e = .returned (encV u) ∧ u.t.size ≤ 13 ∧ Drawn w w' g v n (m + 6) := by
  have hgl := hc.lt
  have hne : w.heap.size ≠ g := by omega
  have hbel : Below w.heap.size w (w.alloc (.cells #[.int .i64 0, .int .i64 0, .string ⟨#[]⟩] 24)) := (Below.refl _ w).alloc (Nat.le_refl _) _
  have HP := pickIn g v n m 5 _ (hc.below hbel) (hb.kept (gb_of_below hbel)) (by omega) (by omega) (by omega)
  have HB0 := hide (boxNew w #[.int .i64 0, .int .i64 0, .string ⟨#[]⟩] 24)
  have HBE := hide hbel
  have HBY := hide hb
  clear hc hb hbel
  go_enter Try.func46, Try.ntmps46
  go_wp2_with fail
  refine HP.mono ?_
  rintro e w1 ⟨x, rfl, hx0, hx1, hd⟩
  clear HP
  have HB1 := hide ((unhide HB0).grown hd.2.2 hne)
  have HD1 := hide (hd.start (unhide HBE))
  have l1 := hd.2.2.size
  simp only [World.size_alloc] at l1
  clear hd HB0 HBE
  have hx : x = 0 ∨ x = 1 ∨ x = 2 ∨ x = 3 ∨ x = 4 := by omega
  rcases hx with rfl | rfl | rfl | rfl | rfl
  · have c0 := (unhide HB1).2.1 0 _ rfl
    have c1 := (unhide HB1).2.1 1 _ rfl
    have c2 := (unhide HB1).2.1 2 _ rfl
    have f0 := (unhide HB1).2.2 0 (by simp)
    have f1 := (unhide HB1).2.2 1 (by simp)
    have f2 := (unhide HB1).2.2 2 (by simp)
    go_wp2
    (try simp only [Exit.inBlock, Exit.then])
    refine bodyPost_ret (by simp [*, results, Try.results46, go_sem]; try rfl) rfl ?_
    exact ⟨⟨1, 0, ⟨#[]⟩⟩, rfl, by show (0 : Nat) ≤ 13; omega, ((((unhide HD1).set (unhide HBY) (Nat.le_refl _) hne).set (unhide HBY) (Nat.le_refl _) hne).set (unhide HBY) (Nat.le_refl _) hne).mono (by omega)⟩
  · go_wp2_with fail
    refine (pickIn g v n (m + 2) 2 w1 (unhide HD1).1 (unhide HD1).2.1 (by omega) (by omega) (by omega)).mono ?_
    rintro e w2 ⟨y, rfl, hy0, hy1, hd⟩
    have HB2 := hide ((unhide HB1).grown hd.2.2 hne)
    have HD2 := hide ((unhide HD1).trans hd)
    clear hd
    go_wp2_with fail
    refine (pickIn g v n (m + 4) 9 w2 (unhide HD2).1 (unhide HD2).2.1 (by omega) (by omega) (by omega)).mono ?_
    rintro e w3 ⟨z, rfl, hz0, hz1, hd⟩
    have HB3 := hide ((unhide HB2).grown hd.2.2 hne)
    have HD3 := hide ((unhide HD2).trans hd)
    clear hd
    have hq : z.tdiv 8 = z / 8 := Int.tdiv_eq_ediv_of_nonneg (by omega)
    have hq2 : 0 ≤ z / 8 ∧ z / 8 ≤ 1 := by omega
    have c0 := (unhide HB3).2.1 0 _ rfl
    have c1 := (unhide HB3).2.1 1 _ rfl
    have c2 := (unhide HB3).2.1 2 _ rfl
    have f0 := (unhide HB3).2.2 0 (by simp)
    have f1 := (unhide HB3).2.2 1 (by simp)
    have f2 := (unhide HB3).2.2 2 (by simp)
    go_wp2
    (try simp only [Exit.inBlock, Exit.then])
    refine bodyPost_ret (by simp [*, results, Try.results46, go_sem]; try rfl) rfl ?_
    exact ⟨⟨2, _, ⟨#[]⟩⟩, rfl, by show (0 : Nat) ≤ 13; omega, ((((unhide HD3).set (unhide HBY) (Nat.le_refl _) hne).set (unhide HBY) (Nat.le_refl _) hne).set (unhide HBY) (Nat.le_refl _) hne).mono (by omega)⟩
  · go_wp2_with fail
    refine (pickIn g v n (m + 2) 9 w1 (unhide HD1).1 (unhide HD1).2.1 (by omega) (by omega) (by omega)).mono ?_
    rintro e w2 ⟨z, rfl, hz0, hz1, hd⟩
    have HB2 := hide ((unhide HB1).grown hd.2.2 hne)
    have HD2 := hide ((unhide HD1).trans hd)
    clear hd
    have hq : z.tdiv 8 = z / 8 := Int.tdiv_eq_ediv_of_nonneg (by omega)
    have hq2 : 0 ≤ z / 8 ∧ z / 8 ≤ 1 := by omega
    have l2 := (unhide HD2).2.2.size
    have hbel : Below w2.heap.size w2 (w2.alloc (.cells (vnumRow (1000000000 + z / 8)) 3)) := (Below.refl _ w2).alloc (Nat.le_refl _) _
    have hdb := (unhide HD2).below hbel
    have HA := amongIn g v n (m + 4) (vnums (1000000000 + z / 8)) w2.heap.size 9 _ hdb.1 hdb.2.1 (by omega) (by simp [vnums]) (by simp [vnums]) (by omega) (vnum_cells _ w2 3)
    have HDB := hide hdb
    have HBB := hide ((unhide HB2).below hbel)
    clear hdb hbel
    go_wp2_with fail
    refine HA.mono ?_
    rintro e w3 ⟨y, rfl, hy, hd⟩
    have HB3 := hide ((unhide HBB).grown hd.2.2 hne)
    have HD3 := hide ((unhide HDB).trans hd)
    clear HA hd hy
    have c0 := (unhide HB3).2.1 0 _ rfl
    have c1 := (unhide HB3).2.1 1 _ rfl
    have c2 := (unhide HB3).2.1 2 _ rfl
    have f0 := (unhide HB3).2.2 0 (by simp)
    have f1 := (unhide HB3).2.2 1 (by simp)
    have f2 := (unhide HB3).2.2 2 (by simp)
    go_wp2
    (try simp only [Exit.inBlock, Exit.then])
    refine bodyPost_ret (by simp [*, results, Try.results46, go_sem]; try rfl) rfl ?_
    exact ⟨⟨3, y, ⟨#[]⟩⟩, rfl, by show (0 : Nat) ≤ 13; omega, ((((unhide HD3).set (unhide HBY) (Nat.le_refl _) hne).set (unhide HBY) (Nat.le_refl _) hne).set (unhide HBY) (Nat.le_refl _) hne).mono (by omega)⟩
  · have hbel : Below w1.heap.size w1 (w1.alloc (.cells vtextRow 9)) := (Below.refl _ w1).alloc (Nat.le_refl _) _
    have hdb := (unhide HD1).below hbel
    have HA := ofIn g v n (m + 2) vtexts w1.heap.size 10 _ hdb.1 hdb.2.1 (by omega) (by decide) (by decide) (by omega) (vtext_cells w1 9)
    have HDB := hide hdb
    have HBB := hide ((unhide HB1).below hbel)
    clear hdb hbel
    go_wp2_with fail
    refine HA.mono ?_
    rintro e w2 ⟨y, rfl, hy, hd⟩
    have hys := vtext_small y hy
    have HB2 := hide ((unhide HBB).grown hd.2.2 hne)
    have HD2 := hide ((unhide HDB).trans hd)
    clear HA hd hy
    have c0 := (unhide HB2).2.1 0 _ rfl
    have c1 := (unhide HB2).2.1 1 _ rfl
    have c2 := (unhide HB2).2.1 2 _ rfl
    have f0 := (unhide HB2).2.2 0 (by simp)
    have f1 := (unhide HB2).2.2 1 (by simp)
    have f2 := (unhide HB2).2.2 2 (by simp)
    go_wp2
    (try simp only [Exit.inBlock, Exit.then])
    refine bodyPost_ret (by simp [*, results, Try.results46, go_sem]; try rfl) rfl ?_
    exact ⟨⟨4, 0, y⟩, rfl, hys, ((((unhide HD2).set (unhide HBY) (Nat.le_refl _) hne).set (unhide HBY) (Nat.le_refl _) hne).set (unhide HBY) (Nat.le_refl _) hne).mono (by omega)⟩
  · go_wp2_with fail
    refine (pickIn g v n (m + 2) 6 w1 (unhide HD1).1 (unhide HD1).2.1 (by omega) (by omega) (by omega)).mono ?_
    rintro e w2 ⟨y, rfl, hy0, hy1, hd⟩
    have HB2 := hide ((unhide HB1).grown hd.2.2 hne)
    have HD2 := hide ((unhide HD1).trans hd)
    clear hd
    go_wp2_with fail
    refine (pickIn g v n (m + 4) 3 w2 (unhide HD2).1 (unhide HD2).2.1 (by omega) (by omega) (by omega)).mono ?_
    rintro e w3 ⟨z, rfl, hz0, hz1, hd⟩
    have HB3 := hide ((unhide HB2).grown hd.2.2 hne)
    have HD3 := hide ((unhide HD2).trans hd)
    clear hd
    have c0 := (unhide HB3).2.1 0 _ rfl
    have c1 := (unhide HB3).2.1 1 _ rfl
    have c2 := (unhide HB3).2.1 2 _ rfl
    have f0 := (unhide HB3).2.2 0 (by simp)
    have f1 := (unhide HB3).2.2 1 (by simp)
    have f2 := (unhide HB3).2.2 2 (by simp)
    go_wp2
    (try simp only [Exit.inBlock, Exit.then])
    refine bodyPost_ret (by simp [*, results, Try.results46, go_sem]; try rfl) rfl ?_
    exact ⟨⟨y, z, ⟨#[]⟩⟩, rfl, by show (0 : Nat) ≤ 13; omega, ((((unhide HD3).set (unhide HBY) (Nat.le_refl _) hne).set (unhide HBY) (Nat.le_refl _) hne).set (unhide HBY) (Nat.le_refl _) hne).mono (by omega)⟩
end Go.Proofs.Ytolkiofdbdjfkaa
