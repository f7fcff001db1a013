/- The contract of a drawn text: some text of at most 601 bytes. Condition: the cursor's block and its bytes lie in memory. -/
import Derived.Test.YtemkkofjakpjiaaDoorDraw
namespace Go.Proofs.YtemkkofjakpjiaaDoor
open Go.ChangeShapes Go.WideShapes Go.ChangeAt Go.RowKit Go.Deep
set_option linter.unusedVariables false

theorem info8b : (Tryd.prog.info? 5).map (fun i => (i.zero, i.size, i.bytes)) = some (some (.int .u8 0), 1, 1) := by kernel_rfl
theorem make8 (n : Nat) (h : n ≤ 601) (w : World) : (Instr.makeSlice 22 (.int .i64 (n : Int)) (.int .i64 (n : Int))).run Tryd.prog w = .ok (.slice (some ⟨w.heap.size, 0, none⟩) n n) (w.alloc (.cells (madeCells #[.int .u8 0] n) 5)) :=
  run_make_row' (P := Tryd.prog) 22 5 (.int .u8 0) 1 Tryd.underlying22 info8b rfl .i64 .i64 n (by omega) (by omega) w
theorem made_at (n i : Nat) (h : i < n) : (madeCells #[Value.int .u8 0] n)[i]? = some (.int .u8 0) := by
  simp [madeCells, h, Nat.mod_one]
theorem conv_zero (n : Nat) (w : World) (g : Nat) (hg : g = w.heap.size) : (convert 22 9 (.slice (some ⟨g, 0, none⟩) n n)).run Tryd.prog (w.alloc (.cells (madeCells #[.int .u8 0] n) 5)) = .ok (.string (strOfNums (List.replicate n 0))) (w.alloc (.cells (madeCells #[.int .u8 0] n) 5)) := by
  subst hg
  refine run_convert_bytes_arg _ 22 5 Tryd.underlying22 Tryd.underlying5 w.heap.size 0 n n (List.replicate n 0) (by simp) ?_ 9 Tryd.underlying9
  intro i hi
  simp [World.cell?_alloc_new, made_at n i hi, List.getD, hi]

def longs : List Int := [100, 600, 601]
theorem long_cells (w : World) (t : TypeId) : ∀ i, i < longs.length → (w.alloc (.cells #[.int .i64 100, .int .i64 600, .int .i64 601] t)).cell? ⟨w.heap.size, i, none⟩ = some (.int .i64 (longs.getD i 0)) := by
  intro i hi
  have h3 : i < 3 := hi
  match i, h3 with
  | 0, _ => simp [longs]
  | 1, _ => simp [longs]
  | 2, _ => simp [longs]

/-- A row of n bytes in block B. -/
def Row8 (w : World) (B n : Nat) : Prop := ∃ zs : List Int, zs.length = n ∧ (∀ i, i < n → w.cell? ⟨B, i, none⟩ = some (.int .u8 (zs.getD i 0))) ∧ ∀ i, i < n → w.frozen? ⟨B, i, none⟩ = false

theorem gb_setNew {a b : World} {r : Option Nat} (h : a.grownBy b r) (p : Addr) (hp : a.heap.size ≤ p.block) (u : Value) : a.grownBy (b.setCell p u) r :=
  ⟨h.os, h.tape, h.output, Nat.le_trans h.size (by simp [World.setCell]), fun k hk hn => (Below.heap_setCell b p u k (by omega)).trans (h.block k hk hn)⟩
theorem CurAt.set {w : World} {g : Nat} {v : Value} {m : Nat} (h : CurAt w g v m) (p : Addr) (hp : p.block ≠ g) (u : Value) : CurAt (w.setCell p u) g v m := by
  obtain ⟨a, s, ha0, ha1, c0, c1, c2, hs0, hs1, f0, f1, f2⟩ := h
  have hk := Below.heap_setCell w p u g (fun e => hp e.symm)
  exact ⟨a, s, ha0, ha1, (World.cell?_of_block (a := ⟨g, 0, none⟩) hk).trans c0, (World.cell?_of_block (a := ⟨g, 1, none⟩) hk).trans c1, (World.cell?_of_block (a := ⟨g, 2, none⟩) hk).trans c2, hs0, hs1,
    (World.frozen?_of_block (a := ⟨g, 0, none⟩) hk).trans f0, (World.frozen?_of_block (a := ⟨g, 1, none⟩) hk).trans f1, (World.frozen?_of_block (a := ⟨g, 2, none⟩) hk).trans f2⟩
theorem Drawn.set {w w1 : World} {g : Nat} {v : Value} {n m : Nat} (h : Drawn w w1 g v n m) (hb : BytesAt w g v n) (p : Addr) (hp : p.block ≠ g) (hl : w.heap.size ≤ p.block) (u : Value) : Drawn w (w1.setCell p u) g v n m :=
  ⟨h.1.set p hp u, hb.kept (gb_setNew h.2.2 p hl u), gb_setNew h.2.2 p hl u⟩
theorem Drawn.mono {w w1 : World} {g : Nat} {v : Value} {n m m' : Nat} (h : Drawn w w1 g v n m) (hm : m ≤ m') : Drawn w w1 g v n m' := ⟨h.1.mono hm, h.2.1, h.2.2⟩
theorem Row8.set {w : World} {B n k : Nat} {zs : List Int} (hzl : zs.length = n) (hc : ∀ i, i < n → w.cell? ⟨B, i, none⟩ = some (.int .u8 (zs.getD i 0))) (hf : ∀ i, i < n → w.frozen? ⟨B, i, none⟩ = false) (hk : k < n) (y : Int) :
    Row8 (w.setCell ⟨B, k, none⟩ (.int .u8 y)) B n := by
  refine ⟨zs.set k y, by simp [hzl], fun i hi => ?_, fun i hi => ?_⟩
  · by_cases e : k = i
    · subst e
      have := hc k hk
      simp [List.getD, *, go_sem]
    · rw [World.cell?_setCell_other w ⟨B, k, none⟩ ⟨B, i, none⟩ _ (fun h => e (by cases h; rfl)), hc i hi]
      simp [List.getD, e]
  · have := hf i hi
    simp [*, go_sem]
theorem conv_row (w : World) (B n : Nat) (h : Row8 w B n) : ∃ s : ByteArray, s.size = n ∧ (convert 22 9 (.slice (some ⟨B, 0, none⟩) n n)).run Tryd.prog w = .ok (.string s) w := by
  obtain ⟨zs, hl, hc, _⟩ := h
  exact ⟨strOfNums zs, by rw [strOfNums_size, hl], run_convert_bytes_arg _ 22 5 Tryd.underlying22 Tryd.underlying5 B 0 n n zs hl (fun i hi => by simpa using hc i hi) 9 Tryd.underlying9⟩

end Go.Proofs.YtemkkofjakpjiaaDoor
