/- The contract of a drawn text: some text of at most 601 bytes. Condition: the cursor's block and its bytes lie in memory. -/
import Derived.Test.YtmnebdgoombfoaaDoorDraw
namespace Go.Proofs.YtmnebdgoombfoaaDoor
open Go.ChangeShapes Go.WideShapes Go.ChangeAt Go.RowKit Go.Deep
set_option linter.unusedVariables false

theorem info8b : (Tryd.prog.info? 5).map (fun i => (i.zero, i.size, i.bytes)) = some (some (.int .u8 0), 1, 1) := by kernel_rfl
theorem make8 (n : Nat) (h : n ≤ 601) (w : World) : (Instr.makeSlice 22 (.int .i64 (n : Int)) (.int .i64 (n : Int))).run Tryd.prog w = .ok (.slice (some ⟨w.heap.size, 0, none⟩) n n) (w.alloc (.cells (madeCells #[.int .u8 0] n) 5)) :=
  run_make_row' (P := Tryd.prog) 22 5 (.int .u8 0) 1 Tryd.underlying22 info8b rfl .i64 .i64 n (by omega) (by omega) w
theorem made_at (n i : Nat) (h : i < n) : (madeCells #[Value.int .u8 0] n)[i]? = some (.int .u8 0) := by
  simp [madeCells, h, Nat.mod_one]
theorem conv_zero (n : Nat) (w : World) (g : Nat) (hg : g = w.heap.size) : (convert 22 9 (.slice (some ⟨g, 0, none⟩) n n)).run Tryd.prog (w.alloc (.cells (madeCells #[.int .u8 0] n) 5)) = .ok (.string (strOfNums (List.replicate n 0))) (w.alloc (.cells (madeCells #[.int .u8 0] n) 5)) := by
  subst hg
  refine run_convert_bytes_arg _ 22 5 Tryd.underlying22 Tryd.underlying5 w.heap.size 0 n n (List.replicate n 0) (by simp) ?_ 9 Tryd.underlying9
  intro i hi
  simp [World.cell?_alloc_new, made_at n i hi, List.getD, hi]

def longs : List Int := [100, 600, 601]
theorem long_cells (w : World) (t : TypeId) : ∀ i, i < longs.length → (w.alloc (.cells #[.int .i64 100, .int .i64 600, .int .i64 601] t)).cell? ⟨w.heap.size, i, none⟩ = some (.int .i64 (longs.getD i 0)) := by
  intro i hi
  have h3 : i < 3 := hi
  match i, h3 with
  | 0, _ => simp [longs]
  | 1, _ => simp [longs]
  | 2, _ => simp [longs]

/-- A row of n bytes in block B. -/
def Row8 (w : World) (B n : Nat) : Prop := ∃ zs : List Int, zs.length = n ∧ (∀ i, i < n → w.cell? ⟨B, i, none⟩ = some (.int .u8 (zs.getD i 0))) ∧ ∀ i, i < n → w.frozen? ⟨B, i, none⟩ = false

theorem gb_setNew {a b : World} {r : Option Nat} (h : a.grownBy b r) (p : Addr) (hp : a.heap.size ≤ p.block) (u : Value) : a.grownBy (b.setCell p u) r :=
  ⟨h.os, h.tape, h.output, Nat.le_trans h.size (by simp [World.setCell]), fun k hk hn => (Below.heap_setCell b p u k (by omega)).trans (h.block k hk hn)⟩
theorem CurAt.set {w : World} {g : Nat} {v : Value} {m : Nat} (h : CurAt w g v m) (p : Addr) (hp : p.block ≠ g) (u : Value) : CurAt (w.setCell p u) g v m := by
  obtain ⟨a, s, ha0, ha1, c0, c1, c2, hs0, hs1, f0, f1, f2⟩ := h
  have hk := Below.heap_setCell w p u g (fun e => hp e.symm)
  exact ⟨a, s, ha0, ha1, (World.cell?_of_block (a := ⟨g, 0, none⟩) hk).trans c0, (World.cell?_of_block (a := ⟨g, 1, none⟩) hk).trans c1, (World.cell?_of_block (a := ⟨g, 2, none⟩) hk).trans c2, hs0, hs1,
    (World.frozen?_of_block (a := ⟨g, 0, none⟩) hk).trans f0, (World.frozen?_of_block (a := ⟨g, 1, none⟩) hk).trans f1, (World.frozen?_of_block (a := ⟨g, 2, none⟩) hk).trans f2⟩
theorem Drawn.set {w w1 : World} {g : Nat} {v : Value} {n m : Nat} (h : Drawn w w1 g v n m) (hb : BytesAt w g v n) (p : Addr) (hp : p.block ≠ g) (hl : w.heap.size ≤ p.block) (u : Value) : Drawn w (w1.setCell p u) g v n m :=
  ⟨h.1.set p hp u, hb.kept (gb_setNew h.2.2 p hl u), gb_setNew h.2.2 p hl u⟩
theorem Drawn.mono {w w1 : World} {g : Nat} {v : Value} {n m m' : Nat} (h : Drawn w w1 g v n m) (hm : m ≤ m') : Drawn w w1 g v n m' := ⟨h.1.mono hm, h.2.1, h.2.2⟩
theorem Row8.set {w : World} {B n k : Nat} {zs : List Int} (hzl : zs.length = n) (hc : ∀ i, i < n → w.cell? ⟨B, i, none⟩ = some (.int .u8 (zs.getD i 0))) (hf : ∀ i, i < n → w.frozen? ⟨B, i, none⟩ = false) (hk : k < n) (y : Int) :
    Row8 (w.setCell ⟨B, k, none⟩ (.int .u8 y)) B n := by
  refine ⟨zs.set k y, by simp [hzl], fun i hi => ?_, fun i hi => ?_⟩
  · by_cases e : k = i
    · subst e
      have := hc k hk
      simp [List.getD, *, go_sem]
    · rw [World.cell?_setCell_other w ⟨B, k, none⟩ ⟨B, i, none⟩ _ (fun h => e (by cases h; rfl)), hc i hi]
      simp [List.getD, e]
  · have := hf i hi
    simp [*, go_sem]
theorem conv_row (w : World) (B n : Nat) (h : Row8 w B n) : ∃ s : ByteArray, s.size = n ∧ (convert 22 9 (.slice (some ⟨B, 0, none⟩) n n)).run Tryd.prog w = .ok (.string s) w := by
  obtain ⟨zs, hl, hc, _⟩ := h
  exact ⟨strOfNums zs, by rw [strOfNums_size, hl], run_convert_bytes_arg _ 22 5 Tryd.underlying22 Tryd.underlying5 B 0 n n zs hl (fun i hi => by simpa using hc i hi) 9 Tryd.underlying9⟩

set_option maxHeartbeats 1600000 in
theorem textIn (g : Nat) (v : Value) (n m : Nat) (w : World) (hc : CurAt w g v m) (hb : BytesAt w g v n) (hm : m ≤ 1000000 - 200) :
    Calls Tryd.prog 39 #[.pointer (some ⟨g, 0, none⟩)] w fun e w' => ∃ s : ByteArray, e = .returned (.string s) ∧ s.size ≤ 601 ∧ Drawn w w' g v n (m + 100) := by
  have HP := oneIn g v n m 20 w hc hb (by omega) (by omega) (by omega)
  have hgl := hc.lt
  have HB0 : Hid (BytesAt w g v n) := hb
  clear hc hb
  go_enter Tryd.func39, Tryd.ntmps39
  go_wp2_with fail
  refine HP.mono ?_
  rintro e w1 ⟨o, rfl, hd1⟩
  clear HP
  have hl1 := hd1.2.2.size
  have HD1 : Hid (Drawn w w1 g v n (m + 2)) := hd1
  clear hd1
  cases o
  · go_wp2_with fail
    refine (pickIn g v n (m + 2) 12 w1 HD1.out.1 HD1.out.2.1 (by omega) (by omega) (by omega)).mono ?_
    rintro e w2 ⟨x, rfl, hx0, hx1, hd2⟩
    have HD2 : Hid (Drawn w w2 g v n (m + 2 + 2)) := HD1.out.trans hd2
    have hl2 := HD2.out.2.2.size
    clear hd2
    obtain ⟨N, rfl⟩ := Int.eq_ofNat_of_zero_le hx0
    have hmk := make8 N (by omega)
    go_wp2
    go_loopw [4, 17] (fun j i wr => ∃ k : Nat, k ≤ N ∧ i = .int .i64 k ∧ w2.heap.size < wr.heap.size ∧ Row8 wr w2.heap.size N ∧ Drawn w wr g v n (m + 4 + 2 * k)) (fun _ i _ => N - (intOf i).toNat)
    case atStart =>
      refine ⟨0, Nat.zero_le _, rfl, by simp, ⟨List.replicate N 0, by simp, ?_, ?_⟩, HD2.out.below ((Below.refl _ w2).alloc (Nat.le_refl _) _)⟩
      · intro i hi
        simp [World.cell?_alloc_new, made_at N i hi, List.getD, hi]
      · intro i hi
        simp
    case round =>
      obtain ⟨k, hk, rfl, hlr, ⟨zs, hzl, hzc, hzf⟩, hdr⟩ := hrel
      have HZ : Hid (∀ i, i < N → wr.cell? ⟨w2.heap.size, i, none⟩ = some (.int .u8 (zs.getD i 0))) := hzc
      have HF : Hid (∀ i, i < N → wr.frozen? ⟨w2.heap.size, i, none⟩ = false) := hzf
      have HR : Hid (Drawn w wr g v n (m + 4 + 2 * k)) := hdr
      clear hzc hzf hdr
      by_cases hlt : k < N
      · go_wp2_with fail
        refine (pickIn g v n (m + 4 + 2 * k) 256 wr HR.out.1 HR.out.2.1 (by omega) (by omega) (by omega)).mono ?_
        rintro e w3 ⟨y, rfl, hy0, hy1, hd3⟩
        have HG : Hid (wr.grownBy w3 (some g)) := hd3.2.2
        have HD3 : Hid (Drawn w w3 g v n (m + 4 + 2 * k + 2)) := HR.out.trans hd3
        have hl3 := hd3.2.2.size
        clear hd3
        have hne : some w2.heap.size ≠ some g := by simp; omega
        have h3c : ∀ i, i < N → w3.cell? ⟨w2.heap.size, i, none⟩ = some (.int .u8 (zs.getD i 0)) := fun i hi => HG.out.cell (HZ.out i hi) hne
        have h3f : ∀ i, i < N → w3.frozen? ⟨w2.heap.size, i, none⟩ = false := fun i hi => (World.frozen?_of_block (HG.out.block w2.heap.size hlr hne)).trans (HF.out i hi)
        have ck := h3c k hlt
        have fk := h3f k hlt
        have H3C : Hid (∀ i, i < N → w3.cell? ⟨w2.heap.size, i, none⟩ = some (.int .u8 (zs.getD i 0))) := h3c
        have H3F : Hid (∀ i, i < N → w3.frozen? ⟨w2.heap.size, i, none⟩ = false) := h3f
        clear h3c h3f
        go_wp2
        refine ⟨⟨k + 1, by omega, by go_num, by simp; omega, Row8.set hzl H3C.out H3F.out hlt y, (HD3.out.set HB0.out ⟨w2.heap.size, k, none⟩ (by simp only []; omega) (by simp only []; omega) _).mono (by omega)⟩, by simp [intOf]; omega⟩
      · have hke : k = N := by omega
        subst hke
        obtain ⟨S, hS, hcv⟩ := conv_row wr w2.heap.size k ⟨zs, hzl, HZ.out, HF.out⟩
        go_wp2
        go_ret
        exact ⟨S, rfl, by omega, HR.out.mono (by omega)⟩
  · have hbel : Below w1.heap.size w1 (w1.alloc (.cells #[.int .i64 100, .int .i64 600, .int .i64 601] 3)) := (Below.refl _ w1).alloc (Nat.le_refl _) _
    have hd1b := HD1.out.below hbel
    have HA := amongIn g v n (m + 2) longs w1.heap.size 3 _ hd1b.1 hd1b.2.1 (by omega) (by decide) (by decide) (by omega) (long_cells w1 3)
    have HDB : Hid (Drawn w (w1.alloc (.cells #[.int .i64 100, .int .i64 600, .int .i64 601] 3)) g v n (m + 2)) := hd1b
    clear hd1b hbel
    go_wp2_with fail
    refine HA.mono ?_
    rintro e w2 ⟨x, rfl, hx, hd2⟩
    clear HA
    have HD2 : Hid (Drawn w w2 g v n (m + 2 + 2)) := HDB.out.trans hd2
    clear hd2
    obtain ⟨N, hN, hNl⟩ : ∃ N : Nat, x = (N : Int) ∧ N ≤ 601 := by
      simp only [longs, List.mem_cons, List.not_mem_nil, or_false] at hx
      rcases hx with rfl | rfl | rfl
      · exact ⟨100, rfl, by omega⟩
      · exact ⟨600, rfl, by omega⟩
      · exact ⟨601, rfl, by omega⟩
    clear hx
    subst hN
    have hmk := make8 N hNl
    have hcz := conv_zero N
    go_wp2
    go_ret
    exact ⟨_, rfl, by rw [strOfNums_size]; simpa using hNl, (HD2.out.below ((Below.refl _ w2).alloc (Nat.le_refl _) _)).mono (by omega)⟩
end Go.Proofs.YtmnebdgoombfoaaDoor
