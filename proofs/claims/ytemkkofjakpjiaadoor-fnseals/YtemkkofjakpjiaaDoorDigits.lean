/- Contracts of the digits of a text, program and model. Condition: the table of weights as it is laid. -/
import Derived.Test.YtemkkofjakpjiaaDoorChain
import Derived.RegionTactic
import Derived.Laws.Bits128
import Derived.Laws.ResultCell
import Derived.Deep.DeepCutAuto
import Derived.Deep.DrawnRows
namespace Go.Proofs.YtemkkofjakpjiaaDoor
open Go.ChangeShapes Go.WideShapes Go.ChangeAt Go.RowKit Go.Deep
set_option linter.unusedVariables false

theorem toNat_of (x : Int) (h : 0 ≤ x ∧ x ≤ 255) : ((UInt8.ofNat x.toNat).toNat : Int) = x := by
  rw [UInt8.toNat_ofNat', Nat.mod_eq_of_lt (by omega)]; omega
theorem bytes_u (s : ByteArray) : ∃ b0 b1 b2 b3 : UInt8, digestB 109 s = ⟨#[b0, b1, b2, b3]⟩ ∧ digs s = dg (b0.toNat : Int) (b1.toNat : Int) (b2.toNat : Int) (b3.toNat : Int) := by
  obtain ⟨x0, x1, x2, x3, e, f, h0, h1, h2, h3⟩ := bytes_m s
  refine ⟨UInt8.ofNat x0.toNat, UInt8.ofNat x1.toNat, UInt8.ofNat x2.toNat, UInt8.ofNat x3.toNat, by rw [e]; rfl, ?_⟩
  rw [f, toNat_of x0 h0, toNat_of x1 h1, toNat_of x2 h2, toNat_of x3 h3]
theorem bytes_D (s : ByteArray) : ∃ D : ByteArray, ∃ h : D.size = 4, digestB 109 s = D ∧ digs s = dg ((D[0]'(by omega)).toNat : Int) ((D[1]'(by omega)).toNat : Int) ((D[2]'(by omega)).toNat : Int) ((D[3]'(by omega)).toNat : Int) := by
  obtain ⟨b0, b1, b2, b3, e, f⟩ := bytes_u s
  exact ⟨⟨#[b0, b1, b2, b3]⟩, rfl, e, f⟩
/-- The digits as the program's array holds them. -/
def digV (s : ByteArray) : Array Value := ((digs s).map fun d => Value.int .i64 d).toArray

theorem implNib0 (n : Int) (w : World) (h0 : 0 ≤ n) (h1 : n ≤ 1000) : Calls Tryd.prog 105 #[.int .i64 n, .int .i64 0] w fun e w' => ∃ d : Int, e = .returned (.int .i64 d) ∧ w' = w ∧ 0 ≤ d ∧ d ≤ 15 ∧ Hid (d = n % 16) := by
  go_enter Tryd.func105, Tryd.ntmps105
  go_wp2
  go_returns
  exact ⟨_, rfl, rfl, by omega, by omega, rfl⟩
theorem implNib1 (n : Int) (w : World) (h0 : 0 ≤ n) (h1 : n ≤ 1000) : Calls Tryd.prog 105 #[.int .i64 n, .int .i64 1] w fun e w' => ∃ d : Int, e = .returned (.int .i64 d) ∧ w' = w ∧ 0 ≤ d ∧ d ≤ 15 ∧ Hid (d = n / 16 % 16) := by
  go_enter Tryd.func105, Tryd.ntmps105
  go_wp2
  go_returns
  exact ⟨_, rfl, rfl, by omega, by omega, rfl⟩
theorem implNib2 (n : Int) (w : World) (h0 : 0 ≤ n) (h1 : n ≤ 1000) : Calls Tryd.prog 105 #[.int .i64 n, .int .i64 2] w fun e w' => ∃ d : Int, e = .returned (.int .i64 d) ∧ w' = w ∧ 0 ≤ d ∧ d ≤ 15 ∧ Hid (d = n / 256 % 16) := by
  go_enter Tryd.func105, Tryd.ntmps105
  go_wp2
  go_returns
  exact ⟨_, rfl, rfl, by omega, by omega, rfl⟩
theorem hi_of {x d : Int} (hx : 0 ≤ x ∧ x ≤ 255) (h : d = x / 16 % 16) : x / 16 = d := by omega
theorem in_of {x d : Int} (h : d = x / 16 % 16) : 0 ≤ d ∧ d ≤ 15 := by omega
theorem in_of' {x d : Int} (h : d = x % 16) : 0 ≤ d ∧ d ≤ 15 := by omega
theorem c_of {S c : Int} (h0 : 0 ≤ S) (h1 : S ≤ 120) (h : c = S / 256 % 16) : S / 256 = c := by omega
theorem digV_eq {s : ByteArray} {x0 x1 x2 x3 d0 d1 d2 d3 d4 d5 d6 d7 c0 c1 c2 : Int} (hg : digs s = dg x0 x1 x2 x3) (h0 : 0 ≤ x0 ∧ x0 ≤ 255) (h1 : 0 ≤ x1 ∧ x1 ≤ 255) (h2 : 0 ≤ x2 ∧ x2 ≤ 255) (h3 : 0 ≤ x3 ∧ x3 ≤ 255)
    (e0 : d0 = x0 / 16 % 16) (e1 : d1 = x0 % 16) (e2 : d2 = x1 / 16 % 16) (e3 : d3 = x1 % 16) (e4 : d4 = x2 / 16 % 16) (e5 : d5 = x2 % 16) (e6 : d6 = x3 / 16 % 16) (e7 : d7 = x3 % 16)
    (f0 : c0 = (15 - d0 + (15 - d1) + (15 - d2) + (15 - d3) + (15 - d4) + (15 - d5) + (15 - d6) + (15 - d7)) / 256 % 16)
    (f1 : c1 = (15 - d0 + (15 - d1) + (15 - d2) + (15 - d3) + (15 - d4) + (15 - d5) + (15 - d6) + (15 - d7)) / 16 % 16)
    (f2 : c2 = (15 - d0 + (15 - d1) + (15 - d2) + (15 - d3) + (15 - d4) + (15 - d5) + (15 - d6) + (15 - d7)) % 16) :
    digV s = #[.int .i64 d0, .int .i64 d1, .int .i64 d2, .int .i64 d3, .int .i64 d4, .int .i64 d5, .int .i64 d6, .int .i64 d7, .int .i64 c0, .int .i64 c1, .int .i64 c2] := by
  have g0 := hi_of h0 e0; have g2 := hi_of h1 e2; have g4 := hi_of h2 e4; have g6 := hi_of h3 e6
  have b0 := in_of e0; have b1 := in_of' e1; have b2 := in_of e2; have b3 := in_of' e3; have b4 := in_of e4; have b5 := in_of' e5; have b6 := in_of e6; have b7 := in_of' e7
  unfold digV
  rw [hg]
  unfold dg chk
  rw [g0, g2, g4, g6, ← e1, ← e3, ← e5, ← e7]
  clear hg h0 h1 h2 h3 e0 e1 e2 e3 e4 e5 e6 e7 g0 g2 g4 g6
  have hS : 120 - (d0 + d1 + (d2 + d3) + (d4 + d5) + (d6 + d7)) = 15 - d0 + (15 - d1) + (15 - d2) + (15 - d3) + (15 - d4) + (15 - d5) + (15 - d6) + (15 - d7) := by clear f0 f1 f2; omega
  have hS0 : 0 ≤ 15 - d0 + (15 - d1) + (15 - d2) + (15 - d3) + (15 - d4) + (15 - d5) + (15 - d6) + (15 - d7) := by clear f0 f1 f2; omega
  have hS1 : 15 - d0 + (15 - d1) + (15 - d2) + (15 - d3) + (15 - d4) + (15 - d5) + (15 - d6) + (15 - d7) ≤ 120 := by clear f0 f1 f2; omega
  rw [hS]
  rw [c_of hS0 hS1 f0, ← f1, ← f2]
  rfl

theorem res_cell {P : Program} {fn : Func} {p u : Tmp} {ty : TypeId} (h : fn.results = #[.cell p ty, .tmp u]) (tmps : Array Value) (w : World) (g : Nat) (cs : Array Value) (b : Value)
    (hp : tmps.getD p undef = .pointer (some ⟨g, 0, none⟩)) (hu : tmps.getD u undef = b) (hl : (loadVar ty ⟨g, 0, none⟩).run P w = .ok (.agg cs) w) : (results fn tmps).run P w = .ok (.tuple #[.agg cs, b]) w := by
  rw [results_cell_tmp h, hp, hu]
  simp [asAddr, Result.andThen, hl]
theorem brow {B : Nat} {w w' : World} (h : Below B w w') (g : Nat) (hg : B ≤ g) (cs : Array Value) : Below B w (w'.setRow g cs) :=
  ⟨h.os, h.tape, h.output, by simpa using h.size, fun k hk => (setRow_other w' g k cs (by omega)).trans (h.block k hk)⟩
set_option maxHeartbeats 6400000 in
set_option maxRecDepth 100000 in
theorem implTextYes (s : ByteArray) (w : World) (hs : s.size ≤ 200) (ht : Table w) :
    Calls Tryd.prog 66 #[.string s] w fun e w' => e = .returned (.tuple #[.agg (digV s), .bool true]) ∧ Below w.heap.size w w' := by
  obtain ⟨D, hDs, hd, hdg⟩ := bytes_D s
  have t1 := Table.below ht ((Below.refl _ w).alloc (Nat.le_refl _) (.cells #[.int .i64 0, .int .i64 0, .int .i64 0, .int .i64 0, .int .i64 0, .int .i64 0, .int .i64 0, .int .i64 0, .int .i64 0, .int .i64 0, .int .i64 0] 90))
  have HD : Hid (digestB 109 s = D) := hd
  have hDi : (D.size : Int) = 4 := by omega
  have i0 : 0 < D.size := by omega
  have i1 : 1 < D.size := by omega
  have i2 : 2 < D.size := by omega
  have i3 : 3 < D.size := by omega
  have HG : Hid (digs s = dg (D[0].toNat : Int) (D[1].toNat : Int) (D[2].toNat : Int) (D[3].toNat : Int)) := hdg
  clear hd hdg
  obtain ⟨p0, q0⟩ := byte_lt D[0]
  obtain ⟨p1, q1⟩ := byte_lt D[1]
  obtain ⟨p2, q2⟩ := byte_lt D[2]
  obtain ⟨p3, q3⟩ := byte_lt D[3]
  go_enter Tryd.func66, Tryd.ntmps66
  go_wp2_with fail
  refine (implDigestYes 109 s _ (by omega) (by omega) (by omega) t1).mono ?_
  rintro e w1 ⟨rfl, hb1⟩
  have HG0 : Hid (w1.heap[w.heap.size]? = some (.cells #[.int .i64 0, .int .i64 0, .int .i64 0, .int .i64 0, .int .i64 0, .int .i64 0, .int .i64 0, .int .i64 0, .int .i64 0, .int .i64 0, .int .i64 0] 90 (0, 0))) := (hb1.block w.heap.size (by simp)).trans (heap_alloc_new w _)
  have hz1 : w.heap.size < w1.heap.size := by have := hb1.size; simp at this; omega
  have k1 : Below w.heap.size w w1 := ((Below.refl _ w).alloc (Nat.le_refl _) _).trans (hb1.mono (by simp))
  clear hb1
  rw [HD.out]
  go_wp2
  refine wp_loop_rounds 9 ?_
  rw [rounds_succ]
  go_wp2_with fail
  refine (implNib1 (D[0].toNat : Int) _ (by omega) (by omega)).mono ?_
  rintro e W0 ⟨d0, rfl, rfl, l0, u0, H0⟩
  go_wp2_with fail
  rw [rounds_succ]
  go_wp2_with fail
  refine (implNib0 (D[0].toNat : Int) _ (by omega) (by omega)).mono ?_
  rintro e W1 ⟨d1, rfl, rfl, l1, u1, H1⟩
  go_wp2_with fail
  rw [rounds_succ]
  go_wp2_with fail
  refine (implNib1 (D[1].toNat : Int) _ (by omega) (by omega)).mono ?_
  rintro e W2 ⟨d2, rfl, rfl, l2, u2, H2⟩
  go_wp2_with fail
  rw [rounds_succ]
  go_wp2_with fail
  refine (implNib0 (D[1].toNat : Int) _ (by omega) (by omega)).mono ?_
  rintro e W3 ⟨d3, rfl, rfl, l3, u3, H3⟩
  go_wp2_with fail
  rw [rounds_succ]
  go_wp2_with fail
  refine (implNib1 (D[2].toNat : Int) _ (by omega) (by omega)).mono ?_
  rintro e W4 ⟨d4, rfl, rfl, l4, u4, H4⟩
  go_wp2_with fail
  rw [rounds_succ]
  go_wp2_with fail
  refine (implNib0 (D[2].toNat : Int) _ (by omega) (by omega)).mono ?_
  rintro e W5 ⟨d5, rfl, rfl, l5, u5, H5⟩
  go_wp2_with fail
  rw [rounds_succ]
  go_wp2_with fail
  refine (implNib1 (D[3].toNat : Int) _ (by omega) (by omega)).mono ?_
  rintro e W6 ⟨d6, rfl, rfl, l6, u6, H6⟩
  go_wp2_with fail
  rw [rounds_succ]
  go_wp2_with fail
  refine (implNib0 (D[3].toNat : Int) _ (by omega) (by omega)).mono ?_
  rintro e W7 ⟨d7, rfl, rfl, l7, u7, H7⟩
  go_wp2_with fail
  rw [rounds_succ]
  go_wp2_with fail
  refine wp_loop_rounds 4 ?_
  rw [rounds_succ]
  go_wp2_with fail
  refine (implNib2 _ _ (by omega) (by omega)).mono ?_
  rintro e V0 ⟨c0, rfl, rfl, lc0, uc0, C0⟩
  go_wp2_with fail
  rw [rounds_succ]
  go_wp2_with fail
  refine (implNib1 _ _ (by omega) (by omega)).mono ?_
  rintro e V1 ⟨c1, rfl, rfl, lc1, uc1, C1⟩
  go_wp2_with fail
  rw [rounds_succ]
  go_wp2_with fail
  refine (implNib0 _ _ (by omega) (by omega)).mono ?_
  rintro e V2 ⟨c2, rfl, rfl, lc2, uc2, C2⟩
  go_wp2_with fail
  have hn1 : w1.heap.size ≠ w.heap.size := by omega
  have hn2 : w.heap.size ≠ w1.heap.size := by omega
  have HV : Hid (digV s = #[.int .i64 d0, .int .i64 d1, .int .i64 d2, .int .i64 d3, .int .i64 d4, .int .i64 d5, .int .i64 d6, .int .i64 d7, .int .i64 c0, .int .i64 c1, .int .i64 c2]) := digV_eq HG.out ⟨p0, q0⟩ ⟨p1, q1⟩ ⟨p2, q2⟩ ⟨p3, q3⟩ H0.out H1.out H2.out H3.out H4.out H5.out H6.out H7.out C0.out C1.out C2.out
  clear p0 p1 p2 p3 q0 q1 q2 q3 l0 l1 l2 l3 l4 l5 l6 l7 u0 u1 u2 u3 u4 u5 u6 u7 lc0 lc1 lc2 uc0 uc1 uc2 hDi H0 H1 H2 H3 H4 H5 H6 H7 C0 C1 C2
  rw [rounds_succ]
  go_upto_region 19 with fail
  refine wp_region_lit (l := [_, _, _]) ?_
  refine wpList_load_row rfl 90 _ rfl w1.heap.size rfl 90 #[.int .i64 d0, .int .i64 d1, .int .i64 d2, .int .i64 d3, .int .i64 d4, .int .i64 d5, .int .i64 d6, .int .i64 d7, .int .i64 c0, .int .i64 c1, .int .i64 c2] (0, 0) _ (heap_alloc_new w1 _) Tryd.underlying90 rfl (by kernel_rfl) ?_
  refine wpList_store_row rfl 90 _ _ rfl w.heap.size #[.int .i64 d0, .int .i64 d1, .int .i64 d2, .int .i64 d3, .int .i64 d4, .int .i64 d5, .int .i64 d6, .int .i64 d7, .int .i64 c0, .int .i64 c1, .int .i64 c2] rfl rfl 90 #[.int .i64 0, .int .i64 0, .int .i64 0, .int .i64 0, .int .i64 0, .int .i64 0, .int .i64 0, .int .i64 0, .int .i64 0, .int .i64 0, .int .i64 0] ((heap_alloc_old w1 _ hz1).trans HG0.out) (by kernel_rfl) rfl (by simp [Value.oneCell']) ?_
  have hW := setRow_heap (w1.alloc (.cells #[.int .i64 d0, .int .i64 d1, .int .i64 d2, .int .i64 d3, .int .i64 d4, .int .i64 d5, .int .i64 d6, .int .i64 d7, .int .i64 c0, .int .i64 c1, .int .i64 c2] 90)) w.heap.size _ #[.int .i64 d0, .int .i64 d1, .int .i64 d2, .int .i64 d3, .int .i64 d4, .int .i64 d5, .int .i64 d6, .int .i64 d7, .int .i64 c0, .int .i64 c1, .int .i64 c2] 90 (0, 0) ((heap_alloc_old w1 _ hz1).trans HG0.out)
  have kW : Below w.heap.size w ((w1.alloc (.cells #[.int .i64 d0, .int .i64 d1, .int .i64 d2, .int .i64 d3, .int .i64 d4, .int .i64 d5, .int .i64 d6, .int .i64 d7, .int .i64 c0, .int .i64 c1, .int .i64 c2] 90)).setRow w.heap.size #[.int .i64 d0, .int .i64 d1, .int .i64 d2, .int .i64 d3, .int .i64 d4, .int .i64 d5, .int .i64 d6, .int .i64 d7, .int .i64 c0, .int .i64 c1, .int .i64 c2]) := brow (k1.alloc k1.size _) _ (Nat.le_refl _) _
  generalize (w1.alloc (.cells #[.int .i64 d0, .int .i64 d1, .int .i64 d2, .int .i64 d3, .int .i64 d4, .int .i64 d5, .int .i64 d6, .int .i64 d7, .int .i64 c0, .int .i64 c1, .int .i64 c2] 90)).setRow w.heap.size #[.int .i64 d0, .int .i64 d1, .int .i64 d2, .int .i64 d3, .int .i64 d4, .int .i64 d5, .int .i64 d6, .int .i64 d7, .int .i64 c0, .int .i64 c1, .int .i64 c2] = W at *
  have HW : Hid (W.heap[w.heap.size]? = _) := hW
  have HK : Hid (Below w.heap.size w W) := kW
  clear hW kW
  go_wp2
  exact bodyPost_ret (v := .tuple #[.agg #[.int .i64 d0, .int .i64 d1, .int .i64 d2, .int .i64 d3, .int .i64 d4, .int .i64 d5, .int .i64 d6, .int .i64 d7, .int .i64 c0, .int .i64 c1, .int .i64 c2], .bool true]) (res_cell Tryd.results66 _ W w.heap.size _ _ rfl rfl (run_loadVar_row W w.heap.size 90 90 _ (0, 0) _ HW.out Tryd.underlying90 rfl (by kernel_rfl))) rfl ⟨by rw [HV.out], HK.out⟩
end Go.Proofs.YtemkkofjakpjiaaDoor
