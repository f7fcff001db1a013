/- The contract of the model's digits of a text. No condition but that the text is no longer than it may be. -/
import Derived.Test.YtemkkofjakpjiaaDoorDigits2
import Derived.Deep.RegionHeld3
import Derived.Deep.DeepCutAuto
import Derived.Deep.DrawnRows
import Derived.Deep.AppendLies
namespace Go.Proofs.YtemkkofjakpjiaaDoor
open Go.ChangeShapes Go.WideShapes Go.ChangeAt Go.RowKit Go.Deep
set_option linter.unusedVariables false
attribute [local go_sem ↓] Go.wp_at_zero Go.wp_at_succ

theorem u8_and15 (x : Int) (h0 : 0 ≤ x) (h1 : x < 256) : bits .and .u8 x 15 = x % 16 := bits_mask .u8 8 (by decide) wraps_u8 4 (by decide) x h0 h1
theorem i64_and15 (n : Int) : bits .and .i64 n 15 = n % 16 := by
  have h15 : (BitVec.ofInt 64 15).toNat = 2 ^ 4 - 1 := by decide
  have key : (BitVec.ofInt 64 n &&& BitVec.ofInt 64 15).toNat = (n % ((2 ^ 64 : Nat) : Int)).toNat % 2 ^ 4 := by
    rw [BitVec.toNat_and, BitVec.toNat_ofInt, h15, Nat.and_two_pow_sub_one_eq_mod]
  show IntKind.i64.wrap ((BitVec.ofInt 64 n &&& BitVec.ofInt 64 15).toNat : Nat) = n % 16
  rw [key, IntKind.wrap_i64]
  omega
theorem info64 : (Tryd.prog.info? 3).map (fun i => (i.zero, i.size, i.bytes)) = some (some (.int .i64 0), 1, 8) := by kernel_rfl
/-- The two digits of each byte. -/
def halves (l : List UInt8) : List Value := l.flatMap fun b => [.int .i64 ((b.toNat : Int) / 16), .int .i64 ((b.toNat : Int) % 16)]
theorem halves_snoc (l : List UInt8) (b : UInt8) : halves (l ++ [b]) = halves l ++ [.int .i64 ((b.toNat : Int) / 16), .int .i64 ((b.toNat : Int) % 16)] := by simp [halves]
theorem list4 (D : ByteArray) (h : D.size = 4) : D.data.toList = [D[0], D[1], D[2], D[3]] := by
  apply List.ext_getElem
  · simpa using h
  · intro i h1 h2
    have h3 : i < 4 := by simpa using h2
    match i, h3 with
    | 0, _ => rfl
    | 1, _ => rfl
    | 2, _ => rfl
    | 3, _ => rfl
theorem digs_eq {s : ByteArray} {x0 x1 x2 x3 d0 d1 d2 d3 d4 d5 d6 d7 S : Int} (hg : digs s = dg x0 x1 x2 x3)
    (e0 : x0 / 16 = d0) (e1 : x0 % 16 = d1) (e2 : x1 / 16 = d2) (e3 : x1 % 16 = d3) (e4 : x2 / 16 = d4) (e5 : x2 % 16 = d5) (e6 : x3 / 16 = d6) (e7 : x3 % 16 = d7)
    (f : S = 15 - d0 + (15 - d1) + (15 - d2) + (15 - d3) + (15 - d4) + (15 - d5) + (15 - d6) + (15 - d7)) (h0 : 0 ≤ S) (h1 : S ≤ 120) :
    digs s = [d0, d1, d2, d3, d4, d5, d6, d7, S / 256 % 16, S / 16 % 16, S % 16] := by
  rw [hg]
  unfold dg chk
  rw [e0, e1, e2, e3, e4, e5, e6, e7]
  have hS : 120 - (d0 + d1 + (d2 + d3) + (d4 + d5) + (d6 + d7)) = S := by rw [f]; omega
  rw [hS]
  have hc : S / 256 % 16 = S / 256 := by omega
  rw [hc]

set_option maxHeartbeats 6400000 in
set_option maxRecDepth 100000 in
theorem specL2Digits (s : ByteArray) (w : World) (hs : s.size ≤ 200) :
    Calls Tryd.prog 107 #[.string s] w fun e w' => ∃ g cap, e = .returned (.slice (some ⟨g, 0, none⟩) 11 cap) ∧ OwnRow w.heap.size w' g 11 (fun i => .int .i64 ((digs s).getD i 0)) ∧ Below w.heap.size w w' := by
  obtain ⟨i0, hi, hzz⟩ := Option.map_eq_some_iff.1 info64
  simp only [Prod.mk.injEq] at hzz
  obtain ⟨hz0, hz1, hz2⟩ := hzz
  obtain ⟨D, hDs, hd, hdg⟩ := bytes_D s
  have HD : Hid (digestB 109 s = D) := hd
  have hDi : (D.size : Int) = 4 := by omega
  have j0 : 0 < D.size := by omega
  have j1 : 1 < D.size := by omega
  have j2 : 2 < D.size := by omega
  have j3 : 3 < D.size := by omega
  have HG : Hid (digs s = dg (D[0].toNat : Int) (D[1].toNat : Int) (D[2].toNat : Int) (D[3].toNat : Int)) := hdg
  clear hd hdg
  obtain ⟨p0, q0⟩ := byte_lt D[0]
  have a0 := u8_and15 (D[0].toNat : Int) p0 (by omega)
  have fr0 : 0 ≤ (D[0].toNat : Int) / 16 := by omega
  have fs0 : (D[0].toNat : Int) / 16 ≤ 15 := by omega
  have ft0 : 0 ≤ (D[0].toNat : Int) % 16 := by omega
  have fu0 : (D[0].toNat : Int) % 16 ≤ 15 := by omega
  have y0 : IntKind.i64.wrap ((D[0].toNat : Int) / 16) = (D[0].toNat : Int) / 16 := by rw [IntKind.wrap_i64]; omega
  have z0 : IntKind.i64.wrap ((D[0].toNat : Int) % 16) = (D[0].toNat : Int) % 16 := by rw [IntKind.wrap_i64]; omega
  obtain ⟨p1, q1⟩ := byte_lt D[1]
  have a1 := u8_and15 (D[1].toNat : Int) p1 (by omega)
  have fr1 : 0 ≤ (D[1].toNat : Int) / 16 := by omega
  have fs1 : (D[1].toNat : Int) / 16 ≤ 15 := by omega
  have ft1 : 0 ≤ (D[1].toNat : Int) % 16 := by omega
  have fu1 : (D[1].toNat : Int) % 16 ≤ 15 := by omega
  have y1 : IntKind.i64.wrap ((D[1].toNat : Int) / 16) = (D[1].toNat : Int) / 16 := by rw [IntKind.wrap_i64]; omega
  have z1 : IntKind.i64.wrap ((D[1].toNat : Int) % 16) = (D[1].toNat : Int) % 16 := by rw [IntKind.wrap_i64]; omega
  obtain ⟨p2, q2⟩ := byte_lt D[2]
  have a2 := u8_and15 (D[2].toNat : Int) p2 (by omega)
  have fr2 : 0 ≤ (D[2].toNat : Int) / 16 := by omega
  have fs2 : (D[2].toNat : Int) / 16 ≤ 15 := by omega
  have ft2 : 0 ≤ (D[2].toNat : Int) % 16 := by omega
  have fu2 : (D[2].toNat : Int) % 16 ≤ 15 := by omega
  have y2 : IntKind.i64.wrap ((D[2].toNat : Int) / 16) = (D[2].toNat : Int) / 16 := by rw [IntKind.wrap_i64]; omega
  have z2 : IntKind.i64.wrap ((D[2].toNat : Int) % 16) = (D[2].toNat : Int) % 16 := by rw [IntKind.wrap_i64]; omega
  obtain ⟨p3, q3⟩ := byte_lt D[3]
  have a3 := u8_and15 (D[3].toNat : Int) p3 (by omega)
  have fr3 : 0 ≤ (D[3].toNat : Int) / 16 := by omega
  have fs3 : (D[3].toNat : Int) / 16 ≤ 15 := by omega
  have ft3 : 0 ≤ (D[3].toNat : Int) % 16 := by omega
  have fu3 : (D[3].toNat : Int) % 16 ≤ 15 := by omega
  have y3 : IntKind.i64.wrap ((D[3].toNat : Int) / 16) = (D[3].toNat : Int) / 16 := by rw [IntKind.wrap_i64]; omega
  have z3 : IntKind.i64.wrap ((D[3].toNat : Int) % 16) = (D[3].toNat : Int) % 16 := by rw [IntKind.wrap_i64]; omega
  go_enter Tryd.func107, Tryd.ntmps107
  go_wp2_with fail
  refine (specL1Digest 109 s _ (by omega) (by omega) (by omega)).mono ?_
  rintro e w0 ⟨rfl, hb0⟩
  rw [HD.out]
  have hl0 := hb0.size
  go_wp2_with fail
  go_loopw [3, 6] (fun v i wr => ∃ k : Nat, k ≤ 4 ∧ i = .int .i64 k ∧ wr.ownsRow w.heap.size 3 1 v (2 * k) (halves (D.data.toList.take k)) ∧ Below w.heap.size w wr) (fun _ i _ => 4 - (intOf i).toNat)
  case atStart => exact ⟨0, Nat.zero_le _, rfl, World.ownsRow_nil _ _ _ _, hb0⟩
  case round =>
    obtain ⟨k, hk, rfl, hown, kb⟩ := hrel
    have kl := kb.size
    by_cases hlt : k < 4
    · have hlD : k < D.size := by omega
      have hki : (k : Int) < 4 := by omega
      have HS : Hid (halves (D.data.toList.take (k + 1)) = halves (D.data.toList.take k) ++ [.int .i64 ((D[k].toNat : Int) / 16), .int .i64 ((D[k].toNat : Int) % 16)]) := by rw [take_snoc D k hlD]; exact halves_snoc _ _
      generalize halves (D.data.toList.take k) = R at *
      obtain ⟨p, q⟩ := byte_lt D[k]
      have ak := u8_and15 (D[k].toNat : Int) p (by omega)
      have yk : IntKind.i64.wrap ((D[k].toNat : Int) / 16) = (D[k].toNat : Int) / 16 := by rw [IntKind.wrap_i64]; omega
      have zk : IntKind.i64.wrap ((D[k].toNat : Int) % 16) = (D[k].toNat : Int) % 16 := by rw [IntKind.wrap_i64]; omega
      go_upto_region 7 with fail
      go_region_held3 (fun _ => True) (trivial)
        ((refine step_append_lies _ (by rfl) _ _ _ (by rfl) w.heap.size 3 i0 _ 1 8 Tryd.underlying35 hi hz0 hz1 hz2 rfl (by omega) _ (2 * k) R (by rfl) ((hown.alloc _).drew) ⟨wr.heap.size, 0, none⟩ 2 2 [.int .i64 ((D[k].toNat : Int) / 16), .int .i64 ((D[k].toNat : Int) % 16)] (by rfl) (by rfl) (World.news_of_block (cs := #[.int .i64 ((D[k].toNat : Int) / 16), .int .i64 ((D[k].toNat : Int) % 16)]) (t := 3) (fr := (0, 0)) (heap_alloc_new wr _)) (by simp [Value.oneCell']) (by omega) (by unfold maxLen; omega) (by omega) (by simp; omega) (wr.heap.size + 1) (by simp) ?_; intro g1 cap1 w1 hown1 hgrow1 hat1 hlt1))
      all_goals
        have hb1 : Below w.heap.size w w1 := (((kb.alloc kl _).drew).grown hgrow1 (by simp; omega) (fun r hr => (hown.lt r hr).1))
        clear hgrow1
        go_wp2_with fail
        exact ⟨⟨k + 1, by omega, by go_num, by rw [HS.out]; exact hown1, hb1⟩, by simp [intOf]; omega⟩
    · have hke : k = 4 := by omega
      subst hke
      rw [List.take_of_length_le (by simp; omega), list4 D hDs] at hown
      obtain ⟨g, cap, hv, ho⟩ := ownRow_of hown (by omega)
      have hh : halves [D[0], D[1], D[2], D[3]] = [.int .i64 ((D[0].toNat : Int) / 16), .int .i64 ((D[0].toNat : Int) % 16), .int .i64 ((D[1].toNat : Int) / 16), .int .i64 ((D[1].toNat : Int) % 16), .int .i64 ((D[2].toNat : Int) / 16), .int .i64 ((D[2].toNat : Int) % 16), .int .i64 ((D[3].toNat : Int) / 16), .int .i64 ((D[3].toNat : Int) % 16)] := rfl
      rw [hh] at hown ho
      clear hh a0 a1 a2 a3 y0 y1 y2 y3 z0 z1 z2 z3
      obtain ⟨d0, e0⟩ : ∃ d, (D[0].toNat : Int) / 16 = d := ⟨_, rfl⟩
      rw [e0] at hown ho fr0 fs0
      have E0 : Hid ((D[0].toNat : Int) / 16 = d0) := e0
      clear e0
      obtain ⟨d1, e1⟩ : ∃ d, (D[0].toNat : Int) % 16 = d := ⟨_, rfl⟩
      rw [e1] at hown ho ft0 fu0
      have E1 : Hid ((D[0].toNat : Int) % 16 = d1) := e1
      clear e1
      obtain ⟨d2, e2⟩ : ∃ d, (D[1].toNat : Int) / 16 = d := ⟨_, rfl⟩
      rw [e2] at hown ho fr1 fs1
      have E2 : Hid ((D[1].toNat : Int) / 16 = d2) := e2
      clear e2
      obtain ⟨d3, e3⟩ : ∃ d, (D[1].toNat : Int) % 16 = d := ⟨_, rfl⟩
      rw [e3] at hown ho ft1 fu1
      have E3 : Hid ((D[1].toNat : Int) % 16 = d3) := e3
      clear e3
      obtain ⟨d4, e4⟩ : ∃ d, (D[2].toNat : Int) / 16 = d := ⟨_, rfl⟩
      rw [e4] at hown ho fr2 fs2
      have E4 : Hid ((D[2].toNat : Int) / 16 = d4) := e4
      clear e4
      obtain ⟨d5, e5⟩ : ∃ d, (D[2].toNat : Int) % 16 = d := ⟨_, rfl⟩
      rw [e5] at hown ho ft2 fu2
      have E5 : Hid ((D[2].toNat : Int) % 16 = d5) := e5
      clear e5
      obtain ⟨d6, e6⟩ : ∃ d, (D[3].toNat : Int) / 16 = d := ⟨_, rfl⟩
      rw [e6] at hown ho fr3 fs3
      have E6 : Hid ((D[3].toNat : Int) / 16 = d6) := e6
      clear e6
      obtain ⟨d7, e7⟩ : ∃ d, (D[3].toNat : Int) % 16 = d := ⟨_, rfl⟩
      rw [e7] at hown ho ft3 fu3
      have E7 : Hid ((D[3].toNat : Int) % 16 = d7) := e7
      clear e7
      clear p0 p1 p2 p3 q0 q1 q2 q3
      subst hv
      have c0 : wr.cell? ⟨g, 0, none⟩ = some (.int .i64 d0) := ho.2.2.1 0 (by omega)
      have c1 : wr.cell? ⟨g, 1, none⟩ = some (.int .i64 d1) := ho.2.2.1 1 (by omega)
      have c2 : wr.cell? ⟨g, 2, none⟩ = some (.int .i64 d2) := ho.2.2.1 2 (by omega)
      have c3 : wr.cell? ⟨g, 3, none⟩ = some (.int .i64 d3) := ho.2.2.1 3 (by omega)
      have c4 : wr.cell? ⟨g, 4, none⟩ = some (.int .i64 d4) := ho.2.2.1 4 (by omega)
      have c5 : wr.cell? ⟨g, 5, none⟩ = some (.int .i64 d5) := ho.2.2.1 5 (by omega)
      have c6 : wr.cell? ⟨g, 6, none⟩ = some (.int .i64 d6) := ho.2.2.1 6 (by omega)
      have c7 : wr.cell? ⟨g, 7, none⟩ = some (.int .i64 d7) := ho.2.2.1 7 (by omega)
      have HO : Hid (wr.ownsRow w.heap.size 3 1 (.slice (some ⟨g, 0, none⟩) 8 cap) 8 [.int .i64 d0, .int .i64 d1, .int .i64 d2, .int .i64 d3, .int .i64 d4, .int .i64 d5, .int .i64 d6, .int .i64 d7]) := hown
      clear hown ho
      go_wp2_with fail
      refine wp_loop_rounds 9 ?_
      rw [rounds_succ]
      go_wp2_with fail
      rw [rounds_succ]
      go_wp2_with fail
      rw [rounds_succ]
      go_wp2_with fail
      rw [rounds_succ]
      go_wp2_with fail
      rw [rounds_succ]
      go_wp2_with fail
      rw [rounds_succ]
      go_wp2_with fail
      rw [rounds_succ]
      go_wp2_with fail
      rw [rounds_succ]
      go_wp2_with fail
      rw [rounds_succ]
      go_upto_region 13 with fail
      have HS0 : 0 ≤ 15 - d0 + (15 - d1) + (15 - d2) + (15 - d3) + (15 - d4) + (15 - d5) + (15 - d6) + (15 - d7) := by omega
      have HS1 : 15 - d0 + (15 - d1) + (15 - d2) + (15 - d3) + (15 - d4) + (15 - d5) + (15 - d6) + (15 - d7) ≤ 120 := by omega
      obtain ⟨S, HS⟩ : ∃ S, 15 - d0 + (15 - d1) + (15 - d2) + (15 - d3) + (15 - d4) + (15 - d5) + (15 - d6) + (15 - d7) = S := ⟨_, rfl⟩
      rw [HS] at HS0 HS1
      have HE : Hid (digs s = [d0, d1, d2, d3, d4, d5, d6, d7, S / 256 % 16, S / 16 % 16, S % 16]) := digs_eq HG.out E0.out E1.out E2.out E3.out E4.out E5.out E6.out E7.out HS.symm HS0 HS1
      simp only [HS]
      clear HS fr0 fr1 fr2 fr3 fs0 fs1 fs2 fs3 ft0 ft1 ft2 ft3 fu0 fu1 fu2 fu3 c0 c1 c2 c3 c4 c5 c6 c7
      have m0 := i64_and15 (S / 256)
      have m1 := i64_and15 (S / 16)
      have m2 := i64_and15 S
      go_wp2_with (first
        | (at_builtin; refine wpList_append_lies _ rfl _ _ _ rfl w.heap.size 3 i0 _ 1 8 Tryd.underlying35 hi hz0 hz1 hz2 rfl (by omega) _ 8 _ rfl (HO.out.alloc _) ⟨wr.heap.size, 0, none⟩ 3 3 [.int .i64 (S / 256 % 16), .int .i64 (S / 16 % 16), .int .i64 (S % 16)] rfl rfl (World.news_of_block (cs := #[.int .i64 (S / 256 % 16), .int .i64 (S / 16 % 16), .int .i64 (S % 16)]) (t := 3) (fr := (0, 0)) (heap_alloc_new wr _)) (by simp [Value.oneCell']) (by omega) (by unfold maxLen; omega) (by omega) (by simp; omega) (wr.heap.size + 1) (by simp) ?_)
        | fail)
      intro g1 cap1 w1 hown1 hgrow1 hat1 hlt1
      have hb1 : Below w.heap.size w w1 := ((kb.alloc kl _).grown hgrow1 (by simp; omega) (fun r hr => (HO.out.lt r hr).1))
      clear hgrow1
      obtain ⟨g2, cap2, hv2, ho2⟩ := ownRow_of hown1 (by omega)
      simp only [Value.slice.injEq, Option.some.injEq, Addr.mk.injEq, and_true, true_and] at hv2
      obtain ⟨rfl, rfl⟩ := hv2
      have HO2 : Hid (OwnRow w.heap.size w1 g1 (8 + 3) _) := ho2
      clear ho2 hown1
      go_wp2_with fail
      go_ret
      refine ⟨g1, cap1, rfl, HO2.out.congr (fun i hi => ?_), hb1⟩
      rw [HE.out]
      match i, hi with
      | 0, _ => rfl
      | 1, _ => rfl
      | 2, _ => rfl
      | 3, _ => rfl
      | 4, _ => rfl
      | 5, _ => rfl
      | 6, _ => rfl
      | 7, _ => rfl
      | 8, _ => rfl
      | 9, _ => rfl
      | 10, _ => rfl
end Go.Proofs.YtemkkofjakpjiaaDoor
