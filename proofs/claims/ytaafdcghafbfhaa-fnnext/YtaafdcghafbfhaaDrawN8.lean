/- Contracts of the model's draws of chapter 8, for what is found in lists. Condition: the bytes that are drawn from lie in memory. -/
import Derived.Test.YtaafdcghafbfhaaDrawQ8
import Derived.Test.YtaafdcghafbfhaaSwap
namespace Go.Proofs.Ytaafdcghafbfhaa
open Go.ChangeShapes Go.WideShapes Go.ChangeAt Go.RowKit Go.Deep
set_option linter.unusedVariables false
attribute [local go_sem ↓] Go.wp_at_zero Go.wp_at_succ

set_option maxHeartbeats 3200000 in
theorem drawNext (v : Value) (n : Nat) (w : World) (h : CodeAt w v n) :
    Calls Try.prog 27 #[v] w fun e w' => ∃ (lv hv : Value) (p : Pk) (k : Int), e = .returned (.tuple #[.agg #[.int .i64 p.many, .int .i64 p.low, lv, hv], .int .i64 k]) ∧ PkB w.heap.size w' lv hv p ∧ Below w.heap.size w w' := by
  obtain ⟨ad, c, rfl⟩ : ∃ ad c, v = .slice ad n c := by
    obtain ⟨ad, c, e, _⟩ := h
    exact ⟨ad, c, e⟩
  obtain ⟨W0, hW0⟩ : ∃ W0, W0 = (w.alloc (.cells #[.int .i64 0, .int .i64 0, .slice none 0 0, .slice none 0 0] 27)).alloc (.cells #[.slice ad n c, .int .i64 0, .int .u64 0] 65) := ⟨_, rfl⟩
  have k0 : Below w.heap.size w W0 := by rw [hW0]; exact ((Below.refl _ _).alloc (Nat.le_refl _) _).alloc (by simp) _
  have bR : BoxAt W0 w.heap.size [.int .i64 0, .int .i64 0, .slice none 0 0, .slice none 0 0] := by rw [hW0]; exact (boxNew w _ _).below (al_ _ _)
  have hcur : CurAt W0 (w.heap.size + 1) (.slice ad n c) 0 := by
    rw [hW0]
    have := cur_new (w.alloc (.cells #[.int .i64 0, .int .i64 0, .slice none 0 0, .slice none 0 0] 27)) (.slice ad n c) 65
    rwa [World.size_alloc] at this
  have hby := h.bytes k0 (g := w.heap.size + 1) (by omega)
  have HK := packedIn (w.heap.size + 1) (.slice ad n c) n 0 W0 hcur hby (by omega)
  have hs0 : w.heap.size + 2 ≤ W0.heap.size := by rw [hW0]; simp
  have HBR := hidD bR
  have HK0 := hidD k0
  have HW0 := hidD hW0
  clear h k0 bR hcur hby hW0
  go_enter Try.func27, Try.ntmps27
  go_upto_region 2 with fail
  rw [← HW0.out]
  clear HW0
  go_wp2_with fail
  refine HK.mono ?_
  rintro e w1 ⟨lv, hv, p, rfl, hpk, hd⟩
  obtain ⟨la, lc, hle⟩ := hpk.1.1.slice
  subst hle
  obtain ⟨ha, hc, hhe⟩ := hpk.1.2.slice
  subst hhe
  have HBR1 := hidD ((boxR HBR.out (drawn_off hd) (by simp)).below (al_ w1 (.cells #[.int .i64 (-1), .int .i64 0, .int .i64 3, .int .i64 10, .int .i64 50, .int .i64 200, .int .i64 10000, .int .i64 10001] 3)))
  have HPK1 := hidD (hpk.below (al_ w1 (.cells #[.int .i64 (-1), .int .i64 0, .int .i64 3, .int .i64 10, .int .i64 50, .int .i64 200, .int .i64 10000, .int .i64 10001] 3)))
  have HD1 := hidD (hd.below (al_ w1 (.cells #[.int .i64 (-1), .int .i64 0, .int .i64 3, .int .i64 10, .int .i64 50, .int .i64 200, .int .i64 10000, .int .i64 10001] 3)))
  have hs1 : w.heap.size + 2 ≤ w1.heap.size := Nat.le_trans hs0 hd.2.2.size
  clear HK hd hpk HBR
  go_wp2_with fail
  refine (amongIn (w.heap.size + 1) (.slice ad n c) n (0 + 210) [-1, 0, 3, 10, 50, 200, 10000, 10001] w1.heap.size 8 _ HD1.out.1 HD1.out.2.1 (by omega) (by simp) (by simp) (by omega) (by intro i hi; match i, hi with | 0, _ => simp [World.cell?_alloc_new] | 1, _ => simp [World.cell?_alloc_new] | 2, _ => simp [World.cell?_alloc_new] | 3, _ => simp [World.cell?_alloc_new] | 4, _ => simp [World.cell?_alloc_new] | 5, _ => simp [World.cell?_alloc_new] | 6, _ => simp [World.cell?_alloc_new] | 7, _ => simp [World.cell?_alloc_new])).mono ?_
  rintro e w2 ⟨k, rfl, _, hd2⟩
  have HPK := hidD (HPK1.out.off (drawn_off hd2) (fun j hj => by simp at hj; omega))
  replace HBR1 := hidD (boxR HBR1.out (drawn_off hd2) (by simp))
  have HK1 : Hid (Below w.heap.size w w2) := HK0.out.trans (gb_below (HD1.out.trans hd2).2.2 (by omega) (by omega))
  clear hd2 HD1 HPK1 HK0
  have r0 := HBR1.out.2.1 0 _ rfl
  have r1 := HBR1.out.2.1 1 _ rfl
  have r2 := HBR1.out.2.1 2 _ rfl
  have r3 := HBR1.out.2.1 3 _ rfl
  have s0 := HBR1.out.2.2 0 (by simp)
  have s1 := HBR1.out.2.2 1 (by simp)
  have s2 := HBR1.out.2.2 2 (by simp)
  have s3 := HBR1.out.2.2 3 (by simp)
  have hrl := HBR1.out.1
  go_wp2_with fail
  have c4 := boxSet4 (a' := .int .i64 p.many) (b' := .int .i64 p.low) (c' := .slice la p.lows.length lc) (d' := .slice ha p.high.length hc) HBR1.out
  have y0 := c4.2.1 0 _ rfl
  have y1 := c4.2.1 1 _ rfl
  have y2 := c4.2.1 2 _ rfl
  have y3 := c4.2.1 3 _ rfl
  clear r0 r1 r2 r3 s0 s1 s2 s3 c4
  (try simp only [Exit.inBlock, Exit.then])
  refine bodyPost_ret (v := .tuple #[.agg #[.int .i64 p.many, .int .i64 p.low, .slice la p.lows.length lc, .slice ha p.high.length hc], .int .i64 k]) ?r rfl ?_
  case r => simp [y0, y1, y2, y3, results, Try.results27, go_sem]; try rfl
  exact ⟨_, _, p, k, rfl, pkb4 HPK.out (by omega) (by omega), bel4 HK1.out (Nat.le_refl _)⟩
theorem set4_other {W : World} {b rb : Nat} {vs : List Value} {a c d e : Value} (h : BoxAt W b vs) (hne : b ≠ rb) : BoxAt ((((W.setCell ⟨rb, 0, none⟩ a).setCell ⟨rb, 1, none⟩ c).setCell ⟨rb, 2, none⟩ d).setCell ⟨rb, 3, none⟩ e) b vs := (((h.setOther hne).setOther hne).setOther hne).setOther hne
set_option maxHeartbeats 6400000 in
theorem drawMeetP (v : Value) (n : Nat) (w : World) (h : CodeAt w v n) :
    Calls Try.prog 31 #[v] w fun e w' => ∃ (lv hv : Value) (p : Pk) (lu hu : Value) (q : Pk), e = .returned (.tuple #[.agg #[.int .i64 p.many, .int .i64 p.low, lv, hv], .agg #[.int .i64 q.many, .int .i64 q.low, lu, hu]]) ∧ (PkB w.heap.size w' lv hv p ∧ PkB w.heap.size w' lu hu q) ∧ Below w.heap.size w w' := by
  obtain ⟨ad, c, rfl⟩ : ∃ ad c, v = .slice ad n c := by
    obtain ⟨ad, c, e, _⟩ := h
    exact ⟨ad, c, e⟩
  obtain ⟨W0, hW0⟩ : ∃ W0, W0 = ((w.alloc (.cells #[.int .i64 0, .int .i64 0, .slice none 0 0, .slice none 0 0] 27)).alloc (.cells #[.int .i64 0, .int .i64 0, .slice none 0 0, .slice none 0 0] 27)).alloc (.cells #[.slice ad n c, .int .i64 0, .int .u64 0] 65) := ⟨_, rfl⟩
  have k0 : Below w.heap.size w W0 := by rw [hW0]; exact (((Below.refl _ _).alloc (Nat.le_refl _) _).alloc (by simp) _).alloc (by simp; omega) _
  have bR : BoxAt W0 w.heap.size [.int .i64 0, .int .i64 0, .slice none 0 0, .slice none 0 0] ∧ BoxAt W0 (w.heap.size + 1) [.int .i64 0, .int .i64 0, .slice none 0 0, .slice none 0 0] := by
    rw [hW0]; exact boxOf2 (al_ _ _)
  have hcur : CurAt W0 (w.heap.size + 1 + 1) (.slice ad n c) 0 := by
    rw [hW0]
    have := cur_new ((w.alloc (.cells #[.int .i64 0, .int .i64 0, .slice none 0 0, .slice none 0 0] 27)).alloc (.cells #[.int .i64 0, .int .i64 0, .slice none 0 0, .slice none 0 0] 27)) (.slice ad n c) 65
    rwa [World.size_alloc, World.size_alloc] at this
  have hby := h.bytes k0 (g := w.heap.size + 1 + 1) (by omega)
  have HK := packedIn (w.heap.size + 1 + 1) (.slice ad n c) n 0 W0 hcur hby (by omega)
  have hs0 : w.heap.size + 3 ≤ W0.heap.size := by rw [hW0]; simp
  have HBR := hidD bR.1
  have HBQ := hidD bR.2
  have HK0 := hidD k0
  have HW0 := hidD hW0
  clear h k0 bR hcur hby hW0
  go_enter Try.func31, Try.ntmps31
  go_upto_region 2 with fail
  rw [← HW0.out]
  clear HW0
  go_wp2_with fail
  refine HK.mono ?_
  rintro e w1 ⟨lv, hv, p, rfl, hpk, hd⟩
  obtain ⟨la, lc, hle⟩ := hpk.1.1.slice
  subst hle
  obtain ⟨ha, hc, hhe⟩ := hpk.1.2.slice
  subst hhe
  have HBR1 := hidD (boxR HBR.out (drawn_off hd) (by simp <;> omega))
  have HBQ1 := hidD (boxR HBQ.out (drawn_off hd) (by simp))
  have HPK := hidD hpk
  have HD1 := hidD hd
  have hs1 : w.heap.size + 3 ≤ w1.heap.size := Nat.le_trans hs0 hd.2.2.size
  clear HK hd hpk HBR HBQ
  go_wp2_with fail
  refine (packedIn (w.heap.size + 1 + 1) (.slice ad n c) n (0 + 210) w1 HD1.out.1 HD1.out.2.1 (by omega)).mono ?_
  rintro e w2 ⟨lu, hu, q, rfl, hpq, hd2⟩
  obtain ⟨ua, uc, hle⟩ := hpq.1.1.slice
  subst hle
  obtain ⟨ya, yc, hhe⟩ := hpq.1.2.slice
  subst hhe
  have HBR2 := hidD (boxR HBR1.out (drawn_off hd2) (by simp <;> omega))
  have HBQ2 := hidD (boxR HBQ1.out (drawn_off hd2) (by simp))
  have HPP := hidD (HPK.out.off (drawn_off hd2) (fun j hj => by simp at hj; omega))
  have HPQ := hidD hpq
  have HK2 : Hid (Below w.heap.size w w2) := HK0.out.trans (gb_below (HD1.out.trans hd2).2.2 (by omega) (by omega))
  clear hd2 hpq HD1 HPK HBR1 HBQ1 HK0
  have r0 := HBR2.out.2.1 0 _ rfl
  have r1 := HBR2.out.2.1 1 _ rfl
  have r2 := HBR2.out.2.1 2 _ rfl
  have r3 := HBR2.out.2.1 3 _ rfl
  have s0 := HBR2.out.2.2 0 (by simp)
  have s1 := HBR2.out.2.2 1 (by simp)
  have s2 := HBR2.out.2.2 2 (by simp)
  have s3 := HBR2.out.2.2 3 (by simp)
  have hrl := HBR2.out.1
  have o0 := HBQ2.out.2.1 0 _ rfl
  have o1 := HBQ2.out.2.1 1 _ rfl
  have o2 := HBQ2.out.2.1 2 _ rfl
  have o3 := HBQ2.out.2.1 3 _ rfl
  have z0 := HBQ2.out.2.2 0 (by simp)
  have z1 := HBQ2.out.2.2 1 (by simp)
  have z2 := HBQ2.out.2.2 2 (by simp)
  have z3 := HBQ2.out.2.2 3 (by simp)
  have hql := HBQ2.out.1
  have hne : w.heap.size ≠ w.heap.size + 1 := by omega
  have hne2 : w.heap.size + 1 ≠ w.heap.size := by omega
  go_wp2_with fail
  have c4 := boxSet4 (a' := .int .i64 p.many) (b' := .int .i64 p.low) (c' := .slice la p.lows.length lc) (d' := .slice ha p.high.length hc) HBR2.out
  have c5 := set4_other (rb := w.heap.size + 1) (a := .int .i64 q.many) (c := .int .i64 q.low) (d := .slice ua q.lows.length uc) (e := .slice ya q.high.length yc) c4 (by omega)
  have d4 := set4_other (rb := w.heap.size) (a := .int .i64 p.many) (c := .int .i64 p.low) (d := .slice la p.lows.length lc) (e := .slice ha p.high.length hc) HBQ2.out (by omega)
  have d5 := boxSet4 (a' := .int .i64 q.many) (b' := .int .i64 q.low) (c' := .slice ua q.lows.length uc) (d' := .slice ya q.high.length yc) d4
  have y0 := c5.2.1 0 _ rfl
  have y1 := c5.2.1 1 _ rfl
  have y2 := c5.2.1 2 _ rfl
  have y3 := c5.2.1 3 _ rfl
  have x0 := d5.2.1 0 _ rfl
  have x1 := d5.2.1 1 _ rfl
  have x2 := d5.2.1 2 _ rfl
  have x3 := d5.2.1 3 _ rfl
  clear r0 r1 r2 r3 s0 s1 s2 s3 o0 o1 o2 o3 z0 z1 z2 z3 c4 c5 d4 d5
  (try simp only [Exit.inBlock, Exit.then])
  refine bodyPost_ret (v := .tuple #[.agg #[.int .i64 p.many, .int .i64 p.low, .slice la p.lows.length lc, .slice ha p.high.length hc], .agg #[.int .i64 q.many, .int .i64 q.low, .slice ua q.lows.length uc, .slice ya q.high.length yc]]) ?r rfl ?_
  case r => simp [y0, y1, y2, y3, x0, x1, x2, x3, results, Try.results31, go_sem]; try rfl
  exact ⟨_, _, p, _, _, q, rfl, ⟨pkb4 (pkb4 HPP.out (base' := W0.heap.size) (by omega) (Nat.le_refl _)) (by omega) (by omega), pkb4 (pkb4 HPQ.out (base' := w1.heap.size) (by omega) (Nat.le_refl _)) (by omega) (by omega)⟩, bel4 (bel4 HK2.out (Nat.le_refl _)) (by omega)⟩
end Go.Proofs.Ytaafdcghafbfhaa
