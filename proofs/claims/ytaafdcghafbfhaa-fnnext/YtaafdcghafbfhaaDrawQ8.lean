/- Contracts of the model's draws of chapter 8. Condition: the bytes that are drawn from lie in memory. -/
import Derived.Test.YtaafdcghafbfhaaDrawP8
import Derived.Test.YtaafdcghafbfhaaPackL
namespace Go.Proofs.Ytaafdcghafbfhaa
open Go.ChangeShapes Go.WideShapes Go.ChangeAt Go.RowKit Go.Deep
set_option linter.unusedVariables false
attribute [local go_sem ↓] Go.wp_at_zero Go.wp_at_succ

set_option maxHeartbeats 1600000 in
theorem drawPackL (v : Value) (n : Nat) (w : World) (h : CodeAt w v n) :
    Calls Try.prog 13 #[v] w fun e w' => ∃ (x : Value) (l : List Int), e = .returned x ∧ (IntsAt w' x l ∧ l.length ≤ 61) ∧ Below w.heap.size w w' := by
  obtain ⟨ad, c, rfl⟩ : ∃ ad c, v = .slice ad n c := by
    obtain ⟨ad, c, e, _⟩ := h
    exact ⟨ad, c, e⟩
  have hbel := al_ w (.cells #[.slice ad n c, .int .i64 0, .int .u64 0] 65)
  have HL := list8In w.heap.size (.slice ad n c) n 0 _ (cur_new w (.slice ad n c) 65) (h.bytes hbel (Nat.le_refl _)) (by omega)
  have HBE := hidD hbel
  clear h hbel
  go_enter Try.func13, Try.ntmps13
  go_wp2_with fail
  refine HL.mono ?_
  rintro e w1 ⟨x, l, rfl, hx, hl, hd⟩
  have HX := hidD hx.ints
  have hfin : Below w.heap.size w w1 := HBE.out.trans (gb_below hd.2.2 (Nat.le_refl _) (by simp))
  clear HL hd hx
  go_wp2
  go_returns
  first | exact ⟨_, l, rfl, ⟨HX.out, hl⟩, hfin⟩ | exact ⟨_, rfl, l, ⟨HX.out, hl⟩, hfin⟩
set_option maxHeartbeats 1600000 in
theorem drawLow (v : Value) (n : Nat) (w : World) (h : CodeAt w v n) :
    Calls Try.prog 24 #[v] w fun e w' => ∃ a b : Int, e = .returned (.tuple #[.int .i64 a, .int .i64 b]) ∧ Below w.heap.size w w' := by
  obtain ⟨ad, c, rfl⟩ : ∃ ad c, v = .slice ad n c := by
    obtain ⟨ad, c, e, _⟩ := h
    exact ⟨ad, c, e⟩
  have hbel := al_ w (.cells #[.slice ad n c, .int .i64 0, .int .u64 0] 65)
  have HD0 : Hid (Drawn (w.alloc (.cells #[.slice ad n c, .int .i64 0, .int .u64 0] 65)) (w.alloc (.cells #[.slice ad n c, .int .i64 0, .int .u64 0] 65)) w.heap.size (.slice ad n c) n 0) := ⟨cur_new w (.slice ad n c) 65, h.bytes hbel (Nat.le_refl _), World.grownBy.refl _ _⟩
  have HBE := hidD hbel
  clear h hbel
  go_enter Try.func24, Try.ntmps24
  have HD1 := hidD (HD0.out.below (al_ _ (.cells #[.int .i64 (-1), .int .i64 0, .int .i64 1, .int .i64 3, .int .i64 10, .int .i64 60, .int .i64 61] 3)))
  go_wp2_with fail
  refine (amongIn w.heap.size (.slice ad n c) n 0 [-1, 0, 1, 3, 10, 60, 61] (w.heap.size + 1) 7 _ HD1.out.1 HD1.out.2.1 (by omega) (by simp) (by simp) (by omega) (by intro i hi; match i, hi with | 0, _ => simp | 1, _ => simp | 2, _ => simp | 3, _ => simp | 4, _ => simp | 5, _ => simp | 6, _ => simp)).mono ?_
  rintro e w1 ⟨a, rfl, _, hd1⟩
  have HD2 := hidD ((HD1.out.trans hd1).below (al_ _ (.cells #[.int .i64 (-1), .int .i64 0, .int .i64 1, .int .i64 7, .int .i64 100, .int .i64 10000, .int .i64 10001] 3)))
  have hne : w1.heap.size ≠ w.heap.size := by have := hd1.2.2.size; simp at this; omega
  clear hd1 HD1 HD0
  go_wp2_with fail
  refine (amongIn w.heap.size (.slice ad n c) n 2 [-1, 0, 1, 7, 100, 10000, 10001] w1.heap.size 7 _ HD2.out.1 HD2.out.2.1 (by omega) (by simp) (by simp) hne (by intro i hi; match i, hi with | 0, _ => simp [World.cell?_alloc_new] | 1, _ => simp [World.cell?_alloc_new] | 2, _ => simp [World.cell?_alloc_new] | 3, _ => simp [World.cell?_alloc_new] | 4, _ => simp [World.cell?_alloc_new] | 5, _ => simp [World.cell?_alloc_new] | 6, _ => simp [World.cell?_alloc_new])).mono ?_
  rintro e w2 ⟨b, rfl, _, hd2⟩
  have HD3 := hidD (HD2.out.trans hd2)
  have hfin : Below w.heap.size w w2 := HBE.out.trans (gb_below HD3.out.2.2 (Nat.le_refl _) (by simp))
  clear hd2 HD2
  go_wp2
  go_returns
  exact ⟨_, _, rfl, hfin⟩
theorem boxR {W W' : World} {b : Nat} {S : List Nat} (h : BoxAt W b [.int .i64 0, .int .i64 0, .slice none 0 0, .slice none 0 0]) (hO : Off S W W') (hb : b ∉ S) : BoxAt W' b [.int .i64 0, .int .i64 0, .slice none 0 0, .slice none 0 0] := h.offI hO hb
theorem pkb4 {base base' : Nat} {W : World} {rb : Nat} {a b c d lv hv : Value} {p : Pk} (h : PkB base W lv hv p) (hb : rb < base) (hbb : base' ≤ base) : PkB base' ((((W.setCell ⟨rb, 0, none⟩ a).setCell ⟨rb, 1, none⟩ b).setCell ⟨rb, 2, none⟩ c).setCell ⟨rb, 3, none⟩ d) lv hv p :=
  (h.off ((((off_set8 W rb 0 a).trans (off_set8 _ _ _ _)).trans (off_set8 _ _ _ _)).trans (off_set8 _ _ _ _)) (fun j hj => by simp at hj; omega)).mono hbb
theorem bel4 {W0 W : World} {B rb : Nat} {a b c d : Value} (h : Below B W0 W) (hb : B ≤ rb) : Below B W0 ((((W.setCell ⟨rb, 0, none⟩ a).setCell ⟨rb, 1, none⟩ b).setCell ⟨rb, 2, none⟩ c).setCell ⟨rb, 3, none⟩ d) := bel_set (bel_set (bel_set (bel_set h hb _ _) hb _ _) hb _ _) hb _ _
set_option maxHeartbeats 3200000 in
theorem drawGoodP (v : Value) (n : Nat) (w : World) (h : CodeAt w v n) :
    Calls Try.prog 54 #[v] w fun e w' => ∃ (lv hv : Value) (p : Pk), e = .returned (.agg #[.int .i64 p.many, .int .i64 p.low, lv, hv]) ∧ PkB w.heap.size w' lv hv p ∧ Below w.heap.size w w' := by
  obtain ⟨ad, c, rfl⟩ : ∃ ad c, v = .slice ad n c := by
    obtain ⟨ad, c, e, _⟩ := h
    exact ⟨ad, c, e⟩
  obtain ⟨W0, hW0⟩ : ∃ W0, W0 = (w.alloc (.cells #[.int .i64 0, .int .i64 0, .slice none 0 0, .slice none 0 0] 27)).alloc (.cells #[.slice ad n c, .int .i64 0, .int .u64 0] 65) := ⟨_, rfl⟩
  have k0 : Below w.heap.size w W0 := by rw [hW0]; exact ((Below.refl _ _).alloc (Nat.le_refl _) _).alloc (by simp) _
  have bR : BoxAt W0 w.heap.size [.int .i64 0, .int .i64 0, .slice none 0 0, .slice none 0 0] := by rw [hW0]; exact (boxNew w _ _).below (al_ _ _)
  have hcur : CurAt W0 (w.heap.size + 1) (.slice ad n c) 0 := by
    rw [hW0]
    have := cur_new (w.alloc (.cells #[.int .i64 0, .int .i64 0, .slice none 0 0, .slice none 0 0] 27)) (.slice ad n c) 65
    rwa [World.size_alloc] at this
  have hby := h.bytes k0 (g := w.heap.size + 1) (by omega)
  have HK := packedIn (w.heap.size + 1) (.slice ad n c) n 0 W0 hcur hby (by omega)
  have hs0 : w.heap.size + 2 ≤ W0.heap.size := by rw [hW0]; simp
  have HBR := hidD bR
  have HK0 := hidD k0
  have HW0 := hidD hW0
  clear h k0 bR hcur hby hW0
  go_enter Try.func54, Try.ntmps54
  go_upto_region 2 with fail
  rw [← HW0.out]
  clear HW0
  go_wp2_with fail
  refine HK.mono ?_
  rintro e w1 ⟨lv, hv, p, rfl, hpk, hd⟩
  obtain ⟨la, lc, hle⟩ := hpk.1.1.slice
  subst hle
  obtain ⟨ha, hc, hhe⟩ := hpk.1.2.slice
  subst hhe
  have HBR1 := hidD (boxR HBR.out (drawn_off hd) (by simp))
  have HPK := hidD hpk
  have HK1 : Hid (Below w.heap.size w w1) := HK0.out.trans (gb_below hd.2.2 (by omega) (by omega))
  clear HK hd hpk HBR HK0
  have r0 := HBR1.out.2.1 0 _ rfl
  have r1 := HBR1.out.2.1 1 _ rfl
  have r2 := HBR1.out.2.1 2 _ rfl
  have r3 := HBR1.out.2.1 3 _ rfl
  have s0 := HBR1.out.2.2 0 (by simp)
  have s1 := HBR1.out.2.2 1 (by simp)
  have s2 := HBR1.out.2.2 2 (by simp)
  have s3 := HBR1.out.2.2 3 (by simp)
  have hrl := HBR1.out.1
  go_wp2_with fail
  have c4 := boxSet4 (a' := .int .i64 p.many) (b' := .int .i64 p.low) (c' := .slice la p.lows.length lc) (d' := .slice ha p.high.length hc) HBR1.out
  have y0 := c4.2.1 0 _ rfl
  have y1 := c4.2.1 1 _ rfl
  have y2 := c4.2.1 2 _ rfl
  have y3 := c4.2.1 3 _ rfl
  clear r0 r1 r2 r3 s0 s1 s2 s3 c4
  (try simp only [Exit.inBlock, Exit.then])
  refine bodyPost_ret (v := .agg #[.int .i64 p.many, .int .i64 p.low, .slice la p.lows.length lc, .slice ha p.high.length hc]) ?r rfl ?_
  case r => simp [y0, y1, y2, y3, results, Try.results54, go_sem]; try rfl
  exact ⟨_, _, p, rfl, pkb4 HPK.out (by omega) (by omega), bel4 HK1.out (Nat.le_refl _)⟩
set_option maxHeartbeats 3200000 in
theorem drawUnpack (v : Value) (n : Nat) (w : World) (h : CodeAt w v n) :
    Calls Try.prog 21 #[v] w fun e w' => ∃ (lv hv : Value) (p : Pk), e = .returned (.agg #[.int .i64 p.many, .int .i64 p.low, lv, hv]) ∧ PkB w.heap.size w' lv hv p ∧ Below w.heap.size w w' := by
  obtain ⟨ad, c, rfl⟩ : ∃ ad c, v = .slice ad n c := by
    obtain ⟨ad, c, e, _⟩ := h
    exact ⟨ad, c, e⟩
  obtain ⟨W0, hW0⟩ : ∃ W0, W0 = w.alloc (.cells #[.int .i64 0, .int .i64 0, .slice none 0 0, .slice none 0 0] 27) := ⟨_, rfl⟩
  have k0 : Below w.heap.size w W0 := by rw [hW0]; exact al_ _ _
  have bR : BoxAt W0 w.heap.size [.int .i64 0, .int .i64 0, .slice none 0 0, .slice none 0 0] := by rw [hW0]; exact boxNew w _ _
  have HK := drawGoodP (.slice ad n c) n W0 (h.below k0)
  have hs0 : w.heap.size < W0.heap.size := bR.1
  have HBR := hidD bR
  have HK0 := hidD k0
  have HW0 := hidD hW0
  clear h k0 bR hW0
  go_enter Try.func21, Try.ntmps21
  go_upto_region 1 with fail
  rw [← HW0.out]
  clear HW0
  go_wp2_with fail
  refine HK.mono ?_
  rintro e w1 ⟨lv, hv, p, rfl, hpk, hb1⟩
  obtain ⟨la, lc, hle⟩ := hpk.1.1.slice
  subst hle
  obtain ⟨ha, hc, hhe⟩ := hpk.1.2.slice
  subst hhe
  have HBR1 := hidD (HBR.out.below hb1)
  have HPK := hidD hpk
  have HK1 : Hid (Below w.heap.size w w1) := HK0.out.trans (hb1.mono HK0.out.size)
  clear HK hb1 hpk HBR HK0
  have r0 := HBR1.out.2.1 0 _ rfl
  have r1 := HBR1.out.2.1 1 _ rfl
  have r2 := HBR1.out.2.1 2 _ rfl
  have r3 := HBR1.out.2.1 3 _ rfl
  have s0 := HBR1.out.2.2 0 (by simp)
  have s1 := HBR1.out.2.2 1 (by simp)
  have s2 := HBR1.out.2.2 2 (by simp)
  have s3 := HBR1.out.2.2 3 (by simp)
  have hrl := HBR1.out.1
  go_wp2_with fail
  have c4 := boxSet4 (a' := .int .i64 p.many) (b' := .int .i64 p.low) (c' := .slice la p.lows.length lc) (d' := .slice ha p.high.length hc) HBR1.out
  have y0 := c4.2.1 0 _ rfl
  have y1 := c4.2.1 1 _ rfl
  have y2 := c4.2.1 2 _ rfl
  have y3 := c4.2.1 3 _ rfl
  clear r0 r1 r2 r3 s0 s1 s2 s3 c4
  (try simp only [Exit.inBlock, Exit.then])
  refine bodyPost_ret (v := .agg #[.int .i64 p.many, .int .i64 p.low, .slice la p.lows.length lc, .slice ha p.high.length hc]) ?r rfl ?_
  case r => simp [y0, y1, y2, y3, results, Try.results21, go_sem]; try rfl
  exact ⟨_, _, p, rfl, pkb4 HPK.out (by omega) (by omega), bel4 HK1.out (Nat.le_refl _)⟩
end Go.Proofs.Ytaafdcghafbfhaa
