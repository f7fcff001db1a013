/- Contracts of the model's draws of chapter 8, for a number's place. Condition: the bytes that are drawn from lie in memory. -/
import Derived.Test.YtaafdcghafbfhaaDrawN8
import Derived.Test.YtaafdcghafbfhaaSwap
namespace Go.Proofs.Ytaafdcghafbfhaa
open Go.ChangeShapes Go.WideShapes Go.ChangeAt Go.RowKit Go.Deep
set_option linter.unusedVariables false
attribute [local go_sem ↓] Go.wp_at_zero Go.wp_at_succ

set_option maxHeartbeats 6400000 in
theorem drawNumb (v : Value) (n : Nat) (w : World) (h : CodeAt w v n) :
    Calls Try.prog 35 #[v] w fun e w' => ∃ (lv hv : Value) (p : Pk) (k : Int), e = .returned (.tuple #[.agg #[.int .i64 p.many, .int .i64 p.low, lv, hv], .int .i64 k]) ∧ PkB w.heap.size w' lv hv p ∧ Below w.heap.size w w' := by
  obtain ⟨ad, c, rfl⟩ : ∃ ad c, v = .slice ad n c := by
    obtain ⟨ad, c, e, _⟩ := h
    exact ⟨ad, c, e⟩
  obtain ⟨W0, hW0⟩ : ∃ W0, W0 = (w.alloc (.cells #[.int .i64 0, .int .i64 0, .slice none 0 0, .slice none 0 0] 27)).alloc (.cells #[.slice ad n c, .int .i64 0, .int .u64 0] 65) := ⟨_, rfl⟩
  have k0 : Below w.heap.size w W0 := by rw [hW0]; exact ((Below.refl _ _).alloc (Nat.le_refl _) _).alloc (by simp) _
  have bR : BoxAt W0 w.heap.size [.int .i64 0, .int .i64 0, .slice none 0 0, .slice none 0 0] := by rw [hW0]; exact (boxNew w _ _).below (al_ _ _)
  have hcur : CurAt W0 (w.heap.size + 1) (.slice ad n c) 0 := by
    rw [hW0]
    have := cur_new (w.alloc (.cells #[.int .i64 0, .int .i64 0, .slice none 0 0, .slice none 0 0] 27)) (.slice ad n c) 65
    rwa [World.size_alloc] at this
  have hby := h.bytes k0 (g := w.heap.size + 1) (by omega)
  have HK := packedIn (w.heap.size + 1) (.slice ad n c) n 0 W0 hcur hby (by omega)
  have hs0 : w.heap.size + 2 ≤ W0.heap.size := by rw [hW0]; simp
  have HBR := hidD bR
  have HBY := hidD hby
  have HK0 := hidD k0
  have HW0 := hidD hW0
  clear h k0 bR hcur hby hW0
  go_enter Try.func35, Try.ntmps35
  go_upto_region 2 with fail
  rw [← HW0.out]
  clear HW0
  go_wp2_with fail
  refine HK.mono ?_
  rintro e w1 ⟨lv, hv, p, rfl, hpk, hd⟩
  obtain ⟨la, lc, hle⟩ := hpk.1.1.slice
  subst hle
  obtain ⟨ha, hc, hhe⟩ := hpk.1.2.slice
  subst hhe
  have HBR1 := hidD (boxR HBR.out (drawn_off hd) (by simp))
  have hs1 : w.heap.size + 2 ≤ w1.heap.size := Nat.le_trans hs0 hd.2.2.size
  obtain ⟨W2, hW2⟩ : ∃ W2, W2 = w1.alloc (.cells #[.int .i64 p.many, .int .i64 p.low, .slice la p.lows.length lc, .slice ha p.high.length hc] 27) := ⟨_, rfl⟩
  have k2 : Below w1.heap.size w1 W2 := by rw [hW2]; exact al_ _ _
  have HBP2 : Hid (BoxAt W2 w1.heap.size [.int .i64 p.many, .int .i64 p.low, .slice la p.lows.length lc, .slice ha p.high.length hc]) := by show BoxAt _ _ _; rw [hW2]; exact boxNew w1 _ _
  have HBR2 := hidD (HBR1.out.below k2)
  have HPK2 := hidD (hpk.below k2)
  have HD2 := hidD ((hd.below k2).below (Below.drew (Below.refl _ _)))
  have hl60 := hpk.2.1
  have HW2 := hidD hW2
  have hby0 := HBY.out
  clear HK hd hpk HBR HBR1 k2 hW2
  go_upto_region 3 with fail
  rw [← HW2.out]
  clear HW2
  generalize w1.heap.size = pb at *
  have x0 := HBP2.out.2.1 0 _ rfl
  have x1 := HBP2.out.2.1 1 _ rfl
  have x2 := HBP2.out.2.1 2 _ rfl
  have x3 := HBP2.out.2.1 3 _ rfl
  have hpl := HBP2.out.1
  have hHeld : (fun w' : World => w'.cell? ⟨pb, 0, none⟩ = some (.int .i64 p.many) ∧ w'.cell? ⟨pb, 1, none⟩ = some (.int .i64 p.low) ∧ w'.cell? ⟨pb, 2, none⟩ = some (.slice la p.lows.length lc) ∧ w'.cell? ⟨pb, 3, none⟩ = some (.slice ha p.high.length hc)) W2.drew := ⟨x0, x1, x2, x3⟩
  refine wp_region_heldL (n := 10) (S := fun w' : World => w'.cell? ⟨pb, 0, none⟩ = some (.int .i64 p.many) ∧ w'.cell? ⟨pb, 1, none⟩ = some (.int .i64 p.low) ∧ w'.cell? ⟨pb, 2, none⟩ = some (.slice la p.lows.length lc) ∧ w'.cell? ⟨pb, 3, none⟩ = some (.slice ha p.high.length hc)) (by kernel_rfl) rfl ?_
  have hwr : IntKind.i64.wrap ((p.lows.length : Int) + 2) = (p.lows.length : Int) + 2 := by rw [IntKind.wrap_i64]; omega
  refine takeL (i := 0) (v := ?_) rfl (by kernel_rfl) (by kernel_rfl) (by kernel_rfl) (fun _ _ _ h => h) rfl ?_ (by assumption) ?_
  rotate_left
  · intro w hSw; (try dsimp only at hSw); go_simp; (try with_reducible rfl)
  (try simp only [Act.put, List.setIfInBounds_toArray, List.set_cons_zero, List.set_cons_succ])
  refine takeL (i := 1) (v := ?_) rfl (by kernel_rfl) (by kernel_rfl) (by kernel_rfl) (fun _ _ _ h => h) rfl ?_ (by assumption) ?_
  rotate_left
  · intro w hSw; (try dsimp only at hSw); go_simp; (try with_reducible rfl)
  (try simp only [Act.put, List.setIfInBounds_toArray, List.set_cons_zero, List.set_cons_succ])
  refine takeL (i := 2) (v := ?_) rfl (by kernel_rfl) (by kernel_rfl) (by kernel_rfl) (fun _ _ _ h => h) rfl ?_ (by assumption) ?_
  rotate_left
  · intro w hSw; (try dsimp only at hSw); go_simp; (try with_reducible rfl)
  (try simp only [Act.put, List.setIfInBounds_toArray, List.set_cons_zero, List.set_cons_succ])
  refine takeL (i := 3) (v := ?_) rfl (by kernel_rfl) (by kernel_rfl) (by kernel_rfl) (fun _ _ _ h => h) rfl ?_ (by assumption) ?_
  rotate_left
  · intro w hSw; (try dsimp only at hSw); go_simp; (try with_reducible rfl)
  (try simp only [Act.put, List.setIfInBounds_toArray, List.set_cons_zero, List.set_cons_succ])
  refine takeL (i := 4) (v := ?_) rfl (by kernel_rfl) (by kernel_rfl) (by kernel_rfl) (fun _ _ _ h => h) rfl ?_ (by assumption) ?_
  rotate_left
  · intro w hSw; (try dsimp only at hSw); go_simp; (try with_reducible rfl)
  (try simp only [Act.put, List.setIfInBounds_toArray, List.set_cons_zero, List.set_cons_succ])
  refine takeL (i := 5) (v := ?_) rfl (by kernel_rfl) (by kernel_rfl) (by kernel_rfl) (fun _ _ _ h => h) rfl ?_ (by assumption) ?_
  rotate_left
  · intro w hSw; (try dsimp only at hSw); go_simp; (try with_reducible rfl)
  (try simp only [Act.put, List.setIfInBounds_toArray, List.set_cons_zero, List.set_cons_succ])
  refine comesL (i := 6) rfl rfl (by kernel_rfl) (fun K hK => ?_)
  go_simp
  refine (pickIn (w.heap.size + 1) (.slice ad n c) n (0 + 210) ((p.lows.length : Int) + 2) W2.drew HD2.out.1 HD2.out.2.1 (by omega) (by omega) (by omega)).mono ?_
  rintro e w3 ⟨k, rfl, hk0, hk1, hd3⟩
  have ofd : Off [w.heap.size + 1] W2 w3 := (Off.of (Below.drew (Below.refl _ _))).trans (drawn_off hd3)
  have HBP3 := hidD (HBP2.out.offI ofd (by simp; omega))
  have HBR3 := hidD (HBR2.out.offI ofd (by simp))
  have HPK3 := hidD (HPK2.out.off ofd (fun j hj => by simp at hj; omega))
  have HK3 : Hid (Below w.heap.size w w3) := HK0.out.trans (gb_below (HD2.out.trans hd3).2.2 (by omega) (by omega))
  have g0 := HBP3.out.2.1 0 _ rfl
  have g1 := HBP3.out.2.1 1 _ rfl
  have g2 := HBP3.out.2.1 2 _ rfl
  have g3 := HBP3.out.2.1 3 _ rfl
  clear hd3 ofd HD2 HBP2 HBR2 HPK2 HK0 x0 x1 x2 x3 hpl hHeld
  (try dsimp only)
  refine hK.out _ _ ⟨g0, g1, g2, g3⟩ (fun hH2 => ?_)
  clear hK K
  have hHeld := hH2
  clear hH2
  (try simp only [Act.put, List.setIfInBounds_toArray, List.set_cons_zero, List.set_cons_succ])
  have hwk : IntKind.i64.wrap (k - 1) = k - 1 := by rw [IntKind.wrap_i64]; omega
  refine takeL (i := 7) (v := ?_) rfl (by kernel_rfl) (by kernel_rfl) (by kernel_rfl) (fun _ _ _ h => h) rfl ?_ (by assumption) ?_
  rotate_left
  · intro w hSw; (try dsimp only at hSw); go_simp; (try with_reducible rfl)
  (try simp only [Act.put, List.setIfInBounds_toArray, List.set_cons_zero, List.set_cons_succ])
  have r0 := HBR3.out.2.1 0 _ rfl
  have r1 := HBR3.out.2.1 1 _ rfl
  have r2 := HBR3.out.2.1 2 _ rfl
  have r3 := HBR3.out.2.1 3 _ rfl
  have s0 := HBR3.out.2.2 0 (by simp)
  have s1 := HBR3.out.2.2 1 (by simp)
  have s2 := HBR3.out.2.2 2 (by simp)
  have s3 := HBR3.out.2.2 3 (by simp)
  have hrl := HBR3.out.1
  refine comesL (i := 8) rfl rfl (by kernel_rfl) (fun K hK => ?_)
  go_simp
  have c4 := boxSet4 (a' := .int .i64 p.many) (b' := .int .i64 p.low) (c' := .slice la p.lows.length lc) (d' := .slice ha p.high.length hc) HBR3.out
  have d4 := set4_other (rb := w.heap.size) (a := .int .i64 p.many) (c := .int .i64 p.low) (d := .slice la p.lows.length lc) (e := .slice ha p.high.length hc) HBP3.out (by omega)
  have y0 := c4.2.1 0 _ rfl
  have y1 := c4.2.1 1 _ rfl
  have y2 := c4.2.1 2 _ rfl
  have y3 := c4.2.1 3 _ rfl
  have q0 := d4.2.1 0 _ rfl
  have q1 := d4.2.1 1 _ rfl
  have q2 := d4.2.1 2 _ rfl
  have q3 := d4.2.1 3 _ rfl
  clear r0 r1 r2 r3 s0 s1 s2 s3 c4 d4 g0 g1 g2 g3 hHeld
  (try dsimp only)
  refine hK.out _ _ ⟨q0, q1, q2, q3⟩ (fun hH2 => ?_)
  clear hK K
  have hHeld := hH2
  clear hH2 q0 q1 q2 q3
  (try simp only [Act.put, List.setIfInBounds_toArray, List.set_cons_zero, List.set_cons_succ])
  refine takeL (i := 9) (v := ?_) rfl (by kernel_rfl) (by kernel_rfl) (by kernel_rfl) (fun _ _ _ h => h) rfl ?_ (by assumption) ?_
  rotate_left
  · intro w hSw; (try dsimp only at hSw); go_simp; (try with_reducible rfl)
  (try simp only [Act.put, List.setIfInBounds_toArray, List.set_cons_zero, List.set_cons_succ])
  refine wpAnyH_done (by kernel_rfl) ?_ _
  clear hHeld
  have HF := hidD (pkb4 HPK3.out (rb := w.heap.size) (a := .int .i64 p.many) (b := .int .i64 p.low) (c := .slice la p.lows.length lc) (d := .slice ha p.high.length hc) (base' := w.heap.size) (by omega) (by omega))
  have HFK := hidD (bel4 (rb := w.heap.size) (a := .int .i64 p.many) (b := .int .i64 p.low) (c := .slice la p.lows.length lc) (d := .slice ha p.high.length hc) HK3.out (Nat.le_refl _))
  generalize ((((w3.setCell ⟨w.heap.size, 0, none⟩ (.int .i64 p.many)).setCell ⟨w.heap.size, 1, none⟩ (.int .i64 p.low)).setCell ⟨w.heap.size, 2, none⟩ (.slice la p.lows.length lc)).setCell ⟨w.heap.size, 3, none⟩ (.slice ha p.high.length hc)) = W9 at *
  go_wp2_with fail
  (try simp only [Exit.inBlock, Exit.then])
  refine bodyPost_ret (v := .tuple #[.agg #[.int .i64 p.many, .int .i64 p.low, .slice la p.lows.length lc, .slice ha p.high.length hc], .int .i64 (k - 1)]) ?r rfl ?_
  case r => simp [y0, y1, y2, y3, results, Try.results35, go_sem]; try rfl
  exact ⟨_, _, p, _, rfl, HF.out, HFK.out⟩
end Go.Proofs.Ytaafdcghafbfhaa
