/- Contracts of PackList, program and model. Condition: the list lies in memory. -/
import Derived.Test.YtaafdcghafbfhaaSpecPkd
namespace Go.Proofs.Ytaafdcghafbfhaa
open Go.ChangeShapes Go.WideShapes Go.ChangeAt Go.RowKit Go.Deep
set_option linter.unusedVariables false
attribute [local go_sem ↓] Go.wp_at_zero Go.wp_at_succ

theorem boxSet4 {W : World} {rb : Nat} {a b c d a' b' c' d' : Value} (h : BoxAt W rb [a, b, c, d]) : BoxAt ((((W.setCell ⟨rb, 0, none⟩ a').setCell ⟨rb, 1, none⟩ b').setCell ⟨rb, 2, none⟩ c').setCell ⟨rb, 3, none⟩ d') rb [a', b', c', d'] := (((h.set 0 a').set 1 b').set 2 c').set 3 d'
theorem OwnA.setOther {base : Nat} {w : World} {v : Value} {n : Nat} {f : Nat → Value} {b o : Nat} {u : Value} (h : OwnA base w v n f) (hb : ∀ g ∈ ablk v, g ≠ b) : OwnA base (w.setCell ⟨b, o, none⟩ u) v n f := by
  refine h.off (S := [b]) ⟨rfl, rfl, rfl, by simp, fun k hk hn => setCell_other w b k o u (fun e => hn (by simp [e]))⟩ (fun g hg hm => ?_)
  simp at hm
  exact hb g hg hm
theorem PkA.set4 {base : Nat} {W : World} {rb : Nat} {a b c d lv hv : Value} {p : Pk} (h : PkA base W lv hv p) (hb : rb < base) : PkA base ((((W.setCell ⟨rb, 0, none⟩ a).setCell ⟨rb, 1, none⟩ b).setCell ⟨rb, 2, none⟩ c).setCell ⟨rb, 3, none⟩ d) lv hv p := by
  have h1 : ∀ g ∈ ablk lv, g ≠ rb := fun g hg => by have := (h.1.lt g hg).1; omega
  have h2 : ∀ g ∈ ablk hv, g ≠ rb := fun g hg => by have := (h.2.1.lt g hg).1; omega
  exact ⟨(((h.1.setOther h1).setOther h1).setOther h1).setOther h1, (((h.2.1.setOther h2).setOther h2).setOther h2).setOther h2, h.2.2⟩
theorem PkA.mono {base base' : Nat} {W : World} {lv hv : Value} {p : Pk} (h : PkA base W lv hv p) (hb : base' ≤ base) : PkA base' W lv hv p := ⟨h.1.mono hb, h.2.1.mono hb, h.2.2⟩
set_option maxHeartbeats 3200000 in
theorem implPackYes (v : Value) (l : List Int) (w : World) (h : IntsAt w v l) (hg : GoodL l) :
    Calls Try.prog 14 #[v] w fun e w' => ∃ lv hv, e = .returned (.tuple #[.agg #[.int .i64 l.length, .int .i64 (lowL l : Nat), lv, hv], .bool true]) ∧ PkA w.heap.size w' lv hv (packM l) ∧ Below w.heap.size w w' := by
  have HS := hid h
  have HG := fun W hW => implGoodL v l true ⟨fun _ => hg, fun _ => rfl⟩ W hW (by have := hg.1; omega)
  have HP := fun W hW => implPacked v l W hW hg
  obtain ⟨va, vc, rfl⟩ := h.slice
  obtain ⟨L, hL⟩ : ∃ L, L = lowL l := ⟨_, rfl⟩
  rw [← hL] at HP ⊢
  clear h hg hL
  go_enter Try.func14, Try.ntmps14
  go_wp2_with fail
  refine (HG _ (HS.out.below (by go_grown))).mono ?_
  rintro e w1 ⟨rfl, hb1⟩
  have bR := (boxNew w #[.int .i64 0, .int .i64 0, .slice none 0 0, .slice none 0 0] 27).below hb1
  have k1 : Below w.heap.size w w1 := (al_ w _).trans (hb1.mono (by simp))
  have hz1 : w.heap.size < w1.heap.size := by have := hb1.size; simp at this; omega
  have HBR1 := hid bR
  have HK1 := hid k1
  clear hb1 HG bR k1
  go_wp2_with fail
  refine (HP _ (HS.out.below HK1.out)).mono ?_
  rintro e w2 ⟨lv, hv, rfl, hpk, hb2⟩
  have HPK := hid hpk
  obtain ⟨za, zc, hze⟩ := hpk.1.slice
  obtain ⟨ya, yc, hye⟩ := hpk.2.1.slice
  subst hze
  subst hye
  have HBR := hid (HBR1.out.below hb2)
  have HK := hid (HK1.out.trans (hb2.mono HK1.out.size))
  clear hpk hb2 HP HBR1 HK1
  have bR := HBR.out
  have r0 := bR.2.1 0 _ rfl
  have r1 := bR.2.1 1 _ rfl
  have r2 := bR.2.1 2 _ rfl
  have r3 := bR.2.1 3 _ rfl
  have s0 := bR.2.2 0 (by simp)
  have s1 := bR.2.2 1 (by simp)
  have s2 := bR.2.2 2 (by simp)
  have s3 := bR.2.2 3 (by simp)
  have hrl := bR.1
  clear bR
  generalize hn1 : (packM l).lows.length = n1 at *
  generalize hn2 : (packM l).high.length = n2 at *
  go_wp2_with fail
  have c4 := boxSet4 (a' := .int .i64 l.length) (b' := .int .i64 L) (c' := .slice za n1 zc) (d' := .slice ya n2 yc) HBR.out
  have y0 := c4.2.1 0 _ rfl
  have y1 := c4.2.1 1 _ rfl
  have y2 := c4.2.1 2 _ rfl
  have y3 := c4.2.1 3 _ rfl
  clear r0 r1 r2 r3 s0 s1 s2 s3 c4
  refine bodyPost_ret (v := .tuple #[.agg #[.int .i64 l.length, .int .i64 L, .slice za n1 zc, .slice ya n2 yc], .bool true]) ?r rfl ?_
  case r => simp [y0, y1, y2, y3, results, Try.results14, go_sem]; try rfl
  refine ⟨_, _, rfl, (HPK.out.set4 hz1).mono (by omega), bel_set (bel_set (bel_set (bel_set HK.out (Nat.le_refl _) _ _) (Nat.le_refl _) _ _) (Nat.le_refl _) _ _) (Nat.le_refl _) _ _⟩
set_option maxHeartbeats 3200000 in
theorem implPackNo (v : Value) (l : List Int) (w : World) (h : IntsAt w v l) (hl : l.length ≤ 1048576) (hg : ¬ GoodL l) :
    Calls Try.prog 14 #[v] w fun e w' => e = .returned (.tuple #[.agg #[.int .i64 0, .int .i64 0, .slice none 0 0, .slice none 0 0], .bool false]) ∧ Below w.heap.size w w' := by
  have HS := hid h
  have HG := fun W hW => implGoodL v l false ⟨fun h => (by cases h), fun h => absurd h hg⟩ W hW hl
  obtain ⟨va, vc, rfl⟩ := h.slice
  clear h hg
  go_enter Try.func14, Try.ntmps14
  go_wp2_with fail
  refine (HG _ (HS.out.below (by go_grown))).mono ?_
  rintro e w1 ⟨rfl, hb1⟩
  have bR := (boxNew w #[.int .i64 0, .int .i64 0, .slice none 0 0, .slice none 0 0] 27).below hb1
  have k1 : Below w.heap.size w w1 := (al_ w _).trans (hb1.mono (by simp))
  have HBR := hid bR
  have HK := hid k1
  have r0 := bR.2.1 0 _ rfl
  have r1 := bR.2.1 1 _ rfl
  have r2 := bR.2.1 2 _ rfl
  have r3 := bR.2.1 3 _ rfl
  have s0 := bR.2.2 0 (by simp)
  have s1 := bR.2.2 1 (by simp)
  have s2 := bR.2.2 2 (by simp)
  have s3 := bR.2.2 3 (by simp)
  have hrl := bR.1
  clear hb1 HG bR k1
  go_wp2_with fail
  have c4 := boxSet4 (a' := .int .i64 0) (b' := .int .i64 0) (c' := .slice none 0 0) (d' := .slice none 0 0) HBR.out
  have y0 := c4.2.1 0 _ rfl
  have y1 := c4.2.1 1 _ rfl
  have y2 := c4.2.1 2 _ rfl
  have y3 := c4.2.1 3 _ rfl
  clear r0 r1 r2 r3 s0 s1 s2 s3 c4
  refine bodyPost_ret (v := .tuple #[.agg #[.int .i64 0, .int .i64 0, .slice none 0 0, .slice none 0 0], .bool false]) ?r rfl ?_
  case r => simp [y0, y1, y2, y3, results, Try.results14, go_sem]; try rfl
  exact ⟨rfl, bel_set (bel_set (bel_set (bel_set HK.out (Nat.le_refl _) _ _) (Nat.le_refl _) _ _) (Nat.le_refl _) _ _) (Nat.le_refl _) _ _⟩
set_option maxHeartbeats 3200000 in
theorem specPackYes (v : Value) (l : List Int) (w : World) (h : IntsAt w v l) (hg : GoodL l) :
    Calls Try.prog 15 #[v] w fun e w' => ∃ lv hv, e = .returned (.tuple #[.agg #[.int .i64 l.length, .int .i64 (lowL l : Nat), lv, hv], .bool true]) ∧ PkA w.heap.size w' lv hv (packM l) ∧ Below w.heap.size w w' := by
  have HS := hid h
  have HG := fun W hW => specGoodL v l true ⟨fun _ => hg, fun _ => rfl⟩ W hW (by have := hg.1; omega)
  have HP := fun W hW => specPacked v l W hW hg
  obtain ⟨va, vc, rfl⟩ := h.slice
  obtain ⟨L, hL⟩ : ∃ L, L = lowL l := ⟨_, rfl⟩
  rw [← hL] at HP ⊢
  clear h hg hL
  go_enter Try.func15, Try.ntmps15
  go_wp2_with fail
  refine (HG _ (HS.out.below (by go_grown))).mono ?_
  rintro e w1 ⟨rfl, hb1⟩
  have bR := (boxNew w #[.int .i64 0, .int .i64 0, .slice none 0 0, .slice none 0 0] 27).below hb1
  have k1 : Below w.heap.size w w1 := (al_ w _).trans (hb1.mono (by simp))
  have hz1 : w.heap.size < w1.heap.size := by have := hb1.size; simp at this; omega
  have HBR1 := hid bR
  have HK1 := hid k1
  clear hb1 HG bR k1
  go_wp2_with fail
  refine (HP _ (HS.out.below HK1.out)).mono ?_
  rintro e w2 ⟨lv, hv, rfl, hpk, hb2⟩
  have HPK := hid hpk
  obtain ⟨za, zc, hze⟩ := hpk.1.slice
  obtain ⟨ya, yc, hye⟩ := hpk.2.1.slice
  subst hze
  subst hye
  have HBR := hid (HBR1.out.below hb2)
  have HK := hid (HK1.out.trans (hb2.mono HK1.out.size))
  clear hpk hb2 HP HBR1 HK1
  have bR := HBR.out
  have r0 := bR.2.1 0 _ rfl
  have r1 := bR.2.1 1 _ rfl
  have r2 := bR.2.1 2 _ rfl
  have r3 := bR.2.1 3 _ rfl
  have s0 := bR.2.2 0 (by simp)
  have s1 := bR.2.2 1 (by simp)
  have s2 := bR.2.2 2 (by simp)
  have s3 := bR.2.2 3 (by simp)
  have hrl := bR.1
  clear bR
  generalize hn1 : (packM l).lows.length = n1 at *
  generalize hn2 : (packM l).high.length = n2 at *
  go_wp2_with fail
  have c4 := boxSet4 (a' := .int .i64 l.length) (b' := .int .i64 L) (c' := .slice za n1 zc) (d' := .slice ya n2 yc) HBR.out
  have y0 := c4.2.1 0 _ rfl
  have y1 := c4.2.1 1 _ rfl
  have y2 := c4.2.1 2 _ rfl
  have y3 := c4.2.1 3 _ rfl
  clear r0 r1 r2 r3 s0 s1 s2 s3 c4
  refine bodyPost_ret (v := .tuple #[.agg #[.int .i64 l.length, .int .i64 L, .slice za n1 zc, .slice ya n2 yc], .bool true]) ?r rfl ?_
  case r => simp [y0, y1, y2, y3, results, Try.results15, go_sem]; try rfl
  refine ⟨_, _, rfl, (HPK.out.set4 hz1).mono (by omega), bel_set (bel_set (bel_set (bel_set HK.out (Nat.le_refl _) _ _) (Nat.le_refl _) _ _) (Nat.le_refl _) _ _) (Nat.le_refl _) _ _⟩
set_option maxHeartbeats 3200000 in
theorem specPackNo (v : Value) (l : List Int) (w : World) (h : IntsAt w v l) (hl : l.length ≤ 1048576) (hg : ¬ GoodL l) :
    Calls Try.prog 15 #[v] w fun e w' => e = .returned (.tuple #[.agg #[.int .i64 0, .int .i64 0, .slice none 0 0, .slice none 0 0], .bool false]) ∧ Below w.heap.size w w' := by
  have HS := hid h
  have HG := fun W hW => specGoodL v l false ⟨fun h => (by cases h), fun h => absurd h hg⟩ W hW hl
  obtain ⟨va, vc, rfl⟩ := h.slice
  clear h hg
  go_enter Try.func15, Try.ntmps15
  go_wp2_with fail
  refine (HG _ (HS.out.below (by go_grown))).mono ?_
  rintro e w1 ⟨rfl, hb1⟩
  have bR := (boxNew w #[.int .i64 0, .int .i64 0, .slice none 0 0, .slice none 0 0] 27).below hb1
  have k1 : Below w.heap.size w w1 := (al_ w _).trans (hb1.mono (by simp))
  have HBR := hid bR
  have HK := hid k1
  have r0 := bR.2.1 0 _ rfl
  have r1 := bR.2.1 1 _ rfl
  have r2 := bR.2.1 2 _ rfl
  have r3 := bR.2.1 3 _ rfl
  have s0 := bR.2.2 0 (by simp)
  have s1 := bR.2.2 1 (by simp)
  have s2 := bR.2.2 2 (by simp)
  have s3 := bR.2.2 3 (by simp)
  have hrl := bR.1
  clear hb1 HG bR k1
  go_wp2_with fail
  have c4 := boxSet4 (a' := .int .i64 0) (b' := .int .i64 0) (c' := .slice none 0 0) (d' := .slice none 0 0) HBR.out
  have y0 := c4.2.1 0 _ rfl
  have y1 := c4.2.1 1 _ rfl
  have y2 := c4.2.1 2 _ rfl
  have y3 := c4.2.1 3 _ rfl
  clear r0 r1 r2 r3 s0 s1 s2 s3 c4
  refine bodyPost_ret (v := .tuple #[.agg #[.int .i64 0, .int .i64 0, .slice none 0 0, .slice none 0 0], .bool false]) ?r rfl ?_
  case r => simp [y0, y1, y2, y3, results, Try.results15, go_sem]; try rfl
  exact ⟨rfl, bel_set (bel_set (bel_set (bel_set HK.out (Nat.le_refl _) _ _) (Nat.le_refl _) _ _) (Nat.le_refl _) _ _) (Nat.le_refl _) _ _⟩
end Go.Proofs.Ytaafdcghafbfhaa
