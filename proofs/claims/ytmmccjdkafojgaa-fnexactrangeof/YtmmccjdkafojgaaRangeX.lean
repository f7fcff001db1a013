/- Contracts of the program's ranges of a tree, and how many keys one has. Condition: the pages lie in memory. -/
import Derived.Test.YtmmccjdkafojgaaRangeA
import Derived.Test.YtmmccjdkafojgaaTreeArg
namespace Go.Proofs.Ytmmccjdkafojgaa
open Go.ChangeShapes Go.WideShapes Go.ChangeAt Go.RowKit Go.Deep
set_option linter.unusedVariables false
attribute [local go_sem ↓] Go.wp_at_zero Go.wp_at_succ

set_option maxHeartbeats 3200000 in
set_option maxRecDepth 100000 in
theorem rangeInYes {pages : List Pg} {t : Nd} (hh : Hand pages) (ht : TreeIs pages t) (f u : ByteArray) (hr : GoodR f u) (hf : f.size ≤ maxLen) (hu : u.size ≤ maxLen) (w : World) (x : Value) (hx : PgsAt w x pages) :
    Calls Try.prog 97 #[.agg #[x], .string f, .string u] w fun e w' => ∃ ku vu, e = .returned (.tuple #[.agg #[ku, vu], .bool true]) ∧ PrsAt w' ku vu (selP f u (allN t)) ∧ Below w.heap.size w w' := by
  have HO := fun o1 o2 => wholeYes hh ht ((w.alloc o1).alloc o2) x ((hx.below (al1 w o1)).below (al1 _ o2))
  have HG := hid (fun kv vv cv W => implAll t ht.shape ht.2.2.2.2 kv vv cv W)
  have H40 := hid ht.2.2.2.2
  have HGR := fun W => goodRangeB f u true (by simp [hr]) W hf hu
  have HKI := fun W => implKeyIn f u W
  obtain ⟨a, c, rfl⟩ := hx.slice
  clear hx ht hh hr
  go_enter Try.func97, Try.ntmps97
  go_wp2_with fail
  refine (HO _ _).mono ?_
  rintro e w1 ⟨a1, k1, a2, k2, a3, k3, rfl, hnd, hb⟩
  have hbz := hb.size
  simp only [World.size_alloc] at hbz
  have bR : BoxAt w1 (w.heap.size + 1) [.slice none 0 0, .slice none 0 0] := by
    have h0 := boxNew (w.alloc (.cells #[.slice a pages.length c] 25)) #[.slice none 0 0, .slice none 0 0] 88
    rw [World.size_alloc] at h0
    exact h0.below hb
  have kb : Below w.heap.size w w1 := (((Below.refl _ _).alloc (Nat.le_refl _) _).alloc (by simp) _).trans (hb.mono (by simp; omega))
  have HN := hid hnd
  have HBR := hid bR
  clear hb hnd HO bR
  go_wp2_with fail
  refine (HGR _).mono ?_
  rintro e w2 ⟨rfl, hw2⟩
  subst w2
  have HDD := HG.out _ _ _ (w1.alloc (.cells #[.slice a1 t.prs.length k1, .slice a2 t.prs.length k2, .slice a3 t.kids.length k3] 92)) (HN.out.below (al1 _ _))
  go_wp2_with fail
  refine HDD.mono ?_
  rintro e w3 ⟨ku, vu, rfl, hp, hb3⟩
  have k3 : Below w1.heap.size w1 w3 := ((Below.refl _ _).alloc (Nat.le_refl _) _).trans (hb3.mono (by simp))
  have HP3 := hid hp
  obtain ⟨ka, kc, rfl⟩ := hp.1.slice
  obtain ⟨va, vc, rfl⟩ := hp.2.slice
  clear hp hb3 HDD HG HN HGR
  go_wp2_with fail
  refine (HKI _).mono ?_
  rintro e w4 ⟨b1, b2, rfl, q1, q2, hq1, hq2, hb4⟩
  have k4 : Below w1.heap.size w1 w4 := k3.trans (hb4.mono k3.size)
  have HON := implOnly (allN t) f u _ _ w4 b1 b2 (HP3.out.below hb4) q1 q2 hq1 hq2 H40.out
  clear q1 q2 hq1 hq2 hb4 HKI HP3
  go_wp2_with fail
  refine HON.mono ?_
  rintro e w5 ⟨kx, vx, rfl, hp5, hb5⟩
  have k5 : Below w1.heap.size w1 w5 := k4.trans (hb5.mono k4.size)
  obtain ⟨xa, xc, rfl⟩ := hp5.1.slice
  obtain ⟨ya, yc, rfl⟩ := hp5.2.slice
  have bR5 := HBR.out.below k5
  have s0 := bR5.2.2 0 (by simp)
  have s1 := bR5.2.2 1 (by simp)
  have r0 := bR5.2.1 0 _ rfl
  have r1 := bR5.2.1 1 _ rfl
  have hl5 := bR5.1
  obtain ⟨A, hA⟩ : ∃ A, selP f u (allN t) = A := ⟨_, rfl⟩
  rw [hA] at hp5
  have HA := hid hA
  have kb5 : Below w.heap.size w w5 := kb.trans (k5.mono kb.size)
  have c1 := bR5.set 0 (.slice xa A.length xc)
  have c2 := c1.set 1 (.slice ya A.length yc)
  have y7 := c2.2.1 0 _ rfl
  have y8 := c2.2.1 1 _ rfl
  have HP2 := hid ((hp5.set (v := .slice xa A.length xc) bR5 (i := 0) (by simp) (by simp)).set (v := .slice ya A.length yc) c1 (i := 1) (by simp) (by simp))
  have HKB := hid (bel_set (bel_set kb5 (by omega : w.heap.size ≤ w.heap.size + 1) 0 (.slice xa A.length xc)) (by omega : w.heap.size ≤ w.heap.size + 1) 1 (.slice ya A.length yc))
  rw [hA]
  clear hp5 hb5 hA HON c1 c2 bR5
  go_wp2_with fail
  (try simp only [Exit.inBlock, Exit.then])
  refine bodyPost_ret (v := .tuple #[.agg #[.slice xa A.length xc, .slice ya A.length yc], .bool true]) ?r rfl ?_
  case r => simp [y7, y8, results, Try.results97, go_sem]; try rfl
  exact ⟨_, _, rfl, by rw [HA.out]; exact HP2.out, HKB.out⟩
theorem rangeRet (n : Bool) (W : World) (b : Nat) (hb : BoxAt W b [.slice none 0 0, .slice none 0 0]) : ((W.setCell ⟨b, 0, none⟩ (.slice none 0 0)).setCell ⟨b, 1, none⟩ (.slice none 0 0)).cell? ⟨b, 0, none⟩ = some (.slice none 0 0) ∧ ((W.setCell ⟨b, 0, none⟩ (.slice none 0 0)).setCell ⟨b, 1, none⟩ (.slice none 0 0)).cell? ⟨b, 1, none⟩ = some (.slice none 0 0) :=
  ⟨((hb.set 0 (.slice none 0 0)).set 1 (.slice none 0 0)).2.1 0 _ rfl, ((hb.set 0 (.slice none 0 0)).set 1 (.slice none 0 0)).2.1 1 _ rfl⟩
set_option maxHeartbeats 3200000 in
set_option maxRecDepth 100000 in
theorem rangeInOut {pages : List Pg} {t : Nd} (hh : Hand pages) (ht : TreeIs pages t) (f u : ByteArray) (hr : ¬ GoodR f u) (hf : f.size ≤ maxLen) (hu : u.size ≤ maxLen) (w : World) (x : Value) (hx : PgsAt w x pages) :
    Calls Try.prog 97 #[.agg #[x], .string f, .string u] w fun e w' => e = .returned (.tuple #[.agg #[.slice none 0 0, .slice none 0 0], .bool false]) ∧ Below w.heap.size w w' := by
  have HO := fun o1 o2 => wholeYes hh ht ((w.alloc o1).alloc o2) x ((hx.below (al1 w o1)).below (al1 _ o2))
  have HGR := fun W => goodRangeB f u false (by simp [hr]) W hf hu
  obtain ⟨a, c, rfl⟩ := hx.slice
  clear hx ht hh hr
  go_enter Try.func97, Try.ntmps97
  go_wp2_with fail
  refine (HO _ _).mono ?_
  rintro e w1 ⟨a1, k1, a2, k2, a3, k3, rfl, hnd, hb⟩
  have hbz := hb.size
  simp only [World.size_alloc] at hbz
  have bR : BoxAt w1 (w.heap.size + 1) [.slice none 0 0, .slice none 0 0] := by
    have h0 := boxNew (w.alloc (.cells #[.slice a pages.length c] 25)) #[.slice none 0 0, .slice none 0 0] 88
    rw [World.size_alloc] at h0
    exact h0.below hb
  have kb : Below w.heap.size w w1 := (((Below.refl _ _).alloc (Nat.le_refl _) _).alloc (by simp) _).trans (hb.mono (by simp; omega))
  clear hb hnd HO
  go_wp2_with fail
  refine (HGR _).mono ?_
  rintro e w2 ⟨rfl, hw2⟩
  subst w2
  have HKA : Hid (∀ o, Below w.heap.size w (((w1.alloc o).setCell ⟨w.heap.size + 1, 0, none⟩ (.slice none 0 0)).setCell ⟨w.heap.size + 1, 1, none⟩ (.slice none 0 0))) := fun o => bel_set (bel_set (kb.alloc kb.size o) (by omega) 0 _) (by omega) 1 _
  have bR5 := bR.below (al1 w1 (.cells #[.slice a1 t.prs.length k1, .slice a2 t.prs.length k2, .slice a3 t.kids.length k3] 92))
  have s0 := bR5.2.2 0 (by simp)
  have s1 := bR5.2.2 1 (by simp)
  have r0 := bR5.2.1 0 _ rfl
  have r1 := bR5.2.1 1 _ rfl
  have hl5 := bR5.1
  obtain ⟨y7, y8⟩ := rangeRet true _ _ bR5
  clear bR bR5 hbz kb
  go_wp2_with fail
  (try simp only [Exit.inBlock, Exit.then])
  refine bodyPost_ret (v := .tuple #[.agg #[.slice none 0 0, .slice none 0 0], .bool false]) ?r rfl ?_
  case r => simp [y7, y8, results, Try.results97, go_sem]; try rfl
  exact ⟨rfl, HKA.out _⟩
set_option maxHeartbeats 3200000 in
set_option maxRecDepth 100000 in
theorem rangeInNo {pages : List Pg} (hh : Hand pages) (ht : ∀ t, ¬ TreeIs pages t) (f u : ByteArray) (w : World) (x : Value) (hx : PgsAt w x pages) :
    Calls Try.prog 97 #[.agg #[x], .string f, .string u] w fun e w' => e = .returned (.tuple #[.agg #[.slice none 0 0, .slice none 0 0], .bool false]) ∧ Below w.heap.size w w' := by
  have HO := fun o1 o2 => wholeNo hh ht ((w.alloc o1).alloc o2) x ((hx.below (al1 w o1)).below (al1 _ o2))
  obtain ⟨a, c, rfl⟩ := hx.slice
  clear hx ht hh
  go_enter Try.func97, Try.ntmps97
  go_wp2_with fail
  refine (HO _ _).mono ?_
  rintro e w1 ⟨rfl, hb⟩
  have hbz := hb.size
  simp only [World.size_alloc] at hbz
  have bR : BoxAt w1 (w.heap.size + 1) [.slice none 0 0, .slice none 0 0] := by
    have h0 := boxNew (w.alloc (.cells #[.slice a pages.length c] 25)) #[.slice none 0 0, .slice none 0 0] 88
    rw [World.size_alloc] at h0
    exact h0.below hb
  have kb : Below w.heap.size w w1 := (((Below.refl _ _).alloc (Nat.le_refl _) _).alloc (by simp) _).trans (hb.mono (by simp; omega))
  have HKA : Hid (∀ o, Below w.heap.size w (((w1.alloc o).setCell ⟨w.heap.size + 1, 0, none⟩ (.slice none 0 0)).setCell ⟨w.heap.size + 1, 1, none⟩ (.slice none 0 0))) := fun o => bel_set (bel_set (kb.alloc kb.size o) (by omega) 0 _) (by omega) 1 _
  have bR5 := bR.below (al1 w1 (.cells #[.slice none 0 0, .slice none 0 0, .slice none 0 0] 92))
  have s0 := bR5.2.2 0 (by simp)
  have s1 := bR5.2.2 1 (by simp)
  have r0 := bR5.2.1 0 _ rfl
  have r1 := bR5.2.1 1 _ rfl
  have hl5 := bR5.1
  obtain ⟨y7, y8⟩ := rangeRet true _ _ bR5
  clear bR bR5 hb HO hbz kb
  go_wp2_with fail
  (try simp only [Exit.inBlock, Exit.then])
  refine bodyPost_ret (v := .tuple #[.agg #[.slice none 0 0, .slice none 0 0], .bool false]) ?r rfl ?_
  case r => simp [y7, y8, results, Try.results97, go_sem]; try rfl
  exact ⟨rfl, HKA.out _⟩
/-- How many keys of a tree are in a range, if it is a tree and a range. -/
theorem implCountYes {pages : List Pg} {t : Nd} (hh : Hand pages) (ht : TreeIs pages t) (f u : ByteArray) (hr : GoodR f u) (hf : f.size ≤ maxLen) (hu : u.size ≤ maxLen) (w : World) (x : Value) (hx : PgsAt w x pages) :
    Calls Try.prog 57 #[.agg #[x], .string f, .string u] w fun e w' => e = .returned (.tuple #[.int .i64 ((selP f u (allN t)).length : Nat), .bool true]) ∧ Below w.heap.size w w' := by
  have HO := fun o1 => rangeInYes hh ht f u hr hf hu (w.alloc o1) x (hx.below (al1 w o1))
  obtain ⟨a, c, rfl⟩ := hx.slice
  clear hx ht hh hr
  go_enter Try.func57, Try.ntmps57
  go_wp2_with fail
  refine (HO _).mono ?_
  rintro e w1 ⟨ku, vu, rfl, hp, hb⟩
  obtain ⟨ka, kc, rfl⟩ := hp.1.slice
  obtain ⟨va, vc, rfl⟩ := hp.2.slice
  have kb := belA hb
  clear hb HO hp
  go_wp2_with fail
  go_returns
  exact ⟨rfl, kb.alloc kb.size _⟩
theorem implCountOut {pages : List Pg} {t : Nd} (hh : Hand pages) (ht : TreeIs pages t) (f u : ByteArray) (hr : ¬ GoodR f u) (hf : f.size ≤ maxLen) (hu : u.size ≤ maxLen) (w : World) (x : Value) (hx : PgsAt w x pages) :
    Calls Try.prog 57 #[.agg #[x], .string f, .string u] w fun e w' => e = .returned (.tuple #[.int .i64 0, .bool false]) ∧ Below w.heap.size w w' := by
  have HO := fun o1 => rangeInOut hh ht f u hr hf hu (w.alloc o1) x (hx.below (al1 w o1))
  obtain ⟨a, c, rfl⟩ := hx.slice
  clear hx ht hh hr
  go_enter Try.func57, Try.ntmps57
  go_wp2_with fail
  refine (HO _).mono ?_
  rintro e w1 ⟨rfl, hb⟩
  have kb := belA hb
  clear hb HO
  go_wp2_with fail
  go_returns
  exact ⟨rfl, kb.alloc kb.size _⟩
theorem implCountNo {pages : List Pg} (hh : Hand pages) (ht : ∀ t, ¬ TreeIs pages t) (f u : ByteArray) (w : World) (x : Value) (hx : PgsAt w x pages) :
    Calls Try.prog 57 #[.agg #[x], .string f, .string u] w fun e w' => e = .returned (.tuple #[.int .i64 0, .bool false]) ∧ Below w.heap.size w w' := by
  have HO := fun o1 => rangeInNo hh ht f u (w.alloc o1) x (hx.below (al1 w o1))
  obtain ⟨a, c, rfl⟩ := hx.slice
  clear hx ht hh
  go_enter Try.func57, Try.ntmps57
  go_wp2_with fail
  refine (HO _).mono ?_
  rintro e w1 ⟨rfl, hb⟩
  have kb := belA hb
  clear hb HO
  go_wp2_with fail
  go_returns
  exact ⟨rfl, kb.alloc kb.size _⟩
end Go.Proofs.Ytmmccjdkafojgaa
