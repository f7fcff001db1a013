/- Contract of the program's reading of a whole tree. Condition: the pages lie in memory. -/
import Derived.Test.YtgjcegmjhkehnaaDoorImplRd6
import Derived.Test.YtgjcegmjhkehnaaDoorSpecEx
namespace Go.Proofs.YtgjcegmjhkehnaaDoor
open Go.ChangeShapes Go.WideShapes Go.ChangeAt Go.RowKit Go.Deep
set_option linter.unusedVariables false
attribute [local go_sem ↓] Go.wp_at_zero Go.wp_at_succ

def rs0 : RS := ⟨0, 0, ByteArray.empty, 0⟩
theorem tree_of_read {pages : List Pg} {t : Nd} {h : Nat} (hr : ReadIs pages 41 1 rs0 t pages.length h) : TreeIs pages t := by
  obtain ⟨h1, h2, h3, _, h5, h6⟩ := hr
  refine TreeIs.of h1 ⟨⟨h, h3⟩, ?_, h5, ?_⟩
  · rw [if_pos (by rfl)] at h2; exact h2
  · have : rs0.many + (allN t).length ≤ 40 := h6
    simp only [rs0] at this; omega
theorem read_of_tree {pages : List Pg} {t : Nd} (ht : TreeIs pages t) : ∃ h, ReadIs pages 41 1 rs0 t pages.length h := by
  obtain ⟨h1, ⟨h, h2⟩, h3, h4, h5⟩ := ht
  exact ⟨h, readM_mono (by omega) h1, by rw [if_pos (by rfl)]; exact h3, h2, .inl rfl, h4, by simp only [rs0]; omega⟩
theorem rowP_of {w W : World} {r size m : Nat} {x : Value} {xs : List Value} (h : RowsAt w size x m xs) (hb : Below w.heap.size w W) (hr : w.heap.size ≤ r) : RowP (· < r) W size x m xs := by
  refine ⟨h.below hb, fun b off sp n c e => ?_⟩
  obtain ⟨h1, ao, c', he, h3, h4, h5⟩ := h
  rw [e] at he
  cases he
  rcases h5 with h5 | ⟨b', off', he', hl, hc⟩
  · exact .inl h5
  · cases he'
    exact .inr (by omega)
theorem pgsR_of {w W : World} {r : Nat} {x : Value} {pages : List Pg} (h : PgsAt w x pages) (hb : Below w.heap.size w W) (hr : w.heap.size ≤ r) : PgsR r W x pages := by
  rcases h with h | ⟨b, off, cap, rfl, hl, h⟩
  · exact .inl h
  · refine .inr ⟨b, off, cap, rfl, Nat.lt_of_lt_of_le hl hb.size, by omega, fun i hi => ?_⟩
    obtain ⟨kv, vv, cv, h1, h2, h3, h4, h5, h6⟩ := h i hi
    exact ⟨kv, vv, cv, (hb.cell (p := ⟨b, off + i * 3, none⟩) hl).trans h1, (hb.cell (p := ⟨b, off + i * 3 + 1, none⟩) hl).trans h2, (hb.cell (p := ⟨b, off + i * 3 + 2, none⟩) hl).trans h3, rowP_of h4 hb hr, rowP_of h5 hb hr, rowP_of h6 hb hr⟩
def WPost (pages : List Pg) (e : Ending) (w' : World) : Prop :=
  (∃ t kv vv cv, TreeIs pages t ∧ e = .returned (.tuple #[.agg #[kv, vv, cv], .int .i64 ((allN t).length : Nat), .bool true]) ∧ NodeP (fun _ => True) w' t kv vv cv) ∨
    ((∀ t, ¬ TreeIs pages t) ∧ e = .returned (.tuple #[zeroN, .int .i64 0, .bool false]))
set_option maxHeartbeats 3200000 in
theorem wholeIs {pages : List Pg} (hh : Hand pages) (w : World) (x : Value) (hx : PgsAt w x pages) :
    Calls Tryd.prog 64 #[.agg #[x]] w fun e w' => WPost pages e w' ∧ Below w.heap.size w w' := by
  obtain ⟨hsm, htx⟩ := hh
  have hpl := hsm.1
  have HX := hid hx
  obtain ⟨a, c, rfl⟩ := hx.slice
  clear hx
  obtain ⟨W1, hW1⟩ : ∃ W1, W1 = (w.alloc (.cells #[.slice a pages.length c] 44)).alloc (.cells #[.slice none 0 0, .slice none 0 0, .slice none 0 0] 117) := ⟨_, rfl⟩
  have kb1 : Below w.heap.size w W1 := by rw [hW1]; exact ((Below.refl _ _).alloc (Nat.le_refl _) _).alloc (by simp) _
  have hz1 : W1.heap.size = w.heap.size + 1 + 1 := by rw [hW1]; simp
  have b1 : BoxAt W1 w.heap.size [.slice a pages.length c] := by rw [hW1]; exact (boxNew w #[.slice a pages.length c] 44).below (al1 _ _)
  have b2 : BoxAt W1 (w.heap.size + 1) [.slice none 0 0, .slice none 0 0, .slice none 0 0] := by
    rw [hW1]
    have := boxNew (w.alloc (.cells #[.slice a pages.length c] 44)) #[.slice none 0 0, .slice none 0 0, .slice none 0 0] 117
    rwa [World.size_alloc] at this
  obtain ⟨W2, hW2⟩ : ∃ W2, W2 = W1.alloc (.cells #[.slice a pages.length c, .int .i64 0, .int .i64 0, .string ⟨#[]⟩, .int .i64 0] 182) := ⟨_, rfl⟩
  have kb2 : Below W1.heap.size W1 W2 := by rw [hW2]; exact al1 _ _
  have hz2 : W2.heap.size = W1.heap.size + 1 := by rw [hW2]; simp
  have b3 : BoxAt W2 W1.heap.size (stV (.slice a pages.length c) rs0) := by rw [hW2]; exact boxNew W1 #[.slice a pages.length c, .int .i64 0, .int .i64 0, .string ⟨#[]⟩, .int .i64 0] 182
  have HP2 : Hid (PgsR w.heap.size W2 (.slice a pages.length c) pages) := pgsR_of HX.out (kb1.trans (kb2.mono kb1.size)) (Nat.le_refl _)
  have HRD := implRead pages hsm htx W1.heap.size w.heap.size kb1.size (.slice a pages.length c) 41 1 rs0 W2 (by omega) (by omega) (by simp [rs0]) (by simp [rs0]) (by simp [rs0]) (by simp [rs0]) b3 HP2.out
  have HB1 := hid (b1.below kb2)
  have HB2 := hid (b2.below kb2)
  have a0 := b1.2.1 0 _ rfl
  have hl0 := b1.1
  go_enter Tryd.func64, Tryd.ntmps64
  go_upto_region 1 with fail
  rw [← hW1]
  clear hW1 b1 b2 b3
  go_wp2_with fail
  rw [← hW2, ← hz1]
  clear hW2
  refine HRD.mono ?_
  rintro e w3 ⟨hpost, ko⟩
  clear HRD
  have kb3 : Below w.heap.size w w3 := (kb1.trans (kb2.mono kb1.size)).trans ((ko.below (B := w.heap.size) (by omega) (by simp; omega)))
  have hz3 := ko.size
  have HB4 := hid (HB1.out.off ko (by simp; omega))
  have HB5 := hid (HB2.out.off ko (by simp; omega))
  have t0 := HB4.out.2.1 0 _ rfl
  have r0 := HB5.out.2.1 0 _ rfl
  have r1 := HB5.out.2.1 1 _ rfl
  have r2 := HB5.out.2.1 2 _ rfl
  have s0 := HB5.out.2.2 0 (by simp)
  have s1 := HB5.out.2.2 1 (by simp)
  have s2 := HB5.out.2.2 2 (by simp)
  have hl4 := HB4.out.1
  have hl5 := HB5.out.1
  have HK3 := hid kb3
  have g1 : w.heap.size + 1 < W1.heap.size := by omega
  have g2 : W1.heap.size < w3.heap.size := by omega
  have g3 : w.heap.size + 1 < W2.heap.size := by omega
  clear a0 hl0 HB1 HB2 kb1 kb2 hz1 hz2
  rcases hpost with ⟨t, nx, h, kv, vv, cv, hr, rfl, hn, hbx⟩ | ⟨hno, rfl⟩
  · obtain ⟨a1, k1, a2, k2, a3, k3, e1, e2, e3⟩ := hn.slices
    subst e1
    subst e2
    subst e3
    have m1 := hbx.2.1 1 _ rfl
    have m2 := hbx.2.1 2 _ rfl
    simp only [upd, rs0, Nat.zero_add] at m1 m2
    have hl3 := hbx.1
    have HN3 := hid (NodeP.mono (Q := fun g => g ≠ w.heap.size + 1) (fun g hg _ => by omega) hn)
    by_cases hnx : nx = pages.length
    · have HT : Hid (TreeIs pages t) := by subst hnx; exact tree_of_read hr
      have hbe : ((nx : Int) != (pages.length : Int)) = false := by rw [hnx]; simp
      clear hr hbx hn hnx
      go_upto_region 5 with fail
      have f0 : (w3.alloc (.cells #[.slice a1 t.prs.length k1, .slice a2 t.prs.length k2, .slice a3 t.kids.length k3] 117)).cell? ⟨w3.heap.size, 0, none⟩ = some (.slice a1 t.prs.length k1) := by simp
      obtain ⟨W4, hW4⟩ : ∃ W4, W4 = w3.alloc (.cells #[.slice a1 t.prs.length k1, .slice a2 t.prs.length k2, .slice a3 t.kids.length k3] 117) := ⟨_, rfl⟩
      have kb4 : Below w3.heap.size w3 W4 := by rw [hW4]; exact al1 _ _
      have b6 : BoxAt W4 w3.heap.size [.slice a1 t.prs.length k1, .slice a2 t.prs.length k2, .slice a3 t.kids.length k3] := by rw [hW4]; exact boxNew w3 _ _
      rw [← hW4]
      have b5 := HB5.out.below kb4
      have q0 := b6.2.1 0 _ rfl
      have q1 := b6.2.1 1 _ rfl
      have q2 := b6.2.1 2 _ rfl
      have m2' := (kb4.cell (p := ⟨W1.heap.size, 2, none⟩) hl3).trans m2
      have hl6 := b6.1
      have hl7 : w.heap.size + 1 < W4.heap.size := b5.1
      have hl8 : W1.heap.size < W4.heap.size := Nat.lt_of_lt_of_le hl3 kb4.size
      have r0 := b5.2.1 0 _ rfl
      have r1 := b5.2.1 1 _ rfl
      have r2 := b5.2.1 2 _ rfl
      have s0 := b5.2.2 0 (by simp)
      have s1 := b5.2.2 1 (by simp)
      have s2 := b5.2.2 2 (by simp)
      have n1 : w.heap.size + 1 ≠ w3.heap.size := by omega
      have n2 : w.heap.size + 1 ≠ W1.heap.size := by omega
      have HK4 := hid (HK3.out.trans (kb4.mono HK3.out.size))
      have HN4 := hid (HN3.out.below kb4)
      have B5 := hid b5
      have HLW : Hid (W1.heap.size + 1 ≤ w3.heap.size) := by show _ ≤ _; omega
      clear f0 hW4 b6 b5 m1 m2 hbe hl3 hl4 hl5 t0 kb4
      go_region
      all_goals
        go_wp2_with fail
        have r0' := ((((B5.out.set 0 (.slice a1 t.prs.length k1)).set 1 (.slice a2 t.prs.length k2)).set 2 (.slice a3 t.kids.length k3))).2.1 0 _ rfl
        have r1' := ((((B5.out.set 0 (.slice a1 t.prs.length k1)).set 1 (.slice a2 t.prs.length k2)).set 2 (.slice a3 t.kids.length k3))).2.1 1 _ rfl
        have r2' := ((((B5.out.set 0 (.slice a1 t.prs.length k1)).set 1 (.slice a2 t.prs.length k2)).set 2 (.slice a3 t.kids.length k3))).2.1 2 _ rfl
        refine bodyPost_ret (by simp [r0', r1', r2', results, Tryd.results64, go_sem]; try rfl) rfl ?_
        refine ⟨.inl ⟨t, _, _, _, HT.out, rfl, ?_⟩, ?_⟩
        · refine NodeP.mono (fun _ _ _ => trivial) (NodeP.off (P := fun g => g ≠ w.heap.size + 1) (S := [w.heap.size + 1]) ?_ (fun g hg hm => hg (by simpa using hm)) HN4.out)
          exact ⟨rfl, rfl, rfl, by simp [World.setCell], fun k hk hm => by show (((W4.setCell _ _).setCell _ _).setCell _ _).heap[k]? = _; rw [setCell_other _ _ _ _ _ (by simpa using hm), setCell_other _ _ _ _ _ (by simpa using hm), setCell_other _ _ _ _ _ (by simpa using hm)]⟩
        · exact Below.drew (bel_set (bel_set (bel_set HK4.out (by omega) _ _) (by omega) _ _) (by omega) _ _)
    · have HT : Hid (∀ t', ¬ TreeIs pages t') := by
        intro t' ht'
        obtain ⟨h', hr'⟩ := read_of_tree ht'
        have := hr'.1.symm.trans hr.1
        simp at this
        exact hnx this.2.symm
      have hbe : ((nx : Int) != (pages.length : Int)) = true := by rw [bne, beq_false_of_ne (by omega)]; rfl
      clear hr hbx hn hnx
      go_wp2_with fail
      refine bodyPost_ret (by simp [*, results, Tryd.results64, go_sem]; try rfl) rfl ?_
      have hk3 := HK3.out
      exact ⟨.inr ⟨HT.out, rfl⟩, by go_grown⟩
  · have HT : Hid (∀ t', ¬ TreeIs pages t') := by
      intro t' ht'
      obtain ⟨h', hr'⟩ := read_of_tree ht'
      exact hno _ _ _ hr'
    clear hno
    unfold zeroN
    go_wp2_with fail
    refine bodyPost_ret (by simp [*, results, Tryd.results64, go_sem]; try rfl) rfl ?_
    have hk3 := HK3.out
    exact ⟨.inr ⟨HT.out, rfl⟩, by go_grown⟩
end Go.Proofs.YtgjcegmjhkehnaaDoor
