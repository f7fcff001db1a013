/- Contract of the model's drawing of two values. Condition: the bytes that are drawn from lie in memory. -/
import Derived.Test.YtolkiofdbdjfkaaDrawF
namespace Go.Proofs.Ytolkiofdbdjfkaa
open Go.ChangeShapes Go.WideShapes Go.ChangeAt Go.RowKit Go.Deep
set_option linter.unusedVariables false
attribute [local go_sem ↓] Go.wp_at_zero Go.wp_at_succ

set_option maxHeartbeats 6400000 in
set_option maxRecDepth 100000 in
theorem drawCmpV (v : Value) (n : Nat) (w : World) (h : CodeAt w v n) :
    Calls Try.prog 13 #[v] w fun e w' => ∃ a b : VV, e = .returned (.tuple #[encV a, encV b]) ∧ a.t.size ≤ 13 ∧ b.t.size ≤ 13 ∧ Below w.heap.size w w' := by
  obtain ⟨ad, c, rfl⟩ : ∃ ad c, v = .slice ad n c := by
    obtain ⟨ad, c, e, _⟩ := h
    exact ⟨ad, c, e⟩
  have hb0 := ((Below.refl w.heap.size w).alloc (Nat.le_refl _) (.cells #[.int .i64 0, .int .i64 0, .string ⟨#[]⟩] 24)).alloc (by simp) (.cells #[.int .i64 0, .int .i64 0, .string ⟨#[]⟩] 24)
  have hbel := hb0.alloc (by simp; omega) (.cells #[.slice ad n c, .int .i64 0, .int .u64 0] 69)
  have hcur := cur_new ((w.alloc (.cells #[.int .i64 0, .int .i64 0, .string ⟨#[]⟩] 24)).alloc (.cells #[.int .i64 0, .int .i64 0, .string ⟨#[]⟩] 24)) (.slice ad n c) 69
  simp only [World.size_alloc] at hcur
  have HK := valueIn (w.heap.size + 1 + 1) (.slice ad n c) n 0 _ hcur (h.bytes hbel (by omega)) (by omega)
  have HBE := hide hbel
  obtain ⟨q1, q2⟩ := boxOf2 (Below.refl _ _ : Below ((w.alloc (.cells #[.int .i64 0, .int .i64 0, .string ⟨#[]⟩] 24)).alloc (.cells #[.int .i64 0, .int .i64 0, .string ⟨#[]⟩] 24)).heap.size ((w.alloc (.cells #[.int .i64 0, .int .i64 0, .string ⟨#[]⟩] 24)).alloc (.cells #[.int .i64 0, .int .i64 0, .string ⟨#[]⟩] 24)) _)
  have HB1 := hide (q1.below ((Below.refl _ _).alloc (Nat.le_refl _) (.cells #[.slice ad n c, .int .i64 0, .int .u64 0] 69)))
  have HB2 := hide (q2.below ((Below.refl _ _).alloc (Nat.le_refl _) (.cells #[.slice ad n c, .int .i64 0, .int .u64 0] 69)))
  clear h hbel hb0 hcur q1 q2
  go_enter Try.func13, Try.ntmps13
  go_wp2_with fail
  refine HK.mono ?_
  rintro e w1 ⟨a, rfl, ha, hd⟩
  clear HK
  have k1 : Below w.heap.size w w1 := (unhide HBE).trans (gb_below hd.2.2 (by omega) (by simp; omega))
  have l1 := hd.2.2.size
  simp only [World.size_alloc] at l1
  replace HB1 := hide ((unhide HB1).grown hd.2.2 (by omega))
  replace HB2 := hide ((unhide HB2).grown hd.2.2 (by omega))
  obtain ⟨K, N, T⟩ := a
  unfold encV
  simp only [] at *
  have hnb : Below w1.heap.size w1 (w1.alloc (.cells #[.int .i64 K, .int .i64 N, .string T] 24)) := (Below.refl _ w1).alloc (Nat.le_refl _) _
  have HC1 := hide (hd.1.below hnb)
  have HY1 := hide (hd.2.1.kept (gb_of_below (g := w.heap.size + 1 + 1) hnb))
  have HA1 := hide (boxNew w1 #[.int .i64 K, .int .i64 N, .string T] 24)
  replace HB1 := hide ((unhide HB1).below hnb)
  replace HB2 := hide ((unhide HB2).below hnb)
  have kb : Below w.heap.size w (w1.alloc (.cells #[.int .i64 K, .int .i64 N, .string T] 24)) := k1.alloc (by omega) _
  have KB := hide kb
  clear hd hnb HBE kb k1
  go_wp2_with fail
  refine (oneIn (w.heap.size + 1 + 1) (.slice ad n c) n (0 + 6) 6 _ (unhide HC1) (unhide HY1) (by omega) (by omega) (by omega)).mono ?_
  rintro e w2 ⟨o, rfl, hd2⟩
  have l2 := hd2.2.2.size
  simp only [World.size_alloc] at l2
  have k2 : Below w.heap.size w w2 := (unhide KB).trans (gb_below hd2.2.2 (by omega) (by simp; omega))
  replace HA1 := hide ((unhide HA1).grown hd2.2.2 (by omega))
  replace HB1 := hide ((unhide HB1).grown hd2.2.2 (by omega))
  replace HB2 := hide ((unhide HB2).grown hd2.2.2 (by omega))
  have HC2 := hide hd2.1
  have HY2 := hide hd2.2.1
  clear hd2 KB HC1 HY1
  have a0 := (unhide HA1).2.1 0 _ rfl
  have a1 := (unhide HA1).2.1 1 _ rfl
  have a2 := (unhide HA1).2.1 2 _ rfl
  have hn1 : w1.heap.size ≠ w.heap.size := by omega
  have hn2 : w1.heap.size ≠ w.heap.size + 1 := by omega
  have hn3 : w.heap.size ≠ w1.heap.size := by omega
  have hn4 : w.heap.size + 1 ≠ w1.heap.size := by omega
  cases o
  · go_upto_region 5 with fail
    have HCd := hide ((unhide HC2).below ((Below.refl _ w2).drew))
    have HYd := hide ((unhide HY2).kept (gb_of_below (g := w.heap.size + 1 + 1) ((Below.refl _ w2).drew)))
    have HVI := valueIn (w.heap.size + 1 + 1) (.slice ad n c) n (0 + 6 + 2) w2.drew (unhide HCd) (unhide HYd) (by omega)
    go_region_held3 (fun w' => w'.cell? ⟨w1.heap.size, 0, none⟩ = some (.int .i64 K) ∧ w'.cell? ⟨w1.heap.size, 1, none⟩ = some (.int .i64 N) ∧ w'.cell? ⟨w1.heap.size, 2, none⟩ = some (.string T)) (go_keep)
      (first
        | (go_at_call 46; refine HVI.mono ?_; rintro e w3 ⟨u, rfl, hu, hd3⟩; have hA3 := (unhide HA1).drew.grown hd3.2.2 (by omega); have x0 := hA3.2.1 0 _ rfl; have x1 := hA3.2.1 1 _ rfl; have x2 := hA3.2.1 2 _ rfl; have hB3 := (unhide HB1).drew.grown hd3.2.2 (by omega); have hE3 := (unhide HB2).drew.grown hd3.2.2 (by omega); have y0 := hB3.2.1 0 _ rfl; have y1 := hB3.2.1 1 _ rfl; have y2 := hB3.2.1 2 _ rfl; have z0 := hE3.2.1 0 _ rfl; have z1 := hE3.2.1 1 _ rfl; have z2 := hE3.2.1 2 _ rfl; have fy0 := hB3.2.2 0 (by simp); have fy1 := hB3.2.2 1 (by simp); have fy2 := hB3.2.2 2 (by simp); have fz0 := hE3.2.2 0 (by simp); have fz1 := hE3.2.2 1 (by simp); have fz2 := hE3.2.2 2 (by simp); have k3 : Below w.heap.size w w3 := (by exact (k2.drew).trans (gb_below hd3.2.2 (by omega) (by simp; omega))); obtain ⟨K2, N2, T2⟩ := u; unfold encV; simp only [] at hu; clear hd3))
    all_goals go_wp2
    all_goals (try simp only [Exit.inBlock, Exit.then])
    all_goals refine bodyPost_ret (by simp [*, results, Try.results13, go_sem]; try rfl) rfl ?_
    all_goals exact ⟨⟨K, N, T⟩, ⟨K2, N2, T2⟩, rfl, ha, hu, by go_grown⟩
  · have b0 := (unhide HB1).2.1 0 _ rfl
    have b1 := (unhide HB1).2.1 1 _ rfl
    have b2 := (unhide HB1).2.1 2 _ rfl
    have c0 := (unhide HB2).2.1 0 _ rfl
    have c1 := (unhide HB2).2.1 1 _ rfl
    have c2 := (unhide HB2).2.1 2 _ rfl
    have f0 := (unhide HB1).2.2 0 (by simp)
    have f1 := (unhide HB1).2.2 1 (by simp)
    have f2 := (unhide HB1).2.2 2 (by simp)
    have f3 := (unhide HB2).2.2 0 (by simp)
    have f4 := (unhide HB2).2.2 1 (by simp)
    have f5 := (unhide HB2).2.2 2 (by simp)
    go_upto_region 4 with fail
    go_region
    go_wp2
    (try simp only [Exit.inBlock, Exit.then])
    refine bodyPost_ret (by simp [*, results, Try.results13, go_sem]; try rfl) rfl ?_
    exact ⟨⟨K, N, T⟩, ⟨K, N, T⟩, rfl, ha, ha, by go_grown⟩
end Go.Proofs.Ytolkiofdbdjfkaa
