/- Contracts of AtPlace, model and program. Condition: the pages lie in memory. -/
import Derived.Test.YtmmccjdkafojgaaImplAl
import Derived.Test.YtmmccjdkafojgaaImplT
import Derived.Test.YtmmccjdkafojgaaImplGt
import Derived.Test.YtmmccjdkafojgaaSpecEx
namespace Go.Proofs.Ytmmccjdkafojgaa
open Go.ChangeShapes Go.WideShapes Go.ChangeAt Go.RowKit Go.Deep
set_option linter.unusedVariables false
attribute [local go_sem ↓] Go.wp_at_zero Go.wp_at_succ

set_option maxHeartbeats 3200000 in
theorem specAtYes {pages : List Pg} {t : Nd} (hh : Hand pages) (h : TreeIs pages t) (n : Nat) (hn : n < (allN t).length) (w : World) (x : Value) (hx : PgsAt w x pages) :
    Calls Try.prog 58 #[.agg #[x], .int .i64 n] w fun e w' => e = .returned (.tuple #[.string ((allN t).getD n default).1, .string ((allN t).getD n default).2, .bool true]) ∧ Below w.heap.size w w' := by
  have HO := fun o => specOfYes hh h (w.alloc o) x (hx.below (al1 w o))
  have HS := hid h.shape
  have H40 := hid h.2.2.2.2
  obtain ⟨a, c, rfl⟩ := hx.slice
  have i0 : (0 : Int) ≤ (n : Int) := by omega
  have i1 : (n : Int) < ((allN t).length : Int) := by omega
  have i2 : ¬ ((n : Int) < 0) := by omega
  have i3 : ¬ (((allN t).length : Int) ≤ (n : Int)) := by omega
  clear hx h hh
  go_enter Try.func58, Try.ntmps58
  go_wp2_with fail
  refine (HO _).mono ?_
  rintro e w1 ⟨b, F, rfl, hot, hb⟩
  have kb := belA hb
  have kl := kb.size
  have h40 := H40.out
  have HI := specAll _ w1.heap.size t HS.out w1 _ (.slice none 0 0) (.slice none 0 0) F [] hot (fun g hg => (hot.lt g hg).2) (Nat.le_refl _) (Acc.nil _ _) (by simp only [List.length_nil]; omega)
  clear hb HO hot
  go_wp2_with fail
  refine HI.mono ?_
  rintro e w2 ⟨kv, vv, rfl, hacc, hb2⟩
  simp only [List.nil_append] at hacc
  have r1 := rows_of_ownS hacc.1
  have r2 := rows_of_ownS hacc.2.1
  obtain ⟨b1, o1, d1, rfl, hb1, hcl1⟩ := r1.cell1 hn
  obtain ⟨b2, o2, d2, rfl, hb2', hcl2⟩ := r2.cell1 hn
  rw [keysV_get _ _ hn] at hcl1
  rw [valsV_get _ _ hn] at hcl2
  obtain ⟨⟨qk, qv⟩, hq⟩ : ∃ q, (allN t).getD n default = q := ⟨_, rfl⟩
  rw [hq] at hcl1 hcl2
  have HQ := hid hq
  have kb2 : Below w.heap.size w w2 := kb.trans (hb2.mono kl)
  generalize (allN t).length = m at *
  clear hacc HI r1 r2 hb2 hq kl h40 H40
  go_upto_region 7 with fail
  go_region
  go_wp2_with fail
  go_returns
  exact ⟨by rw [HQ.out]; rfl, Below.drew kb2⟩
set_option maxHeartbeats 3200000 in
theorem specAtOut {pages : List Pg} {t : Nd} (hh : Hand pages) (h : TreeIs pages t) (n : Int) (hn : ¬ (0 ≤ n ∧ n < ((allN t).length : Int))) (w : World) (x : Value) (hx : PgsAt w x pages) :
    Calls Try.prog 58 #[.agg #[x], .int .i64 n] w fun e w' => e = .returned (.tuple #[.string ⟨#[]⟩, .string ⟨#[]⟩, .bool false]) ∧ Below w.heap.size w w' := by
  have HO := fun o => specOfYes hh h (w.alloc o) x (hx.below (al1 w o))
  have HS := hid h.shape
  have H40 := hid h.2.2.2.2
  obtain ⟨a, c, rfl⟩ := hx.slice
  clear hx h hh
  by_cases i2 : n < 0
  · clear hn
    go_enter Try.func58, Try.ntmps58
    go_wp2_with fail
    refine (HO _).mono ?_
    rintro e w1 ⟨b, F, rfl, hot, hb⟩
    have kb := belA hb
    have kl := kb.size
    have h40 := H40.out
    have HI := specAll _ w1.heap.size t HS.out w1 _ (.slice none 0 0) (.slice none 0 0) F [] hot (fun g hg => (hot.lt g hg).2) (Nat.le_refl _) (Acc.nil _ _) (by simp only [List.length_nil]; omega)
    clear hb HO hot
    go_wp2_with fail
    refine HI.mono ?_
    rintro e w2 ⟨kv, vv, rfl, hacc, hb2⟩
    simp only [List.nil_append] at hacc
    obtain ⟨xa, xc, rfl⟩ := (rows_of_ownS hacc.1).slice
    have kb2 : Below w.heap.size w w2 := kb.trans (hb2.mono kl)
    clear hacc HI hb2
    go_wp2_with fail
    go_returns
    exact ⟨rfl, kb2⟩
  · have i3 : ((allN t).length : Int) ≤ n := by omega
    clear hn
    go_enter Try.func58, Try.ntmps58
    go_wp2_with fail
    refine (HO _).mono ?_
    rintro e w1 ⟨b, F, rfl, hot, hb⟩
    have kb := belA hb
    have kl := kb.size
    have h40 := H40.out
    have HI := specAll _ w1.heap.size t HS.out w1 _ (.slice none 0 0) (.slice none 0 0) F [] hot (fun g hg => (hot.lt g hg).2) (Nat.le_refl _) (Acc.nil _ _) (by simp only [List.length_nil]; omega)
    clear hb HO hot
    go_wp2_with fail
    refine HI.mono ?_
    rintro e w2 ⟨kv, vv, rfl, hacc, hb2⟩
    simp only [List.nil_append] at hacc
    obtain ⟨xa, xc, rfl⟩ := (rows_of_ownS hacc.1).slice
    have kb2 : Below w.heap.size w w2 := kb.trans (hb2.mono kl)
    clear hacc HI hb2
    go_wp2_with fail
    go_returns
    exact ⟨rfl, kb2⟩
theorem specAtNo {pages : List Pg} (hh : Hand pages) (h : ∀ t, ¬ TreeIs pages t) (n : Int) (w : World) (x : Value) (hx : PgsAt w x pages) :
    Calls Try.prog 58 #[.agg #[x], .int .i64 n] w fun e w' => e = .returned (.tuple #[.string ⟨#[]⟩, .string ⟨#[]⟩, .bool false]) ∧ Below w.heap.size w w' := by
  have HO := fun o => specOfNo hh h (w.alloc o) x (hx.below (al1 w o))
  obtain ⟨a, c, rfl⟩ := hx.slice
  clear hx h hh
  go_enter Try.func58, Try.ntmps58
  go_wp2_with fail
  refine (HO _).mono ?_
  rintro e w1 ⟨rfl, hb⟩
  have kb := belA hb
  clear hb HO
  go_wp2_with fail
  go_returns
  exact ⟨rfl, kb⟩
set_option maxHeartbeats 3200000 in
theorem implAtYes {pages : List Pg} {t : Nd} (hh : Hand pages) (ht : TreeIs pages t) (n : Nat) (hn : n < (allN t).length) (w : World) (x : Value) (hx : PgsAt w x pages) :
    Calls Try.prog 59 #[.agg #[x], .int .i64 n] w fun e w' => e = .returned (.tuple #[.string ((allN t).getD n default).1, .string ((allN t).getD n default).2, .bool true]) ∧ Below w.heap.size w w' := by
  have HO := fun o => wholeYes hh ht (w.alloc o) x (hx.below (al1 w o))
  have HG := hid (fun kv vv cv W => implAll t ht.shape ht.2.2.2.2 kv vv cv W)
  have hgd := rise_gd ht.2.2.2.1 _ (show (allN t).getD n default ∈ allN t by simp [List.getD, hn])
  obtain ⟨⟨qk, qv⟩, hq⟩ : ∃ q, (allN t).getD n default = q := ⟨_, rfl⟩
  rw [hq] at hgd ⊢
  have HQ := hid hq
  have HC1 := fun W => implClone qk W hgd.2.1
  have HC2 := fun W => implClone qv W hgd.2.2
  obtain ⟨a, c, rfl⟩ := hx.slice
  have i0 : (0 : Int) ≤ (n : Int) := by omega
  have i1 : (n : Int) < ((allN t).length : Int) := by omega
  have i2 : ¬ ((n : Int) < 0) := by omega
  have i3 : ¬ (((allN t).length : Int) ≤ (n : Int)) := by omega
  clear hx ht hh hq hgd
  go_enter Try.func59, Try.ntmps59
  go_wp2_with fail
  refine (HO _).mono ?_
  rintro e w1 ⟨a1, k1, a2, k2, a3, k3, rfl, hnd, hb⟩
  have kb := belA hb
  have HN := hid hnd
  have HDD := HG.out _ _ _ (w1.alloc (.cells #[.slice a1 t.prs.length k1, .slice a2 t.prs.length k2, .slice a3 t.kids.length k3] 92)) (HN.out.below (al1 _ _))
  clear hb hnd HO
  go_wp2_with fail
  refine HDD.mono ?_
  rintro e w2 ⟨ku, vu, rfl, hp, hb2⟩
  obtain ⟨b1, o1, d1, rfl, hb1, hcl1⟩ := hp.1.cell1 hn
  obtain ⟨b2, o2, d2, rfl, hb2', hcl2⟩ := hp.2.cell1 hn
  rw [keysV_get _ _ hn, HQ.out] at hcl1
  rw [valsV_get _ _ hn, HQ.out] at hcl2
  have kb2 : Below w.heap.size w w2 := kb.trans ((belA hb2).mono kb.size)
  generalize (allN t).length = m at *
  clear hb2 HDD HG hp hn HQ HN
  go_upto_region 5 with fail
  obtain ⟨lb, hlb⟩ : ∃ lb, lb = w2.heap.size := ⟨_, rfl⟩
  obtain ⟨W3, hW3⟩ : ∃ W3, W3 = w2.alloc (.cells #[.slice (some ⟨b1, o1, none⟩) m d1, .slice (some ⟨b2, o2, none⟩) m d2] 88) := ⟨_, rfl⟩
  have bL : BoxAt W3 lb [.slice (some ⟨b1, o1, none⟩) m d1, .slice (some ⟨b2, o2, none⟩) m d2] := by rw [hW3, hlb]; exact boxNew w2 _ _
  have kb3 : Below w2.heap.size w2 W3 := by rw [hW3]; exact al1 _ _
  rw [← hW3, ← hlb]
  have hx1 := (kb3.cell (p := ⟨b1, o1 + n, none⟩) hb1).trans hcl1
  have hx2 := (kb3.cell (p := ⟨b2, o2 + n, none⟩) hb2').trans hcl2
  have hq1 := Nat.lt_of_lt_of_le hb1 kb3.size
  have hq2 := Nat.lt_of_lt_of_le hb2' kb3.size
  have z0 := bL.2.1 0 _ rfl
  have z1 := bL.2.1 1 _ rfl
  have zl := bL.1
  have HSK : Hid (∀ W, Below W3.heap.size W3 W → (fun w' : World => w'.cell? ⟨lb, 0, none⟩ = some (.slice (some ⟨b1, o1, none⟩) m d1) ∧ w'.cell? ⟨lb, 1, none⟩ = some (.slice (some ⟨b2, o2, none⟩) m d2) ∧ w'.cell? ⟨b1, o1 + n, none⟩ = some (.string qk) ∧ w'.cell? ⟨b2, o2 + n, none⟩ = some (.string qv)) W) := fun W hW =>
    ⟨(hW.cell zl).trans z0, (hW.cell zl).trans z1, (hW.cell hq1).trans hx1, (hW.cell hq2).trans hx2⟩
  have HK3 : Hid (Below w.heap.size w W3) := kb2.trans (kb3.mono kb2.size)
  have HZ3 : Hid (w.heap.size ≤ W3.heap.size) := Nat.le_trans kb2.size kb3.size
  have kd : Below W3.heap.size W3 W3.drew := Below.drew (Below.refl _ _)
  clear hW3 hlb bL kb3 hx1 hx2 hcl1 hcl2 z0 z1 zl hq1 hq2 hb1 hb2' kb2
  go_region_held3 (fun w' => w'.cell? ⟨lb, 0, none⟩ = some (.slice (some ⟨b1, o1, none⟩) m d1) ∧ w'.cell? ⟨lb, 1, none⟩ = some (.slice (some ⟨b2, o2, none⟩) m d2) ∧ w'.cell? ⟨b1, o1 + n, none⟩ = some (.string qk) ∧ w'.cell? ⟨b2, o2 + n, none⟩ = some (.string qv)) (first | exact HSK.out _ k5 | exact HSK.out _ k4 | exact HSK.out _ kd)
    (first
      | (go_at_call_of 77 (Value.string qk); refine (HC1 _).mono ?_; rintro e w4 ⟨rfl, hb4⟩; have k4 : Below W3.heap.size W3 w4 := (by exact Below.trans kd (hb4.mono (by simp))); clear hb4)
      | (go_at_call_of 77 (Value.string qv); refine (HC2 _).mono ?_; rintro e w5 ⟨rfl, hb5⟩; have k5 : Below W3.heap.size W3 w5 := (by exact Below.trans k4 (hb5.mono k4.size)); clear hb5))
  all_goals
    have hfin := HK3.out.trans (k5.mono HZ3.out)
    go_wp2_with fail
    go_returns
    exact ⟨rfl, hfin⟩
set_option maxHeartbeats 3200000 in
theorem implAtOut {pages : List Pg} {t : Nd} (hh : Hand pages) (ht : TreeIs pages t) (n : Int) (hn : ¬ (0 ≤ n ∧ n < ((allN t).length : Int))) (w : World) (x : Value) (hx : PgsAt w x pages) :
    Calls Try.prog 59 #[.agg #[x], .int .i64 n] w fun e w' => e = .returned (.tuple #[.string ⟨#[]⟩, .string ⟨#[]⟩, .bool false]) ∧ Below w.heap.size w w' := by
  have HO := fun o => wholeYes hh ht (w.alloc o) x (hx.below (al1 w o))
  obtain ⟨a, c, rfl⟩ := hx.slice
  clear hx ht hh
  by_cases i2 : n < 0
  · clear hn
    go_enter Try.func59, Try.ntmps59
    go_wp2_with fail
    refine (HO _).mono ?_
    rintro e w1 ⟨a1, k1, a2, k2, a3, k3, rfl, hnd, hb⟩
    have kb := belA hb
    clear hb hnd HO
    go_wp2_with fail
    go_returns
    exact ⟨rfl, kb.alloc kb.size _⟩
  · have i3 : ((allN t).length : Int) ≤ n := by omega
    clear hn
    go_enter Try.func59, Try.ntmps59
    go_wp2_with fail
    refine (HO _).mono ?_
    rintro e w1 ⟨a1, k1, a2, k2, a3, k3, rfl, hnd, hb⟩
    have kb := belA hb
    clear hb hnd HO
    go_wp2_with fail
    go_returns
    exact ⟨rfl, kb.alloc kb.size _⟩
theorem implAtNo {pages : List Pg} (hh : Hand pages) (ht : ∀ t, ¬ TreeIs pages t) (n : Int) (w : World) (x : Value) (hx : PgsAt w x pages) :
    Calls Try.prog 59 #[.agg #[x], .int .i64 n] w fun e w' => e = .returned (.tuple #[.string ⟨#[]⟩, .string ⟨#[]⟩, .bool false]) ∧ Below w.heap.size w w' := by
  have HO := fun o => wholeNo hh ht (w.alloc o) x (hx.below (al1 w o))
  obtain ⟨a, c, rfl⟩ := hx.slice
  clear hx ht hh
  go_enter Try.func59, Try.ntmps59
  go_wp2_with fail
  refine (HO _).mono ?_
  rintro e w1 ⟨rfl, hb⟩
  have kb := belA hb
  clear hb HO
  go_wp2_with fail
  go_returns
  exact ⟨rfl, kb.alloc kb.size _⟩
end Go.Proofs.Ytmmccjdkafojgaa
