/- Contracts of the model's ranges of a tree. Condition: the pages lie in memory. -/
import Derived.Test.YtmmccjdkafojgaaRangeA
import Derived.Test.YtmmccjdkafojgaaSpecEx
namespace Go.Proofs.Ytmmccjdkafojgaa
open Go.ChangeShapes Go.WideShapes Go.ChangeAt Go.RowKit Go.Deep
set_option linter.unusedVariables false
attribute [local go_sem ↓] Go.wp_at_zero Go.wp_at_succ

theorem specL7In (k f t : ByteArray) (w : World) : Calls Try.prog 96 #[.string k, .string f, .string t] w fun e w' => e = .returned (.bool (inB f t k)) ∧ w' = w := by
  cases hg : Go.Op.bytesLess k.toList f.toList with
  | true =>
    have HB : Hid (inB f t k = false) := by show _ = _; unfold inB lessB; rw [hg]; rfl
    go_enter Try.func96, Try.ntmps96
    go_wp2
    go_ret
    exact ⟨by rw [HB.out]; rfl, rfl⟩
  | false =>
    have HB : Hid (inB f t k = Go.Op.bytesLess k.toList t.toList) := by show _ = _; unfold inB lessB; rw [hg]; rfl
    go_enter Try.func96, Try.ntmps96
    go_wp2
    go_ret
    exact ⟨by rw [HB.out]; rfl, rfl⟩
set_option maxHeartbeats 12800000 in
set_option maxRecDepth 100000 in
theorem specRangeYes {pages : List Pg} {t : Nd} (hh : Hand pages) (h : TreeIs pages t) (f u : ByteArray) (hr : GoodR f u) (hf : f.size ≤ maxLen) (hu : u.size ≤ maxLen) (w : World) (x : Value) (hx : PgsAt w x pages) :
    Calls Try.prog 49 #[.agg #[x], .string f, .string u] w fun e w' => ∃ kv vv, e = .returned (.tuple #[kv, vv, .bool true]) ∧ Acc w' w.heap.size kv vv (selP f u (allN t)) ∧ Below w.heap.size w w' := by
  obtain ⟨i0, hi, hzz⟩ := Option.map_eq_some_iff.1 infoS
  simp only [Prod.mk.injEq] at hzz
  obtain ⟨hz0, hz1, hz2⟩ := hzz
  have HO := fun o => specOfYes hh h (w.alloc o) x (hx.below (al1 w o))
  have HS := hid h.shape
  have H40 := hid h.2.2.2.2
  have HGR := fun W => l7RangeB f u true (by simp [hr]) W hf hu
  obtain ⟨a, c, rfl⟩ := hx.slice
  clear hx h hh hr
  go_enter Try.func49, Try.ntmps49
  go_wp2_with fail
  refine (HO _).mono ?_
  rintro e w1 ⟨b, F, rfl, hot, hb⟩
  have kb := belA hb
  have kl := kb.size
  have h40 := H40.out
  have HI := specAll _ w1.heap.size t HS.out w1 _ (.slice none 0 0) (.slice none 0 0) F [] hot (fun g hg => (hot.lt g hg).2) (Nat.le_refl _) (Acc.nil _ _) (by simp only [List.length_nil]; omega)
  clear hb HO hot
  go_wp2_with fail
  refine (HGR _).mono ?_
  rintro e w9 ⟨rfl, hw9⟩
  subst w9
  clear HGR
  go_wp2_with fail
  refine HI.mono ?_
  rintro e w2 ⟨kv, vv, rfl, hacc, hb2⟩
  simp only [List.nil_append] at hacc
  obtain ⟨P, hP⟩ : ∃ P, allN t = P := ⟨_, rfl⟩
  rw [hP] at hacc h40
  have HP := hid hP
  have hrk := rows_of_ownS hacc.1
  have hrv := rows_of_ownS hacc.2.1
  obtain ⟨ka, kc, rfl⟩ := hrk.slice
  obtain ⟨va, vc, rfl⟩ := hrv.slice
  have HRK := hid hrk
  have HRV := hid hrv
  have kb2 : Below w.heap.size w w2 := kb.trans (hb2.mono kl)
  have HK2 := hid kb2
  clear hacc HI hb2 kb kl hP H40 kb2 hrk hrv
  go_wp2_with fail
  go_loopw [13, 14, 15, 16, 37] (fun x y s15 s16 i wr => ∃ k : Nat, k ≤ P.length ∧ i = .int .i64 k ∧ Acc wr w2.heap.size x y (selP f u (P.take k)) ∧ Below w2.heap.size w2 wr) (fun _ _ _ _ i _ => P.length - (intOf i).toNat)
  case atStart => exact ⟨0, Nat.zero_le _, rfl, Acc.nil _ _, Below.refl _ _⟩
  case round =>
    obtain ⟨k, hk, rfl, hacc, kb⟩ := hrel
    have HC := hid hacc
    have kl := kb.size
    clear hacc
    by_cases hlt : k < P.length
    · obtain ⟨b2, off, c2, hce, hb2, hcell⟩ := (HRK.out.below kb).cell1 hlt
      cases hce
      rw [keysV_get P _ hlt] at hcell
      have hnx := selP_take (f := f) (t := u) hlt
      have hle := selP_take_le f u P k
      obtain ⟨⟨qk, qv⟩, hq⟩ : ∃ q, P.getD k default = q := ⟨_, rfl⟩
      rw [hq] at hcell hnx
      simp only [] at hcell hnx
      have HQ := hid hq
      have hki : (k : Int) < (P.length : Int) := by omega
      have hkk : (0 : Int) ≤ (k : Int) := by omega
      have HW := specL7In qk f u wr
      obtain ⟨L, hL⟩ : ∃ L, selP f u (P.take k) = L := ⟨_, rfl⟩
      rw [hL] at hnx HC hle
      clear hq hL
      cases hin : inB f u qk with
      | false =>
        rw [hin] at HW
        have hnx2 : selP f u (P.take (k + 1)) = L := by rw [hnx, hin]; simp
        have HNX := hid hnx2
        clear hnx hnx2 hin
        go_wp2_with fail
        refine HW.mono ?_
        rintro e w9 ⟨rfl, hw9⟩
        subst w9
        clear HW
        go_wp2_with fail
        refine ⟨?_, by simp [intOf]; omega⟩
        first | exact ⟨k + 1, hlt, by go_num, by rw [HNX.out]; exact HC.out, kb⟩ | ((repeat apply Exists.intro); exact ⟨⟨k + 1, hlt, by go_num, by rw [HNX.out]; exact HC.out, kb⟩, rfl⟩)
      | true =>
        rw [hin] at HW
        have hnx2 : selP f u (P.take (k + 1)) = L ++ [(qk, qv)] := by rw [hnx, hin]; simp
        have HNX := hid hnx2
        have hok := HC.out.1
        clear hnx hnx2 hin
        go_wp2_with fail
        refine HW.mono ?_
        rintro e w9 ⟨rfl, hw9⟩
        subst w9
        clear HW
        go_wp2_with (first | (at_builtin; refine wplS rfl _ _ 34 rfl w2.heap.size 9 i0 (.string ByteArray.empty) 16 Try.underlying34 hi hz0 hz1 hz2 rfl _ _ _ rfl (hok.alloc _) _ 1 [.string qk] rfl (news1 _ _ _) ?c1 ?c2 ?c3 ?c4 ?_) | fail)
        case c1 => intro u hu; simp at hu; subst hu; rfl
        case c2 => unfold maxLen; omega
        case c3 => omega
        case c4 => simp; omega
        intro x1 w4 ho1 hg1 he1
        have k1 : Below w2.heap.size wr w4 := (((Below.refl _ wr).alloc (by omega) _).trans (below_own (hok.alloc _) (by simp; omega) hg1))
        have hs1 := k1.size
        obtain ⟨b3, off3, c3, hce, hb3, hcell3⟩ := (HRV.out.below (kb.trans k1)).cell1 hlt
        cases hce
        rw [valsV_get _ _ hlt, HQ.out] at hcell3
        have hov := (HC.out.2.1.alloc _).off hg1 (fun g h1 h2 => HC.out.2.2 g h2 h1)
        go_wp2_with (first | (at_builtin; refine wplS rfl _ _ 34 rfl w2.heap.size 9 i0 (.string ByteArray.empty) 16 Try.underlying34 hi hz0 hz1 hz2 rfl _ _ _ rfl (hov.alloc _) _ 1 [.string qv] rfl (news1 _ _ _) ?d1 ?d2 ?d3 ?d4 ?_) | fail)
        case d1 => first | rfl | (intro z hz; simp at hz; subst hz; rfl)
        case d2 => unfold maxLen; omega
        case d3 => omega
        case d4 => first | omega | (simp; omega)
        intro x2 w5 ho2 hg2 he2
        have k2 : Below w2.heap.size w4 w5 := (((Below.refl _ w4).alloc (by omega) _).trans (below_own (hov.alloc _) (by simp; omega) hg2))
        have HN := hid (Acc.snoc (q := (qk, qv)) HC.out (by omega) ho1 hg1 he1 ho2 hg2 he2)
        rw [← HNX.out] at HN
        have k3 : Below w2.heap.size w2 w5 := (kb.trans k1).trans k2
        clear ho1 hg1 he1 ho2 hg2 he2 hok hov
        go_wp2
        refine ⟨?_, by simp [intOf]; omega⟩
        first | exact ⟨k + 1, hlt, by go_num, HN.out, k3⟩ | ((repeat apply Exists.intro); exact ⟨⟨k + 1, hlt, by go_num, HN.out, k3⟩, rfl⟩)
    · have hke : k = P.length := by omega
      subst hke
      have hki : ¬ ((P.length : Int) < (P.length : Int)) := by omega
      have HN0 := HC.out
      rw [List.take_length] at HN0
      have HN := hid HN0
      clear HN0
      have hfin : Below w.heap.size w wr := HK2.out.trans (kb.mono HK2.out.size)
      have hzz := HK2.out.size
      go_wp2_with fail
      go_returns
      exact ⟨_, _, rfl, by rw [HP.out]; exact ⟨own_mono HN.out.1 hzz, own_mono HN.out.2.1 hzz, HN.out.2.2⟩, hfin⟩
set_option maxHeartbeats 3200000 in
theorem specRangeOut {pages : List Pg} {t : Nd} (hh : Hand pages) (h : TreeIs pages t) (f u : ByteArray) (hr : ¬ GoodR f u) (hf : f.size ≤ maxLen) (hu : u.size ≤ maxLen) (w : World) (x : Value) (hx : PgsAt w x pages) :
    Calls Try.prog 49 #[.agg #[x], .string f, .string u] w fun e w' => e = .returned (.tuple #[.slice none 0 0, .slice none 0 0, .bool false]) ∧ Below w.heap.size w w' := by
  have HO := fun o => specOfYes hh h (w.alloc o) x (hx.below (al1 w o))
  have HGR := fun W => l7RangeB f u false (by simp [hr]) W hf hu
  obtain ⟨a, c, rfl⟩ := hx.slice
  clear hx h hh hr
  go_enter Try.func49, Try.ntmps49
  go_wp2_with fail
  refine (HO _).mono ?_
  rintro e w1 ⟨b, F, rfl, hot, hb⟩
  have kb := belA hb
  clear hb HO hot
  go_wp2_with fail
  refine (HGR _).mono ?_
  rintro e w9 ⟨rfl, hw9⟩
  subst w9
  clear HGR
  go_wp2_with fail
  go_returns
  exact ⟨rfl, kb⟩
theorem specRangeNo {pages : List Pg} (hh : Hand pages) (h : ∀ t, ¬ TreeIs pages t) (f u : ByteArray) (w : World) (x : Value) (hx : PgsAt w x pages) :
    Calls Try.prog 49 #[.agg #[x], .string f, .string u] w fun e w' => e = .returned (.tuple #[.slice none 0 0, .slice none 0 0, .bool false]) ∧ Below w.heap.size w w' := by
  have HO := fun o => specOfNo hh h (w.alloc o) x (hx.below (al1 w o))
  obtain ⟨a, c, rfl⟩ := hx.slice
  clear hx h hh
  go_enter Try.func49, Try.ntmps49
  go_wp2_with fail
  refine (HO _).mono ?_
  rintro e w1 ⟨rfl, hb⟩
  have kb := belA hb
  clear hb HO
  go_wp2_with fail
  go_returns
  exact ⟨rfl, kb⟩
theorem specCountYes {pages : List Pg} {t : Nd} (hh : Hand pages) (ht : TreeIs pages t) (f u : ByteArray) (hr : GoodR f u) (hf : f.size ≤ maxLen) (hu : u.size ≤ maxLen) (w : World) (x : Value) (hx : PgsAt w x pages) :
    Calls Try.prog 56 #[.agg #[x], .string f, .string u] w fun e w' => e = .returned (.tuple #[.int .i64 ((selP f u (allN t)).length : Nat), .bool true]) ∧ Below w.heap.size w w' := by
  have HO := fun o1 => specRangeYes hh ht f u hr hf hu (w.alloc o1) x (hx.below (al1 w o1))
  obtain ⟨a, c, rfl⟩ := hx.slice
  clear hx ht hh hr
  go_enter Try.func56, Try.ntmps56
  go_wp2_with fail
  refine (HO _).mono ?_
  rintro e w1 ⟨ku, vu, rfl, hp, hb⟩
  obtain ⟨ka, kc, rfl⟩ := (rows_of_ownS hp.1).slice
  obtain ⟨va, vc, rfl⟩ := (rows_of_ownS hp.2.1).slice
  have kb := belA hb
  clear hb HO hp
  go_wp2_with fail
  go_returns
  exact ⟨rfl, kb⟩
theorem specCountOut {pages : List Pg} {t : Nd} (hh : Hand pages) (ht : TreeIs pages t) (f u : ByteArray) (hr : ¬ GoodR f u) (hf : f.size ≤ maxLen) (hu : u.size ≤ maxLen) (w : World) (x : Value) (hx : PgsAt w x pages) :
    Calls Try.prog 56 #[.agg #[x], .string f, .string u] w fun e w' => e = .returned (.tuple #[.int .i64 0, .bool false]) ∧ Below w.heap.size w w' := by
  have HO := fun o1 => specRangeOut hh ht f u hr hf hu (w.alloc o1) x (hx.below (al1 w o1))
  obtain ⟨a, c, rfl⟩ := hx.slice
  clear hx ht hh hr
  go_enter Try.func56, Try.ntmps56
  go_wp2_with fail
  refine (HO _).mono ?_
  rintro e w1 ⟨rfl, hb⟩
  have kb := belA hb
  clear hb HO
  go_wp2_with fail
  go_returns
  exact ⟨rfl, kb⟩
theorem specCountNo {pages : List Pg} (hh : Hand pages) (ht : ∀ t, ¬ TreeIs pages t) (f u : ByteArray) (w : World) (x : Value) (hx : PgsAt w x pages) :
    Calls Try.prog 56 #[.agg #[x], .string f, .string u] w fun e w' => e = .returned (.tuple #[.int .i64 0, .bool false]) ∧ Below w.heap.size w w' := by
  have HO := fun o1 => specRangeNo hh ht f u (w.alloc o1) x (hx.below (al1 w o1))
  obtain ⟨a, c, rfl⟩ := hx.slice
  clear hx ht hh
  go_enter Try.func56, Try.ntmps56
  go_wp2_with fail
  refine (HO _).mono ?_
  rintro e w1 ⟨rfl, hb⟩
  have kb := belA hb
  clear hb HO
  go_wp2_with fail
  go_returns
  exact ⟨rfl, kb⟩
end Go.Proofs.Ytmmccjdkafojgaa
