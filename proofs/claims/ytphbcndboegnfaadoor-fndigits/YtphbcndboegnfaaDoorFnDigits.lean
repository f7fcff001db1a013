/- At every two lists of bytes the function FnDigits returns true and leaves its arguments as they were: no text's digits are all at most those of another one, unless they are the same. The table of weights lies as the program's text lays it (the card ties that). No other condition. -/
import Derived.Test.YtphbcndboegnfaaDoorDoor
import Derived.Test.YtphbcndboegnfaaDoorBothO
import Derived.Test.YtphbcndboegnfaaDoorDrawB
namespace Go.Proofs.YtphbcndboegnfaaDoor.fnDigits
open Go.ChangeShapes Go.WideShapes Go.ChangeAt Go.RowKit Go.Joins
open Go.ChangeMaps (open_string shut_string)
set_option linter.unusedVariables false

theorem digs_good (s : ByteArray) : goodZB (digs s) = true := by
  simp only [goodZB, Bool.and_eq_true, decide_eq_true_eq]
  exact ⟨digs_len s, allZB_true (fun i hi => digs_at s i (by rw [digs_len] at hi; exact hi))⟩
theorem below_same (a b : ByteArray) : belowB (digs a) (digs b) = decide (digs a = digs b) := by
  by_cases h : digs a = digs b
  · rw [h, belowB_true (fun k _ => Int.le_refl _)]; simp
  · rw [decide_eq_false h]
    cases e : belowB (digs a) (digs b)
    · rfl
    · exfalso
      simp only [belowB, List.all_eq_true, decide_eq_true_eq, List.mem_range] at e
      exact h (digs_below a b e)
theorem sameSelf (v1 v2 : Value) (zs : List Int) (w : World) (h1 : IntsAt w v1 zs) (h2 : IntsAt w v2 zs) (hl : zs.length ≤ 1048576) :
    Calls Tryd.prog 30 #[v1, v2] w fun e w' => e = .returned (.bool true) ∧ Below w.heap.size w w' := by
  have h := sameInt v1 v2 zs zs w h1 h2 rfl hl
  rwa [show decide (zs = zs) = true by simp] at h
theorem belowOwn (a b : ByteArray) (v1 v2 : Value) (w : World) (h1 : IntsAt w v1 (digs a)) (h2 : IntsAt w v2 (digs b)) :
    Calls Tryd.prog 31 #[v1, v2] w fun e w' => e = .returned (.tuple #[.bool (decide (digs a = digs b)), .bool true]) ∧ Below w.heap.size w w' := by
  have h := implBelowYes v1 v2 (digs a) (digs b) w h1 h2 ⟨digs_good a, digs_good b⟩
  rwa [below_same] at h

set_option maxRecDepth 100000 in
set_option maxHeartbeats 12800000 in
theorem walk0 (v0 : Value) (n0 : Nat) (v1 : Value) (n1 : Nat) (w : World) (ht : Table w) (hc0 : CodeAt w v0 n0) (hc1 : CodeAt w v1 n1) (hn : n0 + n1 ≤ 1048576) :
    Calls Tryd.prog 4 #[v0, v1] w fun e w' => e = .returned (.bool true) ∧ Below w.heap.size w w' := by
  obtain ⟨ad0, c0, rfl⟩ : ∃ ad c, v0 = .slice ad n0 c := by
    obtain ⟨ad, c, e, _⟩ := hc0
    exact ⟨ad, c, e⟩
  obtain ⟨ad1, c1, rfl⟩ : ∃ ad c, v1 = .slice ad n1 c := by
    obtain ⟨ad, c, e, _⟩ := hc1
    exact ⟨ad, c, e⟩
  have hbig : ¬ (1048576 : Int) < (n0 : Int) + (n1 : Int) := by omega
  have HD := drawDigits _ n0 w hc0
  have HT := hide ht
  have HC0 := hide hc0
  have HC := hide hc1
  have HK : Hid (Below w.heap.size w w) := Below.refl _ _
  clear ht hc0 hc1
  go_enter Tryd.func4, Tryd.ntmps4
  go_wp2_with fail
  refine (HD).mono ?_
  rintro e w1 ⟨a, rfl, ha, hb⟩
  replace HT := hide ((unhide HT).below hb)
  replace HC0 := hide ((unhide HC0).below hb)
  replace HC := hide ((unhide HC).below hb)
  replace HK := hide ((unhide HK).trans (hb.mono (unhide HK).size))
  clear HD
  clear hb
  go_wp2_with fail
  refine (drawDigits _ n1 _ (unhide HC)).mono ?_
  rintro e w2 ⟨b, rfl, hbb, hb⟩
  replace HT := hide ((unhide HT).below hb)
  replace HC0 := hide ((unhide HC0).below hb)
  replace HC := hide ((unhide HC).below hb)
  replace HK := hide ((unhide HK).trans (hb.mono (unhide HK).size))
  clear hb
  have ham : a.size ≤ maxLen := by unfold maxLen; omega
  have hbm : b.size ≤ maxLen := by unfold maxLen; omega
  obtain ⟨zs, oa, hza0, hza1, HAI, HAS⟩ := digitsBoth a ham
  obtain ⟨ys, ob, hzb0, hzb1, HBI, HBS⟩ := digitsBoth b hbm
  have hzl : zs.length ≤ 1048576 := by
    cases oa
    · rw [hza0 rfl]; simp
    · rw [hza1 rfl, digs_len]; omega
  go_wp2_with fail
  refine (HAI _ (unhide HT)).mono ?_
  rintro e w3 ⟨v3, rfl, hi3, hb⟩
  replace HT := hide ((unhide HT).below hb)
  replace HC0 := hide ((unhide HC0).below hb)
  replace HC := hide ((unhide HC).below hb)
  replace HK := hide ((unhide HK).trans (hb.mono (unhide HK).size))
  have HI3 := hide hi3
  clear hi3
  clear hb
  go_wp2_with fail
  refine (HAS _).mono ?_
  rintro e w4 ⟨v4, rfl, hi4, hb⟩
  replace HT := hide ((unhide HT).below hb)
  replace HC0 := hide ((unhide HC0).below hb)
  replace HC := hide ((unhide HC).below hb)
  replace HI3 := hide ((unhide HI3).below hb)
  replace HK := hide ((unhide HK).trans (hb.mono (unhide HK).size))
  have HI4 := hide hi4
  clear hi4 HAI HAS
  clear hb
  go_wp2_with fail
  refine (HBI _ (unhide HT)).mono ?_
  rintro e w5 ⟨v5, rfl, hi5, hb⟩
  replace HT := hide ((unhide HT).below hb)
  replace HC0 := hide ((unhide HC0).below hb)
  replace HC := hide ((unhide HC).below hb)
  replace HI3 := hide ((unhide HI3).below hb)
  replace HI4 := hide ((unhide HI4).below hb)
  replace HK := hide ((unhide HK).trans (hb.mono (unhide HK).size))
  have HI5 := hide hi5
  clear hi5 HBI HBS
  clear hb
  go_wp2_with fail
  refine (sameSelf _ _ zs _ (unhide HI3) (unhide HI4) hzl).mono ?_
  rintro e w6 ⟨rfl, hb⟩
  replace HT := hide ((unhide HT).below hb)
  replace HC0 := hide ((unhide HC0).below hb)
  replace HC := hide ((unhide HC).below hb)
  replace HI3 := hide ((unhide HI3).below hb)
  replace HI5 := hide ((unhide HI5).below hb)
  replace HK := hide ((unhide HK).trans (hb.mono (unhide HK).size))
  clear HI4
  clear hb
  cases oa
  · clear hza0 hza1 hzb0 hzb1 HI3 HI5
    go_wp2_with fail
    refine (drawChain _ n1 _ (unhide HC)).mono ?_
    rintro e w9 ⟨s, f, by1, rfl, hs, hf0, hf1, hy0, hy1, hb⟩
    replace HT := hide ((unhide HT).below hb)
    replace HC0 := hide ((unhide HC0).below hb)
    replace HC := hide ((unhide HC).below hb)
    replace HK := hide ((unhide HK).trans (hb.mono (unhide HK).size))
    clear hb
    have hsm : s.size ≤ maxLen := by unfold maxLen; omega
    have wf : (Lit.int .i64 f).wf = true := WalkArith.wf_i64 (by omega)
    have wb : (Lit.int .i64 by1).wf = true := WalkArith.wf_i64 (by omega)
    obtain ⟨c, o2, hyes, HCI, HCS⟩ := chainBoth s f by1 hsm wf wb
    go_wp2_with fail
    refine (HCI _ (unhide HT)).mono ?_
    rintro e w10 ⟨rfl, hb⟩
    replace HT := hide ((unhide HT).below hb)
    replace HC0 := hide ((unhide HC0).below hb)
    replace HC := hide ((unhide HC).below hb)
    replace HK := hide ((unhide HK).trans (hb.mono (unhide HK).size))
    clear hb
    go_wp2_with fail
    refine (HCS _).mono ?_
    rintro e w11 ⟨rfl, hb⟩
    replace HT := hide ((unhide HT).below hb)
    replace HC0 := hide ((unhide HC0).below hb)
    replace HC := hide ((unhide HC).below hb)
    replace HK := hide ((unhide HK).trans (hb.mono (unhide HK).size))
    clear HCI HCS
    clear hb
    cases o2
    · clear hyes
      go_wp2_with fail
      refine (drawBelow _ n1 _ (unhide HC)).mono ?_
      rintro e w15 ⟨x1, x2, ps, qs, rfl, hx1, hx2, hp1, hp2, hb⟩
      replace HK := hide ((unhide HK).trans (hb.mono (unhide HK).size))
      have HX1 := hide hx1
      have HX2 := hide hx2
      clear hx1 hx2 HC HT HC0
      clear hb
      obtain ⟨o16, o17, HBI, HBS⟩ := belowBoth x1 x2 ps qs (by omega) (by omega)
      go_wp2_with fail
      refine (HBI _ (unhide HX1) (unhide HX2)).mono ?_
      rintro e w16 ⟨rfl, hb⟩
      replace HX1 := hide ((unhide HX1).below hb)
      replace HX2 := hide ((unhide HX2).below hb)
      replace HK := hide ((unhide HK).trans (hb.mono (unhide HK).size))
      clear hb
      go_wp2_with fail
      refine (HBS _ (unhide HX1) (unhide HX2)).mono ?_
      rintro e w17 ⟨rfl, hb⟩
      replace HK := hide ((unhide HK).trans (hb.mono (unhide HK).size))
      clear HBI HBS HX1 HX2
      clear hb
      have hfin := unhide HK
      go_wp2
      go_returns
      exact ⟨rfl, hfin⟩
    · obtain ⟨⟨hy1', hy2, hy3, hy4⟩, hcc⟩ := hyes rfl
      clear hyes
      obtain ⟨N, rfl⟩ := Int.eq_ofNat_of_zero_le hy2
      obtain ⟨B, rfl⟩ := Int.eq_ofNat_of_zero_le hy3
      have hNB : N + B ≤ 15 := by omega
      have hcc2 : Hid (c = chainB s N B) := hcc
      clear hcc
      have HNum := numberIn _ n0 _ (unhide HC0)
      go_wp2_with fail
      refine HNum.mono ?_
      rintro e w12 ⟨x, rfl, hx0, hx1, hw12⟩
      subst hw12
      clear HNum
      have hB1 : (0 : Int) < (B : Int) + 1 := by omega
      have hlo := mod_lo x ((B : Int) + 1) hx0 hB1
      have hhi := mod_hi x ((B : Int) + 1) hx0 hB1
      go_upto_region 21 with fail
      generalize x % ((B : Int) + 1) = kk at *
      obtain ⟨K, rfl⟩ := Int.eq_ofNat_of_zero_le hlo
      have hKB : K ≤ B := by omega
      have hNK : N + K ≤ 15 := by omega
      have hNK2 : (N + K) + (B - K) ≤ 15 := by omega
      have e1 : ((N + K : Nat) : Int) = (N : Int) + (K : Int) := by omega
      have e2 : ((B - K : Nat) : Int) = (B : Int) - (K : Int) := by omega
      have HU2 := fun W hT => implChainYes (chainB s N K) (N + K) (B - K) W (chainB_size s N K hy1') hNK2 hT
      rw [e1, e2, chainB_add, show K + (B - K) = B by omega, ← hcc2.out] at HU2
      have HU1 := fun W hT => implChainYes s N K W hy1' hNK hT
      clear e1 e2 hlo hcc2
      generalize chainB s N K = d at *
      go_wp2_with fail
      refine (HU1 _ (unhide HT)).mono ?_
      rintro e w13 ⟨rfl, hb⟩
      replace HT := hide ((unhide HT).below hb)
      replace HC0 := hide ((unhide HC0).below hb)
      replace HC := hide ((unhide HC).below hb)
      replace HK := hide ((unhide HK).trans (hb.mono (unhide HK).size))
      clear hb
      go_wp2_with fail
      refine (HU2 _ (unhide HT)).mono ?_
      rintro e w14 ⟨rfl, hb⟩
      replace HT := hide ((unhide HT).below hb)
      replace HC0 := hide ((unhide HC0).below hb)
      replace HC := hide ((unhide HC).below hb)
      replace HK := hide ((unhide HK).trans (hb.mono (unhide HK).size))
      clear HU1 HU2
      clear hb
      go_wp2_with fail
      refine (drawBelow _ n1 _ (unhide HC)).mono ?_
      rintro e w15 ⟨x1, x2, ps, qs, rfl, hx1, hx2, hp1, hp2, hb⟩
      replace HK := hide ((unhide HK).trans (hb.mono (unhide HK).size))
      have HX1 := hide hx1
      have HX2 := hide hx2
      clear hx1 hx2 HC HT HC0
      clear hb
      obtain ⟨o16, o17, HBI, HBS⟩ := belowBoth x1 x2 ps qs (by omega) (by omega)
      go_wp2_with fail
      refine (HBI _ (unhide HX1) (unhide HX2)).mono ?_
      rintro e w16 ⟨rfl, hb⟩
      replace HX1 := hide ((unhide HX1).below hb)
      replace HX2 := hide ((unhide HX2).below hb)
      replace HK := hide ((unhide HK).trans (hb.mono (unhide HK).size))
      clear hb
      go_wp2_with fail
      refine (HBS _ (unhide HX1) (unhide HX2)).mono ?_
      rintro e w17 ⟨rfl, hb⟩
      replace HK := hide ((unhide HK).trans (hb.mono (unhide HK).size))
      clear HBI HBS HX1 HX2
      clear hb
      have hfin := unhide HK
      go_wp2
      go_returns
      exact ⟨rfl, hfin⟩
  · cases ob
    · clear hza0 hza1 hzb0 hzb1 HI3 HI5
      go_wp2_with fail
      refine (drawChain _ n1 _ (unhide HC)).mono ?_
      rintro e w9 ⟨s, f, by1, rfl, hs, hf0, hf1, hy0, hy1, hb⟩
      replace HT := hide ((unhide HT).below hb)
      replace HC0 := hide ((unhide HC0).below hb)
      replace HC := hide ((unhide HC).below hb)
      replace HK := hide ((unhide HK).trans (hb.mono (unhide HK).size))
      clear hb
      have hsm : s.size ≤ maxLen := by unfold maxLen; omega
      have wf : (Lit.int .i64 f).wf = true := WalkArith.wf_i64 (by omega)
      have wb : (Lit.int .i64 by1).wf = true := WalkArith.wf_i64 (by omega)
      obtain ⟨c, o2, hyes, HCI, HCS⟩ := chainBoth s f by1 hsm wf wb
      go_wp2_with fail
      refine (HCI _ (unhide HT)).mono ?_
      rintro e w10 ⟨rfl, hb⟩
      replace HT := hide ((unhide HT).below hb)
      replace HC0 := hide ((unhide HC0).below hb)
      replace HC := hide ((unhide HC).below hb)
      replace HK := hide ((unhide HK).trans (hb.mono (unhide HK).size))
      clear hb
      go_wp2_with fail
      refine (HCS _).mono ?_
      rintro e w11 ⟨rfl, hb⟩
      replace HT := hide ((unhide HT).below hb)
      replace HC0 := hide ((unhide HC0).below hb)
      replace HC := hide ((unhide HC).below hb)
      replace HK := hide ((unhide HK).trans (hb.mono (unhide HK).size))
      clear HCI HCS
      clear hb
      cases o2
      · clear hyes
        go_wp2_with fail
        refine (drawBelow _ n1 _ (unhide HC)).mono ?_
        rintro e w15 ⟨x1, x2, ps, qs, rfl, hx1, hx2, hp1, hp2, hb⟩
        replace HK := hide ((unhide HK).trans (hb.mono (unhide HK).size))
        have HX1 := hide hx1
        have HX2 := hide hx2
        clear hx1 hx2 HC HT HC0
        clear hb
        obtain ⟨o16, o17, HBI, HBS⟩ := belowBoth x1 x2 ps qs (by omega) (by omega)
        go_wp2_with fail
        refine (HBI _ (unhide HX1) (unhide HX2)).mono ?_
        rintro e w16 ⟨rfl, hb⟩
        replace HX1 := hide ((unhide HX1).below hb)
        replace HX2 := hide ((unhide HX2).below hb)
        replace HK := hide ((unhide HK).trans (hb.mono (unhide HK).size))
        clear hb
        go_wp2_with fail
        refine (HBS _ (unhide HX1) (unhide HX2)).mono ?_
        rintro e w17 ⟨rfl, hb⟩
        replace HK := hide ((unhide HK).trans (hb.mono (unhide HK).size))
        clear HBI HBS HX1 HX2
        clear hb
        have hfin := unhide HK
        go_wp2
        go_returns
        exact ⟨rfl, hfin⟩
      · obtain ⟨⟨hy1', hy2, hy3, hy4⟩, hcc⟩ := hyes rfl
        clear hyes
        obtain ⟨N, rfl⟩ := Int.eq_ofNat_of_zero_le hy2
        obtain ⟨B, rfl⟩ := Int.eq_ofNat_of_zero_le hy3
        have hNB : N + B ≤ 15 := by omega
        have hcc2 : Hid (c = chainB s N B) := hcc
        clear hcc
        have HNum := numberIn _ n0 _ (unhide HC0)
        go_wp2_with fail
        refine HNum.mono ?_
        rintro e w12 ⟨x, rfl, hx0, hx1, hw12⟩
        subst hw12
        clear HNum
        have hB1 : (0 : Int) < (B : Int) + 1 := by omega
        have hlo := mod_lo x ((B : Int) + 1) hx0 hB1
        have hhi := mod_hi x ((B : Int) + 1) hx0 hB1
        go_upto_region 21 with fail
        generalize x % ((B : Int) + 1) = kk at *
        obtain ⟨K, rfl⟩ := Int.eq_ofNat_of_zero_le hlo
        have hKB : K ≤ B := by omega
        have hNK : N + K ≤ 15 := by omega
        have hNK2 : (N + K) + (B - K) ≤ 15 := by omega
        have e1 : ((N + K : Nat) : Int) = (N : Int) + (K : Int) := by omega
        have e2 : ((B - K : Nat) : Int) = (B : Int) - (K : Int) := by omega
        have HU2 := fun W hT => implChainYes (chainB s N K) (N + K) (B - K) W (chainB_size s N K hy1') hNK2 hT
        rw [e1, e2, chainB_add, show K + (B - K) = B by omega, ← hcc2.out] at HU2
        have HU1 := fun W hT => implChainYes s N K W hy1' hNK hT
        clear e1 e2 hlo hcc2
        generalize chainB s N K = d at *
        go_wp2_with fail
        refine (HU1 _ (unhide HT)).mono ?_
        rintro e w13 ⟨rfl, hb⟩
        replace HT := hide ((unhide HT).below hb)
        replace HC0 := hide ((unhide HC0).below hb)
        replace HC := hide ((unhide HC).below hb)
        replace HK := hide ((unhide HK).trans (hb.mono (unhide HK).size))
        clear hb
        go_wp2_with fail
        refine (HU2 _ (unhide HT)).mono ?_
        rintro e w14 ⟨rfl, hb⟩
        replace HT := hide ((unhide HT).below hb)
        replace HC0 := hide ((unhide HC0).below hb)
        replace HC := hide ((unhide HC).below hb)
        replace HK := hide ((unhide HK).trans (hb.mono (unhide HK).size))
        clear HU1 HU2
        clear hb
        go_wp2_with fail
        refine (drawBelow _ n1 _ (unhide HC)).mono ?_
        rintro e w15 ⟨x1, x2, ps, qs, rfl, hx1, hx2, hp1, hp2, hb⟩
        replace HK := hide ((unhide HK).trans (hb.mono (unhide HK).size))
        have HX1 := hide hx1
        have HX2 := hide hx2
        clear hx1 hx2 HC HT HC0
        clear hb
        obtain ⟨o16, o17, HBI, HBS⟩ := belowBoth x1 x2 ps qs (by omega) (by omega)
        go_wp2_with fail
        refine (HBI _ (unhide HX1) (unhide HX2)).mono ?_
        rintro e w16 ⟨rfl, hb⟩
        replace HX1 := hide ((unhide HX1).below hb)
        replace HX2 := hide ((unhide HX2).below hb)
        replace HK := hide ((unhide HK).trans (hb.mono (unhide HK).size))
        clear hb
        go_wp2_with fail
        refine (HBS _ (unhide HX1) (unhide HX2)).mono ?_
        rintro e w17 ⟨rfl, hb⟩
        replace HK := hide ((unhide HK).trans (hb.mono (unhide HK).size))
        clear HBI HBS HX1 HX2
        clear hb
        have hfin := unhide HK
        go_wp2
        go_returns
        exact ⟨rfl, hfin⟩
    · have hz3 := hza1 rfl
      have hz5 := hzb1 rfl
      clear hza0 hza1 hzb0 hzb1
      subst hz3
      subst hz5
      go_wp2_with fail
      refine (belowOwn a b _ _ _ (unhide HI3) (unhide HI5)).mono ?_
      rintro e w7 ⟨rfl, hb⟩
      replace HT := hide ((unhide HT).below hb)
      replace HC0 := hide ((unhide HC0).below hb)
      replace HC := hide ((unhide HC).below hb)
      replace HI3 := hide ((unhide HI3).below hb)
      replace HI5 := hide ((unhide HI5).below hb)
      replace HK := hide ((unhide HK).trans (hb.mono (unhide HK).size))
      clear hb
      have HS8 := sameInt _ _ (digs a) (digs b) _ (unhide HI3) (unhide HI5) (by rw [digs_len, digs_len]) hzl
      generalize decide (digs a = digs b) = sm at *
      go_wp2_with fail
      refine (HS8).mono ?_
      rintro e w8 ⟨rfl, hb⟩
      replace HT := hide ((unhide HT).below hb)
      replace HC0 := hide ((unhide HC0).below hb)
      replace HC := hide ((unhide HC).below hb)
      replace HK := hide ((unhide HK).trans (hb.mono (unhide HK).size))
      clear HS8 HI3 HI5
      clear hb
      go_wp2_with fail
      refine (drawChain _ n1 _ (unhide HC)).mono ?_
      rintro e w9 ⟨s, f, by1, rfl, hs, hf0, hf1, hy0, hy1, hb⟩
      replace HT := hide ((unhide HT).below hb)
      replace HC0 := hide ((unhide HC0).below hb)
      replace HC := hide ((unhide HC).below hb)
      replace HK := hide ((unhide HK).trans (hb.mono (unhide HK).size))
      clear hb
      have hsm : s.size ≤ maxLen := by unfold maxLen; omega
      have wf : (Lit.int .i64 f).wf = true := WalkArith.wf_i64 (by omega)
      have wb : (Lit.int .i64 by1).wf = true := WalkArith.wf_i64 (by omega)
      obtain ⟨c, o2, hyes, HCI, HCS⟩ := chainBoth s f by1 hsm wf wb
      go_wp2_with fail
      refine (HCI _ (unhide HT)).mono ?_
      rintro e w10 ⟨rfl, hb⟩
      replace HT := hide ((unhide HT).below hb)
      replace HC0 := hide ((unhide HC0).below hb)
      replace HC := hide ((unhide HC).below hb)
      replace HK := hide ((unhide HK).trans (hb.mono (unhide HK).size))
      clear hb
      go_wp2_with fail
      refine (HCS _).mono ?_
      rintro e w11 ⟨rfl, hb⟩
      replace HT := hide ((unhide HT).below hb)
      replace HC0 := hide ((unhide HC0).below hb)
      replace HC := hide ((unhide HC).below hb)
      replace HK := hide ((unhide HK).trans (hb.mono (unhide HK).size))
      clear HCI HCS
      clear hb
      cases o2
      · clear hyes
        go_wp2_with fail
        refine (drawBelow _ n1 _ (unhide HC)).mono ?_
        rintro e w15 ⟨x1, x2, ps, qs, rfl, hx1, hx2, hp1, hp2, hb⟩
        replace HK := hide ((unhide HK).trans (hb.mono (unhide HK).size))
        have HX1 := hide hx1
        have HX2 := hide hx2
        clear hx1 hx2 HC HT HC0
        clear hb
        obtain ⟨o16, o17, HBI, HBS⟩ := belowBoth x1 x2 ps qs (by omega) (by omega)
        go_wp2_with fail
        refine (HBI _ (unhide HX1) (unhide HX2)).mono ?_
        rintro e w16 ⟨rfl, hb⟩
        replace HX1 := hide ((unhide HX1).below hb)
        replace HX2 := hide ((unhide HX2).below hb)
        replace HK := hide ((unhide HK).trans (hb.mono (unhide HK).size))
        clear hb
        go_wp2_with fail
        refine (HBS _ (unhide HX1) (unhide HX2)).mono ?_
        rintro e w17 ⟨rfl, hb⟩
        replace HK := hide ((unhide HK).trans (hb.mono (unhide HK).size))
        clear HBI HBS HX1 HX2
        clear hb
        have hfin := unhide HK
        go_wp2
        go_returns
        exact ⟨rfl, hfin⟩
      · obtain ⟨⟨hy1', hy2, hy3, hy4⟩, hcc⟩ := hyes rfl
        clear hyes
        obtain ⟨N, rfl⟩ := Int.eq_ofNat_of_zero_le hy2
        obtain ⟨B, rfl⟩ := Int.eq_ofNat_of_zero_le hy3
        have hNB : N + B ≤ 15 := by omega
        have hcc2 : Hid (c = chainB s N B) := hcc
        clear hcc
        have HNum := numberIn _ n0 _ (unhide HC0)
        go_wp2_with fail
        refine HNum.mono ?_
        rintro e w12 ⟨x, rfl, hx0, hx1, hw12⟩
        subst hw12
        clear HNum
        have hB1 : (0 : Int) < (B : Int) + 1 := by omega
        have hlo := mod_lo x ((B : Int) + 1) hx0 hB1
        have hhi := mod_hi x ((B : Int) + 1) hx0 hB1
        go_upto_region 21 with fail
        generalize x % ((B : Int) + 1) = kk at *
        obtain ⟨K, rfl⟩ := Int.eq_ofNat_of_zero_le hlo
        have hKB : K ≤ B := by omega
        have hNK : N + K ≤ 15 := by omega
        have hNK2 : (N + K) + (B - K) ≤ 15 := by omega
        have e1 : ((N + K : Nat) : Int) = (N : Int) + (K : Int) := by omega
        have e2 : ((B - K : Nat) : Int) = (B : Int) - (K : Int) := by omega
        have HU2 := fun W hT => implChainYes (chainB s N K) (N + K) (B - K) W (chainB_size s N K hy1') hNK2 hT
        rw [e1, e2, chainB_add, show K + (B - K) = B by omega, ← hcc2.out] at HU2
        have HU1 := fun W hT => implChainYes s N K W hy1' hNK hT
        clear e1 e2 hlo hcc2
        generalize chainB s N K = d at *
        go_wp2_with fail
        refine (HU1 _ (unhide HT)).mono ?_
        rintro e w13 ⟨rfl, hb⟩
        replace HT := hide ((unhide HT).below hb)
        replace HC0 := hide ((unhide HC0).below hb)
        replace HC := hide ((unhide HC).below hb)
        replace HK := hide ((unhide HK).trans (hb.mono (unhide HK).size))
        clear hb
        go_wp2_with fail
        refine (HU2 _ (unhide HT)).mono ?_
        rintro e w14 ⟨rfl, hb⟩
        replace HT := hide ((unhide HT).below hb)
        replace HC0 := hide ((unhide HC0).below hb)
        replace HC := hide ((unhide HC).below hb)
        replace HK := hide ((unhide HK).trans (hb.mono (unhide HK).size))
        clear HU1 HU2
        clear hb
        go_wp2_with fail
        refine (drawBelow _ n1 _ (unhide HC)).mono ?_
        rintro e w15 ⟨x1, x2, ps, qs, rfl, hx1, hx2, hp1, hp2, hb⟩
        replace HK := hide ((unhide HK).trans (hb.mono (unhide HK).size))
        have HX1 := hide hx1
        have HX2 := hide hx2
        clear hx1 hx2 HC HT HC0
        clear hb
        obtain ⟨o16, o17, HBI, HBS⟩ := belowBoth x1 x2 ps qs (by omega) (by omega)
        go_wp2_with fail
        refine (HBI _ (unhide HX1) (unhide HX2)).mono ?_
        rintro e w16 ⟨rfl, hb⟩
        replace HX1 := hide ((unhide HX1).below hb)
        replace HX2 := hide ((unhide HX2).below hb)
        replace HK := hide ((unhide HK).trans (hb.mono (unhide HK).size))
        clear hb
        go_wp2_with fail
        refine (HBS _ (unhide HX1) (unhide HX2)).mono ?_
        rintro e w17 ⟨rfl, hb⟩
        replace HK := hide ((unhide HK).trans (hb.mono (unhide HK).size))
        clear HBI HBS HX1 HX2
        clear hb
        have hfin := unhide HK
        go_wp2
        go_returns
        exact ⟨rfl, hfin⟩

set_option maxRecDepth 100000 in
set_option maxHeartbeats 800000 in
theorem walk (v0 : Value) (n0 : Nat) (h0 : n0 ≤ 140737488351232) (v1 : Value) (n1 : Nat) (h1 : n1 ≤ 140737488351232) (w : World) (ht : Table w) (hb0 : ByteRow w v0 n0) (hb1 : ByteRow w v1 n1) :
    Calls Tryd.prog 4 #[v0, v1] w fun e w' => e = .returned (.bool true) ∧ Below w.heap.size w w' := by
  by_cases hn : n0 + n1 ≤ 1048576
  · exact walk0 v0 n0 v1 n1 w ht (hb0.code (by omega)) (hb1.code (by omega)) hn
  · obtain ⟨ad0, c0, rfl, _⟩ := hb0
    obtain ⟨ad1, c1, rfl, _⟩ := hb1
    have hbig : (1048576 : Int) < (n0 : Int) + (n1 : Int) := by omega
    go_enter Tryd.func4, Tryd.ntmps4
    go_wp2
    go_returns
    exact ⟨rfl, by go_grown⟩

theorem own : ownKnob Tryd.prog.godebug = none := by kernel_rfl
theorem laidOut : laidOutB Tryd.prog = true := by kernel_rfl
set_option maxRecDepth 100000 in
theorem contract (H : Type) (enc : TypeId × Value → H) (W : World) (base : Nat) (args : Array Value) (ds gs : List (DataW H)) (before : List MemPlace)
    (hval : ∀ (j : Nat) t v, Tryd.f4.params[j]? = some t → args[j]? = some v → Value.okWide Tryd.prog W .any base t v)
    (hW : DataW.Whole enc Tryd.prog Tryd.f4.params.toList Rows.fnDigitsSpec.vars false W args.toList ds gs before) (hL : laidMetH Tryd.prog Rows.fnDigitsRow.laid W) (hsz : (DataW.weightsEach Tryd.prog (Tryd.f4.params.toList ++ (OpenSpec.ofChange Rows.fnDigitsSpec).bare.plain.varTypes Tryd.prog) (ds ++ gs)).all (· ≤ reachBytes) = true) :
    Calls Tryd.prog 4 args W fun e W' => ∃ v, e = .returned v ∧ Rows.fnDigitsSpec.post enc Tryd.prog Tryd.f4 false true false false W args v W' := by
  have tab := table_of hL
  have hW' := hW
  obtain ⟨p, q, hA0, hV, rfl, hfz, hnd⟩ := hW
  have hA : DataW.TrodAll enc Tryd.prog W 0 (fun _ => true) true Tryd.f4.params.toList args.toList ds p := hA0
  rw [Tryd.params4] at hA hval
  obtain ⟨v0, vs0, d0, ds0, p0, q0, hargs, rfl, rfl, h0, r0⟩ := trodAll_cons hA
  obtain ⟨v1, vs1, d1, ds1, p1, q1, rfl, rfl, rfl, h1, r1⟩ := trodAll_cons r0
  obtain ⟨rfl, rfl, rfl⟩ := trodAll_nil r1
  obtain rfl : args = #[v0, v1] := by cases args; simp_all
  obtain ⟨g, t, cs, fuel, d, pv, rfl, hg, hty, hv, htr, rfl⟩ := trodVars_one hV
  obtain rfl := Option.some.inj (gTab.symm.trans hg)
  obtain rfl := Option.some.inj (gTabType.symm.trans hty)
  have kv : DataW.Trod enc Tryd.prog W 0 (fun _ => true) true 115 (.agg cs) d pv := ⟨fuel, htr⟩
  have ltv : ∀ x ∈ pv, x.block < W.heap.size := DataW.trod_lt fuel _ _ _ htr
  obtain ⟨ad0, len0, cap0, rfl⟩ := okWide_slice Tryd.underlying22 (hval 0 22 v0 rfl rfl)
  have kk0 := h0
  have lt0 : ∀ x ∈ p0, x.block < W.heap.size := by obtain ⟨m, hm⟩ := kk0; exact DataW.trod_lt m _ _ _ hm
  obtain ⟨hbr0, hbn0⟩ := bytes_of h0 hsz (j := 0) (by rw [Tryd.params4]; rfl) rfl
  obtain ⟨ad1, len1, cap1, rfl⟩ := okWide_slice Tryd.underlying22 (hval 1 22 v1 rfl rfl)
  have kk1 := h1
  have lt1 : ∀ x ∈ p1, x.block < W.heap.size := by obtain ⟨m, hm⟩ := kk1; exact DataW.trod_lt m _ _ _ hm
  obtain ⟨hbr1, hbn1⟩ := bytes_of h1 hsz (j := 1) (by rw [Tryd.params4]; rfl) rfl
  clear hA0
  refine (walk _ len0 hbn0 _ len1 hbn1 W tab hbr0 hbr1).mono fun e W' ⟨he, bel⟩ => ?_
  subst he
  obtain ⟨f2, hf2⟩ := Below.trod laidOut (by kernel_rfl) (of_decide_eq_true (by kernel_rfl)) kv bel ltv
  exact ⟨_, rfl, _, _, _, [], _, _, hW', trodAll_mk1 (shut_bool Tryd.underlying4 _), (trodAll_cons_mk (Below.trod laidOut (by kernel_rfl) (of_decide_eq_true (by kernel_rfl)) kk0 bel lt0) (trodAll_cons_mk (Below.trod laidOut (by kernel_rfl) (of_decide_eq_true (by kernel_rfl)) kk1 bel lt1) trodAll_mk0)), ⟨0, 115, cs, f2, pv, [], gTab, gTabType, var?_below bel gTab tab.1 hv, hf2, rfl, rfl⟩, bel.frame _, fun h => by cases h⟩

theorem reads (os : Os) {H : Type} (enc : TypeId × Value → H) : ∃ places, DataW.whole enc Tryd.prog (({ World.holding Tryd.prog os ⟨#[], #[], []⟩ with heap := (World.holding Tryd.prog os ⟨#[], #[], []⟩).heap.modify 0 layTab } : World).forCall (fun _ _ => 0) ⟨#[], #[.slice none 0 0, .slice none 0 0], []⟩).memory Tryd.f4.params.toList Rows.fnDigitsSpec.vars false (#[.slice none 0 0, .slice none 0 0] : Array Value).toList 16 = some ([.nil, .nil], [Rows.laid_loop_example_g00537_impl_pieceWeights], places) :=
  ⟨MemPlace.row ⟨0, 0, none⟩ 8, by kernel_rfl⟩
theorem laid_met (os : Os) : laidMet Tryd.prog Rows.fnDigitsRow.laid (({ World.holding Tryd.prog os ⟨#[], #[], []⟩ with heap := (World.holding Tryd.prog os ⟨#[], #[], []⟩).heap.modify 0 layTab } : World).forCall (fun _ _ => 0) ⟨#[], #[.slice none 0 0, .slice none 0 0], []⟩).memory :=
  laidMet_of_run' 16 (by kernel_rfl) (by kernel_rfl)
set_option maxRecDepth 100000 in
theorem lifted (os : Os) (started : os.Started) (H : Type) (enc : TypeId × Value → H) (F : Stop.Interp) :
    ReturnsInHanded {} Tryd.checked os 4 .any ((OpenSpec.ofChange Rows.fnDigitsSpec).preRow enc Tryd.prog Tryd.f4 Rows.fnDigitsRow.domain false Rows.fnDigitsRow.laid) (((OpenSpec.ofChange Rows.fnDigitsSpec).at F).post enc Tryd.prog Tryd.f4 false true false false) := by
  obtain ⟨places, hx⟩ := reads os enc
  refine returnsInHanded_of_row (C := Tryd.checked) (s := OpenSpec.ofChange Rows.fnDigitsSpec) own started (by kernel_rfl) Tryd.func4
    (witness_row_at (enc := enc) (C := Tryd.checked) false ({ World.holding Tryd.prog os ⟨#[], #[], []⟩ with heap := (World.holding Tryd.prog os ⟨#[], #[], []⟩).heap.modify 0 layTab } : World) #[.slice none 0 0, .slice none 0 0] rfl (by kernel_rfl) (by kernel_rfl) (by kernel_rfl)
      (OpenSpec.preRow_of_cond 16 hx (by kernel_rfl) (fun k hk => by cases hk) (by kernel_rfl) (laid_met os))) ?_
  intro W base args ds gs before hval hW _ _ hsz hL _ _
  exact contract H enc W base args ds gs before hval hW hL hsz
theorem said : Rows.FnDigitsSaid :=
  OpenClaim.holds_of_cond 4 Tryd.f4 rfl rfl rfl rfl rfl rfl rfl ⟨rfl, rfl, rfl, rfl, rfl⟩ rfl rfl rfl rfl rfl (by kernel_rfl) Tryd.func4 (by kernel_rfl)
    (of_decide_eq_true (by kernel_rfl)) (by unfold Func.isWrapper; first | (rw [if_pos (by decide +kernel)]; kernel_rfl) | (rw [if_neg (by decide +kernel)]; exact ⟨rfl, rfl⟩))
    (fun os started H enc _ F => by rw [OpenClaim.pre_eq_preRow]; exact lifted os started H enc F)
theorem plain (f : FuncId) (fn : Func) (hf : Tryd.pinned.checked.prog.funcNamed Rows.fnDigitsRow.func = some f) (hfn : Tryd.pinned.checked.prog.funcs[f]? = some fn) :
    false = Tryd.pinned.checked.prog.looks [] ∧ ∀ (j : Nat) t, fn.params[j]? = some t → Tryd.pinned.checked.prog.wantsStandIn t = false := by
  obtain rfl : f = 4 := Option.some.inj ((show Tryd.prog.funcNamed Rows.fnDigitsRow.func = some 4 by kernel_rfl).symm.trans hf) |>.symm
  obtain rfl : fn = Tryd.f4 := (Option.some.inj (Tryd.func4.symm.trans hfn)).symm
  refine ⟨by kernel_rfl, fun j t ht => ?_⟩
  rw [Tryd.params4] at ht
  have hm : t ∈ [22, 22] := by simpa using Array.mem_of_getElem? ht
  have hall : ([22, 22].all fun u => !Tryd.prog.wantsStandIn u) = true := by kernel_rfl
  exact (show Tryd.prog.wantsStandIn t = false by simpa using List.all_eq_true.1 hall t hm)
theorem card : Rows.FnDigitsCardSaid :=
  Claim7.holds_tied_plain_at .later [] _ _ _ _ said (fun _ h => by cases h) (by kernel_rfl) (fun _ h => by cases h) fnDigits_row_tie rfl ⟨rfl, rfl⟩ (by kernel_rfl) rfl plain (by kernel_rfl)
end Go.Proofs.YtphbcndboegnfaaDoor.fnDigits
namespace Go.Proofs.YtphbcndboegnfaaDoor
theorem fnDigits_card_holds : Rows.FnDigitsCardSaid := fnDigits.card
#print axioms fnDigits_card_holds
end Go.Proofs.YtphbcndboegnfaaDoor
