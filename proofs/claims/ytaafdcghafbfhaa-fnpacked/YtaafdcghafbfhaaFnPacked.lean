/- At every two lists of bytes the function FnPacked returns true and leaves its arguments as they were: rising numbers come back from at most three bits and their lower ones each. No condition. -/
import Derived.Test.YtaafdcghafbfhaaDrawQ8
import Derived.Test.YtaafdcghafbfhaaSameP8
import Derived.Test.YtaafdcghafbfhaaSpecW
import Derived.Test.YtaafdcghafbfhaaBytesV
import Derived.Lib.SmallJoins
namespace Go.Proofs.Ytaafdcghafbfhaa.fnPacked
open Go.ChangeShapes Go.WideShapes Go.ChangeAt Go.RowKit Go.Joins Go.Deep
open Go.ChangeMaps (open_string shut_string)
set_option linter.unusedVariables false
attribute [local go_sem ↓] Go.wp_at_zero Go.wp_at_succ

theorem sameTrue (v1 v2 : Value) (zs : List Int) (w : World) (h1 : IntsAt w v1 zs) (h2 : IntsAt w v2 zs) (hl : zs.length ≤ 61) : Calls Try.prog 20 #[v1, v2] w fun e w' => e = .returned (.bool true) ∧ Below w.heap.size w w' := by
  have := sameI v1 v2 zs zs w h1 h2 (by omega) (by omega)
  rwa [decide_eq_true rfl] at this
theorem bits_three {l : List Int} (hg : GoodL l) : bitsI true (packM l) ≤ (l.length : Int) * ((packM l).low + 3) := by
  have h1 := high_len hg
  have h2 : (packM l).many * (packM l).low = (l.length : Int) * (packM l).low := rfl
  have h3 : (packM l).high.length = (hgh (lowL l) l l.length).length := rfl
  simp only [bitsI, if_true, h2, h3, Int.mul_add]
  omega
set_option maxRecDepth 100000 in
set_option maxHeartbeats 12800000 in
theorem walk0 (v0 : Value) (n0 : Nat) (v1 : Value) (n1 : Nat) (w : World) (hc0 : CodeAt w v0 n0) (hc1 : CodeAt w v1 n1) (hn : n0 + n1 ≤ 1048576) :
    Calls Try.prog 3 #[v0, v1] w fun e w' => e = .returned (.bool true) ∧ Below w.heap.size w w' := by
  have HC0 := hide hc0
  have HC1 := hide hc1
  obtain ⟨ad0, c0, rfl⟩ : ∃ ad c, v0 = .slice ad n0 c := by
    obtain ⟨ad, c, e, _⟩ := hc0
    exact ⟨ad, c, e⟩
  obtain ⟨ad1, c1, rfl⟩ : ∃ ad c, v1 = .slice ad n1 c := by
    obtain ⟨ad, c, e, _⟩ := hc1
    exact ⟨ad, c, e⟩
  have HK : Hid (Below w.heap.size w w) := Below.refl _ _
  have hbig : ¬ (1048576 : Int) < (n0 : Int) + (n1 : Int) := by omega
  clear hc0 hc1
  go_enter Try.func3, Try.ntmps3
  go_wp2_with fail
  refine (drawPackL _ n0 _ (unhide HC0)).mono ?_
  rintro e w1 ⟨x, l, rfl, ⟨hx, hl⟩, hx1⟩
  have hb1 : Below w.heap.size w w1 := Below.trans (by go_grown) (hx1.mono (by go_size))
  replace HC1 := hide ((unhide HC1).below hb1)
  replace HK := hide ((unhide HK).trans (hb1.mono (unhide HK).size))
  have HX := hide hx
  obtain ⟨xa, xc, hxe⟩ := hx.slice
  subst hxe
  clear hx HC0
  by_cases hg : GoodL l
  case' pos =>
    obtain ⟨p, hp⟩ : ∃ p, p = packM l := ⟨_, rfl⟩
    have hans : AnsL p true l := .inl ⟨rfl, hg, hp⟩
    have hp1 : p.lows.length ≤ 60 := by rw [hp]; simp [packM]; exact hg.1
    have hp2 : p.high.length ≤ 180 := by have := high_len hg; have := hg.1; rw [hp]; simp only [packM]; omega
    have hlo : 0 ≤ p.low ∧ p.low ≤ 13 := by have := lowL_le hg; rw [hp]; simp only [packM]; omega
    have h3 := bits_three hg
    rw [← hp] at h3
    have h60 := hg.1
    have HIM : ∀ x W, IntsAt W x l → Calls Try.prog 14 #[x] W fun e w' => ∃ lv hv, e = .returned (.tuple #[.agg #[.int .i64 p.many, .int .i64 p.low, lv, hv], .bool true]) ∧ PkAt w' lv hv p ∧ Below W.heap.size W w' := fun x W h => by
      rw [hp]
      refine (implPackYes x l W h hg).mono (fun e w' h => ?_)
      obtain ⟨lv, hv, h1, h2, h3⟩ := h
      exact ⟨lv, hv, h1, h2.at, h3⟩
    have HSP : ∀ x W, IntsAt W x l → Calls Try.prog 15 #[x] W fun e w' => ∃ lv hv, e = .returned (.tuple #[.agg #[.int .i64 p.many, .int .i64 p.low, lv, hv], .bool true]) ∧ PkAt w' lv hv p ∧ Below W.heap.size W w' := fun x W h => by
      rw [hp]
      refine (specPackYes x l W h hg).mono (fun e w' h => ?_)
      obtain ⟨lv, hv, h1, h2, h3⟩ := h
      exact ⟨lv, hv, h1, h2.at, h3⟩
    have HSA := fun a b c d W h g => samePk p a b c d W h g (by omega) (by omega)
    have HUN := fun a b W h => implUnpack p true l hans a b W h (by omega) (by omega)
    have HBI := fun a b W h => implBits p true l hans a b W h (by omega) (by omega)
    have HGO := fun a b W h => implGoodP p true l hans a b W h (by omega) (by omega)
    obtain ⟨M, hM⟩ : ∃ M, M = p.many := ⟨_, rfl⟩
    obtain ⟨L, hL⟩ : ∃ L, L = p.low := ⟨_, rfl⟩
    obtain ⟨V, hV⟩ : ∃ V, V = bitsI true p := ⟨_, rfl⟩
    rw [← hV] at HBI h3
    rw [← hL] at hlo h3
    rw [← hM, ← hL] at HIM HSP HSA HUN HBI HGO
    obtain ⟨hlo0, hlo1⟩ := hlo
    obtain ⟨Y, hY⟩ : ∃ Y, Y = (l.length : Int) * (L + 3) := ⟨_, rfl⟩
    have hYe := hY.symm
    rw [← hY] at h3
    have hY0 : 0 ≤ Y ∧ Y ≤ 960 := by
      rw [hY]
      have q1 : (l.length : Int) * (L + 3) ≤ 60 * 16 := Int.mul_le_mul (by omega) (by omega) (by omega) (by omega)
      exact ⟨Int.mul_nonneg (by omega) (by omega), by omega⟩
    obtain ⟨hY1, hY2⟩ := hY0
    have hYd : decide (Y < V) = false := decide_eq_false (by omega)
    clear hM hL hV hY hans hg hp h3
    go_wp2_with fail
    refine (HIM _ _ (unhide HX)).mono ?_
    rintro e w2 ⟨a1, a2, rfl, ha, hx2⟩
    have hb2 : Below w1.heap.size w1 w2 := Below.trans (by go_grown) (hx2.mono (by go_size))
    replace HC1 := hide ((unhide HC1).below hb2)
    replace HX := hide ((unhide HX).below hb2)
    replace HK := hide ((unhide HK).trans (hb2.mono (unhide HK).size))
    have HA := hide ha
    obtain ⟨_, _, hz1⟩ := ha.1.slice
    subst hz1
    obtain ⟨_, _, hz2⟩ := ha.2.slice
    subst hz2
    clear ha
    go_wp2_with fail
    refine (HSP _ _ ((unhide HX).below (by go_grown))).mono ?_
    rintro e w3 ⟨b1, b2, rfl, hb, hx3⟩
    have hb3 : Below w2.heap.size w2 w3 := Below.trans (by go_grown) (hx3.mono (by go_size))
    replace HC1 := hide ((unhide HC1).below hb3)
    replace HX := hide ((unhide HX).below hb3)
    replace HA := hide ((unhide HA).below hb3)
    replace HK := hide ((unhide HK).trans (hb3.mono (unhide HK).size))
    have qBX := boxOf1 hx3
    have BX := hide qBX
    clear qBX
    have BXz := (unhide BX).1
    have BXc0 := (unhide BX).2.1 0 _ rfl
    have BXc1 := (unhide BX).2.1 1 _ rfl
    have BXc2 := (unhide BX).2.1 2 _ rfl
    have BXc3 := (unhide BX).2.1 3 _ rfl
    have HBb := hide hb
    obtain ⟨_, _, hz1⟩ := hb.1.slice
    subst hz1
    obtain ⟨_, _, hz2⟩ := hb.2.slice
    subst hz2
    clear hb
    go_wp2_with fail
    refine (HSA _ _ _ _ _ ((unhide HA).below (by go_grown)) ((unhide HBb).below (by go_grown))).mono ?_
    rintro e w4 ⟨rfl, hx4⟩
    have hb4 : Below w3.heap.size w3 w4 := Below.trans (by go_grown) (hx4.mono (by go_size))
    replace HC1 := hide ((unhide HC1).below hb4)
    replace HX := hide ((unhide HX).below hb4)
    replace HA := hide ((unhide HA).below hb4)
    (try clear BXz BXc0 BXc1 BXc2 BXc3)
    replace BX := hide ((unhide BX).below hb4)
    have BXz := (unhide BX).1
    have BXc0 := (unhide BX).2.1 0 _ rfl
    have BXc1 := (unhide BX).2.1 1 _ rfl
    have BXc2 := (unhide BX).2.1 2 _ rfl
    have BXc3 := (unhide BX).2.1 3 _ rfl
    replace HK := hide ((unhide HK).trans (hb4.mono (unhide HK).size))
    clear HBb
    go_wp2_with fail
    refine (HUN _ _ _ (unhide HA)).mono ?_
    rintro e w5 ⟨⟨ou, rfl, hou⟩, hx5⟩
    have hb5 : Below w4.heap.size w4 w5 := Below.trans (by go_grown) (hx5.mono (by go_size))
    replace HC1 := hide ((unhide HC1).below hb5)
    replace HX := hide ((unhide HX).below hb5)
    replace HA := hide ((unhide HA).below hb5)
    (try clear BXz BXc0 BXc1 BXc2 BXc3)
    replace BX := hide ((unhide BX).below hb5)
    have BXz := (unhide BX).1
    have BXc0 := (unhide BX).2.1 0 _ rfl
    have BXc1 := (unhide BX).2.1 1 _ rfl
    have BXc2 := (unhide BX).2.1 2 _ rfl
    have BXc3 := (unhide BX).2.1 3 _ rfl
    replace HK := hide ((unhide HK).trans (hb5.mono (unhide HK).size))
    have HOU := hide (OwnA.ofInts hou).1.ints
    obtain ⟨_, _, hz1⟩ := (rows_of_ownS hou).slice
    subst hz1
    clear hou
    go_wp2_with fail
    refine (HBI _ _ _ (unhide HA)).mono ?_
    rintro e w6 ⟨rfl, hx6⟩
    have hb6 : Below w5.heap.size w5 w6 := Below.trans (by go_grown) (hx6.mono (by go_size))
    replace HC1 := hide ((unhide HC1).below hb6)
    replace HX := hide ((unhide HX).below hb6)
    replace HA := hide ((unhide HA).below hb6)
    (try clear BXz BXc0 BXc1 BXc2 BXc3)
    replace BX := hide ((unhide BX).below hb6)
    have BXz := (unhide BX).1
    have BXc0 := (unhide BX).2.1 0 _ rfl
    have BXc1 := (unhide BX).2.1 1 _ rfl
    have BXc2 := (unhide BX).2.1 2 _ rfl
    have BXc3 := (unhide BX).2.1 3 _ rfl
    replace HOU := hide ((unhide HOU).below hb6)
    replace HK := hide ((unhide HK).trans (hb6.mono (unhide HK).size))
    go_wp2_with fail
    refine (HGO _ _ _ (unhide HA)).mono ?_
    rintro e w7 ⟨rfl, hx7⟩
    have hb7 : Below w6.heap.size w6 w7 := Below.trans (by go_grown) (hx7.mono (by go_size))
    replace HC1 := hide ((unhide HC1).below hb7)
    replace HX := hide ((unhide HX).below hb7)
    replace HA := hide ((unhide HA).below hb7)
    (try clear BXz BXc0 BXc1 BXc2 BXc3)
    replace BX := hide ((unhide BX).below hb7)
    have BXz := (unhide BX).1
    have BXc0 := (unhide BX).2.1 0 _ rfl
    have BXc1 := (unhide BX).2.1 1 _ rfl
    have BXc2 := (unhide BX).2.1 2 _ rfl
    have BXc3 := (unhide BX).2.1 3 _ rfl
    replace HOU := hide ((unhide HOU).below hb7)
    replace HK := hide ((unhide HK).trans (hb7.mono (unhide HK).size))
    go_wp2_with fail
    refine (sameTrue _ _ l _ ((unhide HOU).below (by go_grown)) ((unhide HX).below (by go_grown)) (by omega)).mono ?_
    rintro e w8 ⟨rfl, hx8⟩
    have hb8 : Below w7.heap.size w7 w8 := Below.trans (by go_grown) (hx8.mono (by go_size))
    replace HC1 := hide ((unhide HC1).below hb8)
    (try clear BXz BXc0 BXc1 BXc2 BXc3)
    replace BX := hide ((unhide BX).below hb8)
    have BXz := (unhide BX).1
    have BXc0 := (unhide BX).2.1 0 _ rfl
    have BXc1 := (unhide BX).2.1 1 _ rfl
    have BXc2 := (unhide BX).2.1 2 _ rfl
    have BXc3 := (unhide BX).2.1 3 _ rfl
    replace HK := hide ((unhide HK).trans (hb8.mono (unhide HK).size))
    clear HA HOU HX HIM HSP HSA HUN HBI HGO
    clear hx1 hb1 hx2 hb2 hx3 hb3 hx4 hb4 hx5 hb5 hx6 hb6 hx7 hb7 hx8 hb8
    go_upto_region 13 with fail
    clear BX BXz BXc0 BXc1 BXc2 BXc3 hY1 hY2 hYd hYe hlo0 hlo1 hp1 hp2 h60 hl
  case' neg =>
    have HIM := fun x W h => implPackNo x l W h (by omega) hg
    have HSP := fun x W h => specPackNo x l W h (by omega) hg
    have HSA := fun W => samePk ⟨0, 0, [], []⟩ (.slice none 0 0) (.slice none 0 0) (.slice none 0 0) (.slice none 0 0) W ⟨.inl ⟨_, _, rfl, rfl⟩, .inl ⟨_, _, rfl, rfl⟩⟩ ⟨.inl ⟨_, _, rfl, rfl⟩, .inl ⟨_, _, rfl, rfl⟩⟩ (by simp) (by simp)
    clear hg
    go_wp2_with fail
    refine (HIM _ _ (unhide HX)).mono ?_
    rintro e w2 ⟨rfl, hx2⟩
    have hb2 : Below w1.heap.size w1 w2 := Below.trans (by go_grown) (hx2.mono (by go_size))
    replace HC1 := hide ((unhide HC1).below hb2)
    replace HX := hide ((unhide HX).below hb2)
    replace HK := hide ((unhide HK).trans (hb2.mono (unhide HK).size))
    go_wp2_with fail
    refine (HSP _ _ ((unhide HX).below (by go_grown))).mono ?_
    rintro e w3 ⟨rfl, hx3⟩
    have hb3 : Below w2.heap.size w2 w3 := Below.trans (by go_grown) (hx3.mono (by go_size))
    replace HC1 := hide ((unhide HC1).below hb3)
    replace HX := hide ((unhide HX).below hb3)
    replace HK := hide ((unhide HK).trans (hb3.mono (unhide HK).size))
    have qBX := boxOf1 hx3
    have BX := hide qBX
    clear qBX
    have BXz := (unhide BX).1
    have BXc0 := (unhide BX).2.1 0 _ rfl
    have BXc1 := (unhide BX).2.1 1 _ rfl
    have BXc2 := (unhide BX).2.1 2 _ rfl
    have BXc3 := (unhide BX).2.1 3 _ rfl
    go_wp2_with fail
    refine (HSA _).mono ?_
    rintro e w8 ⟨rfl, hx8⟩
    have hb8 : Below w3.heap.size w3 w8 := Below.trans (by go_grown) (hx8.mono (by go_size))
    replace HC1 := hide ((unhide HC1).below hb8)
    (try clear BXz BXc0 BXc1 BXc2 BXc3)
    replace BX := hide ((unhide BX).below hb8)
    have BXz := (unhide BX).1
    have BXc0 := (unhide BX).2.1 0 _ rfl
    have BXc1 := (unhide BX).2.1 1 _ rfl
    have BXc2 := (unhide BX).2.1 2 _ rfl
    have BXc3 := (unhide BX).2.1 3 _ rfl
    replace HK := hide ((unhide HK).trans (hb8.mono (unhide HK).size))
    clear HX HIM HSP HSA hl
    clear BX BXz BXc0 BXc1 BXc2 BXc3
    clear hx1 hb1 hx2 hb2 hx3 hb3 hx8 hb8
    go_upto_region 13 with fail
  all_goals
    go_wp2_with fail
    refine (drawUnpack _ n1 _ (unhide HC1)).mono ?_
    rintro e w9 ⟨lv, hv, q, rfl, hq, hx9⟩
    have hb9 : Below w8.heap.size w8 w9 := Below.trans (by go_grown) (hx9.mono (by go_size))
    replace HC1 := hide ((unhide HC1).below hb9)
    replace HK := hide ((unhide HK).trans (hb9.mono (unhide HK).size))
    have HQ := hide hq.at
    obtain ⟨qa, qc, hz1⟩ := hq.1.1.slice
    subst hz1
    obtain ⟨ra, rc, hz2⟩ := hq.1.2.slice
    subst hz2
    have hq1 := hq.2.1
    have hq2 := hq.2.2
    clear hq
    obtain ⟨B2, A2, hA2⟩ := ans_ex q
    have h60 := hA2.len
    have HUN := fun a b W h => implUnpack q B2 A2 hA2 a b W h (by omega) (by omega)
    have HSU := fun a b W h => specUnpack q B2 A2 hA2 a b W h (by omega) (by omega)
    have HBI := fun a b W h => implBits q B2 A2 hA2 a b W h (by omega) (by omega)
    have HSB := fun a b W h => specBits q B2 A2 hA2 a b W h (by omega) (by omega)
    have HGO := fun a b W h => implGoodP q B2 A2 hA2 a b W h (by omega) (by omega)
    have HSA := fun a b c d W h g => samePk q a b c d W h g (by omega) (by omega)
    have HPA : B2 = true → ∀ x W, IntsAt W x A2 → Calls Try.prog 14 #[x] W fun e w' => ∃ lv hv, e = .returned (.tuple #[.agg #[.int .i64 q.many, .int .i64 q.low, lv, hv], .bool true]) ∧ PkAt w' lv hv q ∧ Below W.heap.size W w' := fun hb x W h => by
      rcases hA2 with ⟨_, hg, hqe⟩ | ⟨h0, _⟩
      · rw [hqe]
        refine (implPackYes x A2 W h hg).mono (fun e w' h => ?_)
        obtain ⟨lv, hv, h1, h2, h3⟩ := h
        exact ⟨lv, hv, h1, h2.at, h3⟩
      · rw [hb] at h0; cases h0
    obtain ⟨M, hM⟩ : ∃ M, M = q.many := ⟨_, rfl⟩
    obtain ⟨L, hL⟩ : ∃ L, L = q.low := ⟨_, rfl⟩
    obtain ⟨V, hV⟩ : ∃ V, V = bitsI B2 q := ⟨_, rfl⟩
    rw [← hV] at HBI HSB
    rw [← hM, ← hL] at HUN HSU HBI HSB HGO HSA HPA
    rw [← hM, ← hL]
    have HPAH := hide HPA
    have hbn : (B2 != B2) = false := by cases B2 <;> rfl
    have hvn : (V != V) = false := by simp
    clear hM hL hV hA2 HPA
    go_wp2_with fail
    refine (HUN _ _ _ ((unhide HQ).below (by go_grown))).mono ?_
    rintro e w10 ⟨⟨ou, rfl, hou⟩, hx10⟩
    have hb10 : Below w9.heap.size w9 w10 := Below.trans (by go_grown) (hx10.mono (by go_size))
    replace HC1 := hide ((unhide HC1).below hb10)
    replace HQ := hide ((unhide HQ).below hb10)
    replace HK := hide ((unhide HK).trans (hb10.mono (unhide HK).size))
    have qBZ := boxOf1 hx10
    have BZ := hide qBZ
    clear qBZ
    have BZz := (unhide BZ).1
    have BZc0 := (unhide BZ).2.1 0 _ rfl
    have BZc1 := (unhide BZ).2.1 1 _ rfl
    have BZc2 := (unhide BZ).2.1 2 _ rfl
    have BZc3 := (unhide BZ).2.1 3 _ rfl
    have HOU := hide (OwnA.ofInts hou).1.ints
    obtain ⟨ua, uc, hz1⟩ := (rows_of_ownS hou).slice
    subst hz1
    clear hou
    go_wp2_with fail
    refine (HSU _ _ _ (unhide HQ)).mono ?_
    rintro e w11 ⟨⟨os, rfl, hos⟩, hx11⟩
    have hb11 : Below w10.heap.size w10 w11 := Below.trans (by go_grown) (hx11.mono (by go_size))
    replace HC1 := hide ((unhide HC1).below hb11)
    replace HQ := hide ((unhide HQ).below hb11)
    (try clear BZz BZc0 BZc1 BZc2 BZc3)
    replace BZ := hide ((unhide BZ).below hb11)
    have BZz := (unhide BZ).1
    have BZc0 := (unhide BZ).2.1 0 _ rfl
    have BZc1 := (unhide BZ).2.1 1 _ rfl
    have BZc2 := (unhide BZ).2.1 2 _ rfl
    have BZc3 := (unhide BZ).2.1 3 _ rfl
    replace HOU := hide ((unhide HOU).below hb11)
    replace HK := hide ((unhide HK).trans (hb11.mono (unhide HK).size))
    have HOS := hide (OwnA.ofInts hos).1.ints
    obtain ⟨sa, sc, hz1⟩ := (rows_of_ownS hos).slice
    subst hz1
    clear hos
    go_wp2_with fail
    refine (HBI _ _ _ (unhide HQ)).mono ?_
    rintro e w12 ⟨rfl, hx12⟩
    have hb12 : Below w11.heap.size w11 w12 := Below.trans (by go_grown) (hx12.mono (by go_size))
    replace HC1 := hide ((unhide HC1).below hb12)
    replace HQ := hide ((unhide HQ).below hb12)
    (try clear BZz BZc0 BZc1 BZc2 BZc3)
    replace BZ := hide ((unhide BZ).below hb12)
    have BZz := (unhide BZ).1
    have BZc0 := (unhide BZ).2.1 0 _ rfl
    have BZc1 := (unhide BZ).2.1 1 _ rfl
    have BZc2 := (unhide BZ).2.1 2 _ rfl
    have BZc3 := (unhide BZ).2.1 3 _ rfl
    replace HOU := hide ((unhide HOU).below hb12)
    replace HOS := hide ((unhide HOS).below hb12)
    replace HK := hide ((unhide HK).trans (hb12.mono (unhide HK).size))
    go_wp2_with fail
    refine (HSB _ _ _ (unhide HQ)).mono ?_
    rintro e w13 ⟨rfl, hx13⟩
    have hb13 : Below w12.heap.size w12 w13 := Below.trans (by go_grown) (hx13.mono (by go_size))
    replace HC1 := hide ((unhide HC1).below hb13)
    replace HQ := hide ((unhide HQ).below hb13)
    (try clear BZz BZc0 BZc1 BZc2 BZc3)
    replace BZ := hide ((unhide BZ).below hb13)
    have BZz := (unhide BZ).1
    have BZc0 := (unhide BZ).2.1 0 _ rfl
    have BZc1 := (unhide BZ).2.1 1 _ rfl
    have BZc2 := (unhide BZ).2.1 2 _ rfl
    have BZc3 := (unhide BZ).2.1 3 _ rfl
    replace HOU := hide ((unhide HOU).below hb13)
    replace HOS := hide ((unhide HOS).below hb13)
    replace HK := hide ((unhide HK).trans (hb13.mono (unhide HK).size))
    go_wp2_with fail
    refine (drawLow _ n1 _ (unhide HC1)).mono ?_
    rintro e w14 ⟨la, lb, rfl, hx14⟩
    have hb14 : Below w13.heap.size w13 w14 := Below.trans (by go_grown) (hx14.mono (by go_size))
    replace HQ := hide ((unhide HQ).below hb14)
    (try clear BZz BZc0 BZc1 BZc2 BZc3)
    replace BZ := hide ((unhide BZ).below hb14)
    have BZz := (unhide BZ).1
    have BZc0 := (unhide BZ).2.1 0 _ rfl
    have BZc1 := (unhide BZ).2.1 1 _ rfl
    have BZc2 := (unhide BZ).2.1 2 _ rfl
    have BZc3 := (unhide BZ).2.1 3 _ rfl
    replace HOU := hide ((unhide HOU).below hb14)
    replace HOS := hide ((unhide HOS).below hb14)
    replace HK := hide ((unhide HK).trans (hb14.mono (unhide HK).size))
    have HLI := fun W => implLow la lb W
    have HLS := fun W => specLow la lb W
    obtain ⟨R, hR⟩ : ∃ R, R = lowB la lb := ⟨_, rfl⟩
    obtain ⟨U, hU⟩ : ∃ U, U = lowV la lb := ⟨_, rfl⟩
    rw [← hR, ← hU] at HLI HLS
    have hrn : (R != R) = false := by cases R <;> rfl
    have hun : (U != U) = false := by simp
    clear hR hU HC1
    go_wp2_with fail
    refine (HLI _).mono ?_
    rintro e w15 ⟨rfl, rfl⟩
    go_wp2_with fail
    refine (HLS _).mono ?_
    rintro e w16 ⟨rfl, rfl⟩
    clear HLI HLS
    go_wp2_with fail
    refine (sameTrue _ _ A2 _ ((unhide HOU).below (by go_grown)) ((unhide HOS).below (by go_grown)) (by omega)).mono ?_
    rintro e w17 ⟨rfl, hx17⟩
    have hb17 : Below w16.heap.size w16 w17 := Below.trans (by go_grown) (hx17.mono (by go_size))
    replace HQ := hide ((unhide HQ).below hb17)
    (try clear BZz BZc0 BZc1 BZc2 BZc3)
    replace BZ := hide ((unhide BZ).below hb17)
    have BZz := (unhide BZ).1
    have BZc0 := (unhide BZ).2.1 0 _ rfl
    have BZc1 := (unhide BZ).2.1 1 _ rfl
    have BZc2 := (unhide BZ).2.1 2 _ rfl
    have BZc3 := (unhide BZ).2.1 3 _ rfl
    replace HOU := hide ((unhide HOU).below hb17)
    replace HK := hide ((unhide HK).trans (hb17.mono (unhide HK).size))
    go_wp2_with fail
    refine (HGO _ _ _ (unhide HQ)).mono ?_
    rintro e w18 ⟨rfl, hx18⟩
    have hb18 : Below w17.heap.size w17 w18 := Below.trans (by go_grown) (hx18.mono (by go_size))
    replace HQ := hide ((unhide HQ).below hb18)
    (try clear BZz BZc0 BZc1 BZc2 BZc3)
    replace BZ := hide ((unhide BZ).below hb18)
    have BZz := (unhide BZ).1
    have BZc0 := (unhide BZ).2.1 0 _ rfl
    have BZc1 := (unhide BZ).2.1 1 _ rfl
    have BZc2 := (unhide BZ).2.1 2 _ rfl
    have BZc3 := (unhide BZ).2.1 3 _ rfl
    replace HOU := hide ((unhide HOU).below hb18)
    replace HK := hide ((unhide HK).trans (hb18.mono (unhide HK).size))
    clear HOS
    cases B2 with
    | false =>
      have hfin := unhide HK
      go_wp2_with fail
      go_returns
      exact ⟨rfl, hfin⟩
    | true =>
      have HPA2 := HPAH.out rfl
      go_wp2_with fail
      refine (HPA2 _ _ (unhide HOU)).mono ?_
      rintro e w19 ⟨a1, a2, rfl, ha, hx19⟩
      have hb19 : Below w18.heap.size w18 w19 := Below.trans (by go_grown) (hx19.mono (by go_size))
      replace HQ := hide ((unhide HQ).below hb19)
      (try clear BZz BZc0 BZc1 BZc2 BZc3)
      replace BZ := hide ((unhide BZ).below hb19)
      have BZz := (unhide BZ).1
      have BZc0 := (unhide BZ).2.1 0 _ rfl
      have BZc1 := (unhide BZ).2.1 1 _ rfl
      have BZc2 := (unhide BZ).2.1 2 _ rfl
      have BZc3 := (unhide BZ).2.1 3 _ rfl
      replace HOU := hide ((unhide HOU).below hb19)
      replace HK := hide ((unhide HK).trans (hb19.mono (unhide HK).size))
      have HA := hide ha
      obtain ⟨_, _, hz1⟩ := ha.1.slice
      subst hz1
      obtain ⟨_, _, hz2⟩ := ha.2.slice
      subst hz2
      clear ha HOU
      go_wp2_with fail
      refine (HSA _ _ _ _ _ ((unhide HA).below (by go_grown)) ((unhide HQ).below (by go_grown))).mono ?_
      rintro e w20 ⟨rfl, hx20⟩
      have hb20 : Below w19.heap.size w19 w20 := Below.trans (by go_grown) (hx20.mono (by go_size))
      (try clear BZz BZc0 BZc1 BZc2 BZc3)
      replace BZ := hide ((unhide BZ).below hb20)
      have BZz := (unhide BZ).1
      have BZc0 := (unhide BZ).2.1 0 _ rfl
      have BZc1 := (unhide BZ).2.1 1 _ rfl
      have BZc2 := (unhide BZ).2.1 2 _ rfl
      have BZc3 := (unhide BZ).2.1 3 _ rfl
      replace HK := hide ((unhide HK).trans (hb20.mono (unhide HK).size))
      have hfin := unhide HK
      go_wp2_with fail
      go_returns
      exact ⟨rfl, hfin⟩
set_option maxRecDepth 100000 in
theorem walk (v0 : Value) (n0 : Nat) (h0 : n0 ≤ 140737488351232) (v1 : Value) (n1 : Nat) (h1 : n1 ≤ 140737488351232) (w : World) (hb0 : ByteRow w v0 n0) (hb1 : ByteRow w v1 n1) :
    Calls Try.prog 3 #[v0, v1] w fun e w' => e = .returned (.bool true) ∧ Below w.heap.size w w' := by
  by_cases hn : n0 + n1 ≤ 1048576
  · exact walk0 v0 n0 v1 n1 w (hb0.code (by omega)) (hb1.code (by omega)) hn
  · obtain ⟨ad0, c0, rfl, _⟩ := hb0
    obtain ⟨ad1, c1, rfl, _⟩ := hb1
    have hbig : (1048576 : Int) < (n0 : Int) + (n1 : Int) := by omega
    go_enter Try.func3, Try.ntmps3
    go_wp2
    go_returns
    exact ⟨rfl, by go_grown⟩

theorem own : ownKnob Try.prog.godebug = none := by kernel_rfl
theorem laidOut : laidOutB Try.prog = true := by kernel_rfl
set_option maxRecDepth 100000 in
theorem lifted (os : Os) (started : os.Started) (H : Type) (enc : TypeId × Value → H) :
    ReturnsInHanded {} Try.checked os 3 .any (Rows.fnPackedSpec.pre6 enc Try.prog Try.f3 Rows.fnPackedRow.domain false) (Rows.fnPackedSpec.post enc Try.prog Try.f3 false true false false) := by
  refine returnsInHanded_of_change_sized (C := Try.checked) own started (by kernel_rfl) Try.func3
    (ChangeSpec.witness6 (enc := enc) (C := Try.checked) false ⟨#[], #[.slice none 0 0, .slice none 0 0], []⟩ 8 (by kernel_rfl) (by kernel_rfl) (by kernel_rfl) (by kernel_rfl)) ?_
  intro W base args ds gs before hval0 hW hcnd hsz0 _
  have hsz : (DataW.weightsEach Try.prog (Try.f3.params.toList ++ (OpenSpec.ofChange Rows.fnPackedSpec).bare.plain.varTypes Try.prog) (ds ++ gs)).all (· ≤ reachBytes) = true := hsz0
  have hval : ∀ (j : Nat) t v, Try.f3.params[j]? = some t → args[j]? = some v → Value.okWide Try.prog W .any base t v := hval0
  have hW' := hW
  obtain ⟨p, q, hA0, hV, rfl, hfz, hnd⟩ := hW
  have hA : DataW.TrodAll enc Try.prog W 0 (fun _ => true) true Try.f3.params.toList args.toList ds p := hA0
  rw [Try.params3] at hA hval
  obtain ⟨v0, vs0, d0, ds0, p0, q0, hargs, rfl, rfl, h0, r0⟩ := trodAll_cons hA
  obtain ⟨v1, vs1, d1, ds1, p1, q1, rfl, rfl, rfl, h1, r1⟩ := trodAll_cons r0
  obtain ⟨rfl, rfl, rfl⟩ := trodAll_nil r1
  obtain rfl : args = #[v0, v1] := by cases args; simp_all
  obtain ⟨rfl, rfl⟩ := trodVars_none hV
  obtain ⟨ad0, len0, cap0, rfl⟩ := okWide_slice Try.underlying22 (hval 0 22 v0 rfl rfl)
  have kk0 := h0
  have lt0 : ∀ x ∈ p0, x.block < W.heap.size := by obtain ⟨m, hm⟩ := kk0; exact DataW.trod_lt m _ _ _ hm
  obtain ⟨hbr0, hbn0⟩ := bytes_of h0 hsz (j := 0) (by rw [Try.params3]; rfl) rfl
  obtain ⟨ad1, len1, cap1, rfl⟩ := okWide_slice Try.underlying22 (hval 1 22 v1 rfl rfl)
  have kk1 := h1
  have lt1 : ∀ x ∈ p1, x.block < W.heap.size := by obtain ⟨m, hm⟩ := kk1; exact DataW.trod_lt m _ _ _ hm
  obtain ⟨hbr1, hbn1⟩ := bytes_of h1 hsz (j := 1) (by rw [Try.params3]; rfl) rfl
  clear hA0 hval0
  refine (walk _ len0 hbn0 _ len1 hbn1 W hbr0 hbr1).mono fun e W' ⟨he, bel⟩ => ?_
  subst he
  exact ⟨_, rfl, _, _, _, [], _, [], hW', trodAll_mk1 (shut_bool Try.underlying4 _), (trodAll_cons_mk (Below.trod laidOut (by kernel_rfl) (of_decide_eq_true (by kernel_rfl)) kk0 bel lt0) (trodAll_cons_mk (Below.trod laidOut (by kernel_rfl) (of_decide_eq_true (by kernel_rfl)) kk1 bel lt1) trodAll_mk0)), rfl, bel.frame _, fun h => by cases h⟩

theorem over : Rows.fnPackedRow.holds Try.pinned (OpenSpec.ofChange Rows.fnPackedSpec) :=
  OpenClaim.holds_of_wide 3 Try.f3 rfl rfl rfl rfl rfl rfl rfl ⟨rfl, rfl, rfl, rfl, rfl⟩ rfl rfl rfl rfl rfl (by kernel_rfl) Try.func3 (by kernel_rfl)
    (of_decide_eq_true (by kernel_rfl)) (by unfold Func.isWrapper; first | (rw [if_pos (by decide +kernel)]; kernel_rfl) | (rw [if_neg (by decide +kernel)]; exact ⟨rfl, rfl⟩))
    (fun os started H enc _ => lifted os started H enc)
end Go.Proofs.Ytaafdcghafbfhaa.fnPacked
namespace Go.Proofs.Ytaafdcghafbfhaa
theorem fnPacked_holds : Rows.FnPackedSaid := fnPacked.over
#print axioms fnPacked_holds
end Go.Proofs.Ytaafdcghafbfhaa
