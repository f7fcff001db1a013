/- Contracts of the program's order of rows. Condition: the lists of values lie in memory. -/
import Derived.Test.YtolkiofdbdjfkaaImplC
import Derived.Test.YtolkiofdbdjfkaaImplRB
namespace Go.Proofs.Ytolkiofdbdjfkaa
open Go.ChangeShapes Go.WideShapes Go.ChangeAt Go.RowKit Go.Deep
set_option linter.unusedVariables false
attribute [local go_sem ↓] Go.wp_at_zero Go.wp_at_succ

set_option maxHeartbeats 6400000 in
set_option maxRecDepth 100000 in
theorem cmpFunc (x y : Value) (a b : List VV) (w : World) (bx : Nat) (hx : OwnF w bx x a) (hy : OwnF w bx y b) (hla : a.length ≤ 6) (hlb : b.length ≤ 6) (hga : AllGood a) (hgb : AllGood b) :
    Calls Try.prog 61 #[x, y, .func (.func 49) #[] #[]] w fun e w' => e = .returned (.int .i64 (cmpR a b)) ∧ Below w.heap.size w w' := by
  obtain ⟨adx, cx, rfl, HCX⟩ := hx.look
  obtain ⟨ady, cy, rfl, HCY⟩ := hy.look
  have KX : Hid (∀ k, k < a.length → ∃ g, adx = some ⟨g, 0, none⟩ ∧ g < w.heap.size ∧ w.cell? ⟨g, k, none⟩ = some (fld (a.getD k v0))) := HCX
  have KY : Hid (∀ k, k < b.length → ∃ g, ady = some ⟨g, 0, none⟩ ∧ g < w.heap.size ∧ w.cell? ⟨g, k, none⟩ = some (fld (b.getD k v0))) := HCY
  have HM : Hid (∀ k, (∀ j, j < k → cmpV (a.getD j v0) (b.getD j v0) = 0) → k < a.length → k = b.length → cmpR a b = 1) := fun k h1 h2 h3 => cmpR_more h1 h2 h3
  have HA : Hid (∀ k, (∀ j, j < k → cmpV (a.getD j v0) (b.getD j v0) = 0) → k < a.length → k < b.length → cmpV (a.getD k v0) (b.getD k v0) ≠ 0 → cmpR a b = cmpV (a.getD k v0) (b.getD k v0)) := fun k h1 h2 h3 h4 => cmpR_at h1 h2 h3 h4
  have HEN : Hid ((∀ j, j < a.length → cmpV (a.getD j v0) (b.getD j v0) = 0) → a.length ≤ b.length → cmpR a b = sgn (a.length : Int) (b.length : Int)) := fun h1 h2 => cmpR_end h1 h2
  have HGA : Hid (AllGood a) := hga
  have HGB : Hid (AllGood b) := hgb
  clear hx hy HCX HCY hga hgb
  generalize cmpR a b = RR at *
  go_enter Try.func61, Try.ntmps61
  go_wp2_with fail
  go_loopw [7, 8, 9, 10, 13] (fun p q c d i wr => ∃ k : Nat, k ≤ a.length ∧ k ≤ b.length ∧ i = .int .i64 k ∧ (∀ j, j < k → cmpV (a.getD j v0) (b.getD j v0) = 0) ∧ Below w.heap.size w wr) (fun _ _ _ _ i _ => a.length - (intOf i).toNat)
  case atStart => exact ⟨0, Nat.zero_le _, Nat.zero_le _, rfl, fun j hj => by omega, Below.refl _ _⟩
  case round =>
    obtain ⟨k, hk, hkb, rfl, hall, kb⟩ := hrel
    have HALL : Hid (∀ j, j < k → cmpV (a.getD j v0) (b.getD j v0) = 0) := hall
    clear hall
    have kl := kb.size
    by_cases hlt : k < a.length
    · obtain ⟨g1, rfl, hg1, hv1⟩ := KX.out k hlt
      have hc1 := (kb.cell (p := ⟨g1, k, none⟩) hg1).trans hv1
      clear hv1
      have hki : (k : Int) < (a.length : Int) := by omega
      have hg1r : g1 < wr.heap.size := by omega
      by_cases heq : k = b.length
      · have hE := HM.out k HALL.out hlt heq
        have HE : Hid (RR = 1) := hE
        clear hE
        generalize fld (a.getD k v0) = F at *
        subst heq
        go_wp2
        go_ret
        exact ⟨by rw [HE.out]; rfl, kb⟩
      · have hltb : k < b.length := by omega
        obtain ⟨g2, rfl, hg2, hv2⟩ := KY.out k hltb
        have hc2 := (kb.cell (p := ⟨g2, k, none⟩) hg2).trans hv2
        clear hv2
        have hkbi : ¬ (b.length : Int) ≤ (k : Int) := by omega
        have hkb2 : (k : Int) < (b.length : Int) := by omega
        have hk0 : (0 : Int) ≤ (k : Int) := by omega
        have hg2r : g2 < wr.heap.size := by omega
        have HCM := fun W => implCmp (a.getD k v0) (b.getD k v0) W (HGA.out _ (by simp [List.getD, hlt])) (HGB.out _ (by simp [List.getD, hltb]))
        have HAk : Hid (cmpV (a.getD k v0) (b.getD k v0) ≠ 0 → RR = cmpV (a.getD k v0) (b.getD k v0)) := fun h => HA.out k HALL.out hlt hltb h
        have HAL2 : Hid (cmpV (a.getD k v0) (b.getD k v0) = 0 → ∀ j, j < k + 1 → cmpV (a.getD j v0) (b.getD j v0) = 0) := by
          intro h j hj
          by_cases e : j = k
          · rw [e]; exact h
          · exact HALL.out j (by omega)
        generalize cmpV (a.getD k v0) (b.getD k v0) = z at *
        generalize fld (a.getD k v0) = F at *
        generalize fld (b.getD k v0) = G at *
        go_wp2_with fail
        refine (HCM _).mono ?_
        rintro e w1 ⟨rfl, hb1⟩
        have k1 : Below w.heap.size w w1 := kb.trans (hb1.mono kl)
        clear hb1 HCM hc1 hc2
        by_cases hz : z = 0
        · have HAL3 : Hid (∀ j, j < k + 1 → cmpV (a.getD j v0) (b.getD j v0) = 0) := HAL2.out hz
          subst hz
          go_wp2_with fail
          exact ⟨⟨k + 1, by omega, by omega, by go_num, HAL3.out, k1⟩, by simp [intOf]; omega⟩
        · have HZ : Hid (RR = z) := HAk.out hz
          go_wp2_with fail
          go_ret
          exact ⟨by rw [HZ.out]; rfl, k1⟩
    · have hke : k = a.length := by omega
      subst hke
      have HE : Hid (RR = sgn (a.length : Int) (b.length : Int)) := HEN.out HALL.out hkb
      by_cases hlt2 : a.length < b.length
      · have hli : (a.length : Int) < (b.length : Int) := by omega
        have HE2 : Hid (RR = -1) := by show _ = _; rw [HE.out]; unfold sgn; rw [if_pos hli]
        go_wp2
        go_ret
        exact ⟨by rw [HE2.out]; rfl, kb⟩
      · have hli : ¬ (a.length : Int) < (b.length : Int) := by omega
        have HE2 : Hid (RR = 0) := by show _ = _; rw [HE.out]; unfold sgn; rw [if_neg hli, if_neg (by omega)]
        go_wp2
        go_ret
        exact ⟨by rw [HE2.out]; rfl, kb⟩
set_option maxHeartbeats 3200000 in
theorem implCRYes (x y : Value) (a b : List VV) (w : World) (hx : ValsAt w x a) (hy : ValsAt w y b) (hla : a.length ≤ 6) (hlb : b.length ≤ 6) (hga : AllGood a) (hgb : AllGood b) :
    Calls Try.prog 26 #[x, y] w fun e w' => e = .returned (.tuple #[.int .i64 (cmpR a b), .bool true]) ∧ Below w.heap.size w w' := by
  have HRA := implFsYes x a w hx hla hga
  have HRB := fun W hW => implFsYes y b W hW hlb hgb
  have HC := fun X Y W h1 h2 => cmpFunc X Y a b W w.heap.size h1 h2 hla hlb hga hgb
  have HY : Hid (ValsAt w y b) := hy
  clear hx hy hga hgb
  generalize cmpR a b = RR at *
  go_enter Try.func26, Try.ntmps26
  go_wp2_with fail
  refine HRA.mono ?_
  rintro e w1 ⟨X, rfl, hX, hb1⟩
  have hl1 := hb1.size
  have HX1 := hid hX
  clear hX
  go_wp2_with fail
  refine (HRB _ (HY.out.below hb1)).mono ?_
  rintro e w2 ⟨Y, rfl, hY, hb2⟩
  have HX2 := hid (HX1.out.below hb2)
  have HY2 := hid (hY.mono hl1)
  have k2 := hb1.trans (hb2.mono hl1)
  have hl2 := k2.size
  clear hb1 hb2 HRA HRB HX1 hY
  go_wp2_with fail
  refine (HC _ _ _ HX2.out HY2.out).mono ?_
  rintro e w3 ⟨rfl, hb3⟩
  have k3 := k2.trans (hb3.mono hl2)
  clear hb3 HC
  go_wp2
  go_returns
  exact ⟨rfl, k3⟩
set_option maxHeartbeats 3200000 in
theorem implCRNo (x y : Value) (a b : List VV) (w : World) (hx : ValsAt w x a) (hy : ValsAt w y b) (hla : a.length ≤ 1048576) (hlb : b.length ≤ 1048576) (hza : ∀ v ∈ a, v.t.size ≤ maxLen) (hzb : ∀ v ∈ b, v.t.size ≤ maxLen) (hn : ¬ ((AllGood a ∧ a.length ≤ 6) ∧ (AllGood b ∧ b.length ≤ 6))) :
    Calls Try.prog 26 #[x, y] w fun e w' => e = .returned (.tuple #[.int .i64 0, .bool false]) ∧ Below w.heap.size w w' := by
  by_cases ha : AllGood a ∧ a.length ≤ 6
  · have HRA := implFsYes x a w hx ha.2 ha.1
    have HRB := fun W hW => implFsNo y b W hW hlb hzb (fun g => hn ⟨ha, g⟩)
    have HY : Hid (ValsAt w y b) := hy
    clear hx hy ha hn hza hzb
    go_enter Try.func26, Try.ntmps26
    go_wp2_with fail
    refine HRA.mono ?_
    rintro e w1 ⟨X, rfl, hX, hb1⟩
    clear hX
    go_wp2_with fail
    refine (HRB _ (HY.out.below hb1)).mono ?_
    rintro e w2 ⟨rfl, hb2⟩
    have k2 := hb1.trans (hb2.mono hb1.size)
    clear hb1 hb2 HRA HRB
    go_wp2
    go_returns
    exact ⟨rfl, k2⟩
  · have HRA := implFsNo x a w hx hla hza ha
    clear hx hy ha hn hza hzb
    go_enter Try.func26, Try.ntmps26
    go_wp2_with fail
    refine HRA.mono ?_
    rintro e w1 ⟨rfl, hb1⟩
    clear HRA
    go_wp2
    go_returns
    exact ⟨rfl, hb1⟩
end Go.Proofs.Ytolkiofdbdjfkaa
