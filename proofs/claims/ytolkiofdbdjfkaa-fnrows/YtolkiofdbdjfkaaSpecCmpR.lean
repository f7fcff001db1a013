/- Contracts of the model's CompareRows. Condition: the lists lie in memory. -/
import Derived.Test.YtolkiofdbdjfkaaVals
namespace Go.Proofs.Ytolkiofdbdjfkaa
open Go.ChangeShapes Go.WideShapes Go.ChangeAt Go.RowKit Go.Deep
set_option linter.unusedVariables false
attribute [local go_sem ↓] Go.wp_at_zero Go.wp_at_succ

theorem drop_get (vs : List VV) (k : Nat) (h : k < vs.length) : vs.drop k = vs.getD k v0 :: vs.drop (k + 1) := by
  rw [List.drop_eq_getElem_cons h]; simp [List.getD, h]
theorem cmpR_drop {a b : List VV} : ∀ k, k ≤ a.length → k ≤ b.length → (∀ j, j < k → cmpV (a.getD j v0) (b.getD j v0) = 0) → cmpR a b = cmpR (a.drop k) (b.drop k)
  | 0, _, _, _ => by simp
  | k + 1, ha, hb, h => by
    rw [cmpR_drop k (by omega) (by omega) (fun j hj => h j (by omega)), drop_get a k (by omega), drop_get b k (by omega)]
    simp only [cmpR]
    rw [if_pos (h k (by omega))]
theorem cmpR_more {a b : List VV} {k : Nat} (h : ∀ j, j < k → cmpV (a.getD j v0) (b.getD j v0) = 0) (ha : k < a.length) (hb : k = b.length) : cmpR a b = 1 := by
  have e : b.drop k = [] := List.drop_eq_nil_of_le (by omega)
  rw [cmpR_drop k (by omega) (by omega) h, drop_get a k ha, e]; rfl
theorem cmpR_at {a b : List VV} {k : Nat} (h : ∀ j, j < k → cmpV (a.getD j v0) (b.getD j v0) = 0) (ha : k < a.length) (hb : k < b.length) (hn : cmpV (a.getD k v0) (b.getD k v0) ≠ 0) : cmpR a b = cmpV (a.getD k v0) (b.getD k v0) := by
  rw [cmpR_drop k (by omega) (by omega) h, drop_get a k ha, drop_get b k hb]
  simp only [cmpR]
  rw [if_neg hn]
theorem cmpR_end {a b : List VV} (h : ∀ j, j < a.length → cmpV (a.getD j v0) (b.getD j v0) = 0) (hb : a.length ≤ b.length) : cmpR a b = sgn (a.length : Int) (b.length : Int) := by
  rw [cmpR_drop a.length (Nat.le_refl _) hb h, List.drop_eq_nil_of_le (Nat.le_refl _)]
  by_cases e : a.length = b.length
  · rw [e, List.drop_eq_nil_of_le (Nat.le_refl _)]; simp [cmpR, sgn]
  · rw [drop_get b a.length (by omega)]
    have : (a.length : Int) < (b.length : Int) := by omega
    simp [cmpR, sgn, this]
/-- One look at two lists, the second maybe empty. -/
theorem ValsAt.cases {w : World} {x : Value} {vs : List VV} (h : ValsAt w x vs) : ∃ ad cap, x = .slice ad vs.length cap ∧ ∀ k, k < vs.length → ∃ b off, ad = some ⟨b, off, none⟩ ∧ b < w.heap.size ∧ ValAt w b (off + k * 3) (vs.getD k v0) := by
  rcases h with ⟨a, c, rfl, rfl⟩ | ⟨b, off, cap, rfl, hb, hc⟩
  · exact ⟨a, c, rfl, fun k hk => by simp at hk⟩
  · exact ⟨_, cap, rfl, fun k hk => ⟨b, off, rfl, hb, hc k hk⟩⟩

set_option maxHeartbeats 6400000 in
theorem specCRYes (x y : Value) (a b : List VV) (w : World) (hx : ValsAt w x a) (hy : ValsAt w y b) (hla : a.length ≤ 6) (hlb : b.length ≤ 6) (hga : AllGood a) (hgb : AllGood b) :
    Calls Try.prog 27 #[x, y] w fun e w' => e = .returned (.tuple #[.int .i64 (cmpR a b), .bool true]) ∧ Below w.heap.size w w' := by
  have HRA := specRowYes x a w hx hla hga
  have HRB := fun W hW => specRowYes y b W hW hlb hgb
  have HX : Hid (ValsAt w x a) := hx
  have HY : Hid (ValsAt w y b) := hy
  obtain ⟨adx, cx, rfl, HCX⟩ := hx.cases
  obtain ⟨ady, cy, rfl, HCY⟩ := hy.cases
  have HCX' := HCX
  have HCY' := HCY
  have KX : Hid (∀ k, k < a.length → ∃ b' off, adx = some ⟨b', off, none⟩ ∧ b' < w.heap.size ∧ ValAt w b' (off + k * 3) (a.getD k v0)) := HCX
  have KY : Hid (∀ k, k < b.length → ∃ b' off, ady = some ⟨b', off, none⟩ ∧ b' < w.heap.size ∧ ValAt w b' (off + k * 3) (b.getD k v0)) := HCY
  have HM : Hid (∀ k, (∀ j, j < k → cmpV (a.getD j v0) (b.getD j v0) = 0) → k < a.length → k = b.length → cmpR a b = 1) := fun k h1 h2 h3 => cmpR_more h1 h2 h3
  have HA : Hid (∀ k, (∀ j, j < k → cmpV (a.getD j v0) (b.getD j v0) = 0) → k < a.length → k < b.length → cmpV (a.getD k v0) (b.getD k v0) ≠ 0 → cmpR a b = cmpV (a.getD k v0) (b.getD k v0)) := fun k h1 h2 h3 h4 => cmpR_at h1 h2 h3 h4
  have HEN : Hid ((∀ j, j < a.length → cmpV (a.getD j v0) (b.getD j v0) = 0) → a.length ≤ b.length → cmpR a b = sgn (a.length : Int) (b.length : Int)) := fun h1 h2 => cmpR_end h1 h2
  clear hx hy HCX HCY HCX' HCY' hga hgb
  generalize cmpR a b = RR at *
  go_enter Try.func27, Try.ntmps27
  go_wp2_with fail
  refine HRA.mono ?_
  rintro e w1 ⟨rfl, hb1⟩
  go_wp2_with fail
  refine (HRB _ (HY.out.below hb1)).mono ?_
  rintro e w2 ⟨rfl, hb2⟩
  have k2 := hb1.trans (hb2.mono hb1.size)
  clear hb1 hb2 HRA HRB HX HY
  have hl2 := k2.size
  go_wp2_with fail
  go_loopw [6, 7, 8, 19] (fun p q c i wr => ∃ k : Nat, k ≤ a.length ∧ k ≤ b.length ∧ i = .int .i64 k ∧ (∀ j, j < k → cmpV (a.getD j v0) (b.getD j v0) = 0) ∧ Below w.heap.size w wr) (fun _ _ _ i _ => a.length - (intOf i).toNat)
  case atStart => exact ⟨0, Nat.zero_le _, Nat.zero_le _, rfl, fun j hj => by omega, k2⟩
  case round =>
    obtain ⟨k, hk, hkb, rfl, hall, kb⟩ := hrel
    have HALL : Hid (∀ j, j < k → cmpV (a.getD j v0) (b.getD j v0) = 0) := hall
    clear hall
    have kl := kb.size
    by_cases hlt : k < a.length
    · obtain ⟨b1, off1, rfl, hb1, hv1⟩ := KX.out k hlt
      obtain ⟨hv10, hv11, hv12⟩ := hv1.below hb1 kb
      clear hv1
      have hki : (k : Int) < (a.length : Int) := by omega
      have hb1r : b1 < wr.heap.size := by omega
      by_cases heq : k = b.length
      · have hE := HM.out k HALL.out hlt heq
        have HE : Hid (RR = 1) := hE
        clear hE
        generalize a.getD k v0 = u at *
        subst heq
        obtain ⟨K, N, T⟩ := u
        simp only [] at hv10 hv11 hv12
        go_wp2
        go_returns
        exact ⟨by rw [HE.out]; rfl, by go_grown⟩
      · have hltb : k < b.length := by omega
        obtain ⟨b2, off2, rfl, hb2, hv2⟩ := KY.out k hltb
        obtain ⟨hv20, hv21, hv22⟩ := hv2.below hb2 kb
        clear hv2
        have hkbi : ¬ (k : Int) = (b.length : Int) := by omega
        have hkb2 : (k : Int) < (b.length : Int) := by omega
        have hk0 : (0 : Int) ≤ (k : Int) := by omega
        have hb2r : b2 < wr.heap.size := by omega
        have hne2 : wr.heap.size ≠ b2 := by omega
        have HCM := fun W => specCmp (a.getD k v0) (b.getD k v0) W
        have HAk : Hid (cmpV (a.getD k v0) (b.getD k v0) ≠ 0 → RR = cmpV (a.getD k v0) (b.getD k v0)) := fun h => HA.out k HALL.out hlt hltb h
        have HAL2 : Hid (cmpV (a.getD k v0) (b.getD k v0) = 0 → ∀ j, j < k + 1 → cmpV (a.getD j v0) (b.getD j v0) = 0) := by
          intro h j hj
          by_cases e : j = k
          · rw [e]; exact h
          · exact HALL.out j (by omega)
        generalize cmpV (a.getD k v0) (b.getD k v0) = z at *
        generalize a.getD k v0 = u at *
        generalize b.getD k v0 = v at *
        obtain ⟨K, N, T⟩ := u
        obtain ⟨K2, N2, T2⟩ := v
        unfold encV at HCM
        simp only [] at HCM hv10 hv11 hv12 hv20 hv21 hv22
        go_upto_region 8 with fail
        go_region_held3 (fun w' => (w'.cell? ⟨wr.heap.size, 0, none⟩ = some (.int .i64 K) ∧ w'.cell? ⟨wr.heap.size, 1, none⟩ = some (.int .i64 N) ∧ w'.cell? ⟨wr.heap.size, 2, none⟩ = some (.string T)) ∧ w'.cell? ⟨b2, off2 + k * 3, none⟩ = some (.int .i64 K2) ∧ w'.cell? ⟨b2, off2 + k * 3 + 1, none⟩ = some (.int .i64 N2) ∧ w'.cell? ⟨b2, off2 + k * 3 + 2, none⟩ = some (.string T2)) (first | go_keep | trivial)
          (first
            | (go_at_call 50; refine (HCM _).mono ?_; rintro e w3 ⟨rfl, hx3⟩; have hp3 := kept hx3 wr.heap.size (by simp); have hq3 := kept hx3 b2 (by simp; omega); have k3 : Below w.heap.size w w3 := (by exact kb.trans ((Below.trans (((Below.refl wr.heap.size wr).alloc (Nat.le_refl _) _).drew) (hx3.mono (by simp))).mono kl)); clear hx3))
        all_goals
          by_cases hz : z = 0
          · have HAL3 : Hid (∀ j, j < k + 1 → cmpV (a.getD j v0) (b.getD j v0) = 0) := HAL2.out hz
            subst hz
            go_wp2_with fail
            exact ⟨⟨k + 1, by omega, by omega, by go_num, HAL3.out, k3⟩, by simp [intOf]; omega⟩
          · have HZ : Hid (RR = z) := HAk.out hz
            go_wp2_with fail
            go_returns
            exact ⟨by rw [HZ.out]; rfl, k3⟩
    · have hke : k = a.length := by omega
      subst hke
      have HE : Hid (RR = sgn (a.length : Int) (b.length : Int)) := HEN.out HALL.out hkb
      have HS := fun W => specSign (a.length : Int) (b.length : Int) W
      generalize sgn (a.length : Int) (b.length : Int) = z at *
      go_wp2_with fail
      refine (HS _).mono ?_
      rintro e w3 ⟨rfl, hw3⟩
      subst w3
      go_wp2
      go_returns
      exact ⟨by rw [HE.out]; rfl, kb⟩
set_option maxHeartbeats 3200000 in
theorem specCRNo (x y : Value) (a b : List VV) (w : World) (hx : ValsAt w x a) (hy : ValsAt w y b) (hla : a.length ≤ 1048576) (hlb : b.length ≤ 1048576) (hza : ∀ v ∈ a, v.t.size ≤ maxLen) (hzb : ∀ v ∈ b, v.t.size ≤ maxLen) (hn : ¬ ((AllGood a ∧ a.length ≤ 6) ∧ (AllGood b ∧ b.length ≤ 6))) :
    Calls Try.prog 27 #[x, y] w fun e w' => e = .returned (.tuple #[.int .i64 0, .bool false]) ∧ Below w.heap.size w w' := by
  by_cases ha : AllGood a ∧ a.length ≤ 6
  · have HRA := specRowYes x a w hx ha.2 ha.1
    have HRB := fun W hW => specRowNo y b W hW hlb hzb (fun g => hn ⟨ha, g⟩)
    have HY : Hid (ValsAt w y b) := hy
    clear hx hy ha hn hza hzb
    go_enter Try.func27, Try.ntmps27
    go_wp2_with fail
    refine HRA.mono ?_
    rintro e w1 ⟨rfl, hb1⟩
    go_wp2_with fail
    refine (HRB _ (HY.out.below hb1)).mono ?_
    rintro e w2 ⟨rfl, hb2⟩
    have k2 := hb1.trans (hb2.mono hb1.size)
    clear hb1 hb2 HRA HRB
    go_wp2
    go_returns
    exact ⟨rfl, k2⟩
  · have HRA := specRowNo x a w hx hla hza ha
    clear hx hy ha hn hza hzb
    go_enter Try.func27, Try.ntmps27
    go_wp2_with fail
    refine HRA.mono ?_
    rintro e w1 ⟨rfl, hb1⟩
    clear HRA
    go_wp2
    go_returns
    exact ⟨rfl, hb1⟩
end Go.Proofs.Ytolkiofdbdjfkaa
