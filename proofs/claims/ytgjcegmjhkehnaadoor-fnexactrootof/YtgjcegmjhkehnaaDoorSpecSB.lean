/- Contract of the model's bytes of a shown page. Condition: a good page whose lists lie in memory. -/
import Derived.Test.YtgjcegmjhkehnaaDoorShB
import Derived.Deep.RegionHeld3
namespace Go.Proofs.YtgjcegmjhkehnaaDoor
open Go.ChangeShapes Go.WideShapes Go.ChangeAt Go.RowKit Go.Deep Go.Lib
set_option linter.unusedVariables false
attribute [local go_sem ↓] Go.wp_at_zero Go.wp_at_succ

set_option maxHeartbeats 6400000 in
set_option maxRecDepth 100000 in
theorem specL6 (p : Sh) (kv vv cv : Value) (w : World) (hg : GoodSh p) (h : ShAt w kv vv cv p) :
    Calls Tryd.prog 53 #[.agg #[kv, vv, cv, .int .i64 p.go]] w fun e w' => e = .returned (.string (shB p)) ∧ Below w.heap.size w w' := by
  obtain ⟨h1, h2, h3⟩ := h
  obtain ⟨ka, kc, rfl⟩ := strs_len h1
  obtain ⟨va, vc, rfl⟩ := strs_len h2
  obtain ⟨ca, cc, rfl⟩ := strs_len h3
  obtain ⟨G, hG⟩ : ∃ G, G = p.go := ⟨_, rfl⟩
  rw [← hG]
  clear hG
  have hk4 := hg.1.1
  have hvk := hg.1.2.1
  have hc5 : p.kids.length ≤ 5 := by rcases hg.1.2.2.1 with h | h <;> omega
  have HVK := hid hvk
  have HGP := hid (rise_good hg.2.2)
  have HK4 := hid hg.kid4
  rw [hvk]
  rw [hvk] at h2
  have kb0 : Below w.heap.size w (w.alloc (.cells #[.slice ka p.keys.length kc, .slice va p.keys.length vc, .slice ca p.kids.length cc, .int .i64 G] 28)) := (Below.refl _ _).alloc (Nat.le_refl _) _
  have H1 := hid (h1.below kb0)
  have H2 := hid (h2.below kb0)
  have H3 := hid (h3.below kb0)
  have bx := boxNew w #[.slice ka p.keys.length kc, .slice va p.keys.length vc, .slice ca p.kids.length cc, .int .i64 G] 28
  have hcv := convAt
  clear hvk h1 h2 h3 hg
  go_enter Tryd.func53, Tryd.ntmps53
  go_upto_region 1 with fail
  obtain ⟨W0, hW0⟩ : ∃ W0, W0 = w.alloc (.cells #[.slice ka p.keys.length kc, .slice va p.keys.length vc, .slice ca p.kids.length cc, .int .i64 G] 28) := ⟨_, rfl⟩
  rw [← hW0] at kb0 H1 H2 H3 bx ⊢
  have a0 := bx.2.1 0 _ rfl
  have a2 := bx.2.1 2 _ rfl
  have ha := bx.1
  have BX := hid bx
  have KB := hid kb0
  clear hW0 bx kb0
  have hc1 := conv1 W0 (p.keys.length : Int) 5 W0.heap.size rfl
  have hal := hid (al_ W0 (.cells #[.int .u8 (p.keys.length : Int)] 5))
  go_wp2_with fail
  obtain ⟨W1, hW1⟩ : ∃ W1, W1 = W0.alloc (.cells #[.int .u8 (p.keys.length : Int)] 5) := ⟨_, rfl⟩
  rw [← hW1] at hal ⊢
  have HE1 : Hid (strOfNums [(p.keys.length : Int)] = mkB (prsL p.keys.length (p.prs.take 0))) := by
    show _ = _
    apply ByteArray.ext; simp [mkB, prsL, strOfNums]
  rw [HE1.out]
  clear hc1 hW1 a0 ha a2
  go_loopw [3, 4, 5, 17] (fun x s4 s5 i wr => ∃ k : Nat, k ≤ p.keys.length ∧ i = .int .i64 k ∧ x = .string (mkB (prsL p.keys.length (p.prs.take k))) ∧ Below W0.heap.size W0 wr) (fun _ _ _ i _ => p.keys.length - (intOf i).toNat)
  case atStart => exact ⟨0, Nat.zero_le _, rfl, rfl, hal.out⟩
  case round =>
    obtain ⟨k, hk, rfl, rfl, kb⟩ := hrel
    have bxr := BX.out.below kb
    have a0 := bxr.2.1 0 _ rfl
    have a1 := bxr.2.1 1 _ rfl
    have a2 := bxr.2.1 2 _ rfl
    have ha := bxr.1
    have HKB := hid kb
    clear bxr
    by_cases hlt : k < p.keys.length
    · have hki : (k : Int) < (p.keys.length : Int) := by omega
      have hk0 : (0 : Int) ≤ (k : Int) := by omega
      have hlv : k < p.vals.length := by rw [HVK.out]; exact hlt
      obtain ⟨b1, o1, c1, hce, hb1, hcl1⟩ := strs_cell (H1.out.below kb) hlt
      cases hce
      have h2' := strs_cell (H2.out.below kb) hlv
      rw [HVK.out] at h2'
      obtain ⟨b2, o2, c2, hce, hb2, hcl2⟩ := h2'
      cases hce
      have hgp := HGP.out (p.keys.getD k ByteArray.empty, p.vals.getD k ByteArray.empty) (by rw [← prs_getD hlt hlv]; have hl : k < p.prs.length := (by simp [Sh.prs]; omega); simp [List.getD, hl])
      have HS : Hid (mkB (prsL p.keys.length (p.prs.take (k + 1))) = mkB (prsL p.keys.length (p.prs.take k)) ++ (strOfNums [((p.keys.getD k ByteArray.empty).size : Int)] ++ p.keys.getD k ByteArray.empty ++ strOfNums [((p.vals.getD k ByteArray.empty).size : Int)] ++ p.vals.getD k ByteArray.empty)) := by
        show _ = _
        rw [take_prs hlt hlv, prsL_snoc]
        exact mkB_pair _ _ _
      have hR : (mkB (prsL p.keys.length (p.prs.take k))).size ≤ 200 := by
        rw [mkB_size]
        have h1 := prsL_le (n := p.keys.length) (L := p.prs.take k) (fun q hq => HGP.out q (List.mem_of_mem_take hq))
        have h2 : (p.prs.take k).length ≤ 4 := by simp; omega
        omega
      obtain ⟨s, hs⟩ : ∃ s, p.keys.getD k ByteArray.empty = s := ⟨_, rfl⟩
      obtain ⟨u, hu⟩ : ∃ u, p.vals.getD k ByteArray.empty = u := ⟨_, rfl⟩
      rw [hs] at hcl1
      rw [hu] at hcl2
      rw [hs, hu] at HS hgp
      obtain ⟨hs0, hs12, hu12⟩ := hgp
      simp only [] at hs0 hs12 hu12
      clear hs hu hlv
      generalize mkB (prsL p.keys.length (p.prs.take k)) = R at *
      have c1 : (strOfNums [(s.size : Int)]).size = 1 := strOfNums_size _
      have c2 : (strOfNums [(u.size : Int)]).size = 1 := strOfNums_size _
      have d1 : (strOfNums [(s.size : Int)] ++ s).size = 1 + s.size := by rw [ByteArray.size_append, c1]
      have d2 : (strOfNums [(s.size : Int)] ++ s ++ strOfNums [(u.size : Int)]).size = 1 + s.size + 1 := by rw [ByteArray.size_append, d1, c2]
      have d3 : (strOfNums [(s.size : Int)] ++ s ++ strOfNums [(u.size : Int)] ++ u).size = 1 + s.size + 1 + u.size := by rw [ByteArray.size_append, d2]
      have cS := fun W g => hcv (s.size : Int) W g
      have cU := fun W g => hcv (u.size : Int) W g
      have hws : IntKind.u8.wrap (s.size : Int) = (s.size : Int) := by rw [IntKind.wrap_u8]; omega
      have hwu : IntKind.u8.wrap (u.size : Int) = (u.size : Int) := by rw [IntKind.wrap_u8]; omega
      have n1 : w.heap.size ≠ wr.heap.size := by omega
      have n2 : b2 ≠ wr.heap.size := by omega
      have n3 : w.heap.size < wr.heap.size := by omega
      clear hcv
      go_upto_region 5 with fail
      obtain ⟨wb, hwb⟩ : ∃ wb, wb = w.heap.size := ⟨_, rfl⟩
      rw [← hwb] at a0 a1 a2 ha n1 n3 ⊢
      have HWB := hid hwb
      clear hwb
      go_region
      all_goals
        have hwb2 := HWB.out
        subst hwb2
        have hkb := HKB.out
        have hks := hkb.size
        go_wp2_with fail
        refine ⟨?_, by simp [intOf]; omega⟩
        first | exact ⟨k + 1, by omega, by go_num, by rw [HS.out], by go_grown <;> (first | exact hks | (simp; omega))⟩ | ((repeat apply Exists.intro); exact ⟨⟨k + 1, by omega, by go_num, by rw [HS.out], by go_grown <;> (first | exact hks | (simp; omega))⟩, rfl⟩)
    · have hke : k = p.keys.length := by omega
      subst hke
      have hki : ¬ ((p.keys.length : Int) < (p.keys.length : Int)) := by omega
      have HRW : Hid (mkB (prsL p.keys.length (p.prs.take p.keys.length)) = mkB (prsL p.keys.length p.prs)) := by
        show _ = _
        rw [List.take_of_length_le (by rw [prs_len HVK.out]; omega)]
      rw [HRW.out]
      obtain ⟨R0, hR0⟩ : ∃ R0, R0 = prsL p.keys.length p.prs := ⟨_, rfl⟩
      rw [← hR0]
      have hRl : R0.length ≤ 200 := by
        rw [hR0]
        have h1 := prsL_le (n := p.keys.length) (L := p.prs) HGP.out
        rw [prs_len HVK.out] at h1
        omega
      have hRs : (mkB R0).size ≤ 200 := by rw [mkB_size]; exact hRl
      have HR0 := hid hR0
      have HE : Hid (mkB R0 ++ strOfNums [(p.kids.length : Int)] = mkB (kidL R0 p.kids.length (p.kids.take 0))) := by
        show _ = _
        rw [← mkB_one]; simp [kidL]
      have c1 : (strOfNums [(p.kids.length : Int)]).size = 1 := strOfNums_size _
      have cK := fun W g => hcv (p.kids.length : Int) W g
      have hwk : IntKind.u8.wrap (p.kids.length : Int) = (p.kids.length : Int) := by rw [IntKind.wrap_u8]; omega
      have hkl := kb.size
      have H3r := hid (H3.out.below kb)
      clear hcv hR0 HRW
      generalize hmb : mkB R0 = M0 at hRs HE ⊢
      have HMB := hid hmb
      clear hmb
      have hal2 := hid (al_ wr (.cells #[.int .u8 (p.kids.length : Int)] 5))
      go_wp2_with fail
      obtain ⟨W2, hW2⟩ : ∃ W2, W2 = wr.alloc (.cells #[.int .u8 (p.kids.length : Int)] 5) := ⟨_, rfl⟩
      rw [← hW2] at hal2 ⊢
      rw [HE.out]
      have HKB2 := hid (HKB.out.trans (hal2.out.mono HKB.out.size))
      have H3s := hid (H3r.out.below hal2.out)
      clear hW2 hal2 H3r hkl HE
      generalize wr = wr1 at *
      go_loopw [3, 7, 59] (fun x s7 i wr => ∃ k : Nat, k ≤ p.kids.length ∧ i = .int .i64 k ∧ x = .string (mkB (kidL R0 p.kids.length (p.kids.take k))) ∧ wr = W2) (fun _ _ i _ => p.kids.length - (intOf i).toNat)
      case atStart => exact ⟨0, Nat.zero_le _, rfl, rfl, rfl⟩
      case round =>
        obtain ⟨k, hk2, rfl, rfl, hwr⟩ := hrel
        subst hwr
        by_cases hlt2 : k < p.kids.length
        · have hki2 : (k : Int) < (p.kids.length : Int) := by omega
          have hk0 : (0 : Int) ≤ (k : Int) := by omega
          obtain ⟨b3, o3, c3, hce, hb3, hcl3⟩ := strs_cell H3s.out hlt2
          cases hce
          have HS : Hid (mkB (kidL R0 p.kids.length (p.kids.take (k + 1))) = mkB (kidL R0 p.kids.length (p.kids.take k)) ++ p.kids.getD k ByteArray.empty) := by
            show _ = _
            rw [take_snocS p.kids k hlt2, kidL_snoc]
            exact mkB_kid _ _
          have hR : (mkB (kidL R0 p.kids.length (p.kids.take k))).size ≤ 300 := by
            rw [mkB_size]
            have h1 := kidL_le (R := R0) (n := p.kids.length) (l := p.kids.take k) (fun s hs => HK4.out s (List.mem_of_mem_take hs))
            have h2 : (p.kids.take k).length ≤ 5 := by simp; omega
            omega
          have h4 := HK4.out _ (getD_mem p.kids k hlt2)
          generalize p.kids.getD k ByteArray.empty = t at *
          generalize mkB (kidL R0 p.kids.length (p.kids.take k)) = R at *
          go_wp2_with fail
          refine ⟨?_, by simp [intOf]; omega⟩
          first | exact ⟨k + 1, by omega, by go_num, by rw [HS.out], by first | rfl | trivial⟩ | ((repeat apply Exists.intro); exact ⟨⟨k + 1, by omega, by go_num, by rw [HS.out], by first | rfl | trivial⟩, rfl⟩)
        · have hke : k = p.kids.length := by omega
          subst hke
          have hki2 : ¬ ((p.kids.length : Int) < (p.kids.length : Int)) := by omega
          have HF : Hid (mkB (kidL R0 p.kids.length (p.kids.take p.kids.length)) = shB p) := by
            show _ = _
            rw [List.take_length, HR0.out]; rfl
          have hfin := KB.out.trans (HKB2.out.mono KB.out.size)
          rw [HF.out]
          go_wp2_with fail
          go_ret
          exact ⟨rfl, hfin⟩
end Go.Proofs.YtgjcegmjhkehnaaDoor
