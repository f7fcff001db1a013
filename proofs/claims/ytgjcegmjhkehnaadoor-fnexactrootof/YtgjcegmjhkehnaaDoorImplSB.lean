/- Contracts of the program's and the model's ShownBytes. Condition: the page's lists lie in memory. -/
import Derived.Test.YtgjcegmjhkehnaaDoorSpecSB
namespace Go.Proofs.YtgjcegmjhkehnaaDoor
open Go.ChangeShapes Go.WideShapes Go.ChangeAt Go.RowKit Go.Deep Go.Lib
set_option linter.unusedVariables false
attribute [local go_sem ↓] Go.wp_at_zero Go.wp_at_succ

set_option maxHeartbeats 1600000 in
theorem implSBNo (p : Sh) (kv vv cv : Value) (w : World) (hs : SmSh p) (hg : ¬ GoodSh p) (h : ShAt w kv vv cv p) :
    Calls Tryd.prog 16 #[.agg #[kv, vv, cv, .int .i64 p.go]] w fun e w' => e = .returned (.tuple #[.string ByteArray.empty, .bool false]) ∧ Below w.heap.size w w' := by
  have HG := fun W h => implGoodSh p false ⟨fun h => (by cases h), fun h => absurd h hg⟩ kv vv cv W hs h
  have H := hid h
  obtain ⟨ka, kc, rfl⟩ := strs_len h.1
  obtain ⟨va, vc, rfl⟩ := strs_len h.2.1
  obtain ⟨ca, cc, rfl⟩ := strs_len h.2.2
  obtain ⟨G, hG⟩ : ∃ G, G = p.go := ⟨_, rfl⟩
  rw [← hG] at HG ⊢
  clear hG h hg hs
  go_enter Tryd.func16, Tryd.ntmps16
  go_wp2_with fail
  refine (HG _ (H.out.below (by go_grown))).mono ?_
  rintro e w1 ⟨rfl, hb1⟩
  obtain ⟨hc1, hf1⟩ := bcell hb1
  have hz1 := hb1.size
  try simp only [World.size_drew] at hz1
  try simp only [World.size_setCell] at hz1
  try simp only [World.size_alloc] at hz1
  have hz1_0 : w.heap.size < w1.heap.size := by omega
  clear hz1
  have k1 : Below w.heap.size w w1 := by
    refine Below.trans ?_ (hb1.mono ?_)
    · go_grown
    · go_size
  have hl1 : w.heap.size ≤ w1.heap.size := k1.size
  clear hb1
  go_wp2
  go_returns
  exact ⟨rfl, by go_grown⟩
theorem own_one (W : World) (n : Nat) (hn : n ≤ 255) : (W.alloc (.cells #[.int .u8 (n : Int)] 5)).ownsRow W.heap.size 5 1 (.slice (some ⟨W.heap.size, 0, none⟩) 1 1) [UInt8.ofNat n].length (u8s [UInt8.ofNat n]) := by
  have hb8 : ((UInt8.ofNat n).toNat : Int) = (n : Int) := by rw [UInt8.toNat_ofNat', Nat.mod_eq_of_lt (by omega)]
  exact ⟨by simp [u8s], .inr ⟨W.heap.size, 1, #[.int .u8 (n : Int)], rfl, Nat.le_refl _, heap_alloc_new W _, Nat.le_refl _, by unfold maxLen; omega, rfl, by simp only [u8s, List.map_cons, List.map_nil, hb8]; rfl⟩⟩
set_option maxHeartbeats 6400000 in
set_option maxRecDepth 100000 in
theorem implSBYes (p : Sh) (kv vv cv : Value) (w : World) (hs : SmSh p) (hg : GoodSh p) (h : ShAt w kv vv cv p) :
    Calls Tryd.prog 16 #[.agg #[kv, vv, cv, .int .i64 p.go]] w fun e w' => e = .returned (.tuple #[.string (shB p), .bool true]) ∧ Below w.heap.size w w' := by
  obtain ⟨i0, hi, hzz⟩ := Option.map_eq_some_iff.1 info8
  simp only [Prod.mk.injEq] at hzz
  obtain ⟨hz0, hz1, hz2⟩ := hzz
  have HG := fun W h => implGoodSh p true ⟨fun _ => hg, fun _ => rfl⟩ kv vv cv W hs h
  have hk4 := hg.1.1
  have hvk := hg.1.2.1
  have hc5 : p.kids.length ≤ 5 := by rcases hg.1.2.2.1 with h | h <;> omega
  have HVK := hid hvk
  have HGP := hid (rise_good hg.2.2)
  have HK4 := hid hg.kid4
  have H := hid h
  obtain ⟨ka, kc, rfl⟩ := strs_len h.1
  obtain ⟨va, vc, rfl⟩ := strs_len h.2.1
  obtain ⟨ca, cc, rfl⟩ := strs_len h.2.2
  obtain ⟨G, hG⟩ : ∃ G, G = p.go := ⟨_, rfl⟩
  rw [← hG] at HG ⊢
  rw [hvk] at HG H ⊢
  have hwk : IntKind.u8.wrap (p.keys.length : Int) = (p.keys.length : Int) := by rw [IntKind.wrap_u8]; omega
  have hwc : IntKind.u8.wrap (p.kids.length : Int) = (p.kids.length : Int) := by rw [IntKind.wrap_u8]; omega
  clear hG h hg hs hvk
  have bx := fun o w1 (hb : Below (w.alloc o).heap.size (w.alloc o) w1) => hb
  go_enter Tryd.func16, Tryd.ntmps16
  go_wp2_with fail
  refine (HG _ (H.out.below (by go_grown))).mono ?_
  rintro e w1 ⟨rfl, hx1⟩
  have B1 := hid (boxOf1 hx1)
  have K1 : Hid (Below w.heap.size w w1) := (al_ w _).trans (hx1.mono (by simp))
  have H1 := hid (H.out.below K1.out)
  clear hx1 HG H bx
  have a0 := B1.out.2.1 0 _ rfl
  have ha := B1.out.1
  have HO0 := hid (own_one w1 p.keys.length (by omega))
  have hal := hid (al_ w1 (.cells #[.int .u8 (p.keys.length : Int)] 5))
  go_wp2_with fail
  obtain ⟨W2, hW2⟩ : ∃ W2, W2 = w1.alloc (.cells #[.int .u8 (p.keys.length : Int)] 5) := ⟨_, rfl⟩
  rw [← hW2] at HO0 hal ⊢
  clear hW2 a0 ha
  go_loopw [4, 5, 6, 20] (fun x s5 s6 i wr => ∃ k : Nat, k ≤ p.keys.length ∧ i = .int .i64 k ∧ wr.ownsRow w1.heap.size 5 1 x (prsL p.keys.length (p.prs.take k)).length (u8s (prsL p.keys.length (p.prs.take k))) ∧ Below w1.heap.size w1 wr) (fun _ _ _ i _ => p.keys.length - (intOf i).toNat)
  case atStart => exact ⟨0, Nat.zero_le _, rfl, HO0.out, hal.out⟩
  case round =>
    obtain ⟨k, hk, rfl, hown, kb⟩ := hrel
    have kl := kb.size
    have bxr := B1.out.below kb
    have a0 := bxr.2.1 0 _ rfl
    have a1 := bxr.2.1 1 _ rfl
    have a2 := bxr.2.1 2 _ rfl
    have ha := bxr.1
    have HBX := hid bxr
    have HKB := hid kb
    clear bxr
    by_cases hlt : k < p.keys.length
    · have hki : (k : Int) < (p.keys.length : Int) := by omega
      have hk0 : (0 : Int) ≤ (k : Int) := by omega
      have hlv : k < p.vals.length := by rw [HVK.out]; exact hlt
      obtain ⟨b1, o1, c1, hce, hb1, hcl1⟩ := strs_cell (H1.out.1.below kb) hlt
      cases hce
      have h2' := strs_cell (H1.out.2.1.below kb) hlv
      rw [HVK.out] at h2'
      obtain ⟨b2, o2, c2, hce, hb2, hcl2⟩ := h2'
      cases hce
      have hgp := HGP.out (p.keys.getD k ByteArray.empty, p.vals.getD k ByteArray.empty) (by rw [← prs_getD hlt hlv]; have hl : k < p.prs.length := (by simp [Sh.prs]; omega); simp [List.getD, hl])
      have HS : Hid (prsL p.keys.length (p.prs.take (k + 1)) = prsL p.keys.length (p.prs.take k) ++ sized (p.keys.getD k ByteArray.empty) ++ sized (p.vals.getD k ByteArray.empty)) := by
        show _ = _
        rw [take_prs hlt hlv, prsL_snoc]
      have hR : (prsL p.keys.length (p.prs.take k)).length ≤ 200 := by
        have h1 := prsL_le (n := p.keys.length) (L := p.prs.take k) (fun q hq => HGP.out q (List.mem_of_mem_take hq))
        have h2 : (p.prs.take k).length ≤ 4 := by simp; omega
        omega
      obtain ⟨s, hs⟩ : ∃ s, p.keys.getD k ByteArray.empty = s := ⟨_, rfl⟩
      obtain ⟨u, hu⟩ : ∃ u, p.vals.getD k ByteArray.empty = u := ⟨_, rfl⟩
      rw [hs] at hcl1
      rw [hu] at hcl2
      rw [hs, hu] at HS hgp
      obtain ⟨hs0, hs12, hu12⟩ := hgp
      simp only [] at hs0 hs12 hu12
      clear hs hu hlv
      generalize prsL p.keys.length (p.prs.take k) = R at *
      have HA1 := implSized _ R s w1.heap.size wr hown kl (by omega) hs12
      have hl1 : (R ++ sized s).length ≤ 1000 := by simp [sized]; omega
      clear hown
      go_wp2_with fail
      refine HA1.mono ?_
      rintro e w3 ⟨y, rfl, hy, kb3⟩
      have kb13 : Below w1.heap.size w1 w3 := HKB.out.trans kb3
      have HA2 := implSized y (R ++ sized s) u w1.heap.size w3 hy kb13.size (by omega) hu12
      have bx3 := B1.out.below kb13
      have hcl3 : w3.cell? ⟨b2, o2 + k, none⟩ = some (.string u) := by
        have h3 := strs_cell (H1.out.2.1.below kb13) (i := k) (by rw [HVK.out]; exact hlt)
        rw [HVK.out] at h3
        obtain ⟨b2', o2', c2', hce, _, hcl2'⟩ := h3
        cases hce
        have h4 := strs_cell (H1.out.2.1.below HKB.out) (i := k) (by rw [HVK.out]; exact hlt)
        rw [HVK.out] at h4
        obtain ⟨b4, o4, c4, hce, _, hcl4⟩ := h4
        cases hce
        rw [hcl2]  at hcl4
        rw [hcl2']
        exact hcl4.symm
      have a1 := bx3.2.1 1 _ rfl
      have ha := bx3.1
      have hb2 : b2 < w3.heap.size := by
        have h3 := strs_cell (H1.out.2.1.below kb13) (i := k) (by rw [HVK.out]; exact hlt)
        rw [HVK.out] at h3
        obtain ⟨b2', o2', c2', hce, hl, _⟩ := h3
        cases hce
        exact hl
      have HK3 := hid kb13
      clear hy kb3 bx3 HA1 kb13
      go_wp2_with fail
      refine HA2.mono ?_
      rintro e w4 ⟨y2, rfl, hy2, kb4⟩
      have HO := hid hy2
      rw [← HS.out] at HO
      have HK4' := hid (HK3.out.trans kb4)
      clear hy2 kb4 HA2
      go_wp2_with fail
      refine ⟨?_, by simp [intOf]; omega⟩
      first | exact ⟨k + 1, by omega, by go_num, HO.out, HK4'.out⟩ | ((repeat apply Exists.intro); exact ⟨⟨k + 1, by omega, by go_num, HO.out, HK4'.out⟩, rfl⟩)
    · have hke : k = p.keys.length := by omega
      subst hke
      have hki : ¬ ((p.keys.length : Int) < (p.keys.length : Int)) := by omega
      have HRW : Hid (prsL p.keys.length (p.prs.take p.keys.length) = prsL p.keys.length p.prs) := by
        show _ = _
        rw [List.take_of_length_le (by rw [prs_len HVK.out]; omega)]
      rw [HRW.out] at hown
      obtain ⟨R0, hR0⟩ : ∃ R0, R0 = prsL p.keys.length p.prs := ⟨_, rfl⟩
      rw [← hR0] at hown
      have hRl : R0.length ≤ 200 := by
        rw [hR0]
        have h1 := prsL_le (n := p.keys.length) (L := p.prs) HGP.out
        rw [prs_len HVK.out] at h1
        omega
      have HR0 := hid hR0
      clear hR0 HRW
      go_wp2_with (first | (at_builtin; refine wpList_append_own _ rfl _ _ 22 rfl w1.heap.size 5 i0 (.int .u8 0) 1 1 Tryd.underlying22 hi hz0 hz1 hz2 rfl (by decide) _ _ _ rfl (hown.alloc _) ⟨wr.heap.size, 0, none⟩ 1 1 [.int .u8 (p.kids.length : Int)] rfl rfl ?f1 ?f2 ?f3 ?f4 ?f5 ?_) | fail)
      case f2 => first | rfl | (intro u hu; simp at hu; subst hu; rfl)
      case f3 => unfold maxLen; omega
      case f4 => omega
      case f5 => first | omega | (simp; omega)
      intro v1 w5 hown1 hg1 _
      have kb5 : Below w1.heap.size w1 w5 := (HKB.out.alloc (by omega) _).grown hg1 (by simp; omega) (fun r hr => (hown.lt r hr).1)
      have HO5 : Hid (w5.ownsRow w1.heap.size 5 1 v1 (kidL R0 p.kids.length (p.kids.take 0)).length (u8s (kidL R0 p.kids.length (p.kids.take 0)))) := by
        have hb8 : ((UInt8.ofNat p.kids.length).toNat : Int) = (p.kids.length : Int) := by rw [UInt8.toNat_ofNat', Nat.mod_eq_of_lt (by omega)]
        have e0 : kidL R0 p.kids.length (p.kids.take 0) = R0 ++ [UInt8.ofNat p.kids.length] := by simp [kidL]
        have e1 : R0.length + 1 = (R0 ++ [UInt8.ofNat p.kids.length]).length := by simp
        have e2 : u8s R0 ++ [Value.int .u8 (p.kids.length : Int)] = u8s (R0 ++ [UInt8.ofNat p.kids.length]) := by rw [u8s_append]; simp only [u8s, List.map_cons, List.map_nil, hb8]
        rw [e0, ← e1, ← e2]
        exact hown1
      have bx5 := B1.out.below kb5
      have a2 := bx5.2.1 2 _ rfl
      have ha := bx5.1
      have HK5 := hid kb5
      clear hg1 hown hown1 kb5 bx5 kb kl
      go_wp2_with fail
      generalize wr = wr1 at *
      go_loopw [4, 8, 46] (fun x s8 i wr => ∃ k : Nat, k ≤ p.kids.length ∧ i = .int .i64 k ∧ wr.ownsRow w1.heap.size 5 1 x (kidL R0 p.kids.length (p.kids.take k)).length (u8s (kidL R0 p.kids.length (p.kids.take k))) ∧ Below w1.heap.size w1 wr) (fun _ _ i _ => p.kids.length - (intOf i).toNat)
      case atStart => exact ⟨0, Nat.zero_le _, rfl, HO5.out, HK5.out⟩
      case round =>
        obtain ⟨k, hk2, rfl, hown, kb⟩ := hrel
        have kl := kb.size
        by_cases hlt2 : k < p.kids.length
        · have hki2 : (k : Int) < (p.kids.length : Int) := by omega
          have hk0 : (0 : Int) ≤ (k : Int) := by omega
          obtain ⟨b3, o3, c3, hce, hb3, hcl3⟩ := strs_cell (H1.out.2.2.below kb) hlt2
          cases hce
          have HS : Hid (kidL R0 p.kids.length (p.kids.take (k + 1)) = kidL R0 p.kids.length (p.kids.take k) ++ (p.kids.getD k ByteArray.empty).data.toList) := by
            show _ = _
            rw [take_snocS p.kids k hlt2, kidL_snoc]
          have hR : (kidL R0 p.kids.length (p.kids.take k)).length ≤ 300 := by
            have h1 := kidL_le (R := R0) (n := p.kids.length) (l := p.kids.take k) (fun s hs => HK4.out s (List.mem_of_mem_take hs))
            have h2 : (p.kids.take k).length ≤ 5 := by simp; omega
            omega
          have h4 := HK4.out _ (getD_mem p.kids k hlt2)
          generalize p.kids.getD k ByteArray.empty = t at *
          generalize kidL R0 p.kids.length (p.kids.take k) = R at *
          have HKk := hid kb
          go_wp2_with (first
            | (at_builtin; refine wpList_append_own_string _ rfl _ _ 22 9 rfl w1.heap.size 5 i0 Tryd.underlying22 Tryd.underlying9 hi hz0 hz1 hz2 _ _ _ rfl hown t rfl ?d1 ?d2 ?d3 ?_)
            | fail)
          case d1 => unfold maxLen; omega
          case d2 => omega
          case d3 => omega
          intro v2 w6 hown2 hg2 _
          have kb6 : Below w1.heap.size w1 w6 := HKk.out.grown hg2 (by omega) (fun r hr => (hown.lt r hr).1)
          have HO : Hid (w6.ownsRow w1.heap.size 5 1 v2 (kidL R0 p.kids.length (p.kids.take (k + 1))).length (u8s (kidL R0 p.kids.length (p.kids.take (k + 1))))) := by
            rw [HS.out]
            have e1 : (R ++ t.data.toList).length = R.length + t.size := by simp
            have e2 : u8s (R ++ t.data.toList) = u8s R ++ strCells t := by rw [u8s_append]; simp [u8s, strCells]
            rw [e1, e2, h4]
            exact hown2
          have HK6 := hid kb6
          clear hg2 hown hown2 kb6
          go_wp2_with fail
          refine ⟨?_, by simp [intOf]; omega⟩
          first | exact ⟨k + 1, by omega, by go_num, HO.out, HK6.out⟩ | ((repeat apply Exists.intro); exact ⟨⟨k + 1, by omega, by go_num, HO.out, HK6.out⟩, rfl⟩)
        · have hke : k = p.kids.length := by omega
          subst hke
          have hki2 : ¬ ((p.kids.length : Int) < (p.kids.length : Int)) := by omega
          have HF : Hid (shB p = ⟨(kidL R0 p.kids.length (p.kids.take p.kids.length)).toArray⟩) := by
            show _ = _
            rw [List.take_length, HR0.out]; rfl
          have hcv := conv_own wr w1.heap.size _ _ hown
          have hfin := K1.out.trans (kb.mono K1.out.size)
          clear hown
          generalize kidL R0 p.kids.length (p.kids.take p.kids.length) = R at *
          go_wp2_with fail
          go_returns
          exact ⟨by rw [HF.out]; rfl, hfin⟩
end Go.Proofs.YtgjcegmjhkehnaaDoor
