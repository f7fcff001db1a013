/- Contract of the program's test of shown pages. Condition: the page's lists lie in memory, none longer than the laws let through. -/
import Derived.Test.YtgjcegmjhkehnaaDoorPairP
namespace Go.Proofs.YtgjcegmjhkehnaaDoor
open Go.ChangeShapes Go.WideShapes Go.ChangeAt Go.RowKit Go.Deep
set_option linter.unusedVariables false
attribute [local go_sem ↓] Go.wp_at_zero Go.wp_at_succ

theorem goodKeyB (k : ByteArray) (w : World) (hm : k.size ≤ maxLen) : Calls Tryd.prog 69 #[.string k] w fun e w' => e = .returned (.bool (decide (k.size ≠ 0 ∧ k.size ≤ 12))) ∧ w' = w := by
  by_cases h : k.size ≠ 0 ∧ k.size ≤ 12
  · rw [decide_eq_true h]; exact goodKeyYes k w h.1 h.2
  · rw [decide_eq_false h]; exact goodKeyNo k w hm h
set_option maxHeartbeats 6400000 in
theorem implGoodSh (p : Sh) (B : Bool) (hB : B = true ↔ GoodSh p) (kv vv cv : Value) (w : World) (hs : SmSh p) (h : ShAt w kv vv cv p) :
    Calls Tryd.prog 58 #[.agg #[kv, vv, cv, .int .i64 p.go]] w fun e w' => e = .returned (.bool B) ∧ Below w.heap.size w w' := by
  have HB := hid hB
  obtain ⟨⟨hk, hv, hc⟩, hks, hvs, hcs⟩ := hs
  have HKS := hid hks
  have HVS := hid hvs
  obtain ⟨h1, h2, h3⟩ := h
  have HAR := fun (W : World) (N : Nat) (hW : Below w.heap.size w W) (hN1 : 1 ≤ N) (hN : N ≤ 11) => implAre cv p.kids N W (h3.below hW) hc hN1 hN
  obtain ⟨ka, kc, rfl⟩ := strs_len h1
  obtain ⟨va, vc, rfl⟩ := strs_len h2
  obtain ⟨ca, cc, rfl⟩ := strs_len h3
  obtain ⟨G, hG⟩ : ∃ G, G = p.go := ⟨_, rfl⟩
  rw [← hG]
  have HG := hid hG
  have kb0 : Below w.heap.size w (w.alloc (.cells #[.slice ka p.keys.length kc, .slice va p.vals.length vc, .slice ca p.kids.length cc, .int .i64 G] 28)) := (Below.refl _ _).alloc (Nat.le_refl _) _
  have H1 := hid (h1.below kb0)
  have H2 := hid (h2.below kb0)
  have bx := boxNew w #[.slice ka p.keys.length kc, .slice va p.vals.length vc, .slice ca p.kids.length cc, .int .i64 G] 28
  obtain ⟨W0, hW0⟩ : ∃ W0, W0 = w.alloc (.cells #[.slice ka p.keys.length kc, .slice va p.vals.length vc, .slice ca p.kids.length cc, .int .i64 G] 28) := ⟨_, rfl⟩
  rw [← hW0] at kb0 H1 H2 bx
  have a0 := bx.2.1 0 _ rfl
  have a1 := bx.2.1 1 _ rfl
  have a2 := bx.2.1 2 _ rfl
  have a3 := bx.2.1 3 _ rfl
  have ha := bx.1
  have BX := hid bx
  have KB := hid kb0
  have HARE := hid (fun N h1 h2 => HAR W0 N kb0 h1 h2)
  have HNO : Hid (¬ CntSh p → B = false) := fun h => bool_no HB.out (fun hg => h hg.1)
  clear hB hks hvs hcs h1 h2 h3 hG HAR bx kb0
  go_enter Tryd.func58, Tryd.ntmps58
  go_upto_region 1 with fail
  rw [← hW0]
  clear hW0
  by_cases q1 : 4 < p.keys.length
  · have i1 : (4 : Int) < (p.keys.length : Int) := by omega
    have HB0 := hid (HNO.out (fun h => by have := h.1; omega))
    clear q1
    go_wp2_with fail
    go_returns
    exact ⟨by rw [HB0.out]; rfl, KB.out⟩
  have i1 : ¬ ((4 : Int) < (p.keys.length : Int)) := by omega
  by_cases q2 : p.vals.length = p.keys.length
  case neg =>
    have i2 : ((p.vals.length : Int) != (p.keys.length : Int)) = true := by rw [bne, beq_false_of_ne (by omega)]; rfl
    have HB0 := hid (HNO.out (fun h => q2 h.2.1))
    clear q1 q2
    go_wp2_with fail
    go_returns
    exact ⟨by rw [HB0.out]; rfl, KB.out⟩
  have i2 : ((p.vals.length : Int) != (p.keys.length : Int)) = false := by rw [q2]; simp
  by_cases q3 : G < 0
  · have HB0 := hid (HNO.out (fun h => by have h0 := h.2.2.2.1; rw [← HG.out] at h0; omega))
    clear q1 q2
    go_wp2_with fail
    go_returns
    exact ⟨by rw [HB0.out]; rfl, KB.out⟩
  by_cases q4 : (p.keys.length : Int) < G
  · have HB0 := hid (HNO.out (fun h => by have h0 := h.2.2.2.2; rw [← HG.out] at h0; omega))
    clear q1 q2
    go_wp2_with fail
    go_returns
    exact ⟨by rw [HB0.out]; rfl, KB.out⟩
  go_upto_region 4 with fail
  obtain ⟨R, hR⟩ := bool_of (p.kids.length = 0 ∨ (p.kids.length = p.keys.length + 1 ∧ ∀ i, i < p.kids.length → (p.kids.getD i ByteArray.empty).size = 4))
  have HR := hid hR
  clear hR
  go_cut [40] (fun q wc => q = .bool (!R) ∧ Below W0.heap.size W0 wc)
  case first =>
    by_cases q5 : p.kids.length = 0
    · have i5 : ((p.kids.length : Int) != 0) = false := by rw [q5]; rfl
      have hRt : R = true := HR.out.2 (.inl q5)
      subst hRt
      clear q1 q2 q5 HR
      go_wp2_with fail
      go_meet
      exact ⟨rfl, Below.refl _ _⟩
    · have i5 : ((p.kids.length : Int) != 0) = true := by rw [bne, beq_false_of_ne (by omega)]; rfl
      have HA := HARE.out (p.keys.length + 1) (by omega) (by omega)
      have hab : areB (p.keys.length + 1) p.kids = R := by
        by_cases h : p.kids.length = p.keys.length + 1 ∧ ∀ i, i < p.kids.length → (p.kids.getD i ByteArray.empty).size = 4
        · rw [HR.out.2 (.inr h)]; exact areB_true h.1 h.2
        · rw [bool_no HR.out (fun g => by rcases g with g | g; exact q5 g; exact h g)]
          by_cases hl : p.kids.length = p.keys.length + 1
          · have : ¬ ∀ i, i < p.kids.length → (p.kids.getD i ByteArray.empty).size = 4 := fun g => h ⟨hl, g⟩
            obtain ⟨i, hi⟩ := Classical.not_forall.1 this
            obtain ⟨hi1, hi2⟩ := Classical.not_imp.1 hi
            exact areB_at i hi1 hi2
          · exact areB_len hl
      rw [hab] at HA
      have hnn : ((p.keys.length + 1 : Nat) : Int) = (p.keys.length : Int) + 1 := by omega
      rw [hnn] at HA
      clear hnn hab q1 q2 q5 HR
      go_wp2_with (first | (go_at_call 115; refine HA.mono ?_; rintro e w9 ⟨rfl, hb9⟩) | fail)
      go_meet
      exact ⟨rfl, hb9⟩
  case rest =>
    obtain ⟨rfl, kb1⟩ := hcut
    have KB1 := hid (KB.out.trans (kb1.mono KB.out.size))
    have B1 := BX.out.below kb1
    have H1c := hid (H1.out.below kb1)
    have H2c := hid (H2.out.below kb1)
    clear a0 a1 a2 a3 ha kb1 H1 H2
    have a0 := B1.2.1 0 _ rfl
    have a1 := B1.2.1 1 _ rfl
    have ha := B1.1
    clear B1 BX
    cases R
    case false =>
      have HB0 := hid (bool_no HB.out (fun hg => by have := HR.out.2 (by rcases hg.1.2.2.1 with h | h; exact .inl h; exact .inr ⟨h, hg.2.1⟩); cases this))
      clear q1 q2 HR
      go_wp2_with fail
      go_returns
      exact ⟨by rw [HB0.out]; rfl, KB1.out⟩
    have q5 := HR.out.1 rfl
    have HYES : Hid (Rise ByteArray.empty p.prs → B = true) := fun h => HB.out.2 ⟨⟨by omega, q2, by rcases q5 with g | g; exact .inl g; exact .inr g.1, by rw [← HG.out]; omega, by rw [← HG.out]; omega⟩, fun i hi => by rcases q5 with g | g; omega; exact g.2 i hi, h⟩
    have hvl : p.vals.length = p.keys.length := q2
    have HVL := hid hvl
    rw [hvl] at a1 H2c
    clear q1 q2 q5 hvl i2 HNO HARE
    go_wp2_with fail
    go_loopw [4, 5, 44] (fun s3 s4 i wr => ∃ k : Nat, k ≤ p.keys.length ∧ i = .int .i64 k ∧ Rise ByteArray.empty (p.prs.take k) ∧ wr = wc) (fun _ _ i _ => p.keys.length - (intOf i).toNat)
    case atStart => exact ⟨0, Nat.zero_le _, rfl, trivial, rfl⟩
    case round =>
      obtain ⟨k, hkl, rfl, hri, hwr⟩ := hrel
      subst hwr
      have HRI := hid hri
      clear hri
      by_cases hlt : k < p.keys.length
      · have hki : (k : Int) < (p.keys.length : Int) := by omega
        have hk0 : (0 : Int) ≤ (k : Int) := by omega
        obtain ⟨b1, o1, c1, hce, hb1, hcl1⟩ := strs_cell H1c.out hlt
        cases hce
        have hlv : k < p.vals.length := by have := HVL.out; omega
        have h2' := strs_cell H2c.out hlv
        rw [HVL.out] at h2'
        obtain ⟨b2, o2, c2, hce, hb2, hcl2⟩ := h2'
        cases hce
        have HNR := hid (GoodSh.no_rise hlt hlv HRI.out)
        have HMO := hid (rise_more hlt hlv HRI.out)
        have hts := HKS.out _ (getD_mem p.keys k hlt)
        have htv := HVS.out _ (getD_mem p.vals k hlv)
        have HPV : Hid (0 < k → wr.cell? ⟨b1, o1 + (k - 1), none⟩ = some (.string (p.keys.getD (k - 1) ByteArray.empty))) := by
          intro h0
          obtain ⟨b7, off7, c7, hce, _, hcell7⟩ := strs_cell H1c.out (i := k - 1) (by omega)
          cases hce
          exact hcell7
        obtain ⟨s, hs⟩ : ∃ s, p.keys.getD k ByteArray.empty = s := ⟨_, rfl⟩
        obtain ⟨u, hu⟩ : ∃ u, p.vals.getD k ByteArray.empty = u := ⟨_, rfl⟩
        obtain ⟨q, hq⟩ : ∃ q, p.keys.getD (k - 1) ByteArray.empty = q := ⟨_, rfl⟩
        rw [hs] at hcl1 hts
        rw [hu] at hcl2 htv
        rw [hs, hu, hq] at HNR HMO
        rw [hq] at HPV
        clear hs hu hq hlv
        have HK := goodKeyB s wr hts
        have HV := goodValIs u wr htv
        by_cases g1 : s.size ≠ 0 ∧ s.size ≤ 12
        case neg =>
          rw [decide_eq_false g1] at HK
          have HB0 := hid (bool_no HB.out (HNR.out (fun h => g1 ⟨h.1.1, h.1.2.1⟩)))
          clear g1 HNR HMO
          go_wp2_with (first | (go_at_call 69; refine HK.mono ?_; rintro e w9 ⟨rfl, hw9⟩; subst w9) | fail)
          go_returns
          exact ⟨by rw [HB0.out]; rfl, KB1.out⟩
        rw [decide_eq_true g1] at HK
        by_cases g2 : u.size ≤ 12
        case neg =>
          rw [decide_eq_false g2] at HV
          have HB0 := hid (bool_no HB.out (HNR.out (fun h => g2 h.1.2.2)))
          clear g1 g2 HNR HMO
          go_wp2_with (first | (go_at_call 69; refine HK.mono ?_; rintro e w9 ⟨rfl, hw9⟩; subst w9) | (go_at_call 116; refine HV.mono ?_; rintro e w9 ⟨rfl, hw9⟩; subst w9) | fail)
          go_returns
          exact ⟨by rw [HB0.out]; rfl, KB1.out⟩
        rw [decide_eq_true g2] at HV
        have hg : goodP (s, u) := ⟨g1.1, g1.2, g2⟩
        clear g1 g2
        rcases Nat.eq_zero_or_pos k with h0 | h0
        · have h0i : ¬ ((0 : Int) < (k : Int)) := by omega
          have HN2 := hid (HMO.out ⟨hg, .inl h0⟩)
          clear HNR HMO hg h0
          go_wp2_with (first | (go_at_call 69; refine HK.mono ?_; rintro e w9 ⟨rfl, hw9⟩; subst w9) | (go_at_call 116; refine HV.mono ?_; rintro e w9 ⟨rfl, hw9⟩; subst w9) | fail)
          refine ⟨?_, by simp [intOf]; omega⟩
          first | exact ⟨k + 1, by omega, by go_num, HN2.out, by first | rfl | trivial⟩ | ((repeat apply Exists.intro); exact ⟨⟨k + 1, by omega, by go_num, HN2.out, by first | rfl | trivial⟩, rfl⟩)
        · have hp5 := HPV.out h0
          have h0i : (0 : Int) < (k : Int) := by omega
          obtain ⟨j, rfl⟩ : ∃ j, k = j + 1 := ⟨k - 1, by omega⟩
          simp only [Nat.add_sub_cancel] at hp5
          have hj0 : (0 : Int) ≤ (j : Int) := by omega
          have hjl : (j : Int) < (p.keys.length : Int) := by omega
          have hcj : ((j + 1 : Nat) : Int) - 1 = (j : Int) := by omega
          have hcj2 : (j : Int) + 1 - 1 = (j : Int) := by omega
          by_cases hl : ltT q s
          · have HN2 := hid (HMO.out ⟨hg, .inr hl⟩)
            have hn1 : Go.Op.bytesLess s.toList q.toList = false := by
              cases h : Go.Op.bytesLess s.toList q.toList
              · rfl
              · exact absurd h (ltT_asymm hl)
            have hn2 : (s.toList == q.toList) = false := by
              rw [beq_eq_false_iff_ne]
              intro h
              have := ba_inj h
              subst this
              exact ltT_irr _ hl
            clear HNR HMO hg hl
            go_wp2_with (first | (go_at_call 69; refine HK.mono ?_; rintro e w9 ⟨rfl, hw9⟩; subst w9) | (go_at_call 116; refine HV.mono ?_; rintro e w9 ⟨rfl, hw9⟩; subst w9) | fail)
            refine ⟨?_, by simp [intOf]; omega⟩
            first | exact ⟨j + 1 + 1, by omega, by go_num, HN2.out, by first | rfl | trivial⟩ | ((repeat apply Exists.intro); exact ⟨⟨j + 1 + 1, by omega, by go_num, HN2.out, by first | rfl | trivial⟩, rfl⟩)
          · have HB0 := hid (bool_no HB.out (HNR.out (fun h => by rcases h.2 with h | h; omega; exact hl h)))
            have hle : (Go.Op.bytesLess s.toList q.toList || s.toList == q.toList) = true := by
              rcases ltT_tri q s with g | g | g
              · exact absurd g hl
              · subst g; simp
              · have : Go.Op.bytesLess s.toList q.toList = true := g
                simp [this]
            clear HNR HMO hg hl
            go_wp2_with (first | (go_at_call 69; refine HK.mono ?_; rintro e w9 ⟨rfl, hw9⟩; subst w9) | (go_at_call 116; refine HV.mono ?_; rintro e w9 ⟨rfl, hw9⟩; subst w9) | fail)
            go_returns
            exact ⟨by rw [HB0.out]; rfl, KB1.out⟩
      · have hke : k = p.keys.length := by omega
        subst hke
        have hki : ¬ ((p.keys.length : Int) < (p.keys.length : Int)) := by omega
        have HB1 := hid (HYES.out (by have := HRI.out; rwa [List.take_of_length_le (by rw [prs_len HVL.out]; omega)] at this))
        go_wp2_with fail
        go_returns
        exact ⟨by rw [HB1.out]; rfl, KB1.out⟩
end Go.Proofs.YtgjcegmjhkehnaaDoor
