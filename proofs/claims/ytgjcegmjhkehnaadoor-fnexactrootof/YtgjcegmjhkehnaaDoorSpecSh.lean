/- Contract of the model's test of shown pages. Condition: the page's lists lie in memory, none longer than the laws let through. -/
import Derived.Test.YtgjcegmjhkehnaaDoorPairP
namespace Go.Proofs.YtgjcegmjhkehnaaDoor
open Go.ChangeShapes Go.WideShapes Go.ChangeAt Go.RowKit Go.Deep
set_option linter.unusedVariables false
attribute [local go_sem ↓] Go.wp_at_zero Go.wp_at_succ

theorem l1InB (n lo hi : Int) (w : World) : Calls Tryd.prog 76 #[.int .i64 n, .int .i64 lo, .int .i64 hi] w fun e w' => e = .returned (.bool (decide (lo ≤ n ∧ n ≤ hi))) ∧ w' = w := by
  by_cases h1 : lo ≤ n
  · by_cases h2 : n ≤ hi
    · rw [decide_eq_true ⟨h1, h2⟩]
      go_enter Tryd.func76, Tryd.ntmps76
      go_wp2
      go_ret
      exact ⟨rfl, rfl⟩
    · rw [decide_eq_false (fun h => h2 h.2)]
      go_enter Tryd.func76, Tryd.ntmps76
      go_wp2
      go_ret
      exact ⟨rfl, rfl⟩
  · rw [decide_eq_false (fun h => h1 h.1)]
    go_enter Tryd.func76, Tryd.ntmps76
    go_wp2
    go_ret
    exact ⟨rfl, rfl⟩
set_option maxHeartbeats 6400000 in
theorem specGoodSh (p : Sh) (B : Bool) (hB : B = true ↔ GoodSh p) (kv vv cv : Value) (w : World) (hs : SmSh p) (h : ShAt w kv vv cv p) :
    Calls Tryd.prog 75 #[.agg #[kv, vv, cv, .int .i64 p.go]] w fun e w' => e = .returned (.bool B) ∧ Below w.heap.size w w' := by
  have HB := hid hB
  obtain ⟨⟨hk, hv, hc⟩, hks, hvs, hcs⟩ := hs
  have HKS := hid hks
  have HVS := hid hvs
  have HCS := hid hcs
  obtain ⟨h1, h2, h3⟩ := h
  obtain ⟨ka, kc, rfl⟩ := strs_len h1
  obtain ⟨va, vc, rfl⟩ := strs_len h2
  obtain ⟨ca, cc, rfl⟩ := strs_len h3
  have kb0 : Below w.heap.size w (w.alloc (.cells #[.slice ka p.keys.length kc, .slice va p.vals.length vc, .slice ca p.kids.length cc, .int .i64 p.go] 28)) := (Below.refl _ _).alloc (Nat.le_refl _) _
  have H1 := hid (h1.below kb0)
  have H2 := hid (h2.below kb0)
  have H3 := hid (h3.below kb0)
  have bx := boxNew w #[.slice ka p.keys.length kc, .slice va p.vals.length vc, .slice ca p.kids.length cc, .int .i64 p.go] 28
  obtain ⟨G, hG⟩ : ∃ G, G = p.go := ⟨_, rfl⟩
  rw [← hG] at kb0 H1 H2 H3 bx ⊢
  have HG := hid hG
  clear hB hks hvs hcs h1 h2 h3 hG
  go_enter Tryd.func75, Tryd.ntmps75
  go_wp2_with fail
  obtain ⟨W0, hW0⟩ : ∃ W0, W0 = w.alloc (.cells #[.slice ka p.keys.length kc, .slice va p.vals.length vc, .slice ca p.kids.length cc, .int .i64 G] 28) := ⟨_, rfl⟩
  rw [← hW0] at kb0 H1 H2 H3 bx ⊢
  have a0 := bx.2.1 0 _ rfl
  have a1 := bx.2.1 1 _ rfl
  have a2 := bx.2.1 2 _ rfl
  have a3 := bx.2.1 3 _ rfl
  have ha := bx.1
  have KB := hid kb0
  clear hW0 bx kb0
  go_loopw [3, 4, 11] (fun s3 s4 i wr => ∃ k : Nat, k ≤ p.keys.length ∧ k ≤ p.vals.length ∧ i = .int .i64 k ∧ Rise ByteArray.empty (p.prs.take k) ∧ wr = W0) (fun _ _ i _ => p.keys.length - (intOf i).toNat)
  case atStart => exact ⟨0, Nat.zero_le _, Nat.zero_le _, rfl, trivial, rfl⟩
  case round =>
    obtain ⟨k, hkl, hkv, rfl, hri, hwr⟩ := hrel
    subst hwr
    have HRI := hid hri
    clear hri
    by_cases hlt : k < p.keys.length
    · have hki : (k : Int) < (p.keys.length : Int) := by omega
      have hk0 : (0 : Int) ≤ (k : Int) := by omega
      obtain ⟨b1, o1, c1, hce, hb1, hcl1⟩ := strs_cell H1.out hlt
      cases hce
      by_cases hlv : k < p.vals.length
      · have hvi : ¬ ((p.vals.length : Int) ≤ (k : Int)) := by omega
        have hvi2 : (k : Int) < (p.vals.length : Int) := by omega
        obtain ⟨b2, o2, c2, hce, hb2, hcl2⟩ := strs_cell H2.out hlv
        cases hce
        have HNO := hid (GoodSh.no_rise hlt hlv HRI.out)
        have HMO := hid (rise_more hlt hlv HRI.out)
        have hts := HKS.out _ (getD_mem p.keys k hlt)
        have htv := HVS.out _ (getD_mem p.vals k hlv)
        have HPV : Hid (0 < k → wr.cell? ⟨b1, o1 + (k - 1), none⟩ = some (.string (p.keys.getD (k - 1) ByteArray.empty))) := by
          intro h0
          obtain ⟨b7, off7, c7, hce, _, hcell7⟩ := strs_cell H1.out (i := k - 1) (by omega)
          cases hce
          exact hcell7
        obtain ⟨s, hs⟩ : ∃ s, p.keys.getD k ByteArray.empty = s := ⟨_, rfl⟩
        obtain ⟨u, hu⟩ : ∃ u, p.vals.getD k ByteArray.empty = u := ⟨_, rfl⟩
        obtain ⟨q, hq⟩ : ∃ q, p.keys.getD (k - 1) ByteArray.empty = q := ⟨_, rfl⟩
        rw [hs] at hcl1 hts
        rw [hu] at hcl2 htv
        rw [hs, hu, hq] at HNO HMO
        rw [hq] at HPV
        clear hs hu hq
        by_cases hg : goodP (s, u)
        · have HP := l5PairYes s u wr hg
          rcases Nat.eq_zero_or_pos k with h0 | h0
          · have h0i : ¬ ((0 : Int) < (k : Int)) := by omega
            have HN2 := hid (HMO.out ⟨hg, .inl h0⟩)
            clear HNO HMO hg h0
            go_wp2_with (first | (go_at_call 67; refine HP.mono ?_; rintro e w9 ⟨rfl, hw9⟩; subst w9) | fail)
            refine ⟨?_, by simp [intOf]; omega⟩
            first | exact ⟨k + 1, by omega, by omega, by go_num, HN2.out, by first | rfl | trivial⟩ | ((repeat apply Exists.intro); exact ⟨⟨k + 1, by omega, by omega, by go_num, HN2.out, by first | rfl | trivial⟩, rfl⟩)
          · have hp5 := HPV.out h0
            have h0i : (0 : Int) < (k : Int) := by omega
            obtain ⟨j, rfl⟩ : ∃ j, k = j + 1 := ⟨k - 1, by omega⟩
            simp only [Nat.add_sub_cancel] at hp5
            have hj0 : (0 : Int) ≤ (j : Int) := by omega
            have hjl : (j : Int) < (p.keys.length : Int) := by omega
            have hcj : ((j + 1 : Nat) : Int) - 1 = (j : Int) := by omega
            have hcj2 : (j : Int) + 1 - 1 = (j : Int) := by omega
            by_cases hl : ltT q s
            · have HN2 := hid (HMO.out ⟨hg, .inr hl⟩)
              have hlb : Go.Op.bytesLess q.toList s.toList = true := hl
              clear HNO HMO hg hl
              go_wp2_with (first | (go_at_call 67; refine HP.mono ?_; rintro e w9 ⟨rfl, hw9⟩; subst w9) | fail)
              refine ⟨?_, by simp [intOf]; omega⟩
              first | exact ⟨j + 1 + 1, by omega, by omega, by go_num, HN2.out, by first | rfl | trivial⟩ | ((repeat apply Exists.intro); exact ⟨⟨j + 1 + 1, by omega, by omega, by go_num, HN2.out, by first | rfl | trivial⟩, rfl⟩)
            · have HB0 := hid (bool_no HB.out (HNO.out (fun h => by rcases h.2 with h | h; omega; exact hl h)))
              have hlb : Go.Op.bytesLess q.toList s.toList = false := by
                cases h : Go.Op.bytesLess q.toList s.toList
                · rfl
                · exact absurd h hl
              clear HNO HMO hg hl
              go_wp2_with (first | (go_at_call 67; refine HP.mono ?_; rintro e w9 ⟨rfl, hw9⟩; subst w9) | fail)
              go_returns
              exact ⟨by rw [HB0.out]; rfl, KB.out⟩
        · have HP := l5PairNo s u wr hts htv hg
          have HB0 := hid (bool_no HB.out (HNO.out (fun h => hg h.1)))
          clear HNO HMO hg
          go_wp2_with (first | (go_at_call 67; refine HP.mono ?_; rintro e w9 ⟨rfl, hw9⟩; subst w9) | fail)
          go_returns
          exact ⟨by rw [HB0.out]; rfl, KB.out⟩
      · have hvi : ((p.vals.length : Int) ≤ (k : Int)) := by omega
        have HB0 := hid (bool_no HB.out (fun hg => by have := hg.1.2.1; omega))
        go_wp2_with fail
        go_returns
        exact ⟨by rw [HB0.out]; rfl, KB.out⟩
    · have hke : k = p.keys.length := by omega
      subst hke
      have hki : ¬ ((p.keys.length : Int) < (p.keys.length : Int)) := by omega
      have HRA : Hid (p.vals.length = p.keys.length → Rise ByteArray.empty p.prs) := by
        intro h
        have := HRI.out
        rwa [List.take_of_length_le (by rw [prs_len h]; omega)] at this
      clear HRI
      go_wp2_with fail
      generalize wr = W1 at *
      go_loopw [6, 49] (fun s6 i wr => ∃ k : Nat, k ≤ p.kids.length ∧ i = .int .i64 k ∧ (∀ j, j < k → (p.kids.getD j ByteArray.empty).size = 4) ∧ wr = W1) (fun _ i _ => p.kids.length - (intOf i).toNat)
      case atStart => exact ⟨0, Nat.zero_le _, rfl, fun j hj => by omega, rfl⟩
      case round =>
        obtain ⟨k, hkl2, rfl, hall, hwr⟩ := hrel
        subst hwr
        have HAL := hid hall
        clear hall
        by_cases hlt2 : k < p.kids.length
        · have hki2 : (k : Int) < (p.kids.length : Int) := by omega
          have hk0 : (0 : Int) ≤ (k : Int) := by omega
          obtain ⟨b3, o3, c3, hce, hb3, hcl3⟩ := strs_cell H3.out hlt2
          cases hce
          have HAk : Hid ((p.kids.getD k ByteArray.empty).size = 4 → ∀ j, j < k + 1 → (p.kids.getD j ByteArray.empty).size = 4) := by
            intro h j hj
            by_cases e : j = k
            · rw [e]; exact h
            · exact HAL.out j (by omega)
          have HNk : Hid ((p.kids.getD k ByteArray.empty).size ≠ 4 → B = false) := fun h => bool_no HB.out (fun hg => h (hg.2.1 k hlt2))
          obtain ⟨t, ht⟩ : ∃ t, p.kids.getD k ByteArray.empty = t := ⟨_, rfl⟩
          rw [ht] at hcl3 HAk HNk
          clear ht
          by_cases h4 : t.size = 4
          · have h4i : ((t.size : Int) != 4) = false := by rw [h4]; rfl
            have HN2 := hid (HAk.out h4)
            clear HAk HNk h4
            go_wp2_with fail
            refine ⟨?_, by simp [intOf]; omega⟩
            first | exact ⟨k + 1, by omega, by go_num, HN2.out, by first | rfl | trivial⟩ | ((repeat apply Exists.intro); exact ⟨⟨k + 1, by omega, by go_num, HN2.out, by first | rfl | trivial⟩, rfl⟩)
          · have h4i : ((t.size : Int) != 4) = true := by rw [bne, beq_false_of_ne (by omega)]; rfl
            have HB0 := hid (HNk.out h4)
            clear HAk HNk h4
            go_wp2_with fail
            go_returns
            exact ⟨by rw [HB0.out]; rfl, KB.out⟩
        · have hke2 : k = p.kids.length := by omega
          subst hke2
          have hki2 : ¬ ((p.kids.length : Int) < (p.kids.length : Int)) := by omega
          have HYES : Hid (CntSh p → B = true) := fun h => HB.out.2 ⟨h, HAL.out, HRA.out h.2.1⟩
          have HNO : Hid (¬ CntSh p → B = false) := fun h => bool_no HB.out (fun hg => h hg.1)
          clear HAL HRA
          by_cases q1 : p.keys.length ≤ 4
          · have i1 : (p.keys.length : Int) ≤ 4 := by omega
            by_cases q2 : p.vals.length = p.keys.length
            · have i2 : ((p.vals.length : Int) == (p.keys.length : Int)) = true := by rw [q2]; simp
              have HIN := l1InB G 0 (p.keys.length : Int) wr
              by_cases q4 : 0 ≤ G ∧ G ≤ (p.keys.length : Int)
              · rw [decide_eq_true q4] at HIN
                by_cases q3 : p.kids.length = 0
                · have i3 : ((p.kids.length : Int) == 0) = true := by rw [q3]; rfl
                  have HB1 := hid (HYES.out ⟨q1, q2, .inl q3, by rw [← HG.out]; exact q4.1, by rw [← HG.out]; exact q4.2⟩)
                  clear q1 q2 q3 q4
                  go_wp2_with (first | (go_at_call 76; refine HIN.mono ?_; rintro e w9 ⟨rfl, hw9⟩; subst w9) | fail)
                  go_returns
                  exact ⟨by rw [HB1.out]; rfl, KB.out⟩
                · have i3 : ((p.kids.length : Int) == 0) = false := beq_false_of_ne (by omega)
                  by_cases q5 : p.kids.length = p.keys.length + 1
                  · have i5 : ((p.kids.length : Int) == (p.keys.length : Int) + 1) = true := by rw [q5]; simp
                    have HB1 := hid (HYES.out ⟨q1, q2, .inr q5, by rw [← HG.out]; exact q4.1, by rw [← HG.out]; exact q4.2⟩)
                    clear q1 q2 q3 q4 q5
                    go_wp2_with (first | (go_at_call 76; refine HIN.mono ?_; rintro e w9 ⟨rfl, hw9⟩; subst w9) | fail)
                    go_returns
                    exact ⟨by rw [HB1.out]; rfl, KB.out⟩
                  · have i5 : ((p.kids.length : Int) == (p.keys.length : Int) + 1) = false := beq_false_of_ne (by omega)
                    have HB1 := hid (HNO.out (fun h => by rcases h.2.2.1 with h | h <;> omega))
                    clear q1 q2 q3 q4 q5
                    go_wp2_with (first | (go_at_call 76; refine HIN.mono ?_; rintro e w9 ⟨rfl, hw9⟩; subst w9) | fail)
                    go_returns
                    exact ⟨by rw [HB1.out]; rfl, KB.out⟩
              · rw [decide_eq_false q4] at HIN
                have HB1 := hid (HNO.out (fun h => q4 (by rw [HG.out]; exact h.2.2.2)))
                by_cases q3 : p.kids.length = 0
                · have i3 : ((p.kids.length : Int) == 0) = true := by rw [q3]; rfl
                  clear q1 q2 q3 q4
                  go_wp2_with (first | (go_at_call 76; refine HIN.mono ?_; rintro e w9 ⟨rfl, hw9⟩; subst w9) | fail)
                  go_returns
                  exact ⟨by rw [HB1.out]; rfl, KB.out⟩
                · have i3 : ((p.kids.length : Int) == 0) = false := beq_false_of_ne (by omega)
                  by_cases q5 : p.kids.length = p.keys.length + 1
                  · have i5 : ((p.kids.length : Int) == (p.keys.length : Int) + 1) = true := by rw [q5]; simp
                    clear q1 q2 q3 q4 q5
                    go_wp2_with (first | (go_at_call 76; refine HIN.mono ?_; rintro e w9 ⟨rfl, hw9⟩; subst w9) | fail)
                    go_returns
                    exact ⟨by rw [HB1.out]; rfl, KB.out⟩
                  · have i5 : ((p.kids.length : Int) == (p.keys.length : Int) + 1) = false := beq_false_of_ne (by omega)
                    clear q1 q2 q3 q4 q5
                    go_wp2_with (first | (go_at_call 76; refine HIN.mono ?_; rintro e w9 ⟨rfl, hw9⟩; subst w9) | fail)
                    go_returns
                    exact ⟨by rw [HB1.out]; rfl, KB.out⟩
            · have i2 : ((p.vals.length : Int) == (p.keys.length : Int)) = false := beq_false_of_ne (by omega)
              have HB1 := hid (HNO.out (fun h => q2 h.2.1))
              clear q1 q2
              go_wp2_with fail
              go_returns
              exact ⟨by rw [HB1.out]; rfl, KB.out⟩
          · have i1 : ¬ ((p.keys.length : Int) ≤ 4) := by omega
            have HB1 := hid (HNO.out (fun h => q1 h.1))
            clear q1
            go_wp2_with fail
            go_returns
            exact ⟨by rw [HB1.out]; rfl, KB.out⟩
end Go.Proofs.YtgjcegmjhkehnaaDoor
