/- Contracts of the question whether a range needs a kid, model and program. Condition: the page lies in memory. -/
import Derived.Test.YtmmccjdkafojgaaSpecSh
import Derived.Test.YtmmccjdkafojgaaImplSh
namespace Go.Proofs.Ytmmccjdkafojgaa
open Go.ChangeShapes Go.WideShapes Go.ChangeAt Go.RowKit Go.Deep
set_option linter.unusedVariables false
attribute [local go_sem ↓] Go.wp_at_zero Go.wp_at_succ

theorem gt_less (x y : ByteArray) : (!Go.Op.bytesLess x.toList y.toList && !x.toList == y.toList) = Go.Op.bytesLess y.toList x.toList := by
  cases h : Go.Op.bytesLess y.toList x.toList with
  | true =>
    have h1 : ltT y x := h
    have h2 : Go.Op.bytesLess x.toList y.toList = false := by
      cases h3 : Go.Op.bytesLess x.toList y.toList
      · rfl
      · exact absurd h3 (ltT_asymm h1)
    have h4 : (x.toList == y.toList) = false := beq_false_of_ne (fun e => ltT_irr y (by rw [ba_inj e] at h1; exact h1))
    rw [h2, h4]; rfl
  | false =>
    rcases ltT_tri x y with h1 | h1 | h1
    · have h2 : Go.Op.bytesLess x.toList y.toList = true := h1
      rw [h2]; rfl
    · subst h1; simp
    · have h2 : Go.Op.bytesLess y.toList x.toList = true := h1
      rw [h2] at h; cases h
theorem bel_dN (w : World) (n : Nat) : Below w.heap.size w (w.drewN n) := (Below.refl _ _).trans ⟨rfl, rfl, rfl, Nat.le_refl _, fun _ _ => rfl⟩
def lessB (a b : ByteArray) : Bool := Go.Op.bytesLess a.toList b.toList
/-- Whether keys of kid number k may be in the range, by the keys of the page. -/
def needB (ks : List ByteArray) (k : Nat) (f t : ByteArray) : Bool := (decide (k = 0) || lessB (ks.getD (k - 1) ByteArray.empty) t) && (decide (k = ks.length) || lessB f (ks.getD k ByteArray.empty))
def GoodR (f t : ByteArray) : Prop := (f.size ≠ 0 ∧ f.size ≤ 12) ∧ (t.size ≠ 0 ∧ t.size ≤ 12) ∧ lessB f t = true
theorem goodP_nil {k : ByteArray} (h : k.size ≠ 0 ∧ k.size ≤ 12) : goodP (k, { data := #[] }) := ⟨h.1, h.2, by show ByteArray.size _ ≤ 12; simp [ByteArray.size]⟩
theorem not_goodP_nil {k : ByteArray} (h : ¬ (k.size ≠ 0 ∧ k.size ≤ 12)) : ¬ goodP (k, { data := #[] }) := fun g => h ⟨g.1, g.2.1⟩
set_option maxRecDepth 100000 in
theorem l7RangeB (f t : ByteArray) (R : Bool) (hR : R = true ↔ GoodR f t) (w : World) (hf : f.size ≤ maxLen) (ht : t.size ≤ maxLen) :
    Calls Try.prog 95 #[.string f, .string t] w fun e w' => e = .returned (.bool R) ∧ w' = w := by
  have HR := hid hR
  clear hR
  by_cases g1 : f.size ≠ 0 ∧ f.size ≤ 12
  · have C1 := l5PairYes f { data := #[] } w (goodP_nil g1)
    by_cases g2 : t.size ≠ 0 ∧ t.size ≤ 12
    · have C2 := l5PairYes t { data := #[] } w (goodP_nil g2)
      cases hl : Go.Op.bytesLess f.toList t.toList with
      | true =>
        have HB : Hid (R = true) := HR.out.2 ⟨g1, g2, hl⟩
        clear g1 g2 HR
        go_enter Try.func95, Try.ntmps95
        go_wp2_with fail
        refine C1.mono ?_
        rintro e w8 ⟨rfl, hw8⟩
        subst w8
        go_wp2_with fail
        refine C2.mono ?_
        rintro e w9 ⟨rfl, hw9⟩
        subst w9
        go_wp2
        go_ret
        exact ⟨by rw [HB.out]; rfl, rfl⟩
      | false =>
        have HB : Hid (R = false) := bool_no HR.out (fun h => by have h2 : Go.Op.bytesLess f.toList t.toList = true := h.2.2; rw [hl] at h2; cases h2)
        clear g1 g2 HR
        go_enter Try.func95, Try.ntmps95
        go_wp2_with fail
        refine C1.mono ?_
        rintro e w8 ⟨rfl, hw8⟩
        subst w8
        go_wp2_with fail
        refine C2.mono ?_
        rintro e w9 ⟨rfl, hw9⟩
        subst w9
        go_wp2
        go_ret
        exact ⟨by rw [HB.out]; rfl, rfl⟩
    · have C2 := l5PairNo t { data := #[] } w ht (by unfold maxLen; simp [ByteArray.size]) (not_goodP_nil g2)
      have HB : Hid (R = false) := bool_no HR.out (fun h => g2 h.2.1)
      clear g1 g2 HR
      go_enter Try.func95, Try.ntmps95
      go_wp2_with fail
      refine C1.mono ?_
      rintro e w8 ⟨rfl, hw8⟩
      subst w8
      go_wp2_with fail
      refine C2.mono ?_
      rintro e w9 ⟨rfl, hw9⟩
      subst w9
      go_wp2
      go_ret
      exact ⟨by rw [HB.out]; rfl, rfl⟩
  · have C1 := l5PairNo f { data := #[] } w hf (by unfold maxLen; simp [ByteArray.size]) (not_goodP_nil g1)
    have HB : Hid (R = false) := bool_no HR.out (fun h => g1 h.1)
    clear g1 HR
    go_enter Try.func95, Try.ntmps95
    go_wp2_with fail
    refine C1.mono ?_
    rintro e w9 ⟨rfl, hw9⟩
    subst w9
    go_wp2
    go_ret
    exact ⟨by rw [HB.out]; rfl, rfl⟩
set_option maxRecDepth 100000 in
theorem goodRangeB (f t : ByteArray) (R : Bool) (hR : R = true ↔ GoodR f t) (w : World) (hf : f.size ≤ maxLen) (ht : t.size ≤ maxLen) :
    Calls Try.prog 101 #[.string f, .string t] w fun e w' => e = .returned (.bool R) ∧ w' = w := by
  have HR := hid hR
  clear hR
  by_cases g1 : f.size ≠ 0 ∧ f.size ≤ 12
  · have C1 := goodKeyYes f w g1.1 g1.2
    by_cases g2 : t.size ≠ 0 ∧ t.size ≤ 12
    · have C2 := goodKeyYes t w g2.1 g2.2
      cases hl : Go.Op.bytesLess f.toList t.toList with
      | true =>
        have HB : Hid (R = true) := HR.out.2 ⟨g1, g2, hl⟩
        clear g1 g2 HR
        go_enter Try.func101, Try.ntmps101
        go_wp2_with fail
        refine C1.mono ?_
        rintro e w8 ⟨rfl, hw8⟩
        subst w8
        go_wp2_with fail
        refine C2.mono ?_
        rintro e w9 ⟨rfl, hw9⟩
        subst w9
        go_wp2
        go_ret
        exact ⟨by rw [HB.out]; rfl, rfl⟩
      | false =>
        have HB : Hid (R = false) := bool_no HR.out (fun h => by have h2 : Go.Op.bytesLess f.toList t.toList = true := h.2.2; rw [hl] at h2; cases h2)
        clear g1 g2 HR
        go_enter Try.func101, Try.ntmps101
        go_wp2_with fail
        refine C1.mono ?_
        rintro e w8 ⟨rfl, hw8⟩
        subst w8
        go_wp2_with fail
        refine C2.mono ?_
        rintro e w9 ⟨rfl, hw9⟩
        subst w9
        go_wp2
        go_ret
        exact ⟨by rw [HB.out]; rfl, rfl⟩
    · have C2 := goodKeyNo t w ht g2
      have HB : Hid (R = false) := bool_no HR.out (fun h => g2 h.2.1)
      clear g1 g2 HR
      go_enter Try.func101, Try.ntmps101
      go_wp2_with fail
      refine C1.mono ?_
      rintro e w8 ⟨rfl, hw8⟩
      subst w8
      go_wp2_with fail
      refine C2.mono ?_
      rintro e w9 ⟨rfl, hw9⟩
      subst w9
      go_wp2
      go_ret
      exact ⟨by rw [HB.out]; rfl, rfl⟩
  · have C1 := goodKeyNo f w hf g1
    have HB : Hid (R = false) := bool_no HR.out (fun h => g1 h.1)
    clear g1 HR
    go_enter Try.func101, Try.ntmps101
    go_wp2_with fail
    refine C1.mono ?_
    rintro e w9 ⟨rfl, hw9⟩
    subst w9
    go_wp2
    go_ret
    exact ⟨by rw [HB.out]; rfl, rfl⟩
set_option maxHeartbeats 3200000 in
set_option maxRecDepth 100000 in
theorem specNeeds (p : Sh) (k : Nat) (f t : ByteArray) (kv vv cv : Value) (w : World) (h : ShAt w kv vv cv p) (hk : k ≤ p.keys.length) (hs : p.keys.length ≤ 1048576) :
    Calls Try.prog 99 #[.agg #[kv, vv, cv, .int .i64 p.go], .int .i64 k, .string f, .string t] w fun e w' => e = .returned (.bool (needB p.keys k f t)) ∧ Below w.heap.size w w' := by
  obtain ⟨h1, h2, h3⟩ := h
  obtain ⟨ka, kc, rfl⟩ := strs_len h1
  obtain ⟨va, vc, rfl⟩ := strs_len h2
  obtain ⟨ca, cc, rfl⟩ := strs_len h3
  have H1 := hid h1
  obtain ⟨G, hG⟩ : ∃ G, G = p.go := ⟨_, rfl⟩
  rw [← hG]
  clear h1 h2 h3 hG
  rcases Nat.eq_zero_or_pos k with h0 | h0
  · subst h0
    obtain ⟨K, hK⟩ : ∃ K : Nat, K = 0 := ⟨_, rfl⟩
    have e1 : ((K : Int) == 0) = true := by rw [hK]; rfl
    have hnd2 : needB p.keys K f t = (decide (K = p.keys.length) || lessB f (p.keys.getD K ByteArray.empty)) := by unfold needB; rw [decide_eq_true hK]; rfl
    rw [show ((0 : Nat) : Int) = (K : Int) by rw [hK], show needB p.keys 0 f t = needB p.keys K f t by rw [hK]]
    by_cases he : K = p.keys.length
    · have e2 : ((K : Int) == (p.keys.length : Int)) = true := by rw [he]; simp
      have HB : Hid (needB p.keys K f t = true) := by show _ = _; rw [hnd2, decide_eq_true he]; rfl
      clear he hnd2 hK
      go_enter Try.func99, Try.ntmps99
      go_wp2
      go_returns
      exact ⟨by rw [HB.out]; rfl, by go_grown⟩
    · have hlt : K < p.keys.length := by omega
      have e2 : ((K : Int) == (p.keys.length : Int)) = false := beq_false_of_ne (by omega)
      have i0 : (0 : Int) ≤ (K : Int) := by omega
      have i1 : (K : Int) < (p.keys.length : Int) := by omega
      obtain ⟨b5, o5, c5, hce, hb5, cl5⟩ := strs_cell H1.out hlt
      cases hce
      cases hg : Go.Op.bytesLess f.toList (p.keys.getD K ByteArray.empty).toList with
      | true =>
        have HB : Hid (needB p.keys K f t = true) := by show _ = _; rw [hnd2, decide_eq_false he]; unfold lessB; rw [hg]; rfl
        clear he hnd2 hK
        have HGT : Hid ((!Go.Op.bytesLess (p.keys.getD K ByteArray.empty).toList f.toList && !(p.keys.getD K ByteArray.empty).toList == f.toList) = true) := by show _ = _; rw [gt_less]; exact hg
        generalize p.keys.getD K ByteArray.empty = q5 at *
        go_enter Try.func99, Try.ntmps99
        go_wp2
        go_returns
        exact ⟨by show Ending.returned (Value.bool (!Go.Op.bytesLess q5.toList f.toList && !q5.toList == f.toList)) = _; rw [HGT.out, HB.out], by go_grown⟩
      | false =>
        have HB : Hid (needB p.keys K f t = false) := by show _ = _; rw [hnd2, decide_eq_false he]; unfold lessB; rw [hg]; rfl
        clear he hnd2 hK
        have HGT : Hid ((!Go.Op.bytesLess (p.keys.getD K ByteArray.empty).toList f.toList && !(p.keys.getD K ByteArray.empty).toList == f.toList) = false) := by show _ = _; rw [gt_less]; exact hg
        generalize p.keys.getD K ByteArray.empty = q5 at *
        go_enter Try.func99, Try.ntmps99
        go_wp2
        go_returns
        exact ⟨by show Ending.returned (Value.bool (!Go.Op.bytesLess q5.toList f.toList && !q5.toList == f.toList)) = _; rw [HGT.out, HB.out], by go_grown⟩
  · obtain ⟨j, rfl⟩ : ∃ j, k = j + 1 := ⟨k - 1, by omega⟩
    have hjl : j < p.keys.length := by omega
    obtain ⟨b4, o4, c4, hce, hb4, cl4⟩ := strs_cell H1.out hjl
    cases hce
    obtain ⟨K, hK⟩ : ∃ K : Nat, K = j + 1 := ⟨_, rfl⟩
    have e1 : ((K : Int) == 0) = false := beq_false_of_ne (by omega)
    have hKw : (K : Int) - 1 = (j : Int) := by omega
    have hKw2 : IntKind.i64.wrap (j : Int) = (j : Int) := by rw [IntKind.wrap_i64]; omega
    have i2 : (0 : Int) ≤ (j : Int) := by omega
    have i3 : (j : Int) < (p.keys.length : Int) := by omega
    have hnd : needB p.keys (j + 1) f t = ((lessB (p.keys.getD j ByteArray.empty) t) && (decide (K = p.keys.length) || lessB f (p.keys.getD K ByteArray.empty))) := by unfold needB; rw [hK]; simp
    rw [← hK] at hnd ⊢
    cases hg4 : Go.Op.bytesLess (p.keys.getD j ByteArray.empty).toList t.toList with
    | true =>
      have hl4 : lessB (p.keys.getD j ByteArray.empty) t = true := hg4
      have hnd2 : needB p.keys K f t = (decide (K = p.keys.length) || lessB f (p.keys.getD K ByteArray.empty)) := by rw [hnd, hl4]; simp
      clear hnd hl4
      generalize p.keys.getD j ByteArray.empty = q4 at *
      by_cases he : K = p.keys.length
      · have e2 : ((K : Int) == (p.keys.length : Int)) = true := by rw [he]; simp
        have HB : Hid (needB p.keys K f t = true) := by show _ = _; rw [hnd2, decide_eq_true he]; rfl
        clear he hnd2 hK
        go_enter Try.func99, Try.ntmps99
        go_wp2
        go_returns
        exact ⟨by rw [HB.out]; rfl, by go_grown⟩
      · have hlt : K < p.keys.length := by omega
        have e2 : ((K : Int) == (p.keys.length : Int)) = false := beq_false_of_ne (by omega)
        have i0 : (0 : Int) ≤ (K : Int) := by omega
        have i1 : (K : Int) < (p.keys.length : Int) := by omega
        obtain ⟨b5, o5, c5, hce, hb5, cl5⟩ := strs_cell H1.out hlt
        cases hce
        cases hg : Go.Op.bytesLess f.toList (p.keys.getD K ByteArray.empty).toList with
        | true =>
          have HB : Hid (needB p.keys K f t = true) := by show _ = _; rw [hnd2, decide_eq_false he]; unfold lessB; rw [hg]; rfl
          clear he hnd2 hK
          have HGT : Hid ((!Go.Op.bytesLess (p.keys.getD K ByteArray.empty).toList f.toList && !(p.keys.getD K ByteArray.empty).toList == f.toList) = true) := by show _ = _; rw [gt_less]; exact hg
          generalize p.keys.getD K ByteArray.empty = q5 at *
          go_enter Try.func99, Try.ntmps99
          go_wp2
          go_returns
          exact ⟨by show Ending.returned (Value.bool (!Go.Op.bytesLess q5.toList f.toList && !q5.toList == f.toList)) = _; rw [HGT.out, HB.out], by go_grown⟩
        | false =>
          have HB : Hid (needB p.keys K f t = false) := by show _ = _; rw [hnd2, decide_eq_false he]; unfold lessB; rw [hg]; rfl
          clear he hnd2 hK
          have HGT : Hid ((!Go.Op.bytesLess (p.keys.getD K ByteArray.empty).toList f.toList && !(p.keys.getD K ByteArray.empty).toList == f.toList) = false) := by show _ = _; rw [gt_less]; exact hg
          generalize p.keys.getD K ByteArray.empty = q5 at *
          go_enter Try.func99, Try.ntmps99
          go_wp2
          go_returns
          exact ⟨by show Ending.returned (Value.bool (!Go.Op.bytesLess q5.toList f.toList && !q5.toList == f.toList)) = _; rw [HGT.out, HB.out], by go_grown⟩
    | false =>
      have hl4 : lessB (p.keys.getD j ByteArray.empty) t = false := hg4
      have HB : Hid (needB p.keys K f t = false) := by show _ = _; rw [hnd, hl4]; simp
      clear hnd hl4 hK
      generalize p.keys.getD j ByteArray.empty = q4 at *
      go_enter Try.func99, Try.ntmps99
      go_wp2
      go_returns
      exact ⟨by rw [HB.out]; rfl, by go_grown⟩
set_option maxHeartbeats 3200000 in
set_option maxRecDepth 100000 in
theorem kidNeeds (p : Sh) (k : Nat) (f t : ByteArray) (kv : Value) (w : World) (b1 b2 : Nat) (h1 : StrsAt w kv p.keys) (hk : k ≤ p.keys.length) (hs : p.keys.length ≤ 1048576) (hc1 : w.cell? ⟨b1, 0, none⟩ = some (.string t)) (hc2 : w.cell? ⟨b2, 0, none⟩ = some (.string f)) :
    Calls Try.prog 134 #[kv, .int .i64 k, .pointer (some ⟨b1, 0, none⟩), .pointer (some ⟨b2, 0, none⟩)] w fun e w' => e = .returned (.bool (needB p.keys k f t)) ∧ Below w.heap.size w w' := by
  obtain ⟨ka, kc, rfl⟩ := strs_len h1
  have H1 := hid h1
  clear h1
  rcases Nat.eq_zero_or_pos k with h0 | h0
  · subst h0
    obtain ⟨K, hK⟩ : ∃ K : Nat, K = 0 := ⟨_, rfl⟩
    have e1 : ((K : Int) == 0) = true := by rw [hK]; rfl
    have hnd2 : needB p.keys K f t = (decide (K = p.keys.length) || lessB f (p.keys.getD K ByteArray.empty)) := by unfold needB; rw [decide_eq_true hK]; rfl
    rw [show ((0 : Nat) : Int) = (K : Int) by rw [hK], show needB p.keys 0 f t = needB p.keys K f t by rw [hK]]
    by_cases he : K = p.keys.length
    · have e2 : ((K : Int) == (p.keys.length : Int)) = true := by rw [he]; simp
      have HB : Hid (needB p.keys K f t = true) := by show _ = _; rw [hnd2, decide_eq_true he]; rfl
      clear he hnd2 hK
      go_enter Try.func134, Try.ntmps134
      go_upto_region 1 with fail
      go_quiet (fail)
      go_wp2
      go_ret
      exact ⟨by rw [HB.out]; rfl, bel_dN w _⟩
    · have hlt : K < p.keys.length := by omega
      have e2 : ((K : Int) == (p.keys.length : Int)) = false := beq_false_of_ne (by omega)
      have i0 : (0 : Int) ≤ (K : Int) := by omega
      have i1 : (K : Int) < (p.keys.length : Int) := by omega
      obtain ⟨b5, o5, c5, hce, hb5, cl5⟩ := strs_cell H1.out hlt
      cases hce
      cases hg : Go.Op.bytesLess f.toList (p.keys.getD K ByteArray.empty).toList with
      | true =>
        have HB : Hid (needB p.keys K f t = true) := by show _ = _; rw [hnd2, decide_eq_false he]; unfold lessB; rw [hg]; rfl
        clear he hnd2 hK
        have HGT : Hid ((!Go.Op.bytesLess (p.keys.getD K ByteArray.empty).toList f.toList && !(p.keys.getD K ByteArray.empty).toList == f.toList) = true) := by show _ = _; rw [gt_less]; exact hg
        generalize p.keys.getD K ByteArray.empty = q5 at *
        go_enter Try.func134, Try.ntmps134
        go_upto_region 1 with fail
        go_quiet (fail)
        go_wp2
        go_ret
        exact ⟨by show Ending.returned (Value.bool (!Go.Op.bytesLess q5.toList f.toList && !q5.toList == f.toList)) = _; rw [HGT.out, HB.out], bel_dN w _⟩
      | false =>
        have HB : Hid (needB p.keys K f t = false) := by show _ = _; rw [hnd2, decide_eq_false he]; unfold lessB; rw [hg]; rfl
        clear he hnd2 hK
        have HGT : Hid ((!Go.Op.bytesLess (p.keys.getD K ByteArray.empty).toList f.toList && !(p.keys.getD K ByteArray.empty).toList == f.toList) = false) := by show _ = _; rw [gt_less]; exact hg
        generalize p.keys.getD K ByteArray.empty = q5 at *
        go_enter Try.func134, Try.ntmps134
        go_upto_region 1 with fail
        go_quiet (fail)
        go_wp2
        go_ret
        exact ⟨by show Ending.returned (Value.bool (!Go.Op.bytesLess q5.toList f.toList && !q5.toList == f.toList)) = _; rw [HGT.out, HB.out], bel_dN w _⟩
  · obtain ⟨j, rfl⟩ : ∃ j, k = j + 1 := ⟨k - 1, by omega⟩
    have hjl : j < p.keys.length := by omega
    obtain ⟨b4, o4, c4, hce, hb4, cl4⟩ := strs_cell H1.out hjl
    cases hce
    obtain ⟨K, hK⟩ : ∃ K : Nat, K = j + 1 := ⟨_, rfl⟩
    have e1 : ((K : Int) == 0) = false := beq_false_of_ne (by omega)
    have hKw : (K : Int) - 1 = (j : Int) := by omega
    have hKw2 : IntKind.i64.wrap (j : Int) = (j : Int) := by rw [IntKind.wrap_i64]; omega
    have i2 : (0 : Int) ≤ (j : Int) := by omega
    have i3 : (j : Int) < (p.keys.length : Int) := by omega
    have hnd : needB p.keys (j + 1) f t = ((lessB (p.keys.getD j ByteArray.empty) t) && (decide (K = p.keys.length) || lessB f (p.keys.getD K ByteArray.empty))) := by unfold needB; rw [hK]; simp
    rw [← hK] at hnd ⊢
    cases hg4 : Go.Op.bytesLess (p.keys.getD j ByteArray.empty).toList t.toList with
    | true =>
      have hl4 : lessB (p.keys.getD j ByteArray.empty) t = true := hg4
      have hnd2 : needB p.keys K f t = (decide (K = p.keys.length) || lessB f (p.keys.getD K ByteArray.empty)) := by rw [hnd, hl4]; simp
      clear hnd hl4
      generalize p.keys.getD j ByteArray.empty = q4 at *
      by_cases he : K = p.keys.length
      · have e2 : ((K : Int) == (p.keys.length : Int)) = true := by rw [he]; simp
        have HB : Hid (needB p.keys K f t = true) := by show _ = _; rw [hnd2, decide_eq_true he]; rfl
        clear he hnd2 hK
        go_enter Try.func134, Try.ntmps134
        go_upto_region 1 with fail
        go_quiet (fail)
        go_wp2
        go_ret
        exact ⟨by rw [HB.out]; rfl, bel_dN w _⟩
      · have hlt : K < p.keys.length := by omega
        have e2 : ((K : Int) == (p.keys.length : Int)) = false := beq_false_of_ne (by omega)
        have i0 : (0 : Int) ≤ (K : Int) := by omega
        have i1 : (K : Int) < (p.keys.length : Int) := by omega
        obtain ⟨b5, o5, c5, hce, hb5, cl5⟩ := strs_cell H1.out hlt
        cases hce
        cases hg : Go.Op.bytesLess f.toList (p.keys.getD K ByteArray.empty).toList with
        | true =>
          have HB : Hid (needB p.keys K f t = true) := by show _ = _; rw [hnd2, decide_eq_false he]; unfold lessB; rw [hg]; rfl
          clear he hnd2 hK
          have HGT : Hid ((!Go.Op.bytesLess (p.keys.getD K ByteArray.empty).toList f.toList && !(p.keys.getD K ByteArray.empty).toList == f.toList) = true) := by show _ = _; rw [gt_less]; exact hg
          generalize p.keys.getD K ByteArray.empty = q5 at *
          go_enter Try.func134, Try.ntmps134
          go_upto_region 1 with fail
          go_quiet (fail)
          go_wp2
          go_ret
          exact ⟨by show Ending.returned (Value.bool (!Go.Op.bytesLess q5.toList f.toList && !q5.toList == f.toList)) = _; rw [HGT.out, HB.out], bel_dN w _⟩
        | false =>
          have HB : Hid (needB p.keys K f t = false) := by show _ = _; rw [hnd2, decide_eq_false he]; unfold lessB; rw [hg]; rfl
          clear he hnd2 hK
          have HGT : Hid ((!Go.Op.bytesLess (p.keys.getD K ByteArray.empty).toList f.toList && !(p.keys.getD K ByteArray.empty).toList == f.toList) = false) := by show _ = _; rw [gt_less]; exact hg
          generalize p.keys.getD K ByteArray.empty = q5 at *
          go_enter Try.func134, Try.ntmps134
          go_upto_region 1 with fail
          go_quiet (fail)
          go_wp2
          go_ret
          exact ⟨by show Ending.returned (Value.bool (!Go.Op.bytesLess q5.toList f.toList && !q5.toList == f.toList)) = _; rw [HGT.out, HB.out], bel_dN w _⟩
    | false =>
      have hl4 : lessB (p.keys.getD j ByteArray.empty) t = false := hg4
      have HB : Hid (needB p.keys K f t = false) := by show _ = _; rw [hnd, hl4]; simp
      clear hnd hl4 hK
      generalize p.keys.getD j ByteArray.empty = q4 at *
      go_enter Try.func134, Try.ntmps134
      go_upto_region 1 with fail
      go_quiet (fail)
      go_wp2
      go_ret
      exact ⟨by rw [HB.out]; rfl, bel_dN w _⟩
end Go.Proofs.Ytmmccjdkafojgaa
