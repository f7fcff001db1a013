/- BestFew and Threshold: the program. Condition: the rows lie in memory. -/
import Derived.Test.YthdodlbhkpoadaaLookI
namespace Go.Proofs.Ythdodlbhkpoadaa
open Go.ChangeShapes Go.WideShapes Go.ChangeAt Go.RowKit Go.Deep
set_option linter.unusedVariables false
attribute [local go_sem ↓] Go.wp_at_zero Go.wp_at_succ

set_option maxHeartbeats 3200000 in
set_option maxRecDepth 100000 in
theorem implMay (x : Value) (l : List Sc) (m : Nat) (z : Int) (B : Bool) (hB : B = true ↔ z = 0 ∨ ((popsL l m).length = m ∧ z < (gd (popsL l m) (m - 1)).2)) (w : World) (h : RdS w x l) (hl : l.length ≤ 1000) (hm : m ≤ 1000) (hm1 : 1 ≤ m) :
    Calls Try.prog 50 #[x, .int .i64 m, .int .i64 z] w fun e w' => e = .returned (.bool B) ∧ Below w.heap.size w w' := by
  have HBO := implBestOf x l m w h hl hm
  have HPL := pops_len m l
  obtain ⟨xa, xc, rfl⟩ := h.slice
  obtain ⟨P, hP⟩ : ∃ P, P = popsL l m := ⟨_, rfl⟩
  rw [← hP] at hB HBO HPL
  have HB := hid hB
  clear hB hP h
  go_enter Try.func50, Try.ntmps50
  go_wp2_with fail
  refine HBO.mono ?_
  rintro e w1 ⟨qa, qc, rfl, ho1, hb1⟩
  have HO1 := hid ho1
  have HK1 := hid hb1
  clear ho1 hb1 HBO
  by_cases hz : z = 0
  · have HT : Hid (B = true) := HB.out.2 (.inl hz)
    have hzb : (z == 0) = true := by rw [hz]; rfl
    clear hz
    go_wp2
    go_returns
    exact ⟨by rw [HT.out]; rfl, HK1.out⟩
  · have hzb : (z == 0) = false := beq_false_of_ne hz
    by_cases hlen : P.length = m
    · have hlb : ((P.length : Int) == (m : Int)) = true := by rw [hlen]; simp
      obtain ⟨g, cap, hge, hg0, hg1⟩ := HO1.out.lies (by omega)
      cases hge
      have c1 := HO1.out.c1 (k := m - 1) (by omega)
      obtain ⟨j, hj⟩ : ∃ j, j = m - 1 := ⟨_, rfl⟩
      have hmj : (m : Int) - 1 = (j : Int) := by omega
      have hjl : (j : Int) < (P.length : Int) := by omega
      have hj0 : (0 : Int) ≤ (j : Int) := by omega
      have hjw : IntKind.i64.wrap (j : Int) = (j : Int) := by rw [IntKind.wrap_i64]; omega
      have HB2 : Hid (B = true ↔ z < (gd P j).2) := by
        show _ ↔ _
        rw [HB.out, ← hj]
        exact ⟨fun h => by rcases h with h | h; exact absurd h hz; exact h.2, fun h => .inr ⟨hlen, h⟩⟩
      rw [← hj] at c1
      obtain ⟨u, hu⟩ : ∃ u, u = (gd P j).2 := ⟨_, rfl⟩
      rw [← hu] at c1 HB2
      clear hu hj hlen hz HB
      by_cases hzu : z < u
      · have HT : Hid (B = true) := HB2.out.2 hzu
        go_wp2
        go_returns
        exact ⟨by rw [HT.out]; first | rfl | (simp [hzu]; done), HK1.out⟩
      · have HT : Hid (B = false) := bool_no HB2.out hzu
        have hzd : decide (z < u) = false := decide_eq_false hzu
        go_wp2
        go_returns
        exact ⟨by rw [HT.out]; first | rfl | (simp [hzd]; done) | (simp; omega), HK1.out⟩
    · have hlb : ((P.length : Int) == (m : Int)) = false := beq_false_of_ne (by omega)
      have HT : Hid (B = false) := bool_no HB.out (fun h => by rcases h with h | h; exact hz h; exact hlen h.1)
      clear hlen hz
      go_wp2
      go_returns
      exact ⟨by rw [HT.out]; rfl, HK1.out⟩
/-- What BestFew answers. -/
def bfB (Bg : Bool) (y : Int) : Bool := Bg && decide (1 ≤ y ∧ y ≤ 10)
def bfA (Bg : Bool) (R : List (List Sc)) (y : Int) : List Sc := if bfB Bg y = true then (allS R R).take y.toNat else []
theorem bfA_len (Bg : Bool) (R : List (List Sc)) (y : Int) : (bfA Bg R y).length ≤ 10 := by
  unfold bfA
  split
  · rename_i h
    simp [bfB] at h
    simp; omega
  · simp
set_option maxHeartbeats 6400000 in
set_option maxRecDepth 100000 in
theorem implBestFew (x : Value) (R : List (List Sc)) (y : Int) (Bg : Bool) (hB : Bg = true ↔ GoodRs R) (w : World) (h : RdR w x R) (hl : R.length ≤ 1048576) (hs : ∀ r ∈ R, r.length ≤ 1048576) :
    Calls Try.prog 16 #[x, .int .i64 y] w fun e w' => ∃ qa qc, e = .returned (.tuple #[.slice qa (bfA Bg R y).length qc, .bool (bfB Bg y)]) ∧ OwnH w.heap.size w' (.slice qa (bfA Bg R y).length qc) (bfA Bg R y) ∧ Below w.heap.size w w' := by
  have HR := implRows x R Bg hB w h hl hs
  have HS := hid h
  have HB := hid hB
  obtain ⟨I, hI⟩ : ∃ I, I = decide (1 ≤ y ∧ y ≤ 10) := ⟨_, rfl⟩
  have HIN := fun W => implMany y I hI W
  obtain ⟨A, hA⟩ : ∃ A, A = bfA Bg R y := ⟨_, rfl⟩
  obtain ⟨C, hC⟩ : ∃ C, C = bfB Bg y := ⟨_, rfl⟩
  rw [← hA, ← hC]
  have HA := hid hA
  have HC := hid hC
  unfold bfA at HA
  unfold bfB at HA HC
  rw [← hI] at HA HC
  have HI := hid hI
  obtain ⟨xa, xc, rfl⟩ := h.slice
  clear h hB hA hC hI
  cases Bg with
  | false =>
    have HAF : Hid (A = []) := by show _ = _; rw [HA.out]; simp
    have HCF : Hid (C = false) := by show _ = _; rw [HC.out]; simp
    go_enter Try.func16, Try.ntmps16
    go_wp2_with fail
    refine HR.mono ?_
    rintro e w1 ⟨rfl, hb1⟩
    have HK := hid hb1
    clear HR hb1
    go_wp2
    go_returns
    refine ⟨none, 0, ?_, ?_, HK.out⟩
    · rw [HAF.out, HCF.out]; rfl
    · rw [HAF.out]; exact OwnH.nil _ _
  | true =>
    have hg := HB.out.1 rfl
    cases I with
    | false =>
      have HAF : Hid (A = []) := by show _ = _; rw [HA.out]; simp
      have HCF : Hid (C = false) := by show _ = _; rw [HC.out]; simp
      clear hg
      go_enter Try.func16, Try.ntmps16
      go_wp2_with fail
      refine HR.mono ?_
      rintro e w1 ⟨rfl, hb1⟩
      have HK := hid hb1
      clear HR hb1
      go_wp2_with fail
      refine (HIN _).mono ?_
      rintro e w2 ⟨rfl, hw2⟩
      subst w2
      go_wp2
      go_returns
      refine ⟨none, 0, ?_, ?_, HK.out⟩
      · rw [HAF.out, HCF.out]; rfl
      · rw [HAF.out]; exact OwnH.nil _ _
    | true =>
      have hyy := of_decide_eq_true HI.out.symm
      obtain ⟨m, hm⟩ : ∃ m : Nat, y = (m : Int) := ⟨y.toNat, by omega⟩
      subst hm
      have hmb : 1 ≤ m ∧ m ≤ 10 := by omega
      have HAT : Hid (A = popsL (thrL R 20) m) := by show _ = _; rw [HA.out, best_pops R (fun r hr => (hg.2 r hr).1)]; simp
      have HCT : Hid (C = true) := by show _ = _; rw [HC.out]; simp
      have HG := hid hg.2
      have hR4 := hg.1.2
      clear hyy hg
      go_enter Try.func16, Try.ntmps16
      go_wp2_with fail
      refine HR.mono ?_
      rintro e w1 ⟨rfl, hb1⟩
      have HK := hid hb1
      clear HR hb1
      go_wp2_with fail
      refine (HIN _).mono ?_
      rintro e w2 ⟨rfl, hw2⟩
      subst w2
      go_wp2
      go_loopw [6, 16] (fun hv i wr => ∃ (k : Nat) (L : List Sc) (a c : _), k ≤ 20 ∧ i = .int .i64 k ∧ hv = .slice a L.length c ∧ L.length ≤ 4 * k ∧ Hid (L = thrL R k) ∧ Hid (OwnH w.heap.size wr (.slice a L.length c) L) ∧ Hid (Below w.heap.size w wr)) (fun _ i _ => 20 - (intOf i).toNat)
      case atStart => exact ⟨0, [], none, 0, Nat.zero_le _, rfl, rfl, by simp, rfl, OwnH.nil _ _, HK.out⟩
      case round =>
        obtain ⟨k, L, a, c, hk, rfl, rfl, hLl, HE, HL, HKR⟩ := hrel
        clear HK
        have hkw : w.heap.size ≤ wr.heap.size := HKR.out.size
        by_cases hlt : k < 20
        · have hki : (k : Int) < 20 := by omega
          have HLO := implLook w.heap.size (.slice xa R.length xc) R k (.slice a L.length c) L w wr HS.out.at HKR.out (Nat.le_refl _) hkw HG.out hR4 (by omega) HL.out (by omega)
          have HN : Hid (lookL R k L R = thrL R (k + 1)) := by show _ = _; rw [HE.out]; rfl
          generalize lookL R k L R = Q at *
          go_wp2_with fail
          refine HLO.mono ?_
          rintro e w3 ⟨ra, rc, rfl, ho3, hl3, hb3⟩
          have HO3 := hid ho3
          have HK3 := hid (HKR.out.trans hb3)
          clear ho3 hb3 HLO HL HKR
          go_wp2
          refine ⟨?_, by simp [intOf]; omega⟩
          exact ⟨k + 1, Q, _, _, by omega, by go_num, rfl, by omega, HN.out, HO3.out, HK3.out⟩
        · have hki : ¬ (k : Int) < 20 := by omega
          have hk20 : k = 20 := by omega
          have HBO := implBestOf (.slice a L.length c) L m wr HL.out.rd (by omega) (by omega)
          have HN : Hid (A = popsL L m) := by show _ = _; rw [HAT.out, HE.out, hk20]
          generalize popsL L m = P at *
          go_wp2_with fail
          refine HBO.mono ?_
          rintro e w3 ⟨ra, rc, rfl, ho3, hb3⟩
          have HO3 := hid (ho3.mono hkw)
          have HK3 := hid (HKR.out.trans (hb3.mono hkw))
          clear ho3 hb3 HBO HL HKR
          go_wp2
          go_returns
          refine ⟨ra, rc, ?_, ?_, HK3.out⟩
          · rw [HN.out, HCT.out]; rfl
          · rw [HN.out]; exact HO3.out
theorem stop_pops {R : List (List Sc)} {m n : Nat} (hm : 1 ≤ m) : (bnd R n = 0 ∨ ((popsL (thrL R n) m).length = m ∧ bnd R n < (gd (popsL (thrL R n) m) (m - 1)).2)) ↔ Stop R m n := by
  rw [thr_pops]
  unfold Stop
  have h1 : ((thrS R n).take m).length = m ↔ m ≤ (thrS R n).length := by simp; omega
  rw [h1, gd_take _ _ _ (by omega)]
/-- What Threshold answers. -/
def ThrP (C : Bool) (R : List (List Sc)) (y : Int) (A : List Sc) (N : Nat) : Prop :=
  (C = false → A = [] ∧ N = 0) ∧ (C = true → N ≤ 20 ∧ Stop R y.toNat N ∧ (∀ n, n < N → ¬ Stop R y.toNat n) ∧ A = (thrS R N).take y.toNat)
theorem thr_ex {Bg : Bool} {R : List (List Sc)} (hB : Bg = true ↔ GoodRs R) (y : Int) : ∃ A N, ThrP (bfB Bg y) R y A N ∧ A.length ≤ 10 ∧ N ≤ 20 := by
  cases hb : bfB Bg y with
  | false => exact ⟨[], 0, ⟨fun _ => ⟨rfl, rfl⟩, fun h => (by cases h)⟩, by simp, by omega⟩
  | true =>
    simp [bfB] at hb
    obtain ⟨N, h1, h2, h3⟩ := stop_ex (hB.1 hb.1).2 y.toNat
    exact ⟨_, N, ⟨fun h => (by cases h), fun _ => ⟨h1, h2, h3, rfl⟩⟩, by simp; omega, h1⟩
set_option maxHeartbeats 6400000 in
set_option maxRecDepth 100000 in
theorem implThr (x : Value) (R : List (List Sc)) (y : Int) (Bg : Bool) (hB : Bg = true ↔ GoodRs R) (A : List Sc) (N : Nat) (hT : ThrP (bfB Bg y) R y A N) (w : World) (h : RdR w x R) (hl : R.length ≤ 1048576) (hs : ∀ r ∈ R, r.length ≤ 1048576) :
    Calls Try.prog 14 #[x, .int .i64 y] w fun e w' => ∃ qa qc, e = .returned (.tuple #[.slice qa A.length qc, .int .i64 (N : Nat), .bool (bfB Bg y)]) ∧ OwnH w.heap.size w' (.slice qa A.length qc) A ∧ Below w.heap.size w w' := by
  have HR := implRows x R Bg hB w h hl hs
  have HS := hid h
  have HB := hid hB
  obtain ⟨I, hI⟩ : ∃ I, I = decide (1 ≤ y ∧ y ≤ 10) := ⟨_, rfl⟩
  have HIN := fun W => implMany y I hI W
  have HC0 : bfB Bg y = (Bg && I) := by rw [hI]; rfl
  rw [HC0] at hT ⊢
  have HT := hid hT
  have HI := hid hI
  obtain ⟨xa, xc, rfl⟩ := h.slice
  clear h hB hI hT HC0
  cases Bg with
  | false =>
    have HAF : Hid (A = [] ∧ N = 0) := HT.out.1 rfl
    go_enter Try.func14, Try.ntmps14
    go_wp2_with fail
    refine HR.mono ?_
    rintro e w1 ⟨rfl, hb1⟩
    have HK := hid hb1
    clear HR hb1
    go_wp2
    go_returns
    refine ⟨none, 0, ?_, ?_, HK.out⟩
    · rw [HAF.out.1, HAF.out.2]; rfl
    · rw [HAF.out.1]; exact OwnH.nil _ _
  | true =>
    have hg := HB.out.1 rfl
    cases I with
    | false =>
      have HAF : Hid (A = [] ∧ N = 0) := HT.out.1 rfl
      clear hg
      go_enter Try.func14, Try.ntmps14
      go_wp2_with fail
      refine HR.mono ?_
      rintro e w1 ⟨rfl, hb1⟩
      have HK := hid hb1
      clear HR hb1
      go_wp2_with fail
      refine (HIN _).mono ?_
      rintro e w2 ⟨rfl, hw2⟩
      subst w2
      go_wp2
      go_returns
      refine ⟨none, 0, ?_, ?_, HK.out⟩
      · rw [HAF.out.1, HAF.out.2]; rfl
      · rw [HAF.out.1]; exact OwnH.nil _ _
    | true =>
      have hyy := of_decide_eq_true HI.out.symm
      obtain ⟨m, hm⟩ : ∃ m : Nat, y = (m : Int) := ⟨y.toNat, by omega⟩
      subst hm
      have hmb : 1 ≤ m ∧ m ≤ 10 := by omega
      have HTT : Hid (N ≤ 20 ∧ Stop R m N ∧ (∀ n, n < N → ¬ Stop R m n) ∧ A = (thrS R N).take m) := HT.out.2 rfl
      have hN20 := HTT.out.1
      have HG := hid hg.2
      have hR4 := hg.1.2
      clear hyy hg HT
      go_enter Try.func14, Try.ntmps14
      go_wp2_with fail
      refine HR.mono ?_
      rintro e w1 ⟨rfl, hb1⟩
      have HK := hid hb1
      clear HR hb1
      go_wp2_with fail
      refine (HIN _).mono ?_
      rintro e w2 ⟨rfl, hw2⟩
      subst w2
      go_wp2
      go_loopw [7, 8] (fun hv i wr => ∃ (k : Nat) (L : List Sc) (a c : _), k ≤ N ∧ i = .int .i64 k ∧ hv = .slice a L.length c ∧ L.length ≤ 4 * k ∧ Hid (L = thrL R k) ∧ Hid (OwnH w.heap.size wr (.slice a L.length c) L) ∧ Hid (Below w.heap.size w wr)) (fun _ i _ => N - (intOf i).toNat)
      case atStart => exact ⟨0, [], none, 0, Nat.zero_le _, rfl, rfl, by simp, rfl, OwnH.nil _ _, HK.out⟩
      case round =>
        obtain ⟨k, L, a, c, hk, rfl, rfl, hLl, HE, HL, HKR⟩ := hrel
        clear HK
        have hkw : w.heap.size ≤ wr.heap.size := HKR.out.size
        have HBD := fun W hW => implBound (.slice xa R.length xc) R k W hW HG.out hR4 (by omega)
        obtain ⟨G, hG⟩ := bool_of (Stop R m k)
        have hG2 : G = true ↔ bnd R k = 0 ∨ ((popsL L m).length = m ∧ bnd R k < (gd (popsL L m) (m - 1)).2) := by rw [hG, HE.out]; exact (stop_pops hmb.1).symm
        have HMS := fun W hW => implMay (.slice a L.length c) L m (bnd R k) G hG2 W hW (by omega) (by omega) hmb.1
        have HGG := hid hG
        generalize bnd R k = z at *
        clear hG hG2
        go_wp2_with fail
        refine (HBD _ (HS.out.at.below HKR.out)).mono ?_
        rintro e w3 ⟨rfl, hb3⟩
        have HL3 := hid (HL.out.below hb3)
        have HK3 := hid (HKR.out.trans (hb3.mono hkw))
        have hkw3 : w.heap.size ≤ w3.heap.size := HK3.out.size
        clear hb3 HL HKR HBD
        go_wp2_with fail
        refine (HMS _ HL3.out.rd).mono ?_
        rintro e w4 ⟨rfl, hb4⟩
        have HL4 := hid (HL3.out.below hb4)
        have HK4 := hid (HK3.out.trans (hb4.mono hkw3))
        have hkw4 : w.heap.size ≤ w4.heap.size := HK4.out.size
        clear hb4 HL3 HK3 HMS
        cases G with
        | false =>
          have hkN : k < N := by
            rcases Nat.lt_or_ge k N with h | h
            · exact h
            · have he : k = N := by omega
              have := HGG.out.2 (by rw [he]; exact HTT.out.2.1)
              cases this
          have HLO := implLook w.heap.size (.slice xa R.length xc) R k (.slice a L.length c) L w w4 HS.out.at HK4.out (Nat.le_refl _) hkw4 HG.out hR4 (by omega) HL4.out (by omega)
          have HN : Hid (lookL R k L R = thrL R (k + 1)) := by show _ = _; rw [HE.out]; rfl
          generalize lookL R k L R = Q at *
          go_wp2_with fail
          refine HLO.mono ?_
          rintro e w5 ⟨ra, rc, rfl, ho5, hl5, hb5⟩
          have HO5 := hid ho5
          have HK5 := hid (HK4.out.trans hb5)
          clear ho5 hb5 HLO HL4 HK4
          go_wp2
          refine ⟨?_, by simp [intOf]; omega⟩
          exact ⟨k + 1, Q, _, _, by omega, by go_num, rfl, by omega, HN.out, HO5.out, HK5.out⟩
        | true =>
          have hkN : k = N := by
            rcases Nat.lt_or_ge k N with h | h
            · exact absurd (HGG.out.1 rfl) (HTT.out.2.2.1 k h)
            · omega
          have HBO := implBestOf (.slice a L.length c) L m w4 HL4.out.rd (by omega) (by omega)
          have HN : Hid (A = popsL L m) := by show _ = _; rw [HTT.out.2.2.2, HE.out, thr_pops, hkN]
          have HKN := hid hkN
          clear hkN
          generalize popsL L m = P at *
          go_wp2_with fail
          refine HBO.mono ?_
          rintro e w5 ⟨ra, rc, rfl, ho5, hb5⟩
          have HO5 := hid (ho5.mono hkw4)
          have HK5 := hid (HK4.out.trans (hb5.mono hkw4))
          clear ho5 hb5 HBO HL4 HK4
          go_wp2
          go_returns
          refine ⟨ra, rc, ?_, ?_, HK5.out⟩
          · rw [HN.out, HKN.out]; rfl
          · rw [HN.out]; exact HO5.out
end Go.Proofs.Ythdodlbhkpoadaa
