/- Contract of the model's NearIn. Condition: the documents lie in memory. -/
import Derived.Test.YtkkmnegmghllpaaNearI
namespace Go.Proofs.Ytkkmnegmghllpaa
open Go.ChangeShapes Go.WideShapes Go.ChangeAt Go.RowKit Go.Deep
set_option linter.unusedVariables false
attribute [local go_sem ↓] Go.wp_at_zero Go.wp_at_succ

def CN (L : List ByteArray) (a b : ByteArray) (y : Int) (i k : Nat) : Prop := L.getD i ByteArray.empty = a ∧ L.getD k ByteArray.empty = b ∧ nrP (i : Int) (k : Int) y
def CU (L : List ByteArray) (a b : ByteArray) (y : Int) (I K : Nat) : Prop := ∃ i k, i < L.length ∧ k < L.length ∧ CN L a b y i k ∧ (i < I ∨ (i = I ∧ k < K))
theorem cu_zero (L : List ByteArray) (a b : ByteArray) (y : Int) : ¬ CU L a b y 0 0 := fun ⟨i, k, _, _, _, h⟩ => by omega
theorem cu_row {L : List ByteArray} {a b : ByteArray} {y : Int} {I : Nat} : CU L a b y I L.length ↔ CU L a b y (I + 1) 0 := by
  constructor
  · rintro ⟨i, k, h1, h2, h3, h4⟩
    exact ⟨i, k, h1, h2, h3, by omega⟩
  · rintro ⟨i, k, h1, h2, h3, h4⟩
    exact ⟨i, k, h1, h2, h3, by omega⟩
theorem cu_step {L : List ByteArray} {a b : ByteArray} {y : Int} {I K : Nat} (hI : I < L.length) (hK : K < L.length) : CU L a b y I (K + 1) ↔ CU L a b y I K ∨ CN L a b y I K := by
  constructor
  · rintro ⟨i, k, h1, h2, h3, h4⟩
    by_cases e : i = I ∧ k = K
    · obtain ⟨rfl, rfl⟩ := e; exact .inr h3
    · exact .inl ⟨i, k, h1, h2, h3, by omega⟩
  · rintro (⟨i, k, h1, h2, h3, h4⟩ | h)
    · exact ⟨i, k, h1, h2, h3, by omega⟩
    · exact ⟨I, K, hI, hK, h, by omega⟩
theorem cu_end {L : List ByteArray} {a b : ByteArray} {y : Int} : CU L a b y L.length 0 ↔ NrL (plK L a L.length) (plK L b L.length) y := by
  constructor
  · rintro ⟨i, k, h1, h2, ⟨e1, e2, h3⟩, _⟩
    exact ⟨(i : Int), (plK_mem L a L.length i).2 ⟨h1, e1⟩, (k : Int), (plK_mem L b L.length k).2 ⟨h2, e2⟩, h3⟩
  · rintro ⟨n, hn, m, hm, h⟩
    have b1 := plK_bd L a L.length n hn
    have b2 := plK_bd L b L.length m hm
    obtain ⟨i, rfl⟩ : ∃ i : Nat, n = (i : Int) := ⟨n.toNat, by omega⟩
    obtain ⟨k, rfl⟩ : ∃ k : Nat, m = (k : Int) := ⟨m.toNat, by omega⟩
    have c1 := (plK_mem L a L.length i).1 hn
    have c2 := (plK_mem L b L.length k).1 hm
    exact ⟨i, k, c1.1, c2.1, ⟨c1.2, c2.2, h⟩, by omega⟩
set_option maxHeartbeats 25600000 in
set_option maxRecDepth 100000 in
theorem specNearIn (x : Value) (ds : List ByteArray) (a b : ByteArray) (y : Int) (A : List Int) (hA : NeIs ds a b y A) (w : World) (hx : StrsAt w x ds) (hl : ds.length ≤ 1048576) (hs : ∀ s ∈ ds, s.size ≤ 1048576) (ha : a.size ≤ 1048576) (hb : b.size ≤ 1048576) :
    Calls Try.prog 33 #[x, .string a, .string b, .int .i64 y] w fun e w' => (∃ v, e = .returned (.tuple #[v, .bool (neB ds a b y)]) ∧ OwnS w' w.heap.size 3 v A.length (intsV A)) ∧ Below w.heap.size w w' := by
  obtain ⟨i0, hi, hzz⟩ := Option.map_eq_some_iff.1 infoIn2
  simp only [Prod.mk.injEq] at hzz
  obtain ⟨hz0, hz1, hz2⟩ := hzz
  have HX := hid hx
  have HAA := hid hA
  have HDC := fun W h => specDocs x ds W h hl hs
  have HWA := fun W => specWord a ha W
  have HWB := fun W => specWord b hb W
  have HIN := fun W => l1InB y 1 20 W
  obtain ⟨xa, xc, hxe⟩ := hx.slice
  subst hxe
  have HNO : Hid (neB ds a b y = false → A = []) := fun h => by
    rcases hA with ⟨h1, _⟩ | ⟨_, h1⟩
    · rw [h] at h1; cases h1
    · exact h1
  clear hx hl hs ha hb hA
  by_cases hd : docsB ds = true
  · rw [hd] at HDC
    by_cases hwa : wdB a = true
    · rw [hwa] at HWA
      by_cases hwb : wdB b = true
      · rw [hwb] at HWB
        by_cases hy : 1 ≤ y ∧ y ≤ 20
        · rw [decide_eq_true hy] at HIN
          have HB : Hid (neB ds a b y = true) := by show _ = _; unfold neB; rw [hd, hwa, hwb, decide_eq_true hy]; rfl
          have HNR : Hid (NrIs ds a b y ds.length A) := by
            rcases HAA.out with ⟨_, h1⟩ | ⟨h1, _⟩
            · exact h1
            · rw [HB.out] at h1; cases h1
          obtain ⟨hd12, hdd⟩ := docs_yes hd
          have HDD := hid hdd
          clear hd hwa hwb hy hdd HAA HNO
          go_enter Try.func33, Try.ntmps33
          go_wp2_with fail
          refine (HDC _ HX.out).mono ?_
          rintro e w1 ⟨rfl, hb1⟩
          go_wp2_with fail
          refine (HWA _).mono ?_
          rintro e w9 ⟨rfl, hw9⟩
          subst w9
          go_wp2_with fail
          refine (HWB _).mono ?_
          rintro e w9 ⟨rfl, hw9⟩
          subst w9
          go_wp2_with fail
          refine (HIN _).mono ?_
          rintro e w9 ⟨rfl, hw9⟩
          subst w9
          clear HDC HWA HWB HIN
          go_wp2_with fail
          go_loopw [10, 39] (fun o i wr => ∃ (k : Nat) (l : List Int), k ≤ ds.length ∧ i = .int .i64 k ∧ Hid (NrIs ds a b y k l) ∧ l.length ≤ k ∧ Hid (OwnS wr w.heap.size 3 o l.length (intsV l)) ∧ Below w.heap.size w wr) (fun _ i _ => ds.length - (intOf i).toNat)
          case atStart => exact ⟨0, [], Nat.zero_le _, rfl, .zero, by simp, OwnS.nil _ _ _, hb1⟩
          case round =>
            obtain ⟨k, l, hk, rfl, hNr, hll, hO, kb⟩ := hrel
            have kl := kb.size
            obtain ⟨oa, oc, hoe⟩ := (rows_of_ownS hO.out).slice
            subst hoe
            by_cases hlt : k < ds.length
            · obtain ⟨g, off, cap, hve, hgl, hc⟩ := (HX.out.below kb).cellS hlt
              cases hve
              have hki : (k : Int) < (ds.length : Int) := by omega
              have hk0 : (0 : Int) ≤ (k : Int) := by omega
              obtain ⟨hdz, hdw⟩ := doc_yes (HDD.out k hlt)
              have HW := fun W => specWords (ds.getD k ByteArray.empty) (by omega) W
              obtain ⟨L, hL⟩ : ∃ L, L = docAt ds k := ⟨_, rfl⟩
              have hL2 : wordsL (ds.getD k ByteArray.empty) = L := by rw [hL]; rfl
              have HYES : Hid (NrL (plK L a L.length) (plK L b L.length) y → NrIs ds a b y (k + 1) (l ++ [(k : Int)])) := fun h => .yes hNr.out (by unfold NrD; rw [← hL]; exact h)
              have HNOO : Hid (¬ NrL (plK L a L.length) (plK L b L.length) y → NrIs ds a b y (k + 1) l) := fun h => .no hNr.out (by unfold NrD; rw [← hL]; exact h)
              rw [hL2] at HW hdw
              clear hL hL2 hdz hNr
              generalize ds.getD k ByteArray.empty = txt at *
              go_wp2_with fail
              refine (HW _).mono ?_
              rintro e w2 ⟨v, rfl, how, hb2⟩
              have k2 : Below w.heap.size w w2 := kb.trans (hb2.mono kl)
              have HO2 := hid (hO.out.below hb2)
              have HWS := hid (OwnA.ofStrs how).1.strs
              obtain ⟨va, vc, hve⟩ := (rows_of_ownS how).slice
              subst hve
              clear hb2 how HW hc hgl hO
              go_wp2_with fail
              go_loopw [14, 48] (fun nv i wr => ∃ (i' : Nat) (Bn : Bool), i' ≤ L.length ∧ i = .int .i64 i' ∧ nv = .bool Bn ∧ Hid (Bn = true ↔ CU L a b y i' 0) ∧ wr = w2) (fun _ i _ => L.length - (intOf i).toNat)
              case atStart => exact ⟨0, false, Nat.zero_le _, rfl, rfl, ⟨fun h => (by cases h), fun h => absurd h (cu_zero L a b y)⟩, rfl⟩
              case round =>
                obtain ⟨i, Bn0, hil, rfl, rfl, hCU, hw⟩ := hrel
                subst wr
                by_cases hit : i < L.length
                · obtain ⟨g2, off2, cap2, hve, hgl2, hc2⟩ := HWS.out.cellS hit
                  cases hve
                  have hii : (i : Int) < (L.length : Int) := by omega
                  have hi0 : (0 : Int) ≤ (i : Int) := by omega
                  have hsa := sEq (L.getD i ByteArray.empty) a
                  obtain ⟨ti, hti⟩ : ∃ t, t = L.getD i ByteArray.empty := ⟨_, rfl⟩
                  have HTI := hid hti
                  rw [← hti] at hc2 hsa
                  clear hti
                  go_wp2_with fail
                  go_loopw [14, 55] (fun nv j wr => ∃ (j' : Nat) (Bn : Bool), j' ≤ L.length ∧ j = .int .i64 j' ∧ nv = .bool Bn ∧ Hid (Bn = true ↔ CU L a b y i j') ∧ wr = w2) (fun _ j _ => L.length - (intOf j).toNat)
                  case atStart => exact ⟨0, Bn0, Nat.zero_le _, rfl, rfl, hCU.out, rfl⟩
                  case round =>
                    obtain ⟨j, Bn, hjl, rfl, rfl, hCU2, hw⟩ := hrel
                    subst wr
                    by_cases hjt : j < L.length
                    · obtain ⟨g3, off3, cap3, hve, hgl3, hc3⟩ := HWS.out.cellS hjt
                      simp only [Value.slice.injEq, Option.some.injEq, Addr.mk.injEq, and_true, true_and] at hve
                      obtain ⟨⟨rfl, rfl⟩, hcc⟩ := hve
                      clear hcc
                      have hji : (j : Int) < (L.length : Int) := by omega
                      have hj0 : (0 : Int) ≤ (j : Int) := by omega
                      have hsb := sEq (L.getD j ByteArray.empty) b
                      have HNO : Hid (¬ (ti = a ∧ L.getD j ByteArray.empty = b ∧ nrP (i : Int) (j : Int) y) → (Bn = true ↔ CU L a b y i (j + 1))) := fun h => by
                        rw [cu_step hit hjt, hCU2.out]
                        exact ⟨fun h1 => .inl h1, fun h1 => h1.elim id (fun h2 => absurd (by unfold CN at h2; rw [← HTI.out] at h2; exact h2) h)⟩
                      have HYS : Hid ((ti = a ∧ L.getD j ByteArray.empty = b ∧ nrP (i : Int) (j : Int) y) → (true = true ↔ CU L a b y i (j + 1))) := fun h => by
                        rw [cu_step hit hjt]
                        exact ⟨fun _ => .inr (by unfold CN; rw [← HTI.out]; exact h), fun _ => rfl⟩
                      have hw1 : IntKind.i64.wrap ((i : Int) - (j : Int)) = (i : Int) - (j : Int) := by rw [IntKind.wrap_i64]; omega
                      have hw2 : IntKind.i64.wrap ((j : Int) - (i : Int)) = (j : Int) - (i : Int) := by rw [IntKind.wrap_i64]; omega
                      clear hCU2
                      generalize L.getD j ByteArray.empty = tj at *
                      by_cases h1 : ti = a
                      · rw [decide_eq_true h1] at hsa
                        by_cases h2 : tj = b
                        · rw [decide_eq_true h2] at hsb
                          by_cases h3 : (i : Int) = (j : Int)
                          · have i1 : ((i : Int) != (j : Int)) = false := by simp only [bne_eq_false_iff_eq]; exact h3
                            have HS := hid (HNO.out (fun h => h.2.2.1 h3))
                            clear HNO HYS h1 h2 h3
                            go_wp2_with fail
                            exact ⟨⟨j + 1, Bn, by omega, by go_num, rfl, HS, by first | rfl | trivial⟩, by simp [intOf]; omega⟩
                          · have i1 : ((i : Int) != (j : Int)) = true := by simp only [bne_iff_ne, ne_eq]; exact h3
                            by_cases h4 : (i : Int) - (j : Int) ≤ y
                            · have i2 : decide ((i : Int) - (j : Int) ≤ y) = true := decide_eq_true h4
                              by_cases h5 : (j : Int) - (i : Int) ≤ y
                              · have i3 : decide ((j : Int) - (i : Int) ≤ y) = true := decide_eq_true h5
                                have HS := hid (HYS.out ⟨h1, h2, h3, h4, h5⟩)
                                clear HNO HYS h1 h2 h3 h4 h5
                                go_wp2_with fail
                                exact ⟨⟨j + 1, true, by omega, by go_num, rfl, HS, by first | rfl | trivial⟩, by simp [intOf]; omega⟩
                              · have i3 : decide ((j : Int) - (i : Int) ≤ y) = false := decide_eq_false h5
                                have HS := hid (HNO.out (fun h => h5 h.2.2.2.2))
                                clear HNO HYS h1 h2 h3 h4 h5
                                go_wp2_with fail
                                exact ⟨⟨j + 1, Bn, by omega, by go_num, rfl, HS, by first | rfl | trivial⟩, by simp [intOf]; omega⟩
                            · have i2 : decide ((i : Int) - (j : Int) ≤ y) = false := decide_eq_false h4
                              have HS := hid (HNO.out (fun h => h4 h.2.2.2.1))
                              clear HNO HYS h1 h2 h3 h4
                              go_wp2_with fail
                              exact ⟨⟨j + 1, Bn, by omega, by go_num, rfl, HS, by first | rfl | trivial⟩, by simp [intOf]; omega⟩
                        · rw [decide_eq_false h2] at hsb
                          have HS := hid (HNO.out (fun h => h2 h.2.1))
                          clear HNO HYS h1 h2
                          go_wp2_with fail
                          exact ⟨⟨j + 1, Bn, by omega, by go_num, rfl, HS, by first | rfl | trivial⟩, by simp [intOf]; omega⟩
                      · rw [decide_eq_false h1] at hsa
                        have HS := hid (HNO.out (fun h => h1 h.1))
                        clear HNO HYS h1
                        go_wp2_with fail
                        exact ⟨⟨j + 1, Bn, by omega, by go_num, rfl, HS, by first | rfl | trivial⟩, by simp [intOf]; omega⟩
                    · have hje : j = L.length := by omega
                      have hji : ¬ (j : Int) < (L.length : Int) := by omega
                      have HS : Hid (Bn = true ↔ CU L a b y (i + 1) 0) := by
                        have h9 := hCU2.out
                        rw [hje] at h9
                        exact h9.trans cu_row
                      clear hCU2
                      go_wp2_with fail
                      exact ⟨⟨i + 1, Bn, by omega, by go_num, rfl, HS, by first | rfl | trivial⟩, by simp [intOf]; omega⟩
                · have hie : i = L.length := by omega
                  have hii : ¬ (i : Int) < (L.length : Int) := by omega
                  have HE : Hid (Bn0 = true ↔ NrL (plK L a L.length) (plK L b L.length) y) := by
                    have h9 := hCU.out
                    rw [hie] at h9
                    exact h9.trans cu_end
                  have kl2 := k2.size
                  clear hCU
                  cases Bn0 with
                  | false =>
                    have HS := hid (HNOO.out (fun h => by have := HE.out.2 h; cases this))
                    clear HYES HNOO
                    go_wp2_with fail
                    refine ⟨?_, by simp [intOf]; omega⟩
                    first | exact ⟨k + 1, l, by omega, by go_num, HS, by omega, HO2, k2⟩ | ((repeat apply Exists.intro); exact ⟨⟨k + 1, l, by omega, by go_num, HS, by omega, HO2, k2⟩, rfl⟩)
                  | true =>
                    have HS := hid (HYES.out (HE.out.1 rfl))
                    have how := HO2.out
                    clear HYES HNOO
                    go_wp2_with (first | (at_builtin; refine wplS rfl _ _ 37 rfl w.heap.size 3 i0 (.int .i64 0) 8 Try.underlying37 hi hz0 hz1 hz2 rfl _ _ _ rfl (how.alloc _) _ 1 [.int .i64 (k : Int)] rfl (news1 _ _ _) ?c1 ?c2 ?c3 ?c4 ?_) | fail)
                    case c1 => first | rfl | (intro u hu; simp at hu; subst hu; rfl)
                    case c2 => unfold maxLen; omega
                    case c3 => omega
                    case c4 => first | omega | (simp; omega)
                    intro xx w5 ho1 hg1 he1
                    obtain ⟨va2, vc2, hve⟩ := (rows_of_ownS ho1).slice
                    subst hve
                    have HO5 : Hid (OwnS w5 w.heap.size 3 (.slice va2 (l.length + 1) vc2) (l ++ [(k : Int)]).length (intsV (l ++ [(k : Int)]))) := by
                      show OwnS _ _ _ _ _ _
                      simpa [intsV] using ho1
                    have HK5 : Below w.heap.size w w5 := (k2.alloc k2.size _).trans (below_own (how.alloc _) (Nat.le_refl _) hg1 (by simp; omega))
                    clear ho1 hg1 he1 how
                    go_wp2_with fail
                    refine ⟨?_, by simp [intOf]; omega⟩
                    first | exact ⟨k + 1, l ++ [(k : Int)], by omega, by go_num, HS, by simp; omega, HO5, HK5⟩ | ((repeat apply Exists.intro); exact ⟨⟨k + 1, l ++ [(k : Int)], by omega, by go_num, HS, by simp; omega, HO5, HK5⟩, rfl⟩)
            · have hke : k = ds.length := by omega
              subst hke
              have hki : ¬ (ds.length : Int) < (ds.length : Int) := by omega
              have HLE : Hid (l = A) := hNr.out.uniq HNR.out
              go_wp2_with fail
              go_returns
              exact ⟨⟨_, by rw [HB.out]; rfl, by rw [← HLE.out]; exact hO.out⟩, kb⟩
        · rw [decide_eq_false hy] at HIN
          have HB : Hid (neB ds a b y = false) := by show _ = _; unfold neB; rw [decide_eq_false hy, Bool.and_false]
          clear hy
          go_enter Try.func33, Try.ntmps33
          go_wp2_with fail
          refine (HDC _ HX.out).mono ?_
          rintro e w1 ⟨rfl, hb1⟩
          go_wp2_with fail
          refine (HWA _).mono ?_
          rintro e w9 ⟨rfl, hw9⟩
          subst w9
          go_wp2_with fail
          refine (HWB _).mono ?_
          rintro e w9 ⟨rfl, hw9⟩
          subst w9
          go_wp2_with fail
          refine (HIN _).mono ?_
          rintro e w9 ⟨rfl, hw9⟩
          subst w9
          go_wp2_with fail
          go_returns
          exact ⟨⟨_, by rw [HB.out]; rfl, by rw [HNO.out HB.out]; exact OwnS.nil _ _ _⟩, hb1⟩
      · rw [Bool.not_eq_true] at hwb
        rw [hwb] at HWB
        have HB : Hid (neB ds a b y = false) := by show _ = _; unfold neB; rw [hwb]; simp
        clear hwb
        go_enter Try.func33, Try.ntmps33
        go_wp2_with fail
        refine (HDC _ HX.out).mono ?_
        rintro e w1 ⟨rfl, hb1⟩
        go_wp2_with fail
        refine (HWA _).mono ?_
        rintro e w9 ⟨rfl, hw9⟩
        subst w9
        go_wp2_with fail
        refine (HWB _).mono ?_
        rintro e w9 ⟨rfl, hw9⟩
        subst w9
        go_wp2_with fail
        go_returns
        exact ⟨⟨_, by rw [HB.out]; rfl, by rw [HNO.out HB.out]; exact OwnS.nil _ _ _⟩, hb1⟩
    · rw [Bool.not_eq_true] at hwa
      rw [hwa] at HWA
      have HB : Hid (neB ds a b y = false) := by show _ = _; unfold neB; rw [hwa]; simp
      clear hwa
      go_enter Try.func33, Try.ntmps33
      go_wp2_with fail
      refine (HDC _ HX.out).mono ?_
      rintro e w1 ⟨rfl, hb1⟩
      go_wp2_with fail
      refine (HWA _).mono ?_
      rintro e w9 ⟨rfl, hw9⟩
      subst w9
      go_wp2_with fail
      go_returns
      exact ⟨⟨_, by rw [HB.out]; rfl, by rw [HNO.out HB.out]; exact OwnS.nil _ _ _⟩, hb1⟩
  · rw [Bool.not_eq_true] at hd
    rw [hd] at HDC
    have HB : Hid (neB ds a b y = false) := by show _ = _; unfold neB; rw [hd]; simp
    clear hd
    go_enter Try.func33, Try.ntmps33
    go_wp2_with fail
    refine (HDC _ HX.out).mono ?_
    rintro e w1 ⟨rfl, hb1⟩
    go_wp2_with fail
    go_returns
    exact ⟨⟨_, by rw [HB.out]; rfl, by rw [HNO.out HB.out]; exact OwnS.nil _ _ _⟩, hb1⟩
end Go.Proofs.Ytkkmnegmghllpaa
