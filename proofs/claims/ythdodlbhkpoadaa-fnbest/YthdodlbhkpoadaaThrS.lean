/- BestFew and Threshold: the model. Condition: the rows lie in memory. -/
import Derived.Test.YthdodlbhkpoadaaPutB
import Derived.Test.YthdodlbhkpoadaaBestX
namespace Go.Proofs.Ythdodlbhkpoadaa
open Go.ChangeShapes Go.WideShapes Go.ChangeAt Go.RowKit Go.Deep
set_option linter.unusedVariables false
attribute [local go_sem ↓] Go.wp_at_zero Go.wp_at_succ

theorem specLeast (a b : Nat) (w : World) : Calls Try.prog 80 #[.int .i64 a, .int .i64 b] w fun e w' => e = .returned (.int .i64 (min a b : Nat)) ∧ w' = w := by
  by_cases h : a < b
  · have h1 : min a b = a := by omega
    rw [h1]
    have h2 : (a : Int) < (b : Int) := by omega
    go_enter Try.func80, Try.ntmps80
    go_wp2
    go_ret
    exact ⟨rfl, rfl⟩
  · have h1 : min a b = b := by omega
    rw [h1]
    have h2 : ¬ (a : Int) < (b : Int) := by omega
    go_enter Try.func80, Try.ntmps80
    go_wp2
    go_ret
    exact ⟨rfl, rfl⟩
set_option maxHeartbeats 3200000 in
set_option maxRecDepth 100000 in
theorem specCut (v : Value) (l : List Sc) (m : Nat) (w : World) (h : RdS w v l) (hl : l.length ≤ 1000) :
    Calls Try.prog 59 #[v, .int .i64 m] w fun e w' => ∃ qa qc, e = .returned (.slice qa (l.take m).length qc) ∧ OwnH w.heap.size w' (.slice qa (l.take m).length qc) (l.take m) ∧ Below w.heap.size w w' := by
  obtain ⟨va, vc, rfl⟩ := h.slice
  obtain ⟨K, hK⟩ : ∃ K, K = min m l.length := ⟨_, rfl⟩
  have HLE := fun W => specLeast m l.length W
  rw [← hK] at HLE
  have hKl : K ≤ l.length := by omega
  have hte : l.take m = l.take K := by
    rw [hK]
    rcases Nat.le_total m l.length with h1 | h1
    · rw [Nat.min_eq_left h1]
    · rw [Nat.min_eq_right h1, List.take_length, List.take_of_length_le h1]
  rw [hte]
  have hT : (l.take K).length = K := by simp; omega
  rw [hT]
  have hcap : l.length ≤ vc := by obtain ⟨_, ao, c', he, h3, _⟩ := h; cases he; exact h3
  have HTK := hid (h.take rfl hKl)
  obtain ⟨T, hTe⟩ : ∃ T, T = l.take K := ⟨_, rfl⟩
  rw [← hTe] at HTK hT ⊢
  have HT2 := hid (HTK.out.below (al_ w (.cells #[] 33)))
  have HE := hid (own0 w w.heap.size (Nat.le_refl _))
  have hKi : (K : Int) ≤ (vc : Int) := by omega
  have hK0 : (0 : Int) ≤ (K : Int) := by omega
  have hK1 : K ≤ 1000 := by omega
  clear hTe hte hK h
  go_enter Try.func59, Try.ntmps59
  go_wp2_with fail
  refine (HLE _).mono ?_
  rintro e w1 ⟨rfl, hw1⟩
  subst w1
  clear HLE
  go_wp2_with (first | (at_builtin; refine wplN rfl _ _ 26 Try.underlying26 rfl w.heap.size _ [] 0 rfl HE.out _ T K hT HT2.out (by omega) (al_ _ _).size rfl rfl ?_) | fail)
  intro qa qc w6 ho6 hf6 hg6
  try simp only [Nat.zero_add, List.nil_append] at ho6 hg6 ⊢
  have HO := hid ho6
  have HK : Hid (Below w.heap.size w w6) := (al_ w (.cells #[] 33)).trans (hf6.below (al_ _ _).size (fun q hq => by simp [hbl, Value.ownBlock] at hq; omega))
  clear ho6 hf6 hg6 HE HT2
  go_wp2
  go_returns
  exact ⟨_, _, rfl, HO.out, HK.out⟩
theorem put_len (l : List Sc) (x : Sc) : (putS l x).length ≤ l.length + 1 := by
  unfold putS
  split
  · omega
  · rw [ins_len]; have := posS_le x l; omega
set_option maxHeartbeats 6400000 in
set_option maxRecDepth 100000 in
theorem specBestFew (x : Value) (R : List (List Sc)) (y : Int) (Bg : Bool) (hB : Bg = true ↔ GoodRs R) (w : World) (h : RdR w x R) (hl : R.length ≤ 1048576) (hs : ∀ r ∈ R, r.length ≤ 1048576) :
    Calls Try.prog 17 #[x, .int .i64 y] w fun e w' => ∃ qa qc, e = .returned (.tuple #[.slice qa (bfA Bg R y).length qc, .bool (bfB Bg y)]) ∧ OwnH w.heap.size w' (.slice qa (bfA Bg R y).length qc) (bfA Bg R y) ∧ Below w.heap.size w w' := by
  have HR := specRows x R Bg hB w h hl hs
  have HS := hid h
  have HB := hid hB
  obtain ⟨I, hI⟩ : ∃ I, I = decide (1 ≤ y ∧ y ≤ 10) := ⟨_, rfl⟩
  have HIN := fun W => specIn y 1 10 I hI W
  obtain ⟨A, hA⟩ : ∃ A, A = bfA Bg R y := ⟨_, rfl⟩
  obtain ⟨C, hC⟩ : ∃ C, C = bfB Bg y := ⟨_, rfl⟩
  rw [← hA, ← hC]
  have HA := hid hA
  have HC := hid hC
  unfold bfA at HA
  unfold bfB at HA HC
  rw [← hI] at HA HC
  have HI := hid hI
  obtain ⟨xa, xc, rfl⟩ := h.slice
  clear h hB hA hC hI
  cases Bg with
  | false =>
    have HAF : Hid (A = []) := by show _ = _; rw [HA.out]; simp
    have HCF : Hid (C = false) := by show _ = _; rw [HC.out]; simp
    go_enter Try.func17, Try.ntmps17
    go_wp2_with fail
    refine HR.mono ?_
    rintro e w1 ⟨rfl, hb1⟩
    have HK := hid hb1
    clear HR hb1
    go_wp2
    go_returns
    refine ⟨none, 0, ?_, ?_, HK.out⟩
    · rw [HAF.out, HCF.out]; rfl
    · rw [HAF.out]; exact OwnH.nil _ _
  | true =>
    have hg := HB.out.1 rfl
    cases I with
    | false =>
      have HAF : Hid (A = []) := by show _ = _; rw [HA.out]; simp
      have HCF : Hid (C = false) := by show _ = _; rw [HC.out]; simp
      clear hg
      go_enter Try.func17, Try.ntmps17
      go_wp2_with fail
      refine HR.mono ?_
      rintro e w1 ⟨rfl, hb1⟩
      have HK := hid hb1
      clear HR hb1
      go_wp2_with fail
      refine (HIN _).mono ?_
      rintro e w2 ⟨rfl, hw2⟩
      subst w2
      go_wp2
      go_returns
      refine ⟨none, 0, ?_, ?_, HK.out⟩
      · rw [HAF.out, HCF.out]; rfl
      · rw [HAF.out]; exact OwnH.nil _ _
    | true =>
      have hyy := of_decide_eq_true HI.out.symm
      obtain ⟨m, hm⟩ : ∃ m : Nat, y = (m : Int) := ⟨y.toNat, by omega⟩
      subst hm
      have hmb : 1 ≤ m ∧ m ≤ 10 := by omega
      have HAT : Hid (A = (allS R R).take m) := by show _ = _; rw [HA.out]; simp
      have HCT : Hid (C = true) := by show _ = _; rw [HC.out]; simp
      have HG := hid hg.2
      have hR4 := hg.1.2
      have hR1 := hg.1.1
      clear hyy hg
      rcases HS.out.at with ⟨_, _, _, e⟩ | ⟨b, off, cap, hxe, hb, hcell⟩
      · rw [e] at hR1; simp at hR1
      cases hxe
      have HCE := hid hcell
      clear hcell
      go_enter Try.func17, Try.ntmps17
      go_wp2_with fail
      refine HR.mono ?_
      rintro e w1 ⟨rfl, hb1⟩
      have HK := hid hb1
      clear HR hb1
      go_wp2_with fail
      refine (HIN _).mono ?_
      rintro e w2 ⟨rfl, hw2⟩
      subst w2
      go_wp2
      go_loopw [6, 21] (fun hv i wr => ∃ (k : Nat) (L : List Sc) (a c : _), k ≤ R.length ∧ i = .int .i64 k ∧ hv = .slice a L.length c ∧ L.length ≤ 20 * k ∧ Hid (L = allS R (R.take k)) ∧ Hid (OwnH w.heap.size wr (.slice a L.length c) L) ∧ Hid (Below w.heap.size w wr)) (fun _ i _ => R.length - (intOf i).toNat)
      case atStart => exact ⟨0, [], none, 0, Nat.zero_le _, rfl, rfl, by simp, rfl, OwnH.nil _ _, HK.out⟩
      case round =>
        obtain ⟨k, L, a, c, hk, rfl, rfl, hLl, HE, HL, HKR⟩ := hrel
        clear HK
        have hkw : w.heap.size ≤ wr.heap.size := HKR.out.size
        by_cases hlt : k < R.length
        · obtain ⟨rv, r0, hrs⟩ := HCE.out k hlt
          have hbr : b < wr.heap.size := by omega
          have r1 : wr.cell? ⟨b, off + k, none⟩ = some rv := (HKR.out.cell (p := ⟨b, off + k, none⟩) hb).trans r0
          have hgr := HG.out _ (gR_mem hlt)
          have HSN : Hid (allS R (R.take (k + 1)) = rowS R (allS R (R.take k)) (gR R k)) := by show _ = _; rw [takeR R k hlt, allS_snoc]
          have hki : (k : Int) < (R.length : Int) := by omega
          have hk0 : (0 : Int) ≤ (k : Int) := by omega
          obtain ⟨r, hr⟩ : ∃ r, r = gR R k := ⟨_, rfl⟩
          rw [← hr] at hgr HSN hrs
          have hrl := hgr.1
          have HRS := hid hrs
          obtain ⟨ra, rc, rfl⟩ := hrs.slice
          clear r0 hrs hr hgr
          generalize wr = wo at *
          go_wp2
          go_loopw [6, 27] (fun hv i w2 => ∃ (j : Nat) (Q : List Sc) (a c : _), j ≤ r.length ∧ i = .int .i64 j ∧ hv = .slice a Q.length c ∧ Q.length ≤ 20 * k + j ∧ Hid (Q = rowS R (allS R (R.take k)) (r.take j)) ∧ Hid (OwnH w.heap.size w2 (.slice a Q.length c) Q) ∧ Hid (Below w.heap.size w w2)) (fun _ i _ => r.length - (intOf i).toNat)
          case atStart => exact ⟨0, L, a, c, Nat.zero_le _, rfl, rfl, by omega, by show _ = _; rw [HE.out]; rfl, HL.out, HKR.out⟩
          case round =>
            obtain ⟨j, Q, a2, c2, hj, rfl, rfl, hQl, HQ, HO, HK2⟩ := hrel
            clear HL HKR
            have hkw2 : w.heap.size ≤ wr.heap.size := HK2.out.size
            by_cases hjl : j < r.length
            · rcases HRS.out with ⟨_, _, _, rfl⟩ | ⟨rb, ro, rcap, hre, hrb, hrc⟩
              · simp at hjl
              cases hre
              obtain ⟨p0, p1⟩ := (hrc j hjl).below hrb HK2.out
              have hji : (j : Int) < (r.length : Int) := by omega
              have hj0 : (0 : Int) ≤ (j : Int) := by omega
              have hrbr : rb < wr.heap.size := by omega
              have HTN : Hid (rowS R (allS R (R.take k)) (r.take (j + 1)) = putS (rowS R (allS R (R.take k)) (r.take j)) ((gd r j).1, tot R (gd r j).1)) := by show _ = _; rw [take_gd r j hjl, rowS_snoc]
              have HTO := fun W hW => specTotal (.slice (some ⟨b, off, none⟩) R.length xc) R (gd r j).1 W hW HG.out hR4
              have HPU := fun W hW hb => specPut w.heap.size (.slice a2 Q.length c2) Q ((gd r j).1, tot R (gd r j).1) W hW hb (by omega)
              obtain ⟨u, hu⟩ : ∃ u, u = gd r j := ⟨_, rfl⟩
              rw [← hu] at p0 p1 HTN HTO HPU
              have hpl := put_len Q (u.1, tot R u.1)
              have HN : Hid (putS Q (u.1, tot R u.1) = rowS R (allS R (R.take k)) (r.take (j + 1))) := by show _ = _; rw [HTN.out, ← HQ.out]
              generalize putS Q (u.1, tot R u.1) = Z at *
              generalize tot R u.1 = t at *
              obtain ⟨W1, hW1⟩ : ∃ W1, W1 = wr.alloc (.cells #[.int .i64 u.1, .int .i64 u.2] 33) := ⟨_, rfl⟩
              have k1 : Below wr.heap.size wr W1 := by rw [hW1]; exact al_ _ _
              have bX : BoxAt W1 wr.heap.size [.int .i64 u.1, .int .i64 u.2] := by rw [hW1]; exact boxNew wr _ _
              obtain ⟨xb, hxb⟩ : ∃ xb, xb = wr.heap.size := ⟨_, rfl⟩
              rw [← hxb] at bX
              have HXB := hid hxb
              have HW1 := hid hW1
              have x0 := bX.2.1 0 _ rfl
              have xl := bX.1
              have HO1 := hid (HO.out.below k1)
              have HK1 := hid (HK2.out.trans (k1.mono hkw2))
              have hkw1 : w.heap.size ≤ W1.heap.size := HK1.out.size
              clear hW1 hxb bX k1 HO HK2 hu hrc
              go_upto_region 10 with fail
              rw [← HW1.out, ← HXB.out]
              clear HW1 HXB
              have HSK : Hid (∀ W, Below W1.heap.size W1 W → (fun w' : World => w'.cell? ⟨xb, 0, none⟩ = some (.int .i64 u.1)) W) := fun W hW => (hW.cell xl).trans x0
              have kd : Below W1.heap.size W1 W1.drew := Below.drew (Below.refl _ _)
              have hHeld := HSK.out W1.drew kd
              refine wp_region_heldL (n := 10) (S := fun w' : World => w'.cell? ⟨xb, 0, none⟩ = some (.int .i64 u.1)) (by kernel_rfl) rfl ?_
              refine takeL (i := 0) (v := ?_) rfl (by kernel_rfl) (by kernel_rfl) (by kernel_rfl) (fun _ _ _ h => h) rfl ?_ (by assumption) ?_
              rotate_left
              · intro w hSw; (try dsimp only at hSw); go_simp; (try with_reducible rfl)
              (try simp only [Act.put, List.setIfInBounds_toArray, List.set_cons_zero, List.set_cons_succ])
              refine takeL (i := 1) (v := ?_) rfl (by kernel_rfl) (by kernel_rfl) (by kernel_rfl) (fun _ _ _ h => h) rfl ?_ (by assumption) ?_
              rotate_left
              · intro w hSw; (try dsimp only at hSw); go_simp; (try with_reducible rfl)
              (try simp only [Act.put, List.setIfInBounds_toArray, List.set_cons_zero, List.set_cons_succ])
              refine takeL (i := 2) (v := ?_) rfl (by kernel_rfl) (by kernel_rfl) (by kernel_rfl) (fun _ _ _ h => h) rfl ?_ (by assumption) ?_
              rotate_left
              · intro w hSw; (try dsimp only at hSw); go_simp; (try with_reducible rfl)
              (try simp only [Act.put, List.setIfInBounds_toArray, List.set_cons_zero, List.set_cons_succ])
              refine takeL (i := 3) (v := ?_) rfl (by kernel_rfl) (by kernel_rfl) (by kernel_rfl) (fun _ _ _ h => h) rfl ?_ (by assumption) ?_
              rotate_left
              · intro w hSw; (try dsimp only at hSw); go_simp; (try with_reducible rfl)
              (try simp only [Act.put, List.setIfInBounds_toArray, List.set_cons_zero, List.set_cons_succ])
              refine takeL (i := 4) (v := ?_) rfl (by kernel_rfl) (by kernel_rfl) (by kernel_rfl) (fun _ _ _ h => h) rfl ?_ (by assumption) ?_
              rotate_left
              · intro w hSw; (try dsimp only at hSw); go_simp; (try with_reducible rfl)
              (try simp only [Act.put, List.setIfInBounds_toArray, List.set_cons_zero, List.set_cons_succ])
              refine takeL (i := 5) (v := ?_) rfl (by kernel_rfl) (by kernel_rfl) (by kernel_rfl) (fun _ _ _ h => h) rfl ?_ (by assumption) ?_
              rotate_left
              · intro w hSw; (try dsimp only at hSw); go_simp; (try with_reducible rfl)
              (try simp only [Act.put, List.setIfInBounds_toArray, List.set_cons_zero, List.set_cons_succ])
              refine comesL (i := 6) rfl rfl (by kernel_rfl) (fun K hK => ?_)
              go_simp
              refine (HTO _ (HS.out.at.below (HK1.out.trans (kd.mono hkw1)))).mono ?_
              rintro e w3 ⟨rfl, hx⟩
              have mw3 : Below W1.heap.size W1 w3 := kd.trans (hx.mono kd.size)
              have HO3 := hid (HO1.out.below mw3)
              have HK3 := hid (HK1.out.trans (mw3.mono hkw1))
              have hkw3 : w.heap.size ≤ w3.heap.size := HK3.out.size
              clear hx
              (try dsimp only)
              refine hK.out _ _ (HSK.out w3 mw3) (fun hH2 => ?_)
              clear hK K
              replace hHeld := hH2
              clear hH2
              (try simp only [Act.put, List.setIfInBounds_toArray, List.set_cons_zero, List.set_cons_succ])
              refine takeL (i := 7) (v := ?_) rfl (by kernel_rfl) (by kernel_rfl) (by kernel_rfl) (fun _ _ _ h => h) rfl ?_ (by assumption) ?_
              rotate_left
              · intro w hSw; (try dsimp only at hSw); go_simp; (try with_reducible rfl)
              (try simp only [Act.put, List.setIfInBounds_toArray, List.set_cons_zero, List.set_cons_succ])
              refine comesL (i := 8) rfl rfl (by kernel_rfl) (fun K hK => ?_)
              go_simp
              refine (HPU _ HO3.out hkw3).mono ?_
              rintro e w4 ⟨qa, qc, rfl, ho, hx⟩
              have HO4 := hid ho
              have HK4 := hid (HK3.out.trans (hx.mono hkw3))
              have mw4 : Below W1.heap.size W1 w4 := mw3.trans (hx.mono mw3.size)
              clear ho hx
              (try dsimp only)
              refine hK.out _ _ (HSK.out w4 mw4) (fun hH2 => ?_)
              clear hK K
              replace hHeld := hH2
              clear hH2
              (try simp only [Act.put, List.setIfInBounds_toArray, List.set_cons_zero, List.set_cons_succ])
              refine takeL (i := 9) (v := ?_) rfl (by kernel_rfl) (by kernel_rfl) (by kernel_rfl) (fun _ _ _ h => h) rfl ?_ (by assumption) ?_
              rotate_left
              · intro w hSw; (try dsimp only at hSw); go_simp; (try with_reducible rfl)
              (try simp only [Act.put, List.setIfInBounds_toArray, List.set_cons_zero, List.set_cons_succ])
              refine wpAnyH_done (by kernel_rfl) ?_ _
              clear hHeld kd HSK
              all_goals
                go_wp2_with fail
                refine ⟨?_, by simp [intOf]; omega⟩
                exact ⟨j + 1, Z, _, _, by omega, by go_num, rfl, by omega, HN.out, HO4.out, HK4.out⟩
            · have hji : ¬ (j : Int) < (r.length : Int) := by omega
              have HN : Hid (Q = allS R (R.take (k + 1))) := by show _ = _; rw [HSN.out, HQ.out, List.take_of_length_le (show r.length ≤ j by omega)]
              go_wp2
              refine ⟨?_, by simp [intOf]; omega⟩
              exact ⟨k + 1, Q, _, _, by omega, by go_num, rfl, by omega, HN.out, HO.out, HK2.out⟩
        · have hki : ¬ (k : Int) < (R.length : Int) := by omega
          have HN : Hid (A = L.take m) := by show _ = _; rw [HAT.out, HE.out, List.take_of_length_le (show R.length ≤ k by omega)]
          have HCU := specCut (.slice a L.length c) L m wr HL.out.rd (by omega)
          generalize L.take m = P at *
          go_wp2_with fail
          refine HCU.mono ?_
          rintro e w3 ⟨ra, rc, rfl, ho3, hb3⟩
          have HO3 := hid (ho3.mono hkw)
          have HK3 := hid (HKR.out.trans (hb3.mono hkw))
          clear ho3 hb3 HCU HL HKR
          go_wp2
          go_returns
          refine ⟨ra, rc, ?_, ?_, HK3.out⟩
          · rw [HN.out, HCT.out]; rfl
          · rw [HN.out]; exact HO3.out
set_option maxHeartbeats 12800000 in
set_option maxRecDepth 100000 in
theorem specThr (x : Value) (R : List (List Sc)) (y : Int) (Bg : Bool) (hB : Bg = true ↔ GoodRs R) (A : List Sc) (N : Nat) (hT : ThrP (bfB Bg y) R y A N) (w : World) (h : RdR w x R) (hl : R.length ≤ 1048576) (hs : ∀ r ∈ R, r.length ≤ 1048576) :
    Calls Try.prog 15 #[x, .int .i64 y] w fun e w' => ∃ qa qc, e = .returned (.tuple #[.slice qa A.length qc, .int .i64 (N : Nat), .bool (bfB Bg y)]) ∧ OwnH w.heap.size w' (.slice qa A.length qc) A ∧ Below w.heap.size w w' := by
  have HR := specRows x R Bg hB w h hl hs
  have HS := hid h
  have HB := hid hB
  obtain ⟨I, hI⟩ : ∃ I, I = decide (1 ≤ y ∧ y ≤ 10) := ⟨_, rfl⟩
  have HIN := fun W => specIn y 1 10 I hI W
  have HC0 : bfB Bg y = (Bg && I) := by rw [hI]; rfl
  rw [HC0] at hT ⊢
  have HT := hid hT
  have HI := hid hI
  obtain ⟨xa, xc, rfl⟩ := h.slice
  clear h hB hI hT HC0
  cases Bg with
  | false =>
    have HAF : Hid (A = [] ∧ N = 0) := HT.out.1 rfl
    go_enter Try.func15, Try.ntmps15
    go_wp2_with fail
    refine HR.mono ?_
    rintro e w1 ⟨rfl, hb1⟩
    have HK := hid hb1
    clear HR hb1
    go_wp2
    go_returns
    refine ⟨none, 0, ?_, ?_, HK.out⟩
    · rw [HAF.out.1, HAF.out.2]; rfl
    · rw [HAF.out.1]; exact OwnH.nil _ _
  | true =>
    have hg := HB.out.1 rfl
    cases I with
    | false =>
      have HAF : Hid (A = [] ∧ N = 0) := HT.out.1 rfl
      clear hg
      go_enter Try.func15, Try.ntmps15
      go_wp2_with fail
      refine HR.mono ?_
      rintro e w1 ⟨rfl, hb1⟩
      have HK := hid hb1
      clear HR hb1
      go_wp2_with fail
      refine (HIN _).mono ?_
      rintro e w2 ⟨rfl, hw2⟩
      subst w2
      go_wp2
      go_returns
      refine ⟨none, 0, ?_, ?_, HK.out⟩
      · rw [HAF.out.1, HAF.out.2]; rfl
      · rw [HAF.out.1]; exact OwnH.nil _ _
    | true =>
      have hyy := of_decide_eq_true HI.out.symm
      obtain ⟨m, hm⟩ : ∃ m : Nat, y = (m : Int) := ⟨y.toNat, by omega⟩
      subst hm
      have hmb : 1 ≤ m ∧ m ≤ 10 := by omega
      have HTT : Hid (N ≤ 20 ∧ Stop R m N ∧ (∀ n, n < N → ¬ Stop R m n) ∧ A = (thrS R N).take m) := HT.out.2 rfl
      have hN20 := HTT.out.1
      have HG := hid hg.2
      have hR4 := hg.1.2
      have hR1 := hg.1.1
      clear hyy hg HT
      rcases HS.out.at with ⟨_, _, _, e⟩ | ⟨b, off, cap, hxe, hb, hcell⟩
      · rw [e] at hR1; simp at hR1
      cases hxe
      have HCE := hid hcell
      clear hcell
      go_enter Try.func15, Try.ntmps15
      go_wp2_with fail
      refine HR.mono ?_
      rintro e w1 ⟨rfl, hb1⟩
      have HK := hid hb1
      clear HR hb1
      go_wp2_with fail
      refine (HIN _).mono ?_
      rintro e w2 ⟨rfl, hw2⟩
      subst w2
      go_wp2
      go_loopw [7, 8] (fun hv i wr => ∃ (k : Nat) (L : List Sc) (a c : _), k ≤ N ∧ i = .int .i64 k ∧ hv = .slice a L.length c ∧ L.length ≤ 4 * k ∧ Hid (L = thrS R k) ∧ Hid (OwnH w.heap.size wr (.slice a L.length c) L) ∧ Hid (Below w.heap.size w wr)) (fun _ i _ => N - (intOf i).toNat)
      case atStart => exact ⟨0, [], none, 0, Nat.zero_le _, rfl, rfl, by simp, rfl, OwnH.nil _ _, HK.out⟩
      case round =>
        obtain ⟨k, L, a, c, hk, rfl, rfl, hLl, HE, HL, HKR⟩ := hrel
        clear HK
        generalize wr = wo at *
        have hkw : w.heap.size ≤ wo.heap.size := HKR.out.size
        have HBD := fun W hW => specBound (.slice (some ⟨b, off, none⟩) R.length xc) R k W hW HG.out hR4 (by omega)
        have hz0 := (bnd_pos k R HG.out).1
        have HEX : Hid (Stop R m k → k = N) := fun hh => by
          rcases Nat.lt_or_ge k N with h9 | h9
          · exact absurd hh (HTT.out.2.2.1 k h9)
          · omega
        have HGO : Hid (¬ Stop R m k → k < N) := fun hh => by
          rcases Nat.lt_or_ge k N with h9 | h9
          · exact h9
          · have he : k = N := by omega
            exact absurd (by rw [he]; exact HTT.out.2.1) hh
        have HST : Hid (Stop R m k ↔ bnd R k = 0 ∨ (m ≤ L.length ∧ bnd R k < (gd L (m - 1)).2)) := by show _ ↔ _; unfold Stop; rw [← HE.out]
        generalize bnd R k = z at *
        by_cases hz : z = 0
        · have hkN := hid (HEX.out (HST.out.2 (.inl hz)))
          have hzi : ¬ (0 : Int) < z := by omega
          clear hz
          have hzd : decide ((0 : Int) < z) = false := decide_eq_false hzi
          go_upto_region 5 with fail
          have HSK : Hid (∀ W, Below wo.heap.size wo W → (fun w' : World => True) W) := fun W hW => trivial
          have kd : Below wo.heap.size wo wo.drew := Below.drew (Below.refl _ _)
          have hHeld := HSK.out wo.drew kd
          refine wp_region_heldL (n := 22) (S := fun w' : World => True) (by kernel_rfl) rfl ?_
          refine takeL (i := 0) (v := ?_) rfl (by kernel_rfl) (by kernel_rfl) (by kernel_rfl) (fun _ _ _ h => h) rfl ?_ (by assumption) ?_
          rotate_left
          · intro w hSw; (try dsimp only at hSw); go_simp; (try with_reducible rfl)
          (try simp only [Act.put, List.setIfInBounds_toArray, List.set_cons_zero, List.set_cons_succ])
          refine takeL (i := 1) (v := ?_) rfl (by kernel_rfl) (by kernel_rfl) (by kernel_rfl) (fun _ _ _ h => h) rfl ?_ (by assumption) ?_
          rotate_left
          · intro w hSw; (try dsimp only at hSw); go_simp; (try with_reducible rfl)
          (try simp only [Act.put, List.setIfInBounds_toArray, List.set_cons_zero, List.set_cons_succ])
          refine comesL (i := 2) rfl rfl (by kernel_rfl) (fun K hK => ?_)
          go_simp
          refine (HBD _ (HS.out.at.below (HKR.out.trans (kd.mono hkw)))).mono ?_
          rintro e w3 ⟨rfl, hx⟩
          have mw3 : Below wo.heap.size wo w3 := kd.trans (hx.mono kd.size)
          clear hx
          (try dsimp only)
          refine hK.out _ _ (HSK.out w3 mw3) (fun hH2 => ?_)
          clear hK K
          replace hHeld := hH2
          clear hH2
          (try simp only [Act.put, List.setIfInBounds_toArray, List.set_cons_zero, List.set_cons_succ])
          refine takeL (i := 3) (v := ?_) rfl (by kernel_rfl) (by kernel_rfl) (by kernel_rfl) (fun _ _ _ h => h) rfl ?_ (by assumption) ?_
          rotate_left
          · intro w hSw; (try dsimp only at hSw); go_simp; (try with_reducible rfl)
          (try simp only [Act.put, List.setIfInBounds_toArray, List.set_cons_zero, List.set_cons_succ])
          refine takeL (i := 4) (v := ?_) rfl (by kernel_rfl) (by kernel_rfl) (by kernel_rfl) (fun _ _ _ h => h) rfl ?_ (by assumption) ?_
          rotate_left
          · intro w hSw; (try dsimp only at hSw); go_simp; (try with_reducible rfl)
          (try simp only [Act.put, List.setIfInBounds_toArray, List.set_cons_zero, List.set_cons_succ])
          refine skipL (i := 5) rfl (by kernel_rfl) (by kernel_rfl) (by kernel_rfl) (fun _ _ _ h => h) (by kernel_rfl) (by assumption) ?_
          (try simp only [Act.put, List.setIfInBounds_toArray, List.set_cons_zero, List.set_cons_succ])
          refine skipL (i := 6) rfl (by kernel_rfl) (by kernel_rfl) (by kernel_rfl) (fun _ _ _ h => h) (by kernel_rfl) (by assumption) ?_
          (try simp only [Act.put, List.setIfInBounds_toArray, List.set_cons_zero, List.set_cons_succ])
          refine skipL (i := 7) rfl (by kernel_rfl) (by kernel_rfl) (by kernel_rfl) (fun _ _ _ h => h) (by kernel_rfl) (by assumption) ?_
          (try simp only [Act.put, List.setIfInBounds_toArray, List.set_cons_zero, List.set_cons_succ])
          refine skipL (i := 8) rfl (by kernel_rfl) (by kernel_rfl) (by kernel_rfl) (fun _ _ _ h => h) (by kernel_rfl) (by assumption) ?_
          (try simp only [Act.put, List.setIfInBounds_toArray, List.set_cons_zero, List.set_cons_succ])
          refine skipL (i := 9) rfl (by kernel_rfl) (by kernel_rfl) (by kernel_rfl) (fun _ _ _ h => h) (by kernel_rfl) (by assumption) ?_
          (try simp only [Act.put, List.setIfInBounds_toArray, List.set_cons_zero, List.set_cons_succ])
          refine skipL (i := 10) rfl (by kernel_rfl) (by kernel_rfl) (by kernel_rfl) (fun _ _ _ h => h) (by kernel_rfl) (by assumption) ?_
          (try simp only [Act.put, List.setIfInBounds_toArray, List.set_cons_zero, List.set_cons_succ])
          refine skipL (i := 11) rfl (by kernel_rfl) (by kernel_rfl) (by kernel_rfl) (fun _ _ _ h => h) (by kernel_rfl) (by assumption) ?_
          (try simp only [Act.put, List.setIfInBounds_toArray, List.set_cons_zero, List.set_cons_succ])
          refine skipL (i := 12) rfl (by kernel_rfl) (by kernel_rfl) (by kernel_rfl) (fun _ _ _ h => h) (by kernel_rfl) (by assumption) ?_
          (try simp only [Act.put, List.setIfInBounds_toArray, List.set_cons_zero, List.set_cons_succ])
          refine skipL (i := 13) rfl (by kernel_rfl) (by kernel_rfl) (by kernel_rfl) (fun _ _ _ h => h) (by kernel_rfl) (by assumption) ?_
          (try simp only [Act.put, List.setIfInBounds_toArray, List.set_cons_zero, List.set_cons_succ])
          refine skipL (i := 14) rfl (by kernel_rfl) (by kernel_rfl) (by kernel_rfl) (fun _ _ _ h => h) (by kernel_rfl) (by assumption) ?_
          (try simp only [Act.put, List.setIfInBounds_toArray, List.set_cons_zero, List.set_cons_succ])
          refine skipL (i := 15) rfl (by kernel_rfl) (by kernel_rfl) (by kernel_rfl) (fun _ _ _ h => h) (by kernel_rfl) (by assumption) ?_
          (try simp only [Act.put, List.setIfInBounds_toArray, List.set_cons_zero, List.set_cons_succ])
          refine skipL (i := 16) rfl (by kernel_rfl) (by kernel_rfl) (by kernel_rfl) (fun _ _ _ h => h) (by kernel_rfl) (by assumption) ?_
          (try simp only [Act.put, List.setIfInBounds_toArray, List.set_cons_zero, List.set_cons_succ])
          refine skipL (i := 17) rfl (by kernel_rfl) (by kernel_rfl) (by kernel_rfl) (fun _ _ _ h => h) (by kernel_rfl) (by assumption) ?_
          (try simp only [Act.put, List.setIfInBounds_toArray, List.set_cons_zero, List.set_cons_succ])
          refine skipL (i := 18) rfl (by kernel_rfl) (by kernel_rfl) (by kernel_rfl) (fun _ _ _ h => h) (by kernel_rfl) (by assumption) ?_
          (try simp only [Act.put, List.setIfInBounds_toArray, List.set_cons_zero, List.set_cons_succ])
          refine skipL (i := 19) rfl (by kernel_rfl) (by kernel_rfl) (by kernel_rfl) (fun _ _ _ h => h) (by kernel_rfl) (by assumption) ?_
          (try simp only [Act.put, List.setIfInBounds_toArray, List.set_cons_zero, List.set_cons_succ])
          refine skipL (i := 20) rfl (by kernel_rfl) (by kernel_rfl) (by kernel_rfl) (fun _ _ _ h => h) (by kernel_rfl) (by assumption) ?_
          (try simp only [Act.put, List.setIfInBounds_toArray, List.set_cons_zero, List.set_cons_succ])
          refine takeL (i := 21) (v := ?_) rfl (by kernel_rfl) (by kernel_rfl) (by kernel_rfl) (fun _ _ _ h => h) rfl ?_ (by assumption) ?_
          rotate_left
          · intro w hSw; (try dsimp only at hSw); go_simp; (try with_reducible rfl)
          (try simp only [Act.put, List.setIfInBounds_toArray, List.set_cons_zero, List.set_cons_succ])
          refine wpAnyH_done (by kernel_rfl) ?_ _
          clear hHeld kd HSK
          all_goals
            have mwz := mw3
            generalize w3 = wz at *
            have HLZ := hid (HL.out.below mwz)
            have HKZ := hid (HKR.out.trans (mwz.mono hkw))
            have hkz : w.heap.size ≤ wz.heap.size := HKZ.out.size
            have HN : Hid (A = L.take m) := by show _ = _; rw [HTT.out.2.2.2, HE.out, hkN.out]
            have HKN := hkN
            have HCU := specCut _ L m wz HLZ.out.rd (by omega)
            clear hkN mwz HL HKR HBD
            generalize L.take m = P at *
            go_wp2_with fail
            refine HCU.mono ?_
            rintro e w5 ⟨ra, rc, rfl, ho5, hb5⟩
            have HO5 := hid (ho5.mono hkz)
            have HK5 := hid (HKZ.out.trans (hb5.mono hkz))
            clear ho5 hb5 HCU HLZ HKZ
            go_wp2
            go_returns
            refine ⟨ra, rc, ?_, ?_, HK5.out⟩
            · rw [HN.out, HKN.out]; rfl
            · rw [HN.out]; exact HO5.out
        · have hzi : (0 : Int) < z := by omega
          have hzd : decide ((0 : Int) < z) = true := decide_eq_true hzi
          by_cases hLm : L.length < m
          · have hkN := HGO.out (fun hh => by rcases HST.out.1 hh with h9 | h9; exact hz h9; have := h9.1; omega)
            have hLmi : (L.length : Int) < (m : Int) := by omega
            have hLmd : decide ((L.length : Int) < (m : Int)) = true := decide_eq_true hLmi
            have hLmd2 : decide (L.length < m) = true := decide_eq_true hLm
            go_upto_region 5 with fail
            have HSK : Hid (∀ W, Below wo.heap.size wo W → (fun w' : World => True) W) := fun W hW => trivial
            have kd : Below wo.heap.size wo wo.drew := Below.drew (Below.refl _ _)
            have hHeld := HSK.out wo.drew kd
            refine wp_region_heldL (n := 22) (S := fun w' : World => True) (by kernel_rfl) rfl ?_
            refine takeL (i := 0) (v := ?_) rfl (by kernel_rfl) (by kernel_rfl) (by kernel_rfl) (fun _ _ _ h => h) rfl ?_ (by assumption) ?_
            rotate_left
            · intro w hSw; (try dsimp only at hSw); go_simp; (try with_reducible rfl)
            (try simp only [Act.put, List.setIfInBounds_toArray, List.set_cons_zero, List.set_cons_succ])
            refine takeL (i := 1) (v := ?_) rfl (by kernel_rfl) (by kernel_rfl) (by kernel_rfl) (fun _ _ _ h => h) rfl ?_ (by assumption) ?_
            rotate_left
            · intro w hSw; (try dsimp only at hSw); go_simp; (try with_reducible rfl)
            (try simp only [Act.put, List.setIfInBounds_toArray, List.set_cons_zero, List.set_cons_succ])
            refine comesL (i := 2) rfl rfl (by kernel_rfl) (fun K hK => ?_)
            go_simp
            refine (HBD _ (HS.out.at.below (HKR.out.trans (kd.mono hkw)))).mono ?_
            rintro e w3 ⟨rfl, hx⟩
            have mw3 : Below wo.heap.size wo w3 := kd.trans (hx.mono kd.size)
            clear hx
            (try dsimp only)
            refine hK.out _ _ (HSK.out w3 mw3) (fun hH2 => ?_)
            clear hK K
            replace hHeld := hH2
            clear hH2
            (try simp only [Act.put, List.setIfInBounds_toArray, List.set_cons_zero, List.set_cons_succ])
            refine takeL (i := 3) (v := ?_) rfl (by kernel_rfl) (by kernel_rfl) (by kernel_rfl) (fun _ _ _ h => h) rfl ?_ (by assumption) ?_
            rotate_left
            · intro w hSw; (try dsimp only at hSw); go_simp; (try with_reducible rfl)
            (try simp only [Act.put, List.setIfInBounds_toArray, List.set_cons_zero, List.set_cons_succ])
            refine takeL (i := 4) (v := ?_) rfl (by kernel_rfl) (by kernel_rfl) (by kernel_rfl) (fun _ _ _ h => h) rfl ?_ (by assumption) ?_
            rotate_left
            · intro w hSw; (try dsimp only at hSw); go_simp; (try with_reducible rfl)
            (try simp only [Act.put, List.setIfInBounds_toArray, List.set_cons_zero, List.set_cons_succ])
            refine takeW (i := 5) (v := ?_) rfl (by kernel_rfl) (by kernel_rfl) (by kernel_rfl) (fun _ _ _ h => h) (by kernel_rfl) ?_ (by assumption) ?_
            rotate_left
            · intro w hSw; (try dsimp only at hSw); go_simp; (try with_reducible rfl)
            (try simp only [Act.put, List.setIfInBounds_toArray, List.set_cons_zero, List.set_cons_succ])
            refine takeW (i := 6) (v := ?_) rfl (by kernel_rfl) (by kernel_rfl) (by kernel_rfl) (fun _ _ _ h => h) (by kernel_rfl) ?_ (by assumption) ?_
            rotate_left
            · intro w hSw; (try dsimp only at hSw); go_simp; (try with_reducible rfl)
            (try simp only [Act.put, List.setIfInBounds_toArray, List.set_cons_zero, List.set_cons_succ])
            refine takeW (i := 7) (v := ?_) rfl (by kernel_rfl) (by kernel_rfl) (by kernel_rfl) (fun _ _ _ h => h) (by kernel_rfl) ?_ (by assumption) ?_
            rotate_left
            · intro w hSw; (try dsimp only at hSw); go_simp; (try with_reducible rfl)
            (try simp only [Act.put, List.setIfInBounds_toArray, List.set_cons_zero, List.set_cons_succ])
            refine takeW (i := 8) (v := ?_) rfl (by kernel_rfl) (by kernel_rfl) (by kernel_rfl) (fun _ _ _ h => h) (by kernel_rfl) ?_ (by assumption) ?_
            rotate_left
            · intro w hSw; (try dsimp only at hSw); go_simp; (try with_reducible rfl)
            (try simp only [Act.put, List.setIfInBounds_toArray, List.set_cons_zero, List.set_cons_succ])
            refine takeW (i := 9) (v := ?_) rfl (by kernel_rfl) (by kernel_rfl) (by kernel_rfl) (fun _ _ _ h => h) (by kernel_rfl) ?_ (by assumption) ?_
            rotate_left
            · intro w hSw; (try dsimp only at hSw); go_simp; (try with_reducible rfl)
            (try simp only [Act.put, List.setIfInBounds_toArray, List.set_cons_zero, List.set_cons_succ])
            refine skipL (i := 10) rfl (by kernel_rfl) (by kernel_rfl) (by kernel_rfl) (fun _ _ _ h => h) (by kernel_rfl) (by assumption) ?_
            (try simp only [Act.put, List.setIfInBounds_toArray, List.set_cons_zero, List.set_cons_succ])
            refine skipL (i := 11) rfl (by kernel_rfl) (by kernel_rfl) (by kernel_rfl) (fun _ _ _ h => h) (by kernel_rfl) (by assumption) ?_
            (try simp only [Act.put, List.setIfInBounds_toArray, List.set_cons_zero, List.set_cons_succ])
            refine skipL (i := 12) rfl (by kernel_rfl) (by kernel_rfl) (by kernel_rfl) (fun _ _ _ h => h) (by kernel_rfl) (by assumption) ?_
            (try simp only [Act.put, List.setIfInBounds_toArray, List.set_cons_zero, List.set_cons_succ])
            refine skipL (i := 13) rfl (by kernel_rfl) (by kernel_rfl) (by kernel_rfl) (fun _ _ _ h => h) (by kernel_rfl) (by assumption) ?_
            (try simp only [Act.put, List.setIfInBounds_toArray, List.set_cons_zero, List.set_cons_succ])
            refine skipL (i := 14) rfl (by kernel_rfl) (by kernel_rfl) (by kernel_rfl) (fun _ _ _ h => h) (by kernel_rfl) (by assumption) ?_
            (try simp only [Act.put, List.setIfInBounds_toArray, List.set_cons_zero, List.set_cons_succ])
            refine skipL (i := 15) rfl (by kernel_rfl) (by kernel_rfl) (by kernel_rfl) (fun _ _ _ h => h) (by kernel_rfl) (by assumption) ?_
            (try simp only [Act.put, List.setIfInBounds_toArray, List.set_cons_zero, List.set_cons_succ])
            refine skipL (i := 16) rfl (by kernel_rfl) (by kernel_rfl) (by kernel_rfl) (fun _ _ _ h => h) (by kernel_rfl) (by assumption) ?_
            (try simp only [Act.put, List.setIfInBounds_toArray, List.set_cons_zero, List.set_cons_succ])
            refine skipL (i := 17) rfl (by kernel_rfl) (by kernel_rfl) (by kernel_rfl) (fun _ _ _ h => h) (by kernel_rfl) (by assumption) ?_
            (try simp only [Act.put, List.setIfInBounds_toArray, List.set_cons_zero, List.set_cons_succ])
            refine skipL (i := 18) rfl (by kernel_rfl) (by kernel_rfl) (by kernel_rfl) (fun _ _ _ h => h) (by kernel_rfl) (by assumption) ?_
            (try simp only [Act.put, List.setIfInBounds_toArray, List.set_cons_zero, List.set_cons_succ])
            refine skipL (i := 19) rfl (by kernel_rfl) (by kernel_rfl) (by kernel_rfl) (fun _ _ _ h => h) (by kernel_rfl) (by assumption) ?_
            (try simp only [Act.put, List.setIfInBounds_toArray, List.set_cons_zero, List.set_cons_succ])
            refine takeW (i := 20) (v := ?_) rfl (by kernel_rfl) (by kernel_rfl) (by kernel_rfl) (fun _ _ _ h => h) (by kernel_rfl) ?_ (by assumption) ?_
            rotate_left
            · intro w hSw; (try dsimp only at hSw); go_simp; (try with_reducible rfl)
            (try simp only [Act.put, List.setIfInBounds_toArray, List.set_cons_zero, List.set_cons_succ])
            refine takeL (i := 21) (v := ?_) rfl (by kernel_rfl) (by kernel_rfl) (by kernel_rfl) (fun _ _ _ h => h) rfl ?_ (by assumption) ?_
            rotate_left
            · intro w hSw; (try dsimp only at hSw); go_simp; (try with_reducible rfl)
            (try simp only [Act.put, List.setIfInBounds_toArray, List.set_cons_zero, List.set_cons_succ])
            refine wpAnyH_done (by kernel_rfl) ?_ _
            clear hHeld kd HSK
            all_goals
              have mwz := mw3
              generalize w3 = wz at *
              have HLZ := hid (HL.out.below mwz)
              have HKZ := hid (HKR.out.trans (mwz.mono hkw))
              have HLI := hid (lookS_snoc R)
              have hkz : w.heap.size ≤ wz.heap.size := HKZ.out.size
              clear mwz HL HKR HBD
              obtain ⟨a0, c0, hve⟩ := HLZ.out.slice
              cases hve
              go_wp2
              go_loopw [7, 43] (fun hv i w2 => ∃ (q : Nat) (Q : List Sc) (a c : _), q ≤ R.length ∧ i = .int .i64 q ∧ hv = .slice a Q.length c ∧ Q.length ≤ L.length + q ∧ Hid (Q = lookS R k L (R.take q)) ∧ Hid (OwnH w.heap.size w2 (.slice a Q.length c) Q) ∧ Hid (Below w.heap.size w w2)) (fun _ i _ => R.length - (intOf i).toNat)
              case atStart => exact ⟨0, L, _, _, Nat.zero_le _, rfl, rfl, by omega, rfl, HLZ.out, HKZ.out⟩
              case round =>
                obtain ⟨q, Q, a2, c2, hq, rfl, rfl, hQl, HQ, HO, HK2⟩ := hrel
                clear HLZ HKZ
                have hkw2 : w.heap.size ≤ wr.heap.size := HK2.out.size
                by_cases hqt : q < R.length
                · obtain ⟨rv, r0, hrs⟩ := HCE.out q hqt
                  have hbr : b < wr.heap.size := by omega
                  have r1 : wr.cell? ⟨b, off + q, none⟩ = some rv := (HK2.out.cell (p := ⟨b, off + q, none⟩) hb).trans r0
                  have HSN : Hid (lookS R k L (R.take (q + 1)) = stS R k (lookS R k L (R.take q)) (gR R q)) := by show _ = _; rw [takeR R q hqt, lookS_snoc]
                  have hqi : (q : Int) < (R.length : Int) := by omega
                  have hq0 : (0 : Int) ≤ (q : Int) := by omega
                  obtain ⟨r, hr⟩ : ∃ r, r = gR R q := ⟨_, rfl⟩
                  rw [← hr] at HSN hrs
                  clear r0 hr
                  by_cases hkr : k < r.length
                  · rcases hrs with ⟨_, _, _, rfl⟩ | ⟨rb, ro, rcap, rfl, hrb, hrc⟩
                    · simp at hkr
                    obtain ⟨p0, p1⟩ := (hrc k hkr).below hrb HK2.out
                    have hkri : (k : Int) < (r.length : Int) := by omega
                    have hk0 : (0 : Int) ≤ (k : Int) := by omega
                    have hrbr : rb < wr.heap.size := by omega
                    have HTO := fun W hW => specTotal (.slice (some ⟨b, off, none⟩) R.length xc) R (gd r k).1 W hW HG.out hR4
                    have HPU := fun W hW hb => specPut w.heap.size (.slice a2 Q.length c2) Q ((gd r k).1, tot R (gd r k).1) W hW hb (by omega)
                    have hpl := put_len Q ((gd r k).1, tot R (gd r k).1)
                    have HN : Hid (putS Q ((gd r k).1, tot R (gd r k).1) = lookS R k L (R.take (q + 1))) := by show _ = _; rw [HSN.out, ← HQ.out]; unfold stS; rw [if_pos hkr]
                    obtain ⟨d, hd⟩ : ∃ d, d = (gd r k).1 := ⟨_, rfl⟩
                    rw [← hd] at p0 HTO HPU hpl HN
                    generalize putS Q (d, tot R d) = Z at *
                    generalize tot R d = t at *
                    clear hd hrc p1
                    go_upto_region 10 with fail
                    have HSK : Hid (∀ W, Below wr.heap.size wr W → (fun w' : World => w'.cell? ⟨rb, ro + k * 2, none⟩ = some (.int .i64 d)) W) := fun W hW => (hW.cell hrbr).trans p0
                    have kd : Below wr.heap.size wr wr.drew := Below.drew (Below.refl _ _)
                    have hHeld := HSK.out wr.drew kd
                    refine wp_region_heldL (n := 16) (S := fun w' : World => w'.cell? ⟨rb, ro + k * 2, none⟩ = some (.int .i64 d)) (by kernel_rfl) rfl ?_
                    refine takeL (i := 0) (v := ?_) rfl (by kernel_rfl) (by kernel_rfl) (by kernel_rfl) (fun _ _ _ h => h) rfl ?_ (by assumption) ?_
                    rotate_left
                    · intro w hSw; (try dsimp only at hSw); go_simp; (try with_reducible rfl)
                    (try simp only [Act.put, List.setIfInBounds_toArray, List.set_cons_zero, List.set_cons_succ])
                    refine takeL (i := 1) (v := ?_) rfl (by kernel_rfl) (by kernel_rfl) (by kernel_rfl) (fun _ _ _ h => h) rfl ?_ (by assumption) ?_
                    rotate_left
                    · intro w hSw; (try dsimp only at hSw); go_simp; (try with_reducible rfl)
                    (try simp only [Act.put, List.setIfInBounds_toArray, List.set_cons_zero, List.set_cons_succ])
                    refine takeL (i := 2) (v := ?_) rfl (by kernel_rfl) (by kernel_rfl) (by kernel_rfl) (fun _ _ _ h => h) rfl ?_ (by assumption) ?_
                    rotate_left
                    · intro w hSw; (try dsimp only at hSw); go_simp; (try with_reducible rfl)
                    (try simp only [Act.put, List.setIfInBounds_toArray, List.set_cons_zero, List.set_cons_succ])
                    refine takeL (i := 3) (v := ?_) rfl (by kernel_rfl) (by kernel_rfl) (by kernel_rfl) (fun _ _ _ h => h) rfl ?_ (by assumption) ?_
                    rotate_left
                    · intro w hSw; (try dsimp only at hSw); go_simp; (try with_reducible rfl)
                    (try simp only [Act.put, List.setIfInBounds_toArray, List.set_cons_zero, List.set_cons_succ])
                    refine takeL (i := 4) (v := ?_) rfl (by kernel_rfl) (by kernel_rfl) (by kernel_rfl) (fun _ _ _ h => h) rfl ?_ (by assumption) ?_
                    rotate_left
                    · intro w hSw; (try dsimp only at hSw); go_simp; (try with_reducible rfl)
                    (try simp only [Act.put, List.setIfInBounds_toArray, List.set_cons_zero, List.set_cons_succ])
                    refine takeL (i := 5) (v := ?_) rfl (by kernel_rfl) (by kernel_rfl) (by kernel_rfl) (fun _ _ _ h => h) rfl ?_ (by assumption) ?_
                    rotate_left
                    · intro w hSw; (try dsimp only at hSw); go_simp; (try with_reducible rfl)
                    (try simp only [Act.put, List.setIfInBounds_toArray, List.set_cons_zero, List.set_cons_succ])
                    refine takeL (i := 6) (v := ?_) rfl (by kernel_rfl) (by kernel_rfl) (by kernel_rfl) (fun _ _ _ h => h) rfl ?_ (by assumption) ?_
                    rotate_left
                    · intro w hSw; (try dsimp only at hSw); go_simp; (try with_reducible rfl)
                    (try simp only [Act.put, List.setIfInBounds_toArray, List.set_cons_zero, List.set_cons_succ])
                    refine takeL (i := 7) (v := ?_) rfl (by kernel_rfl) (by kernel_rfl) (by kernel_rfl) (fun _ _ _ h => h) rfl ?_ (by assumption) ?_
                    rotate_left
                    · intro w hSw; (try dsimp only at hSw); go_simp; (try with_reducible rfl)
                    (try simp only [Act.put, List.setIfInBounds_toArray, List.set_cons_zero, List.set_cons_succ])
                    refine takeL (i := 8) (v := ?_) rfl (by kernel_rfl) (by kernel_rfl) (by kernel_rfl) (fun _ _ _ h => h) rfl ?_ (by assumption) ?_
                    rotate_left
                    · intro w hSw; (try dsimp only at hSw); go_simp; (try with_reducible rfl)
                    (try simp only [Act.put, List.setIfInBounds_toArray, List.set_cons_zero, List.set_cons_succ])
                    refine takeL (i := 9) (v := ?_) rfl (by kernel_rfl) (by kernel_rfl) (by kernel_rfl) (fun _ _ _ h => h) rfl ?_ (by assumption) ?_
                    rotate_left
                    · intro w hSw; (try dsimp only at hSw); go_simp; (try with_reducible rfl)
                    (try simp only [Act.put, List.setIfInBounds_toArray, List.set_cons_zero, List.set_cons_succ])
                    refine takeL (i := 10) (v := ?_) rfl (by kernel_rfl) (by kernel_rfl) (by kernel_rfl) (fun _ _ _ h => h) rfl ?_ (by assumption) ?_
                    rotate_left
                    · intro w hSw; (try dsimp only at hSw); go_simp; (try with_reducible rfl)
                    (try simp only [Act.put, List.setIfInBounds_toArray, List.set_cons_zero, List.set_cons_succ])
                    refine takeL (i := 11) (v := ?_) rfl (by kernel_rfl) (by kernel_rfl) (by kernel_rfl) (fun _ _ _ h => h) rfl ?_ (by assumption) ?_
                    rotate_left
                    · intro w hSw; (try dsimp only at hSw); go_simp; (try with_reducible rfl)
                    (try simp only [Act.put, List.setIfInBounds_toArray, List.set_cons_zero, List.set_cons_succ])
                    refine comesL (i := 12) rfl rfl (by kernel_rfl) (fun K hK => ?_)
                    go_simp
                    refine (HTO _ (HS.out.at.below (HK2.out.trans (kd.mono hkw2)))).mono ?_
                    rintro e w3 ⟨rfl, hx⟩
                    have mw3 : Below wr.heap.size wr w3 := kd.trans (hx.mono kd.size)
                    have HO3 := hid (HO.out.below mw3)
                    have HK3 := hid (HK2.out.trans (mw3.mono hkw2))
                    have hkw3 : w.heap.size ≤ w3.heap.size := HK3.out.size
                    clear hx
                    (try dsimp only)
                    refine hK.out _ _ (HSK.out w3 mw3) (fun hH2 => ?_)
                    clear hK K
                    replace hHeld := hH2
                    clear hH2
                    (try simp only [Act.put, List.setIfInBounds_toArray, List.set_cons_zero, List.set_cons_succ])
                    refine takeL (i := 13) (v := ?_) rfl (by kernel_rfl) (by kernel_rfl) (by kernel_rfl) (fun _ _ _ h => h) rfl ?_ (by assumption) ?_
                    rotate_left
                    · intro w hSw; (try dsimp only at hSw); go_simp; (try with_reducible rfl)
                    (try simp only [Act.put, List.setIfInBounds_toArray, List.set_cons_zero, List.set_cons_succ])
                    refine comesL (i := 14) rfl rfl (by kernel_rfl) (fun K hK => ?_)
                    go_simp
                    refine (HPU _ HO3.out hkw3).mono ?_
                    rintro e w4 ⟨qa, qc, rfl, ho, hx⟩
                    have HO4 := hid ho
                    have HK4 := hid (HK3.out.trans (hx.mono hkw3))
                    have mw4 : Below wr.heap.size wr w4 := mw3.trans (hx.mono mw3.size)
                    clear ho hx
                    (try dsimp only)
                    refine hK.out _ _ (HSK.out w4 mw4) (fun hH2 => ?_)
                    clear hK K
                    replace hHeld := hH2
                    clear hH2
                    (try simp only [Act.put, List.setIfInBounds_toArray, List.set_cons_zero, List.set_cons_succ])
                    refine takeL (i := 15) (v := ?_) rfl (by kernel_rfl) (by kernel_rfl) (by kernel_rfl) (fun _ _ _ h => h) rfl ?_ (by assumption) ?_
                    rotate_left
                    · intro w hSw; (try dsimp only at hSw); go_simp; (try with_reducible rfl)
                    (try simp only [Act.put, List.setIfInBounds_toArray, List.set_cons_zero, List.set_cons_succ])
                    refine wpAnyH_done (by kernel_rfl) ?_ _
                    clear hHeld kd HSK
                    all_goals
                      go_wp2_with fail
                      refine ⟨?_, by simp [intOf]; omega⟩
                      exact ⟨q + 1, Z, _, _, by omega, by go_num, rfl, by omega, HN.out, HO4.out, HK4.out⟩
                  · have hkri : ¬ (k : Int) < (r.length : Int) := by omega
                    have HN : Hid (Q = lookS R k L (R.take (q + 1))) := by show _ = _; rw [HSN.out, ← HQ.out]; unfold stS; rw [if_neg hkr]
                    obtain ⟨ra, rc, rfl⟩ := hrs.slice
                    clear hrs
                    go_wp2
                    refine ⟨?_, by simp [intOf]; omega⟩
                    exact ⟨q + 1, Q, _, _, by omega, by go_num, rfl, by omega, HN.out, HO.out, HK2.out⟩
                · have hqi : ¬ (q : Int) < (R.length : Int) := by omega
                  have HN : Hid (Q = thrS R (k + 1)) := by show _ = _; rw [HQ.out, List.take_of_length_le (show R.length ≤ q by omega), HE.out]; rfl
                  go_wp2
                  refine ⟨?_, by simp [intOf]; omega⟩
                  exact ⟨k + 1, Q, _, _, by omega, by go_num, rfl, by omega, HN.out, HO.out, HK2.out⟩
          · have hLmi : ¬ (L.length : Int) < (m : Int) := by omega
            have hLmd : decide ((L.length : Int) < (m : Int)) = false := decide_eq_false hLmi
            have hLmd2 : decide (L.length < m) = false := decide_eq_false hLm
            obtain ⟨g, gcap, hge, hg0, hg1⟩ := HL.out.lies (by omega)
            cases hge
            have c1 := HL.out.c1 (k := m - 1) (by omega)
            obtain ⟨j, hj⟩ : ∃ j, j = m - 1 := ⟨_, rfl⟩
            rw [← hj] at c1
            have hmj : (m : Int) - 1 = (j : Int) := by omega
            have hjl : (j : Int) < (L.length : Int) := by omega
            have hj0 : (0 : Int) ≤ (j : Int) := by omega
            have hjw : IntKind.i64.wrap (j : Int) = (j : Int) := by rw [IntKind.wrap_i64]; omega
            have HST2 : Hid (Stop R m k ↔ z < (gd L j).2) := by
              show _ ↔ _
              rw [HST.out, ← hj]
              exact ⟨fun h9 => by rcases h9 with h9 | h9; exact absurd h9 hz; exact h9.2, fun h9 => .inr ⟨by omega, h9⟩⟩
            obtain ⟨u, hu⟩ : ∃ u, u = (gd L j).2 := ⟨_, rfl⟩
            rw [← hu] at c1 HST2
            clear hu hj
            by_cases huz : u ≤ z
            · have hkN := HGO.out (fun hh => by have := HST2.out.1 hh; omega)
              have huzd : decide (u ≤ z) = true := decide_eq_true huz
              go_upto_region 5 with fail
              have HSK : Hid (∀ W, Below wo.heap.size wo W → (fun w' : World => w'.cell? ⟨g, j * 2 + 1, none⟩ = some (.int .i64 u)) W) := fun W hW => (hW.cell hg1).trans c1
              have kd : Below wo.heap.size wo wo.drew := Below.drew (Below.refl _ _)
              have hHeld := HSK.out wo.drew kd
              refine wp_region_heldL (n := 22) (S := fun w' : World => w'.cell? ⟨g, j * 2 + 1, none⟩ = some (.int .i64 u)) (by kernel_rfl) rfl ?_
              refine takeL (i := 0) (v := ?_) rfl (by kernel_rfl) (by kernel_rfl) (by kernel_rfl) (fun _ _ _ h => h) rfl ?_ (by assumption) ?_
              rotate_left
              · intro w hSw; (try dsimp only at hSw); go_simp; (try with_reducible rfl)
              (try simp only [Act.put, List.setIfInBounds_toArray, List.set_cons_zero, List.set_cons_succ])
              refine takeL (i := 1) (v := ?_) rfl (by kernel_rfl) (by kernel_rfl) (by kernel_rfl) (fun _ _ _ h => h) rfl ?_ (by assumption) ?_
              rotate_left
              · intro w hSw; (try dsimp only at hSw); go_simp; (try with_reducible rfl)
              (try simp only [Act.put, List.setIfInBounds_toArray, List.set_cons_zero, List.set_cons_succ])
              refine comesL (i := 2) rfl rfl (by kernel_rfl) (fun K hK => ?_)
              go_simp
              refine (HBD _ (HS.out.at.below (HKR.out.trans (kd.mono hkw)))).mono ?_
              rintro e w3 ⟨rfl, hx⟩
              have mw3 : Below wo.heap.size wo w3 := kd.trans (hx.mono kd.size)
              clear hx
              (try dsimp only)
              refine hK.out _ _ (HSK.out w3 mw3) (fun hH2 => ?_)
              clear hK K
              replace hHeld := hH2
              clear hH2
              (try simp only [Act.put, List.setIfInBounds_toArray, List.set_cons_zero, List.set_cons_succ])
              refine takeL (i := 3) (v := ?_) rfl (by kernel_rfl) (by kernel_rfl) (by kernel_rfl) (fun _ _ _ h => h) rfl ?_ (by assumption) ?_
              rotate_left
              · intro w hSw; (try dsimp only at hSw); go_simp; (try with_reducible rfl)
              (try simp only [Act.put, List.setIfInBounds_toArray, List.set_cons_zero, List.set_cons_succ])
              refine takeL (i := 4) (v := ?_) rfl (by kernel_rfl) (by kernel_rfl) (by kernel_rfl) (fun _ _ _ h => h) rfl ?_ (by assumption) ?_
              rotate_left
              · intro w hSw; (try dsimp only at hSw); go_simp; (try with_reducible rfl)
              (try simp only [Act.put, List.setIfInBounds_toArray, List.set_cons_zero, List.set_cons_succ])
              refine takeW (i := 5) (v := ?_) rfl (by kernel_rfl) (by kernel_rfl) (by kernel_rfl) (fun _ _ _ h => h) (by kernel_rfl) ?_ (by assumption) ?_
              rotate_left
              · intro w hSw; (try dsimp only at hSw); go_simp; (try with_reducible rfl)
              (try simp only [Act.put, List.setIfInBounds_toArray, List.set_cons_zero, List.set_cons_succ])
              refine takeW (i := 6) (v := ?_) rfl (by kernel_rfl) (by kernel_rfl) (by kernel_rfl) (fun _ _ _ h => h) (by kernel_rfl) ?_ (by assumption) ?_
              rotate_left
              · intro w hSw; (try dsimp only at hSw); go_simp; (try with_reducible rfl)
              (try simp only [Act.put, List.setIfInBounds_toArray, List.set_cons_zero, List.set_cons_succ])
              refine takeW (i := 7) (v := ?_) rfl (by kernel_rfl) (by kernel_rfl) (by kernel_rfl) (fun _ _ _ h => h) (by kernel_rfl) ?_ (by assumption) ?_
              rotate_left
              · intro w hSw; (try dsimp only at hSw); go_simp; (try with_reducible rfl)
              (try simp only [Act.put, List.setIfInBounds_toArray, List.set_cons_zero, List.set_cons_succ])
              refine takeW (i := 8) (v := ?_) rfl (by kernel_rfl) (by kernel_rfl) (by kernel_rfl) (fun _ _ _ h => h) (by kernel_rfl) ?_ (by assumption) ?_
              rotate_left
              · intro w hSw; (try dsimp only at hSw); go_simp; (try with_reducible rfl)
              (try simp only [Act.put, List.setIfInBounds_toArray, List.set_cons_zero, List.set_cons_succ])
              refine takeW (i := 9) (v := ?_) rfl (by kernel_rfl) (by kernel_rfl) (by kernel_rfl) (fun _ _ _ h => h) (by kernel_rfl) ?_ (by assumption) ?_
              rotate_left
              · intro w hSw; (try dsimp only at hSw); go_simp; (try with_reducible rfl)
              (try simp only [Act.put, List.setIfInBounds_toArray, List.set_cons_zero, List.set_cons_succ])
              refine takeW (i := 10) (v := ?_) rfl (by kernel_rfl) (by kernel_rfl) (by kernel_rfl) (fun _ _ _ h => h) (by kernel_rfl) ?_ (by assumption) ?_
              rotate_left
              · intro w hSw; (try dsimp only at hSw); go_simp; (try with_reducible rfl)
              (try simp only [Act.put, List.setIfInBounds_toArray, List.set_cons_zero, List.set_cons_succ])
              refine takeW (i := 11) (v := ?_) rfl (by kernel_rfl) (by kernel_rfl) (by kernel_rfl) (fun _ _ _ h => h) (by kernel_rfl) ?_ (by assumption) ?_
              rotate_left
              · intro w hSw; (try dsimp only at hSw); go_simp; (try with_reducible rfl)
              (try simp only [Act.put, List.setIfInBounds_toArray, List.set_cons_zero, List.set_cons_succ])
              refine takeW (i := 12) (v := ?_) rfl (by kernel_rfl) (by kernel_rfl) (by kernel_rfl) (fun _ _ _ h => h) (by kernel_rfl) ?_ (by assumption) ?_
              rotate_left
              · intro w hSw; (try dsimp only at hSw); go_simp; (try with_reducible rfl)
              (try simp only [Act.put, List.setIfInBounds_toArray, List.set_cons_zero, List.set_cons_succ])
              refine takeW (i := 13) (v := ?_) rfl (by kernel_rfl) (by kernel_rfl) (by kernel_rfl) (fun _ _ _ h => h) (by kernel_rfl) ?_ (by assumption) ?_
              rotate_left
              · intro w hSw; (try dsimp only at hSw); go_simp; (try with_reducible rfl)
              (try simp only [Act.put, List.setIfInBounds_toArray, List.set_cons_zero, List.set_cons_succ])
              refine takeW (i := 14) (v := ?_) rfl (by kernel_rfl) (by kernel_rfl) (by kernel_rfl) (fun _ _ _ h => h) (by kernel_rfl) ?_ (by assumption) ?_
              rotate_left
              · intro w hSw; (try dsimp only at hSw); go_simp; (try with_reducible rfl)
              (try simp only [Act.put, List.setIfInBounds_toArray, List.set_cons_zero, List.set_cons_succ])
              refine takeW (i := 15) (v := ?_) rfl (by kernel_rfl) (by kernel_rfl) (by kernel_rfl) (fun _ _ _ h => h) (by kernel_rfl) ?_ (by assumption) ?_
              rotate_left
              · intro w hSw; (try dsimp only at hSw); go_simp; (try with_reducible rfl)
              (try simp only [Act.put, List.setIfInBounds_toArray, List.set_cons_zero, List.set_cons_succ])
              refine takeW (i := 16) (v := ?_) rfl (by kernel_rfl) (by kernel_rfl) (by kernel_rfl) (fun _ _ _ h => h) (by kernel_rfl) ?_ (by assumption) ?_
              rotate_left
              · intro w hSw; (try dsimp only at hSw); go_simp; (try with_reducible rfl)
              (try simp only [Act.put, List.setIfInBounds_toArray, List.set_cons_zero, List.set_cons_succ])
              refine takeW (i := 17) (v := ?_) rfl (by kernel_rfl) (by kernel_rfl) (by kernel_rfl) (fun _ _ _ h => h) (by kernel_rfl) ?_ (by assumption) ?_
              rotate_left
              · intro w hSw; (try dsimp only at hSw); go_simp; (try with_reducible rfl)
              (try simp only [Act.put, List.setIfInBounds_toArray, List.set_cons_zero, List.set_cons_succ])
              refine comesW (i := 18) rfl (by kernel_rfl) (by kernel_rfl) (fun K hK => ?_)
              go_simp
              refine (HBD _ (HS.out.at.below (HKR.out.trans (mw3.mono hkw)))).mono ?_
              rintro e w4 ⟨rfl, hx⟩
              have mw4 : Below wo.heap.size wo w4 := mw3.trans (hx.mono mw3.size)
              clear hx
              (try dsimp only)
              refine hK.out _ _ (HSK.out w4 mw4) (fun hH2 => ?_)
              clear hK K
              replace hHeld := hH2
              clear hH2
              (try simp only [Act.put, List.setIfInBounds_toArray, List.set_cons_zero, List.set_cons_succ])
              refine takeW (i := 19) (v := ?_) rfl (by kernel_rfl) (by kernel_rfl) (by kernel_rfl) (fun _ _ _ h => h) (by kernel_rfl) ?_ (by assumption) ?_
              rotate_left
              · intro w hSw; (try dsimp only at hSw); go_simp; (try with_reducible rfl)
              (try simp only [Act.put, List.setIfInBounds_toArray, List.set_cons_zero, List.set_cons_succ])
              refine takeW (i := 20) (v := ?_) rfl (by kernel_rfl) (by kernel_rfl) (by kernel_rfl) (fun _ _ _ h => h) (by kernel_rfl) ?_ (by assumption) ?_
              rotate_left
              · intro w hSw; (try dsimp only at hSw); go_simp; (try with_reducible rfl)
              (try simp only [Act.put, List.setIfInBounds_toArray, List.set_cons_zero, List.set_cons_succ])
              refine takeL (i := 21) (v := ?_) rfl (by kernel_rfl) (by kernel_rfl) (by kernel_rfl) (fun _ _ _ h => h) rfl ?_ (by assumption) ?_
              rotate_left
              · intro w hSw; (try dsimp only at hSw); go_simp; (try with_reducible rfl)
              (try simp only [Act.put, List.setIfInBounds_toArray, List.set_cons_zero, List.set_cons_succ])
              refine wpAnyH_done (by kernel_rfl) ?_ _
              clear hHeld kd HSK
              all_goals
                have mwz := mw4
                generalize w4 = wz at *
                have HLZ := hid (HL.out.below mwz)
                have HKZ := hid (HKR.out.trans (mwz.mono hkw))
                have HLI := hid (lookS_snoc R)
                have hkz : w.heap.size ≤ wz.heap.size := HKZ.out.size
                clear mwz HL HKR HBD
                obtain ⟨a0, c0, hve⟩ := HLZ.out.slice
                cases hve
                go_wp2
                go_loopw [7, 43] (fun hv i w2 => ∃ (q : Nat) (Q : List Sc) (a c : _), q ≤ R.length ∧ i = .int .i64 q ∧ hv = .slice a Q.length c ∧ Q.length ≤ L.length + q ∧ Hid (Q = lookS R k L (R.take q)) ∧ Hid (OwnH w.heap.size w2 (.slice a Q.length c) Q) ∧ Hid (Below w.heap.size w w2)) (fun _ i _ => R.length - (intOf i).toNat)
                case atStart => exact ⟨0, L, _, _, Nat.zero_le _, rfl, rfl, by omega, rfl, HLZ.out, HKZ.out⟩
                case round =>
                  obtain ⟨q, Q, a2, c2, hq, rfl, rfl, hQl, HQ, HO, HK2⟩ := hrel
                  clear HLZ HKZ
                  have hkw2 : w.heap.size ≤ wr.heap.size := HK2.out.size
                  by_cases hqt : q < R.length
                  · obtain ⟨rv, r0, hrs⟩ := HCE.out q hqt
                    have hbr : b < wr.heap.size := by omega
                    have r1 : wr.cell? ⟨b, off + q, none⟩ = some rv := (HK2.out.cell (p := ⟨b, off + q, none⟩) hb).trans r0
                    have HSN : Hid (lookS R k L (R.take (q + 1)) = stS R k (lookS R k L (R.take q)) (gR R q)) := by show _ = _; rw [takeR R q hqt, lookS_snoc]
                    have hqi : (q : Int) < (R.length : Int) := by omega
                    have hq0 : (0 : Int) ≤ (q : Int) := by omega
                    obtain ⟨r, hr⟩ : ∃ r, r = gR R q := ⟨_, rfl⟩
                    rw [← hr] at HSN hrs
                    clear r0 hr
                    by_cases hkr : k < r.length
                    · rcases hrs with ⟨_, _, _, rfl⟩ | ⟨rb, ro, rcap, rfl, hrb, hrc⟩
                      · simp at hkr
                      obtain ⟨p0, p1⟩ := (hrc k hkr).below hrb HK2.out
                      have hkri : (k : Int) < (r.length : Int) := by omega
                      have hk0 : (0 : Int) ≤ (k : Int) := by omega
                      have hrbr : rb < wr.heap.size := by omega
                      have HTO := fun W hW => specTotal (.slice (some ⟨b, off, none⟩) R.length xc) R (gd r k).1 W hW HG.out hR4
                      have HPU := fun W hW hb => specPut w.heap.size (.slice a2 Q.length c2) Q ((gd r k).1, tot R (gd r k).1) W hW hb (by omega)
                      have hpl := put_len Q ((gd r k).1, tot R (gd r k).1)
                      have HN : Hid (putS Q ((gd r k).1, tot R (gd r k).1) = lookS R k L (R.take (q + 1))) := by show _ = _; rw [HSN.out, ← HQ.out]; unfold stS; rw [if_pos hkr]
                      obtain ⟨d, hd⟩ : ∃ d, d = (gd r k).1 := ⟨_, rfl⟩
                      rw [← hd] at p0 HTO HPU hpl HN
                      generalize putS Q (d, tot R d) = Z at *
                      generalize tot R d = t at *
                      clear hd hrc p1
                      go_upto_region 10 with fail
                      have HSK : Hid (∀ W, Below wr.heap.size wr W → (fun w' : World => w'.cell? ⟨rb, ro + k * 2, none⟩ = some (.int .i64 d)) W) := fun W hW => (hW.cell hrbr).trans p0
                      have kd : Below wr.heap.size wr wr.drew := Below.drew (Below.refl _ _)
                      have hHeld := HSK.out wr.drew kd
                      refine wp_region_heldL (n := 16) (S := fun w' : World => w'.cell? ⟨rb, ro + k * 2, none⟩ = some (.int .i64 d)) (by kernel_rfl) rfl ?_
                      refine takeL (i := 0) (v := ?_) rfl (by kernel_rfl) (by kernel_rfl) (by kernel_rfl) (fun _ _ _ h => h) rfl ?_ (by assumption) ?_
                      rotate_left
                      · intro w hSw; (try dsimp only at hSw); go_simp; (try with_reducible rfl)
                      (try simp only [Act.put, List.setIfInBounds_toArray, List.set_cons_zero, List.set_cons_succ])
                      refine takeL (i := 1) (v := ?_) rfl (by kernel_rfl) (by kernel_rfl) (by kernel_rfl) (fun _ _ _ h => h) rfl ?_ (by assumption) ?_
                      rotate_left
                      · intro w hSw; (try dsimp only at hSw); go_simp; (try with_reducible rfl)
                      (try simp only [Act.put, List.setIfInBounds_toArray, List.set_cons_zero, List.set_cons_succ])
                      refine takeL (i := 2) (v := ?_) rfl (by kernel_rfl) (by kernel_rfl) (by kernel_rfl) (fun _ _ _ h => h) rfl ?_ (by assumption) ?_
                      rotate_left
                      · intro w hSw; (try dsimp only at hSw); go_simp; (try with_reducible rfl)
                      (try simp only [Act.put, List.setIfInBounds_toArray, List.set_cons_zero, List.set_cons_succ])
                      refine takeL (i := 3) (v := ?_) rfl (by kernel_rfl) (by kernel_rfl) (by kernel_rfl) (fun _ _ _ h => h) rfl ?_ (by assumption) ?_
                      rotate_left
                      · intro w hSw; (try dsimp only at hSw); go_simp; (try with_reducible rfl)
                      (try simp only [Act.put, List.setIfInBounds_toArray, List.set_cons_zero, List.set_cons_succ])
                      refine takeL (i := 4) (v := ?_) rfl (by kernel_rfl) (by kernel_rfl) (by kernel_rfl) (fun _ _ _ h => h) rfl ?_ (by assumption) ?_
                      rotate_left
                      · intro w hSw; (try dsimp only at hSw); go_simp; (try with_reducible rfl)
                      (try simp only [Act.put, List.setIfInBounds_toArray, List.set_cons_zero, List.set_cons_succ])
                      refine takeL (i := 5) (v := ?_) rfl (by kernel_rfl) (by kernel_rfl) (by kernel_rfl) (fun _ _ _ h => h) rfl ?_ (by assumption) ?_
                      rotate_left
                      · intro w hSw; (try dsimp only at hSw); go_simp; (try with_reducible rfl)
                      (try simp only [Act.put, List.setIfInBounds_toArray, List.set_cons_zero, List.set_cons_succ])
                      refine takeL (i := 6) (v := ?_) rfl (by kernel_rfl) (by kernel_rfl) (by kernel_rfl) (fun _ _ _ h => h) rfl ?_ (by assumption) ?_
                      rotate_left
                      · intro w hSw; (try dsimp only at hSw); go_simp; (try with_reducible rfl)
                      (try simp only [Act.put, List.setIfInBounds_toArray, List.set_cons_zero, List.set_cons_succ])
                      refine takeL (i := 7) (v := ?_) rfl (by kernel_rfl) (by kernel_rfl) (by kernel_rfl) (fun _ _ _ h => h) rfl ?_ (by assumption) ?_
                      rotate_left
                      · intro w hSw; (try dsimp only at hSw); go_simp; (try with_reducible rfl)
                      (try simp only [Act.put, List.setIfInBounds_toArray, List.set_cons_zero, List.set_cons_succ])
                      refine takeL (i := 8) (v := ?_) rfl (by kernel_rfl) (by kernel_rfl) (by kernel_rfl) (fun _ _ _ h => h) rfl ?_ (by assumption) ?_
                      rotate_left
                      · intro w hSw; (try dsimp only at hSw); go_simp; (try with_reducible rfl)
                      (try simp only [Act.put, List.setIfInBounds_toArray, List.set_cons_zero, List.set_cons_succ])
                      refine takeL (i := 9) (v := ?_) rfl (by kernel_rfl) (by kernel_rfl) (by kernel_rfl) (fun _ _ _ h => h) rfl ?_ (by assumption) ?_
                      rotate_left
                      · intro w hSw; (try dsimp only at hSw); go_simp; (try with_reducible rfl)
                      (try simp only [Act.put, List.setIfInBounds_toArray, List.set_cons_zero, List.set_cons_succ])
                      refine takeL (i := 10) (v := ?_) rfl (by kernel_rfl) (by kernel_rfl) (by kernel_rfl) (fun _ _ _ h => h) rfl ?_ (by assumption) ?_
                      rotate_left
                      · intro w hSw; (try dsimp only at hSw); go_simp; (try with_reducible rfl)
                      (try simp only [Act.put, List.setIfInBounds_toArray, List.set_cons_zero, List.set_cons_succ])
                      refine takeL (i := 11) (v := ?_) rfl (by kernel_rfl) (by kernel_rfl) (by kernel_rfl) (fun _ _ _ h => h) rfl ?_ (by assumption) ?_
                      rotate_left
                      · intro w hSw; (try dsimp only at hSw); go_simp; (try with_reducible rfl)
                      (try simp only [Act.put, List.setIfInBounds_toArray, List.set_cons_zero, List.set_cons_succ])
                      refine comesL (i := 12) rfl rfl (by kernel_rfl) (fun K hK => ?_)
                      go_simp
                      refine (HTO _ (HS.out.at.below (HK2.out.trans (kd.mono hkw2)))).mono ?_
                      rintro e w3 ⟨rfl, hx⟩
                      have mw3 : Below wr.heap.size wr w3 := kd.trans (hx.mono kd.size)
                      have HO3 := hid (HO.out.below mw3)
                      have HK3 := hid (HK2.out.trans (mw3.mono hkw2))
                      have hkw3 : w.heap.size ≤ w3.heap.size := HK3.out.size
                      clear hx
                      (try dsimp only)
                      refine hK.out _ _ (HSK.out w3 mw3) (fun hH2 => ?_)
                      clear hK K
                      replace hHeld := hH2
                      clear hH2
                      (try simp only [Act.put, List.setIfInBounds_toArray, List.set_cons_zero, List.set_cons_succ])
                      refine takeL (i := 13) (v := ?_) rfl (by kernel_rfl) (by kernel_rfl) (by kernel_rfl) (fun _ _ _ h => h) rfl ?_ (by assumption) ?_
                      rotate_left
                      · intro w hSw; (try dsimp only at hSw); go_simp; (try with_reducible rfl)
                      (try simp only [Act.put, List.setIfInBounds_toArray, List.set_cons_zero, List.set_cons_succ])
                      refine comesL (i := 14) rfl rfl (by kernel_rfl) (fun K hK => ?_)
                      go_simp
                      refine (HPU _ HO3.out hkw3).mono ?_
                      rintro e w4 ⟨qa, qc, rfl, ho, hx⟩
                      have HO4 := hid ho
                      have HK4 := hid (HK3.out.trans (hx.mono hkw3))
                      have mw4 : Below wr.heap.size wr w4 := mw3.trans (hx.mono mw3.size)
                      clear ho hx
                      (try dsimp only)
                      refine hK.out _ _ (HSK.out w4 mw4) (fun hH2 => ?_)
                      clear hK K
                      replace hHeld := hH2
                      clear hH2
                      (try simp only [Act.put, List.setIfInBounds_toArray, List.set_cons_zero, List.set_cons_succ])
                      refine takeL (i := 15) (v := ?_) rfl (by kernel_rfl) (by kernel_rfl) (by kernel_rfl) (fun _ _ _ h => h) rfl ?_ (by assumption) ?_
                      rotate_left
                      · intro w hSw; (try dsimp only at hSw); go_simp; (try with_reducible rfl)
                      (try simp only [Act.put, List.setIfInBounds_toArray, List.set_cons_zero, List.set_cons_succ])
                      refine wpAnyH_done (by kernel_rfl) ?_ _
                      clear hHeld kd HSK
                      all_goals
                        go_wp2_with fail
                        refine ⟨?_, by simp [intOf]; omega⟩
                        exact ⟨q + 1, Z, _, _, by omega, by go_num, rfl, by omega, HN.out, HO4.out, HK4.out⟩
                    · have hkri : ¬ (k : Int) < (r.length : Int) := by omega
                      have HN : Hid (Q = lookS R k L (R.take (q + 1))) := by show _ = _; rw [HSN.out, ← HQ.out]; unfold stS; rw [if_neg hkr]
                      obtain ⟨ra, rc, rfl⟩ := hrs.slice
                      clear hrs
                      go_wp2
                      refine ⟨?_, by simp [intOf]; omega⟩
                      exact ⟨q + 1, Q, _, _, by omega, by go_num, rfl, by omega, HN.out, HO.out, HK2.out⟩
                  · have hqi : ¬ (q : Int) < (R.length : Int) := by omega
                    have HN : Hid (Q = thrS R (k + 1)) := by show _ = _; rw [HQ.out, List.take_of_length_le (show R.length ≤ q by omega), HE.out]; rfl
                    go_wp2
                    refine ⟨?_, by simp [intOf]; omega⟩
                    exact ⟨k + 1, Q, _, _, by omega, by go_num, rfl, by omega, HN.out, HO.out, HK2.out⟩
            · have hkN := hid (HEX.out (HST2.out.2 (by omega)))
              have huzd : decide (u ≤ z) = false := decide_eq_false huz
              go_upto_region 5 with fail
              have HSK : Hid (∀ W, Below wo.heap.size wo W → (fun w' : World => w'.cell? ⟨g, j * 2 + 1, none⟩ = some (.int .i64 u)) W) := fun W hW => (hW.cell hg1).trans c1
              have kd : Below wo.heap.size wo wo.drew := Below.drew (Below.refl _ _)
              have hHeld := HSK.out wo.drew kd
              refine wp_region_heldL (n := 22) (S := fun w' : World => w'.cell? ⟨g, j * 2 + 1, none⟩ = some (.int .i64 u)) (by kernel_rfl) rfl ?_
              refine takeL (i := 0) (v := ?_) rfl (by kernel_rfl) (by kernel_rfl) (by kernel_rfl) (fun _ _ _ h => h) rfl ?_ (by assumption) ?_
              rotate_left
              · intro w hSw; (try dsimp only at hSw); go_simp; (try with_reducible rfl)
              (try simp only [Act.put, List.setIfInBounds_toArray, List.set_cons_zero, List.set_cons_succ])
              refine takeL (i := 1) (v := ?_) rfl (by kernel_rfl) (by kernel_rfl) (by kernel_rfl) (fun _ _ _ h => h) rfl ?_ (by assumption) ?_
              rotate_left
              · intro w hSw; (try dsimp only at hSw); go_simp; (try with_reducible rfl)
              (try simp only [Act.put, List.setIfInBounds_toArray, List.set_cons_zero, List.set_cons_succ])
              refine comesL (i := 2) rfl rfl (by kernel_rfl) (fun K hK => ?_)
              go_simp
              refine (HBD _ (HS.out.at.below (HKR.out.trans (kd.mono hkw)))).mono ?_
              rintro e w3 ⟨rfl, hx⟩
              have mw3 : Below wo.heap.size wo w3 := kd.trans (hx.mono kd.size)
              clear hx
              (try dsimp only)
              refine hK.out _ _ (HSK.out w3 mw3) (fun hH2 => ?_)
              clear hK K
              replace hHeld := hH2
              clear hH2
              (try simp only [Act.put, List.setIfInBounds_toArray, List.set_cons_zero, List.set_cons_succ])
              refine takeL (i := 3) (v := ?_) rfl (by kernel_rfl) (by kernel_rfl) (by kernel_rfl) (fun _ _ _ h => h) rfl ?_ (by assumption) ?_
              rotate_left
              · intro w hSw; (try dsimp only at hSw); go_simp; (try with_reducible rfl)
              (try simp only [Act.put, List.setIfInBounds_toArray, List.set_cons_zero, List.set_cons_succ])
              refine takeL (i := 4) (v := ?_) rfl (by kernel_rfl) (by kernel_rfl) (by kernel_rfl) (fun _ _ _ h => h) rfl ?_ (by assumption) ?_
              rotate_left
              · intro w hSw; (try dsimp only at hSw); go_simp; (try with_reducible rfl)
              (try simp only [Act.put, List.setIfInBounds_toArray, List.set_cons_zero, List.set_cons_succ])
              refine takeW (i := 5) (v := ?_) rfl (by kernel_rfl) (by kernel_rfl) (by kernel_rfl) (fun _ _ _ h => h) (by kernel_rfl) ?_ (by assumption) ?_
              rotate_left
              · intro w hSw; (try dsimp only at hSw); go_simp; (try with_reducible rfl)
              (try simp only [Act.put, List.setIfInBounds_toArray, List.set_cons_zero, List.set_cons_succ])
              refine takeW (i := 6) (v := ?_) rfl (by kernel_rfl) (by kernel_rfl) (by kernel_rfl) (fun _ _ _ h => h) (by kernel_rfl) ?_ (by assumption) ?_
              rotate_left
              · intro w hSw; (try dsimp only at hSw); go_simp; (try with_reducible rfl)
              (try simp only [Act.put, List.setIfInBounds_toArray, List.set_cons_zero, List.set_cons_succ])
              refine takeW (i := 7) (v := ?_) rfl (by kernel_rfl) (by kernel_rfl) (by kernel_rfl) (fun _ _ _ h => h) (by kernel_rfl) ?_ (by assumption) ?_
              rotate_left
              · intro w hSw; (try dsimp only at hSw); go_simp; (try with_reducible rfl)
              (try simp only [Act.put, List.setIfInBounds_toArray, List.set_cons_zero, List.set_cons_succ])
              refine takeW (i := 8) (v := ?_) rfl (by kernel_rfl) (by kernel_rfl) (by kernel_rfl) (fun _ _ _ h => h) (by kernel_rfl) ?_ (by assumption) ?_
              rotate_left
              · intro w hSw; (try dsimp only at hSw); go_simp; (try with_reducible rfl)
              (try simp only [Act.put, List.setIfInBounds_toArray, List.set_cons_zero, List.set_cons_succ])
              refine takeW (i := 9) (v := ?_) rfl (by kernel_rfl) (by kernel_rfl) (by kernel_rfl) (fun _ _ _ h => h) (by kernel_rfl) ?_ (by assumption) ?_
              rotate_left
              · intro w hSw; (try dsimp only at hSw); go_simp; (try with_reducible rfl)
              (try simp only [Act.put, List.setIfInBounds_toArray, List.set_cons_zero, List.set_cons_succ])
              refine takeW (i := 10) (v := ?_) rfl (by kernel_rfl) (by kernel_rfl) (by kernel_rfl) (fun _ _ _ h => h) (by kernel_rfl) ?_ (by assumption) ?_
              rotate_left
              · intro w hSw; (try dsimp only at hSw); go_simp; (try with_reducible rfl)
              (try simp only [Act.put, List.setIfInBounds_toArray, List.set_cons_zero, List.set_cons_succ])
              refine takeW (i := 11) (v := ?_) rfl (by kernel_rfl) (by kernel_rfl) (by kernel_rfl) (fun _ _ _ h => h) (by kernel_rfl) ?_ (by assumption) ?_
              rotate_left
              · intro w hSw; (try dsimp only at hSw); go_simp; (try with_reducible rfl)
              (try simp only [Act.put, List.setIfInBounds_toArray, List.set_cons_zero, List.set_cons_succ])
              refine takeW (i := 12) (v := ?_) rfl (by kernel_rfl) (by kernel_rfl) (by kernel_rfl) (fun _ _ _ h => h) (by kernel_rfl) ?_ (by assumption) ?_
              rotate_left
              · intro w hSw; (try dsimp only at hSw); go_simp; (try with_reducible rfl)
              (try simp only [Act.put, List.setIfInBounds_toArray, List.set_cons_zero, List.set_cons_succ])
              refine takeW (i := 13) (v := ?_) rfl (by kernel_rfl) (by kernel_rfl) (by kernel_rfl) (fun _ _ _ h => h) (by kernel_rfl) ?_ (by assumption) ?_
              rotate_left
              · intro w hSw; (try dsimp only at hSw); go_simp; (try with_reducible rfl)
              (try simp only [Act.put, List.setIfInBounds_toArray, List.set_cons_zero, List.set_cons_succ])
              refine takeW (i := 14) (v := ?_) rfl (by kernel_rfl) (by kernel_rfl) (by kernel_rfl) (fun _ _ _ h => h) (by kernel_rfl) ?_ (by assumption) ?_
              rotate_left
              · intro w hSw; (try dsimp only at hSw); go_simp; (try with_reducible rfl)
              (try simp only [Act.put, List.setIfInBounds_toArray, List.set_cons_zero, List.set_cons_succ])
              refine takeW (i := 15) (v := ?_) rfl (by kernel_rfl) (by kernel_rfl) (by kernel_rfl) (fun _ _ _ h => h) (by kernel_rfl) ?_ (by assumption) ?_
              rotate_left
              · intro w hSw; (try dsimp only at hSw); go_simp; (try with_reducible rfl)
              (try simp only [Act.put, List.setIfInBounds_toArray, List.set_cons_zero, List.set_cons_succ])
              refine takeW (i := 16) (v := ?_) rfl (by kernel_rfl) (by kernel_rfl) (by kernel_rfl) (fun _ _ _ h => h) (by kernel_rfl) ?_ (by assumption) ?_
              rotate_left
              · intro w hSw; (try dsimp only at hSw); go_simp; (try with_reducible rfl)
              (try simp only [Act.put, List.setIfInBounds_toArray, List.set_cons_zero, List.set_cons_succ])
              refine takeW (i := 17) (v := ?_) rfl (by kernel_rfl) (by kernel_rfl) (by kernel_rfl) (fun _ _ _ h => h) (by kernel_rfl) ?_ (by assumption) ?_
              rotate_left
              · intro w hSw; (try dsimp only at hSw); go_simp; (try with_reducible rfl)
              (try simp only [Act.put, List.setIfInBounds_toArray, List.set_cons_zero, List.set_cons_succ])
              refine comesW (i := 18) rfl (by kernel_rfl) (by kernel_rfl) (fun K hK => ?_)
              go_simp
              refine (HBD _ (HS.out.at.below (HKR.out.trans (mw3.mono hkw)))).mono ?_
              rintro e w4 ⟨rfl, hx⟩
              have mw4 : Below wo.heap.size wo w4 := mw3.trans (hx.mono mw3.size)
              clear hx
              (try dsimp only)
              refine hK.out _ _ (HSK.out w4 mw4) (fun hH2 => ?_)
              clear hK K
              replace hHeld := hH2
              clear hH2
              (try simp only [Act.put, List.setIfInBounds_toArray, List.set_cons_zero, List.set_cons_succ])
              refine takeW (i := 19) (v := ?_) rfl (by kernel_rfl) (by kernel_rfl) (by kernel_rfl) (fun _ _ _ h => h) (by kernel_rfl) ?_ (by assumption) ?_
              rotate_left
              · intro w hSw; (try dsimp only at hSw); go_simp; (try with_reducible rfl)
              (try simp only [Act.put, List.setIfInBounds_toArray, List.set_cons_zero, List.set_cons_succ])
              refine takeW (i := 20) (v := ?_) rfl (by kernel_rfl) (by kernel_rfl) (by kernel_rfl) (fun _ _ _ h => h) (by kernel_rfl) ?_ (by assumption) ?_
              rotate_left
              · intro w hSw; (try dsimp only at hSw); go_simp; (try with_reducible rfl)
              (try simp only [Act.put, List.setIfInBounds_toArray, List.set_cons_zero, List.set_cons_succ])
              refine takeL (i := 21) (v := ?_) rfl (by kernel_rfl) (by kernel_rfl) (by kernel_rfl) (fun _ _ _ h => h) rfl ?_ (by assumption) ?_
              rotate_left
              · intro w hSw; (try dsimp only at hSw); go_simp; (try with_reducible rfl)
              (try simp only [Act.put, List.setIfInBounds_toArray, List.set_cons_zero, List.set_cons_succ])
              refine wpAnyH_done (by kernel_rfl) ?_ _
              clear hHeld kd HSK
              all_goals
                have mwz := mw4
                generalize w4 = wz at *
                have HLZ := hid (HL.out.below mwz)
                have HKZ := hid (HKR.out.trans (mwz.mono hkw))
                have hkz : w.heap.size ≤ wz.heap.size := HKZ.out.size
                have HN : Hid (A = L.take m) := by show _ = _; rw [HTT.out.2.2.2, HE.out, hkN.out]
                have HKN := hkN
                have HCU := specCut _ L m wz HLZ.out.rd (by omega)
                clear hkN mwz HL HKR HBD
                generalize L.take m = P at *
                go_wp2_with fail
                refine HCU.mono ?_
                rintro e w5 ⟨ra, rc, rfl, ho5, hb5⟩
                have HO5 := hid (ho5.mono hkz)
                have HK5 := hid (HKZ.out.trans (hb5.mono hkz))
                clear ho5 hb5 HCU HLZ HKZ
                go_wp2
                go_returns
                refine ⟨ra, rc, ?_, ?_, HK5.out⟩
                · rw [HN.out, HKN.out]; rfl
                · rw [HN.out]; exact HO5.out
end Go.Proofs.Ythdodlbhkpoadaa
