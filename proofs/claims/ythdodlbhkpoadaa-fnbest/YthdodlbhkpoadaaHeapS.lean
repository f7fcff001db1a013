/- What keeps a heap in order: betterBelow and sink. Condition: the heap is the call's own. -/
import Derived.Test.YthdodlbhkpoadaaHeapI
import Derived.Test.YthdodlbhkpoadaaAppH
namespace Go.Proofs.Ythdodlbhkpoadaa
open Go.ChangeShapes Go.WideShapes Go.ChangeAt Go.RowKit Go.Deep
set_option linter.unusedVariables false
attribute [local go_sem ↓] Go.wp_at_zero Go.wp_at_succ

set_option maxHeartbeats 1600000 in
set_option maxRecDepth 100000 in
theorem implBelow (x : Value) (l : List Sc) (k : Nat) (w : World) (h : ScsAt w x l) (hk : k ≤ 1048576) (hl : l.length ≤ 1048576) :
    Calls Try.prog 93 #[x, .int .i64 k, .func (.func 85) #[] #[]] w fun e w' => e = .returned (.int .i64 (nextAt l k : Nat)) ∧ Below w.heap.size w w' := by
  have H := hid h
  obtain ⟨xa, xc, rfl⟩ := h.slice
  clear h
  by_cases h2 : 2 * k + 2 < l.length
  · have HLE := fun W hW => implLess (.slice xa l.length xc) l (2 * k + 2) (2 * k + 1) W hW h2 (by omega) hl
    have hlt : 2 * (k : Int) + 1 + 1 < (l.length : Int) := by omega
    have hc1 : ((2 * k + 2 : Nat) : Int) = 2 * (k : Int) + 1 + 1 := by omega
    have hc2 : ((2 * k + 1 : Nat) : Int) = 2 * (k : Int) + 1 := by omega
    obtain ⟨B, hB⟩ : ∃ B, B = bet (gd l (2 * k + 2)) (gd l (2 * k + 1)) := ⟨_, rfl⟩
    rw [← hB] at HLE
    rw [hc1, hc2] at HLE
    have HR : Hid ((nextAt l k : Nat) = if B = true then 2 * k + 2 else 2 * k + 1) := by
      show _ = _
      unfold nextAt
      rw [← hB]
      simp [h2]
    clear hB hc1 hc2
    go_enter Try.func93, Try.ntmps93
    go_wp2_with fail
    refine (HLE _ H.out).mono ?_
    rintro e w2 ⟨rfl, hb2⟩
    cases B
    · go_wp2
      go_ret
      exact ⟨ret_int (by rw [HR.out]; simp), hb2⟩
    · go_wp2
      go_ret
      exact ⟨ret_int (by rw [HR.out]; simp; omega), hb2⟩
  · have HR : Hid ((nextAt l k : Nat) = 2 * k + 1) := by
      show _ = _
      unfold nextAt
      rw [if_neg (fun hh => h2 hh.1)]
    have hlt : ¬ 2 * (k : Int) + 1 + 1 < (l.length : Int) := by omega
    go_enter Try.func93, Try.ntmps93
    go_wp2
    go_ret
    exact ⟨ret_int (by rw [HR.out]; simp), by go_grown⟩
set_option maxHeartbeats 3200000 in
set_option maxRecDepth 100000 in
theorem implSink (base g n cap : Nat) (l : List Sc) (w : World) (h : OwnH base w (.slice (some ⟨g, 0, none⟩) n cap) l) (hn : n = l.length) (hl : l.length ≤ 1048576) :
    Calls Try.prog 91 #[.slice (some ⟨g, 0, none⟩) n cap, .func (.func 85) #[] #[], .func (.func 89) #[] #[]] w fun e w' => e = .returned (.tuple #[]) ∧ OwnH base w' (.slice (some ⟨g, 0, none⟩) n cap) (sinkL l 0) ∧ Off [g] w w' := by
  have H := hid h
  have HN := hid hn
  have hnl : (n : Int) = (l.length : Int) := by omega
  clear h hn
  go_enter Try.func91, Try.ntmps91
  go_wp2
  go_loopw [6] (fun kk wr => ∃ (K : Nat) (L : List Sc), kk = .int .i64 K ∧ K ≤ l.length ∧ L.length = l.length ∧ Hid (OwnH base wr (.slice (some ⟨g, 0, none⟩) n cap) L) ∧ Hid (Off [g] w wr) ∧ Hid (sinkL L K = sinkL l 0)) (fun kk _ => l.length - (intOf kk).toNat)
  case atStart => exact ⟨0, l, rfl, Nat.zero_le _, rfl, H.out, Off.refl _ _, rfl⟩
  case round =>
    obtain ⟨K, L, rfl, hK, hLl, HL, HO, HR⟩ := hrel
    have HBE := fun W (hW : OwnH base W (.slice (some ⟨g, 0, none⟩) n cap) L) => implBelow _ L K W hW.at (by omega) (by omega)
    obtain ⟨J, hJ⟩ : ∃ J, J = nextAt L K := ⟨_, rfl⟩
    have hJ2 : K < J ∧ J ≤ 2 * K + 2 := by rw [hJ]; unfold nextAt; split <;> omega
    have HNB := hid (next_best L K)
    rw [← hJ] at HBE HNB
    clear hJ
    go_wp2_with fail
    refine (HBE _ HL.out).mono ?_
    rintro e w1 ⟨rfl, hb1⟩
    have HL1 := hid (HL.out.below hb1)
    have HO1 := hid (HO.out.trans (Off.of hb1))
    clear hb1 HL HO HBE
    by_cases hJl : J < l.length
    · have hji : ¬ (l.length : Int) ≤ (J : Int) := by omega
      have hji2 : ¬ (n : Int) ≤ (J : Int) := by omega
      have HLE := fun W (hW : OwnH base W (.slice (some ⟨g, 0, none⟩) n cap) L) => implLess _ L J K W hW.at (by omega) (by omega) (by omega)
      have HSW := fun W (hW : OwnH base W (.slice (some ⟨g, 0, none⟩) n cap) L) => implSwap base g n cap L K J W hW (by rw [HN.out, hLl]) (by omega) (by omega) (by omega)
      obtain ⟨B, hB⟩ : ∃ B, B = bet (gd L J) (gd L K) := ⟨_, rfl⟩
      rw [← hB] at HLE HNB
      clear hB
      go_wp2_with fail
      refine (HLE _ HL1.out).mono ?_
      rintro e w2 ⟨rfl, hb2⟩
      have HL2 := hid (HL1.out.below hb2)
      have HO2 := hid (HO1.out.trans (Off.of hb2))
      clear hb2 HL1 HO1 HLE
      cases B with
      | false =>
        have HF : Hid (sinkL L K = L) := sink_no (by rw [HNB.out, if_neg (by simp)])
        go_wp2
        go_returns
        refine ⟨rfl, ?_, HO2.out⟩
        rw [← HR.out, HF.out]
        exact HL2.out
      | true =>
        have HF : Hid (sinkL L K = sinkL (sw L K J) J) := by
          show _ = _
          have hb : bestAt L K = J := by rw [HNB.out, if_pos ⟨by omega, rfl⟩]
          have hne : bestAt L K ≠ K := by omega
          rw [sink_yes hne, hb]
        go_wp2_with fail
        refine (HSW _ HL2.out).mono ?_
        rintro e w4 ⟨rfl, hh4, ho4⟩
        have HL4 := hid hh4
        have HO4 := hid (HO2.out.trans ho4)
        clear hh4 ho4 HL2 HO2 HSW
        go_wp2
        exact ⟨⟨J, sw L K J, rfl, by omega, by rw [sw_len]; exact hLl, HL4.out, HO4.out, by rw [← HF.out]; exact HR.out⟩, by simp [intOf]; omega⟩
    · have hji : (l.length : Int) ≤ (J : Int) := by omega
      have hji2 : (n : Int) ≤ (J : Int) := by omega
      have HF : Hid (sinkL L K = L) := sink_no (by rw [HNB.out, if_neg (fun hh => by have := hh.1; omega)])
      go_wp2
      go_returns
      refine ⟨rfl, ?_, HO1.out⟩
      rw [← HR.out, HF.out]
      exact HL1.out
end Go.Proofs.Ythdodlbhkpoadaa
