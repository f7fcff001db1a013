/- What keeps a heap in order: rise and sink. Condition: the heap is the call's own. -/
import Derived.Test.YthdodlbhkpoadaaHeapI
import Derived.Test.YthdodlbhkpoadaaAppH
namespace Go.Proofs.Ythdodlbhkpoadaa
open Go.ChangeShapes Go.WideShapes Go.ChangeAt Go.RowKit Go.Deep
set_option linter.unusedVariables false
attribute [local go_sem ↓] Go.wp_at_zero Go.wp_at_succ

theorem implAbove (k : Nat) (w : World) (hk : k ≤ 1048576) (h0 : 0 < k) : Calls Try.prog 86 #[.int .i64 k] w fun e w' => e = .returned (.int .i64 (((k - 1) / 2 : Nat) : Int)) ∧ w' = w := by
  have hd : ((k : Int) - 1) / 2 = (((k - 1) / 2 : Nat) : Int) := by omega
  have hk0 : (0 : Int) ≤ (k : Int) - 1 := by omega
  go_enter Try.func86, Try.ntmps86
  go_wp2
  go_ret
  exact ⟨ret_int (by first | omega | (rw [← hd]; rfl)), rfl⟩
set_option maxHeartbeats 3200000 in
set_option maxRecDepth 100000 in
theorem implRise (base g n cap : Nat) (l : List Sc) (w : World) (h : OwnH base w (.slice (some ⟨g, 0, none⟩) n cap) l) (hn : n = l.length) (h0 : 0 < l.length) (hl : l.length ≤ 1048576) :
    Calls Try.prog 88 #[.slice (some ⟨g, 0, none⟩) n cap, .func (.func 85) #[] #[], .func (.func 89) #[] #[]] w fun e w' => e = .returned (.tuple #[]) ∧ OwnH base w' (.slice (some ⟨g, 0, none⟩) n cap) (riseL l (l.length - 1)) ∧ Off [g] w w' := by
  have H := hid h
  have HN := hid hn
  have hn1 : ((n : Int) - 1) = ((l.length - 1 : Nat) : Int) := by omega
  have hnw : IntKind.i64.wrap ((n : Int) - 1) = ((l.length - 1 : Nat) : Int) := by rw [IntKind.wrap_i64]; omega
  clear h hn
  go_enter Try.func88, Try.ntmps88
  go_wp2
  go_loopw [6] (fun kk wr => ∃ (K : Nat) (L : List Sc), kk = .int .i64 K ∧ K < l.length ∧ L.length = l.length ∧ Hid (OwnH base wr (.slice (some ⟨g, 0, none⟩) n cap) L) ∧ Hid (Off [g] w wr) ∧ Hid (riseL L K = riseL l (l.length - 1))) (fun kk _ => (intOf kk).toNat)
  case atStart => exact ⟨l.length - 1, l, by rw [← hn1], by omega, rfl, H.out, Off.refl _ _, rfl⟩
  case round =>
    obtain ⟨K, L, rfl, hK, hLl, HL, HO, HR⟩ := hrel
    by_cases hk0 : 0 < K
    · have hki : (0 : Int) < (K : Int) := by omega
      have HLE := fun W (hW : OwnH base W (.slice (some ⟨g, 0, none⟩) n cap) L) => implLess _ L K ((K - 1) / 2) W hW.at (by omega) (by omega) (by omega)
      have HSW := fun W (hW : OwnH base W (.slice (some ⟨g, 0, none⟩) n cap) L) => implSwap base g n cap L K ((K - 1) / 2) W hW (by rw [HN.out, hLl]) (by omega) (by omega) (by omega)
      have HAB := fun W => implAbove K W (by omega) hk0
      obtain ⟨J, hJ⟩ : ∃ J, J = (K - 1) / 2 := ⟨_, rfl⟩
      have hJK : J < K := by omega
      obtain ⟨B, hB⟩ : ∃ B, B = bet (gd L K) (gd L ((K - 1) / 2)) := ⟨_, rfl⟩
      rw [← hB] at HLE
      have HB := hid hB
      rw [← hJ] at HLE HSW HAB HB
      have HJ := hid hJ
      clear hB hJ
      go_wp2_with fail
      refine (HAB _).mono ?_
      rintro e w1 ⟨rfl, hw1⟩
      subst w1
      go_wp2_with fail
      refine (HLE _ HL.out).mono ?_
      rintro e w2 ⟨rfl, hb2⟩
      have HL2 := hid (HL.out.below hb2)
      have HO2 := hid (HO.out.trans (Off.of hb2))
      clear hb2 HL HO HLE
      cases B with
      | false =>
        have HF : Hid (riseL L K = L) := rise_no (fun hh => by rw [← HJ.out] at hh; rw [← HB.out] at hh; exact absurd hh.2 (by simp))
        go_wp2
        go_returns
        refine ⟨rfl, ?_, HO2.out⟩
        rw [← HR.out, HF.out]
        exact HL2.out
      | true =>
        have HF : Hid (riseL L K = riseL (sw L K J) J) := by
          show _ = _
          rw [HJ.out]
          exact rise_yes hk0 (by rw [← HJ.out]; exact HB.out.symm)
        go_wp2_with fail
        refine (HAB _).mono ?_
        rintro e w3 ⟨rfl, hw3⟩
        subst w3
        go_wp2_with fail
        refine (HSW _ HL2.out).mono ?_
        rintro e w4 ⟨rfl, hh4, ho4⟩
        have HL4 := hid hh4
        have HO4 := hid (HO2.out.trans ho4)
        clear hh4 ho4 HL2 HO2 HSW
        go_wp2_with fail
        refine (HAB _).mono ?_
        rintro e w5 ⟨rfl, hw5⟩
        subst w5
        go_wp2
        exact ⟨⟨J, sw L K J, rfl, by omega, by rw [sw_len]; exact hLl, HL4.out, HO4.out, by rw [← HF.out]; exact HR.out⟩, by simp [intOf]; omega⟩
    · have hk1 : K = 0 := by omega
      subst hk1
      have HF : Hid (riseL L 0 = L) := rise_no (fun hh => by omega)
      go_wp2
      go_returns
      refine ⟨rfl, ?_, HO.out⟩
      rw [← HR.out, HF.out]
      exact HL.out
end Go.Proofs.Ythdodlbhkpoadaa
