/- Contract of the model's WordsOf. Condition: the text is no longer than the laws let by. -/
import Derived.Test.YtkkmnegmghllpaaImplWo
namespace Go.Proofs.Ytkkmnegmghllpaa
open Go.ChangeShapes Go.WideShapes Go.ChangeAt Go.RowKit Go.Deep
set_option linter.unusedVariables false
attribute [local go_sem ↓] Go.wp_at_zero Go.wp_at_succ
theorem words_len (s : ByteArray) : (wordsL s).length ≤ s.size := walk_room s s.size
set_option maxHeartbeats 1600000 in
theorem specWordsOf (s : ByteArray) (hs : s.size ≤ 1048576) (w : World) :
    Calls Try.prog 27 #[.string s] w fun e w' => ∃ v, e = .returned (.tuple #[v, .bool (docB s)]) ∧ OwnS w' w.heap.size 9 v (docA s).length (strsV (docA s)) ∧ Below w.heap.size w w' := by
  have HW := fun W => specWords s hs W
  have hln := words_len s
  by_cases h120 : 120 < s.size
  · have hb : docB s = false := by simp [docB]; omega
    have ha : docA s = [] := by unfold docA; rw [hb]; rfl
    rw [ha, hb]
    have hi : (120 : Int) < (s.size : Int) := by omega
    clear ha hb
    go_enter Try.func27, Try.ntmps27
    go_wp2_with fail
    refine (HW _).mono ?_
    rintro e w1 ⟨v, rfl, ho, kb⟩
    obtain ⟨va, vc, hve⟩ := (rows_of_ownS ho).slice
    subst hve
    clear ho HW
    go_wp2
    go_returns
    exact ⟨_, rfl, OwnS.nil _ _ _, kb⟩
  · have hi : ¬ (120 : Int) < (s.size : Int) := by omega
    by_cases h20 : 20 < (wordsL s).length
    · have hb : docB s = false := by simp [docB]; omega
      have ha : docA s = [] := by unfold docA; rw [hb]; rfl
      rw [ha, hb]
      have hi2 : decide ((20 : Int) < ((wordsL s).length : Int)) = true := by simp; omega
      clear ha hb
      go_enter Try.func27, Try.ntmps27
      go_wp2_with fail
      refine (HW _).mono ?_
      rintro e w1 ⟨v, rfl, ho, kb⟩
      obtain ⟨va, vc, hve⟩ := (rows_of_ownS ho).slice
      subst hve
      clear ho HW
      go_wp2
      go_returns
      exact ⟨_, rfl, OwnS.nil _ _ _, kb⟩
    · have hb : docB s = true := by simp [docB]; omega
      have ha : docA s = wordsL s := by unfold docA; rw [hb, if_pos rfl]
      rw [ha, hb]
      have hi2 : decide ((20 : Int) < ((wordsL s).length : Int)) = false := by simp; omega
      clear ha hb
      go_enter Try.func27, Try.ntmps27
      go_wp2_with fail
      refine (HW _).mono ?_
      rintro e w1 ⟨v, rfl, ho, kb⟩
      have HO := hid ho
      obtain ⟨va, vc, hve⟩ := (rows_of_ownS ho).slice
      subst hve
      clear ho HW
      go_wp2
      go_returns
      exact ⟨_, rfl, HO.out, kb⟩
end Go.Proofs.Ytkkmnegmghllpaa
