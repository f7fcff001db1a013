/- Copies of lists of scores, and the first few taken out of a heap. Condition: the list lies in memory. -/
import Derived.Test.YthdodlbhkpoadaaHeapV
import Derived.Lib.BufferMore
namespace Go.Proofs.Ythdodlbhkpoadaa
open Go.ChangeShapes Go.WideShapes Go.ChangeAt Go.RowKit Go.Deep
set_option linter.unusedVariables false
attribute [local go_sem ↓] Go.wp_at_zero Go.wp_at_succ

theorem off_below {S : List Nat} {a b : World} {B : Nat} (h : Off S a b) (hB : B ≤ a.heap.size) (hs : ∀ g ∈ S, B ≤ g) : Below B a b := h.below hB hs
set_option maxHeartbeats 1600000 in
set_option maxRecDepth 100000 in
theorem implCloneA (x : Value) (l : List Sc) (w : World) (h : RdS w x l) (hl : l.length ≤ 1048576) :
    Calls Try.prog 74 #[x] w fun e w' => ∃ qa qc, e = .returned (.slice qa l.length qc) ∧ OwnH w.heap.size w' (.slice qa l.length qc) l ∧ Below w.heap.size w w' := by
  have H := hid h
  obtain ⟨h1, ao, c, hv, h3, h4, h5⟩ := h
  subst hv
  cases ao with
  | none =>
    obtain ⟨hl0, hc0⟩ := h4 rfl
    have hle : l = [] := List.eq_nil_of_length_eq_zero hl0
    subst hle
    subst hc0
    clear H h1 h3 h4 h5
    simp only [List.length_nil]
    have he := fun w => Go.Lib.run_eql_slice_nil_nil (P := Try.prog) w 0 0 Try.underlying26
    go_enter Try.func74, Try.ntmps74
    go_wp2
    go_returns
    exact ⟨_, _, rfl, OwnH.nil _ _, Below.refl _ _⟩
  | some ad =>
    have HO := hid (own0 w w.heap.size (Nat.le_refl _))
    have HR := hid (H.out.below (al_ w (.cells #[] 33)))
    have he := fun w => Go.Lib.run_eql_slice_some_nil (P := Try.prog) w ad l.length c Try.underlying26
    clear h1 h3 h4 h5
    go_enter Try.func74, Try.ntmps74
    go_wp2_with (first | (at_builtin; refine wplH rfl _ _ 26 Try.underlying26 rfl w.heap.size _ [] HO.out _ l l.length rfl HR.out (by simp; omega) (by simp) rfl rfl ?_) | fail)
    intro qa qc w1 ho1 hf1 hg1
    have HO1 := hid ho1
    have HK : Hid (Below w.heap.size w w1) := (al_ w (.cells #[] 33)).trans (hf1.below (by simp) (fun g hg => by simp [hbl, Value.ownBlock] at hg; omega))
    clear ho1 hf1 hg1 HO HR
    go_wp2
    go_returns
    exact ⟨_, _, rfl, HO1.out, HK.out⟩
set_option maxHeartbeats 1600000 in
set_option maxRecDepth 100000 in
theorem implCloneH (x : Value) (l : List Sc) (w : World) (h : RdS w x l) (hl : l.length ≤ 1048576) :
    Calls Try.prog 79 #[x] w fun e w' => ∃ qa qc, e = .returned (.slice qa l.length qc) ∧ OwnH w.heap.size w' (.slice qa l.length qc) l ∧ Below w.heap.size w w' := by
  have H := hid h
  obtain ⟨h1, ao, c, hv, h3, h4, h5⟩ := h
  subst hv
  cases ao with
  | none =>
    obtain ⟨hl0, hc0⟩ := h4 rfl
    have hle : l = [] := List.eq_nil_of_length_eq_zero hl0
    subst hle
    subst hc0
    clear H h1 h3 h4 h5
    simp only [List.length_nil]
    have he := fun w => Go.Lib.run_eql_slice_nil_nil (P := Try.prog) w 0 0 Try.underlying63
    go_enter Try.func79, Try.ntmps79
    go_wp2
    go_returns
    exact ⟨_, _, rfl, OwnH.nil _ _, Below.refl _ _⟩
  | some ad =>
    have HO := hid (own0 w w.heap.size (Nat.le_refl _))
    have HR := hid (H.out.below (al_ w (.cells #[] 33)))
    have he := fun w => Go.Lib.run_eql_slice_some_nil (P := Try.prog) w ad l.length c Try.underlying63
    clear h1 h3 h4 h5
    go_enter Try.func79, Try.ntmps79
    go_wp2_with (first | (at_builtin; refine wplH rfl _ _ 63 Try.underlying63 rfl w.heap.size _ [] HO.out _ l l.length rfl HR.out (by simp; omega) (by simp) rfl rfl ?_) | fail)
    intro qa qc w1 ho1 hf1 hg1
    have HO1 := hid ho1
    have HK : Hid (Below w.heap.size w w1) := (al_ w (.cells #[] 33)).trans (hf1.below (by simp) (fun g hg => by simp [hbl, Value.ownBlock] at hg; omega))
    clear ho1 hf1 hg1 HO HR
    go_wp2
    go_returns
    exact ⟨_, _, rfl, HO1.out, HK.out⟩
end Go.Proofs.Ythdodlbhkpoadaa
