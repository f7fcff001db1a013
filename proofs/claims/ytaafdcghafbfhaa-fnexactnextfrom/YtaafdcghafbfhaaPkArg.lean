/- A packed list that comes in as an argument of a law. No condition. -/
import Derived.Test.YtaafdcghafbfhaaLawsM
import Derived.Deep.Grids
namespace Go.Proofs.Ytaafdcghafbfhaa
open Go.ChangeShapes Go.WideShapes Go.ChangeAt Go.RowKit Go.Deep
set_option linter.unusedVariables false
attribute [local go_sem ↓] Go.wp_at_zero Go.wp_at_succ

/-- What the laws' own reach lets through. -/
def ReP (p : Pk) : Prop := p.lows.length ≤ maxLen ∧ p.high.length ≤ maxLen
theorem ints_of1 {H : Type} {enc : TypeId × Value → H} {W : World} {base : Nat} {held : Bool} {n : Nat} {v : Value} {y : DataW H × List MemPlace}
    (h : DataW.trod enc Try.prog W base (fun _ => true) held n 23 [v] = some y) : ∃ zs, IntsAt W v zs ∧ zs.length ≤ maxLen := by
  have hv : ∃ ad len cap, v = .slice ad len cap := by
    rcases open_ints Try.underlying23 Try.underlying3 (by kernel_rfl) h with ⟨hcs, _⟩ | ⟨x, l, c, zs, hcs, _⟩
    · simp at hcs; exact ⟨_, _, _, hcs⟩
    · simp at hcs; exact ⟨_, _, _, hcs⟩
  obtain ⟨ad, len, cap, rfl⟩ := hv
  exact ints_of (d := y.1) (p := y.2) ⟨n, h⟩
theorem bools_of1 {H : Type} {enc : TypeId × Value → H} {W : World} {base : Nat} {held : Bool} {n : Nat} {v : Value} {y : DataW H × List MemPlace}
    (h : DataW.trod enc Try.prog W base (fun _ => true) held n 25 [v] = some y) : ∃ zs, BoolsAt W v zs ∧ zs.length ≤ maxLen := by
  rcases open_bools Try.underlying25 Try.underlying4 (by kernel_rfl) h with ⟨hcs, _⟩ | ⟨a, len, cap, B, hcs, _, hl, hm, _, hcell⟩
  · simp at hcs
    subst hcs
    exact ⟨[], .inl ⟨_, _, rfl, rfl⟩, by simp⟩
  · simp at hcs
    subst hcs
    refine ⟨(List.range len).map B, ?_, by simp; omega⟩
    by_cases h0 : len = 0
    · subst h0
      exact .inl ⟨_, _, rfl, rfl⟩
    · obtain ⟨b, off, spot⟩ := a
      have hc := hcell 0 (by omega)
      have hspot : spot = none := by simpa [Addr.add] using World.cell?_spot hc
      subst hspot
      have hadd : ∀ i, ((⟨b, off, none⟩ : Addr).add i) = ⟨b, off + i, none⟩ := fun i => by simp [Addr.add]
      refine .inr ⟨b, off, cap, by simp, by rw [hadd] at hc; exact World.block_lt_of_cell? W ⟨b, off + 0, none⟩ hc, fun i hi => ?_⟩
      have hi2 : i < len := by simpa using hi
      have := hcell i (by omega)
      rw [hadd] at this
      rw [this]
      simp [List.getD, hi2]
end Go.Proofs.Ytaafdcghafbfhaa
