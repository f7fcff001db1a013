/- Small facts on nodes and their kids. No condition. -/
import Derived.Test.YtgjcegmjhkehnaaDoorImplT
namespace Go.Proofs.YtgjcegmjhkehnaaDoor
open Go.ChangeShapes Go.WideShapes Go.ChangeAt Go.RowKit Go.Deep
set_option linter.unusedVariables false
attribute [local go_sem ↓] Go.wp_at_zero Go.wp_at_succ

/-- A kid of a node, where it lies. -/
theorem NodeP.kid {P : Nat → Prop} {w : World} {p : List Pr} {kids : List Nd} {kv vv cv : Value} (h : NodeP P w (.mk p kids) kv vv cv) {i : Nat} (hi : i < kids.length) :
    ∃ b off c x y z, cv = .slice (some ⟨b, off, none⟩) kids.length c ∧ b < w.heap.size ∧ w.cell? ⟨b, off + i * 3, none⟩ = some x ∧ w.cell? ⟨b, off + i * 3 + 1, none⟩ = some y ∧ w.cell? ⟨b, off + i * 3 + 2, none⟩ = some z ∧ NodeP P w (kids.getD i default) x y z := by
  obtain ⟨_, _, xs, hr, hn⟩ := h
  obtain ⟨⟨hl, ao, c, rfl, _, _, hc⟩, _⟩ := hr
  rcases hc with hc | ⟨b, off, rfl, hb, hcell⟩
  · omega
  · obtain ⟨x, y, z, h1, h2, h3, h4⟩ := hn.get i hi
    exact ⟨b, off, c, x, y, z, rfl, hb, hcell _ _ h1, by rw [Nat.add_assoc]; exact hcell _ _ h2, by rw [Nat.add_assoc]; exact hcell _ _ h3, h4⟩
theorem shape_kid {p : List Pr} {kids : List Nd} (h : Shape (.mk p kids)) {i : Nat} (hi : i < kids.length) : Shape (kids.getD i default) := by
  cases h with
  | mk _ _ _ _ hk => exact hk _ (by simp [List.getD, hi])
theorem shape_kids {t : Nd} (h : Shape t) : t.kids.length ≤ 5 ∧ t.prs.length ≤ 4 := by
  cases h with
  | mk p kids h4 hk _ =>
    simp only [Nd.kids, Nd.prs]
    refine ⟨?_, h4⟩
    rcases hk with rfl | hk
    · simp
    · omega
end Go.Proofs.YtgjcegmjhkehnaaDoor
