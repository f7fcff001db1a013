/- Contracts of IsBelow, program and model. Condition: the lists lie in memory. -/
import Derived.Test.YtemkkofjakpjiaaDoorOwn2
import Derived.RegionTactic
namespace Go.Proofs.YtemkkofjakpjiaaDoor
open Go.ChangeShapes Go.WideShapes Go.ChangeAt Go.RowKit Go.Deep
set_option linter.unusedVariables false

/-- Each number from nought to fifteen. -/
def allZB (zs : List Int) : Bool := zs.all fun d => decide (0 ≤ d ∧ d ≤ 15)
def goodZB (zs : List Int) : Bool := decide (zs.length = 11) && allZB zs
def belowB (zs ys : List Int) : Bool := (List.range 11).all fun k => decide (zs.getD k 0 ≤ ys.getD k 0)
theorem getD_memZ (zs : List Int) (k : Nat) (h : k < zs.length) : zs.getD k 0 ∈ zs := by simp [List.getD, h]
theorem allZB_true {zs : List Int} (h : ∀ i, i < zs.length → 0 ≤ zs.getD i 0 ∧ zs.getD i 0 ≤ 15) : allZB zs = true := by
  simp only [allZB, List.all_eq_true, decide_eq_true_eq]
  intro d hd
  obtain ⟨i, hi, he⟩ := List.getElem_of_mem hd
  have := h i hi
  simpa [List.getD, hi, he] using this
theorem allZB_false {zs : List Int} {i : Nat} (hi : i < zs.length) (h : ¬ (0 ≤ zs.getD i 0 ∧ zs.getD i 0 ≤ 15)) : allZB zs = false := by
  cases e : allZB zs
  · rfl
  · simp only [allZB, List.all_eq_true, decide_eq_true_eq] at e
    exact absurd (e _ (getD_memZ zs i hi)) h
theorem belowB_true {zs ys : List Int} (h : ∀ k, k < 11 → zs.getD k 0 ≤ ys.getD k 0) : belowB zs ys = true := by
  simp only [belowB, List.all_eq_true, decide_eq_true_eq, List.mem_range]; exact h
theorem belowB_false {zs ys : List Int} {k : Nat} (hk : k < 11) (h : ¬ zs.getD k 0 ≤ ys.getD k 0) : belowB zs ys = false := by
  cases e : belowB zs ys
  · rfl
  · simp only [belowB, List.all_eq_true, decide_eq_true_eq, List.mem_range] at e
    exact absurd (e k hk) h
theorem goodZB_true {zs : List Int} (h : goodZB zs = true) : zs.length = 11 ∧ allZB zs = true := by
  simpa [goodZB] using h

theorem rowZ {w : World} {v : Value} {zs : List Int} (h : IntsAt w v zs) (hl : zs.length = 11) : ∃ b off cap, v = .slice (some ⟨b, off, none⟩) 11 cap ∧ b < w.heap.size ∧ ∀ i, i < 11 → w.cell? ⟨b, off + i, none⟩ = some (.int .i64 (zs.getD i 0)) := by
  rcases h with ⟨a0, c0, rfl, rfl⟩ | ⟨b, off, cap, rfl, hb, hcell⟩
  · simp at hl
  · rw [hl] at hcell
    exact ⟨b, off, cap, by rw [hl], hb, hcell⟩
/-- Both are good digits. -/
def BothZ (zs ys : List Int) : Prop := goodZB zs = true ∧ goodZB ys = true

theorem intsForm {w : World} {v : Value} {zs : List Int} (h : IntsAt w v zs) : ∃ a c, v = .slice a zs.length c := by
  rcases h with ⟨a, c, rfl, rfl⟩ | ⟨b, off, cap, rfl, _, _⟩
  · exact ⟨a, c, rfl⟩
  · exact ⟨_, _, rfl⟩
end Go.Proofs.YtemkkofjakpjiaaDoor
