/- Shown pages: what a good one is, and how one lies in memory. No condition. -/
import Derived.Test.YtgjcegmjhkehnaaDoorNd
import Derived.Test.YtgjcegmjhkehnaaDoorStrs
namespace Go.Proofs.YtgjcegmjhkehnaaDoor
open Go.ChangeShapes Go.WideShapes Go.ChangeAt Go.RowKit Go.Deep
set_option linter.unusedVariables false

/-- A shown page. -/
structure Sh where
  keys : List ByteArray
  vals : List ByteArray
  kids : List ByteArray
  go : Int
instance : Inhabited Sh := ⟨⟨[], [], [], 0⟩⟩
def Sh.prs (p : Sh) : List Pr := p.keys.zip p.vals
/-- All that is asked of a good shown page but that its keys and values are so. -/
def CntSh (p : Sh) : Prop := p.keys.length ≤ 4 ∧ p.vals.length = p.keys.length ∧ (p.kids.length = 0 ∨ p.kids.length = p.keys.length + 1) ∧ 0 ≤ p.go ∧ p.go ≤ (p.keys.length : Int)
def GoodSh (p : Sh) : Prop := CntSh p ∧ (∀ i, i < p.kids.length → (p.kids.getD i ByteArray.empty).size = 4) ∧ Rise ByteArray.empty p.prs
/-- The three lists of a shown page as they lie in memory. -/
def ShAt (w : World) (kv vv cv : Value) (p : Sh) : Prop := StrsAt w kv p.keys ∧ StrsAt w vv p.vals ∧ StrsAt w cv p.kids
theorem ShAt.below {w w' : World} {kv vv cv : Value} {p : Sh} (h : ShAt w kv vv cv p) (hb : Below w.heap.size w w') : ShAt w' kv vv cv p := ⟨h.1.below hb, h.2.1.below hb, h.2.2.below hb⟩
/-- No list longer than the laws let through, no text longer than the form's own reach. -/
def SmSh (p : Sh) : Prop := (p.keys.length ≤ 1048576 ∧ p.vals.length ≤ 1048576 ∧ p.kids.length ≤ 1048576) ∧ (∀ s ∈ p.keys, s.size ≤ maxLen) ∧ (∀ s ∈ p.vals, s.size ≤ maxLen) ∧ ∀ s ∈ p.kids, s.size ≤ maxLen
theorem bool_of (p : Prop) : ∃ B : Bool, B = true ↔ p := by
  rcases Classical.em p with h | h
  · exact ⟨true, by simp [h]⟩
  · exact ⟨false, by simp [h]⟩
theorem bool_no {B : Bool} {p : Prop} (h : B = true ↔ p) (hp : ¬ p) : B = false := by
  cases B
  · rfl
  · exact absurd (h.1 rfl) hp
theorem prs_getD {p : Sh} {i : Nat} (h1 : i < p.keys.length) (h2 : i < p.vals.length) : p.prs.getD i default = (p.keys.getD i ByteArray.empty, p.vals.getD i ByteArray.empty) := by
  have h3 : i < (p.keys.zip p.vals).length := by simp; omega
  simp [Sh.prs, List.getD, h1, h2, List.getElem?_eq_getElem h3, List.getElem_zip]
theorem prs_len {p : Sh} (h : p.vals.length = p.keys.length) : p.prs.length = p.keys.length := by simp [Sh.prs, h]
theorem rise_snoc {L : List Pr} {i : Nat} (hi : i < L.length) (h : Rise ByteArray.empty (L.take i)) : Rise ByteArray.empty (L.take (i + 1)) ↔ goodP (L.getD i default) ∧ (i = 0 ∨ ltT (L.getD (i - 1) default).1 (L.getD i default).1) := by
  have e1 : L.take (i + 1) = L.take i ++ [L.getD i default] := by rw [List.take_succ_eq_append_getElem hi]; simp [List.getD, hi]
  rw [e1, rise_append]
  cases i with
  | zero =>
    simp only [List.take_zero, lastK_nil, Rise, ltT_nil]
    constructor
    · rintro ⟨_, h1, _⟩; exact ⟨h1, by simp⟩
    · rintro ⟨h1, _⟩; exact ⟨trivial, h1, h1.1, trivial⟩
  | succ j =>
    have e2 : L.take (j + 1) = L.take j ++ [L.getD j default] := by rw [List.take_succ_eq_append_getElem (by omega)]; simp [List.getD, (by omega : j < L.length)]
    have e3 : lastK ByteArray.empty (L.take (j + 1)) = (L.getD j default).1 := by rw [e2, lastK_snoc]
    rw [e3]
    simp only [Rise]
    constructor
    · rintro ⟨_, h1, h2, _⟩; exact ⟨h1, .inr h2⟩
    · rintro ⟨h1, h2⟩
      rcases h2 with h2 | h2
      · omega
      · exact ⟨h, h1, h2, trivial⟩
theorem rise_upto {L : List Pr} (h : Rise ByteArray.empty L) (i : Nat) : Rise ByteArray.empty (L.take i) := by
  have := h
  rw [← List.take_append_drop i L, rise_append] at this
  exact this.1
theorem strs_len {w : World} {v : Value} {ss : List ByteArray} (h : StrsAt w v ss) : ∃ a c, v = .slice a ss.length c := by
  rcases h with ⟨a0, c0, h1, rfl⟩ | ⟨b, off, cap, h1, h2, h3⟩
  · exact ⟨_, _, h1⟩
  · exact ⟨_, _, h1⟩
theorem strs_cell {w : World} {v : Value} {ss : List ByteArray} (h : StrsAt w v ss) {i : Nat} (hi : i < ss.length) : ∃ b off c, v = .slice (some ⟨b, off, none⟩) ss.length c ∧ b < w.heap.size ∧ w.cell? ⟨b, off + i, none⟩ = some (.string (ss.getD i ByteArray.empty)) := by
  rcases h with ⟨a0, c0, h1, rfl⟩ | ⟨b, off, cap, h1, h2, h3⟩
  · simp at hi
  · exact ⟨b, off, cap, h1, h2, h3 i hi⟩
theorem GoodSh.no_rise {p : Sh} {i : Nat} (hi : i < p.keys.length) (hv : i < p.vals.length) (h : Rise ByteArray.empty (p.prs.take i)) (hn : ¬ (goodP (p.keys.getD i ByteArray.empty, p.vals.getD i ByteArray.empty) ∧ (i = 0 ∨ ltT (p.keys.getD (i - 1) ByteArray.empty) (p.keys.getD i ByteArray.empty)))) : ¬ GoodSh p := by
  intro hg
  have hl : i < p.prs.length := by rw [prs_len hg.1.2.1]; exact hi
  have := (rise_snoc hl h).1 (rise_upto hg.2.2 (i + 1))
  rw [prs_getD hi hv, prs_getD (by omega) (by omega)] at this
  exact hn this
theorem rise_more {p : Sh} {i : Nat} (hi : i < p.keys.length) (hv : i < p.vals.length) (h : Rise ByteArray.empty (p.prs.take i)) (hn : goodP (p.keys.getD i ByteArray.empty, p.vals.getD i ByteArray.empty) ∧ (i = 0 ∨ ltT (p.keys.getD (i - 1) ByteArray.empty) (p.keys.getD i ByteArray.empty))) : Rise ByteArray.empty (p.prs.take (i + 1)) := by
  have hl : i < p.prs.length := by simp [Sh.prs]; omega
  refine (rise_snoc hl h).2 ?_
  rw [prs_getD hi hv, prs_getD (by omega) (by omega)]
  exact hn
end Go.Proofs.YtgjcegmjhkehnaaDoor
