/- One answer for program and model: rows held against one another, bytes of rows, bounds of beginnings, rows read. No condition but the lists lying in memory. -/
import Derived.Test.YtolkiofdbdjfkaaImplCR
import Derived.Test.YtolkiofdbdjfkaaSpecRR
import Derived.Test.YtolkiofdbdjfkaaImplRR
namespace Go.Proofs.Ytolkiofdbdjfkaa
open Go.ChangeShapes Go.WideShapes Go.ChangeAt Go.RowKit Go.Deep
set_option linter.unusedVariables false

theorem bothCR (x y : Value) (a b : List VV) (hla : a.length ≤ 1048576) (hlb : b.length ≤ 1048576) (hza : ∀ v ∈ a, v.t.size ≤ maxLen) (hzb : ∀ v ∈ b, v.t.size ≤ maxLen) : ∃ c ok, ((ok = true ∧ (AllGood a ∧ a.length ≤ 6) ∧ (AllGood b ∧ b.length ≤ 6) ∧ c = cmpR a b) ∨ (ok = false ∧ c = 0)) ∧
    (∀ W, ValsAt W x a → ValsAt W y b → Calls Try.prog 27 #[x, y] W fun e w' => e = .returned (.tuple #[.int .i64 c, .bool ok]) ∧ Below W.heap.size W w') ∧
    (∀ W, ValsAt W x a → ValsAt W y b → Calls Try.prog 26 #[x, y] W fun e w' => e = .returned (.tuple #[.int .i64 c, .bool ok]) ∧ Below W.heap.size W w') := by
  by_cases h : (AllGood a ∧ a.length ≤ 6) ∧ (AllGood b ∧ b.length ≤ 6)
  · exact ⟨cmpR a b, true, .inl ⟨rfl, h.1, h.2, rfl⟩, fun W hx hy => specCRYes x y a b W hx hy h.1.2 h.2.2 h.1.1 h.2.1, fun W hx hy => implCRYes x y a b W hx hy h.1.2 h.2.2 h.1.1 h.2.1⟩
  · exact ⟨0, false, .inr ⟨rfl, rfl⟩, fun W hx hy => specCRNo x y a b W hx hy hla hlb hza hzb h, fun W hx hy => implCRNo x y a b W hx hy hla hlb hza hzb h⟩
theorem bothRB (x : Value) (a : List VV) (hla : a.length ≤ 1048576) (hza : ∀ v ∈ a, v.t.size ≤ maxLen) : ∃ s t u ok,
    (∀ W, ValsAt W x a → Calls Try.prog 36 #[x] W fun e w' => e = .returned (.tuple #[.string s, .bool ok]) ∧ Below W.heap.size W w') ∧
    (∀ W, ValsAt W x a → Calls Try.prog 28 #[x] W fun e w' => e = .returned (.tuple #[.string s, .bool ok]) ∧ Below W.heap.size W w') ∧
    (∀ W, ValsAt W x a → Calls Try.prog 37 #[x] W fun e w' => e = .returned (.tuple #[.string t, .string u, .bool ok]) ∧ Below W.heap.size W w') ∧
    (∀ W, ValsAt W x a → Calls Try.prog 32 #[x] W fun e w' => e = .returned (.tuple #[.string t, .string u, .bool ok]) ∧ Below W.heap.size W w') := by
  by_cases h : AllGood a ∧ a.length ≤ 6
  · exact ⟨_, _, _, true, fun W hx => specRBYes x a W hx h.2 h.1, fun W hx => implRBYes x a W hx h.2 h.1, fun W hx => specAfterYes x a W hx h.2 h.1, fun W hx => implAfterYes x a W hx h.2 h.1⟩
  · exact ⟨_, _, _, false, fun W hx => specRBNo x a W hx hla hza h, fun W hx => implRBNo x a W hx hla hza h, fun W hx => specAfterNo x a W hx hla hza h, fun W hx => implAfterNo x a W hx hla hza h⟩
theorem OwnVs.nilVals (w : World) : ValsAt w (.slice none 0 0) [] := .inl ⟨_, _, rfl, rfl⟩
/-- What is read of a text as a row. -/
theorem bothRR (s : ByteArray) (hm : s.size ≤ maxLen) : ∃ (vs : List VV) (ok : Bool), vs.length ≤ 6 ∧ ((ok = true ∧ RowIs s vs) ∨ (ok = false ∧ vs = [])) ∧
    (∀ W, Calls Try.prog 34 #[.string s] W fun e w' => ∃ x, e = .returned (.tuple #[x, .bool ok]) ∧ ValsAt w' x vs ∧ Below W.heap.size W w') ∧
    (∀ W, Calls Try.prog 29 #[.string s] W fun e w' => ∃ x, e = .returned (.tuple #[x, .bool ok]) ∧ ValsAt w' x vs ∧ Below W.heap.size W w') := by
  by_cases h : ∃ vs, RowIs s vs
  · obtain ⟨vs, hr⟩ := h
    refine ⟨vs, true, hr.2.1, .inl ⟨rfl, hr⟩, fun W => (specRRYes s vs W hr).mono ?_, fun W => (implRRYes s vs W hr).mono ?_⟩
    · rintro e w' ⟨x, rfl, ho, hb⟩; exact ⟨x, rfl, ho.vals, hb⟩
    · rintro e w' ⟨x, rfl, ho, hb⟩; exact ⟨x, rfl, ho.vals, hb⟩
  · have hn : ∀ vs, ¬ RowIs s vs := fun vs hv => h ⟨vs, hv⟩
    refine ⟨[], false, by simp, .inr ⟨rfl, rfl⟩, fun W => (specRRNo s W hm hn).mono ?_, fun W => (implRRNo s W hm hn).mono ?_⟩
    · rintro e w' ⟨rfl, hb⟩; exact ⟨_, rfl, OwnVs.nilVals _, hb⟩
    · rintro e w' ⟨rfl, hb⟩; exact ⟨_, rfl, OwnVs.nilVals _, hb⟩
end Go.Proofs.Ytolkiofdbdjfkaa
