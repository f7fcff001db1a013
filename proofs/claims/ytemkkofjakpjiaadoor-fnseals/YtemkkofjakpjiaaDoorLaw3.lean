/- Small facts for the laws of chapter 3: what a row's own reading of a list within a struct gives; lists over writes beyond them. No condition. -/
import Derived.Test.YtemkkofjakpjiaaDoorLaws3
import Derived.Test.YtemkkofjakpjiaaDoorBoxes
import Derived.Test.YtemkkofjakpjiaaDoorImplText
namespace Go.Proofs.YtemkkofjakpjiaaDoor
open Go.ChangeShapes Go.WideShapes Go.ChangeAt Go.RowKit Go.Deep
set_option linter.unusedVariables false

theorem strs_of1 {H : Type} {enc : TypeId × Value → H} {W : World} {base : Nat} {held : Bool} {n : Nat} {v : Value} {y : DataW H × List MemPlace}
    (h : DataW.trod enc Tryd.prog W base (fun _ => true) held n 25 [v] = some y) : ∃ ss, StrsAt W v ss ∧ ss.length ≤ maxLen ∧ ∀ s ∈ ss, s.size ≤ maxLen := by
  have hv : ∃ ad len cap, v = .slice ad len cap := by
    rcases open_strings Tryd.underlying25 Tryd.underlying9 (by kernel_rfl) h with ⟨hcs, _⟩ | ⟨x, l, c, zs, hcs, _⟩
    · simp at hcs; exact ⟨_, _, _, hcs⟩
    · simp at hcs; exact ⟨_, _, _, hcs⟩
  obtain ⟨ad, len, cap, rfl⟩ := hv
  exact strs_of (d := y.1) (p := y.2) ⟨n, h⟩
theorem hide3 {p : Prop} (h : p) : Hid p := h
theorem unhide3 {p : Prop} (h : Hid p) : p := h
theorem row3 {base : Nat} {w : World} {g cap : Nat} {ss : List ByteArray} (hl : ss.length = 3) (h : OwnRow base w g 3 (fun i => .string (ss.getD i ByteArray.empty))) : StrsAt w (.slice (some ⟨g, 0, none⟩) 3 cap) ss := by
  have h' : OwnRow base w g ss.length (fun i => .string (ss.getD i ByteArray.empty)) := by rw [hl]; exact h
  have := h'.strs cap
  rwa [hl] at this
theorem row11 {base : Nat} {w : World} {g cap : Nat} {ss : List ByteArray} (hl : ss.length = 11) (h : OwnRow base w g 11 (fun i => .string (ss.getD i ByteArray.empty))) : StrsAt w (.slice (some ⟨g, 0, none⟩) 11 cap) ss := by
  have h' : OwnRow base w g ss.length (fun i => .string (ss.getD i ByteArray.empty)) := by rw [hl]; exact h
  have := h'.strs cap
  rwa [hl] at this
theorem checkTBoth (p t : ByteArray) (n : Int) (ss ws : List ByteArray) (hp : p.size ≤ maxLen) (htm : t.size ≤ maxLen) (hl1 : ss.length ≤ 1048576) (hl2 : ws.length ≤ 1048576) : ∃ o1 o2 : Bool,
    (∀ v1 v2 W, StrsAt W v1 ss → StrsAt W v2 ws → Table W → Calls Tryd.prog 38 #[.string p, .string t, .agg #[.int .i64 n, v1, v2]] W fun e w' => e = .returned (.tuple #[.bool o1, .bool o2]) ∧ Below W.heap.size W w') ∧
    (∀ v1 v2 W, StrsAt W v1 ss → StrsAt W v2 ws → Calls Tryd.prog 40 #[.string p, .string t, .agg #[.int .i64 n, v1, v2]] W fun e w' => e = .returned (.tuple #[.bool o1, .bool o2]) ∧ Below W.heap.size W w') := by
  by_cases h : CheckTYes p t n ss ws
  · have h0 := h.2.2.1.1
    obtain ⟨N, rfl⟩ := Int.eq_ofNat_of_zero_le h0
    exact ⟨_, _, fun v1 v2 W h1 h2 hT => implCheckTYes p t N v1 v2 ss ws W h1 h2 hl1 hl2 h hT, fun v1 v2 W h1 h2 => specCheckTYes p t N v1 v2 ss ws W h1 h2 hl1 hl2 h⟩
  · exact ⟨_, _, fun v1 v2 W h1 h2 hT => implCheckTNo p t n v1 v2 ss ws W hp htm h1 h2 hl1 hl2 h hT, fun v1 v2 W h1 h2 => specCheckTNo p t n v1 v2 ss ws W hp htm h1 h2 hl1 hl2 h⟩
end Go.Proofs.YtemkkofjakpjiaaDoor
