/- Program beside model, one answer: the parts of a key, its public part, checks and what a sign tells. Condition: the table of weights as it is laid. -/
import Derived.Test.YtemkkofjakpjiaaDoorDrawP
import Derived.Test.YtemkkofjakpjiaaDoorBytes
namespace Go.Proofs.YtemkkofjakpjiaaDoor
open Go.ChangeShapes Go.WideShapes Go.ChangeAt Go.RowKit Go.Deep
set_option linter.unusedVariables false

theorem checkBoth (p t : ByteArray) (v : Value) (ss : List ByteArray) (hp : p.size ≤ maxLen) (htm : t.size ≤ maxLen) (hl : ss.length ≤ 1048576) : ∃ o1 o2 : Bool,
    (∀ W, StrsAt W v ss → Table W → Calls Tryd.prog 22 #[.string p, .string t, v] W fun e w' => e = .returned (.tuple #[.bool o1, .bool o2]) ∧ Below W.heap.size W w') ∧
    (∀ W, StrsAt W v ss → Calls Tryd.prog 27 #[.string p, .string t, v] W fun e w' => e = .returned (.tuple #[.bool o1, .bool o2]) ∧ Below W.heap.size W w') := by
  by_cases h : CheckYes p t ss
  · exact ⟨_, _, fun W hW hT => implCheckYes p t v ss W hW hl h hT, fun W hW => specCheckYes p t v ss W hW hl h⟩
  · exact ⟨_, _, fun W hW hT => implCheckNo p t v ss W hp htm hW hl h hT, fun W hW => specCheckNo p t v ss W hp htm hW hl h⟩
theorem fromBoth (t : ByteArray) (v : Value) (ss : List ByteArray) (htm : t.size ≤ maxLen) (hl : ss.length ≤ 1048576) : ∃ (F : ByteArray) (o : Bool),
    (∀ W, StrsAt W v ss → Table W → Calls Tryd.prog 23 #[.string t, v] W fun e w' => e = .returned (.tuple #[.string F, .bool o]) ∧ Below W.heap.size W w') ∧
    (∀ W, StrsAt W v ss → Calls Tryd.prog 29 #[.string t, v] W fun e w' => e = .returned (.tuple #[.string F, .bool o]) ∧ Below W.heap.size W w') := by
  by_cases h : FromYes t ss
  · exact ⟨_, _, fun W hW hT => implFromYes t v ss W hW hl h hT, fun W hW => specFromYes t v ss W hW hl h⟩
  · exact ⟨_, _, fun W hW hT => implFromNo t v ss W htm hW hl h hT, fun W hW => specFromNo t v ss W htm hW hl h⟩
theorem pubBoth (s : ByteArray) (hm : s.size ≤ maxLen) : ∃ (F : ByteArray) (o : Bool),
    (∀ W, Table W → Calls Tryd.prog 17 #[.string s] W fun e w' => e = .returned (.tuple #[.string F, .bool o]) ∧ Below W.heap.size W w') ∧
    (∀ W, Calls Tryd.prog 18 #[.string s] W fun e w' => e = .returned (.tuple #[.string F, .bool o]) ∧ Below W.heap.size W w') := by
  by_cases h : 1 ≤ s.size ∧ s.size ≤ 16
  · exact ⟨_, _, fun W hT => implPubYes s W h.1 h.2 hT, fun W => specPubYes s W h.1 h.2⟩
  · exact ⟨_, _, fun W hT => implPubNo s W hm h, fun W => specPubNo s W hm h⟩
theorem rowStrs {base : Nat} {w : World} {g cap : Nat} {ss : List ByteArray} (hl : ss.length = 11) (h : OwnRow base w g 11 (fun i => .string (ss.getD i ByteArray.empty))) : StrsAt w (.slice (some ⟨g, 0, none⟩) 11 cap) ss := by
  have h' : OwnRow base w g ss.length (fun i => .string (ss.getD i ByteArray.empty)) := by rw [hl]; exact h
  have := h'.strs cap
  rwa [hl] at this
theorem rowInts {base : Nat} {w : World} {g cap : Nat} {zs : List Int} (hl : zs.length = 11) (h : OwnRow base w g 11 (fun i => .int .i64 (zs.getD i 0))) : IntsAt w (.slice (some ⟨g, 0, none⟩) 11 cap) zs := by
  have h' : OwnRow base w g zs.length (fun i => .int .i64 (zs.getD i 0)) := by rw [hl]; exact h
  have := h'.ints cap
  rwa [hl] at this
theorem keysBoth (s : ByteArray) (hm : s.size ≤ maxLen) : ∃ (ss : List ByteArray) (o : Bool), ss.length ≤ 11 ∧
    (∀ W, Table W → Calls Tryd.prog 19 #[.string s] W fun e w' => ∃ v, e = .returned (.tuple #[v, .bool o]) ∧ StrsAt w' v ss ∧ Below W.heap.size W w') ∧
    (∀ W, Calls Tryd.prog 20 #[.string s] W fun e w' => ∃ v, e = .returned (.tuple #[v, .bool o]) ∧ StrsAt w' v ss ∧ Below W.heap.size W w') := by
  by_cases h : 1 ≤ s.size ∧ s.size ≤ 16
  · refine ⟨keysB s, true, by rw [keysB_len]; omega, fun W hT => (implKeysYes s W h.1 h.2 hT).mono ?_, fun W => (specKeysYes s W h.1 h.2).mono ?_⟩
    all_goals
      rintro e w' ⟨g, cap, rfl, ho, hb⟩
      exact ⟨_, rfl, rowStrs (keysB_len s) ho, hb⟩
  · refine ⟨[], false, by simp, fun W hT => (implKeysNo s W hm h).mono ?_, fun W => (specKeysNo s W hm h).mono ?_⟩
    all_goals
      rintro e w' ⟨rfl, hb⟩
      exact ⟨_, rfl, .inl ⟨_, _, rfl, rfl⟩, hb⟩
theorem signB_good (s t : ByteArray) : GoodS (signB s t) := ⟨signB_len s t, fun i hi => signB_four s t _ (getD_mem _ i hi)⟩
/-- A sign is held by the public part of its key, and tells it. -/
theorem checkOwn (s t : ByteArray) (v : Value) (h2 : t.size ≤ 200) (W : World) (hW : StrsAt W v (signB s t)) (hT : Table W) :
    Calls Tryd.prog 22 #[.string (pubB s), .string t, v] W fun e w' => e = .returned (.tuple #[.bool true, .bool true]) ∧ Below W.heap.size W w' := by
  have hps : (pubB s).size = 4 := by unfold pubB; exact digestB_size _ _
  have h := implCheckYes (pubB s) t v (signB s t) W hW (by rw [signB_len]; omega) ⟨hps, h2, signB_good s t⟩ hT
  rw [from_sign, beq_self_eq_true] at h
  exact h
theorem fromOwn (s t : ByteArray) (v : Value) (h2 : t.size ≤ 200) (W : World) (hW : StrsAt W v (signB s t)) (hT : Table W) :
    Calls Tryd.prog 23 #[.string t, v] W fun e w' => e = .returned (.tuple #[.string (pubB s), .bool true]) ∧ Below W.heap.size W w' := by
  have h := implFromYes t v (signB s t) W hW (by rw [signB_len]; omega) ⟨h2, signB_good s t⟩ hT
  rw [from_sign] at h
  exact h
theorem chainUp (s : ByteArray) (n : Nat) (W : World) (hs : s.size = 4) (hn : n ≤ 15) (hT : Table W) :
    Calls Tryd.prog 25 #[.string s, .int .i64 0, .int .i64 n] W fun e w' => e = .returned (.tuple #[.string (chainB s 0 n), .bool true]) ∧ Below W.heap.size W w' := implChainYes s 0 n W hs (by omega) hT
end Go.Proofs.YtemkkofjakpjiaaDoor
