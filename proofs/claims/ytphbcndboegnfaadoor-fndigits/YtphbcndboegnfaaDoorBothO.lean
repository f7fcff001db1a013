/- Program beside model, one answer: the parts of a key, its public part, checks and what a sign tells. Condition: the table of weights as it is laid. -/
import Derived.Test.YtphbcndboegnfaaDoorDrawP
import Derived.Test.YtphbcndboegnfaaDoorBytes
namespace Go.Proofs.YtphbcndboegnfaaDoor
open Go.ChangeShapes Go.WideShapes Go.ChangeAt Go.RowKit Go.Deep
set_option linter.unusedVariables false

theorem checkBoth (p t : ByteArray) (v : Value) (ss : List ByteArray) (hp : p.size ≤ maxLen) (htm : t.size ≤ maxLen) (hl : ss.length ≤ 1048576) : ∃ o1 o2 : Bool,
    (∀ W, StrsAt W v ss → Table W → Calls Tryd.prog 20 #[.string p, .string t, v] W fun e w' => e = .returned (.tuple #[.bool o1, .bool o2]) ∧ Below W.heap.size W w') ∧
    (∀ W, StrsAt W v ss → Calls Tryd.prog 25 #[.string p, .string t, v] W fun e w' => e = .returned (.tuple #[.bool o1, .bool o2]) ∧ Below W.heap.size W w') := by
  by_cases h : CheckYes p t ss
  · exact ⟨_, _, fun W hW hT => implCheckYes p t v ss W hW hl h hT, fun W hW => specCheckYes p t v ss W hW hl h⟩
  · exact ⟨_, _, fun W hW hT => implCheckNo p t v ss W hp htm hW hl h hT, fun W hW => specCheckNo p t v ss W hp htm hW hl h⟩
theorem fromBoth (t : ByteArray) (v : Value) (ss : List ByteArray) (htm : t.size ≤ maxLen) (hl : ss.length ≤ 1048576) : ∃ (F : ByteArray) (o : Bool),
    (∀ W, StrsAt W v ss → Table W → Calls Tryd.prog 21 #[.string t, v] W fun e w' => e = .returned (.tuple #[.string F, .bool o]) ∧ Below W.heap.size W w') ∧
    (∀ W, StrsAt W v ss → Calls Tryd.prog 27 #[.string t, v] W fun e w' => e = .returned (.tuple #[.string F, .bool o]) ∧ Below W.heap.size W w') := by
  by_cases h : FromYes t ss
  · exact ⟨_, _, fun W hW hT => implFromYes t v ss W hW hl h hT, fun W hW => specFromYes t v ss W hW hl h⟩
  · exact ⟨_, _, fun W hW hT => implFromNo t v ss W htm hW hl h hT, fun W hW => specFromNo t v ss W htm hW hl h⟩
theorem pubBoth (s : ByteArray) (hm : s.size ≤ maxLen) : ∃ (F : ByteArray) (o : Bool),
    (∀ W, Table W → Calls Tryd.prog 15 #[.string s] W fun e w' => e = .returned (.tuple #[.string F, .bool o]) ∧ Below W.heap.size W w') ∧
    (∀ W, Calls Tryd.prog 16 #[.string s] W fun e w' => e = .returned (.tuple #[.string F, .bool o]) ∧ Below W.heap.size W w') := by
  by_cases h : 1 ≤ s.size ∧ s.size ≤ 16
  · exact ⟨_, _, fun W hT => implPubYes s W h.1 h.2 hT, fun W => specPubYes s W h.1 h.2⟩
  · exact ⟨_, _, fun W hT => implPubNo s W hm h, fun W => specPubNo s W hm h⟩
theorem rowStrs {base : Nat} {w : World} {g cap : Nat} {ss : List ByteArray} (hl : ss.length = 11) (h : OwnRow base w g 11 (fun i => .string (ss.getD i ByteArray.empty))) : StrsAt w (.slice (some ⟨g, 0, none⟩) 11 cap) ss := by
  have h' : OwnRow base w g ss.length (fun i => .string (ss.getD i ByteArray.empty)) := by rw [hl]; exact h
  have := h'.strs cap
  rwa [hl] at this
theorem rowInts {base : Nat} {w : World} {g cap : Nat} {zs : List Int} (hl : zs.length = 11) (h : OwnRow base w g 11 (fun i => .int .i64 (zs.getD i 0))) : IntsAt w (.slice (some ⟨g, 0, none⟩) 11 cap) zs := by
  have h' : OwnRow base w g zs.length (fun i => .int .i64 (zs.getD i 0)) := by rw [hl]; exact h
  have := h'.ints cap
  rwa [hl] at this
theorem keysBoth (s : ByteArray) (hm : s.size ≤ maxLen) : ∃ (ss : List ByteArray) (o : Bool), ss.length ≤ 11 ∧
    (∀ W, Table W → Calls Tryd.prog 17 #[.string s] W fun e w' => ∃ v, e = .returned (.tuple #[v, .bool o]) ∧ StrsAt w' v ss ∧ Below W.heap.size W w') ∧
    (∀ W, Calls Tryd.prog 18 #[.string s] W fun e w' => ∃ v, e = .returned (.tuple #[v, .bool o]) ∧ StrsAt w' v ss ∧ Below W.heap.size W w') := by
  by_cases h : 1 ≤ s.size ∧ s.size ≤ 16
  · refine ⟨keysB s, true, by rw [keysB_len]; omega, fun W hT => (implKeysYes s W h.1 h.2 hT).mono ?_, fun W => (specKeysYes s W h.1 h.2).mono ?_⟩
    all_goals
      rintro e w' ⟨g, cap, rfl, ho, hb⟩
      exact ⟨_, rfl, rowStrs (keysB_len s) ho, hb⟩
  · refine ⟨[], false, by simp, fun W hT => (implKeysNo s W hm h).mono ?_, fun W => (specKeysNo s W hm h).mono ?_⟩
    all_goals
      rintro e w' ⟨rfl, hb⟩
      exact ⟨_, rfl, .inl ⟨_, _, rfl, rfl⟩, hb⟩
theorem digitsBoth (s : ByteArray) (hm : s.size ≤ maxLen) : ∃ (zs : List Int) (o : Bool), (o = false → zs = []) ∧ (o = true → zs = digs s) ∧
    (∀ W, Table W → Calls Tryd.prog 22 #[.string s] W fun e w' => ∃ v, e = .returned (.tuple #[v, .bool o]) ∧ IntsAt w' v zs ∧ Below W.heap.size W w') ∧
    (∀ W, Calls Tryd.prog 29 #[.string s] W fun e w' => ∃ v, e = .returned (.tuple #[v, .bool o]) ∧ IntsAt w' v zs ∧ Below W.heap.size W w') := by
  by_cases h : s.size ≤ 200
  · refine ⟨digs s, true, fun e => (by cases e), fun _ => rfl, fun W hT => (implDigitsYes s W h hT).mono ?_, fun W => (specDigitsYes s W h).mono ?_⟩
    all_goals
      rintro e w' ⟨g, cap, rfl, ho, hb⟩
      exact ⟨_, rfl, rowInts (digs_len s) ho, hb⟩
  · refine ⟨[], false, fun _ => rfl, fun e => (by cases e), fun W hT => (implDigitsNo s W hm (by omega)).mono ?_, fun W => (specDigitsNo s W hm (by omega)).mono ?_⟩
    all_goals
      rintro e w' ⟨rfl, hb⟩
      exact ⟨_, rfl, .inl ⟨_, _, rfl, rfl⟩, hb⟩
theorem chainBoth (s : ByteArray) (f b : Int) (hm : s.size ≤ maxLen) (wf : (Lit.int .i64 f).wf = true) (wb : (Lit.int .i64 b).wf = true) : ∃ (F : ByteArray) (o : Bool), (o = true → ChainYes s.size f b ∧ F = chainB s f.toNat b.toNat) ∧
    (∀ W, Table W → Calls Tryd.prog 23 #[.string s, .int .i64 f, .int .i64 b] W fun e w' => e = .returned (.tuple #[.string F, .bool o]) ∧ Below W.heap.size W w') ∧
    (∀ W, Calls Tryd.prog 33 #[.string s, .int .i64 f, .int .i64 b] W fun e w' => e = .returned (.tuple #[.string F, .bool o]) ∧ Below W.heap.size W w') := by
  by_cases h : ChainYes s.size f b
  · obtain ⟨h1, h2, h3, h4⟩ := id h
    obtain ⟨N, rfl⟩ := Int.eq_ofNat_of_zero_le h2
    obtain ⟨B, rfl⟩ := Int.eq_ofNat_of_zero_le h3
    exact ⟨chainB s N B, true, fun _ => ⟨h, rfl⟩, fun W hT => implChainYes s N B W h1 (by omega) hT, fun W => specChainYes s N B W h1 (by omega)⟩
  · exact ⟨ByteArray.empty, false, fun e => (by cases e), fun W hT => implChainNo s f b W hm wf wb h, fun W => specChainNo s f b W hm wf wb h⟩
theorem belowBoth (v1 v2 : Value) (zs ys : List Int) (hl1 : zs.length ≤ 1048576) (hl2 : ys.length ≤ 1048576) : ∃ o1 o2 : Bool,
    (∀ W, IntsAt W v1 zs → IntsAt W v2 ys → Calls Tryd.prog 31 #[v1, v2] W fun e w' => e = .returned (.tuple #[.bool o1, .bool o2]) ∧ Below W.heap.size W w') ∧
    (∀ W, IntsAt W v1 zs → IntsAt W v2 ys → Calls Tryd.prog 36 #[v1, v2] W fun e w' => e = .returned (.tuple #[.bool o1, .bool o2]) ∧ Below W.heap.size W w') := by
  by_cases h : BothZ zs ys
  · exact ⟨_, _, fun W h1 h2 => implBelowYes v1 v2 zs ys W h1 h2 h, fun W h1 h2 => specBelowYes v1 v2 zs ys W h1 h2 h⟩
  · exact ⟨_, _, fun W h1 h2 => implBelowNo v1 v2 zs ys W h1 h2 hl1 hl2 h, fun W h1 h2 => specBelowNo v1 v2 zs ys W h1 h2 hl1 hl2 h⟩

theorem signB_good (s t : ByteArray) : GoodS (signB s t) := ⟨signB_len s t, fun i hi => signB_four s t _ (getD_mem _ i hi)⟩
/-- A sign is held by the public part of its key, and tells it. -/
theorem checkOwn (s t : ByteArray) (v : Value) (h2 : t.size ≤ 200) (W : World) (hW : StrsAt W v (signB s t)) (hT : Table W) :
    Calls Tryd.prog 20 #[.string (pubB s), .string t, v] W fun e w' => e = .returned (.tuple #[.bool true, .bool true]) ∧ Below W.heap.size W w' := by
  have hps : (pubB s).size = 4 := by unfold pubB; exact digestB_size _ _
  have h := implCheckYes (pubB s) t v (signB s t) W hW (by rw [signB_len]; omega) ⟨hps, h2, signB_good s t⟩ hT
  rw [from_sign, beq_self_eq_true] at h
  exact h
theorem fromOwn (s t : ByteArray) (v : Value) (h2 : t.size ≤ 200) (W : World) (hW : StrsAt W v (signB s t)) (hT : Table W) :
    Calls Tryd.prog 21 #[.string t, v] W fun e w' => e = .returned (.tuple #[.string (pubB s), .bool true]) ∧ Below W.heap.size W w' := by
  have h := implFromYes t v (signB s t) W hW (by rw [signB_len]; omega) ⟨h2, signB_good s t⟩ hT
  rw [from_sign] at h
  exact h
theorem chainUp (s : ByteArray) (n : Nat) (W : World) (hs : s.size = 4) (hn : n ≤ 15) (hT : Table W) :
    Calls Tryd.prog 23 #[.string s, .int .i64 0, .int .i64 n] W fun e w' => e = .returned (.tuple #[.string (chainB s 0 n), .bool true]) ∧ Below W.heap.size W w' := implChainYes s 0 n W hs (by omega) hT
end Go.Proofs.YtphbcndboegnfaaDoor
