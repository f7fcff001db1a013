/- Contracts of NewMix, DigestOf and ClashOf, program and model. Condition: the table of weights as it is laid. -/
import Derived.Test.YtgjcegmjhkehnaaDoorFeed
import Derived.Test.YtgjcegmjhkehnaaDoorEndJoin
namespace Go.Proofs.YtgjcegmjhkehnaaDoor
open Go.ChangeShapes Go.WideShapes Go.ChangeAt Go.RowKit
set_option linter.unusedVariables false

theorem specNewYes (k : Int) (w : World) (h0 : 97 ≤ k) (h1 : k ≤ 122) :
    Calls Tryd.prog 145 #[.int .u8 k] w fun e w' => e = .returned (.tuple #[.agg #[.int .i64 (k + 1), .int .i64 (k + 1), .int .i64 0], .bool true]) ∧ Below w.heap.size w w' := by
  go_enter Tryd.func145, Tryd.ntmps145
  go_wp2
  rw [Int.add_comm 1 k]
  go_returns
  exact ⟨rfl, by go_grown⟩
theorem implNewYes (k : Int) (w : World) (h0 : 97 ≤ k) (h1 : k ≤ 122) :
    Calls Tryd.prog 112 #[.int .u8 k] w fun e w' => e = .returned (.tuple #[.agg #[.int .i64 (k + 1), .int .i64 (k + 1), .int .i64 0], .bool true]) ∧ Below w.heap.size w w' := by
  go_enter Tryd.func112, Tryd.ntmps112
  go_wp2
  go_returns
  exact ⟨rfl, by go_grown⟩
theorem implNewNo (k : Int) (w : World) (h : ¬ (97 ≤ k ∧ k ≤ 122)) :
    Calls Tryd.prog 112 #[.int .u8 k] w fun e w' => e = .returned (.tuple #[.agg #[.int .i64 0, .int .i64 0, .int .i64 0], .bool false]) ∧ Below w.heap.size w w' := by
  by_cases h0 : 97 ≤ k
  · have h1 : ¬ k ≤ 122 := fun h1 => h ⟨h0, h1⟩
    clear h
    go_enter Tryd.func112, Tryd.ntmps112
    go_wp2
    go_returns
    exact ⟨rfl, by go_grown⟩
  · clear h
    go_enter Tryd.func112, Tryd.ntmps112
    go_wp2
    go_returns
    exact ⟨rfl, by go_grown⟩

def digestB (k : Int) (s : ByteArray) : ByteArray := endBytes (feed (k + 1, k + 1) s.data.toList).1 (feed (k + 1, k + 1) s.data.toList).2

set_option maxHeartbeats 800000 in
theorem specL1End (a b l : Int) (w : World) (ha0 : 0 ≤ a) (ha1 : a ≤ 65520) (hb0 : 0 ≤ b) (hb1 : b ≤ 65520) :
    Calls Tryd.prog 146 #[.agg #[.int .i64 a, .int .i64 b, .int .i64 l]] w fun e w' => e = .returned (.string (endBytes a b)) ∧ Below w.heap.size w w' := by
  have hcv := conv4
  go_enter Tryd.func146, Tryd.ntmps146
  go_wp2
  go_returns
  exact ⟨rfl, by go_grown⟩

set_option maxHeartbeats 800000 in
theorem specL1Digest (k : Int) (s : ByteArray) (w : World) (h0 : 97 ≤ k) (h1 : k ≤ 122) (hs : s.size ≤ 600) :
    Calls Tryd.prog 110 #[.int .u8 k, .string s] w fun e w' => e = .returned (.string (digestB k s)) ∧ Below w.heap.size w w' := by
  have hin := feed_in (k + 1, k + 1) s.data.toList (by simp only []; omega) (by simp only []; omega)
  obtain ⟨⟨hA0, hA1⟩, ⟨hB0, hB1⟩⟩ := hin
  go_enter Tryd.func110, Tryd.ntmps110
  go_wp2_with fail
  refine (specNewYes k _ h0 h1).mono ?_
  rintro e w1 ⟨rfl, hb1⟩
  obtain ⟨hc1, hf1⟩ := bcell hb1
  have hz1 := hb1.size
  try simp only [World.size_drew] at hz1
  try simp only [World.size_setCell] at hz1
  try simp only [World.size_alloc] at hz1
  clear hz1
  have k1 : Below w.heap.size w w1 := by
    refine Below.trans ?_ (hb1.mono ?_)
    · go_grown
    · go_size
  have hl1 : w.heap.size ≤ w1.heap.size := k1.size
  clear hb1
  go_wp2_with fail
  refine (specL1Feed (k + 1) (k + 1) 0 s _ (by omega) (by omega) (by omega) (by omega) (by omega) (by omega) hs).mono ?_
  rintro e w2 ⟨rfl, hb2⟩
  obtain ⟨hc2, hf2⟩ := bcell hb2
  have hz2 := hb2.size
  try simp only [World.size_drew] at hz2
  try simp only [World.size_setCell] at hz2
  try simp only [World.size_alloc] at hz2
  try have hy2_1 : w1.heap.size < w2.heap.size := (by omega)
  clear hz2
  have k2 : Below w.heap.size w w2 := by
    refine Below.trans ?_ (hb2.mono ?_)
    · go_grown
    · go_size
  have hl2 : w.heap.size ≤ w2.heap.size := k2.size
  clear hb2
  go_wp2_with fail
  refine (specL1End _ _ _ _ hA0 hA1 hB0 hB1).mono ?_
  rintro e w3 ⟨rfl, hb3⟩
  obtain ⟨hc3, hf3⟩ := bcell hb3
  have hz3 := hb3.size
  try simp only [World.size_drew] at hz3
  try simp only [World.size_setCell] at hz3
  try simp only [World.size_alloc] at hz3
  try have hy3_1 : w1.heap.size < w3.heap.size := (by omega)
  try have hy3_2 : w2.heap.size < w3.heap.size := (by omega)
  clear hz3
  have k3 : Below w.heap.size w w3 := by
    refine Below.trans ?_ (hb3.mono ?_)
    · go_grown
    · go_size
  have hl3 : w.heap.size ≤ w3.heap.size := k3.size
  clear hb3
  go_wp2
  go_returns
  exact ⟨rfl, by go_grown⟩

def DigestNo (k : Int) (n : Nat) : Prop := ¬ (97 ≤ k ∧ k ≤ 122) ∨ (97 ≤ k ∧ k ≤ 122 ∧ 600 < n)

theorem notDigestNo {k : Int} {n : Nat} (h : ¬ DigestNo k n) : 97 ≤ k ∧ k ≤ 122 ∧ n ≤ 600 := by
  unfold DigestNo at h; omega

set_option maxHeartbeats 800000 in
theorem implDigestYes (k : Int) (s : ByteArray) (w : World) (h0 : 97 ≤ k) (h1 : k ≤ 122) (hs : s.size ≤ 600) (ht : Table w) :
    Calls Tryd.prog 57 #[.int .u8 k, .string s] w fun e w' => e = .returned (.tuple #[.string (digestB k s), .bool true]) ∧ Below w.heap.size w w' := by
  have hin := feed_in (k + 1, k + 1) s.data.toList (by simp only []; omega) (by simp only []; omega)
  obtain ⟨⟨hA0, hA1⟩, ⟨hB0, hB1⟩⟩ := hin
  go_enter Tryd.func57, Tryd.ntmps57
  go_wp2_with fail
  refine (implNewYes k _ h0 h1).mono ?_
  rintro e w1 ⟨rfl, hb1⟩
  obtain ⟨hc1, hf1⟩ := bcell hb1
  have hz1 := hb1.size
  try simp only [World.size_drew] at hz1
  try simp only [World.size_setCell] at hz1
  try simp only [World.size_alloc] at hz1
  clear hz1
  have k1 : Below w.heap.size w w1 := by
    refine Below.trans ?_ (hb1.mono ?_)
    · go_grown
    · go_size
  have hl1 : w.heap.size ≤ w1.heap.size := k1.size
  clear hb1
  have t1 := Table.below (Table.below ht k1) ((Below.refl _ w1).alloc (Nat.le_refl _) (.cells #[.int .i64 (k + 1), .int .i64 (k + 1), .int .i64 0] 163))
  go_wp2_with fail
  refine (implFeedYes (k + 1) (k + 1) 0 s _ (goodB_true.2 (by omega)) hs (by omega) t1).mono ?_
  rintro e w2 ⟨rfl, hb2⟩
  obtain ⟨hc2, hf2⟩ := bcell hb2
  have hz2 := hb2.size
  try simp only [World.size_drew] at hz2
  try simp only [World.size_setCell] at hz2
  try simp only [World.size_alloc] at hz2
  try have hy2_1 : w1.heap.size < w2.heap.size := (by omega)
  clear hz2
  have k2 : Below w.heap.size w w2 := by
    refine Below.trans ?_ (hb2.mono ?_)
    · go_grown
    · go_size
  have hl2 : w.heap.size ≤ w2.heap.size := k2.size
  clear hb2
  go_wp2_with fail
  refine (implEndYes _ _ _ _ (goodB_true.2 ⟨hA0, hA1, hB0, hB1, by omega, by omega⟩)).mono ?_
  rintro e w3 ⟨rfl, hb3⟩
  obtain ⟨hc3, hf3⟩ := bcell hb3
  have hz3 := hb3.size
  try simp only [World.size_drew] at hz3
  try simp only [World.size_setCell] at hz3
  try simp only [World.size_alloc] at hz3
  try have hy3_1 : w1.heap.size < w3.heap.size := (by omega)
  try have hy3_2 : w2.heap.size < w3.heap.size := (by omega)
  clear hz3
  have k3 : Below w.heap.size w w3 := by
    refine Below.trans ?_ (hb3.mono ?_)
    · go_grown
    · go_size
  have hl3 : w.heap.size ≤ w3.heap.size := k3.size
  clear hb3
  go_wp2
  go_returns
  exact ⟨rfl, by go_grown⟩
set_option maxHeartbeats 800000 in
theorem implDigestNo (k : Int) (s : ByteArray) (w : World) (hm : s.size ≤ maxLen) (h : DigestNo k s.size) :
    Calls Tryd.prog 57 #[.int .u8 k, .string s] w fun e w' => e = .returned (.tuple #[.string ByteArray.empty, .bool false]) ∧ Below w.heap.size w w' := by
  rcases h with h | ⟨h0, h1, h2⟩
  · go_enter Tryd.func57, Tryd.ntmps57
    go_wp2_with fail
    refine (implNewNo k _ h).mono ?_
    rintro e w1 ⟨rfl, hb1⟩
    obtain ⟨hc1, hf1⟩ := bcell hb1
    have hz1 := hb1.size
    try simp only [World.size_drew] at hz1
    try simp only [World.size_setCell] at hz1
    try simp only [World.size_alloc] at hz1
    clear hz1
    have k1 : Below w.heap.size w w1 := by
      refine Below.trans ?_ (hb1.mono ?_)
      · go_grown
      · go_size
    have hl1 : w.heap.size ≤ w1.heap.size := k1.size
    clear hb1
    go_wp2
    go_returns
    exact ⟨rfl, by go_grown⟩
  · go_enter Tryd.func57, Tryd.ntmps57
    go_wp2_with fail
    refine (implNewYes k _ h0 h1).mono ?_
    rintro e w1 ⟨rfl, hb1⟩
    obtain ⟨hc1, hf1⟩ := bcell hb1
    have hz1 := hb1.size
    try simp only [World.size_drew] at hz1
    try simp only [World.size_setCell] at hz1
    try simp only [World.size_alloc] at hz1
    clear hz1
    have k1 : Below w.heap.size w w1 := by
      refine Below.trans ?_ (hb1.mono ?_)
      · go_grown
      · go_size
    have hl1 : w.heap.size ≤ w1.heap.size := k1.size
    clear hb1
    go_wp2_with fail
    refine (implFeedNo (k + 1) (k + 1) 0 s _ hm (.inr (.inl ⟨goodB_true.2 (by omega), h2⟩))).mono ?_
    rintro e w2 ⟨rfl, hb2⟩
    obtain ⟨hc2, hf2⟩ := bcell hb2
    have hz2 := hb2.size
    try simp only [World.size_drew] at hz2
    try simp only [World.size_setCell] at hz2
    try simp only [World.size_alloc] at hz2
    try have hy2_1 : w1.heap.size < w2.heap.size := (by omega)
    clear hz2
    have k2 : Below w.heap.size w w2 := by
      refine Below.trans ?_ (hb2.mono ?_)
      · go_grown
      · go_size
    have hl2 : w.heap.size ≤ w2.heap.size := k2.size
    clear hb2
    go_wp2
    go_returns
    exact ⟨rfl, by go_grown⟩
end Go.Proofs.YtgjcegmjhkehnaaDoor
