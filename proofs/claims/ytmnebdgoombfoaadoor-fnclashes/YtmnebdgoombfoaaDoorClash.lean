/- Contracts of ClashOf, program and model. Condition: the table of weights as it is laid. -/
import Derived.Test.YtmnebdgoombfoaaDoorDigest
namespace Go.Proofs.YtmnebdgoombfoaaDoor
open Go.ChangeShapes Go.WideShapes Go.ChangeAt Go.RowKit
set_option linter.unusedVariables false

def clashB (k : Int) (a b : ByteArray) : Bool := (!a.toList == b.toList && (digestB k a).toList == (digestB k b).toList)
theorem ret_bb {x y o : Bool} (h : x = y) : Ending.returned (.tuple #[.bool x, .bool o]) = .returned (.tuple #[.bool y, .bool o]) := by rw [h]

set_option maxHeartbeats 800000 in
theorem implClashYes (k : Int) (a b : ByteArray) (w : World) (h0 : 97 ≤ k) (h1 : k ≤ 122) (ha : a.size ≤ 600) (hb : b.size ≤ 600) (ht : Table w) :
    Calls Tryd.prog 27 #[.int .u8 k, .string a, .string b] w fun e w' => e = .returned (.tuple #[.bool (clashB k a b), .bool true]) ∧ Below w.heap.size w w' := by
  go_enter Tryd.func27, Tryd.ntmps27
  go_wp2_with fail
  refine (implDigestYes k a _ h0 h1 ha ht).mono ?_
  rintro e w1 ⟨rfl, hb1⟩
  obtain ⟨hc1, hf1⟩ := bcell hb1
  have hz1 := hb1.size
  try simp only [World.size_drew] at hz1
  try simp only [World.size_setCell] at hz1
  try simp only [World.size_alloc] at hz1
  clear hz1
  have k1 : Below w.heap.size w w1 := by
    refine Below.trans ?_ (hb1.mono ?_)
    · go_grown
    · go_size
  have hl1 : w.heap.size ≤ w1.heap.size := k1.size
  clear hb1
  go_wp2_with fail
  refine (implDigestYes k b _ h0 h1 hb (ht.below k1)).mono ?_
  rintro e w2 ⟨rfl, hb2⟩
  obtain ⟨hc2, hf2⟩ := bcell hb2
  have hz2 := hb2.size
  try simp only [World.size_drew] at hz2
  try simp only [World.size_setCell] at hz2
  try simp only [World.size_alloc] at hz2
  try have hy2_1 : w1.heap.size < w2.heap.size := (by omega)
  clear hz2
  have k2 : Below w.heap.size w w2 := by
    refine Below.trans ?_ (hb2.mono ?_)
    · go_grown
    · go_size
  have hl2 : w.heap.size ≤ w2.heap.size := k2.size
  clear hb2
  go_wp2
  all_goals refine bodyPost_ret (v := .tuple #[.bool (clashB k a b), .bool true]) ?_ rfl ⟨rfl, by go_grown⟩
  all_goals simp [results, Tryd.results27, go_sem, clashB, *]

set_option maxHeartbeats 800000 in
theorem specClashYes (k : Int) (a b : ByteArray) (w : World) (h0 : 97 ≤ k) (h1 : k ≤ 122) (ha : a.size ≤ 600) (hb : b.size ≤ 600) :
    Calls Tryd.prog 29 #[.int .u8 k, .string a, .string b] w fun e w' => e = .returned (.tuple #[.bool (clashB k a b), .bool true]) ∧ Below w.heap.size w w' := by
  go_enter Tryd.func29, Tryd.ntmps29
  go_wp2_with fail
  refine (specDigestYes k a _ h0 h1 ha).mono ?_
  rintro e w1 ⟨rfl, hb1⟩
  obtain ⟨hc1, hf1⟩ := bcell hb1
  have hz1 := hb1.size
  try simp only [World.size_drew] at hz1
  try simp only [World.size_setCell] at hz1
  try simp only [World.size_alloc] at hz1
  clear hz1
  have k1 : Below w.heap.size w w1 := by
    refine Below.trans ?_ (hb1.mono ?_)
    · go_grown
    · go_size
  have hl1 : w.heap.size ≤ w1.heap.size := k1.size
  clear hb1
  go_wp2_with fail
  refine (specDigestYes k b _ h0 h1 hb).mono ?_
  rintro e w2 ⟨rfl, hb2⟩
  obtain ⟨hc2, hf2⟩ := bcell hb2
  have hz2 := hb2.size
  try simp only [World.size_drew] at hz2
  try simp only [World.size_setCell] at hz2
  try simp only [World.size_alloc] at hz2
  try have hy2_1 : w1.heap.size < w2.heap.size := (by omega)
  clear hz2
  have k2 : Below w.heap.size w w2 := by
    refine Below.trans ?_ (hb2.mono ?_)
    · go_grown
    · go_size
  have hl2 : w.heap.size ≤ w2.heap.size := k2.size
  clear hb2
  go_wp2
  all_goals refine bodyPost_ret (v := .tuple #[.bool (clashB k a b), .bool true]) ?_ rfl ⟨rfl, by go_grown⟩
  all_goals simp [results, Tryd.results29, go_sem, clashB, *]

/-- Neither refuses the first text, or one refuses. -/
def ClashNo (k : Int) (m n : Nat) : Prop := DigestNo k m ∨ (97 ≤ k ∧ k ≤ 122 ∧ m ≤ 600 ∧ 600 < n)
set_option maxHeartbeats 800000 in
theorem implClashNo (k : Int) (a b : ByteArray) (w : World) (hma : a.size ≤ maxLen) (hmb : b.size ≤ maxLen) (h : ClashNo k a.size b.size) (ht : Table w) :
    Calls Tryd.prog 27 #[.int .u8 k, .string a, .string b] w fun e w' => e = .returned (.tuple #[.bool false, .bool false]) ∧ Below w.heap.size w w' := by
  rcases h with h | ⟨h0, h1, h2, h3⟩
  · go_enter Tryd.func27, Tryd.ntmps27
    go_wp2_with fail
    refine (implDigestNo k a _ hma h).mono ?_
    rintro e w1 ⟨rfl, hb1⟩
    obtain ⟨hc1, hf1⟩ := bcell hb1
    have hz1 := hb1.size
    try simp only [World.size_drew] at hz1
    try simp only [World.size_setCell] at hz1
    try simp only [World.size_alloc] at hz1
    clear hz1
    have k1 : Below w.heap.size w w1 := by
      refine Below.trans ?_ (hb1.mono ?_)
      · go_grown
      · go_size
    have hl1 : w.heap.size ≤ w1.heap.size := k1.size
    clear hb1
    go_wp2
    go_returns
    exact ⟨rfl, by go_grown⟩
  · go_enter Tryd.func27, Tryd.ntmps27
    go_wp2_with fail
    refine (implDigestYes k a _ h0 h1 h2 ht).mono ?_
    rintro e w1 ⟨rfl, hb1⟩
    obtain ⟨hc1, hf1⟩ := bcell hb1
    have hz1 := hb1.size
    try simp only [World.size_drew] at hz1
    try simp only [World.size_setCell] at hz1
    try simp only [World.size_alloc] at hz1
    clear hz1
    have k1 : Below w.heap.size w w1 := by
      refine Below.trans ?_ (hb1.mono ?_)
      · go_grown
      · go_size
    have hl1 : w.heap.size ≤ w1.heap.size := k1.size
    clear hb1
    go_wp2_with fail
    refine (implDigestNo k b _ hmb (.inr ⟨h0, h1, h3⟩)).mono ?_
    rintro e w2 ⟨rfl, hb2⟩
    obtain ⟨hc2, hf2⟩ := bcell hb2
    have hz2 := hb2.size
    try simp only [World.size_drew] at hz2
    try simp only [World.size_setCell] at hz2
    try simp only [World.size_alloc] at hz2
    try have hy2_1 : w1.heap.size < w2.heap.size := (by omega)
    clear hz2
    have k2 : Below w.heap.size w w2 := by
      refine Below.trans ?_ (hb2.mono ?_)
      · go_grown
      · go_size
    have hl2 : w.heap.size ≤ w2.heap.size := k2.size
    clear hb2
    go_wp2
    go_returns
    exact ⟨rfl, by go_grown⟩
set_option maxHeartbeats 800000 in
theorem specClashNo (k : Int) (a b : ByteArray) (w : World) (hma : a.size ≤ maxLen) (hmb : b.size ≤ maxLen) (h : ClashNo k a.size b.size) :
    Calls Tryd.prog 29 #[.int .u8 k, .string a, .string b] w fun e w' => e = .returned (.tuple #[.bool false, .bool false]) ∧ Below w.heap.size w w' := by
  rcases h with h | ⟨h0, h1, h2, h3⟩
  · by_cases h2 : DigestNo k b.size
    · go_enter Tryd.func29, Tryd.ntmps29
      go_wp2_with fail
      refine (specDigestNo k a _ hma h).mono ?_
      rintro e w1 ⟨rfl, hb1⟩
      obtain ⟨hc1, hf1⟩ := bcell hb1
      have hz1 := hb1.size
      try simp only [World.size_drew] at hz1
      try simp only [World.size_setCell] at hz1
      try simp only [World.size_alloc] at hz1
      clear hz1
      have k1 : Below w.heap.size w w1 := by
        refine Below.trans ?_ (hb1.mono ?_)
        · go_grown
        · go_size
      have hl1 : w.heap.size ≤ w1.heap.size := k1.size
      clear hb1
      go_wp2_with fail
      refine (specDigestNo k b _ hmb h2).mono ?_
      rintro e w2 ⟨rfl, hb2⟩
      obtain ⟨hc2, hf2⟩ := bcell hb2
      have hz2 := hb2.size
      try simp only [World.size_drew] at hz2
      try simp only [World.size_setCell] at hz2
      try simp only [World.size_alloc] at hz2
      try have hy2_1 : w1.heap.size < w2.heap.size := (by omega)
      clear hz2
      have k2 : Below w.heap.size w w2 := by
        refine Below.trans ?_ (hb2.mono ?_)
        · go_grown
        · go_size
      have hl2 : w.heap.size ≤ w2.heap.size := k2.size
      clear hb2
      go_wp2
      go_returns
      exact ⟨rfl, by go_grown⟩
    · obtain ⟨h0, h1, h3⟩ := notDigestNo h2
      go_enter Tryd.func29, Tryd.ntmps29
      go_wp2_with fail
      refine (specDigestNo k a _ hma h).mono ?_
      rintro e w1 ⟨rfl, hb1⟩
      obtain ⟨hc1, hf1⟩ := bcell hb1
      have hz1 := hb1.size
      try simp only [World.size_drew] at hz1
      try simp only [World.size_setCell] at hz1
      try simp only [World.size_alloc] at hz1
      clear hz1
      have k1 : Below w.heap.size w w1 := by
        refine Below.trans ?_ (hb1.mono ?_)
        · go_grown
        · go_size
      have hl1 : w.heap.size ≤ w1.heap.size := k1.size
      clear hb1
      go_wp2_with fail
      refine (specDigestYes k b _ h0 h1 h3).mono ?_
      rintro e w2 ⟨rfl, hb2⟩
      obtain ⟨hc2, hf2⟩ := bcell hb2
      have hz2 := hb2.size
      try simp only [World.size_drew] at hz2
      try simp only [World.size_setCell] at hz2
      try simp only [World.size_alloc] at hz2
      try have hy2_1 : w1.heap.size < w2.heap.size := (by omega)
      clear hz2
      have k2 : Below w.heap.size w w2 := by
        refine Below.trans ?_ (hb2.mono ?_)
        · go_grown
        · go_size
      have hl2 : w.heap.size ≤ w2.heap.size := k2.size
      clear hb2
      go_wp2
      go_returns
      exact ⟨rfl, by go_grown⟩
  · go_enter Tryd.func29, Tryd.ntmps29
    go_wp2_with fail
    refine (specDigestYes k a _ h0 h1 h2).mono ?_
    rintro e w1 ⟨rfl, hb1⟩
    obtain ⟨hc1, hf1⟩ := bcell hb1
    have hz1 := hb1.size
    try simp only [World.size_drew] at hz1
    try simp only [World.size_setCell] at hz1
    try simp only [World.size_alloc] at hz1
    clear hz1
    have k1 : Below w.heap.size w w1 := by
      refine Below.trans ?_ (hb1.mono ?_)
      · go_grown
      · go_size
    have hl1 : w.heap.size ≤ w1.heap.size := k1.size
    clear hb1
    go_wp2_with fail
    refine (specDigestNo k b _ hmb (.inr ⟨h0, h1, h3⟩)).mono ?_
    rintro e w2 ⟨rfl, hb2⟩
    obtain ⟨hc2, hf2⟩ := bcell hb2
    have hz2 := hb2.size
    try simp only [World.size_drew] at hz2
    try simp only [World.size_setCell] at hz2
    try simp only [World.size_alloc] at hz2
    try have hy2_1 : w1.heap.size < w2.heap.size := (by omega)
    clear hz2
    have k2 : Below w.heap.size w w2 := by
      refine Below.trans ?_ (hb2.mono ?_)
      · go_grown
      · go_size
    have hl2 : w.heap.size ≤ w2.heap.size := k2.size
    clear hb2
    go_wp2
    go_returns
    exact ⟨rfl, by go_grown⟩
end Go.Proofs.YtmnebdgoombfoaaDoor
