/- Contracts of the program's fields of values: what a value is told by, and how two of them stand. No condition but the texts' own reach. -/
import Derived.Test.YtolkiofdbdjfkaaSpecVal
import Derived.BigQuiet
namespace Go.Proofs.Ytolkiofdbdjfkaa
open Go.ChangeShapes Go.WideShapes Go.ChangeAt Go.RowKit Go.Deep
set_option linter.unusedVariables false
attribute [local go_sem ↓] Go.wp_at_zero Go.wp_at_succ

/-- A good value behind the program's interface. -/
def fld (v : VV) : Value :=
  if v.k = 1 then .iface 103 (.agg #[]) else if v.k = 2 then .iface 104 (.int .i64 v.n) else if v.k = 3 then .iface 105 (.int .i64 v.n) else .iface 106 (.string v.t)
theorem fld_1 (n : Int) (t : ByteArray) : fld ⟨1, n, t⟩ = .iface 103 (.agg #[]) := by simp [fld]
theorem fld_2 (n : Int) (t : ByteArray) : fld ⟨2, n, t⟩ = .iface 104 (.int .i64 n) := by simp [fld]
theorem fld_3 (n : Int) (t : ByteArray) : fld ⟨3, n, t⟩ = .iface 105 (.int .i64 n) := by simp [fld]
theorem fld_4 (n : Int) (t : ByteArray) : fld ⟨4, n, t⟩ = .iface 106 (.string t) := by simp [fld]
theorem below_drewN {B : Nat} {a w : World} (h : Below B a w) (n : Nat) : Below B a (w.drewN n) := h.trans ⟨rfl, rfl, rfl, Nat.le_refl _, fun _ _ => rfl⟩
theorem below_box (w : World) (o : Obj) (n : Nat) : Below w.heap.size w ((w.alloc o).drewN n) := below_drewN ((Below.refl _ w).alloc (Nat.le_refl _) _) n

set_option maxHeartbeats 1600000 in
theorem implFieldYes (v : VV) (w : World) (h : GoodV v) :
    Calls Try.prog 48 #[encV v] w fun e w' => e = .returned (.tuple #[fld v, .bool true]) ∧ Below w.heap.size w w' := by
  obtain ⟨k, n, t⟩ := v
  unfold encV
  unfold GoodV at h
  simp only [] at h ⊢
  rcases h with ⟨rfl, rfl, rfl⟩ | ⟨rfl, h2, rfl⟩ | ⟨rfl, h2, rfl⟩ | ⟨rfl, rfl, h3⟩
  · rw [fld_1]
    go_enter Try.func48, Try.ntmps48
    go_wp2
    go_quiet (fail)
    go_wp2
    go_returns
    exact ⟨rfl, below_box _ _ _⟩
  · rw [fld_2]
    have hn : n = 0 ∨ n = 1 := by omega
    rcases hn with rfl | rfl
    all_goals
      go_enter Try.func48, Try.ntmps48
      go_wp2
      go_quiet (fail)
      go_wp2
      go_returns
      exact ⟨rfl, below_box _ _ _⟩
  · rw [fld_3]
    have hn1 : decide (-1000000000 ≤ n) = true := by simp [h2.1]
    have hn2 : decide (n ≤ 1000000000) = true := by simp [h2.2]
    clear h2
    go_enter Try.func48, Try.ntmps48
    go_wp2
    go_quiet (fail)
    go_wp2
    go_returns
    exact ⟨rfl, below_box _ _ _⟩
  · rw [fld_4]
    have h4 : decide ((t.size : Int) ≤ 12) = true := by simp; omega
    go_enter Try.func48, Try.ntmps48
    go_wp2
    go_quiet (fail)
    go_wp2
    go_returns
    exact ⟨rfl, below_box _ _ _⟩
set_option maxHeartbeats 1600000 in
theorem implFieldNo (v : VV) (w : World) (hm : v.t.size ≤ maxLen) (h : ¬ GoodV v) :
    Calls Try.prog 48 #[encV v] w fun e w' => ∃ x, e = .returned (.tuple #[x, .bool false]) ∧ Below w.heap.size w w' := by
  obtain ⟨k, n, t⟩ := v
  unfold encV
  unfold GoodV at h
  simp only [] at h hm ⊢
  unfold maxLen at hm
  by_cases h1 : k = 1
  · subst h1
    by_cases hn : n = 0
    · subst hn
      have ht : t ≠ ByteArray.empty := fun e => h (.inl ⟨rfl, rfl, e⟩)
      have ht2 := emptyL ht
      clear h ht
      go_enter Try.func48, Try.ntmps48
      go_wp2
      go_quiet (fail)
      go_wp2
      go_returns
      exact ⟨_, rfl, below_box _ _ _⟩
    · have hd : (n == 0) = false := by simp [hn]
      clear h
      go_enter Try.func48, Try.ntmps48
      go_wp2
      go_quiet (fail)
      go_wp2
      go_returns
      exact ⟨_, rfl, below_box _ _ _⟩
  by_cases h2 : k = 2
  · subst h2
    clear h1
    by_cases hn : n = 0 ∨ n = 1
    · have ht : t ≠ ByteArray.empty := fun e => h (.inr (.inl ⟨rfl, by omega, e⟩))
      have ht2 := emptyL ht
      clear h ht
      rcases hn with rfl | rfl
      all_goals
        go_enter Try.func48, Try.ntmps48
        go_wp2
        go_quiet (fail)
        go_wp2
        go_returns
        exact ⟨_, rfl, below_box _ _ _⟩
    · have hn0 : (n == 0) = false := beq_false_of_ne (fun e => hn (.inl e))
      have hn1 : (n == 1) = false := beq_false_of_ne (fun e => hn (.inr e))
      clear h hn
      go_enter Try.func48, Try.ntmps48
      go_wp2
      go_quiet (fail)
      go_wp2
      go_returns
      exact ⟨_, rfl, below_box _ _ _⟩
  by_cases h3 : k = 3
  · subst h3
    clear h1 h2
    by_cases hn1 : -1000000000 ≤ n
    · have hd1 : decide (-1000000000 ≤ n) = true := by simp [hn1]
      by_cases hn2 : n ≤ 1000000000
      · have ht : t ≠ ByteArray.empty := fun e => h (.inr (.inr (.inl ⟨rfl, ⟨hn1, hn2⟩, e⟩)))
        have ht2 := emptyL ht
        have hd2 : decide (n ≤ 1000000000) = true := by simp [hn2]
        clear h ht hn1 hn2
        go_enter Try.func48, Try.ntmps48
        go_wp2
        go_quiet (fail)
        go_wp2
        go_returns
        exact ⟨_, rfl, below_box _ _ _⟩
      · have hd2 : decide (n ≤ 1000000000) = false := by simp; omega
        clear h hn1 hn2
        go_enter Try.func48, Try.ntmps48
        go_wp2
        go_quiet (fail)
        go_wp2
        go_returns
        exact ⟨_, rfl, below_box _ _ _⟩
    · have hd1 : decide (-1000000000 ≤ n) = false := by simp; omega
      clear h hn1
      go_enter Try.func48, Try.ntmps48
      go_wp2
      go_quiet (fail)
      go_wp2
      go_returns
      exact ⟨_, rfl, below_box _ _ _⟩
  by_cases h4 : k = 4
  · subst h4
    clear h1 h2 h3
    by_cases hz : t.size ≤ 12
    · have hz2 : decide ((t.size : Int) ≤ 12) = true := by simp; omega
      have hn : (n == 0) = false := beq_false_of_ne (fun e => h (.inr (.inr (.inr ⟨rfl, e, hz⟩))))
      clear h hz
      go_enter Try.func48, Try.ntmps48
      go_wp2
      go_quiet (fail)
      go_wp2
      go_returns
      exact ⟨_, rfl, below_box _ _ _⟩
    · have hz2 : decide ((t.size : Int) ≤ 12) = false := by simp; omega
      clear h hz
      go_enter Try.func48, Try.ntmps48
      go_wp2
      go_quiet (fail)
      go_wp2
      go_returns
      exact ⟨_, rfl, below_box _ _ _⟩
  clear h
  go_enter Try.func48, Try.ntmps48
  go_wp2
  go_returns
  exact ⟨_, rfl, by go_grown⟩
theorem implGoodYes (v : VV) (w : World) (h : GoodV v) : Calls Try.prog 16 #[encV v] w fun e w' => e = .returned (.bool true) ∧ Below w.heap.size w w' := by
  have HF := fun W => implFieldYes v W h
  generalize fld v = x at *
  clear h
  obtain ⟨k, n, t⟩ := v
  unfold encV at *
  simp only [] at *
  go_enter Try.func16, Try.ntmps16
  go_wp2_with fail
  refine (HF _).mono ?_
  rintro e w1 ⟨rfl, hb1⟩
  obtain ⟨hc1, hf1⟩ := bcell hb1
  have hz1 := hb1.size
  try simp only [World.size_drew] at hz1
  try simp only [World.size_setCell] at hz1
  try simp only [World.size_alloc] at hz1
  have hz1_0 : w.heap.size < w1.heap.size := by omega
  clear hz1
  have k1 : Below w.heap.size w w1 := by
    refine Below.trans ?_ (hb1.mono ?_)
    · go_grown
    · go_size
  have hl1 : w.heap.size ≤ w1.heap.size := k1.size
  clear hb1
  go_wp2
  go_returns
  exact ⟨rfl, by go_grown⟩
theorem implGoodNo (v : VV) (w : World) (hm : v.t.size ≤ maxLen) (h : ¬ GoodV v) : Calls Try.prog 16 #[encV v] w fun e w' => e = .returned (.bool false) ∧ Below w.heap.size w w' := by
  have HF := fun W => implFieldNo v W hm h
  clear h hm
  obtain ⟨k, n, t⟩ := v
  unfold encV at *
  simp only [] at *
  go_enter Try.func16, Try.ntmps16
  go_wp2_with fail
  refine (HF _).mono ?_
  rintro e w1 ⟨x, rfl, hb1⟩
  have k1 : Below w.heap.size w w1 := Below.trans (by go_grown) (hb1.mono (by go_size))
  clear hb1
  go_wp2
  go_returns
  exact ⟨rfl, k1⟩
/-- How two numbers stand, by the library. -/
theorem cmpInt (a b : Int) (w : World) : Calls Try.prog 69 #[.int .i64 a, .int .i64 b] w fun e w' => e = .returned (.int .i64 (sgn a b)) ∧ w' = w := by
  unfold sgn
  by_cases h1 : a < b
  · rw [if_pos h1]
    go_enter Try.func69, Try.ntmps69
    go_wp2
    go_returns
    exact ⟨rfl, rfl⟩
  · rw [if_neg h1]
    by_cases h2 : b < a
    · rw [if_pos h2]
      go_enter Try.func69, Try.ntmps69
      go_wp2
      go_returns
      exact ⟨rfl, rfl⟩
    · rw [if_neg h2]
      go_enter Try.func69, Try.ntmps69
      go_wp2
      go_returns
      exact ⟨rfl, rfl⟩
/-- How two numbers stand, by the library. -/
theorem cmpFlag (a b : Int) (w : World) : Calls Try.prog 70 #[.int .i64 a, .int .i64 b] w fun e w' => e = .returned (.int .i64 (sgn a b)) ∧ w' = w := by
  unfold sgn
  by_cases h1 : a < b
  · rw [if_pos h1]
    go_enter Try.func70, Try.ntmps70
    go_wp2
    go_returns
    exact ⟨rfl, rfl⟩
  · rw [if_neg h1]
    by_cases h2 : b < a
    · rw [if_pos h2]
      go_enter Try.func70, Try.ntmps70
      go_wp2
      go_returns
      exact ⟨rfl, rfl⟩
    · rw [if_neg h2]
      go_enter Try.func70, Try.ntmps70
      go_wp2
      go_returns
      exact ⟨rfl, rfl⟩
/-- How two numbers stand, by the library. -/
theorem cmpWhole (a b : Int) (w : World) : Calls Try.prog 71 #[.int .i64 a, .int .i64 b] w fun e w' => e = .returned (.int .i64 (sgn a b)) ∧ w' = w := by
  unfold sgn
  by_cases h1 : a < b
  · rw [if_pos h1]
    go_enter Try.func71, Try.ntmps71
    go_wp2
    go_returns
    exact ⟨rfl, rfl⟩
  · rw [if_neg h1]
    by_cases h2 : b < a
    · rw [if_pos h2]
      go_enter Try.func71, Try.ntmps71
      go_wp2
      go_returns
      exact ⟨rfl, rfl⟩
    · rw [if_neg h2]
      go_enter Try.func71, Try.ntmps71
      go_wp2
      go_returns
      exact ⟨rfl, rfl⟩
/-- How two texts stand, by the library. -/
theorem cmpText (x y : ByteArray) (w : World) : Calls Try.prog 72 #[.string x, .string y] w fun e w' => e = .returned (.int .i64 (cmpB x.data.toList y.data.toList)) ∧ w' = w := by
  rcases cmpB_cases x.data.toList y.data.toList with h | h | h
  · have e1 := text_lt h
    rw [h]
    clear h
    go_enter Try.func72, Try.ntmps72
    go_wp2
    go_returns
    exact ⟨rfl, rfl⟩
  · have e1 := text_ge (a := x) (b := y) (by rw [h]; decide)
    have e2 : x = y := by
      have := cmpB_zero h
      cases x; cases y; simp at this; simp [this]
    subst e2
    rw [h]
    clear h
    go_enter Try.func72, Try.ntmps72
    go_wp2
    go_returns
    exact ⟨rfl, rfl⟩
  · have e1 := text_ge (a := x) (b := y) (by rw [h]; decide)
    have e2 := text_ne (a := x) (b := y) (by rw [h]; decide)
    rw [h]
    clear h
    go_enter Try.func72, Try.ntmps72
    go_wp2
    go_returns
    exact ⟨rfl, rfl⟩
end Go.Proofs.Ytolkiofdbdjfkaa
