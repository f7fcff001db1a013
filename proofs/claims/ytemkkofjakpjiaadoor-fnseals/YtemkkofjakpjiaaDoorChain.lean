/- Contracts of the chains, program and model: the text that is so many steps on, or a refusal. Condition: the table of weights as it is laid. -/
import Derived.Test.YtemkkofjakpjiaaDoorOwn
import Derived.Test.YtemkkofjakpjiaaDoorShelf
namespace Go.Proofs.YtemkkofjakpjiaaDoor
open Go.ChangeShapes Go.WideShapes Go.ChangeAt Go.RowKit Go.Deep
set_option linter.unusedVariables false

theorem num_size (i : Nat) (s : ByteArray) : (strOfNums [(i : Int)] ++ s).size = 1 + s.size := by rw [ByteArray.size_append, strOfNums_size]; rfl
set_option maxHeartbeats 800000 in
theorem implNum (k : Int) (i : Nat) (s : ByteArray) (w : World) (h0 : 97 ≤ k) (h1 : k ≤ 122) (hi : i ≤ 255) (hs : s.size ≤ 599) (ht : Table w) :
    Calls Tryd.prog 76 #[.int .u8 k, .int .i64 i, .string s] w fun e w' => e = .returned (.string (numB k i s)) ∧ Below w.heap.size w w' := by
  have hcv := mconv1
  have hs1 := size1 (i : Int)
  have hn := num_size i s
  have t1 := Table.below ht ((Below.refl _ w).alloc (Nat.le_refl _) (.cells #[.int .u8 (i : Int)] 5))
  have hi1 : (i : Int) ≤ 255 := by omega
  go_enter Tryd.func76, Tryd.ntmps76
  go_wp2_with fail
  refine (implDigestYes k (strOfNums [(i : Int)] ++ s) _ h0 h1 (by omega) t1).mono ?_
  rintro e w1 ⟨rfl, hb1⟩
  obtain ⟨hc1, hf1⟩ := bcell hb1
  have hz1 := hb1.size
  try simp only [World.size_drew] at hz1
  try simp only [World.size_setCell] at hz1
  try simp only [World.size_alloc] at hz1
  clear hz1
  have k1 : Below w.heap.size w w1 := by
    refine Below.trans ?_ (hb1.mono ?_)
    · go_grown
    · go_size
  have hl1 : w.heap.size ≤ w1.heap.size := k1.size
  clear hb1
  go_wp2
  go_returns
  exact ⟨rfl, by go_grown⟩
theorem implStep (i : Nat) (s : ByteArray) (w : World) (hi : i ≤ 255) (hs : s.size ≤ 599) (ht : Table w) :
    Calls Tryd.prog 115 #[.int .i64 i, .string s] w fun e w' => e = .returned (.string (numB 99 i s)) ∧ Below w.heap.size w w' := by
  go_enter Tryd.func115, Tryd.ntmps115
  go_wp2_with fail
  refine (implNum 99 i s _ (by omega) (by omega) hi hs ht).mono ?_
  rintro e w1 ⟨rfl, hb1⟩
  obtain ⟨hc1, hf1⟩ := bcell hb1
  have hz1 := hb1.size
  try simp only [World.size_drew] at hz1
  try simp only [World.size_setCell] at hz1
  try simp only [World.size_alloc] at hz1
  clear hz1
  have k1 : Below w.heap.size w w1 := by
    refine Below.trans ?_ (hb1.mono ?_)
    · go_grown
    · go_size
  have hl1 : w.heap.size ≤ w1.heap.size := k1.size
  clear hb1
  go_wp2
  go_returns
  exact ⟨rfl, by go_grown⟩

set_option maxHeartbeats 1600000 in
theorem implGo (s : ByteArray) (f n : Nat) (w : World) (hs : s.size = 4) (hn : f + n ≤ 15) (ht : Table w) :
    Calls Tryd.prog 80 #[.string s, .int .i64 f, .int .i64 ((f : Int) + (n : Int))] w fun e w' => e = .returned (.string (chainB s f n)) ∧ Below w.heap.size w w' := by
  have hmf : ∀ (fn : Fn) (first cap : Array Value) (w : World), (Instr.makeFunc fn first cap).run Tryd.prog w = .ok (.func fn first cap) w := fun _ _ _ _ => rfl
  have HT : Hid (Table w) := ht
  clear ht
  go_enter Tryd.func80, Tryd.ntmps80
  go_wp2
  go_loopw [0, 7, 8] (fun x a st wr => ∃ k : Nat, k ≤ n ∧ a = .int .i64 ((f : Int) + (k : Int)) ∧ x = .string (chainB s f k) ∧ Below w.heap.size w wr) (fun _ a _ _ => f + n - (intOf a).toNat)
  case atStart => exact ⟨0, Nat.zero_le _, by simp, rfl, by go_grown⟩
  case round =>
    obtain ⟨k, hk, rfl, rfl, kb⟩ := hrel
    have kl := kb.size
    by_cases hlt : k < n
    · have hz := chainB_size s f k hs
      have HN : Hid (chainB s f (k + 1) = numB 99 (f + k) (chainB s f k)) := rfl
      generalize chainB s f k = t at *
      go_wp2_with fail
      refine (implStep (f + k) t _ (by omega) (by omega) (HT.out.below kb)).mono ?_
      rintro e w1 ⟨rfl, hb1⟩
      have k1 : Below w.heap.size w w1 := kb.trans (hb1.mono kl)
      clear hb1
      go_wp2
      exact ⟨⟨k + 1, by omega, by go_num, by rw [HN.out], k1⟩, by simp [intOf]; omega⟩
    · have hke : k = n := by omega
      subst hke
      go_wp2
      go_ret
      exact ⟨rfl, kb⟩

set_option maxHeartbeats 1600000 in
theorem specChain (s : ByteArray) (f n : Nat) (w : World) (hs : s.size = 4) (hn : f + n ≤ 15) :
    Calls Tryd.prog 108 #[.string s, .int .i64 f, .int .i64 n] w fun e w' => e = .returned (.string (chainB s f n)) ∧ Below w.heap.size w w' := by
  have hcv := mconv1
  go_enter Tryd.func108, Tryd.ntmps108
  go_wp2
  go_loopw [0, 7] (fun x a wr => ∃ k : Nat, k ≤ n ∧ a = .int .i64 ((f : Int) + (k : Int)) ∧ x = .string (chainB s f k) ∧ Below w.heap.size w wr) (fun _ a _ => f + n - (intOf a).toNat)
  case atStart => exact ⟨0, Nat.zero_le _, by simp, rfl, by go_grown⟩
  case round =>
    obtain ⟨k, hk, rfl, rfl, kb⟩ := hrel
    have kl := kb.size
    by_cases hlt : k < n
    · have hz := chainB_size s f k hs
      have HN : Hid (chainB s f (k + 1) = numB 99 (f + k) (chainB s f k)) := rfl
      generalize chainB s f k = t at *
      have hs1 := size1 ((f + k : Nat) : Int)
      have hn1 := num_size (f + k) t
      have hi1 : ((f + k : Nat) : Int) ≤ 255 := by omega
      go_wp2_with fail
      refine (specL1Digest 99 (strOfNums [((f + k : Nat) : Int)] ++ t) _ (by omega) (by omega) (by omega)).mono ?_
      rintro e w1 ⟨rfl, hb1⟩
      have k1 : Below w.heap.size w w1 := (kb.alloc kl _).trans (hb1.mono (by simp; omega))
      clear hb1
      go_wp2
      exact ⟨⟨k + 1, by omega, by go_num, by rw [HN.out]; rfl, k1⟩, by simp [intOf]; omega⟩
    · have hke : k = n := by omega
      subst hke
      go_wp2
      go_ret
      exact ⟨rfl, kb⟩

/-- A chain is gone along. -/
def ChainYes (m : Nat) (f b : Int) : Prop := m = 4 ∧ 0 ≤ f ∧ 0 ≤ b ∧ f + b ≤ 15
set_option maxHeartbeats 1600000 in
theorem implChainNo (s : ByteArray) (f b : Int) (w : World) (hm : s.size ≤ maxLen) (wf : (Lit.int .i64 f).wf = true) (wb : (Lit.int .i64 b).wf = true) (h : ¬ ChainYes s.size f b) :
    Calls Tryd.prog 25 #[.string s, .int .i64 f, .int .i64 b] w fun e w' => e = .returned (.tuple #[.string ByteArray.empty, .bool false]) ∧ Below w.heap.size w w' := by
  have hf := bounds_i64 wf
  have hb := bounds_i64 wb
  unfold maxLen at hm
  unfold ChainYes at h
  by_cases h1 : s.size = 4
  · have h1' : (s.size : Int) = 4 := by omega
    by_cases h2 : f < 0
    · clear h
      go_enter Tryd.func25, Tryd.ntmps25
      go_wp2
      go_returns
      exact ⟨rfl, by go_grown⟩
    · by_cases h3 : b < 0
      · clear h
        go_enter Tryd.func25, Tryd.ntmps25
        go_wp2
        go_returns
        exact ⟨rfl, by go_grown⟩
      · have h4 : 15 - f < b := by omega
        clear h
        go_enter Tryd.func25, Tryd.ntmps25
        go_wp2
        go_returns
        exact ⟨rfl, by go_grown⟩
  · have h1' : ¬ (s.size : Int) = 4 := by omega
    clear h
    go_enter Tryd.func25, Tryd.ntmps25
    go_wp2
    go_returns
    exact ⟨rfl, by go_grown⟩
set_option maxHeartbeats 1600000 in
theorem implChainYes (s : ByteArray) (f n : Nat) (w : World) (hs : s.size = 4) (hn : f + n ≤ 15) (ht : Table w) :
    Calls Tryd.prog 25 #[.string s, .int .i64 f, .int .i64 n] w fun e w' => e = .returned (.tuple #[.string (chainB s f n), .bool true]) ∧ Below w.heap.size w w' := by
  have hs1 : (s.size : Int) = 4 := by omega
  have hcs := chainB_size s f n hs
  have h4 : ¬ 15 - (f : Int) < (n : Int) := by omega
  have HG := implGo s f n w hs hn ht
  clear ht
  go_enter Tryd.func25, Tryd.ntmps25
  go_wp2_with fail
  refine HG.mono ?_
  rintro e w1 ⟨rfl, hb1⟩
  go_wp2_with (first | (go_at_call 114; refine (stringsliteClone _ _ (by omega)).mono ?_; rintro e w2 ⟨rfl, hb2⟩) | go_in)
  go_returns
  exact ⟨rfl, hb1.trans (hb2.mono hb1.size)⟩
theorem specInYes (n lo hi : Int) (w : World) (h0 : lo ≤ n) (h1 : n ≤ hi) :
    Calls Tryd.prog 106 #[.int .i64 n, .int .i64 lo, .int .i64 hi] w fun e w' => e = .returned (.bool true) ∧ w' = w := by
  go_enter Tryd.func106, Tryd.ntmps106
  go_wp2
  go_returns
  exact ⟨rfl, rfl⟩
theorem implGoUp (s : ByteArray) (n : Nat) (w : World) (hs : s.size = 4) (hn : n ≤ 15) (ht : Table w) :
    Calls Tryd.prog 80 #[.string s, .int .i64 0, .int .i64 n] w fun e w' => e = .returned (.string (chainB s 0 n)) ∧ Below w.heap.size w w' := by
  have h := implGo s 0 n w hs (by omega) ht
  have e : ((0 : Nat) : Int) + (n : Int) = n := by omega
  rw [e] at h
  exact h
theorem implGoOn (s : ByteArray) (f : Nat) (w : World) (hs : s.size = 4) (hn : f ≤ 15) (ht : Table w) :
    Calls Tryd.prog 80 #[.string s, .int .i64 f, .int .i64 15] w fun e w' => e = .returned (.string (chainB s f (15 - f))) ∧ Below w.heap.size w w' := by
  have h := implGo s f (15 - f) w hs (by omega) ht
  have e : (f : Int) + ((15 - f : Nat) : Int) = 15 := by omega
  rw [e] at h
  exact h
end Go.Proofs.YtemkkofjakpjiaaDoor
