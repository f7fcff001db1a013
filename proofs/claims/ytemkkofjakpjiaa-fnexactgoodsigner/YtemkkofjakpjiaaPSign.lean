/- Contracts of GoodSigner and LeftIn, of the program and of its model, and of the law's helpers on signers. No condition. -/
import Derived.Test.YtemkkofjakpjiaaMix
import Derived.Deep.OwnRows
import Derived.RegionTactic
import Derived.Deep.RegionHeld3
import Derived.Deep.DeepCutAuto
import Derived.Deep.DrawnRows
namespace Go.Proofs.Ytemkkofjakpjiaa
open Go.ChangeShapes Go.WideShapes Go.ChangeAt Go.RowKit Go.Deep
set_option linter.unusedVariables false
attribute [local go_sem ↓] Go.wp_at_zero Go.wp_at_succ

theorem specInYes (n lo hi : Int) (w : World) (h0 : lo ≤ n) (h1 : n ≤ hi) :
    Calls Try.prog 12 #[.int .i64 n, .int .i64 lo, .int .i64 hi] w fun e w' => e = .returned (.bool true) ∧ w' = w := by
  go_enter Try.func12, Try.ntmps12
  go_wp2
  go_returns
  exact ⟨rfl, rfl⟩
theorem specTSeedYes (s : ByteArray) (w : World) (h0 : 1 ≤ s.size) (h1 : s.size ≤ 8) : Calls Try.prog 11 #[.string s] w fun e w' => e = .returned (.bool true) ∧ w' = w := by
  have h2 : (1 : Int) ≤ (s.size : Int) := by omega
  have h3 : (s.size : Int) ≤ 8 := by omega
  go_enter Try.func11, Try.ntmps11
  go_wp2_with fail
  refine (specInYes _ _ _ _ h2 h3).mono ?_
  rintro e w0 ⟨rfl, rfl⟩
  go_wp2
  go_returns
  exact ⟨rfl, rfl⟩
theorem specTSeedNo (s : ByteArray) (w : World) (hm : s.size ≤ maxLen) (h : ¬ (1 ≤ s.size ∧ s.size ≤ 8)) : Calls Try.prog 11 #[.string s] w fun e w' => e = .returned (.bool false) ∧ w' = w := by
  unfold maxLen at hm
  by_cases h0 : 1 ≤ s.size
  · have h2 : (1 : Int) ≤ (s.size : Int) := by omega
    have h3 : ¬ (s.size : Int) ≤ 8 := by omega
    clear h
    go_enter Try.func11, Try.ntmps11
    go_wp2
    go_returns
    exact ⟨rfl, rfl⟩
  · have h2 : s.size = 0 := by omega
    have h3 : (s.size : Int) = 0 := by omega
    clear h
    go_enter Try.func11, Try.ntmps11
    go_wp2
    go_returns
    exact ⟨rfl, rfl⟩
theorem implTSeedYes (s : ByteArray) (w : World) (h0 : 1 ≤ s.size) (h1 : s.size ≤ 8) : Calls Try.prog 13 #[.string s] w fun e w' => e = .returned (.bool true) ∧ w' = w := by
  have h2 : (1 : Int) ≤ (s.size : Int) := by omega
  have h3 : (s.size : Int) ≤ 8 := by omega
  go_enter Try.func13, Try.ntmps13
  go_wp2
  go_returns
  exact ⟨rfl, rfl⟩
theorem implTSeedNo (s : ByteArray) (w : World) (hm : s.size ≤ maxLen) (h : ¬ (1 ≤ s.size ∧ s.size ≤ 8)) : Calls Try.prog 13 #[.string s] w fun e w' => e = .returned (.bool false) ∧ w' = w := by
  unfold maxLen at hm
  by_cases h0 : 1 ≤ s.size
  · have h2 : (1 : Int) ≤ (s.size : Int) := by omega
    have h3 : ¬ (s.size : Int) ≤ 8 := by omega
    clear h
    go_enter Try.func13, Try.ntmps13
    go_wp2
    go_returns
    exact ⟨rfl, rfl⟩
  · have h2 : s.size = 0 := by omega
    have h3 : (s.size : Int) = 0 := by omega
    clear h
    go_enter Try.func13, Try.ntmps13
    go_wp2
    go_returns
    exact ⟨rfl, rfl⟩
/-- A good signer. -/
def SignerOk (s : ByteArray) (u : Int) : Prop := (1 ≤ s.size ∧ s.size ≤ 8) ∧ 0 ≤ u ∧ u ≤ 8
def signerB (s : ByteArray) (u : Int) : Bool := decide ((1 ≤ s.size ∧ s.size ≤ 8) ∧ 0 ≤ u ∧ u ≤ 8)
theorem signerB_true {s : ByteArray} {u : Int} (h : SignerOk s u) : signerB s u = true := decide_eq_true h
theorem signerB_false {s : ByteArray} {u : Int} (h : ¬ SignerOk s u) : signerB s u = false := decide_eq_false h
set_option maxHeartbeats 1600000 in
theorem specSigner (s : ByteArray) (u : Int) (w : World) (hm : s.size ≤ maxLen) :
    Calls Try.prog 6 #[.agg #[.string s, .int .i64 u]] w fun e w' => e = .returned (.bool (signerB s u)) ∧ Below w.heap.size w w' := by
  by_cases h1 : 1 ≤ s.size ∧ s.size ≤ 8
  · by_cases h2 : 0 ≤ u ∧ u ≤ 8
    · have HD : Hid (signerB s u = true) := signerB_true ⟨h1, h2⟩
      go_enter Try.func6, Try.ntmps6
      go_wp2_with fail
      refine (specTSeedYes s _ h1.1 h1.2).mono ?_
      rintro e w0 ⟨rfl, rfl⟩
      go_wp2_with fail
      refine (specInYes _ _ _ _ h2.1 h2.2).mono ?_
      rintro e w1 ⟨rfl, rfl⟩
      go_wp2
      go_returns
      exact ⟨by rw [HD.out]; rfl, by go_grown⟩
    · have HD : Hid (signerB s u = false) := signerB_false (fun g => h2 g.2)
      by_cases h3 : 0 ≤ u
      · have h4 : ¬ u ≤ 8 := by omega
        have h5 : decide (u ≤ 8) = false := by simp; omega
        clear h2
        go_enter Try.func6, Try.ntmps6
        go_wp2_with fail
        refine (specTSeedYes s _ h1.1 h1.2).mono ?_
        rintro e w0 ⟨rfl, rfl⟩
        go_wp2
        go_returns
        exact ⟨by rw [HD.out]; rfl, by go_grown⟩
      · clear h2
        go_enter Try.func6, Try.ntmps6
        go_wp2_with fail
        refine (specTSeedYes s _ h1.1 h1.2).mono ?_
        rintro e w0 ⟨rfl, rfl⟩
        go_wp2
        go_returns
        exact ⟨by rw [HD.out]; rfl, by go_grown⟩
  · have HD : Hid (signerB s u = false) := signerB_false (fun g => h1 g.1)
    go_enter Try.func6, Try.ntmps6
    go_wp2_with fail
    refine (specTSeedNo s _ hm h1).mono ?_
    rintro e w0 ⟨rfl, rfl⟩
    go_wp2
    go_returns
    exact ⟨by rw [HD.out]; rfl, by go_grown⟩
set_option maxHeartbeats 1600000 in
theorem specLeftYes (s : ByteArray) (u : Int) (w : World) (hm : s.size ≤ maxLen) (h : SignerOk s u) :
    Calls Try.prog 9 #[.agg #[.string s, .int .i64 u]] w fun e w' => e = .returned (.tuple #[.int .i64 (8 - u), .bool true]) ∧ Below w.heap.size w w' := by
  have HG := fun W => specSigner s u W hm
  rw [signerB_true h] at HG
  have hu := h.2
  clear h
  go_enter Try.func9, Try.ntmps9
  go_wp2_with fail
  refine (HG _).mono ?_
  rintro e w1 ⟨rfl, hb1⟩
  obtain ⟨hc1, hf1⟩ := bcell hb1
  have hz1 := hb1.size
  try simp only [World.size_drew] at hz1
  try simp only [World.size_setCell] at hz1
  try simp only [World.size_alloc] at hz1
  have hz1_0 : w.heap.size < w1.heap.size := by omega
  clear hz1
  have k1 : Below w.heap.size w w1 := by
    refine Below.trans ?_ (hb1.mono ?_)
    · go_grown
    · go_size
  have hl1 : w.heap.size ≤ w1.heap.size := k1.size
  clear hb1
  clear HG
  go_wp2
  go_returns
  exact ⟨rfl, by go_grown⟩
set_option maxHeartbeats 1600000 in
theorem specLeftNo (s : ByteArray) (u : Int) (w : World) (hm : s.size ≤ maxLen) (h : ¬ SignerOk s u) :
    Calls Try.prog 9 #[.agg #[.string s, .int .i64 u]] w fun e w' => e = .returned (.tuple #[.int .i64 0, .bool false]) ∧ Below w.heap.size w w' := by
  have HG := fun W => specSigner s u W hm
  rw [signerB_false h] at HG
  clear h
  go_enter Try.func9, Try.ntmps9
  go_wp2_with fail
  refine (HG _).mono ?_
  rintro e w1 ⟨rfl, hb1⟩
  obtain ⟨hc1, hf1⟩ := bcell hb1
  have hz1 := hb1.size
  try simp only [World.size_drew] at hz1
  try simp only [World.size_setCell] at hz1
  try simp only [World.size_alloc] at hz1
  have hz1_0 : w.heap.size < w1.heap.size := by omega
  clear hz1
  have k1 : Below w.heap.size w w1 := by
    refine Below.trans ?_ (hb1.mono ?_)
    · go_grown
    · go_size
  have hl1 : w.heap.size ≤ w1.heap.size := k1.size
  clear hb1
  clear HG
  go_wp2
  go_returns
  exact ⟨rfl, by go_grown⟩
set_option maxHeartbeats 1600000 in
theorem implSigner (s : ByteArray) (u : Int) (w : World) (hm : s.size ≤ maxLen) :
    Calls Try.prog 8 #[.agg #[.string s, .int .i64 u]] w fun e w' => e = .returned (.bool (signerB s u)) ∧ Below w.heap.size w w' := by
  by_cases h1 : 1 ≤ s.size ∧ s.size ≤ 8
  · by_cases h3 : 0 ≤ u
    · by_cases h4 : u ≤ 8
      · have HD : Hid (signerB s u = true) := signerB_true ⟨h1, h3, h4⟩
        go_enter Try.func8, Try.ntmps8
        go_wp2_with fail
        refine (implTSeedYes s _ h1.1 h1.2).mono ?_
        rintro e w0 ⟨rfl, rfl⟩
        go_wp2
        go_returns
        exact ⟨by rw [HD.out]; rfl, by go_grown⟩
      · have HD : Hid (signerB s u = false) := signerB_false (fun g => h4 g.2.2)
        have h5 : decide (u ≤ 8) = false := by simp; omega
        go_enter Try.func8, Try.ntmps8
        go_wp2_with fail
        refine (implTSeedYes s _ h1.1 h1.2).mono ?_
        rintro e w0 ⟨rfl, rfl⟩
        go_wp2
        go_returns
        exact ⟨by rw [HD.out]; rfl, by go_grown⟩
    · have HD : Hid (signerB s u = false) := signerB_false (fun g => h3 g.2.1)
      go_enter Try.func8, Try.ntmps8
      go_wp2_with fail
      refine (implTSeedYes s _ h1.1 h1.2).mono ?_
      rintro e w0 ⟨rfl, rfl⟩
      go_wp2
      go_returns
      exact ⟨by rw [HD.out]; rfl, by go_grown⟩
  · have HD : Hid (signerB s u = false) := signerB_false (fun g => h1 g.1)
    go_enter Try.func8, Try.ntmps8
    go_wp2_with fail
    refine (implTSeedNo s _ hm h1).mono ?_
    rintro e w0 ⟨rfl, rfl⟩
    go_wp2
    go_returns
    exact ⟨by rw [HD.out]; rfl, by go_grown⟩
set_option maxHeartbeats 1600000 in
theorem implLeftYes (s : ByteArray) (u : Int) (w : World) (hm : s.size ≤ maxLen) (h : SignerOk s u) :
    Calls Try.prog 10 #[.agg #[.string s, .int .i64 u]] w fun e w' => e = .returned (.tuple #[.int .i64 (8 - u), .bool true]) ∧ Below w.heap.size w w' := by
  have HG := fun W => implSigner s u W hm
  rw [signerB_true h] at HG
  have hu := h.2
  clear h
  go_enter Try.func10, Try.ntmps10
  go_wp2_with fail
  refine (HG _).mono ?_
  rintro e w1 ⟨rfl, hb1⟩
  obtain ⟨hc1, hf1⟩ := bcell hb1
  have hz1 := hb1.size
  try simp only [World.size_drew] at hz1
  try simp only [World.size_setCell] at hz1
  try simp only [World.size_alloc] at hz1
  have hz1_0 : w.heap.size < w1.heap.size := by omega
  clear hz1
  have k1 : Below w.heap.size w w1 := by
    refine Below.trans ?_ (hb1.mono ?_)
    · go_grown
    · go_size
  have hl1 : w.heap.size ≤ w1.heap.size := k1.size
  clear hb1
  clear HG
  go_wp2
  go_returns
  exact ⟨rfl, by go_grown⟩
set_option maxHeartbeats 1600000 in
theorem implLeftNo (s : ByteArray) (u : Int) (w : World) (hm : s.size ≤ maxLen) (h : ¬ SignerOk s u) :
    Calls Try.prog 10 #[.agg #[.string s, .int .i64 u]] w fun e w' => e = .returned (.tuple #[.int .i64 0, .bool false]) ∧ Below w.heap.size w w' := by
  have HG := fun W => implSigner s u W hm
  rw [signerB_false h] at HG
  clear h
  go_enter Try.func10, Try.ntmps10
  go_wp2_with fail
  refine (HG _).mono ?_
  rintro e w1 ⟨rfl, hb1⟩
  obtain ⟨hc1, hf1⟩ := bcell hb1
  have hz1 := hb1.size
  try simp only [World.size_drew] at hz1
  try simp only [World.size_setCell] at hz1
  try simp only [World.size_alloc] at hz1
  have hz1_0 : w.heap.size < w1.heap.size := by omega
  clear hz1
  have k1 : Below w.heap.size w w1 := by
    refine Below.trans ?_ (hb1.mono ?_)
    · go_grown
    · go_size
  have hl1 : w.heap.size ≤ w1.heap.size := k1.size
  clear hb1
  clear HG
  go_wp2
  go_returns
  exact ⟨rfl, by go_grown⟩
theorem toSigner (s : ByteArray) (u : Int) (w : World) :
    Calls Try.prog 7 #[.agg #[.string s, .int .i64 u]] w fun e w' => e = .returned (.agg #[.string s, .int .i64 u]) ∧ Below w.heap.size w w' := by
  go_enter Try.func7, Try.ntmps7
  go_wp2
  go_returns
  exact ⟨rfl, by go_grown⟩
theorem szSignerYes (s : ByteArray) (u : Int) (z : Nat) (w : World) (hz : z ≤ 1048576) (h : s.size ≤ z) :
    Calls Try.prog 5 #[.agg #[.string s, .int .i64 u], .int .i64 z] w fun e w' => e = .returned (.int .i64 ((z : Int) - (s.size : Int))) ∧ Below w.heap.size w w' := by
  have h0 : ¬ (z : Int) - (s.size : Int) < 0 := by omega
  go_enter Try.func5, Try.ntmps5
  go_wp2
  go_returns
  exact ⟨rfl, by go_grown⟩
theorem szSignerNo (s : ByteArray) (u : Int) (z : Nat) (w : World) (hm : s.size ≤ maxLen) (hz : z ≤ 1048576) (h : z < s.size) :
    Calls Try.prog 5 #[.agg #[.string s, .int .i64 u], .int .i64 z] w fun e w' => e = .returned (.int .i64 (-1)) ∧ Below w.heap.size w w' := by
  unfold maxLen at hm
  have h0 : (z : Int) - (s.size : Int) < 0 := by omega
  go_enter Try.func5, Try.ntmps5
  go_wp2
  go_returns
  exact ⟨rfl, by go_grown⟩
end Go.Proofs.Ytemkkofjakpjiaa
