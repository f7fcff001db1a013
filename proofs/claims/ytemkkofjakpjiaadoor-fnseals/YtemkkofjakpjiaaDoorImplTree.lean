/- Contracts of the program's tree of keys: leaves, pairs, rows of pairs. Condition: the table of weights as it is laid. -/
import Derived.Test.YtemkkofjakpjiaaDoorTree
import Derived.Test.YtemkkofjakpjiaaDoorPublic
import Derived.Deep.RegionHeld3
import Derived.Deep.DeepCutAuto
import Derived.Deep.DrawnRows
namespace Go.Proofs.YtemkkofjakpjiaaDoor
open Go.ChangeShapes Go.WideShapes Go.ChangeAt Go.RowKit Go.Deep
set_option linter.unusedVariables false
attribute [local go_sem ↓] Go.wp_at_zero Go.wp_at_succ

theorem implLeafSeed (s : ByteArray) (no : Nat) (w : World) (hs : s.size ≤ 8) (hn : no ≤ 255) :
    Calls Tryd.prog 86 #[.string s, .int .i64 no] w fun e w' => e = .returned (.string (leafSeed s no)) ∧ Below w.heap.size w w' := by
  have hcv := mconv1
  have hs1 := size1 (no : Int)
  have hi1 : (no : Int) ≤ 255 := by omega
  go_enter Tryd.func86, Tryd.ntmps86
  go_wp2
  go_returns
  exact ⟨rfl, by go_grown⟩
theorem implPair (a b : ByteArray) (w : World) (ha : a.size = 4) (hb : b.size = 4) (ht : Table w) :
    Calls Tryd.prog 100 #[.string a, .string b] w fun e w' => e = .returned (.string (pairB a b)) ∧ Below w.heap.size w w' := by
  have hz : (a ++ b).size ≤ 600 := by rw [ByteArray.size_append]; omega
  have HD := implDigestYes 116 (a ++ b) w (by omega) (by omega) hz ht
  go_enter Tryd.func100, Tryd.ntmps100
  go_wp2_with fail
  refine HD.mono ?_
  rintro e w1 ⟨rfl, hb1⟩
  go_wp2
  go_returns
  exact ⟨rfl, hb1⟩
theorem implTSeedYes (s : ByteArray) (w : World) (h0 : 1 ≤ s.size) (h1 : s.size ≤ 8) : Calls Tryd.prog 90 #[.string s] w fun e w' => e = .returned (.bool true) ∧ w' = w := by
  have h2 : (1 : Int) ≤ (s.size : Int) := by omega
  have h3 : (s.size : Int) ≤ 8 := by omega
  go_enter Tryd.func90, Tryd.ntmps90
  go_wp2
  go_returns
  exact ⟨rfl, rfl⟩
theorem implTSeedNo (s : ByteArray) (w : World) (hm : s.size ≤ maxLen) (h : ¬ (1 ≤ s.size ∧ s.size ≤ 8)) : Calls Tryd.prog 90 #[.string s] w fun e w' => e = .returned (.bool false) ∧ w' = w := by
  unfold maxLen at hm
  by_cases h0 : 1 ≤ s.size
  · have h2 : (1 : Int) ≤ (s.size : Int) := by omega
    have h3 : ¬ (s.size : Int) ≤ 8 := by omega
    clear h
    go_enter Tryd.func90, Tryd.ntmps90
    go_wp2
    go_returns
    exact ⟨rfl, rfl⟩
  · have h2 : s.size = 0 := by omega
    have h3 : (s.size : Int) = 0 := by omega
    clear h
    go_enter Tryd.func90, Tryd.ntmps90
    go_wp2
    go_returns
    exact ⟨rfl, rfl⟩
theorem implNoYes (n : Int) (w : World) (h0 : 0 ≤ n) (h1 : n ≤ 7) : Calls Tryd.prog 96 #[.int .i64 n] w fun e w' => e = .returned (.bool true) ∧ w' = w := by
  have h2 : n < 8 := by omega
  go_enter Tryd.func96, Tryd.ntmps96
  go_wp2
  go_returns
  exact ⟨rfl, rfl⟩
theorem implNoNo (n : Int) (w : World) (h : ¬ (0 ≤ n ∧ n ≤ 7)) : Calls Tryd.prog 96 #[.int .i64 n] w fun e w' => e = .returned (.bool false) ∧ w' = w := by
  by_cases h0 : 0 ≤ n
  · have h3 : ¬ n < 8 := by omega
    clear h
    go_enter Tryd.func96, Tryd.ntmps96
    go_wp2
    go_returns
    exact ⟨rfl, rfl⟩
  · clear h
    go_enter Tryd.func96, Tryd.ntmps96
    go_wp2
    go_returns
    exact ⟨rfl, rfl⟩
theorem implOther (no : Nat) (w : World) (h : no < 8) : Calls Tryd.prog 97 #[.int .i64 no] w fun e w' => e = .returned (.int .i64 ((no ^^^ 1 : Nat) : Int)) ∧ w' = w := by
  have hx := xor_i64 no h
  generalize no ^^^ 1 = X at *
  go_enter Tryd.func97, Tryd.ntmps97
  go_wp2
  go_returns
  exact ⟨rfl, rfl⟩
set_option maxHeartbeats 1600000 in
theorem implLeafYes (s : ByteArray) (no : Nat) (w : World) (h0 : 1 ≤ s.size) (h1 : s.size ≤ 8) (hn : no < 8) (ht : Table w) :
    Calls Tryd.prog 44 #[.string s, .int .i64 no] w fun e w' => e = .returned (.tuple #[.string (leafB s no), .bool true]) ∧ Below w.heap.size w w' := by
  have hz := leafSeed_size s no
  have HT : Hid (Table w) := ht
  clear ht
  go_enter Tryd.func44, Tryd.ntmps44
  go_wp2_with fail
  refine (implTSeedYes s _ h0 h1).mono ?_
  rintro e w0 ⟨rfl, rfl⟩
  go_wp2_with fail
  refine (implNoYes no _ (by omega) (by omega)).mono ?_
  rintro e w1 ⟨rfl, rfl⟩
  go_wp2_with fail
  refine (implLeafSeed s no _ h1 (by omega)).mono ?_
  rintro e w2 ⟨rfl, hb2⟩
  have hl2 := hb2.size
  go_wp2_with fail
  refine (implPubYes (leafSeed s no) _ (by omega) (by omega) (HT.out.below hb2)).mono ?_
  rintro e w3 ⟨rfl, hb3⟩
  go_wp2
  go_returns
  exact ⟨rfl, hb2.trans (hb3.mono hl2)⟩
set_option maxHeartbeats 1600000 in
theorem implLeafNo (s : ByteArray) (n : Int) (w : World) (hm : s.size ≤ maxLen) (h : ¬ ((1 ≤ s.size ∧ s.size ≤ 8) ∧ 0 ≤ n ∧ n ≤ 7)) :
    Calls Tryd.prog 44 #[.string s, .int .i64 n] w fun e w' => e = .returned (.tuple #[.string ByteArray.empty, .bool false]) ∧ w' = w := by
  by_cases h1 : 1 ≤ s.size ∧ s.size ≤ 8
  · go_enter Tryd.func44, Tryd.ntmps44
    go_wp2_with fail
    refine (implTSeedYes s _ h1.1 h1.2).mono ?_
    rintro e w0 ⟨rfl, rfl⟩
    go_wp2_with fail
    refine (implNoNo n _ (fun g => h ⟨h1, g⟩)).mono ?_
    rintro e w1 ⟨rfl, rfl⟩
    go_wp2
    go_returns
    exact ⟨rfl, rfl⟩
  · go_enter Tryd.func44, Tryd.ntmps44
    go_wp2_with fail
    refine (implTSeedNo s _ hm h1).mono ?_
    rintro e w0 ⟨rfl, rfl⟩
    go_wp2
    go_returns
    exact ⟨rfl, rfl⟩

theorem madeN (n : Nat) (w : World) : OwnRow w.heap.size (w.alloc (.cells (madeCells #[.string ByteArray.empty] n) 9)) w.heap.size n (fun _ => .string ByteArray.empty) := by
  refine ⟨Nat.le_refl _, by simp, fun i hi => ?_, fun i hi => by simp⟩
  have : (madeCells #[Value.string ByteArray.empty] n)[i]? = some (.string ByteArray.empty) := by simp [madeCells, hi, Nat.mod_one]
  simp [World.cell?_alloc_new, this]
theorem makeN (n : Nat) (hn : n ≤ 8) (w : World) : (Instr.makeSlice 25 (.int .i64 (n : Int)) (.int .i64 (n : Int))).run Tryd.prog w = .ok (.slice (some ⟨w.heap.size, 0, none⟩) n n) (w.alloc (.cells (madeCells #[.string ByteArray.empty] n) 9)) :=
  run_make_row' (P := Tryd.prog) 25 9 (.string ByteArray.empty) 16 Tryd.underlying25 (by kernel_rfl) rfl .i64 .i64 n (by omega) (by omega) w

set_option maxHeartbeats 1600000 in
theorem implLeavesYes (s : ByteArray) (w : World) (h0 : 1 ≤ s.size) (h1 : s.size ≤ 8) (ht : Table w) :
    Calls Tryd.prog 91 #[.string s] w fun e w' => ∃ g, e = .returned (.tuple #[.slice (some ⟨g, 0, none⟩) 8 8, .bool true]) ∧ OwnRow w.heap.size w' g 8 (fun i => .string (lev s 0 i)) ∧ Below w.heap.size w w' := by
  have hmk := fun W => makeN 8 (by omega) W
  have hm0 := madeN 8 w
  simp only [show ((8 : Nat) : Int) = 8 from rfl] at hmk
  have HT : Hid (Table w) := ht
  generalize madeCells #[Value.string ByteArray.empty] 8 = M at *
  have HM : Hid (OwnRow w.heap.size (w.alloc (.cells M 9)) w.heap.size 8 (fun _ => .string ByteArray.empty)) := hm0
  clear hm0 ht
  go_enter Tryd.func91, Tryd.ntmps91
  go_wp2
  go_loopw [5, 6, 7, 11] (fun x y z i wr => ∃ k : Nat, k ≤ 8 ∧ i = .int .i64 k ∧ (∃ f, OwnRow w.heap.size wr w.heap.size 8 f ∧ (∀ i, i < 8 → ∃ x, f i = .string x) ∧ ∀ i, i < k → f i = .string (lev s 0 i)) ∧ Below w.heap.size w wr) (fun _ _ _ i _ => 8 - (intOf i).toNat)
  case atStart => exact ⟨0, Nat.zero_le _, rfl, ⟨_, HM.out, fun i _ => ⟨_, rfl⟩, fun i hi => by omega⟩, by go_grown⟩
  case round =>
    obtain ⟨k, hk, rfl, ⟨f, ho, hx, hf⟩, kb⟩ := hrel
    have kl := kb.size
    have HO : Hid (OwnRow w.heap.size wr w.heap.size 8 f) := ho
    have HX : Hid (∀ i, i < 8 → ∃ x, f i = .string x) := hx
    have HF : Hid (∀ i, i < k → f i = .string (lev s 0 i)) := hf
    clear ho hx hf
    by_cases hlt : k < 8
    · go_wp2_with fail
      refine (implLeafYes s k _ h0 h1 hlt (HT.out.below kb)).mono ?_
      rintro e w1 ⟨rfl, hb1⟩
      have kb1 : Below w.heap.size w w1 := kb.trans (hb1.mono kl)
      have HO1 : Hid (OwnRow w.heap.size w1 w.heap.size 8 f) := HO.out.below hb1
      clear hb1
      have hc := HO1.out.2.2.1 k hlt
      have hfz := HO1.out.2.2.2 k hlt
      obtain ⟨x0, hx0⟩ := HX.out k hlt
      rw [hx0] at hc
      clear hx0
      go_wp2
      refine ⟨⟨k + 1, by omega, by go_num, ⟨_, HO1.out.set hlt _, fun i hi => ?_, fun i hi => ?_⟩, by go_grown⟩, by simp [intOf]; omega⟩
      · by_cases e : i = k
        · exact ⟨_, by simp only [e, if_true]; rfl⟩
        · obtain ⟨x, hx⟩ := HX.out i hi
          exact ⟨x, by simp only [if_neg e]; exact hx⟩
      · by_cases e : i = k
        · simp only [e, if_true]; rfl
        · simp only [if_neg e]; exact HF.out i (by omega)
    · have hke : k = 8 := by omega
      subst hke
      go_wp2
      go_returns
      exact ⟨_, rfl, HO.out.congr (fun i hi => HF.out i hi), kb⟩
set_option maxHeartbeats 1600000 in
theorem implLeavesNo (s : ByteArray) (w : World) (hm : s.size ≤ maxLen) (h : ¬ (1 ≤ s.size ∧ s.size ≤ 8)) :
    Calls Tryd.prog 91 #[.string s] w fun e w' => e = .returned (.tuple #[.slice none 0 0, .bool false]) ∧ Below w.heap.size w w' := by
  have hmk := fun W => makeN 8 (by omega) W
  simp only [show ((8 : Nat) : Int) = 8 from rfl] at hmk
  generalize madeCells #[Value.string ByteArray.empty] 8 = M at *
  have HL := fun W => implLeafNo s 0 W hm (fun g => h g.1)
  go_enter Tryd.func91, Tryd.ntmps91
  go_wp2
  go_loopw [5, 6, 7, 11] (fun x y z i wr => i = .int .i64 0 ∧ Below w.heap.size w wr) (fun _ _ _ i _ => 0)
  case atStart => exact ⟨rfl, by go_grown⟩
  case round =>
    obtain ⟨rfl, kb⟩ := hrel
    go_wp2_with fail
    refine (HL _).mono ?_
    rintro e w1 ⟨rfl, rfl⟩
    go_wp2
    go_returns
    exact ⟨rfl, kb⟩
end Go.Proofs.YtemkkofjakpjiaaDoor
