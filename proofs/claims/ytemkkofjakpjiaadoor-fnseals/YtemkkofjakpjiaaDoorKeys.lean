/- Contracts of the parts of a key, program and model. Condition: the table of weights as it is laid. -/
import Derived.Test.YtemkkofjakpjiaaDoorChain
import Derived.Test.YtemkkofjakpjiaaDoorOwn2
import Derived.Deep.AppendLies
namespace Go.Proofs.YtemkkofjakpjiaaDoor
open Go.ChangeShapes Go.WideShapes Go.ChangeAt Go.RowKit Go.Deep
set_option linter.unusedVariables false

set_option maxHeartbeats 800000 in
theorem specKey (s : ByteArray) (k : Nat) (w : World) (hk : k ≤ 255) (hs : s.size ≤ 599) :
    Calls Tryd.prog 77 #[.string s, .int .i64 k] w fun e w' => e = .returned (.string (keyB s k)) ∧ Below w.heap.size w w' := by
  have hcv := mconv1
  have hs1 := size1 (k : Int)
  have hn := num_size k s
  have hi1 : (k : Int) ≤ 255 := by omega
  go_enter Tryd.func77, Tryd.ntmps77
  go_wp2_with fail
  refine (specL1Digest 107 (strOfNums [(k : Int)] ++ s) _ (by omega) (by omega) (by omega)).mono ?_
  rintro e w1 ⟨rfl, hb1⟩
  obtain ⟨hc1, hf1⟩ := bcell hb1
  have hz1 := hb1.size
  try simp only [World.size_drew] at hz1
  try simp only [World.size_setCell] at hz1
  try simp only [World.size_alloc] at hz1
  clear hz1
  have k1 : Below w.heap.size w w1 := by
    refine Below.trans ?_ (hb1.mono ?_)
    · go_grown
    · go_size
  have hl1 : w.heap.size ≤ w1.heap.size := k1.size
  clear hb1
  go_wp2
  go_returns
  exact ⟨rfl, by go_grown⟩
theorem infoStr : (Tryd.prog.info? 9).map (fun i => (i.zero, i.size, i.bytes)) = some (some (.string ByteArray.empty), 1, 16) := by kernel_rfl
/-- The first k texts of a list, as values. -/
def strV (ss : List ByteArray) : List Value := ss.map Value.string
theorem strV_snoc (ss : List ByteArray) (s : ByteArray) : strV (ss ++ [s]) = strV ss ++ [.string s] := by simp [strV]
theorem strV_at (ss : List ByteArray) (i : Nat) (h : i < ss.length) : (strV ss).getD i default = .string (ss.getD i ByteArray.empty) := by simp [strV, List.getD, h]

theorem specSeedYes (s : ByteArray) (w : World) (h0 : 1 ≤ s.size) (h1 : s.size ≤ 16) : Calls Tryd.prog 69 #[.string s] w fun e w' => e = .returned (.bool true) ∧ w' = w := by
  have h2 : (1 : Int) ≤ (s.size : Int) := by omega
  have h3 : (s.size : Int) ≤ 16 := by omega
  go_enter Tryd.func69, Tryd.ntmps69
  go_wp2_with fail
  refine (specInYes _ _ _ _ h2 h3).mono ?_
  rintro e w0 ⟨rfl, rfl⟩
  go_wp2
  go_returns
  exact ⟨rfl, rfl⟩
theorem specSeedNo (s : ByteArray) (w : World) (hm : s.size ≤ maxLen) (h : ¬ (1 ≤ s.size ∧ s.size ≤ 16)) : Calls Tryd.prog 69 #[.string s] w fun e w' => e = .returned (.bool false) ∧ w' = w := by
  unfold maxLen at hm
  by_cases h0 : 1 ≤ s.size
  · have h2 : (1 : Int) ≤ (s.size : Int) := by omega
    have h3 : ¬ (s.size : Int) ≤ 16 := by omega
    clear h
    go_enter Tryd.func69, Tryd.ntmps69
    go_wp2
    go_returns
    exact ⟨rfl, rfl⟩
  · have h2 : s.size = 0 := by omega
    have h3 : (s.size : Int) = 0 := by omega
    clear h
    go_enter Tryd.func69, Tryd.ntmps69
    go_wp2
    go_returns
    exact ⟨rfl, rfl⟩

set_option maxHeartbeats 1600000 in
set_option maxRecDepth 100000 in
theorem specKeysYes (s : ByteArray) (w : World) (h0 : 1 ≤ s.size) (h1 : s.size ≤ 16) :
    Calls Tryd.prog 20 #[.string s] w fun e w' => ∃ g cap, e = .returned (.tuple #[.slice (some ⟨g, 0, none⟩) 11 cap, .bool true]) ∧ OwnRow w.heap.size w' g 11 (fun i => .string ((keysB s).getD i ByteArray.empty)) ∧ Below w.heap.size w w' := by
  obtain ⟨i0, hi, hzz⟩ := Option.map_eq_some_iff.1 infoStr
  simp only [Prod.mk.injEq] at hzz
  obtain ⟨hz0, hz1, hz2⟩ := hzz
  go_enter Tryd.func20, Tryd.ntmps20
  go_wp2_with fail
  refine (specSeedYes s _ h0 h1).mono ?_
  rintro e w0 ⟨rfl, rfl⟩
  go_wp2_with fail
  go_loopw [4, 5] (fun v i wr => ∃ k : Nat, k ≤ 11 ∧ i = .int .i64 k ∧ wr.ownsRow w0.heap.size 9 1 v k (strV ((keysB s).take k)) ∧ Below w0.heap.size w0 wr) (fun _ i _ => 11 - (intOf i).toNat)
  case atStart => exact ⟨0, Nat.zero_le _, rfl, World.ownsRow_nil _ _ _ _, by go_grown⟩
  case round =>
    obtain ⟨k, hk, rfl, hown, kb⟩ := hrel
    have kl := kb.size
    by_cases hlt : k < 11
    · have HS : Hid (strV ((keysB s).take (k + 1)) = strV ((keysB s).take k) ++ [.string (keyB s k)]) := by
        show _ = _
        unfold keysB; rw [take_range (keyB s) 11 k hlt]; exact strV_snoc _ _
      generalize strV ((keysB s).take k) = R at *
      go_wp2_with fail
      refine (specKey s k _ (by omega) (by omega)).mono ?_
      rintro e w1 ⟨rfl, hb1⟩
      have kb1 : Below w0.heap.size w0 w1 := kb.trans (hb1.mono kl)
      have kl1 := kb1.size
      have hown1 : w1.ownsRow w0.heap.size 9 1 u4 k R := hown.kept (row := none) ⟨hb1.os, hb1.tape, hb1.output, hb1.size, fun k hk _ => hb1.block k hk⟩ (by cases h : u4.ownBlock <;> simp)
      clear hb1 hown
      generalize keyB s k = t at *
      go_wp2_with (first
        | (at_builtin; refine wpList_append_own _ rfl _ _ 25 rfl w0.heap.size 9 i0 (.string ByteArray.empty) 1 16 Tryd.underlying25 hi hz0 hz1 hz2 rfl (by decide) _ _ _ rfl (hown1.alloc _) ⟨w1.heap.size, 0, none⟩ 1 1 [.string t] rfl rfl ?c1 ?c2 ?c3 ?c4 ?c5 ?_)
        | fail)
      case c1 =>
        intro j u hj
        match j, hj with
        | 0, hj => simp at hj; subst hj; simp [Addr.add]
      case c2 => intro u hu; simp at hu; subst hu; rfl
      case c3 => unfold maxLen; omega
      case c4 => omega
      case c5 => simp; omega
      intro v2 w2 hown2 hg2 _
      have kb2 : Below w0.heap.size w0 w2 := (kb1.alloc kl1 _).grown hg2 (by simp; omega) (fun r hr => (hown1.lt r hr).1)
      clear hg2
      go_wp2
      exact ⟨⟨k + 1, by omega, by go_num, by rw [HS.out]; exact hown2, kb2⟩, by simp [intOf]; omega⟩
    · have hke : k = 11 := by omega
      subst hke
      rw [List.take_of_length_le (by rw [keysB_len]; omega)] at hown
      obtain ⟨g, cap, hv, ho⟩ := ownRow_of hown (by omega)
      subst hv
      have HO : Hid (OwnRow w0.heap.size wr g 11 _) := ho
      clear ho hown
      go_wp2
      go_returns
      exact ⟨g, cap, rfl, HO.out.congr (fun i hi => strV_at _ _ (by rw [keysB_len]; exact hi)), kb⟩
set_option maxHeartbeats 1600000 in
theorem specKeysNo (s : ByteArray) (w : World) (hm : s.size ≤ maxLen) (h : ¬ (1 ≤ s.size ∧ s.size ≤ 16)) :
    Calls Tryd.prog 20 #[.string s] w fun e w' => e = .returned (.tuple #[.slice none 0 0, .bool false]) ∧ Below w.heap.size w w' := by
  go_enter Tryd.func20, Tryd.ntmps20
  go_wp2_with fail
  refine (specSeedNo s _ hm h).mono ?_
  rintro e w0 ⟨rfl, rfl⟩
  go_wp2
  go_returns
  exact ⟨rfl, by go_grown⟩

set_option maxHeartbeats 1600000 in
theorem implKeysNo (s : ByteArray) (w : World) (hm : s.size ≤ maxLen) (h : ¬ (1 ≤ s.size ∧ s.size ≤ 16)) :
    Calls Tryd.prog 19 #[.string s] w fun e w' => e = .returned (.tuple #[.slice none 0 0, .bool false]) ∧ Below w.heap.size w w' := by
  unfold maxLen at hm
  by_cases h0 : 1 ≤ s.size
  · have h2 : ¬ (s.size : Int) < 1 := by omega
    have h3 : (16 : Int) < (s.size : Int) := by omega
    clear h
    go_enter Tryd.func19, Tryd.ntmps19
    go_wp2
    go_returns
    exact ⟨rfl, by go_grown⟩
  · have h2 : (s.size : Int) < 1 := by omega
    clear h
    go_enter Tryd.func19, Tryd.ntmps19
    go_wp2
    go_returns
    exact ⟨rfl, by go_grown⟩
theorem made11 (w : World) : OwnRow w.heap.size (w.alloc (.cells (madeCells #[.string ByteArray.empty] 11) 9)) w.heap.size 11 (fun _ => .string ByteArray.empty) := by
  refine ⟨Nat.le_refl _, by simp, fun i hi => ?_, fun i hi => by simp⟩
  have : (madeCells #[Value.string ByteArray.empty] 11)[i]? = some (.string ByteArray.empty) := by simp [madeCells, hi, Nat.mod_one]
  simp [World.cell?_alloc_new, this]
theorem make11 (w : World) : (Instr.makeSlice 25 (.int .i64 11) (.int .i64 11)).run Tryd.prog w = .ok (.slice (some ⟨w.heap.size, 0, none⟩) 11 11) (w.alloc (.cells (madeCells #[.string ByteArray.empty] 11) 9)) :=
  run_make_row' (P := Tryd.prog) 25 9 (.string ByteArray.empty) 16 Tryd.underlying25 (by kernel_rfl) rfl .i64 .i64 11 (by omega) (by omega) w

set_option maxHeartbeats 1600000 in
theorem implKeysYes (s : ByteArray) (w : World) (h0 : 1 ≤ s.size) (h1 : s.size ≤ 16) (ht : Table w) :
    Calls Tryd.prog 19 #[.string s] w fun e w' => ∃ g cap, e = .returned (.tuple #[.slice (some ⟨g, 0, none⟩) 11 cap, .bool true]) ∧ OwnRow w.heap.size w' g 11 (fun i => .string ((keysB s).getD i ByteArray.empty)) ∧ Below w.heap.size w w' := by
  have h2 : ¬ (s.size : Int) < 1 := by omega
  have h3 : ¬ (16 : Int) < (s.size : Int) := by omega
  have hmk := make11
  have hm0 := made11 w
  have HT : Hid (Table w) := ht
  generalize madeCells #[Value.string ByteArray.empty] 11 = M at *
  have HM : Hid (OwnRow w.heap.size (w.alloc (.cells M 9)) w.heap.size 11 (fun _ => .string ByteArray.empty)) := hm0
  clear hm0 ht
  go_enter Tryd.func19, Tryd.ntmps19
  go_wp2
  go_loopw [5, 17] (fun x i wr => ∃ k : Nat, k ≤ 11 ∧ i = .int .i64 k ∧ (∃ f, OwnRow w.heap.size wr w.heap.size 11 f ∧ (∀ i, i < 11 → ∃ x, f i = .string x) ∧ ∀ i, i < k → f i = .string (keyB s i)) ∧ Below w.heap.size w wr) (fun _ i _ => 11 - (intOf i).toNat)
  case atStart => exact ⟨0, Nat.zero_le _, rfl, ⟨_, HM.out, fun i _ => ⟨_, rfl⟩, fun i hi => by omega⟩, by go_grown⟩
  case round =>
    obtain ⟨k, hk, rfl, ⟨f, ho, hx, hf⟩, kb⟩ := hrel
    have kl := kb.size
    have HO : Hid (OwnRow w.heap.size wr w.heap.size 11 f) := ho
    have HX : Hid (∀ i, i < 11 → ∃ x, f i = .string x) := hx
    have HF : Hid (∀ i, i < k → f i = .string (keyB s i)) := hf
    clear ho hx hf
    by_cases hlt : k < 11
    · go_wp2_with fail
      refine (implNum 107 k s _ (by omega) (by omega) (by omega) (by omega) (HT.out.below kb)).mono ?_
      rintro e w1 ⟨rfl, hb1⟩
      have kb1 : Below w.heap.size w w1 := kb.trans (hb1.mono kl)
      have HO1 : Hid (OwnRow w.heap.size w1 w.heap.size 11 f) := HO.out.below hb1
      clear hb1
      have hc := HO1.out.2.2.1 k hlt
      have hfz := HO1.out.2.2.2 k hlt
      obtain ⟨x0, hx0⟩ := HX.out k hlt
      rw [hx0] at hc
      clear hx0
      go_wp2
      refine ⟨⟨k + 1, by omega, by go_num, ⟨_, HO1.out.set hlt _, fun i hi => ?_, fun i hi => ?_⟩, by go_grown⟩, by simp [intOf]; omega⟩
      · by_cases e : i = k
        · exact ⟨_, by simp only [e, if_true]; rfl⟩
        · obtain ⟨x, hx⟩ := HX.out i hi
          exact ⟨x, by simp only [if_neg e]; exact hx⟩
      · by_cases e : i = k
        · simp only [e, if_true]; rfl
        · simp only [if_neg e]; exact HF.out i (by omega)
    · have hke : k = 11 := by omega
      subst hke
      go_wp2
      go_returns
      exact ⟨_, _, rfl, HO.out.congr (fun i hi => by rw [keysB_at s i hi]; exact HF.out i hi), kb⟩
end Go.Proofs.YtemkkofjakpjiaaDoor
