/- Program beside model, one answer: ways, leaves, tops, seals. Condition: the table of weights as it is laid. -/
import Derived.Test.YtemkkofjakpjiaaDoorDrawC
import Derived.Test.YtemkkofjakpjiaaDoorBytes
namespace Go.Proofs.YtemkkofjakpjiaaDoor
open Go.ChangeShapes Go.WideShapes Go.ChangeAt Go.RowKit Go.Deep
set_option linter.unusedVariables false

theorem topFromBoth (n : Int) (l : ByteArray) (ss : List ByteArray) (hm : l.size ≤ maxLen) (hl : ss.length ≤ 1048576) : ∃ (F : ByteArray) (o : Bool),
    (∀ v W, StrsAt W v ss → Table W → Calls Tryd.prog 46 #[.int .i64 n, .string l, v] W fun e w' => e = .returned (.tuple #[.string F, .bool o]) ∧ Below W.heap.size W w') ∧
    (∀ v W, StrsAt W v ss → Calls Tryd.prog 48 #[.int .i64 n, .string l, v] W fun e w' => e = .returned (.tuple #[.string F, .bool o]) ∧ Below W.heap.size W w') := by
  by_cases h : TopYes n l ss
  · have h0 := h.1.1
    obtain ⟨N, rfl⟩ := Int.eq_ofNat_of_zero_le h0
    exact ⟨_, _, fun v W hW hT => implTopFromYes N l v ss W hW hl h hT, fun v W hW => specTopFromYes N l v ss W hW hl h⟩
  · exact ⟨_, _, fun v W hW hT => implTopFromNo n l v ss W hm hW hl h, fun v W hW => specTopFromNo n l v ss W hm hW hl h⟩
theorem topBoth (s : ByteArray) (hm : s.size ≤ maxLen) : ∃ (F : ByteArray) (o : Bool),
    (∀ W, Table W → Calls Tryd.prog 37 #[.string s] W fun e w' => e = .returned (.tuple #[.string F, .bool o]) ∧ Below W.heap.size W w') ∧
    (∀ W, Calls Tryd.prog 50 #[.string s] W fun e w' => e = .returned (.tuple #[.string F, .bool o]) ∧ Below W.heap.size W w') := by
  by_cases h : 1 ≤ s.size ∧ s.size ≤ 8
  · exact ⟨_, _, fun W hT => implTopYes s W h.1 h.2 hT, fun W => specTopYes s W h.1 h.2⟩
  · exact ⟨_, _, fun W hT => implTopNo s W hm h, fun W => specTopNo s W hm h⟩
theorem wayB_good (s : ByteArray) (no : Nat) : Good3 (wayB s no) := ⟨wayB_len s no, fun i hi => wayB_four s no _ (getD_mem _ i hi)⟩
/-- From each leaf its way leads to the one top. -/
theorem topOwn (s : ByteArray) (no : Nat) (v : Value) (hn : no < 8) (W : World) (hW : StrsAt W v (wayB s no)) (hT : Table W) :
    Calls Tryd.prog 46 #[.int .i64 no, .string (leafB s no), v] W fun e w' => e = .returned (.tuple #[.string (topB s), .bool true]) ∧ Below W.heap.size W w' := by
  have h := implTopFromYes no (leafB s no) v (wayB s no) W hW (by rw [wayB_len]; omega) ⟨⟨by omega, by omega⟩, leafB_size s no, wayB_good s no⟩ hT
  have e := top_way s no hn
  rw [show lev s 0 no = leafB s no from rfl] at e
  rw [e] at h
  exact h
theorem signB_good3 (s t : ByteArray) : GoodS (signB s t) := ⟨signB_len s t, fun i hi => signB_four s t _ (getD_mem _ i hi)⟩
/-- A seal is held by the top of its signer. -/
theorem checkSealOwn (s t : ByteArray) (no : Nat) (v1 v2 : Value) (hn : no < 8) (h2 : t.size ≤ 200) (W : World) (h1 : StrsAt W v1 (signB (leafSeed s no) t)) (hw : StrsAt W v2 (wayB s no)) (hT : Table W) :
    Calls Tryd.prog 38 #[.string (topB s), .string t, .agg #[.int .i64 no, v1, v2]] W fun e w' => e = .returned (.tuple #[.bool true, .bool true]) ∧ Below W.heap.size W w' := by
  have hz : (topB s).size = 4 := lev_size s 3 0
  have h := implCheckTYes (topB s) t no v1 v2 _ _ W h1 hw (by rw [signB_len]; omega) (by rw [wayB_len]; omega) ⟨hz, h2, ⟨by omega, by omega⟩, signB_good3 _ _, wayB_good s no⟩ hT
  have e := top_way s no hn
  have el : lev s 0 no = pubB (leafSeed s no) := rfl
  rw [el] at e
  rw [from_sign, e, beq_self_eq_true] at h
  exact h
end Go.Proofs.YtemkkofjakpjiaaDoor
