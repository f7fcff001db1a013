/- A tree of keys in plain mathematics: leaves, pairs, the top, a way to it. Of the program only the digest is named. -/
import Derived.Test.YtemkkofjakpjiaaDoorOnce
namespace Go.Proofs.YtemkkofjakpjiaaDoor
set_option linter.unusedVariables false

/-- The seed of a leaf's key. -/
def leafSeed (s : ByteArray) (i : Nat) : ByteArray := s ++ strOfNums [(i : Int)]
theorem leafSeed_size (s : ByteArray) (i : Nat) : (leafSeed s i).size = s.size + 1 := by unfold leafSeed; rw [ByteArray.size_append, strOfNums_size]; rfl
def leafB (s : ByteArray) (i : Nat) : ByteArray := pubB (leafSeed s i)
def pairB (a b : ByteArray) : ByteArray := digestB 116 (a ++ b)
theorem pubB_size (s : ByteArray) : (pubB s).size = 4 := digestB_size _ _
theorem leafB_size (s : ByteArray) (i : Nat) : (leafB s i).size = 4 := pubB_size _
theorem pairB_size (a b : ByteArray) : (pairB a b).size = 4 := digestB_size _ _
/-- The i-th of the row h, from the leaves up. -/
def lev (s : ByteArray) : Nat → Nat → ByteArray
  | 0, i => leafB s i
  | h + 1, i => pairB (lev s h (2 * i)) (lev s h (2 * i + 1))
theorem lev_size (s : ByteArray) (h i : Nat) : (lev s h i).size = 4 := by
  cases h with
  | zero => exact leafB_size s i
  | succ h => exact pairB_size _ _
def rowT (s : ByteArray) (h n : Nat) : List ByteArray := (List.range n).map (lev s h)
theorem rowT_len (s : ByteArray) (h n : Nat) : (rowT s h n).length = n := by simp [rowT]
theorem rowT_at (s : ByteArray) (h n i : Nat) (hi : i < n) : (rowT s h n).getD i ByteArray.empty = lev s h i := getD_range _ _ _ _ hi
theorem rowT_take (s : ByteArray) (h n i : Nat) (hi : i < n) : (rowT s h n).take (i + 1) = (rowT s h n).take i ++ [lev s h i] := take_range _ _ _ hi
def topB (s : ByteArray) : ByteArray := lev s 3 0
/-- From a leaf up, the other one of each pair. -/
def wayB (s : ByteArray) (no : Nat) : List ByteArray := [lev s 0 (no ^^^ 1), lev s 1 (no / 2 ^^^ 1), lev s 2 (no / 2 / 2 ^^^ 1)]
theorem wayB_len (s : ByteArray) (no : Nat) : (wayB s no).length = 3 := rfl
theorem wayB_four (s : ByteArray) (no : Nat) : ∀ x ∈ wayB s no, x.size = 4 := by
  intro x hx
  simp only [wayB, List.mem_cons, List.not_mem_nil, or_false] at hx
  rcases hx with rfl | rfl | rfl <;> exact lev_size _ _ _
def stepT (p : Nat × ByteArray) (s : ByteArray) : Nat × ByteArray := (p.1 / 2, if p.1 % 2 = 0 then pairB p.2 s else pairB s p.2)
/-- What comes out at the top. -/
def topFromB (no : Nat) (leaf : ByteArray) (way : List ByteArray) : ByteArray := (way.foldl stepT (no, leaf)).2
theorem topFromB_size (no : Nat) (leaf : ByteArray) (way : List ByteArray) (h : leaf.size = 4) : (topFromB no leaf way).size = 4 := by
  have : ∀ (l : List ByteArray) (p : Nat × ByteArray), p.2.size = 4 → (l.foldl stepT p).2.size = 4 := by
    intro l
    induction l with
    | nil => intro p hp; exact hp
    | cons x l ih =>
      intro p hp
      simp only [List.foldl_cons]
      apply ih
      unfold stepT
      simp only []
      split <;> exact pairB_size _ _
  exact this way (no, leaf) h
/-- From each leaf its way leads to the one top. -/
theorem top_way (s : ByteArray) (no : Nat) (h : no < 8) : topFromB no (lev s 0 no) (wayB s no) = topB s := by
  have e : ∀ h i, lev s (h + 1) i = pairB (lev s h (2 * i)) (lev s h (2 * i + 1)) := fun _ _ => rfl
  unfold topB
  rw [e 2 0, e 1, e 1]
  simp only [topFromB, wayB, List.foldl_cons, List.foldl_nil, stepT]
  match no, h with
  | 0, _ => simp [e]
  | 1, _ => simp [e]
  | 2, _ => simp [e]
  | 3, _ => simp [e]
  | 4, _ => simp [e]
  | 5, _ => simp [e]
  | 6, _ => simp [e]
  | 7, _ => simp [e]
theorem xor8 : ∀ no, no < 8 → no ^^^ 1 < 8 := by decide
theorem xor4 : ∀ no, no < 4 → no ^^^ 1 < 4 := by decide
theorem xor2 : ∀ no, no < 2 → no ^^^ 1 < 2 := by decide
theorem xor_i64 (no : Nat) (h : no < 8) : bits .xor .i64 (no : Int) 1 = ((no ^^^ 1 : Nat) : Int) := by
  match no, h with
  | 0, _ => decide
  | 1, _ => decide
  | 2, _ => decide
  | 3, _ => decide
  | 4, _ => decide
  | 5, _ => decide
  | 6, _ => decide
  | 7, _ => decide
end Go.Proofs.YtemkkofjakpjiaaDoor
