/- The mathematics of packed lists. No condition. -/
import Derived.Test.YtaafdcghafbfhaaRows
namespace Go.Proofs.Ytaafdcghafbfhaa
set_option linter.unusedVariables false

structure Pk where
  many : Int
  low : Int
  lows : List Int
  high : List Bool

/-- A list that can be packed. -/
def GoodL (l : List Int) : Prop := l.length ≤ 60 ∧ (∀ i, i < l.length → 0 ≤ l.getD i 0 ∧ l.getD i 0 ≤ 10000) ∧ ∀ i, i + 1 < l.length → l.getD i 0 < l.getD (i + 1) 0
def upN (k : Nat) (n : Int) : Nat := (n / 2 ^ k).toNat
def lowR (many most : Nat) : Nat → Nat → Nat
  | 0, low => low
  | f + 1, low => if many * 2 ^ (low + 1) ≤ most then lowR many most f (low + 1) else low
def lowN (many most : Nat) : Nat := if many = 0 then 0 else lowR many most 14 0
def lowL (l : List Int) : Nat := if l = [] then 0 else lowN l.length (l.getD (l.length - 1) 0).toNat
def highF (k : Nat) (l : List Int) : Nat × List Bool := l.foldl (fun s n => (upN k n, s.2 ++ (List.replicate (upN k n - s.1) false ++ [true]))) (0, [])
def upTo (k : Nat) (l : List Int) (i : Nat) : Nat := (highF k (l.take i)).1
def hgh (k : Nat) (l : List Int) (i : Nat) : List Bool := (highF k (l.take i)).2
def packM (l : List Int) : Pk := ⟨l.length, lowL l, l.map (· % 2 ^ lowL l), hgh (lowL l) l l.length⟩
def PackIs (p : Pk) (l : List Int) : Prop := GoodL l ∧ p = packM l

theorem take_sn (l : List Int) (i : Nat) (h : i < l.length) : l.take (i + 1) = l.take i ++ [l.getD i 0] := by
  rw [List.take_add_one]; simp [List.getD, h]
theorem highF_snoc (k : Nat) (l : List Int) (n : Int) : highF k (l ++ [n]) = (upN k n, (highF k l).2 ++ (List.replicate (upN k n - (highF k l).1) false ++ [true])) := by simp [highF]
theorem upTo_zero (k : Nat) (l : List Int) : upTo k l 0 = 0 := by simp [upTo, highF]
theorem hgh_zero (k : Nat) (l : List Int) : hgh k l 0 = [] := by simp [hgh, highF]
theorem upTo_succ (k : Nat) (l : List Int) (i : Nat) (h : i < l.length) : upTo k l (i + 1) = upN k (l.getD i 0) := by simp only [upTo, take_sn l i h, highF_snoc]
theorem hgh_succ (k : Nat) (l : List Int) (i : Nat) (h : i < l.length) : hgh k l (i + 1) = hgh k l i ++ (List.replicate (upN k (l.getD i 0) - upTo k l i) false ++ [true]) := by simp only [hgh, upTo, take_sn l i h, highF_snoc]
theorem upN_mono (k : Nat) {a b : Int} (h : a ≤ b) : upN k a ≤ upN k b := by
  have hp : (0 : Int) < 2 ^ k := Int.pow_pos (by decide)
  have := Int.ediv_le_ediv hp h
  unfold upN
  omega
theorem upTo_le {k : Nat} {l : List Int} (h : GoodL l) (i : Nat) (hi : i < l.length) : upTo k l i ≤ upN k (l.getD i 0) := by
  cases i with
  | zero => rw [upTo_zero]; exact Nat.zero_le _
  | succ i =>
    rw [upTo_succ k l i (by omega)]
    exact upN_mono k (Int.le_of_lt (h.2.2 i hi))
theorem hgh_len {k : Nat} {l : List Int} (h : GoodL l) (i : Nat) (hi : i ≤ l.length) : (hgh k l i).length = upTo k l i + i := by
  induction i with
  | zero => rw [upTo_zero, hgh_zero]; rfl
  | succ i ih =>
    have h1 := ih (by omega)
    have h2 := upTo_le (k := k) h i (by omega)
    rw [hgh_succ k l i (by omega), upTo_succ k l i (by omega)]
    simp only [List.length_append, List.length_replicate, List.length_cons, List.length_nil, h1]
    omega
theorem hgh_pre (k : Nat) (l : List Int) (i j : Nat) (hij : i ≤ j) (hj : j ≤ l.length) : ∃ r, hgh k l j = hgh k l i ++ r := by
  induction j with
  | zero => exact ⟨[], by simp [show i = 0 by omega]⟩
  | succ j ih =>
    by_cases e : i = j + 1
    · exact ⟨[], by simp [e]⟩
    · obtain ⟨r, hr⟩ := ih (by omega) (by omega)
      exact ⟨r ++ (List.replicate (upN k (l.getD j 0) - upTo k l j) false ++ [true]), by rw [hgh_succ k l j (by omega), hr, List.append_assoc]⟩
theorem bit_false {k : Nat} {l : List Int} (h : GoodL l) (i j : Nat) (hi : i < l.length) (h1 : upTo k l i + i ≤ j) (h2 : j < upN k (l.getD i 0) + i) : (hgh k l l.length).getD j true = false := by
  obtain ⟨r, hr⟩ := hgh_pre k l (i + 1) l.length (by omega) (Nat.le_refl _)
  have hl := hgh_len (k := k) h i (by omega)
  have h3 : ¬ j < (hgh k l i).length := by omega
  have h4 : j - (upTo k l i + i) < upN k (l.getD i 0) - upTo k l i := by omega
  rw [hr, hgh_succ k l i hi]
  generalize l.getD i 0 = n at *
  simp only [List.getD, List.append_assoc]
  rw [List.getElem?_append_right (by omega), hl, List.getElem?_append_left (by simp; omega), List.getElem?_replicate, if_pos h4]
  rfl
theorem bit_true {k : Nat} {l : List Int} (h : GoodL l) (i : Nat) (hi : i < l.length) : (hgh k l l.length).getD (upN k (l.getD i 0) + i) false = true := by
  obtain ⟨r, hr⟩ := hgh_pre k l (i + 1) l.length (by omega) (Nat.le_refl _)
  have hl := hgh_len (k := k) h i (by omega)
  have h2 := upTo_le (k := k) h i (by omega)
  rw [hr, hgh_succ k l i hi]
  generalize l.getD i 0 = n at *
  simp only [List.getD, List.append_assoc]
  rw [List.getElem?_append_right (by omega), hl, List.getElem?_append_right (by simp; omega)]
  simp only [List.length_replicate]
  rw [show upN k n + i - (upTo k l i + i) - (upN k n - upTo k l i) = 0 by omega]
  rfl
theorem bit_lt {k : Nat} {l : List Int} (h : GoodL l) (i : Nat) (hi : i < l.length) : upN k (l.getD i 0) + i < (hgh k l l.length).length := by
  obtain ⟨r, hr⟩ := hgh_pre k l (i + 1) l.length (by omega) (Nat.le_refl _)
  have hl := hgh_len (k := k) h (i + 1) (by omega)
  rw [upTo_succ k l i hi] at hl
  rw [hr, List.length_append, hl]
  omega

theorem lowR_spec (many most : Nat) (hm : 1 ≤ many) (hmost : most ≤ 10000) (f low : Nat) (hf : low + f = 14) (hl : low = 0 ∨ many * 2 ^ low ≤ most) :
    (lowR many most f low ≤ 13 ∧ most < many * 2 ^ (lowR many most f low + 1)) ∧ (lowR many most f low = 0 ∨ many * 2 ^ lowR many most f low ≤ most) := by
  induction f generalizing low with
  | zero =>
    have : low = 14 := by omega
    subst this
    rcases hl with h | h
    · omega
    · have : 1 * 2 ^ 14 ≤ many * 2 ^ 14 := Nat.mul_le_mul_right _ hm
      omega
  | succ f ih =>
    simp only [lowR]
    by_cases h : many * 2 ^ (low + 1) ≤ most
    · rw [if_pos h]
      exact ih (low + 1) (by omega) (.inr h)
    · rw [if_neg h]
      exact ⟨⟨by omega, by omega⟩, hl⟩
theorem lowN_spec {many most : Nat} (hm : 1 ≤ many) (hmost : most ≤ 10000) : lowN many most ≤ 13 ∧ most < many * 2 ^ (lowN many most + 1) := by
  unfold lowN
  rw [if_neg (by omega)]
  exact (lowR_spec many most hm hmost 14 0 rfl (.inl rfl)).1
theorem lowN_le {many most : Nat} (hmost : most ≤ 10000) : lowN many most ≤ 13 := by
  by_cases h : many = 0
  · unfold lowN; rw [if_pos h]; omega
  · exact (lowN_spec (by omega) hmost).1
/-- The loop that finds it. -/
theorem lowR_step (many most f low : Nat) (h : many * 2 ^ (low + 1) ≤ most) : lowR many most (f + 1) low = lowR many most f (low + 1) := by simp only [lowR]; rw [if_pos h]
theorem lowR_end (many most f low : Nat) (h : ¬ many * 2 ^ (low + 1) ≤ most) : lowR many most f low = low := by
  cases f with
  | zero => rfl
  | succ f => simp only [lowR]; rw [if_neg h]
theorem lowR_room {many most low : Nat} (hm : 1 ≤ many) (hmost : most ≤ 10000) (h : many * 2 ^ (low + 1) ≤ most) : low + 1 ≤ 13 := by
  have h1 : 1 * 2 ^ (low + 1) ≤ many * 2 ^ (low + 1) := Nat.mul_le_mul_right _ hm
  rcases Nat.lt_or_ge low 13 with h2 | h2
  · omega
  · have h3 : 2 ^ 14 ≤ 2 ^ (low + 1) := Nat.pow_le_pow_right (by decide) (by omega)
    have : (2 : Nat) ^ 14 = 16384 := by decide
    omega
theorem last_bd {l : List Int} (h : GoodL l) (hl : l ≠ []) : 0 ≤ l.getD (l.length - 1) 0 ∧ l.getD (l.length - 1) 0 ≤ 10000 := by
  have : 0 < l.length := List.length_pos_iff.2 hl
  exact h.2.1 _ (by omega)
theorem lowL_le {l : List Int} (h : GoodL l) : lowL l ≤ 13 := by
  unfold lowL
  by_cases e : l = []
  · rw [if_pos e]; omega
  · rw [if_neg e]
    have := last_bd h e
    exact lowN_le (by omega)
/-- How long the upper bits are. -/
theorem high_len {l : List Int} (h : GoodL l) : (hgh (lowL l) l l.length).length ≤ 3 * l.length := by
  by_cases e : l = []
  · subst e; simp [hgh, highF]
  · have hp : 0 < l.length := List.length_pos_iff.2 e
    obtain ⟨b0, b1⟩ := last_bd h e
    have hs := lowN_spec (many := l.length) (most := (l.getD (l.length - 1) 0).toNat) (by omega) (by omega)
    have hL : lowL l = lowN l.length (l.getD (l.length - 1) 0).toNat := by unfold lowL; rw [if_neg e]
    rw [← hL] at hs
    rw [hgh_len h _ (Nat.le_refl _)]
    obtain ⟨m, hm⟩ : ∃ m, l.length = m + 1 := ⟨l.length - 1, by omega⟩
    have hu := upTo_succ (lowL l) l m (by omega)
    rw [← hm] at hu
    rw [show l.length - 1 = m by omega] at hs b0 b1
    generalize l.getD m 0 = n at *
    obtain ⟨q, rfl⟩ : ∃ q : Nat, n = q := ⟨n.toNat, by omega⟩
    have h3 : upN (lowL l) (q : Int) = q / 2 ^ lowL l := by
      unfold upN
      have : ((q : Int) / 2 ^ lowL l) = ((q / 2 ^ lowL l : Nat) : Int) := by push_cast; rfl
      rw [this, Int.toNat_natCast]
    rw [hu, h3]
    have h4 : q / 2 ^ lowL l < 2 * l.length := by
      rw [Nat.div_lt_iff_lt_mul (Nat.two_pow_pos _)]
      have := hs.2
      rw [Nat.pow_succ, ← Nat.mul_assoc] at this
      simp only [Int.toNat_natCast] at this
      rw [Nat.mul_comm 2, Nat.mul_assoc, Nat.mul_comm 2, ← Nat.mul_assoc]
      exact this
    omega
/-- A number is put together again. -/
theorem whole_again (k : Nat) (n : Int) (h : 0 ≤ n) : (upN k n : Int) * 2 ^ k + n % 2 ^ k = n := by
  have hp : (0 : Int) < 2 ^ k := Int.pow_pos (by decide)
  have h1 : 0 ≤ n / 2 ^ k := Int.ediv_nonneg h (Int.le_of_lt hp)
  have h2 : ((n / 2 ^ k).toNat : Int) = n / 2 ^ k := by omega
  unfold upN
  rw [h2, Int.mul_comm]
  exact Int.mul_ediv_add_emod n (2 ^ k)
end Go.Proofs.Ytaafdcghafbfhaa
