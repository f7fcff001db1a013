/- Plain facts on feeding bytes one by one, and on feeding a piece by one weighted sum. Nothing of the program is named here. -/
import Derived.KernelRfl
namespace Go.Proofs.YtgjcegmjhkehnaaDoor

def step (p : Int × Int) (c : UInt8) : Int × Int := ((p.1 + (c.toNat : Int)) % 65521, (p.2 + (p.1 + (c.toNat : Int)) % 65521) % 65521)
def feed (p : Int × Int) (l : List UInt8) : Int × Int := l.foldl step p
def sumL (l : List UInt8) : Int := l.foldl (fun (s : Int) c => s + (c.toNat : Int)) 0
def wtP (n : Int) (l : List UInt8) : Int × Int := l.foldl (fun (p : Int × Int) c => (p.1 + p.2 * (c.toNat : Int), p.2 - 1)) (0, n)
def wt (n : Int) (l : List UInt8) : Int := (wtP n l).1

theorem feed_nil (p : Int × Int) : feed p [] = p := rfl
theorem feed_snoc (p : Int × Int) (l : List UInt8) (c : UInt8) : feed p (l ++ [c]) = step (feed p l) c := by simp [feed]
theorem feed_append (p : Int × Int) (l m : List UInt8) : feed p (l ++ m) = feed (feed p l) m := by simp [feed]
theorem sumL_snoc (l : List UInt8) (c : UInt8) : sumL (l ++ [c]) = sumL l + (c.toNat : Int) := by simp [sumL]
theorem wtP_snoc (n : Int) (l : List UInt8) (c : UInt8) : wtP n (l ++ [c]) = ((wtP n l).1 + (wtP n l).2 * (c.toNat : Int), (wtP n l).2 - 1) := by simp [wtP]

theorem snocs {P : List UInt8 → Prop} (h0 : P []) (h1 : ∀ l c, P l → P (l ++ [c])) (l : List UInt8) : P l := by
  have : ∀ m : List UInt8, P m.reverse := by
    intro m
    induction m with
    | nil => exact h0
    | cons c m ih => rw [List.reverse_cons]; exact h1 _ _ ih
  have := this l.reverse
  rwa [List.reverse_reverse] at this

theorem wtP_snd (n : Int) (l : List UInt8) : (wtP n l).2 = n - (l.length : Int) := by
  induction l using snocs with
  | h0 => simp [wtP]
  | h1 l c ih => rw [wtP_snoc]; simp only [List.length_append, List.length_cons, List.length_nil]; rw [ih]; omega
theorem wt_snoc (n : Int) (l : List UInt8) (c : UInt8) : wt n (l ++ [c]) = wt n l + (n - (l.length : Int)) * (c.toNat : Int) := by
  unfold wt; rw [wtP_snoc]; simp only []; rw [wtP_snd]

theorem byte_lt (c : UInt8) : 0 ≤ (c.toNat : Int) ∧ (c.toNat : Int) ≤ 255 := by have := c.toNat_lt; omega
theorem sumL_bd (l : List UInt8) : 0 ≤ sumL l ∧ sumL l ≤ 255 * (l.length : Int) := by
  induction l using snocs with
  | h0 => simp [sumL]
  | h1 l c ih => rw [sumL_snoc]; have := byte_lt c; simp only [List.length_append, List.length_cons, List.length_nil]; omega
theorem wt_bd (n : Int) (l : List UInt8) (h : (l.length : Int) ≤ n) (h8 : n ≤ 8) : 0 ≤ wt n l ∧ wt n l ≤ 2040 * (l.length : Int) := by
  induction l using snocs with
  | h0 => simp [wt, wtP]
  | h1 l c ih =>
    simp only [List.length_append, List.length_cons, List.length_nil] at h ⊢
    rw [wt_snoc]
    have ih := ih (by omega)
    have hc := byte_lt c
    have h0 : 0 ≤ (n - (l.length : Int)) * (c.toNat : Int) := Int.mul_nonneg (by omega) hc.1
    have h1 : (n - (l.length : Int)) * (c.toNat : Int) ≤ 8 * 255 := Int.mul_le_mul (by omega) hc.2 hc.1 (by omega)
    omega

theorem feed_in (p : Int × Int) (l : List UInt8) (ha : 0 ≤ p.1 ∧ p.1 ≤ 65520) (hb : 0 ≤ p.2 ∧ p.2 ≤ 65520) : (0 ≤ (feed p l).1 ∧ (feed p l).1 ≤ 65520) ∧ (0 ≤ (feed p l).2 ∧ (feed p l).2 ≤ 65520) := by
  induction l using snocs with
  | h0 => exact ⟨ha, hb⟩
  | h1 l c ih => rw [feed_snoc]; unfold step; simp only []; omega

theorem feed_fst (a b : Int) (l : List UInt8) : (feed (a, b) l).1 % 65521 = (a + sumL l) % 65521 := by
  induction l using snocs with
  | h0 => simp [feed, sumL]
  | h1 l c ih => rw [feed_snoc, sumL_snoc]; unfold step; simp only []; omega
theorem wt_len (n : Int) (l : List UInt8) : wt n l = wt (l.length : Int) l + (n - (l.length : Int)) * sumL l := by
  induction l using snocs generalizing n with
  | h0 => simp [wt, wtP, sumL]
  | h1 l c ih =>
    rw [wt_snoc, sumL_snoc, wt_snoc]
    simp only [List.length_append, List.length_cons, List.length_nil]
    have e1 := ih n
    have e2 := ih ((l.length : Int) + 1)
    have hk : ((l.length + (0 + 1) : Nat) : Int) = (l.length : Int) + 1 := by omega
    rw [hk, e1, e2]
    generalize sumL l = S
    generalize wt (l.length : Int) l = Wl
    generalize (l.length : Int) = k
    generalize (c.toNat : Int) = x
    have r1 : k + 1 - k = 1 := by omega
    rw [r1, Int.one_mul, Int.one_mul]
    have r2 : (n - k) * S = (n - (k + 1)) * S + S := by
      have : n - k = (n - (k + 1)) + 1 := by omega
      rw [this, Int.add_mul, Int.one_mul]
    have r3 : (n - k) * x = (n - (k + 1)) * x + x := by
      have : n - k = (n - (k + 1)) + 1 := by omega
      rw [this, Int.add_mul, Int.one_mul]
    rw [r2, r3, Int.mul_add]
    omega
theorem wt_succ (l : List UInt8) (c : UInt8) : wt ((l.length : Int) + 1) (l ++ [c]) = wt (l.length : Int) l + sumL (l ++ [c]) := by
  rw [wt_snoc, wt_len ((l.length : Int) + 1) l, sumL_snoc]
  have r1 : (l.length : Int) + 1 - (l.length : Int) = 1 := by omega
  rw [r1, Int.one_mul, Int.one_mul]; omega
theorem feed_snd (a b : Int) (l : List UInt8) : (feed (a, b) l).2 % 65521 = (b + (l.length : Int) * a + wt (l.length : Int) l) % 65521 := by
  induction l using snocs with
  | h0 => simp [feed, wt, wtP]
  | h1 l c ih =>
    have hk : ((l ++ [c]).length : Int) = (l.length : Int) + 1 := by simp
    rw [hk, wt_succ, feed_snoc]
    have e := feed_fst a b l
    have es := sumL_snoc l c
    unfold step; simp only []
    have r : ((l.length : Int) + 1) * a = (l.length : Int) * a + a := by rw [Int.add_mul, Int.one_mul]
    rw [r]
    generalize (l.length : Int) * a = q at *
    omega
/-- A piece fed by its sums. -/
theorem feed_piece (a b : Int) (l : List UInt8) (ha : 0 ≤ a ∧ a ≤ 65520) (hb : 0 ≤ b ∧ b ≤ 65520) :
    feed (a, b) l = ((a + sumL l) % 65521, (b + (l.length : Int) * a + wt (l.length : Int) l) % 65521) := by
  have h := feed_in (a, b) l ha hb
  have e1 := feed_fst a b l
  have e2 := feed_snd a b l
  refine Prod.ext ?_ ?_
  · simp only []; omega
  · simp only []; omega
theorem take_snoc (s : ByteArray) (k : Nat) (h : k < s.size) : s.data.toList.take (k + 1) = s.data.toList.take k ++ [s[k]] := by
  rw [List.take_succ_eq_append_getElem (by simpa using h)]; rfl
end Go.Proofs.YtgjcegmjhkehnaaDoor
