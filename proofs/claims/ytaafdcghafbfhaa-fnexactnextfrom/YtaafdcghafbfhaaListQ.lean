/- Contracts of what is asked of a packed list, of the program. Condition: the packed list's rows lie in memory. -/
import Derived.Test.YtaafdcghafbfhaaListOf
namespace Go.Proofs.Ytaafdcghafbfhaa
open Go.ChangeShapes Go.WideShapes Go.ChangeAt Go.RowKit Go.Deep
set_option linter.unusedVariables false
attribute [local go_sem ↓] Go.wp_at_zero Go.wp_at_succ

/-- How many numbers are less than n, from the first on. -/
def posL : List Int → Int → Nat
  | [], _ => 0
  | x :: l, n => if x < n then posL l n + 1 else 0
theorem posL_le : ∀ (l : List Int) (n : Int), posL l n ≤ l.length
  | [], _ => Nat.le_refl _
  | x :: l, n => by
    simp only [posL]
    have := posL_le l n
    by_cases h : x < n
    · rw [if_pos h]; simp; omega
    · rw [if_neg h]; simp
theorem posL_lt : ∀ (l : List Int) (n : Int) (i : Nat), i < posL l n → l.getD i 0 < n
  | [], _, i, h => by simp [posL] at h
  | x :: l, n, i, h => by
    simp only [posL] at h
    by_cases hx : x < n
    · rw [if_pos hx] at h
      cases i with
      | zero => exact hx
      | succ i => exact posL_lt l n i (by omega)
    · rw [if_neg hx] at h; omega
theorem posL_end : ∀ (l : List Int) (n : Int), posL l n < l.length → n ≤ l.getD (posL l n) 0
  | [], _, h => by simp [posL] at h
  | x :: l, n, h => by
    simp only [posL] at h ⊢
    by_cases hx : x < n
    · rw [if_pos hx] at h ⊢
      exact posL_end l n (by simpa using h)
    · rw [if_neg hx]
      show n ≤ x
      omega
theorem good_lt {l : List Int} (h : GoodL l) (i : Nat) : ∀ j, i < j → j < l.length → l.getD i 0 < l.getD j 0
  | 0, hij, _ => by omega
  | j + 1, hij, hj => by
    have h1 := h.2.2 j hj
    by_cases e : i = j
    · rw [e]; exact h1
    · have := good_lt h i j (by omega) (by omega)
      omega
theorem posL_ge {l : List Int} (h : GoodL l) {n : Int} {i : Nat} (hi : posL l n ≤ i) (hl : i < l.length) : n ≤ l.getD i 0 := by
  have h1 := posL_end l n (by omega)
  by_cases e : posL l n = i
  · rw [← e]; exact h1
  · have := good_lt h (posL l n) i (by omega) hl
    omega
theorem mem_getD {l : List Int} {n : Int} : n ∈ l ↔ ∃ i, i < l.length ∧ l.getD i 0 = n := by
  constructor
  · intro h
    obtain ⟨i, hi, he⟩ := List.getElem_of_mem h
    exact ⟨i, hi, by simp [List.getD, hi, he]⟩
  · rintro ⟨i, hi, he⟩
    rw [← he]
    simp [List.getD, hi]
theorem mem_pos {l : List Int} (h : GoodL l) (n : Int) : n ∈ l ↔ posL l n < l.length ∧ l.getD (posL l n) 0 = n := by
  constructor
  · intro hm
    obtain ⟨i, hi, he⟩ := mem_getD.1 hm
    have h1 : posL l n ≤ i := by
      rcases Nat.lt_or_ge i (posL l n) with h2 | h2
      · have := posL_lt l n i h2; omega
      · exact h2
    have h3 := posL_end l n (by omega)
    by_cases e : posL l n = i
    · rw [e]; exact ⟨hi, he⟩
    · have := good_lt h (posL l n) i (by omega) hi
      omega
  · rintro ⟨h1, h2⟩
    exact mem_getD.2 ⟨_, h1, h2⟩
theorem AnsL.good {p : Pk} {B : Bool} {A : List Int} (h : AnsL p B A) : GoodL A := by
  rcases h with ⟨_, h⟩ | ⟨_, h, _⟩
  · exact h.1
  · subst h; exact ⟨by simp, fun i hi => by simp at hi, fun i hi => by simp at hi⟩
theorem nanIs (x : Int) (w : World) : Calls Try.prog 77 #[.int .i64 x] w fun e w' => e = .returned (.bool false) ∧ w' = w := by
  go_enter Try.func77, Try.ntmps77
  go_wp2
  go_ret
  exact ⟨by first | rfl | simp, rfl⟩
theorem cnanIs (x : Int) (w : World) : Calls Try.prog 81 #[.int .i64 x] w fun e w' => e = .returned (.bool false) ∧ w' = w := by
  go_enter Try.func81, Try.ntmps81
  go_wp2
  go_ret
  exact ⟨by first | rfl | simp, rfl⟩
theorem lessIs (x y : Int) (w : World) : Calls Try.prog 76 #[.int .i64 x, .int .i64 y] w fun e w' => e = .returned (.bool (decide (x < y))) ∧ w' = w := by
  obtain ⟨B, hB⟩ : ∃ B, B = decide (x < y) := ⟨_, rfl⟩
  rw [← hB]
  have hB2 := hB.symm
  clear hB
  go_enter Try.func76, Try.ntmps76
  go_wp2_with fail
  refine (cnanIs x _).mono ?_
  rintro e w1 ⟨rfl, rfl⟩
  go_wp2
  go_ret
  exact ⟨by first | rfl | simp [hB2], rfl⟩
set_option maxHeartbeats 4000000 in
set_option maxRecDepth 100000 in
theorem searchIs (l : List Int) (k : Int) (x : Value) (w : World) (hx : IntsAt w x l) (hg : GoodL l) :
    Calls Try.prog 60 #[x, .int .i64 k] w fun e w' => e = .returned (.tuple #[.int .i64 (posL l k : Nat), .bool (decide (k ∈ l))]) ∧ w' = w := by
  have HC : Hid (∀ i, i < l.length → ∃ b off c, x = .slice (some ⟨b, off, none⟩) l.length c ∧ b < w.heap.size ∧ w.cell? ⟨b, off + i, none⟩ = some (.int .i64 (l.getD i 0))) := by
    intro i hi
    rcases hx with ⟨_, _, _, e⟩ | ⟨b, off, cap, h1, h2, h3⟩
    · subst e; simp at hi
    · exact ⟨b, off, cap, h1, h2, h3 i hi⟩
  obtain ⟨a, c, rfl⟩ := hx.slice
  have HLT := hid (fun i (hi : i < posL l k) => decide_eq_true (posL_lt l k i hi))
  have HGE := hid (fun i (hi : posL l k ≤ i) (h : i < l.length) => decide_eq_false (p := l.getD i 0 < k) (by have := posL_ge hg hi h; omega))
  have hpl := posL_le l k
  have h60 := hg.1
  have HHAS : Hid (decide (k ∈ l) = decide (posL l k < l.length ∧ l.getD (posL l k) 0 = k)) := by show _ = _; rw [decide_eq_decide]; exact mem_pos hg k
  obtain ⟨I, hI⟩ : ∃ I, posL l k = I := ⟨_, rfl⟩
  obtain ⟨B, hB⟩ : ∃ B, decide (k ∈ l) = B := ⟨_, rfl⟩
  rw [hI] at HLT HGE hpl HHAS ⊢
  rw [hB] at HHAS ⊢
  clear hI hB hx hg
  go_enter Try.func60, Try.ntmps60
  go_wp2
  go_loopw [7, 8, 9] (fun s7 s8 s9 wr => ∃ lo hi : Nat, s7 = .int .i64 lo ∧ s8 = .int .i64 hi ∧ lo ≤ I ∧ I ≤ hi ∧ hi ≤ l.length ∧ wr = w) (fun s7 s8 _ _ => (intOf s8).toNat - (intOf s7).toNat)
  case atStart => exact ⟨0, l.length, rfl, rfl, Nat.zero_le _, hpl, Nat.le_refl _, rfl⟩
  case round =>
    obtain ⟨lo, hi, rfl, rfl, h1, h2, h3, hwr⟩ := hrel
    subst hwr
    by_cases hlt : lo < hi
    · obtain ⟨b, off, c', hce, hb, hcell⟩ := HC.out ((lo + hi) / 2) (by omega)
      cases hce
      have hli : (lo : Int) < (hi : Int) := by omega
      have hmi : (((lo + hi) / 2 : Nat) : Int) = ((lo : Int) + (hi : Int)) / 2 := by omega
      have hm0 : (0 : Int) ≤ ((lo : Int) + (hi : Int)) / 2 := by omega
      have hm1 : ((lo : Int) + (hi : Int)) / 2 < (l.length : Int) := by omega
      obtain ⟨y, hy⟩ : ∃ y, l.getD ((lo + hi) / 2) 0 = y := ⟨_, rfl⟩
      rw [hy] at hcell
      have HL := lessIs y k wr
      by_cases hm : (lo + hi) / 2 < I
      · have hless := HLT.out _ hm
        rw [hy] at hless
        rw [hless] at HL
        have HMI := hid hmi
        clear hy hless hmi
        go_wp2_with (first | (go_at_call 76; refine HL.mono ?_; rintro e w9 ⟨rfl, hw9⟩; subst w9) | fail)
        refine ⟨?_, by simp [intOf]; omega⟩
        first | exact ⟨(lo + hi) / 2 + 1, hi, by have := HMI.out; go_num, rfl, by omega, h2, h3, by first | rfl | trivial⟩ | ((repeat apply Exists.intro); exact ⟨⟨(lo + hi) / 2 + 1, hi, by have := HMI.out; go_num, rfl, by omega, h2, h3, by first | rfl | trivial⟩, rfl⟩)
      · have hless := HGE.out ((lo + hi) / 2) (by omega) (by omega)
        rw [hy] at hless
        rw [hless] at HL
        have HMI := hid hmi
        clear hy hless hmi
        go_wp2_with (first | (go_at_call 76; refine HL.mono ?_; rintro e w9 ⟨rfl, hw9⟩; subst w9) | fail)
        refine ⟨?_, by simp [intOf]; omega⟩
        first | exact ⟨lo, (lo + hi) / 2, rfl, by have := HMI.out; go_num, h1, by omega, by omega, by first | rfl | trivial⟩ | ((repeat apply Exists.intro); exact ⟨⟨lo, (lo + hi) / 2, rfl, by have := HMI.out; go_num, h1, by omega, by omega, by first | rfl | trivial⟩, rfl⟩)
    · have hli : ¬ ((lo : Int) < (hi : Int)) := by omega
      have hloI : lo = I := by omega
      subst hloI
      by_cases hn : lo < l.length
      · have hni : (lo : Int) < (l.length : Int) := by omega
        have hn0 : (0 : Int) ≤ (lo : Int) := by omega
        obtain ⟨b, off, c', hce, hb, hcell⟩ := HC.out lo hn
        cases hce
        obtain ⟨y, hy⟩ : ∃ y, l.getD lo 0 = y := ⟨_, rfl⟩
        rw [hy] at hcell HHAS
        have HNA := nanIs y wr
        have HNB := nanIs k wr
        by_cases hyk : y = k
        · have hB1 : B = true := by rw [HHAS.out]; exact decide_eq_true ⟨hn, hyk⟩
          have HB1 := hid hB1
          have hyk2 : (y == k) = true := by simp [hyk]
          clear hy HHAS hyk hB1
          go_wp2_with (first | (go_at_call 77; refine HNA.mono ?_; rintro e w9 ⟨rfl, hw9⟩; subst w9) | fail)
          go_returns
          exact ⟨by rw [HB1.out]; rfl, rfl⟩
        · have hB1 : B = false := by rw [HHAS.out]; exact decide_eq_false (fun h => hyk h.2)
          have HB1 := hid hB1
          have hyk2 : (y == k) = false := by simp [hyk]
          clear hy HHAS hyk hB1
          go_wp2_with (first | (go_at_call 77; refine HNA.mono ?_; rintro e w9 ⟨rfl, hw9⟩; subst w9) | fail)
          go_returns
          exact ⟨by rw [HB1.out]; rfl, rfl⟩
      · have hni : ¬ ((lo : Int) < (l.length : Int)) := by omega
        have HB1 : Hid (B = false) := by show _ = _; rw [HHAS.out]; exact decide_eq_false (fun h => hn h.1)
        clear HHAS
        go_wp2_with fail
        go_returns
        exact ⟨by rw [HB1.out]; rfl, rfl⟩
end Go.Proofs.Ytaafdcghafbfhaa
