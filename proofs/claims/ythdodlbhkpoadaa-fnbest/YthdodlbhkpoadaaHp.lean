/- Scores and heaps of scores, in plain words. No condition. -/
import Derived.Test.YthdodlbhkpoadaaOwnI
namespace Go.Proofs.Ythdodlbhkpoadaa
open Go.ChangeShapes Go.WideShapes Go.ChangeAt Go.RowKit Go.Deep
set_option linter.unusedVariables false

abbrev Sc := Int × Int
/-- Is a score better than another one. -/
def bet (a b : Sc) : Bool := decide (b.2 < a.2) || (decide (a.2 = b.2) && decide (a.1 < b.1))
theorem bet_iff {a b : Sc} : bet a b = true ↔ b.2 < a.2 ∨ (a.2 = b.2 ∧ a.1 < b.1) := by simp [bet]
theorem bet_no {a b : Sc} : bet a b = false ↔ ¬ (b.2 < a.2 ∨ (a.2 = b.2 ∧ a.1 < b.1)) := by rw [← bet_iff]; simp
theorem bet_irr (a : Sc) : bet a a = false := by rw [bet_no]; omega
theorem bet_trans {a b c : Sc} (h : bet a b = true) (g : bet b c = true) : bet a c = true := by rw [bet_iff] at *; omega
theorem bet_nn {a b c : Sc} (h : bet a b = false) (g : bet b c = false) : bet a c = false := by rw [bet_no] at *; omega
theorem bet_yn {a b c : Sc} (h : bet a b = true) (g : bet c b = false) : bet a c = true := by rw [bet_iff, bet_no] at *; omega
theorem bet_no_of {a b : Sc} (h : bet a b = true) : bet b a = false := by rw [bet_iff] at h; rw [bet_no]; omega
theorem bet_eq {a b : Sc} (h : bet a b = false) (g : bet b a = false) : a = b := by
  rw [bet_no] at *
  obtain ⟨a1, a2⟩ := a; obtain ⟨b1, b2⟩ := b
  simp only [Prod.mk.injEq] at *; omega
theorem bet_ny {a b c : Sc} (h : bet b a = false) (g : bet b c = true) : bet a c = true := by rw [bet_iff, bet_no] at *; omega
abbrev gd (l : List Sc) (i : Nat) : Sc := l.getD i default
/-- Two places changed. -/
def sw (l : List Sc) (i j : Nat) : List Sc := (l.set i (gd l j)).set j (gd l i)
theorem sw_len (l : List Sc) (i j : Nat) : (sw l i j).length = l.length := by simp [sw]
theorem gd_set (l : List Sc) (i j : Nat) (x : Sc) (hi : i < l.length) : gd (l.set i x) j = if j = i then x else gd l j := by
  unfold gd
  rw [List.getD_eq_getElem?_getD, List.getElem?_set]
  by_cases e : i = j
  · subst e; simp [hi]
  · simp [e, Ne.symm e, List.getD_eq_getElem?_getD]
theorem gd_sw (l : List Sc) (i j k : Nat) (hi : i < l.length) (hj : j < l.length) : gd (sw l i j) k = if k = i then gd l j else if k = j then gd l i else gd l k := by
  unfold sw
  rw [gd_set _ _ _ _ (by simpa using hj), gd_set _ _ _ _ hi]
  by_cases e1 : k = j
  · by_cases e2 : k = i
    · subst e2; subst e1; simp
    · simp [e1]; intro h; rw [h]
  · simp [e1]
theorem sw_perm (l : List Sc) (i j : Nat) (hi : i < l.length) (hj : j < l.length) : (sw l i j).Perm l := by
  rw [List.perm_iff_count]
  intro x
  unfold sw
  rw [List.count_set (by simpa using hj), List.count_set hi]
  have hgi : gd l i = l[i] := by simp [gd, List.getD, hi]
  have hgj : gd l j = l[j] := by simp [gd, List.getD, hj]
  have e : (l.set i (gd l j))[j]'(by simpa using hj) = l[j] := by
    rw [List.getElem_set]; split
    · rename_i h; exact hgj
    · rfl
  rw [e, hgi, hgj]
  have h1 : l[i] == x → 0 < l.count x := fun h => List.count_pos_iff.2 (by have := eq_of_beq h; subst this; exact List.getElem_mem hi)
  by_cases a : l[i] == x <;> by_cases b : l[j] == x <;> simp [a, b]
  · have := h1 a; omega
  · have := h1 a; omega
theorem half_lt {k : Nat} (h : 0 < k) : (k - 1) / 2 < k := by omega
/-- The score at k goes up as long as it is better (at most so many times as the first number says). -/
def riseF : Nat → List Sc → Nat → List Sc
  | 0, l, _ => l
  | f + 1, l, k => if 0 < k ∧ bet (gd l k) (gd l ((k - 1) / 2)) = true then riseF f (sw l k ((k - 1) / 2)) ((k - 1) / 2) else l
theorem riseF_more : ∀ (f k : Nat) (l : List Sc), k ≤ f → riseF f l k = riseF k l k
  | 0, k, l, h => by rw [Nat.le_zero.1 h]
  | f + 1, 0, l, h => by simp [riseF]
  | f + 1, k + 1, l, h => by
    simp only [riseF]
    split
    · have h2 : (k + 1 - 1) / 2 ≤ k := by omega
      rw [riseF_more f _ _ (by omega), riseF_more k _ _ h2]
    · rfl
def riseL (l : List Sc) (k : Nat) : List Sc := riseF k l k
theorem rise_yes {l : List Sc} {k : Nat} (h0 : 0 < k) (h : bet (gd l k) (gd l ((k - 1) / 2)) = true) : riseL l k = riseL (sw l k ((k - 1) / 2)) ((k - 1) / 2) := by
  obtain ⟨j, rfl⟩ : ∃ j, k = j + 1 := ⟨k - 1, by omega⟩
  unfold riseL
  simp only [riseF]
  rw [if_pos ⟨h0, h⟩, riseF_more j _ _ (by omega)]
theorem rise_no {l : List Sc} {k : Nat} (h : ¬ (0 < k ∧ bet (gd l k) (gd l ((k - 1) / 2)) = true)) : riseL l k = l := by
  unfold riseL
  cases k with
  | zero => rfl
  | succ j => simp only [riseF]; rw [if_neg h]
/-- The best of three places. -/
def best1 (l : List Sc) (k : Nat) : Nat := if 2 * k + 1 < l.length ∧ bet (gd l (2 * k + 1)) (gd l k) = true then 2 * k + 1 else k
def bestAt (l : List Sc) (k : Nat) : Nat := if 2 * k + 2 < l.length ∧ bet (gd l (2 * k + 2)) (gd l (best1 l k)) = true then 2 * k + 2 else best1 l k
theorem bestAt_lt {l : List Sc} {k : Nat} (h : bestAt l k ≠ k) : k < bestAt l k ∧ bestAt l k < l.length := by
  unfold bestAt at h ⊢
  split
  · omega
  · rename_i h1
    rw [if_neg h1] at h
    unfold best1 at h ⊢
    split
    · omega
    · rename_i h2; rw [if_neg h2] at h; exact absurd rfl h
/-- The score at k goes down as long as one below it is better (at most so many times as the first number says). -/
def sinkF : Nat → List Sc → Nat → List Sc
  | 0, l, _ => l
  | f + 1, l, k => if bestAt l k = k then l else sinkF f (sw l k (bestAt l k)) (bestAt l k)
theorem sinkF_more : ∀ (f d k : Nat) (l : List Sc), l.length - k ≤ d → d ≤ f → sinkF f l k = sinkF d l k
  | 0, d, k, l, _, h => by rw [Nat.le_zero.1 h]
  | f + 1, 0, k, l, h1, h => by
    simp only [sinkF]
    split
    · rfl
    · rename_i c; have := bestAt_lt c; omega
  | f + 1, d + 1, k, l, h1, h => by
    simp only [sinkF]
    split
    · rfl
    · rename_i c
      have := bestAt_lt c
      rw [sinkF_more f d _ _ (by rw [sw_len]; omega) (by omega)]
def sinkL (l : List Sc) (k : Nat) : List Sc := sinkF (l.length - k) l k
theorem sink_no {l : List Sc} {k : Nat} (h : bestAt l k = k) : sinkL l k = l := by
  unfold sinkL
  cases l.length - k with
  | zero => rfl
  | succ d => simp only [sinkF]; rw [if_pos h]
theorem sink_yes {l : List Sc} {k : Nat} (h : bestAt l k ≠ k) : sinkL l k = sinkL (sw l k (bestAt l k)) (bestAt l k) := by
  have hb := bestAt_lt h
  unfold sinkL
  rw [sw_len]
  obtain ⟨d, hd⟩ : ∃ d, l.length - k = d + 1 := ⟨l.length - k - 1, by omega⟩
  rw [hd]
  simp only [sinkF]
  rw [if_neg h, sinkF_more d (l.length - bestAt l k) _ _ (by rw [sw_len]; omega) (by omega)]
/-- The one below k that the program looks at. -/
def nextAt (l : List Sc) (k : Nat) : Nat := if 2 * k + 2 < l.length ∧ bet (gd l (2 * k + 2)) (gd l (2 * k + 1)) = true then 2 * k + 2 else 2 * k + 1
theorem next_best (l : List Sc) (k : Nat) : bestAt l k = if nextAt l k < l.length ∧ bet (gd l (nextAt l k)) (gd l k) = true then nextAt l k else k := by
  by_cases h2 : 2 * k + 2 < l.length
  · have h1 : 2 * k + 1 < l.length := by omega
    by_cases b21 : bet (gd l (2 * k + 2)) (gd l (2 * k + 1)) = true
    · have hn : nextAt l k = 2 * k + 2 := by unfold nextAt; rw [if_pos ⟨h2, b21⟩]
      rw [hn]
      by_cases b1 : bet (gd l (2 * k + 1)) (gd l k) = true
      · have hb : best1 l k = 2 * k + 1 := by unfold best1; rw [if_pos ⟨h1, b1⟩]
        unfold bestAt
        rw [hb, if_pos ⟨h2, b21⟩, if_pos ⟨h2, bet_trans b21 b1⟩]
      · have hb : best1 l k = k := by unfold best1; rw [if_neg (fun h => b1 h.2)]
        unfold bestAt
        rw [hb]
    · have hn : nextAt l k = 2 * k + 1 := by unfold nextAt; rw [if_neg (fun h => b21 h.2)]
      rw [hn]
      by_cases b1 : bet (gd l (2 * k + 1)) (gd l k) = true
      · have hb : best1 l k = 2 * k + 1 := by unfold best1; rw [if_pos ⟨h1, b1⟩]
        unfold bestAt
        rw [hb, if_neg (fun h => b21 h.2), if_pos ⟨h1, b1⟩]
      · have hb : best1 l k = k := by unfold best1; rw [if_neg (fun h => b1 h.2)]
        have b2 : ¬ bet (gd l (2 * k + 2)) (gd l k) = true := by
          have x1 : bet (gd l (2 * k + 2)) (gd l (2 * k + 1)) = false := by simpa using b21
          have x2 : bet (gd l (2 * k + 1)) (gd l k) = false := by simpa using b1
          rw [bet_nn x1 x2]; simp
        unfold bestAt
        rw [hb, if_neg (fun h => b2 h.2), if_neg (fun h => b1 h.2)]
  · have hn : nextAt l k = 2 * k + 1 := by unfold nextAt; rw [if_neg (fun h => h2 h.1)]
    rw [hn]
    unfold bestAt
    rw [if_neg (fun h => h2 h.1)]
    rfl
/-- No score better than the one above it. -/
def IsH (l : List Sc) : Prop := ∀ k, 0 < k → k < l.length → bet (gd l k) (gd l ((k - 1) / 2)) = false
theorem rise_len (l : List Sc) (k : Nat) : (riseL l k).length = l.length := by
  induction k using Nat.strongRecOn generalizing l with
  | ind k ih =>
    by_cases h : 0 < k ∧ bet (gd l k) (gd l ((k - 1) / 2)) = true
    · rw [rise_yes h.1 h.2, ih _ (half_lt h.1), sw_len]
    · rw [rise_no h]
theorem rise_perm (l : List Sc) (k : Nat) (hk : k < l.length) : (riseL l k).Perm l := by
  induction k using Nat.strongRecOn generalizing l with
  | ind k ih =>
    by_cases h : 0 < k ∧ bet (gd l k) (gd l ((k - 1) / 2)) = true
    · rw [rise_yes h.1 h.2]
      exact (ih _ (half_lt h.1) _ (by rw [sw_len]; omega)).trans (sw_perm _ _ _ hk (by omega))
    · rw [rise_no h]
theorem rise_heap (l : List Sc) (k : Nat) (hk : k < l.length) (h1 : ∀ i, 0 < i → i < l.length → i ≠ k → bet (gd l i) (gd l ((i - 1) / 2)) = false)
    (h2 : ∀ i, 0 < i → i < l.length → (i - 1) / 2 = k → 0 < k → bet (gd l i) (gd l ((k - 1) / 2)) = false) : IsH (riseL l k) := by
  induction k using Nat.strongRecOn generalizing l with
  | ind k ih =>
    by_cases h : 0 < k ∧ bet (gd l k) (gd l ((k - 1) / 2)) = true
    · rw [rise_yes h.1 h.2]
      have hp : (k - 1) / 2 < l.length := by omega
      have hpk := half_lt h.1
      refine ih _ hpk _ (by rw [sw_len]; omega) (fun i hi0 hil hne => ?_) (fun i hi0 hil hip hp0 => ?_)
      · rw [sw_len] at hil
        rw [gd_sw _ _ _ _ hk hp, gd_sw _ _ _ _ hk hp]
        by_cases e : i = k
        · subst e
          have e1 : ¬ (i - 1) / 2 = i := by omega
          simp only [if_true, if_neg e1]
          exact bet_no_of h.2
        · rw [if_neg e, if_neg hne]
          by_cases e2 : (i - 1) / 2 = k
          · rw [if_pos e2]; exact h2 i hi0 hil e2 h.1
          · rw [if_neg e2]
            by_cases e3 : (i - 1) / 2 = (k - 1) / 2
            · rw [if_pos e3]
              have := h1 i hi0 hil e
              rw [e3] at this
              exact bet_nn this (bet_no_of h.2)
            · rw [if_neg e3]; exact h1 i hi0 hil e
      · rw [sw_len] at hil
        have e1 : ¬ ((k - 1) / 2 - 1) / 2 = k := by omega
        have e2 : ¬ ((k - 1) / 2 - 1) / 2 = (k - 1) / 2 := by omega
        have h3 := h1 ((k - 1) / 2) hp0 hp (by omega)
        rw [gd_sw _ _ _ _ hk hp, gd_sw _ _ _ _ hk hp, if_neg e1, if_neg e2]
        by_cases e : i = k
        · rw [if_pos e]; exact h3
        · have e4 : ¬ i = (k - 1) / 2 := by omega
          rw [if_neg e, if_neg e4]
          have h4 := h1 i hi0 hil e
          rw [hip] at h4
          exact bet_nn h4 h3
    · rw [rise_no h]
      intro i hi0 hil
      by_cases e : i = k
      · subst e
        cases hb : bet (gd l i) (gd l ((i - 1) / 2)) with
        | false => rfl
        | true => exact absurd ⟨hi0, hb⟩ h
      · exact h1 i hi0 hil e
/-- A score put to a heap. -/
def pushL (l : List Sc) (x : Sc) : List Sc := riseL (l ++ [x]) l.length
theorem push_len (l : List Sc) (x : Sc) : (pushL l x).length = l.length + 1 := by rw [pushL, rise_len]; simp
theorem push_perm (l : List Sc) (x : Sc) : (pushL l x).Perm (x :: l) := by
  refine (rise_perm _ _ (by simp)).trans ?_
  exact List.perm_append_singleton x l
theorem gd_app (l : List Sc) (x : Sc) (i : Nat) (h : i < l.length) : gd (l ++ [x]) i = gd l i := by
  simp [gd, List.getD, List.getElem?_append_left h]
theorem push_heap {l : List Sc} (h : IsH l) (x : Sc) : IsH (pushL l x) := by
  refine rise_heap _ _ (by simp) (fun i h0 hi hne => ?_) (fun i h0 hi hp hk => ?_)
  · have hi2 : i < l.length := by simp at hi; omega
    rw [gd_app _ _ _ hi2, gd_app _ _ _ (by omega)]
    exact h i h0 hi2
  · simp at hi; omega
theorem sink_len (l : List Sc) (k : Nat) : (sinkL l k).length = l.length := by
  generalize hm : l.length - k = m
  induction m using Nat.strongRecOn generalizing l k with
  | ind m ih =>
    by_cases h : bestAt l k = k
    · rw [sink_no h]
    · have hb := bestAt_lt h
      rw [sink_yes h, ih (l.length - bestAt l k) (by omega) _ _ (by rw [sw_len]), sw_len]
theorem sink_perm (l : List Sc) (k : Nat) : (sinkL l k).Perm l := by
  generalize hm : l.length - k = m
  induction m using Nat.strongRecOn generalizing l k with
  | ind m ih =>
    by_cases h : bestAt l k = k
    · rw [sink_no h]
    · have hb := bestAt_lt h
      rw [sink_yes h]
      exact (ih (l.length - bestAt l k) (by omega) _ _ (by rw [sw_len])).trans (sw_perm _ _ _ (by omega) hb.2)
theorem bestAt_cases (l : List Sc) (k : Nat) : (bestAt l k = k ∨ bestAt l k = 2 * k + 1 ∨ bestAt l k = 2 * k + 2) ∧
    (2 * k + 1 < l.length → bet (gd l (2 * k + 1)) (gd l (bestAt l k)) = false) ∧ (2 * k + 2 < l.length → bet (gd l (2 * k + 2)) (gd l (bestAt l k)) = false) ∧ bet (gd l k) (gd l (bestAt l k)) = false := by
  have hb1 : (best1 l k = k ∨ best1 l k = 2 * k + 1) ∧ (2 * k + 1 < l.length → bet (gd l (2 * k + 1)) (gd l (best1 l k)) = false) ∧ bet (gd l k) (gd l (best1 l k)) = false := by
    unfold best1
    split
    · rename_i h; exact ⟨.inr rfl, fun _ => bet_irr _, bet_no_of h.2⟩
    · rename_i h; exact ⟨.inl rfl, fun g => by cases hb : bet (gd l (2 * k + 1)) (gd l k); rfl; exact absurd ⟨g, hb⟩ h, bet_irr _⟩
  unfold bestAt
  split
  · rename_i h
    refine ⟨.inr (.inr rfl), fun g => bet_nn (hb1.2.1 g) (bet_no_of h.2), fun _ => bet_irr _, bet_nn hb1.2.2 (bet_no_of h.2)⟩
  · rename_i h
    refine ⟨by rcases hb1.1 with h | h; exact .inl h; exact .inr (.inl h), hb1.2.1, fun g => ?_, hb1.2.2⟩
    cases hb : bet (gd l (2 * k + 2)) (gd l (best1 l k)); rfl; exact absurd ⟨g, hb⟩ h
theorem sink_heap (l : List Sc) (k : Nat) (h1 : ∀ i, 0 < i → i < l.length → (i - 1) / 2 ≠ k → bet (gd l i) (gd l ((i - 1) / 2)) = false)
    (h2 : ∀ i, 0 < i → i < l.length → (i - 1) / 2 = k → 0 < k → bet (gd l i) (gd l ((k - 1) / 2)) = false) : IsH (sinkL l k) := by
  generalize hm : l.length - k = m
  induction m using Nat.strongRecOn generalizing l k with
  | ind m ih =>
    obtain ⟨hc, hc1, hc2, hck⟩ := bestAt_cases l k
    by_cases h : bestAt l k = k
    · rw [sink_no h]
      rw [h] at hc1 hc2
      intro i hi0 hil
      by_cases e : (i - 1) / 2 = k
      · rw [e]
        rcases (show i = 2 * k + 1 ∨ i = 2 * k + 2 by omega) with e2 | e2
        · subst e2; exact hc1 hil
        · subst e2; exact hc2 hil
      · exact h1 i hi0 hil e
    · have hb := bestAt_lt h
      have hpar : (bestAt l k - 1) / 2 = k := by rcases hc with hc | hc | hc <;> omega
      rw [sink_yes h]
      have hk : k < l.length := by omega
      refine ih (l.length - bestAt l k) (by omega) _ _ (fun i hi0 hil hne => ?_) (fun i hi0 hil hip hp0 => ?_) (by rw [sw_len])
      · rw [sw_len] at hil
        rw [gd_sw _ _ _ _ hk hb.2, gd_sw _ _ _ _ hk hb.2]
        by_cases e : i = k
        · subst e
          have e1 : ¬ (i - 1) / 2 = i := by omega
          rw [if_pos rfl, if_neg e1, if_neg hne]
          exact h2 (bestAt l i) (by omega) hb.2 hpar hi0
        · rw [if_neg e, if_neg hne]
          by_cases e2 : i = bestAt l k
          · rw [if_pos e2, e2, hpar, if_pos rfl]
            exact hck
          · rw [if_neg e2]
            by_cases e3 : (i - 1) / 2 = k
            · rw [if_pos e3]
              rcases (show i = 2 * k + 1 ∨ i = 2 * k + 2 by omega) with e4 | e4
              · subst e4; exact hc1 hil
              · subst e4; exact hc2 hil
            · rw [if_neg e3]; exact h1 i hi0 hil e3
      · rw [sw_len] at hil
        have e1 : ¬ i = k := by omega
        have e2 : ¬ i = bestAt l k := by omega
        rw [gd_sw _ _ _ _ hk hb.2, gd_sw _ _ _ _ hk hb.2, hpar, if_pos rfl, if_neg e1, if_neg e2]
        have := h1 i hi0 hil (by omega)
        rwa [hip] at this
/-- What is left of a heap whose first score is taken out. -/
def popL (l : List Sc) : List Sc := sinkL ((sw l 0 (l.length - 1)).take (l.length - 1)) 0
theorem pop_len (l : List Sc) : (popL l).length = l.length - 1 := by rw [popL, sink_len]; simp [sw_len]
theorem take_snoc (l : List Sc) (h : 0 < l.length) : l = l.take (l.length - 1) ++ [gd l (l.length - 1)] := by
  have h1 : l.take (l.length - 1 + 1) = l.take (l.length - 1) ++ [gd l (l.length - 1)] := by
    rw [List.take_succ_eq_append_getElem (by omega)]; simp [gd, List.getD, show l.length - 1 < l.length by omega]
  rw [Nat.sub_add_cancel h, List.take_length] at h1
  exact h1
theorem pop_perm (l : List Sc) (h : 0 < l.length) : l.Perm (gd l 0 :: popL l) := by
  have h1 := sw_perm l 0 (l.length - 1) h (by omega)
  have h2 := take_snoc (sw l 0 (l.length - 1)) (by rw [sw_len]; exact h)
  rw [sw_len, gd_sw _ _ _ _ h (by omega)] at h2
  have h3 : (if l.length - 1 = 0 then gd l (l.length - 1) else if l.length - 1 = l.length - 1 then gd l 0 else gd l (l.length - 1)) = gd l 0 := by
    split
    · rename_i e; rw [e]
    · rw [if_pos rfl]
  rw [h3] at h2
  refine h1.symm.trans ?_
  refine (h2 ▸ List.Perm.refl _ : (sw l 0 (l.length - 1)).Perm ((sw l 0 (l.length - 1)).take (l.length - 1) ++ [gd l 0])).trans ?_
  refine (List.perm_append_singleton _ _).trans ?_
  exact List.Perm.cons _ (sink_perm _ _).symm
theorem gd_take (l : List Sc) (n i : Nat) (h : i < n) : gd (l.take n) i = gd l i := by
  simp [gd, List.getD, List.getElem?_take_of_lt h]
theorem pop_heap {l : List Sc} (h : IsH l) : IsH (popL l) := by
  by_cases h0 : l.length = 0
  · intro i hi0 hil; rw [pop_len] at hil; omega
  refine sink_heap _ _ (fun i hi0 hil hne => ?_) (fun i hi0 hil hp hk => by omega)
  simp only [List.length_take, sw_len] at hil
  rw [gd_take _ _ _ (by omega), gd_take _ _ _ (by omega), gd_sw _ _ _ _ (by omega) (by omega), gd_sw _ _ _ _ (by omega) (by omega),
    if_neg (by omega), if_neg (by omega), if_neg hne, if_neg (by omega)]
  exact h i hi0 (by omega)
theorem head_best {l : List Sc} (h : IsH l) : ∀ i, i < l.length → bet (gd l i) (gd l 0) = false := by
  intro i
  induction i using Nat.strongRecOn with
  | ind i ih =>
    intro hi
    by_cases h0 : i = 0
    · subst h0; exact bet_irr _
    · exact bet_nn (h i (by omega) hi) (ih _ (half_lt (by omega)) (by omega))
theorem head_mem {l : List Sc} (h : IsH l) : ∀ x ∈ l, bet x (gd l 0) = false := by
  intro x hx
  obtain ⟨i, hi, rfl⟩ := List.mem_iff_getElem.1 hx
  have := head_best h i hi
  simpa [gd, List.getD, hi] using this
/-- The first few that are taken out. -/
def popsL (l : List Sc) : Nat → List Sc
  | 0 => []
  | m + 1 => if l.length = 0 then [] else gd l 0 :: popsL (popL l) m
def SrtB (l : List Sc) : Prop := l.Pairwise (fun a b => bet a b = true)
theorem pops_take : ∀ (m : Nat) (l S : List Sc), IsH l → SrtB S → S.Perm l → popsL l m = S.take m
  | 0, _, _, _, _, _ => rfl
  | m + 1, l, [], h, hs, hp => by
    have : l.length = 0 := by rw [← hp.length_eq]; rfl
    simp [popsL, this]
  | m + 1, l, s :: S, h, hs, hp => by
    have hl : l.length ≠ 0 := by rw [← hp.length_eq]; simp
    have h0 : 0 < l.length := by omega
    obtain ⟨hs1, hs2⟩ := List.pairwise_cons.1 hs
    have hx : gd l 0 ∈ s :: S := hp.mem_iff.2 (by simp [gd, List.getD, h0])
    have hsx : s = gd l 0 := by
      rcases List.mem_cons.1 hx with e | e
      · exact e.symm
      · have h1 := head_mem h s (hp.mem_iff.1 (by simp))
        rw [hs1 _ e] at h1; cases h1
    have hp2 : S.Perm (popL l) := by
      have := hp.trans (pop_perm l h0)
      rw [← hsx] at this
      exact List.Perm.cons_inv this
    simp only [popsL, if_neg hl, List.take_succ_cons]
    rw [pops_take m (popL l) S (pop_heap h) hs2 hp2, hsx]
end Go.Proofs.Ythdodlbhkpoadaa
