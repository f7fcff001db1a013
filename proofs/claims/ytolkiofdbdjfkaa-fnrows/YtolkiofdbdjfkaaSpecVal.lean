/- Contracts of the model's GoodValue, l4Sign, l4Compare, CompareValues. No condition but the texts' own reach. -/
import Derived.Test.YtolkiofdbdjfkaaVal
import Derived.Deep.OwnRows
import Derived.RegionTactic
import Derived.Laws.Cover1
import Derived.Deep.RegionHeld3
import Derived.Deep.DeepCutAuto
import Derived.Deep.DrawnRows
namespace Go.Proofs.Ytolkiofdbdjfkaa
open Go.ChangeShapes Go.WideShapes Go.ChangeAt Go.RowKit Go.Deep
set_option linter.unusedVariables false
attribute [local go_sem ↓] Go.wp_at_zero Go.wp_at_succ

def encV (v : VV) : Value := .agg #[.int .i64 v.k, .int .i64 v.n, .string v.t]
theorem emptyL {t : ByteArray} (h : t ≠ ByteArray.empty) : (t.toList == []) = false := by
  rw [ByteArray.toList_eq]
  cases t with
  | mk d => cases d with
    | mk l => cases l with
      | nil => exact absurd rfl h
      | cons a l => rfl
/-- How two texts stand, in the program's own words. -/
theorem text_lt {a b : ByteArray} (h : cmpB a.data.toList b.data.toList = -1) : Go.Op.bytesLess a.toList b.toList = true := by rw [ByteArray.toList_eq, ByteArray.toList_eq, less_cmp, h]; rfl
theorem text_ge {a b : ByteArray} (h : cmpB a.data.toList b.data.toList ≠ -1) : Go.Op.bytesLess a.toList b.toList = false := by rw [ByteArray.toList_eq, ByteArray.toList_eq, less_cmp]; simp [h]
theorem text_ne {a b : ByteArray} (h : cmpB a.data.toList b.data.toList ≠ 0) : (a.toList == b.toList) = false := by
  rw [ByteArray.toList_eq, ByteArray.toList_eq]
  apply beq_false_of_ne
  intro e
  rw [e, cmpB_refl] at h
  exact h rfl
theorem specInYes (n lo hi : Int) (w : World) (h0 : lo ≤ n) (h1 : n ≤ hi) :
    Calls Try.prog 51 #[.int .i64 n, .int .i64 lo, .int .i64 hi] w fun e w' => e = .returned (.bool true) ∧ w' = w := by
  go_enter Try.func51, Try.ntmps51
  go_wp2
  go_returns
  exact ⟨rfl, rfl⟩
theorem specInNo (n lo hi : Int) (w : World) (h : ¬ (lo ≤ n ∧ n ≤ hi)) :
    Calls Try.prog 51 #[.int .i64 n, .int .i64 lo, .int .i64 hi] w fun e w' => e = .returned (.bool false) ∧ w' = w := by
  by_cases h0 : lo ≤ n
  · have h1 : ¬ n ≤ hi := fun g => h ⟨h0, g⟩
    clear h
    go_enter Try.func51, Try.ntmps51
    go_wp2
    go_returns
    exact ⟨rfl, rfl⟩
  · clear h
    go_enter Try.func51, Try.ntmps51
    go_wp2
    go_returns
    exact ⟨rfl, rfl⟩
set_option maxHeartbeats 1600000 in
theorem specGoodYes (v : VV) (w : World) (h : GoodV v) :
    Calls Try.prog 17 #[encV v] w fun e w' => e = .returned (.bool true) ∧ Below w.heap.size w w' := by
  obtain ⟨k, n, t⟩ := v
  unfold encV
  unfold GoodV at h
  simp only [] at h ⊢
  rcases h with ⟨rfl, rfl, rfl⟩ | ⟨rfl, h2, rfl⟩ | ⟨rfl, h2, rfl⟩ | ⟨rfl, rfl, h3⟩
  · go_enter Try.func17, Try.ntmps17
    go_wp2
    go_returns
    exact ⟨rfl, by go_grown⟩
  · go_enter Try.func17, Try.ntmps17
    go_wp2_with fail
    refine (specInYes _ _ _ _ h2.1 h2.2).mono ?_
    rintro e w0 ⟨rfl, rfl⟩
    go_wp2
    go_returns
    exact ⟨rfl, by go_grown⟩
  · go_enter Try.func17, Try.ntmps17
    go_wp2_with fail
    refine (specInYes _ _ _ _ h2.1 h2.2).mono ?_
    rintro e w0 ⟨rfl, rfl⟩
    go_wp2
    go_returns
    exact ⟨rfl, by go_grown⟩
  · have h4 : (t.size : Int) ≤ 12 := by omega
    go_enter Try.func17, Try.ntmps17
    go_wp2
    go_returns
    exact ⟨rfl, by go_grown⟩
set_option maxHeartbeats 1600000 in
theorem specGoodNo (v : VV) (w : World) (hm : v.t.size ≤ maxLen) (h : ¬ GoodV v) :
    Calls Try.prog 17 #[encV v] w fun e w' => e = .returned (.bool false) ∧ Below w.heap.size w w' := by
  obtain ⟨k, n, t⟩ := v
  unfold encV
  unfold GoodV at h
  simp only [] at h hm ⊢
  unfold maxLen at hm
  by_cases h1 : k = 1
  · subst h1
    by_cases hn : n = 0
    · subst hn
      have ht : t ≠ ByteArray.empty := fun e => h (.inl ⟨rfl, rfl, e⟩)
      have ht2 := emptyL ht
      clear h ht
      go_enter Try.func17, Try.ntmps17
      go_wp2
      go_returns
      exact ⟨rfl, by go_grown⟩
    · clear h
      go_enter Try.func17, Try.ntmps17
      go_wp2
      go_returns
      exact ⟨rfl, by go_grown⟩
  · by_cases h2 : k = 2
    · subst h2
      by_cases hn : 0 ≤ n ∧ n ≤ 1
      · have ht : t ≠ ByteArray.empty := fun e => h (.inr (.inl ⟨rfl, hn, e⟩))
        have ht2 := emptyL ht
        clear h ht h1
        go_enter Try.func17, Try.ntmps17
        go_wp2_with fail
        refine (specInYes _ _ _ _ hn.1 hn.2).mono ?_
        rintro e w0 ⟨rfl, rfl⟩
        go_wp2
        go_returns
        exact ⟨rfl, by go_grown⟩
      · clear h h1
        go_enter Try.func17, Try.ntmps17
        go_wp2_with fail
        refine (specInNo _ _ _ _ hn).mono ?_
        rintro e w0 ⟨rfl, rfl⟩
        go_wp2
        go_returns
        exact ⟨rfl, by go_grown⟩
    · by_cases h3 : k = 3
      · subst h3
        by_cases hn : -1000000000 ≤ n ∧ n ≤ 1000000000
        · have ht : t ≠ ByteArray.empty := fun e => h (.inr (.inr (.inl ⟨rfl, hn, e⟩)))
          have ht2 := emptyL ht
          clear h ht h1 h2
          go_enter Try.func17, Try.ntmps17
          go_wp2_with fail
          refine (specInYes _ _ _ _ hn.1 hn.2).mono ?_
          rintro e w0 ⟨rfl, rfl⟩
          go_wp2
          go_returns
          exact ⟨rfl, by go_grown⟩
        · clear h h1 h2
          go_enter Try.func17, Try.ntmps17
          go_wp2_with fail
          refine (specInNo _ _ _ _ hn).mono ?_
          rintro e w0 ⟨rfl, rfl⟩
          go_wp2
          go_returns
          exact ⟨rfl, by go_grown⟩
      · by_cases h4 : k = 4
        · subst h4
          by_cases hn : n = 0
          · subst hn
            have hz : ¬ t.size ≤ 12 := fun e => h (.inr (.inr (.inr ⟨rfl, rfl, e⟩)))
            have hz2 : ¬ (t.size : Int) ≤ 12 := by omega
            clear h h1 h2 h3
            go_enter Try.func17, Try.ntmps17
            go_wp2
            go_returns
            exact ⟨rfl, by go_grown⟩
          · clear h h1 h2 h3
            go_enter Try.func17, Try.ntmps17
            go_wp2
            go_returns
            exact ⟨rfl, by go_grown⟩
        · clear h
          go_enter Try.func17, Try.ntmps17
          go_wp2
          go_returns
          exact ⟨rfl, by go_grown⟩
theorem specSign (a b : Int) (w : World) : Calls Try.prog 63 #[.int .i64 a, .int .i64 b] w fun e w' => e = .returned (.int .i64 (sgn a b)) ∧ w' = w := by
  unfold sgn
  by_cases h1 : a < b
  · rw [if_pos h1]
    go_enter Try.func63, Try.ntmps63
    go_wp2
    go_returns
    exact ⟨rfl, rfl⟩
  · rw [if_neg h1]
    by_cases h2 : b < a
    · rw [if_pos h2]
      go_enter Try.func63, Try.ntmps63
      go_wp2
      go_returns
      exact ⟨rfl, rfl⟩
    · rw [if_neg h2]
      go_enter Try.func63, Try.ntmps63
      go_wp2
      go_returns
      exact ⟨rfl, rfl⟩
set_option maxHeartbeats 1600000 in
theorem specCmp (a b : VV) (w : World) :
    Calls Try.prog 50 #[encV a, encV b] w fun e w' => e = .returned (.int .i64 (cmpV a b)) ∧ Below w.heap.size w w' := by
  obtain ⟨k, n, t⟩ := a
  obtain ⟨k2, n2, t2⟩ := b
  unfold encV
  by_cases hk : k = k2
  · subst hk
    by_cases hn : n = n2
    · subst hn
      have e : cmpV ⟨k, n, t⟩ ⟨k, n, t2⟩ = cmpB t.data.toList t2.data.toList := by simp [cmpV]
      rw [e]
      rcases cmpB_cases t.data.toList t2.data.toList with h | h | h
      · have e1 := text_lt h
        rw [h]
        clear h e
        go_enter Try.func50, Try.ntmps50
        go_wp2
        go_returns
        exact ⟨rfl, by go_grown⟩
      · have e1 := text_ge (a := t) (b := t2) (by rw [h]; decide)
        have e2 : t = t2 := by
          have := cmpB_zero h
          cases t; cases t2; simp at this; simp [this]
        subst e2
        rw [h]
        clear h e
        go_enter Try.func50, Try.ntmps50
        go_wp2
        go_returns
        exact ⟨rfl, by go_grown⟩
      · have e1 := text_ge (a := t) (b := t2) (by rw [h]; decide)
        have e2 := text_ne (a := t) (b := t2) (by rw [h]; decide)
        rw [h]
        clear h e
        go_enter Try.func50, Try.ntmps50
        go_wp2
        go_returns
        exact ⟨rfl, by go_grown⟩
    · have e : cmpV ⟨k, n, t⟩ ⟨k, n2, t2⟩ = sgn n n2 := by simp [cmpV, hn]
      rw [e]
      clear e
      have HS := fun W => specSign n n2 W
      generalize sgn n n2 = z at *
      go_enter Try.func50, Try.ntmps50
      go_wp2_with fail
      refine (HS _).mono ?_
      rintro e w1 ⟨rfl, hw1⟩
      subst w1
      go_wp2
      go_returns
      exact ⟨rfl, by go_grown⟩
  · have e : cmpV ⟨k, n, t⟩ ⟨k2, n2, t2⟩ = sgn k k2 := by simp [cmpV, hk]
    rw [e]
    clear e
    have HS := fun W => specSign k k2 W
    generalize sgn k k2 = z at *
    go_enter Try.func50, Try.ntmps50
    go_wp2_with fail
    refine (HS _).mono ?_
    rintro e w1 ⟨rfl, hw1⟩
    subst w1
    go_wp2
    go_returns
    exact ⟨rfl, by go_grown⟩
set_option maxHeartbeats 1600000 in
theorem specCmpYes (a b : VV) (w : World) (ha : GoodV a) (hb : GoodV b) :
    Calls Try.prog 15 #[encV a, encV b] w fun e w' => e = .returned (.tuple #[.int .i64 (cmpV a b), .bool true]) ∧ Below w.heap.size w w' := by
  have HA := fun W => specGoodYes a W ha
  have HB := fun W => specGoodYes b W hb
  have HC := fun W => specCmp a b W
  clear ha hb
  generalize cmpV a b = z at *
  obtain ⟨k, n, t⟩ := a
  obtain ⟨k2, n2, t2⟩ := b
  unfold encV at *
  simp only [] at *
  go_enter Try.func15, Try.ntmps15
  go_wp2_with fail
  refine (HA _).mono ?_
  rintro e w1 ⟨rfl, hb1⟩
  obtain ⟨hc1, hf1⟩ := bcell hb1
  have hz1 := hb1.size
  try simp only [World.size_drew] at hz1
  try simp only [World.size_setCell] at hz1
  try simp only [World.size_alloc] at hz1
  have hz1_0 : w.heap.size < w1.heap.size := by omega
  have hz1_1 : w.heap.size + 1 < w1.heap.size := by omega
  clear hz1
  have k1 : Below w.heap.size w w1 := by
    refine Below.trans ?_ (hb1.mono ?_)
    · go_grown
    · go_size
  have hl1 : w.heap.size ≤ w1.heap.size := k1.size
  clear hb1
  go_wp2_with fail
  refine (HB _).mono ?_
  rintro e w2 ⟨rfl, hb2⟩
  obtain ⟨hc2, hf2⟩ := bcell hb2
  have hz2 := hb2.size
  try simp only [World.size_drew] at hz2
  try simp only [World.size_setCell] at hz2
  try simp only [World.size_alloc] at hz2
  have hz2_0 : w.heap.size < w2.heap.size := by omega
  have hz2_1 : w.heap.size + 1 < w2.heap.size := by omega
  try have hy2_1 : w1.heap.size < w2.heap.size := (by omega)
  clear hz2
  have k2 : Below w.heap.size w w2 := by
    refine Below.trans ?_ (hb2.mono ?_)
    · go_grown
    · go_size
  have hl2 : w.heap.size ≤ w2.heap.size := k2.size
  clear hb2
  go_wp2_with fail
  refine (HC _).mono ?_
  rintro e w3 ⟨rfl, hb3⟩
  obtain ⟨hc3, hf3⟩ := bcell hb3
  have hz3 := hb3.size
  try simp only [World.size_drew] at hz3
  try simp only [World.size_setCell] at hz3
  try simp only [World.size_alloc] at hz3
  have hz3_0 : w.heap.size < w3.heap.size := by omega
  have hz3_1 : w.heap.size + 1 < w3.heap.size := by omega
  try have hy3_1 : w1.heap.size < w3.heap.size := (by omega)
  try have hy3_2 : w2.heap.size < w3.heap.size := (by omega)
  clear hz3
  have k3 : Below w.heap.size w w3 := by
    refine Below.trans ?_ (hb3.mono ?_)
    · go_grown
    · go_size
  have hl3 : w.heap.size ≤ w3.heap.size := k3.size
  clear hb3
  go_wp2
  go_returns
  exact ⟨rfl, by go_grown⟩
set_option maxHeartbeats 1600000 in
theorem specCmpNo (a b : VV) (w : World) (hma : a.t.size ≤ maxLen) (hmb : b.t.size ≤ maxLen) (h : ¬ (GoodV a ∧ GoodV b)) :
    Calls Try.prog 15 #[encV a, encV b] w fun e w' => e = .returned (.tuple #[.int .i64 0, .bool false]) ∧ Below w.heap.size w w' := by
  by_cases ha : GoodV a
  · have HA := fun W => specGoodYes a W ha
    have HB := fun W => specGoodNo b W hmb (fun g => h ⟨ha, g⟩)
    clear ha h
    obtain ⟨k, n, t⟩ := a
    obtain ⟨k2, n2, t2⟩ := b
    unfold encV at *
    simp only [] at *
    go_enter Try.func15, Try.ntmps15
    go_wp2_with fail
    refine (HA _).mono ?_
    rintro e w1 ⟨rfl, hb1⟩
    obtain ⟨hc1, hf1⟩ := bcell hb1
    have hz1 := hb1.size
    try simp only [World.size_drew] at hz1
    try simp only [World.size_setCell] at hz1
    try simp only [World.size_alloc] at hz1
    have hz1_0 : w.heap.size < w1.heap.size := by omega
    have hz1_1 : w.heap.size + 1 < w1.heap.size := by omega
    clear hz1
    have k1 : Below w.heap.size w w1 := by
      refine Below.trans ?_ (hb1.mono ?_)
      · go_grown
      · go_size
    have hl1 : w.heap.size ≤ w1.heap.size := k1.size
    clear hb1
    go_wp2_with fail
    refine (HB _).mono ?_
    rintro e w2 ⟨rfl, hb2⟩
    obtain ⟨hc2, hf2⟩ := bcell hb2
    have hz2 := hb2.size
    try simp only [World.size_drew] at hz2
    try simp only [World.size_setCell] at hz2
    try simp only [World.size_alloc] at hz2
    have hz2_0 : w.heap.size < w2.heap.size := by omega
    have hz2_1 : w.heap.size + 1 < w2.heap.size := by omega
    try have hy2_1 : w1.heap.size < w2.heap.size := (by omega)
    clear hz2
    have k2 : Below w.heap.size w w2 := by
      refine Below.trans ?_ (hb2.mono ?_)
      · go_grown
      · go_size
    have hl2 : w.heap.size ≤ w2.heap.size := k2.size
    clear hb2
    go_wp2
    go_returns
    exact ⟨rfl, by go_grown⟩
  · have HA := fun W => specGoodNo a W hma ha
    clear ha h
    obtain ⟨k, n, t⟩ := a
    obtain ⟨k2, n2, t2⟩ := b
    unfold encV at *
    simp only [] at *
    go_enter Try.func15, Try.ntmps15
    go_wp2_with fail
    refine (HA _).mono ?_
    rintro e w1 ⟨rfl, hb1⟩
    obtain ⟨hc1, hf1⟩ := bcell hb1
    have hz1 := hb1.size
    try simp only [World.size_drew] at hz1
    try simp only [World.size_setCell] at hz1
    try simp only [World.size_alloc] at hz1
    have hz1_0 : w.heap.size < w1.heap.size := by omega
    have hz1_1 : w.heap.size + 1 < w1.heap.size := by omega
    clear hz1
    have k1 : Below w.heap.size w w1 := by
      refine Below.trans ?_ (hb1.mono ?_)
      · go_grown
      · go_size
    have hl1 : w.heap.size ≤ w1.heap.size := k1.size
    clear hb1
    go_wp2
    go_returns
    exact ⟨rfl, by go_grown⟩
/-- How two texts stand, as the law asks it. -/
theorem sameWay (x y : ByteArray) (w : World) : Calls Try.prog 19 #[.string x, .string y] w fun e w' => e = .returned (.int .i64 (cmpB x.data.toList y.data.toList)) ∧ w' = w := by
  rcases cmpB_cases x.data.toList y.data.toList with h | h | h
  · have e1 := text_lt h
    rw [h]
    clear h
    go_enter Try.func19, Try.ntmps19
    go_wp2
    go_returns
    exact ⟨rfl, rfl⟩
  · have e1 := text_ge (a := x) (b := y) (by rw [h]; decide)
    have e2 : x = y := by
      have := cmpB_zero h
      cases x; cases y; simp at this; simp [this]
    subst e2
    rw [h]
    clear h
    go_enter Try.func19, Try.ntmps19
    go_wp2
    go_returns
    exact ⟨rfl, rfl⟩
  · have e1 := text_ge (a := x) (b := y) (by rw [h]; decide)
    have e2 := text_ne (a := x) (b := y) (by rw [h]; decide)
    rw [h]
    clear h
    go_enter Try.func19, Try.ntmps19
    go_wp2
    go_returns
    exact ⟨rfl, rfl⟩
end Go.Proofs.Ytolkiofdbdjfkaa
