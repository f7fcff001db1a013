/- Values in order, in plain mathematics: good values, their bytes, how two of them stand, rows, beginnings. Of the program only the order of texts is named. -/
import Derived.Test.YtolkiofdbdjfkaaMix
namespace Go.Proofs.Ytolkiofdbdjfkaa
open Go.Op (bytesLess)
set_option linter.unusedVariables false

structure VV where
  k : Int
  n : Int
  t : ByteArray
/-- A good value. -/
def GoodV (v : VV) : Prop :=
  (v.k = 1 ∧ v.n = 0 ∧ v.t = ByteArray.empty) ∨ (v.k = 2 ∧ (0 ≤ v.n ∧ v.n ≤ 1) ∧ v.t = ByteArray.empty) ∨ (v.k = 3 ∧ (-1000000000 ≤ v.n ∧ v.n ≤ 1000000000) ∧ v.t = ByteArray.empty) ∨ (v.k = 4 ∧ v.n = 0 ∧ v.t.size ≤ 12)
def be4 (m : Nat) : List UInt8 := [UInt8.ofNat (m / 16777216), UInt8.ofNat (m / 65536), UInt8.ofNat (m / 256), UInt8.ofNat m]
/-- The bytes of a text, each 0 doubled, and its end. -/
def esc : List UInt8 → List UInt8
  | [] => [0, 0]
  | c :: r => if c = 0 then 0 :: 255 :: esc r else c :: esc r
def bytesL (v : VV) : List UInt8 :=
  if v.k = 1 then [1] else if v.k = 2 then [2, UInt8.ofNat v.n.toNat] else if v.k = 3 then 3 :: be4 (v.n + 1000000000).toNat else 4 :: esc v.t.data.toList
def sgn (x y : Int) : Int := if x < y then -1 else if y < x then 1 else 0
/-- How two texts stand. -/
def cmpB : List UInt8 → List UInt8 → Int
  | [], [] => 0
  | [], _ :: _ => -1
  | _ :: _, [] => 1
  | a :: x, b :: y => if a < b then -1 else if b < a then 1 else cmpB x y
def cmpV (a b : VV) : Int := if a.k ≠ b.k then sgn a.k b.k else if a.n ≠ b.n then sgn a.n b.n else cmpB a.t.data.toList b.t.data.toList

theorem u8_tri (a b : UInt8) : a < b ∨ a = b ∨ b < a := by
  rcases Nat.lt_trichotomy a.toNat b.toNat with h | h | h
  · exact .inl (UInt8.lt_iff_toNat_lt.2 h)
  · exact .inr (.inl (UInt8.toNat_inj.1 h))
  · exact .inr (.inr (UInt8.lt_iff_toNat_lt.2 h))
theorem u8_irr (a : UInt8) : ¬ a < a := fun h => Nat.lt_irrefl _ (UInt8.lt_iff_toNat_lt.1 h)
theorem u8_asym {a b : UInt8} (h : a < b) : ¬ b < a := fun g => Nat.lt_asymm (UInt8.lt_iff_toNat_lt.1 h) (UInt8.lt_iff_toNat_lt.1 g)
theorem cmpB_same (a : UInt8) (x y : List UInt8) : cmpB (a :: x) (a :: y) = cmpB x y := by simp [cmpB]
theorem cmpB_lt {a b : UInt8} (h : a < b) (x y : List UInt8) : cmpB (a :: x) (b :: y) = -1 := by simp [cmpB, h]
theorem cmpB_gt {a b : UInt8} (h : b < a) (x y : List UInt8) : cmpB (a :: x) (b :: y) = 1 := by simp [cmpB, h, u8_asym h]
theorem cmpB_refl : ∀ x, cmpB x x = 0
  | [] => rfl
  | a :: x => by rw [cmpB_same]; exact cmpB_refl x
theorem cmpB_zero : ∀ {x y : List UInt8}, cmpB x y = 0 → x = y
  | [], [], _ => rfl
  | [], _ :: _, h => by simp [cmpB] at h
  | _ :: _, [], h => by simp [cmpB] at h
  | a :: x, b :: y, h => by
    rcases u8_tri a b with g | g | g
    · rw [cmpB_lt g] at h; simp at h
    · subst g; rw [cmpB_same] at h; rw [cmpB_zero h]
    · rw [cmpB_gt g] at h; simp at h
theorem cmpB_neg : ∀ (x y : List UInt8), cmpB y x = - cmpB x y
  | [], [] => rfl
  | [], _ :: _ => rfl
  | _ :: _, [] => rfl
  | a :: x, b :: y => by
    rcases u8_tri a b with g | g | g
    · rw [cmpB_lt g, cmpB_gt g]; rfl
    · subst g; rw [cmpB_same, cmpB_same]; exact cmpB_neg x y
    · rw [cmpB_gt g, cmpB_lt g]
theorem cmpB_cases (x y : List UInt8) : cmpB x y = -1 ∨ cmpB x y = 0 ∨ cmpB x y = 1 := by
  induction x generalizing y with
  | nil => cases y with
    | nil => exact .inr (.inl rfl)
    | cons b y => exact .inl rfl
  | cons a x ih => cases y with
    | nil => exact .inr (.inr rfl)
    | cons b y =>
      rcases u8_tri a b with g | g | g
      · exact .inl (cmpB_lt g _ _)
      · subst g; rw [cmpB_same]; exact ih y
      · exact .inr (.inr (cmpB_gt g _ _))
/-- The program's own order of texts. -/
theorem less_cmp : ∀ (x y : List UInt8), bytesLess x y = decide (cmpB x y = -1)
  | [], [] => rfl
  | [], _ :: _ => rfl
  | _ :: _, [] => rfl
  | a :: x, b :: y => by
    rcases u8_tri a b with g | g | g
    · rw [cmpB_lt g]; simp [bytesLess, g]
    · subst g; rw [cmpB_same, ← less_cmp x y]; simp [bytesLess]
    · have h : ¬ a = b := fun e => u8_irr b (by rw [e] at g; exact g)
      rw [cmpB_gt g]; simp [bytesLess, u8_asym g, h]
theorem cmpB_pre (p x y : List UInt8) : cmpB (p ++ x) (p ++ y) = cmpB x y := by
  induction p with
  | nil => rfl
  | cons a p ih => simp only [List.cons_append]; rw [cmpB_same]; exact ih

theorem ofNat_lt (a b : Nat) : UInt8.ofNat a < UInt8.ofNat b ↔ a % 256 < b % 256 := by
  rw [UInt8.lt_iff_toNat_lt]; simp
/-- Numbers of four bytes stand as their bytes do. -/
theorem cmp_be4 (a b : Nat) (ha : a < 4294967296) (hb : b < 4294967296) (x y : List UInt8) : cmpB (be4 a ++ x) (be4 b ++ y) = if a < b then -1 else if b < a then 1 else cmpB x y := by
  simp only [be4, List.cons_append, List.nil_append, cmpB, ofNat_lt]
  repeat' split
  all_goals first | rfl | omega
theorem esc_ne (t : List UInt8) : ∃ c r, esc t = c :: r := by
  cases t with
  | nil => exact ⟨_, _, rfl⟩
  | cons c r => by_cases h : c = 0 <;> simp [esc, h]
theorem zero_lt_of {d : UInt8} (h : d ≠ 0) : (0 : UInt8) < d := by
  rw [UInt8.lt_iff_toNat_lt]
  have : d.toNat ≠ 0 := fun e => h (UInt8.toNat_inj.1 e)
  show 0 < d.toNat
  omega
/-- Texts stand as their doubled bytes do. -/
theorem cmp_esc (s t : List UInt8) (x y : List UInt8) : cmpB (esc s ++ x) (esc t ++ y) = if cmpB s t = 0 then cmpB x y else cmpB s t := by
  induction s generalizing t with
  | nil => cases t with
    | nil => simp [esc, cmpB]
    | cons d t =>
      by_cases hd : d = 0
      · subst hd
        simp only [esc, if_true, List.cons_append, List.nil_append]
        rw [cmpB_same, cmpB_lt (by decide)]
        simp [cmpB]
      · simp only [esc, if_neg hd, List.cons_append, List.nil_append]
        rw [cmpB_lt (zero_lt_of hd)]
        simp [cmpB]
  | cons c s ih => cases t with
    | nil =>
      by_cases hc : c = 0
      · subst hc
        simp only [esc, if_true, List.cons_append, List.nil_append]
        rw [cmpB_same, cmpB_gt (by decide)]
        simp [cmpB]
      · simp only [esc, if_neg hc, List.cons_append, List.nil_append]
        rw [cmpB_gt (zero_lt_of hc)]
        simp [cmpB]
    | cons d t =>
      by_cases hc : c = 0
      · subst hc
        by_cases hd : d = 0
        · subst hd
          simp only [esc, if_true, List.cons_append]
          rw [cmpB_same, cmpB_same, cmpB_same]
          exact ih t
        · simp only [esc, if_true, if_neg hd, List.cons_append]
          rw [cmpB_lt (zero_lt_of hd), cmpB_lt (zero_lt_of hd)]
          rfl
      · by_cases hd : d = 0
        · subst hd
          simp only [esc, if_true, if_neg hc, List.cons_append]
          rw [cmpB_gt (zero_lt_of hc), cmpB_gt (zero_lt_of hc)]
          rfl
        · simp only [esc, if_neg hc, if_neg hd, List.cons_append]
          rcases u8_tri c d with g | g | g
          · rw [cmpB_lt g, cmpB_lt g]; rfl
          · subst g; rw [cmpB_same, cmpB_same]; exact ih t
          · rw [cmpB_gt g, cmpB_gt g]; rfl
theorem bytesL_1 {v : VV} (h : v.k = 1) : bytesL v = [1] := by simp [bytesL, h]
theorem bytesL_2 {v : VV} (h : v.k = 2) : bytesL v = [2, UInt8.ofNat v.n.toNat] := by simp [bytesL, h]
theorem bytesL_3 {v : VV} (h : v.k = 3) : bytesL v = 3 :: be4 (v.n + 1000000000).toNat := by simp [bytesL, h]
theorem bytesL_4 {v : VV} (h : v.k = 4) : bytesL v = 4 :: esc v.t.data.toList := by simp [bytesL, h]
/-- A good value's bytes begin with its kind. -/
theorem bytesL_head {v : VV} (h : GoodV v) : ∃ r, bytesL v = UInt8.ofNat v.k.toNat :: r ∧ 1 ≤ v.k ∧ v.k ≤ 4 := by
  rcases h with ⟨h, _⟩ | ⟨h, _⟩ | ⟨h, _⟩ | ⟨h, _⟩
  · exact ⟨_, by rw [bytesL_1 h, h]; rfl, by omega, by omega⟩
  · exact ⟨_, by rw [bytesL_2 h, h]; rfl, by omega, by omega⟩
  · exact ⟨_, by rw [bytesL_3 h, h]; rfl, by omega, by omega⟩
  · exact ⟨_, by rw [bytesL_4 h, h]; rfl, by omega, by omega⟩
theorem cmp_kinds {a b : VV} (ha : GoodV a) (hb : GoodV b) (h : a.k ≠ b.k) (x y : List UInt8) : cmpB (bytesL a ++ x) (bytesL b ++ y) = sgn a.k b.k := by
  obtain ⟨r, er, a1, a2⟩ := bytesL_head ha
  obtain ⟨s, es, b1, b2⟩ := bytesL_head hb
  rw [er, es]
  simp only [List.cons_append, cmpB, ofNat_lt, sgn]
  repeat' split
  all_goals first | rfl | omega
/-- Values stand as their bytes do, whatever follows; alike ones leave it to what follows. -/
theorem cmp_bytes {a b : VV} (ha : GoodV a) (hb : GoodV b) (x y : List UInt8) : cmpB (bytesL a ++ x) (bytesL b ++ y) = if cmpV a b = 0 then cmpB x y else cmpV a b := by
  by_cases hk : a.k = b.k
  · have hV : cmpV a b = if a.n ≠ b.n then sgn a.n b.n else cmpB a.t.data.toList b.t.data.toList := by simp [cmpV, hk]
    rw [hV]
    rcases ha with ⟨h1, h2, h3⟩ | ⟨h1, h2, h3⟩ | ⟨h1, h2, h3⟩ | ⟨h1, h2, h3⟩
    · rcases hb with ⟨g1, g2, g3⟩ | ⟨g1, g2, g3⟩ | ⟨g1, g2, g3⟩ | ⟨g1, g2, g3⟩ <;> first | omega | skip
      rw [bytesL_1 h1, bytesL_1 g1, h2, g2, h3, g3]
      simp [cmpB_same, cmpB_refl]
    · rcases hb with ⟨g1, g2, g3⟩ | ⟨g1, g2, g3⟩ | ⟨g1, g2, g3⟩ | ⟨g1, g2, g3⟩ <;> first | omega | skip
      rw [bytesL_2 h1, bytesL_2 g1, h3, g3]
      simp only [List.cons_append, List.nil_append]
      rw [cmpB_same, cmpB_refl]
      simp only [cmpB, ofNat_lt, sgn, ne_eq, ite_not]
      by_cases e : a.n = b.n
      · simp [e]
      · simp only [if_neg e]
        repeat' split
        all_goals first | rfl | omega
    · rcases hb with ⟨g1, g2, g3⟩ | ⟨g1, g2, g3⟩ | ⟨g1, g2, g3⟩ | ⟨g1, g2, g3⟩ <;> first | omega | skip
      rw [bytesL_3 h1, bytesL_3 g1, h3, g3]
      simp only [List.cons_append]
      rw [cmpB_same, cmpB_refl, cmp_be4 _ _ (by omega) (by omega)]
      simp only [sgn, ne_eq, ite_not]
      by_cases e : a.n = b.n
      · simp [e]
      · simp only [if_neg e]
        repeat' split
        all_goals first | rfl | omega
    · rcases hb with ⟨g1, g2, g3⟩ | ⟨g1, g2, g3⟩ | ⟨g1, g2, g3⟩ | ⟨g1, g2, g3⟩ <;> first | omega | skip
      rw [bytesL_4 h1, bytesL_4 g1, h2, g2]
      simp only [List.cons_append, ne_eq, not_true_eq_false, if_false]
      rw [cmpB_same, cmp_esc]
  · rw [cmp_kinds ha hb hk]
    have hV : cmpV a b = sgn a.k b.k := by simp [cmpV, hk]
    have hs : sgn a.k b.k ≠ 0 := by unfold sgn; repeat' split
                                    all_goals omega
    rw [hV, if_neg hs]
theorem cmp_value {a b : VV} (ha : GoodV a) (hb : GoodV b) : cmpB (bytesL a) (bytesL b) = cmpV a b := by
  have h := cmp_bytes ha hb [] []
  simp only [List.append_nil] at h
  rw [h]
  by_cases e : cmpV a b = 0
  · rw [if_pos e, e]; rfl
  · rw [if_neg e]
theorem cmpV_eq {a b : VV} (h : cmpV a b = 0) : a = b := by
  obtain ⟨k, n, t⟩ := a
  obtain ⟨k', n', t'⟩ := b
  unfold cmpV at h
  by_cases hk : k = k'
  · subst hk
    by_cases hn : n = n'
    · subst hn
      simp only [ne_eq, not_true_eq_false, if_false] at h
      have e := cmpB_zero h
      have e2 : t = t' := by cases t; cases t'; simp at e; simp [e]
      rw [e2]
    · simp only [ne_eq, not_true_eq_false, if_false, hn, not_false_eq_true, if_true, sgn] at h
      split at h
      · simp at h
      · split at h
        · simp at h
        · omega
  · simp only [ne_eq, hk, not_false_eq_true, if_true, sgn] at h
    split at h
    · simp at h
    · split at h
      · simp at h
      · omega
theorem cmpV_refl (a : VV) : cmpV a a = 0 := by simp [cmpV, cmpB_refl]
/-- No value's bytes are another one's beginning. -/
theorem bytes_free {a b : VV} (ha : GoodV a) (hb : GoodV b) {x y : List UInt8} (h : bytesL a ++ x = bytesL b ++ y) : a = b ∧ x = y := by
  have e := cmp_bytes ha hb x y
  rw [h, cmpB_refl] at e
  by_cases hv : cmpV a b = 0
  · rw [if_pos hv] at e
    exact ⟨cmpV_eq hv, cmpB_zero e.symm⟩
  · rw [if_neg hv] at e
    exact absurd e.symm hv
theorem cmpV_neg {a b : VV} (ha : GoodV a) (hb : GoodV b) : cmpV b a = - cmpV a b := by rw [← cmp_value ha hb, ← cmp_value hb ha]; exact cmpB_neg _ _
theorem cmpV_cases {a b : VV} (ha : GoodV a) (hb : GoodV b) : cmpV a b = -1 ∨ cmpV a b = 0 ∨ cmpV a b = 1 := by rw [← cmp_value ha hb]; exact cmpB_cases _ _

/-- The bytes of a row. -/
def vrowL : List VV → List UInt8
  | [] => []
  | v :: l => bytesL v ++ vrowL l
def cmpR : List VV → List VV → Int
  | [], [] => 0
  | [], _ :: _ => -1
  | _ :: _, [] => 1
  | v :: a, u :: b => if cmpV v u = 0 then cmpR a b else cmpV v u
def AllGood (l : List VV) : Prop := ∀ v ∈ l, GoodV v
theorem AllGood.tail {v : VV} {l : List VV} (h : AllGood (v :: l)) : AllGood l := fun u hu => h u (List.mem_cons_of_mem _ hu)
theorem AllGood.head {v : VV} {l : List VV} (h : AllGood (v :: l)) : GoodV v := h v (List.mem_cons_self)
theorem vrowL_append (a b : List VV) : vrowL (a ++ b) = vrowL a ++ vrowL b := by
  induction a with
  | nil => rfl
  | cons v a ih => simp [vrowL, ih]
theorem vrowL_ne {v : VV} {l : List VV} (h : GoodV v) (x : List UInt8) : ∃ c r, vrowL (v :: l) ++ x = c :: r ∧ c < 255 := by
  obtain ⟨r, er, h1, h2⟩ := bytesL_head h
  refine ⟨UInt8.ofNat v.k.toNat, r ++ vrowL l ++ x, by simp only [vrowL, er, List.cons_append], ?_⟩
  rw [UInt8.lt_iff_toNat_lt]
  show (UInt8.ofNat v.k.toNat).toNat < 255
  simp
  omega
theorem cmp_rows : ∀ {a b : List VV}, AllGood a → AllGood b → cmpB (vrowL a) (vrowL b) = cmpR a b
  | [], [], _, _ => rfl
  | [], u :: b, _, hb => by
    obtain ⟨c, r, e, _⟩ := vrowL_ne (l := b) hb.head []
    rw [List.append_nil] at e
    rw [e]; rfl
  | v :: a, [], ha, _ => by
    obtain ⟨c, r, e, _⟩ := vrowL_ne (l := a) ha.head []
    rw [List.append_nil] at e
    rw [e]; rfl
  | v :: a, u :: b, ha, hb => by
    simp only [vrowL, cmpR]
    rw [cmp_bytes ha.head hb.head, cmp_rows ha.tail hb.tail]
theorem cmpR_eq : ∀ {a b : List VV}, cmpR a b = 0 → a = b
  | [], [], _ => rfl
  | [], _ :: _, h => by simp [cmpR] at h
  | _ :: _, [], h => by simp [cmpR] at h
  | v :: a, u :: b, h => by
    simp only [cmpR] at h
    by_cases e : cmpV v u = 0
    · rw [if_pos e] at h; rw [cmpV_eq e, cmpR_eq h]
    · rw [if_neg e] at h; exact absurd h e
/-- One row's bytes tell the row. -/
theorem row_free : ∀ {a b : List VV}, AllGood a → AllGood b → vrowL a = vrowL b → a = b := fun ha hb h => cmpR_eq (by rw [← cmp_rows ha hb, h]; exact cmpB_refl _)
/-- A row begins with another one. -/
def beginsB : List VV → List VV → Bool
  | [], _ => true
  | _ :: _, [] => false
  | v :: p, u :: b => decide (cmpV v u = 0) && beginsB p b
theorem cmp_after : ∀ {p b : List VV}, AllGood p → AllGood b → (beginsB p b = true → cmpB (vrowL b) (vrowL p ++ [255]) = -1) ∧ (beginsB p b = false → cmpB (vrowL b) (vrowL p) = -1 ∨ cmpB (vrowL b) (vrowL p ++ [255]) = 1) ∧ (beginsB p b = true → cmpB (vrowL b) (vrowL p) ≠ -1)
  | [], [], _, _ => ⟨fun _ => rfl, fun h => by simp [beginsB] at h, fun _ => by decide⟩
  | [], u :: b, _, hb => by
    obtain ⟨c, r, e, hc⟩ := vrowL_ne (l := b) hb.head []
    rw [List.append_nil] at e
    refine ⟨fun _ => ?_, fun h => by simp [beginsB] at h, fun _ => ?_⟩
    · rw [e]; exact cmpB_lt hc _ _
    · rw [e]; simp [vrowL, cmpB]
  | v :: p, [], hp, _ => by
    obtain ⟨c, r, e, _⟩ := vrowL_ne (l := p) hp.head []
    rw [List.append_nil] at e
    refine ⟨fun h => by simp [beginsB] at h, fun _ => .inl ?_, fun h => by simp [beginsB] at h⟩
    rw [e]; rfl
  | v :: p, u :: b, hp, hb => by
    obtain ⟨i1, i2, i3⟩ := cmp_after hp.tail hb.tail
    have hc1 : cmpB (vrowL (u :: b)) (vrowL (v :: p)) = if cmpV u v = 0 then cmpB (vrowL b) (vrowL p) else cmpV u v := by
      simp only [vrowL]; exact cmp_bytes hb.head hp.head _ _
    have hc2 : cmpB (vrowL (u :: b)) (vrowL (v :: p) ++ [255]) = if cmpV u v = 0 then cmpB (vrowL b) (vrowL p ++ [255]) else cmpV u v := by
      simp only [vrowL, List.append_assoc]; exact cmp_bytes hb.head hp.head _ _
    have hn := cmpV_neg hp.head hb.head
    rw [hc1, hc2]
    by_cases e : cmpV v u = 0
    · have e' : cmpV u v = 0 := by rw [hn, e]; rfl
      simp only [beginsB, e, decide_true, Bool.true_and, if_pos e']
      exact ⟨i1, i2, i3⟩
    · have e' : ¬ cmpV u v = 0 := by rw [hn]; omega
      simp only [beginsB, e, decide_false, Bool.false_and, if_neg e']
      refine ⟨fun h => by simp at h, fun _ => ?_, fun h => by simp at h⟩
      rcases cmpV_cases hb.head hp.head with g | g | g
      · exact .inl g
      · exact absurd g e'
      · exact .inr g
end Go.Proofs.Ytolkiofdbdjfkaa
