/- What is read where a value's bytes stand, in plain mathematics. -/
import Derived.Test.YtolkiofdbdjfkaaSpecBytes
namespace Go.Proofs.Ytolkiofdbdjfkaa
open Go.ChangeShapes Go.WideShapes Go.ChangeAt Go.RowKit Go.Deep
set_option linter.unusedVariables false
attribute [local go_sem ↓] Go.wp_at_zero Go.wp_at_succ

/-- Good bytes of a value stand at the front. -/
def Stands (L : List UInt8) (v : VV) : Prop := GoodV v ∧ ∃ r, L = bytesL v ++ r
/-- A value that is the one to be read, if there is one. -/
def Cand (L : List UInt8) (u : VV) : Prop := ∀ v, Stands L v → u = v
theorem stands_one {L : List UInt8} {u v : VV} (hu : Stands L u) (hv : Stands L v) : u = v := by
  obtain ⟨gu, r, eu⟩ := hu
  obtain ⟨gv, q, ev⟩ := hv
  exact (bytes_free gu gv (eu.symm.trans ev)).1
theorem bytes_head {v : VV} (h : GoodV v) {c : UInt8} {r x : List UInt8} (e : c :: x = bytesL v ++ r) : (c.toNat : Int) = v.k := by
  obtain ⟨q, eq, h1, h2⟩ := bytesL_head h
  rw [eq, List.cons_append, List.cons.injEq] at e
  rw [e.1, UInt8.toNat_ofNat']
  omega
theorem good_1 {v : VV} (h : GoodV v) (hk : v.k = 1) : v = ⟨1, 0, ByteArray.empty⟩ := by
  have h' : v.n = 0 ∧ v.t = ByteArray.empty := by
    rcases h with ⟨h1, h2, h3⟩ | ⟨h1, h2, h3⟩ | ⟨h1, h2, h3⟩ | ⟨h1, h2, h3⟩ <;> first | omega | skip
    exact ⟨h2, h3⟩
  obtain ⟨k, n, t⟩ := v
  simp only [] at hk h'
  rw [hk, h'.1, h'.2]
theorem good_2 {v : VV} (h : GoodV v) (hk : v.k = 2) : (0 ≤ v.n ∧ v.n ≤ 1) ∧ v.t = ByteArray.empty := by
  rcases h with ⟨h1, h2, h3⟩ | ⟨h1, h2, h3⟩ | ⟨h1, h2, h3⟩ | ⟨h1, h2, h3⟩ <;> first | omega | skip
  exact ⟨h2, h3⟩
theorem good_3 {v : VV} (h : GoodV v) (hk : v.k = 3) : (-1000000000 ≤ v.n ∧ v.n ≤ 1000000000) ∧ v.t = ByteArray.empty := by
  rcases h with ⟨h1, h2, h3⟩ | ⟨h1, h2, h3⟩ | ⟨h1, h2, h3⟩ | ⟨h1, h2, h3⟩ <;> first | omega | skip
  exact ⟨h2, h3⟩
theorem good_4 {v : VV} (h : GoodV v) (hk : v.k = 4) : v.n = 0 ∧ v.t.size ≤ 12 := by
  rcases h with ⟨h1, h2, h3⟩ | ⟨h1, h2, h3⟩ | ⟨h1, h2, h3⟩ | ⟨h1, h2, h3⟩ <;> omega
theorem cand_2 (x : UInt8) (r : List UInt8) : Cand (2 :: x :: r) ⟨2, (x.toNat : Int), ByteArray.empty⟩ := by
  rintro v ⟨gv, q, e⟩
  have hk := (bytes_head gv e).symm
  have hk2 : v.k = 2 := hk
  obtain ⟨hn, ht⟩ := good_2 gv hk2
  rw [bytesL_2 hk2] at e
  simp only [List.cons_append, List.nil_append, List.cons.injEq] at e
  obtain ⟨_, e2, _⟩ := e
  obtain ⟨k, n, t⟩ := v
  simp only [] at hk2 hn ht e2
  subst hk2
  have : (x.toNat : Int) = n := by rw [e2, UInt8.toNat_ofNat']; omega
  rw [this, ht]
theorem cand_3 (a b c d : UInt8) (r : List UInt8) : Cand (3 :: a :: b :: c :: d :: r) ⟨3, (a.toNat : Int) * 16777216 + (b.toNat : Int) * 65536 + (c.toNat : Int) * 256 + (d.toNat : Int) - 1000000000, ByteArray.empty⟩ := by
  rintro v ⟨gv, q, e⟩
  have hk2 : v.k = 3 := (bytes_head gv e).symm
  obtain ⟨hn, ht⟩ := good_3 gv hk2
  rw [bytesL_3 hk2] at e
  simp only [be4, List.cons_append, List.nil_append, List.cons.injEq] at e
  obtain ⟨_, e1, e2, e3, e4, _⟩ := e
  obtain ⟨k, n, t⟩ := v
  simp only [] at hk2 hn ht e1 e2 e3 e4
  subst hk2
  have f1 : a.toNat = (n + 1000000000).toNat / 16777216 % 256 := by rw [e1, UInt8.toNat_ofNat']
  have f2 : b.toNat = (n + 1000000000).toNat / 65536 % 256 := by rw [e2, UInt8.toNat_ofNat']
  have f3 : c.toNat = (n + 1000000000).toNat / 256 % 256 := by rw [e3, UInt8.toNat_ofNat']
  have f4 : d.toNat = (n + 1000000000).toNat % 256 := by rw [e4, UInt8.toNat_ofNat']
  have : (a.toNat : Int) * 16777216 + (b.toNat : Int) * 65536 + (c.toNat : Int) * 256 + (d.toNat : Int) - 1000000000 = n := by omega
  rw [this, ht]
/-- What is neither of these is a value without more, or none. -/
theorem cand_0 (c : UInt8) (x : List UInt8) (h2 : c.toNat = 2 → x = []) (h3 : c.toNat = 3 → x.length ≤ 3) (h4 : c.toNat ≠ 4) : Cand (c :: x) ⟨(c.toNat : Int), 0, ByteArray.empty⟩ := by
  rintro v ⟨gv, q, e⟩
  have hk := bytes_head gv e
  obtain ⟨_, _, g1, g2⟩ := bytesL_head gv
  have : v.k = 1 ∨ v.k = 2 ∨ v.k = 3 ∨ v.k = 4 := by omega
  rcases this with g | g | g | g
  · rw [good_1 gv g, hk, g]
  · have hx := h2 (by omega)
    subst hx
    rw [bytesL_2 g] at e
    simp at e
  · have hx := h3 (by omega)
    rw [bytesL_3 g] at e
    have := congrArg List.length e
    simp [be4] at this
    omega
  · exact absurd (by omega) h4
theorem esc_one (t : List UInt8) : 2 ≤ (esc t).length := by
  induction t with
  | nil => decide
  | cons c r ih => by_cases h : c = 0 <;> simp [esc, h] <;> omega
/-- What the loop over a text's bytes knows: b is read, i bytes are gone. -/
def Gone (T : List UInt8) (b : List UInt8) (i : Nat) : Prop := ∀ txt r, T = esc txt ++ r → ∃ rest, txt = b ++ rest ∧ T.drop i = esc rest ++ r
theorem gone_0 (T : List UInt8) : Gone T [] 0 := fun txt r e => ⟨txt, rfl, by simpa using e⟩
theorem gone_step {T b : List UInt8} {i : Nat} (h : Gone T b i) {c d : UInt8} {q : List UInt8} (hd : T.drop i = c :: d :: q) (hn : ¬ (c = 0 ∧ d = 0)) : Gone T (b ++ [c]) (if c = 0 then i + 2 else i + 1) := by
  intro txt r e
  obtain ⟨rest, e1, e2⟩ := h txt r e
  rw [hd] at e2
  cases rest with
  | nil =>
    simp only [esc, List.cons_append, List.nil_append, List.cons.injEq] at e2
    exact absurd ⟨e2.1, e2.2.1⟩ hn
  | cons x rest =>
    by_cases hx : x = 0
    · subst hx
      simp only [esc, if_true, List.cons_append, List.cons.injEq] at e2
      refine ⟨rest, by rw [e1, e2.1]; simp, ?_⟩
      rw [if_pos e2.1, ← List.drop_drop, hd]
      exact e2.2.2
    · simp only [esc, if_neg hx, List.cons_append, List.cons.injEq] at e2
      have hc : c ≠ 0 := by rw [e2.1]; exact hx
      refine ⟨rest, by rw [e1, e2.1]; simp, ?_⟩
      rw [if_neg hc, ← List.drop_drop, hd]
      exact e2.2
theorem gone_end {T b : List UInt8} {i : Nat} (h : Gone T b i) (hz : T.length ≤ i + 1 ∨ ∃ q, T.drop i = 0 :: 0 :: q) (txt r : List UInt8) (e : T = esc txt ++ r) : txt = b := by
  obtain ⟨rest, e1, e2⟩ := h txt r e
  cases rest with
  | nil => simpa using e1
  | cons x rest =>
    exfalso
    rcases hz with hz | ⟨q, hq⟩
    · have h1 := congrArg List.length e2
      have h2 := esc_one (x :: rest)
      simp only [List.length_drop, List.length_append] at h1
      omega
    · rw [hq] at e2
      by_cases hx : x = 0
      · subst hx
        simp only [esc, if_true, List.cons_append, List.cons.injEq] at e2
        exact absurd e2.2.1 (by decide)
      · simp only [esc, if_neg hx, List.cons_append, List.cons.injEq] at e2
        exact hx e2.1.symm
theorem cand_4 {T b : List UInt8} {i : Nat} (h : Gone T b i) (hz : T.length ≤ i + 1 ∨ ∃ q, T.drop i = 0 :: 0 :: q) : Cand (4 :: T) ⟨4, 0, ⟨b.toArray⟩⟩ := by
  rintro v ⟨gv, q, e⟩
  have hk2 : v.k = 4 := (bytes_head gv e).symm
  obtain ⟨hn, ht⟩ := good_4 gv hk2
  rw [bytesL_4 hk2] at e
  simp only [List.cons_append, List.cons.injEq, true_and] at e
  have := gone_end h hz _ _ e
  obtain ⟨k, n, t⟩ := v
  simp only [] at hk2 hn this
  subst hk2
  subst hn
  have e2 : t = ⟨b.toArray⟩ := by
    cases t with
    | mk d => cases d; simp at this; simp [this]
  rw [e2]

/-- What is told where a value is asked for at a place. -/
def Told (s : ByteArray) (a : Nat) (e : Ending) : Prop :=
  (∃ v, Stands (s.data.toList.drop a) v ∧ e = .returned (.tuple #[encV v, .int .i64 ((a : Int) + ((bytesV v).size : Int))])) ∨ ((∀ v, ¬ Stands (s.data.toList.drop a) v) ∧ e = .returned (.tuple #[.agg #[.int .i64 0, .int .i64 0, .string ⟨#[]⟩], .int .i64 (-1)]))
theorem wrapB (c : UInt8) : wrap64 (c.toNat : Int) = (c.toNat : Int) := by
  have := c.toNat_lt
  unfold wrap64
  omega
theorem drop_cons (s : ByteArray) (a : Nat) (h : a < s.size) : s.data.toList.drop a = s[a] :: s.data.toList.drop (a + 1) := by
  have h' : a < s.data.toList.length := by simpa using h
  rw [List.drop_eq_getElem_cons h']
  rfl
theorem extract_list (s : ByteArray) (i j : Nat) : (s.extract i j).data.toList = (s.data.toList.drop i).take (j - i) := by
  simp [ByteArray.data_extract, Array.toList_extract, List.extract_eq_take_drop]
theorem bytesV_size (v : VV) : (bytesV v).size = (bytesL v).length := by simp [bytesV, ByteArray.size]
/-- Where the bytes stand, the piece is the value's bytes. -/
theorem stand_extract {s : ByteArray} {a : Nat} {v : VV} {r : List UInt8} (ha : a < s.size) (h : s.data.toList.drop a = bytesL v ++ r) : a + (bytesV v).size ≤ s.size ∧ s.extract a (a + (bytesV v).size) = bytesV v := by
  have hl := congrArg List.length h
  simp only [List.length_drop, List.length_append] at hl
  have hz : s.data.toList.length = s.size := by simp
  rw [bytesV_size]
  refine ⟨by omega, ?_⟩
  have e := extract_list s a (a + (bytesL v).length)
  rw [h, show a + (bytesL v).length - a = (bytesL v).length from by omega, List.take_left] at e
  have : ∀ (x : ByteArray), x.data.toList = bytesL v → x = bytesV v := by
    intro x hx
    cases x with
    | mk d => cases d with
      | mk l => simp at hx; simp [bytesV, hx]
  exact this _ e
theorem no_stand {s : ByteArray} {a : Nat} {v : VV} (h : ¬ ∃ r, s.data.toList.drop a = bytesL v ++ r) (hle : a + (bytesV v).size ≤ s.size) : ((s.extract a (a + (bytesV v).size)).toList == (bytesV v).toList) = false := by
  apply beq_false_of_ne
  intro e
  rw [ByteArray.toList_eq, ByteArray.toList_eq, extract_list, bytesV_size, show a + (bytesL v).length - a = (bytesL v).length from by omega] at e
  refine h ⟨(s.data.toList.drop a).drop (bytesL v).length, ?_⟩
  have : (bytesV v).data.toList = bytesL v := by simp [bytesV]
  rw [this] at e
  conv => lhs; rw [← List.take_append_drop (bytesL v).length (s.data.toList.drop a), e]
theorem byteLt (c : UInt8) : 0 ≤ (c.toNat : Int) ∧ (c.toNat : Int) ≤ 255 := by have := c.toNat_lt; omega
/-- What the program's loop over a text knows: b is read, the i bytes behind it are just its bytes. -/
def Kept (T b : List UInt8) (i : Nat) : Prop := i = (escP b).length ∧ T = escP b ++ T.drop i
theorem kept_0 (T : List UInt8) : Kept T [] 0 := ⟨rfl, by simp [escP]⟩
theorem kept_one {T b q : List UInt8} {i : Nat} {c : UInt8} (h : Kept T b i) (hd : T.drop i = c :: q) (hc : c ≠ 0) : Kept T (b ++ [c]) (i + 1) := by
  obtain ⟨h1, h2⟩ := h
  have e : escP (b ++ [c]) = escP b ++ [c] := by rw [escP_append]; simp [escP, hc]
  refine ⟨by rw [e]; simp [h1], ?_⟩
  rw [e, ← List.drop_drop, hd, List.append_assoc]
  rw [hd] at h2
  exact h2
theorem kept_two {T b q : List UInt8} {i : Nat} (h : Kept T b i) (hd : T.drop i = 0 :: 255 :: q) : Kept T (b ++ [0]) (i + 2) := by
  obtain ⟨h1, h2⟩ := h
  have e : escP (b ++ [0]) = escP b ++ [0, 255] := by rw [escP_append]; simp [escP]
  refine ⟨by rw [e]; simp [h1], ?_⟩
  rw [e, ← List.drop_drop, hd, List.append_assoc]
  rw [hd] at h2
  exact h2
theorem kept_end {T b q : List UInt8} {i : Nat} (h : Kept T b i) (hd : T.drop i = 0 :: 0 :: q) : T = esc b ++ q ∧ (esc b).length = i + 2 := by
  obtain ⟨h1, h2⟩ := h
  rw [hd] at h2
  refine ⟨by rw [esc_P, List.append_assoc]; exact h2, by rw [esc_P]; simp [h1]⟩
/-- Where only one byte is left there is no text. -/
theorem gone_short {T b : List UInt8} {i : Nat} (h : Gone T b i) (hz : T.length ≤ i + 1) (txt r : List UInt8) : T ≠ esc txt ++ r := by
  intro e
  obtain ⟨rest, e1, e2⟩ := h txt r e
  have h1 := congrArg List.length e2
  have h2 := esc_one rest
  simp only [List.length_drop, List.length_append] at h1
  omega
/-- Where a byte 0 is followed by neither 0 nor 255 there is no text. -/
theorem gone_bad {T b q : List UInt8} {i : Nat} {d : UInt8} (h : Gone T b i) (hd : T.drop i = 0 :: d :: q) (h0 : d ≠ 0) (h255 : d ≠ 255) (txt r : List UInt8) : T ≠ esc txt ++ r := by
  intro e
  obtain ⟨rest, e1, e2⟩ := h txt r e
  rw [hd] at e2
  cases rest with
  | nil =>
    simp only [esc, List.cons_append, List.nil_append, List.cons.injEq] at e2
    exact h0 e2.2.1
  | cons x rest =>
    by_cases hx : x = 0
    · subst hx
      simp only [esc, if_true, List.cons_append, List.cons.injEq] at e2
      exact h255 e2.2.1
    · simp only [esc, if_neg hx, List.cons_append, List.cons.injEq] at e2
      exact hx e2.1.symm
end Go.Proofs.Ytolkiofdbdjfkaa
