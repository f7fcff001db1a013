/- A tree of pages, in plain mathematics: nodes with their pairs and kids, the pages read into a node, the pairs in order, leaves equally deep. Of the program only the order of texts is named. -/
import Derived.Test.YtgjcegmjhkehnaaDoorMix
import Derived.Laws.Cover1
namespace Go.Proofs.YtgjcegmjhkehnaaDoor
open Go.Op (bytesLess)
set_option linter.unusedVariables false

/-- Texts in order. -/
def ltT (a b : ByteArray) : Prop := bytesLess a.toList b.toList = true
theorem less_lt : ∀ (x y : List UInt8), bytesLess x y = decide (x < y)
  | [], [] => by simp [bytesLess]
  | [], b :: y => by simp [bytesLess]
  | a :: x, [] => by simp [bytesLess]
  | a :: x, b :: y => by
    rcases Nat.lt_trichotomy a.toNat b.toNat with h | h | h
    · have : a < b := UInt8.lt_iff_toNat_lt.2 h
      simp [bytesLess, this, List.cons_lt_cons_iff]
    · have : a = b := UInt8.toNat_inj.1 h
      subst this
      have hn : ¬ a < a := fun g => Nat.lt_irrefl _ (UInt8.lt_iff_toNat_lt.1 g)
      have := less_lt x y
      simp [bytesLess, hn, this]
    · have h1 : b < a := UInt8.lt_iff_toNat_lt.2 h
      have h2 : ¬ a < b := fun g => Nat.lt_asymm (UInt8.lt_iff_toNat_lt.1 g) h
      have h3 : a ≠ b := fun e => by subst e; exact Nat.lt_irrefl _ h
      simp [bytesLess, h2, h3, List.cons_lt_cons_iff]
theorem ltT_iff (a b : ByteArray) : ltT a b ↔ a.data.toList < b.data.toList := by
  unfold ltT; rw [less_lt, ByteArray.toList_eq, ByteArray.toList_eq]; simp
theorem ltT_irr (a : ByteArray) : ¬ ltT a a := by rw [ltT_iff]; exact List.lt_irrefl _
theorem ltT_trans {a b c : ByteArray} (h : ltT a b) (g : ltT b c) : ltT a c := by rw [ltT_iff] at *; exact List.lt_trans h g
theorem ltT_tri (a b : ByteArray) : ltT a b ∨ a = b ∨ ltT b a := by
  rw [ltT_iff, ltT_iff]
  by_cases h : a.data.toList < b.data.toList
  · exact .inl h
  · by_cases g : b.data.toList < a.data.toList
    · exact .inr (.inr g)
    · refine .inr (.inl ?_)
      have := List.le_antisymm (List.not_lt.1 g) (List.not_lt.1 h)
      cases a; cases b; simp at this; rw [this]
theorem ltT_asymm {a b : ByteArray} (h : ltT a b) : ¬ ltT b a := fun g => ltT_irr _ (ltT_trans h g)
theorem ltT_nil (a : ByteArray) : ltT ByteArray.empty a ↔ a.size ≠ 0 := by
  rw [ltT_iff]
  cases a with
  | mk d =>
    cases d with
    | mk l =>
      cases l with
      | nil => simp [ByteArray.empty, ByteArray.emptyWithCapacity, ByteArray.size]
      | cons x l =>
        simp [ByteArray.size]

abbrev Pr := ByteArray × ByteArray
inductive Nd where
  | mk (prs : List Pr) (kids : List Nd)
instance : Inhabited Nd := ⟨.mk [] []⟩
def Nd.prs : Nd → List Pr | .mk p _ => p
def Nd.kids : Nd → List Nd | .mk _ k => k
theorem Nd.ind {P : Nd → Prop} (h : ∀ p kids, (∀ k ∈ kids, P k) → P (.mk p kids)) (t : Nd) : P t :=
  Nd.rec (motive_1 := P) (motive_2 := fun l => ∀ k ∈ l, P k) (fun p kids ih => h p kids ih) (by simp)
    (fun x l hx hl k hk => by rcases List.mem_cons.1 hk with rfl | hk; exact hx; exact hl k hk) t

mutual
/-- The pairs of a node and of all below it, in order. -/
def allN : Nd → List Pr
  | .mk p kids => interN kids p
def interN : List Nd → List Pr → List Pr
  | [], p => p
  | k :: _, [] => allN k
  | k :: ks, q :: p => allN k ++ q :: interN ks p
end
/-- What comes ahead of kid number i. -/
def preN (p : List Pr) (kids : List Nd) (i : Nat) : List Pr := ((kids.zip p).take i).flatMap fun x => allN x.1 ++ [x.2]
theorem allN_leaf (p : List Pr) : allN (.mk p []) = p := by simp [allN, interN]
theorem preN_zero (p : List Pr) (kids : List Nd) : preN p kids 0 = [] := rfl
theorem preN_succ (p : List Pr) (kids : List Nd) (i : Nat) (h1 : i < p.length) (h2 : i < kids.length) :
    preN p kids (i + 1) = preN p kids i ++ allN (kids.getD i default) ++ [p.getD i default] := by
  unfold preN
  rw [List.take_succ_eq_append_getElem (by simp; omega), List.flatMap_append]
  simp [List.getD, h1, h2]
theorem interN_eq : ∀ (p : List Pr) (kids : List Nd), kids.length = p.length + 1 → interN kids p = preN p kids p.length ++ allN (kids.getD p.length default)
  | [], k :: ks, h => by simp at h; subst h; simp [interN, preN]
  | q :: p, k :: ks, h => by
    have ih := interN_eq p ks (by simpa using h)
    rw [interN, ih]
    simp [preN, List.getD]
  | [], [], h => by simp at h
  | q :: p, [], h => by simp at h
theorem allN_eq (p : List Pr) (kids : List Nd) (h : kids.length = p.length + 1) : allN (.mk p kids) = preN p kids p.length ++ allN (kids.getD p.length default) := by
  rw [allN, interN_eq p kids h]

/-- All leaves at the same depth, kids with two pairs at least. -/
def Even : Nat → Nd → Prop
  | 0, _ => False
  | 1, t => t.kids = []
  | d + 2, t => t.kids ≠ [] ∧ ∀ k ∈ t.kids, Even (d + 1) k ∧ 2 ≤ k.prs.length
theorem Even.pos {d : Nat} {t : Nd} (h : Even d t) : 1 ≤ d := by
  match d, h with
  | 0, h => exact h.elim
  | d + 1, _ => omega
theorem Even.leaf {t : Nd} : Even 1 t ↔ t.kids = [] := by simp [Even]
theorem Even.up {d : Nat} {t : Nd} (hd : 1 ≤ d) : Even (d + 1) t ↔ t.kids ≠ [] ∧ ∀ k ∈ t.kids, Even d k ∧ 2 ≤ k.prs.length := by
  obtain ⟨e, rfl⟩ : ∃ e, d = e + 1 := ⟨d - 1, by omega⟩
  simp [Even]
theorem Even.one : ∀ {d e : Nat} {t : Nd}, Even d t → Even e t → d = e
  | 0, _, _, h, _ => h.elim
  | _, 0, _, _, h => h.elim
  | 1, 1, _, _, _ => rfl
  | 1, e + 2, t, h, g => absurd h g.1
  | d + 2, 1, t, h, g => absurd g h.1
  | d + 2, e + 2, t, h, g => by
    obtain ⟨k, hk⟩ := List.exists_mem_of_ne_nil _ h.1
    have := Even.one (h.2 k hk).1 (g.2 k hk).1
    omega
/-- As many kids as there may be, in all of it; no more than four pairs. -/
inductive Shape : Nd → Prop
  | mk (p : List Pr) (kids : List Nd) : p.length ≤ 4 → (kids = [] ∨ kids.length = p.length + 1) → (∀ k ∈ kids, Shape k) → Shape (.mk p kids)

structure Pg where
  keys : List ByteArray
  vals : List ByteArray
  kids : List Int
instance : Inhabited Pg := ⟨⟨[], [], []⟩⟩
def cntOk (p : Pg) : Prop := p.keys.length ≤ 4 ∧ p.vals.length = p.keys.length ∧ (p.kids = [] ∨ p.kids.length = p.keys.length + 1)
instance (p : Pg) : Decidable (cntOk p) := by unfold cntOk; exact inferInstance
def Pg.prs (p : Pg) : List Pr := p.keys.zip p.vals
theorem Pg.prs_keys {p : Pg} (h : cntOk p) : p.prs.map (·.1) = p.keys := by
  unfold Pg.prs; rw [List.map_fst_zip]; exact Nat.le_of_eq h.2.1.symm
theorem Pg.prs_vals {p : Pg} (h : cntOk p) : p.prs.map (·.2) = p.vals := by
  unfold Pg.prs; rw [List.map_snd_zip]; exact Nat.le_of_eq h.2.1
theorem Pg.prs_len {p : Pg} (h : cntOk p) : p.prs.length = p.keys.length := by
  unfold Pg.prs; simp [h.2.1]
/-- The kids, read one behind the other. -/
def readL (rd : Nat → Option (Nd × Nat)) : List Int → Nat → Option (List Nd × Nat)
  | [], nx => some ([], nx)
  | k :: ks, nx => if k = nx then
      match rd nx with
      | none => none
      | some (t, e) =>
        match readL rd ks e with
        | none => none
        | some (l, e') => some (t :: l, e')
    else none
def readM (pages : List Pg) : Nat → Nat → Option (Nd × Nat)
  | 0, _ => none
  | f + 1, at_ => if at_ < pages.length ∧ cntOk (pages.getD at_ default) then
      match readL (readM pages f) (pages.getD at_ default).kids (at_ + 1) with
      | none => none
      | some (l, e) => some (.mk (pages.getD at_ default).prs l, e)
    else none
theorem readL_len {rd : Nat → Option (Nd × Nat)} : ∀ {c : List Int} {nx : Nat} {l : List Nd} {e : Nat}, readL rd c nx = some (l, e) → l.length = c.length
  | [], nx, l, e, h => by simp [readL] at h; simp [← h.1]
  | k :: ks, nx, l, e, h => by
    unfold readL at h
    split at h
    · split at h
      · simp at h
      · split at h
        · simp at h
        · rename_i hh
          simp at h
          rw [← h.1]; simp [readL_len hh]
    · simp at h
/-- One kid more. -/
theorem readL_snoc {rd : Nat → Option (Nd × Nat)} : ∀ (c : List Int) (k : Int) (nx : Nat), readL rd (c ++ [k]) nx =
    match readL rd c nx with
    | none => none
    | some (l, e) => if k = e then (match rd e with | none => none | some (t, e') => some (l ++ [t], e')) else none
  | [], k, nx => by
    simp only [List.nil_append, readL]
  | a :: c, k, nx => by
    simp only [List.cons_append, readL]
    split
    · cases h : rd nx with
      | none => rfl
      | some x =>
        obtain ⟨t, e⟩ := x
        simp only []
        rw [readL_snoc c k e]
        cases h2 : readL rd c e with
        | none => rfl
        | some y =>
          obtain ⟨l, e2⟩ := y
          simp only []
          by_cases h4 : k = (e2 : Int)
          · rw [if_pos h4, if_pos h4]
            cases h3 : rd e2 with
            | none => rfl
            | some z => rfl
          · rw [if_neg h4, if_neg h4]
    · rfl
theorem readL_take {rd : Nat → Option (Nd × Nat)} {c : List Int} {nx : Nat} {l : List Nd} {e : Nat} (h : readL rd c nx = some (l, e)) : ∀ i, i ≤ c.length → ∃ e', readL rd (c.take i) nx = some (l.take i, e') := by
  intro i hi
  obtain ⟨j, hj⟩ : ∃ j, c.length - i = j := ⟨_, rfl⟩
  induction j generalizing i with
  | zero =>
    have : i = c.length := by omega
    subst this
    rw [List.take_length]
    have := readL_len h
    exact ⟨e, by rw [← this, List.take_length]; exact h⟩
  | succ j ih =>
    obtain ⟨e', he⟩ := ih (i + 1) (by omega) (by omega)
    rw [List.take_succ_eq_append_getElem (by omega), readL_snoc] at he
    split at he
    · simp at he
    · rename_i l2 e2 h2
      split at he
      · split at he
        · simp at he
        · rename_i t e3 h3
          simp at he
          refine ⟨e2, ?_⟩
          have hl := readL_len h
          have h4 := he.1
          rw [List.take_succ_eq_append_getElem (by omega)] at h4
          have := List.append_inj_left' h4 (by simp)
          rw [← this]; exact h2
      · simp at he
theorem readM_some {pages : List Pg} {f a : Nat} {t : Nd} {e : Nat} (h : readM pages f a = some (t, e)) :
    ∃ g l, f = g + 1 ∧ a < pages.length ∧ cntOk (pages.getD a default) ∧ readL (readM pages g) (pages.getD a default).kids (a + 1) = some (l, e) ∧ t = .mk (pages.getD a default).prs l := by
  match f, h with
  | 0, h => simp [readM] at h
  | g + 1, h =>
    unfold readM at h
    split at h
    · rename_i hc
      split at h
      · simp at h
      · rename_i l e' hl
        simp at h
        obtain ⟨rfl, rfl⟩ := h
        exact ⟨g, l, rfl, hc.1, hc.2, hl, rfl⟩
    · simp at h
theorem readL_mem {rd : Nat → Option (Nd × Nat)} : ∀ {c : List Int} {nx : Nat} {l : List Nd} {e : Nat}, readL rd c nx = some (l, e) → ∀ k ∈ l, ∃ a b, rd a = some (k, b)
  | [], nx, l, e, h => by
    simp [readL] at h
    obtain ⟨rfl, rfl⟩ := h
    intro k hk
    simp at hk
  | k :: ks, nx, l, e, h => by
    unfold readL at h
    split at h
    · split at h
      · simp at h
      · rename_i t e1 h1
        split at h
        · simp at h
        · rename_i l2 e2 hh
          simp at h
          rw [← h.1]
          intro x hx
          rcases List.mem_cons.1 hx with rfl | hx
          · exact ⟨_, _, h1⟩
          · exact readL_mem hh x hx
    · simp at h
theorem readM_shape {pages : List Pg} : ∀ {f a : Nat} {t : Nd} {e : Nat}, readM pages f a = some (t, e) → Shape t
  | 0, a, t, e, h => by simp [readM] at h
  | f + 1, a, t, e, h => by
    obtain ⟨g, l, hg, h1, h2, h3, rfl⟩ := readM_some h
    have : g = f := by omega
    subst this
    have hl := readL_len h3
    refine .mk _ _ (by rw [Pg.prs_len h2]; exact h2.1) ?_ (fun k hk => ?_)
    · rw [Pg.prs_len h2]
      rcases h2.2.2 with h4 | h4
      · left; rw [h4] at hl; simpa using hl
      · right; omega
    · obtain ⟨a2, b2, h5⟩ := readL_mem h3 k hk
      exact readM_shape h5
/-- More room changes nothing. -/
theorem readL_mono {rd rd' : Nat → Option (Nd × Nat)} (hr : ∀ a x, rd a = some x → rd' a = some x) : ∀ {c : List Int} {nx : Nat} {y : List Nd × Nat}, readL rd c nx = some y → readL rd' c nx = some y
  | [], nx, y, h => h
  | k :: ks, nx, y, h => by
    unfold readL at h ⊢
    split at h
    · rename_i hk
      rw [if_pos hk]
      split at h
      · simp at h
      · rename_i t e1 h1
        rw [hr _ _ h1]
        split at h
        · simp at h
        · rename_i l2 e2 hh
          simp only []
          rw [readL_mono hr hh]
          exact h
    · simp at h
theorem readM_mono {pages : List Pg} : ∀ {f g a : Nat} {x : Nd × Nat}, f ≤ g → readM pages f a = some x → readM pages g a = some x
  | 0, g, a, x, hfg, h => by simp [readM] at h
  | f + 1, 0, a, x, hfg, h => by omega
  | f + 1, g + 1, a, x, hfg, h => by
    unfold readM at h ⊢
    split at h
    · rename_i hc
      rw [if_pos hc]
      split at h
      · simp at h
      · rename_i l e hl
        rw [readL_mono (fun a x h => readM_mono (by omega : f ≤ g) h) hl]
        exact h
    · simp at h
theorem readL_less {rd rd' : Nat → Option (Nd × Nat)} {Q : Nd → Prop} (hr : ∀ a t b, rd a = some (t, b) → Q t → rd' a = some (t, b)) : ∀ {c : List Int} {nx : Nat} {l : List Nd} {e : Nat}, readL rd c nx = some (l, e) → (∀ k ∈ l, Q k) → readL rd' c nx = some (l, e)
  | [], nx, l, e, h, _ => h
  | k :: ks, nx, l, e, h, hq => by
    unfold readL at h ⊢
    split at h
    · rename_i hk
      rw [if_pos hk]
      split at h
      · simp at h
      · rename_i t e1 h1
        split at h
        · simp at h
        · rename_i l2 e2 hh
          simp at h
          obtain ⟨rfl, rfl⟩ := h
          rw [hr _ _ _ h1 (hq _ (by simp))]
          simp only []
          rw [readL_less hr hh (fun k hk => hq k (by simp [hk]))]
    · simp at h
/-- A node that is d deep is read in d rounds. -/
theorem readM_even {pages : List Pg} : ∀ {d f a : Nat} {t : Nd} {e : Nat}, readM pages f a = some (t, e) → Even d t → readM pages d a = some (t, e)
  | 0, f, a, t, e, h, he => he.elim
  | d + 1, f, a, t, e, h, he => by
    obtain ⟨g, l, rfl, h1, h2, h3, rfl⟩ := readM_some h
    unfold readM
    rw [if_pos ⟨h1, h2⟩]
    match d, he with
    | 0, he =>
      have : l = [] := by simpa [Even, Nd.kids] using he
      subst this
      have hl := readL_len h3
      have : (pages.getD a default).kids = [] := by simpa using hl.symm
      rw [this] at h3 ⊢
      simp [readL] at h3 ⊢
      exact h3
    | d + 1, he =>
      have he' := he.2
      rw [readL_less (Q := fun k => Even (d + 1) k) (fun a t b h he => readM_even h he) h3 (fun k hk => (he' k hk).1)]
/-- How many pairs an even tree has at least. -/
theorem pre_len (p : List Pr) (kids : List Nd) (c : Nat) (hc : ∀ k ∈ kids, c ≤ (allN k).length) : ∀ i, i ≤ p.length → i ≤ kids.length → i * (c + 1) ≤ (preN p kids i).length := by
  intro i
  induction i with
  | zero => intro _ _; simp
  | succ i ih =>
    intro h1 h2
    have := ih (by omega) (by omega)
    rw [preN_succ p kids i (by omega) (by omega)]
    have hk : kids.getD i default ∈ kids := by simp [List.getD, show i < kids.length by omega]
    have := hc _ hk
    simp only [List.length_append, List.length_singleton]
    rw [Nat.succ_mul]; omega
theorem even_len : ∀ {d : Nat} {t : Nd}, Even (d + 1) t → Shape t → 2 ≤ t.prs.length → 2 * 3 ^ d + (3 ^ d - 1) ≤ (allN t).length
  | 0, .mk p kids, h, hs, h2 => by
    have : kids = [] := by simpa [Even, Nd.kids] using h
    subst this
    rw [allN_leaf]; simpa [Nd.prs] using h2
  | d + 1, .mk p kids, h, hs, h2 => by
    cases hs with
    | mk _ _ h4 hk hsk =>
      have he := h.2
      have hne := h.1
      simp only [Nd.kids, Nd.prs] at he hne h2
      rcases hk with hk | hk
      · exact absurd hk hne
      · have hc : ∀ k ∈ kids, 2 * 3 ^ d + (3 ^ d - 1) ≤ (allN k).length := fun k hk => even_len (he k hk).1 (hsk k hk) (he k hk).2
        rw [allN_eq p kids hk]
        have h1 := pre_len p kids _ hc p.length (Nat.le_refl _) (by omega)
        have h3 := hc (kids.getD p.length default) (by simp [List.getD, show p.length < kids.length by omega])
        have h5 : 2 * (2 * 3 ^ d + (3 ^ d - 1) + 1) ≤ p.length * (2 * 3 ^ d + (3 ^ d - 1) + 1) := Nat.mul_le_mul_right _ h2
        have h6 : 1 ≤ 3 ^ d := Nat.one_le_pow _ _ (by omega)
        simp only [List.length_append]
        rw [Nat.pow_succ]
        omega
/-- The whole: one pair at least where it has kids. -/
theorem even_root {d : Nat} {t : Nd} (h : Even (d + 1) t) (hs : Shape t) (h1 : t.kids = [] ∨ 1 ≤ t.prs.length) : d = 0 ∨ 2 * 3 ^ d - 1 ≤ (allN t).length := by
  match d, t, h, hs, h1 with
  | 0, _, _, _, _ => exact .inl rfl
  | d + 1, .mk p kids, h, hs, h1 =>
    right
    cases hs with
    | mk _ _ h4 hk hsk =>
      have he := h.2
      have hne := h.1
      simp only [Nd.kids, Nd.prs] at he hne h1
      rcases hk with hk | hk
      · exact absurd hk hne
      · have h2 : 1 ≤ p.length := by rcases h1 with h1 | h1; exact absurd h1 hne; exact h1
        have hc : ∀ k ∈ kids, 2 * 3 ^ d + (3 ^ d - 1) ≤ (allN k).length := fun k hk => even_len (he k hk).1 (hsk k hk) (he k hk).2
        rw [allN_eq p kids hk]
        have h1 := pre_len p kids _ hc p.length (Nat.le_refl _) (by omega)
        have h3 := hc (kids.getD p.length default) (by simp [List.getD, show p.length < kids.length by omega])
        have h5 : 1 * (2 * 3 ^ d + (3 ^ d - 1) + 1) ≤ p.length * (2 * 3 ^ d + (3 ^ d - 1) + 1) := Nat.mul_le_mul_right _ h2
        have h6 : 1 ≤ 3 ^ d := Nat.one_le_pow _ _ (by omega)
        simp only [List.length_append]
        rw [Nat.pow_succ]
        omega
/-- A good pair. -/
def goodP (q : Pr) : Prop := q.1.size ≠ 0 ∧ q.1.size ≤ 12 ∧ q.2.size ≤ 12
/-- Good pairs whose keys rise, from behind a. -/
def Rise : ByteArray → List Pr → Prop
  | _, [] => True
  | a, q :: l => goodP q ∧ ltT a q.1 ∧ Rise q.1 l
def lastK (a : ByteArray) (l : List Pr) : ByteArray := match l.getLast? with | none => a | some q => q.1
theorem lastK_nil (a : ByteArray) : lastK a [] = a := rfl
theorem lastK_snoc (a : ByteArray) (l : List Pr) (q : Pr) : lastK a (l ++ [q]) = q.1 := by simp [lastK]
theorem lastK_cons (a : ByteArray) (q : Pr) (l : List Pr) : lastK a (q :: l) = lastK q.1 l := by
  cases l with
  | nil => rfl
  | cons r l =>
    cases h : (r :: l).getLast? with
    | none => simp at h
    | some y => simp [lastK, List.getLast?_cons_cons, h]
theorem rise_append : ∀ {l m : List Pr} {a : ByteArray}, Rise a (l ++ m) ↔ Rise a l ∧ Rise (lastK a l) m
  | [], m, a => by simp [Rise, lastK]
  | q :: l, m, a => by
    simp only [List.cons_append, Rise, lastK_cons]
    rw [rise_append (l := l)]
    exact ⟨fun ⟨h1, h2, h3, h4⟩ => ⟨⟨h1, h2, h3⟩, h4⟩, fun ⟨⟨h1, h2, h3⟩, h4⟩ => ⟨h1, h2, h3, h4⟩⟩
theorem lastK_append (a : ByteArray) (l m : List Pr) : lastK a (l ++ m) = lastK (lastK a l) m := by
  cases h : m.getLast? with
  | none => have : m = [] := by simpa using h
            subst this; simp [lastK_nil]
  | some q => simp [lastK, h]
/-- A good tree. -/
def GoodN (t : Nd) : Prop := (∃ d, Even d t) ∧ (t.kids = [] ∨ 1 ≤ t.prs.length) ∧ Rise ByteArray.empty (allN t) ∧ (allN t).length ≤ 40
/-- The pages are those of a good tree. -/
def TreeIs (pages : List Pg) (t : Nd) : Prop := readM pages 10 0 = some (t, pages.length) ∧ GoodN t
theorem TreeIs.one {pages : List Pg} {t u : Nd} (h : TreeIs pages t) (g : TreeIs pages u) : t = u := by
  have := h.1.symm.trans g.1
  simp at this; exact this
theorem good_depth {t : Nd} {d : Nat} (hs : Shape t) (h : Even d t) (h1 : t.kids = [] ∨ 1 ≤ t.prs.length) (h40 : (allN t).length ≤ 40) : d ≤ 3 := by
  obtain ⟨e, rfl⟩ : ∃ e, d = e + 1 := ⟨d - 1, by have := h.pos; omega⟩
  rcases even_root h hs h1 with h2 | h2
  · omega
  · apply Classical.byContradiction
    intro hc
    have : 3 ^ 3 ≤ 3 ^ e := Nat.pow_le_pow_right (by omega) (by omega)
    omega
theorem TreeIs.of {pages : List Pg} {t : Nd} {f : Nat} (h : readM pages f 0 = some (t, pages.length)) (hg : GoodN t) : TreeIs pages t := by
  obtain ⟨d, hd⟩ := hg.1
  have := good_depth (readM_shape h) hd hg.2.1 hg.2.2.2
  exact ⟨readM_mono (by omega) (readM_even h hd), hg⟩
end Go.Proofs.YtgjcegmjhkehnaaDoor
