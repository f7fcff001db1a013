/- The best few of rows of scores, in plain words. No condition. -/
import Derived.Test.YthdodlbhkpoadaaHp
namespace Go.Proofs.Ythdodlbhkpoadaa
open Go.ChangeShapes Go.WideShapes Go.ChangeAt Go.RowKit Go.Deep
set_option linter.unusedVariables false

/-! ### rows, totals, bounds -/
def GoodSc (x : Sc) : Prop := (0 ≤ x.1 ∧ x.1 ≤ 99) ∧ 1 ≤ x.2 ∧ x.2 ≤ 1000
/-- Place i of a row is as it should be beside those ahead. -/
def GoodI (l : List Sc) (i : Nat) : Prop := GoodSc (gd l i) ∧ (∀ j, j < i → (gd l j).1 ≠ (gd l i).1) ∧ (0 < i → bet (gd l (i - 1)) (gd l i) = true)
def GoodR (l : List Sc) : Prop := l.length ≤ 20 ∧ ∀ i, i < l.length → GoodI l i
def GoodRs (R : List (List Sc)) : Prop := (1 ≤ R.length ∧ R.length ≤ 4) ∧ ∀ r ∈ R, GoodR r
theorem gd_mem {l : List Sc} {i : Nat} (h : i < l.length) : gd l i ∈ l := by simp [gd, List.getD, h]
theorem mem_gd {l : List Sc} {x : Sc} (h : x ∈ l) : ∃ i, i < l.length ∧ gd l i = x := by
  obtain ⟨i, hi, rfl⟩ := List.mem_iff_getElem.1 h
  exact ⟨i, hi, by simp [gd, List.getD, hi]⟩
theorem take_gd (l : List Sc) (k : Nat) (h : k < l.length) : l.take (k + 1) = l.take k ++ [gd l k] := by
  rw [List.take_succ_eq_append_getElem h]; simp [gd, List.getD, h]
theorem good_less {l : List Sc} (h : GoodR l) : ∀ d i, i + d + 1 < l.length → bet (gd l i) (gd l (i + d + 1)) = true
  | 0, i, hi => (h.2 (i + 1) hi).2.2 (by omega)
  | d + 1, i, hi => bet_trans (good_less h d i (by omega)) ((h.2 (i + (d + 1) + 1) hi).2.2 (by omega))
theorem good_lt {l : List Sc} (h : GoodR l) {i j : Nat} (hij : i < j) (hj : j < l.length) : bet (gd l i) (gd l j) = true := by
  obtain ⟨d, rfl⟩ : ∃ d, j = i + d + 1 := ⟨j - i - 1, by omega⟩
  exact good_less h d i hj
/-- What a row has for a doc. -/
def totL (l : List Sc) (d : Int) : Int := l.foldl (fun n x => if x.1 = d then n + x.2 else n) 0
theorem totL_snoc (l : List Sc) (x : Sc) (d : Int) : totL (l ++ [x]) d = if x.1 = d then totL l d + x.2 else totL l d := by simp [totL]
def tot (R : List (List Sc)) (d : Int) : Int := R.foldl (fun n r => n + totL r d) 0
theorem tot_snoc (R : List (List Sc)) (r : List Sc) (d : Int) : tot (R ++ [r]) d = tot R d + totL r d := by simp [tot]
def bndL (r : List Sc) (n : Nat) : Int := if n < r.length then (gd r n).2 else 0
def bnd (R : List (List Sc)) (n : Nat) : Int := R.foldl (fun z r => z + bndL r n) 0
theorem bnd_snoc (R : List (List Sc)) (r : List Sc) (n : Nat) : bnd (R ++ [r]) n = bnd R n + bndL r n := by simp [bnd]
theorem snocR {P : List (List Sc) → Prop} (h0 : P []) (h1 : ∀ R r, P R → P (R ++ [r])) (R : List (List Sc)) : P R := by
  have : ∀ n, n ≤ R.length → P (R.take n) := by
    intro n
    induction n with
    | zero => intro _; simpa using h0
    | succ n ih =>
      intro hn
      rw [List.take_succ_eq_append_getElem (by omega)]
      exact h1 _ _ (ih (by omega))
  have := this R.length (Nat.le_refl _)
  rwa [List.take_length] at this
/-- The total of a doc over the first k places of a row: nothing where it is not there. -/
theorem totL_none (l : List Sc) (d : Int) : ∀ k, k ≤ l.length → (∀ i, i < k → (gd l i).1 ≠ d) → totL (l.take k) d = 0
  | 0, _, _ => rfl
  | k + 1, hk, h => by
    rw [take_gd l k (by omega), totL_snoc, if_neg (h k (by omega)), totL_none l d k (by omega) fun i hi => h i (by omega)]
theorem totL_at (l : List Sc) (hg : GoodR l) (d : Int) (i : Nat) (hi : i < l.length) (hd : (gd l i).1 = d) : totL l d = (gd l i).2 := by
  have : ∀ k, k ≤ l.length → i < k → totL (l.take k) d = (gd l i).2 := by
    intro k
    induction k with
    | zero => intro _ h; omega
    | succ k ih =>
      intro hk hik
      rw [take_gd l k (by omega), totL_snoc]
      by_cases e : i = k
      · subst e
        rw [if_pos hd, totL_none l d i (by omega) fun j hj e => (hg.2 i hi).2.1 j hj (e.trans hd.symm)]
        omega
      · have h2 : (gd l k).1 ≠ d := fun e2 => (hg.2 k (by omega)).2.1 i (by omega) (hd.trans e2.symm)
        rw [if_neg h2]; exact ih (by omega) (by omega)
  have := this l.length (Nat.le_refl _) hi
  rwa [List.take_length] at this
def InRow (r : List Sc) (n : Nat) (e : Int) : Prop := ∃ i, i < n ∧ i < r.length ∧ (gd r i).1 = e
theorem inRow_dec (r : List Sc) (n : Nat) (e : Int) : InRow r n e ∨ ¬ InRow r n e := Classical.em _
theorem totL_pos (l : List Sc) (hg : GoodR l) (d : Int) : 0 ≤ totL l d ∧ (InRow l l.length d → 1 ≤ totL l d) ∧ (¬ InRow l l.length d → totL l d = 0) ∧ totL l d ≤ 1000 := by
  by_cases h : InRow l l.length d
  · obtain ⟨i, h1, h2, h3⟩ := h
    rw [totL_at l hg d i h2 h3]
    have := (hg.2 i h2).1.2
    exact ⟨by omega, fun _ => by omega, fun hn => absurd ⟨i, h1, h2, h3⟩ hn, by omega⟩
  · have := totL_none l d l.length (Nat.le_refl _) fun i hi e => h ⟨i, hi, hi, e⟩
    rw [List.take_length] at this
    exact ⟨by omega, fun g => absurd g h, fun _ => this, by omega⟩
/-- A doc that a row has nowhere ahead of a depth has there no more than the row has at it. -/
theorem totL_bnd (l : List Sc) (hg : GoodR l) (d : Int) (n : Nat) (h : ¬ InRow l n d) : totL l d ≤ bndL l n := by
  by_cases g : InRow l l.length d
  · obtain ⟨i, h1, h2, h3⟩ := g
    have hin : n ≤ i := by
      rcases Nat.lt_or_ge i n with c | c
      · exact absurd ⟨i, c, h2, h3⟩ h
      · exact c
    rw [totL_at l hg d i h2 h3]
    unfold bndL
    rw [if_pos (by omega)]
    by_cases e : n = i
    · subst e; omega
    · have := good_lt hg (show n < i by omega) h2
      rw [bet_iff] at this; omega
  · rw [(totL_pos l hg d).2.2.1 g]
    unfold bndL
    split
    · rename_i c; have := (hg.2 n c).1.2; omega
    · omega
def InRs (R : List (List Sc)) (n : Nat) (e : Int) : Prop := ∃ r ∈ R, InRow r n e
theorem inRs_snoc (R : List (List Sc)) (r : List Sc) (n : Nat) (e : Int) : InRs (R ++ [r]) n e ↔ InRs R n e ∨ InRow r n e := by
  constructor
  · rintro ⟨q, hq, h⟩
    rcases List.mem_append.1 hq with hq | hq
    · exact .inl ⟨q, hq, h⟩
    · rw [List.mem_singleton.1 hq] at h; exact .inr h
  · rintro (⟨q, hq, h⟩ | h)
    · exact ⟨q, by simp [hq], h⟩
    · exact ⟨r, by simp, h⟩
theorem tot_bnd (d : Int) (n : Nat) : ∀ R : List (List Sc), (∀ r ∈ R, GoodR r) → ¬ InRs R n d → tot R d ≤ bnd R n := by
  refine snocR (fun _ _ => by simp [tot, bnd]) fun R r ih hg hn => ?_
  rw [tot_snoc, bnd_snoc]
  rw [inRs_snoc] at hn
  have h1 := ih (fun q hq => hg q (by simp [hq])) (fun h => hn (.inl h))
  have h2 := totL_bnd r (hg r (by simp)) d n (fun h => hn (.inr h))
  omega
theorem tot_pos (d : Int) : ∀ R : List (List Sc), (∀ r ∈ R, GoodR r) → 0 ≤ tot R d ∧ (InRs R 20 d → 1 ≤ tot R d) ∧ (¬ InRs R 20 d → tot R d = 0) ∧ tot R d ≤ 1000 * (R.length : Int) := by
  refine snocR (fun _ => ⟨by simp [tot], fun ⟨r, hr, _⟩ => by simp at hr, fun _ => by simp [tot], by simp [tot]⟩) fun R r ih hg => ?_
  obtain ⟨h1, h2, h3, h4⟩ := ih (fun q hq => hg q (by simp [hq]))
  have hr := hg r (by simp)
  obtain ⟨g1, g2, g3, g4⟩ := totL_pos r hr d
  have hlen : InRow r 20 d ↔ InRow r r.length d := ⟨fun ⟨i, a, b, c⟩ => ⟨i, b, b, c⟩, fun ⟨i, a, b, c⟩ => ⟨i, by have := hr.1; omega, b, c⟩⟩
  rw [tot_snoc, inRs_snoc, hlen]
  refine ⟨by omega, ?_, fun hn => ?_, by simp; omega⟩
  · rintro (h | h)
    · have := h2 h; omega
    · have := g2 h; omega
  · rw [h3 (fun h => hn (.inl h)), g3 (fun h => hn (.inr h))]; rfl
theorem bnd_pos (n : Nat) : ∀ R : List (List Sc), (∀ r ∈ R, GoodR r) → 0 ≤ bnd R n ∧ (bnd R n = 0 → ∀ r ∈ R, r.length ≤ n) ∧ ((∀ r ∈ R, r.length ≤ n) → bnd R n = 0) ∧ bnd R n ≤ 1000 * (R.length : Int) := by
  refine snocR (fun _ => ⟨by simp [bnd], fun _ r hr => by simp at hr, fun _ => by simp [bnd], by simp [bnd]⟩) fun R r ih hg => ?_
  obtain ⟨h1, h2, h3, h4⟩ := ih (fun q hq => hg q (by simp [hq]))
  have hr := hg r (by simp)
  have hb : 0 ≤ bndL r n ∧ (bndL r n = 0 ↔ r.length ≤ n) ∧ bndL r n ≤ 1000 := by
    unfold bndL
    split
    · rename_i c; have := (hr.2 n c).1.2; omega
    · omega
  rw [bnd_snoc]
  refine ⟨by omega, fun h0 q hq => ?_, fun hall => ?_, by simp; omega⟩
  · rcases List.mem_append.1 hq with hq | hq
    · exact h2 (by omega) q hq
    · rw [List.mem_singleton.1 hq]; exact hb.2.1.1 (by omega)
  · rw [h3 (fun q hq => hall q (by simp [hq])), hb.2.1.2 (hall r (by simp))]; rfl
/-! ### lists of docs with their totals -/
def hasD (l : List Sc) (d : Int) : Bool := l.any fun x => decide (x.1 = d)
theorem hasD_iff {l : List Sc} {d : Int} : hasD l d = true ↔ ∃ x ∈ l, x.1 = d := by simp [hasD]
theorem hasD_no {l : List Sc} {d : Int} : hasD l d = false ↔ ∀ x ∈ l, x.1 ≠ d := by simp [hasD]
def posS (x : Sc) : List Sc → Nat
  | [] => 0
  | y :: l => if bet y x = true then posS x l + 1 else 0
theorem posS_le (x : Sc) : ∀ l, posS x l ≤ l.length
  | [] => Nat.le_refl _
  | y :: l => by unfold posS; split; (have := posS_le x l; simp; omega); simp
theorem posS_yes (x : Sc) : ∀ l k, k < posS x l → bet (gd l k) x = true
  | [], k, h => by simp [posS] at h
  | y :: l, k, h => by
    unfold posS at h
    split at h
    · rename_i hb
      cases k with
      | zero => exact hb
      | succ k => exact posS_yes x l k (by omega)
    · omega
theorem posS_no (x : Sc) : ∀ l, posS x l < l.length → bet (gd l (posS x l)) x = false
  | [], h => by simp at h
  | y :: l, h => by
    unfold posS at h ⊢
    split
    · rename_i hb
      rw [if_pos hb] at h
      exact posS_no x l (by simpa using h)
    · rename_i hb; simpa using hb
/-- A score put to its place. -/
def insS (l : List Sc) (x : Sc) : List Sc := l.take (posS x l) ++ [x] ++ l.drop (posS x l)
def putS (l : List Sc) (x : Sc) : List Sc := if hasD l x.1 = true then l else insS l x
def addL (l : List Sc) (x : Sc) : List Sc := if hasD l x.1 = true then l else pushL l x
theorem ins_perm (l : List Sc) (x : Sc) : (insS l x).Perm (x :: l) := by
  unfold insS
  rw [List.append_assoc]
  refine List.perm_middle.trans ?_
  show (x :: (l.take (posS x l) ++ l.drop (posS x l))).Perm (x :: l)
  rw [List.take_append_drop]
theorem insS_srt (x : Sc) : ∀ l, SrtB l → (∀ y ∈ l, y ≠ x) → SrtB (insS l x)
  | [], _, _ => by simp [insS, posS, SrtB]
  | y :: l, h, hn => by
    obtain ⟨h1, h2⟩ := List.pairwise_cons.1 h
    have ih := insS_srt x l h2 fun z hz => hn z (by simp [hz])
    by_cases hb : bet y x = true
    · have e : insS (y :: l) x = y :: insS l x := by unfold insS; simp [posS, hb]
      rw [e]
      refine List.pairwise_cons.2 ⟨fun z hz => ?_, ih⟩
      rcases List.mem_cons.1 ((ins_perm l x).mem_iff.1 hz) with e | e
      · rw [e]; exact hb
      · exact h1 z e
    · have e : insS (y :: l) x = x :: y :: l := by unfold insS; simp [posS, hb]
      rw [e]
      have hxy : bet x y = true := by
        cases hc : bet x y with
        | true => rfl
        | false => exact absurd (bet_eq hc (by simpa using hb)).symm (hn y (by simp))
      refine List.pairwise_cons.2 ⟨fun z hz => ?_, h⟩
      rcases List.mem_cons.1 hz with e | e
      · rw [e]; exact hxy
      · exact bet_trans hxy (h1 z e)
/-- The docs D with their totals T. -/
def Has (l : List Sc) (T : Int → Int) (D : Int → Prop) : Prop := ∀ x : Sc, x ∈ l ↔ D x.1 ∧ x.2 = T x.1
theorem Has.hasD {l : List Sc} {T : Int → Int} {D : Int → Prop} (h : Has l T D) (d : Int) : hasD l d = true ↔ D d := by
  rw [hasD_iff]
  constructor
  · rintro ⟨x, hx, rfl⟩; exact ((h x).1 hx).1
  · intro hd; exact ⟨(d, T d), (h (d, T d)).2 ⟨hd, rfl⟩, rfl⟩
theorem Has.congr {l : List Sc} {T : Int → Int} {D D' : Int → Prop} (h : Has l T D) (hd : ∀ e, D e ↔ D' e) : Has l T D' := fun x => by rw [h x, hd]
theorem has_of_perm {l l' : List Sc} {T : Int → Int} {D : Int → Prop} (h : Has l T D) (d : Int) (hp : l'.Perm ((d, T d) :: l)) : Has l' T (fun e => D e ∨ e = d) := fun x => by
  rw [hp.mem_iff, List.mem_cons, h x]
  constructor
  · rintro (rfl | h); exact ⟨.inr rfl, rfl⟩; exact ⟨.inl h.1, h.2⟩
  · rintro ⟨h | h, h2⟩
    · exact .inr ⟨h, h2⟩
    · left; obtain ⟨a, b⟩ := x; simp only at h h2; subst h; rw [h2]
theorem put_inv {l : List Sc} {T : Int → Int} {D : Int → Prop} (hs : SrtB l) (h : Has l T D) (d : Int) : SrtB (putS l (d, T d)) ∧ Has (putS l (d, T d)) T (fun e => D e ∨ e = d) := by
  unfold putS
  split
  · rename_i hd
    have hd2 := (h.hasD d).1 hd
    exact ⟨hs, h.congr fun e => ⟨.inl, fun g => by rcases g with g | g; exact g; rw [g]; exact hd2⟩⟩
  · rename_i hd
    have hd2 : hasD l d = false := by simpa using hd
    exact ⟨insS_srt _ _ hs fun y hy e => (hasD_no.1 hd2) y hy (by rw [e]), has_of_perm h d (ins_perm _ _)⟩
theorem add_inv {l : List Sc} {T : Int → Int} {D : Int → Prop} (hs : IsH l) (hn : l.Nodup) (h : Has l T D) (d : Int) : IsH (addL l (d, T d)) ∧ (addL l (d, T d)).Nodup ∧ Has (addL l (d, T d)) T (fun e => D e ∨ e = d) := by
  unfold addL
  split
  · rename_i hd
    have hd2 := (h.hasD d).1 hd
    exact ⟨hs, hn, h.congr fun e => ⟨.inl, fun g => by rcases g with g | g; exact g; rw [g]; exact hd2⟩⟩
  · rename_i hd
    have hd2 : hasD l d = false := by simpa using hd
    refine ⟨push_heap hs _, (push_perm l _).nodup_iff.2 (List.nodup_cons.2 ⟨fun hm => (hasD_no.1 hd2) _ hm rfl, hn⟩), has_of_perm h d (push_perm _ _)⟩
theorem srt_nodup {l : List Sc} (h : SrtB l) : l.Nodup := List.Pairwise.imp (fun {a b} hab e => by rw [e, bet_irr] at hab; cases hab) h
theorem perm_of {S L : List Sc} {T : Int → Int} {D D' : Int → Prop} (hs : SrtB S) (hS : Has S T D) (hn : L.Nodup) (hL : Has L T D') (hd : ∀ e, D e ↔ D' e) : S.Perm L := by
  rw [List.perm_ext_iff_of_nodup (srt_nodup hs) hn]
  intro x; rw [hS x, hL x, hd]
theorem srtB_uniq : ∀ A B : List Sc, SrtB A → SrtB B → (∀ x, x ∈ A ↔ x ∈ B) → A = B
  | [], [], _, _, _ => rfl
  | [], b :: B, _, _, h => by have := (h b).2 (by simp); simp at this
  | a :: A, [], _, _, h => by have := (h a).1 (by simp); simp at this
  | a :: A, b :: B, hA, hB, h => by
    obtain ⟨a1, a2⟩ := List.pairwise_cons.1 hA
    obtain ⟨b1, b2⟩ := List.pairwise_cons.1 hB
    have hab : a = b := by
      rcases List.mem_cons.1 ((h a).1 (by simp)) with h1 | h1
      · exact h1
      · rcases List.mem_cons.1 ((h b).2 (by simp)) with h2 | h2
        · exact h2.symm
        · have := bet_no_of (b1 a h1); rw [a1 b h2] at this; cases this
    subst hab
    rw [srtB_uniq A B a2 b2 (fun x => ?_)]
    constructor
    · intro hx
      rcases List.mem_cons.1 ((h x).1 (by simp [hx])) with h1 | h1
      · subst h1; have := a1 x hx; rw [bet_irr] at this; cases this
      · exact h1
    · intro hx
      rcases List.mem_cons.1 ((h x).2 (by simp [hx])) with h1 | h1
      · subst h1; have := b1 x hx; rw [bet_irr] at this; cases this
      · exact h1
/-- The first few of a part are those of the whole, where what the part leaves out is worse. -/
theorem take_part : ∀ (m : Nat) (A S : List Sc), SrtB A → SrtB S → (∀ x ∈ S, x ∈ A) → m ≤ S.length → (∀ x ∈ A, x ∉ S → ∀ y ∈ S.take m, bet y x = true) → A.take m = S.take m
  | 0, _, _, _, _, _, _, _ => by simp
  | m + 1, A, [], _, _, _, h, _ => by simp at h
  | m + 1, [], s :: S, _, _, h, _, _ => by have := h s (by simp); simp at this
  | m + 1, a :: A, s :: S, hA, hS, hsub, hlen, hw => by
    obtain ⟨a1, a2⟩ := List.pairwise_cons.1 hA
    obtain ⟨s1, s2⟩ := List.pairwise_cons.1 hS
    have hab : a = s := by
      rcases List.mem_cons.1 (hsub s (by simp)) with h1 | h1
      · exact h1.symm
      · have h2 := a1 s h1
        by_cases hm : a ∈ s :: S
        · rcases List.mem_cons.1 hm with h3 | h3
          · exact h3
          · have := bet_no_of (s1 a h3); rw [h2] at this; cases this
        · have := bet_no_of (hw a (by simp) hm s (by simp)); rw [h2] at this; cases this
    subst hab
    simp only [List.take_succ_cons]
    rw [take_part m A S a2 s2 (fun x hx => ?_) (by simpa using hlen) (fun x hx hn y hy => ?_)]
    · rcases List.mem_cons.1 (hsub x (by simp [hx])) with h1 | h1
      · subst h1; have := s1 x hx; rw [bet_irr] at this; cases this
      · exact h1
    · refine hw x (by simp [hx]) (fun hm => ?_) y (by simp [hy])
      rcases List.mem_cons.1 hm with h1 | h1
      · subst h1; have := a1 x hx; rw [bet_irr] at this; cases this
      · exact hn h1
/-! ### what is looked at -/
def stS (R : List (List Sc)) (n : Nat) (l : List Sc) (r : List Sc) : List Sc := if n < r.length then putS l ((gd r n).1, tot R (gd r n).1) else l
def stL (R : List (List Sc)) (n : Nat) (l : List Sc) (r : List Sc) : List Sc := if n < r.length then addL l ((gd r n).1, tot R (gd r n).1) else l
/-- The docs at a depth, of the first k rows. -/
def lookS (R : List (List Sc)) (n : Nat) (l : List Sc) (Q : List (List Sc)) : List Sc := Q.foldl (stS R n) l
def lookL (R : List (List Sc)) (n : Nat) (l : List Sc) (Q : List (List Sc)) : List Sc := Q.foldl (stL R n) l
def thrS (R : List (List Sc)) : Nat → List Sc
  | 0 => []
  | n + 1 => lookS R n (thrS R n) R
def thrL (R : List (List Sc)) : Nat → List Sc
  | 0 => []
  | n + 1 => lookL R n (thrL R n) R
/-- All docs of the first rows, row by row. -/
def rowS (R : List (List Sc)) (l : List Sc) (r : List Sc) : List Sc := r.foldl (fun l x => putS l (x.1, tot R x.1)) l
def allS (R : List (List Sc)) (Q : List (List Sc)) : List Sc := Q.foldl (rowS R) []
theorem allS_snoc (R Q : List (List Sc)) (r : List Sc) : allS R (Q ++ [r]) = rowS R (allS R Q) r := by simp [allS]
theorem rowS_snoc (R : List (List Sc)) (l r : List Sc) (x : Sc) : rowS R l (r ++ [x]) = putS (rowS R l r) (x.1, tot R x.1) := by simp [rowS]
theorem lookS_snoc (R Q : List (List Sc)) (n : Nat) (l r : List Sc) : lookS R n l (Q ++ [r]) = stS R n (lookS R n l Q) r := by simp [lookS]
theorem lookL_snoc (R Q : List (List Sc)) (n : Nat) (l r : List Sc) : lookL R n l (Q ++ [r]) = stL R n (lookL R n l Q) r := by simp [lookL]
theorem inRow_succ (r : List Sc) (n : Nat) (e : Int) : InRow r (n + 1) e ↔ InRow r n e ∨ (n < r.length ∧ (gd r n).1 = e) := by
  constructor
  · rintro ⟨i, h1, h2, h3⟩
    by_cases c : i = n
    · subst c; exact .inr ⟨h2, h3⟩
    · exact .inl ⟨i, by omega, h2, h3⟩
  · rintro (⟨i, h1, h2, h3⟩ | ⟨h1, h2⟩)
    · exact ⟨i, by omega, h2, h3⟩
    · exact ⟨n, by omega, h1, h2⟩
def AtD (Q : List (List Sc)) (n : Nat) (e : Int) : Prop := ∃ r ∈ Q, n < r.length ∧ (gd r n).1 = e
theorem atD_snoc (Q : List (List Sc)) (r : List Sc) (n : Nat) (e : Int) : AtD (Q ++ [r]) n e ↔ AtD Q n e ∨ (n < r.length ∧ (gd r n).1 = e) := by
  constructor
  · rintro ⟨q, hq, h⟩
    rcases List.mem_append.1 hq with hq | hq
    · exact .inl ⟨q, hq, h⟩
    · rw [List.mem_singleton.1 hq] at h; exact .inr h
  · rintro (⟨q, hq, h⟩ | h)
    · exact ⟨q, by simp [hq], h⟩
    · exact ⟨r, by simp, h⟩
theorem inRs_succ (R : List (List Sc)) (n : Nat) (e : Int) : InRs R (n + 1) e ↔ InRs R n e ∨ AtD R n e := by
  constructor
  · rintro ⟨r, hr, h⟩
    rcases (inRow_succ r n e).1 h with h | h
    · exact .inl ⟨r, hr, h⟩
    · exact .inr ⟨r, hr, h⟩
  · rintro (⟨r, hr, h⟩ | ⟨r, hr, h⟩)
    · exact ⟨r, hr, (inRow_succ r n e).2 (.inl h)⟩
    · exact ⟨r, hr, (inRow_succ r n e).2 (.inr h)⟩
theorem lookS_inv (R : List (List Sc)) (n : Nat) (l : List Sc) (D : Int → Prop) (hs : SrtB l) (h : Has l (tot R) D) : ∀ Q, SrtB (lookS R n l Q) ∧ Has (lookS R n l Q) (tot R) (fun e => D e ∨ AtD Q n e) := by
  refine snocR ⟨hs, h.congr fun e => ⟨.inl, fun g => by rcases g with g | ⟨r, hr, _⟩; exact g; simp at hr⟩⟩ fun Q r ih => ?_
  rw [lookS_snoc]
  unfold stS
  split
  · rename_i c
    have := put_inv ih.1 ih.2 (gd r n).1
    refine ⟨this.1, this.2.congr fun e => ?_⟩
    rw [atD_snoc]
    constructor
    · rintro ((g | g) | g)
      · exact .inl g
      · exact .inr (.inl g)
      · exact .inr (.inr ⟨c, g.symm⟩)
    · rintro (g | g | g)
      · exact .inl (.inl g)
      · exact .inl (.inr g)
      · exact .inr g.2.symm
  · rename_i c
    refine ⟨ih.1, ih.2.congr fun e => ?_⟩
    rw [atD_snoc]
    constructor
    · rintro (g | g)
      · exact .inl g
      · exact .inr (.inl g)
    · rintro (g | g | g)
      · exact .inl g
      · exact .inr g
      · exact absurd g.1 c
theorem lookL_inv (R : List (List Sc)) (n : Nat) (l : List Sc) (D : Int → Prop) (hs : IsH l) (hn : l.Nodup) (h : Has l (tot R) D) : ∀ Q, IsH (lookL R n l Q) ∧ (lookL R n l Q).Nodup ∧ Has (lookL R n l Q) (tot R) (fun e => D e ∨ AtD Q n e) := by
  refine snocR ⟨hs, hn, h.congr fun e => ⟨.inl, fun g => by rcases g with g | ⟨r, hr, _⟩; exact g; simp at hr⟩⟩ fun Q r ih => ?_
  rw [lookL_snoc]
  unfold stL
  split
  · rename_i c
    have := add_inv ih.1 ih.2.1 ih.2.2 (gd r n).1
    refine ⟨this.1, this.2.1, this.2.2.congr fun e => ?_⟩
    rw [atD_snoc]
    constructor
    · rintro ((g | g) | g)
      · exact .inl g
      · exact .inr (.inl g)
      · exact .inr (.inr ⟨c, g.symm⟩)
    · rintro (g | g | g)
      · exact .inl (.inl g)
      · exact .inl (.inr g)
      · exact .inr g.2.symm
  · rename_i c
    refine ⟨ih.1, ih.2.1, ih.2.2.congr fun e => ?_⟩
    rw [atD_snoc]
    constructor
    · rintro (g | g)
      · exact .inl g
      · exact .inr (.inl g)
    · rintro (g | g | g)
      · exact .inl g
      · exact .inr g
      · exact absurd g.1 c
theorem no_inRs (R : List (List Sc)) (e : Int) : ¬ InRs R 0 e := fun ⟨r, hr, i, h, _⟩ => by omega
theorem thrS_inv (R : List (List Sc)) : ∀ n, SrtB (thrS R n) ∧ Has (thrS R n) (tot R) (InRs R n)
  | 0 => ⟨List.Pairwise.nil, fun x => ⟨fun h => by simp [thrS] at h, fun h => absurd h.1 (no_inRs R _)⟩⟩
  | n + 1 => by
    have := lookS_inv R n _ _ (thrS_inv R n).1 (thrS_inv R n).2 R
    exact ⟨this.1, this.2.congr fun e => (inRs_succ R n e).symm⟩
theorem thrL_inv (R : List (List Sc)) : ∀ n, IsH (thrL R n) ∧ (thrL R n).Nodup ∧ Has (thrL R n) (tot R) (InRs R n)
  | 0 => ⟨fun k _ h => by simp [thrL] at h, by simp [thrL], fun x => ⟨fun h => by simp [thrL] at h, fun h => absurd h.1 (no_inRs R _)⟩⟩
  | n + 1 => by
    have := lookL_inv R n _ _ (thrL_inv R n).1 (thrL_inv R n).2.1 (thrL_inv R n).2.2 R
    exact ⟨this.1, this.2.1, this.2.2.congr fun e => (inRs_succ R n e).symm⟩
theorem thr_perm (R : List (List Sc)) (n : Nat) : (thrS R n).Perm (thrL R n) := perm_of (thrS_inv R n).1 (thrS_inv R n).2 (thrL_inv R n).2.1 (thrL_inv R n).2.2 fun _ => Iff.rfl
theorem thr_pops (R : List (List Sc)) (n m : Nat) : popsL (thrL R n) m = (thrS R n).take m := pops_take m _ _ (thrL_inv R n).1 (thrS_inv R n).1 (thr_perm R n)
theorem rowS_inv (R : List (List Sc)) (l : List Sc) (D : Int → Prop) (hs : SrtB l) (h : Has l (tot R) D) (r : List Sc) : ∀ k, k ≤ r.length → SrtB (rowS R l (r.take k)) ∧ Has (rowS R l (r.take k)) (tot R) (fun e => D e ∨ InRow r k e)
  | 0, _ => ⟨hs, h.congr fun e => ⟨.inl, fun g => by rcases g with g | ⟨i, h, _⟩; exact g; omega⟩⟩
  | k + 1, hk => by
    have ih := rowS_inv R l D hs h r k (by omega)
    rw [take_gd r k (by omega), rowS_snoc]
    have := put_inv ih.1 ih.2 (gd r k).1
    refine ⟨this.1, this.2.congr fun e => ?_⟩
    rw [inRow_succ]
    constructor
    · rintro ((g | g) | g)
      · exact .inl g
      · exact .inr (.inl g)
      · exact .inr (.inr ⟨by omega, g.symm⟩)
    · rintro (g | g | g)
      · exact .inl (.inl g)
      · exact .inl (.inr g)
      · exact .inr g.2.symm
theorem allS_inv (R : List (List Sc)) : ∀ Q : List (List Sc), (∀ r ∈ Q, r.length ≤ 20) → SrtB (allS R Q) ∧ Has (allS R Q) (tot R) (InRs Q 20) := by
  refine snocR (fun _ => ⟨List.Pairwise.nil, fun x => ⟨fun h => by simp [allS] at h, fun ⟨⟨r, hr, _⟩, _⟩ => by simp at hr⟩⟩) fun Q r ih hl => ?_
  have h1 := ih fun q hq => hl q (by simp [hq])
  rw [allS_snoc]
  have h2 := rowS_inv R _ _ h1.1 h1.2 r r.length (Nat.le_refl _)
  rw [List.take_length] at h2
  have hr := hl r (by simp)
  refine ⟨h2.1, h2.2.congr fun e => ?_⟩
  rw [inRs_snoc]
  have : InRow r r.length e ↔ InRow r 20 e := ⟨fun ⟨i, a, b, c⟩ => ⟨i, by omega, b, c⟩, fun ⟨i, a, b, c⟩ => ⟨i, b, b, c⟩⟩
  rw [this]
theorem all_thr (R : List (List Sc)) (hl : ∀ r ∈ R, r.length ≤ 20) : allS R R = thrS R 20 :=
  srtB_uniq _ _ (allS_inv R R hl).1 (thrS_inv R 20).1 fun x => by rw [(allS_inv R R hl).2 x, (thrS_inv R 20).2 x]
/-- What BestFew tells. -/
theorem best_pops (R : List (List Sc)) (hl : ∀ r ∈ R, r.length ≤ 20) (m : Nat) : popsL (thrL R 20) m = (allS R R).take m := by rw [thr_pops, all_thr R hl]
/-- Is a depth the one to stop at. -/
def Stop (R : List (List Sc)) (m n : Nat) : Prop := bnd R n = 0 ∨ (m ≤ (thrS R n).length ∧ bnd R n < (gd (thrS R n) (m - 1)).2)
theorem stop_20 {R : List (List Sc)} (h : ∀ r ∈ R, GoodR r) (m : Nat) : Stop R m 20 := .inl ((bnd_pos 20 R h).2.2.1 fun r hr => (h r hr).1)
theorem stop_ex {R : List (List Sc)} (h : ∀ r ∈ R, GoodR r) (m : Nat) : ∃ N, N ≤ 20 ∧ Stop R m N ∧ ∀ n, n < N → ¬ Stop R m n := by
  have : ∀ k, (∃ N, N ≤ k ∧ Stop R m N ∧ ∀ n, n < N → ¬ Stop R m n) ∨ ∀ n, n ≤ k → ¬ Stop R m n := by
    intro k
    induction k with
    | zero =>
      by_cases c : Stop R m 0
      · exact .inl ⟨0, Nat.le_refl _, c, fun n hn => by omega⟩
      · exact .inr fun n hn => by rw [Nat.le_zero.1 hn]; exact c
    | succ k ih =>
      rcases ih with ⟨N, h1, h2, h3⟩ | ih
      · exact .inl ⟨N, by omega, h2, h3⟩
      · by_cases c : Stop R m (k + 1)
        · exact .inl ⟨k + 1, Nat.le_refl _, c, fun n hn => ih n (by omega)⟩
        · refine .inr fun n hn => ?_
          by_cases e : n = k + 1
          · rw [e]; exact c
          · exact ih n (by omega)
  rcases this 20 with h1 | h1
  · exact h1
  · exact absurd (stop_20 h m) (h1 20 (Nat.le_refl _))
theorem inRs_mono {R : List (List Sc)} {n k : Nat} (h : n ≤ k) {e : Int} (g : InRs R n e) : InRs R k e := by
  obtain ⟨r, hr, i, h1, h2⟩ := g
  exact ⟨r, hr, i, by omega, h2⟩
/-- What is told where one may stop is what is told of all. -/
theorem stop_best {R : List (List Sc)} (h : ∀ r ∈ R, GoodR r) {m N : Nat} (hm : 1 ≤ m) (hN : N ≤ 20) (hs : Stop R m N) : (thrS R N).take m = (allS R R).take m := by
  have hl : ∀ r ∈ R, r.length ≤ 20 := fun r hr => (h r hr).1
  rw [all_thr R hl]
  rcases hs with hs | ⟨h1, h2⟩
  · have hr := (bnd_pos N R h).2.1 hs
    have : thrS R N = thrS R 20 := srtB_uniq _ _ (thrS_inv R N).1 (thrS_inv R 20).1 fun x => by
      rw [(thrS_inv R N).2 x, (thrS_inv R 20).2 x]
      constructor
      · rintro ⟨a, b⟩; exact ⟨inRs_mono hN a, b⟩
      · rintro ⟨⟨r, hrr, i, a, b, c⟩, d⟩; exact ⟨⟨r, hrr, i, by have := hr r hrr; omega, b, c⟩, d⟩
    rw [this]
  · refine (take_part m _ _ (thrS_inv R 20).1 (thrS_inv R N).1 (fun x hx => ?_) h1 (fun x hx hn y hy => ?_)).symm
    · rw [(thrS_inv R 20).2 x]
      have := ((thrS_inv R N).2 x).1 hx
      exact ⟨inRs_mono hN this.1, this.2⟩
    · have hx2 := ((thrS_inv R 20).2 x).1 hx
      have hnot : ¬ InRs R N x.1 := fun g => hn (((thrS_inv R N).2 x).2 ⟨g, hx2.2⟩)
      have h3 := tot_bnd x.1 N R h hnot
      rw [← hx2.2] at h3
      have h4 : bet (gd (thrS R N) (m - 1)) x = true := by rw [bet_iff]; omega
      obtain ⟨i, hi, rfl⟩ := mem_gd hy
      have hi2 : i < m ∧ i < (thrS R N).length := by simp at hi; omega
      rw [gd_take _ _ _ hi2.1]
      by_cases e : i = m - 1
      · rw [e]; exact h4
      · have h5 := List.pairwise_iff_getElem.1 (thrS_inv R N).1 i (m - 1) (by omega) (by omega) (by omega)
        have h6 : bet (gd (thrS R N) i) (gd (thrS R N) (m - 1)) = true := by simpa [gd, List.getD, show i < (thrS R N).length by omega, show m - 1 < (thrS R N).length by omega] using h5
        exact bet_trans h6 h4
end Go.Proofs.Ythdodlbhkpoadaa
