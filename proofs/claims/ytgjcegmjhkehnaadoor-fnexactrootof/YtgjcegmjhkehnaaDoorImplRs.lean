/- What the program's reader of pages asks, and its way to a kid. Condition: the pages lie in memory. -/
import Derived.Test.YtgjcegmjhkehnaaDoorImplN
namespace Go.Proofs.YtgjcegmjhkehnaaDoor
open Go.ChangeShapes Go.WideShapes Go.ChangeAt Go.RowKit Go.Deep
set_option linter.unusedVariables false
attribute [local go_sem ↓] Go.wp_at_zero Go.wp_at_succ

structure RS where
  next : Nat
  many : Nat
  last : ByteArray
  leaf : Nat
/-- What the reader asks of a node that it has read. -/
def OkR (t : Nd) (d : Nat) (s : RS) (h : Nat) : Prop :=
  (if s.next = 0 then t.kids = [] ∨ 1 ≤ t.prs.length else 2 ≤ t.prs.length) ∧ Even h t ∧ (s.leaf = 0 ∨ s.leaf = d + h - 1) ∧ Rise s.last (allN t) ∧ s.many + (allN t).length ≤ 40
def upd (s : RS) (nx : Nat) (t : Nd) (d h : Nat) : RS := ⟨nx, s.many + (allN t).length, lastK s.last (allN t), d + h - 1⟩
def ReadIs (pages : List Pg) (F d : Nat) (s : RS) (t : Nd) (nx h : Nat) : Prop := readM pages F s.next = some (t, nx) ∧ OkR t d s h
def zeroN : Value := .agg #[.slice none 0 0, .slice none 0 0, .slice none 0 0]
def stV (x : Value) (s : RS) : List Value := [x, .int .i64 s.next, .int .i64 s.many, .string s.last, .int .i64 s.leaf]
def RPost (r n0 : Nat) (pages : List Pg) (rb : Nat) (x : Value) (F d : Nat) (s : RS) (e : Ending) (w' : World) : Prop :=
  (∃ t nx h kv vv cv, ReadIs pages F d s t nx h ∧ e = .returned (.tuple #[.agg #[kv, vv, cv], .bool true]) ∧ NodeP (fun g => g < r ∨ n0 ≤ g) w' t kv vv cv ∧ BoxAt w' rb (stV x (upd s nx t d h))) ∨
    ((∀ t nx h, ¬ ReadIs pages F d s t nx h) ∧ e = .returned (.tuple #[zeroN, .bool false]))
/-- Pages, all of them below block r. -/
def PgsR (r : Nat) (w : World) (x : Value) (pages : List Pg) : Prop :=
  (∃ a c, x = .slice a 0 c ∧ pages = []) ∨ ∃ b off cap, x = .slice (some ⟨b, off, none⟩) pages.length cap ∧ b < w.heap.size ∧ b < r ∧ ∀ i, i < pages.length → ∃ kv vv cv,
    w.cell? ⟨b, off + i * 3, none⟩ = some kv ∧ w.cell? ⟨b, off + i * 3 + 1, none⟩ = some vv ∧ w.cell? ⟨b, off + i * 3 + 2, none⟩ = some cv ∧
    RowP (· < r) w 1 kv (pages.getD i default).keys.length (strsV (pages.getD i default).keys) ∧ RowP (· < r) w 1 vv (pages.getD i default).vals.length (strsV (pages.getD i default).vals) ∧ RowP (· < r) w 1 cv (pages.getD i default).kids.length (intsV (pages.getD i default).kids)
theorem PgsR.off {r : Nat} {S : List Nat} {w w' : World} {x : Value} {pages : List Pg} (h : PgsR r w x pages) (ho : Off S w w') (hS : ∀ g ∈ S, r ≤ g) : PgsR r w' x pages := by
  rcases h with h | ⟨b, off, cap, rfl, hb, hne, h⟩
  · exact .inl h
  · refine .inr ⟨b, off, cap, rfl, Nat.lt_of_lt_of_le hb ho.size, hne, fun i hi => ?_⟩
    obtain ⟨kv, vv, cv, h1, h2, h3, h4, h5, h6⟩ := h i hi
    have hS' : ∀ g, g < r → g ∉ S := fun g hg hm => by have := hS g hm; omega
    have e := ho.block b hb (hS' b hne)
    exact ⟨kv, vv, cv, by simp only [World.cell?, e]; exact h1, by simp only [World.cell?, e]; exact h2, by simp only [World.cell?, e]; exact h3, h4.off ho hS', h5.off ho hS', h6.off ho hS'⟩
theorem PgsR.slice {r : Nat} {w : World} {x : Value} {ps : List Pg} (h : PgsR r w x ps) : ∃ a c, x = .slice a ps.length c := by
  rcases h with ⟨a, c, rfl, rfl⟩ | ⟨b, off, cap, rfl, _⟩
  · exact ⟨a, c, rfl⟩
  · exact ⟨_, cap, rfl⟩
theorem PgsR.page {r : Nat} {w : World} {x : Value} {ps : List Pg} (h : PgsR r w x ps) {i : Nat} (hi : i < ps.length) : ∃ b off c kv vv cv, x = .slice (some ⟨b, off, none⟩) ps.length c ∧ b < w.heap.size ∧ b < r ∧
    w.cell? ⟨b, off + i * 3, none⟩ = some kv ∧ w.cell? ⟨b, off + i * 3 + 1, none⟩ = some vv ∧ w.cell? ⟨b, off + i * 3 + 2, none⟩ = some cv ∧
    RowP (· < r) w 1 kv (ps.getD i default).keys.length (strsV (ps.getD i default).keys) ∧ RowP (· < r) w 1 vv (ps.getD i default).vals.length (strsV (ps.getD i default).vals) ∧ RowP (· < r) w 1 cv (ps.getD i default).kids.length (intsV (ps.getD i default).kids) := by
  rcases h with ⟨a, c, rfl, rfl⟩ | ⟨b, off, cap, rfl, h1, h2, h3⟩
  · simp at hi
  · obtain ⟨kv, vv, cv, h⟩ := h3 i hi
    exact ⟨b, off, cap, kv, vv, cv, rfl, h1, h2, h⟩
theorem rise_takeA {L : List Pr} {a : ByteArray} (h : Rise a L) (i : Nat) : Rise a (L.take i) := by
  have := (rise_append (l := L.take i) (m := L.drop i) (a := a)).1 (by rw [List.take_append_drop]; exact h)
  exact this.1
theorem off_set {S : List Nat} {w W : World} {g : Nat} (h : Off S w W) (hg : w.heap.size ≤ g) (o : Nat) (v : Value) : Off S w (W.setCell ⟨g, o, none⟩ v) :=
  ⟨h.os, h.tape, h.output, Nat.le_trans h.size (by simp [World.setCell]), fun k hk hn => (setCell_other _ _ _ _ _ (by omega)).trans (h.block k hk hn)⟩
theorem off_drew {S : List Nat} {w W : World} (h : Off S w W) (n : Nat) : Off S w (W.drewN n) := ⟨h.os, h.tape, h.output, h.size, h.block⟩
theorem offRet {S : List Nat} {w W : World} {g : Nat} {a b c : Value} (h : Off S w W) (hg : w.heap.size ≤ g) (n : Nat) : Off S w ((((W.drewN n).setCell ⟨g, 0, none⟩ a).setCell ⟨g, 1, none⟩ b).setCell ⟨g, 2, none⟩ c) :=
  off_set (off_set (off_set (off_drew h n) hg 0 a) hg 1 b) hg 2 c
theorem off_self (W : World) (g : Nat) (a b c : Value) : Off [g] W (((W.setCell ⟨g, 0, none⟩ a).setCell ⟨g, 1, none⟩ b).setCell ⟨g, 2, none⟩ c) :=
  ⟨rfl, rfl, rfl, by simp [World.setCell], fun k hk hn => by rw [setCell_other _ _ _ _ _ (by simpa using hn), setCell_other _ _ _ _ _ (by simpa using hn), setCell_other _ _ _ _ _ (by simpa using hn)]⟩
/-- What has been read ahead of round k: k kids, and the pairs between them. -/
def doneN (p : List Pr) (l : List Nd) : Nat → List Pr
  | 0 => []
  | k + 1 => preN p l k ++ allN (l.getD k default)
/-- What the reader has made sure of ahead of round k. -/
def GoodK (p : List Pr) (l : List Nd) (k : Nat) (last : ByteArray) (leaf d lf : Nat) : Prop :=
  Rise last (doneN p l k) ∧ (if k = 0 then lf = leaf else ∃ h, 1 ≤ h ∧ lf = d + h ∧ (leaf = 0 ∨ leaf = lf) ∧ ∀ x ∈ l, Even h x ∧ 2 ≤ x.prs.length)
theorem then_ret {K : Act → World → Prop} {Q : Exit → Act → World → Prop} {a : Act} {w : World} (h : Q .ret a w) : Exit.then K Q .ret a w := h
theorem block_ret {n : Nat} {Q : Exit → Act → World → Prop} {a : Act} {w : World} (h : Q .ret a w) : Exit.inBlock n Q .ret a w := h
theorem ret_of {P : Program} {Q : Exit → Act → World → Prop} {a : Act} {w : World} {K : Act → World → Prop} (hK : ∀ a w, Code.wp P Code.ret Q a w → K a w) (h : Code.wp P Code.ret Q a w) : K a w := hK a w h
theorem belD {W w5 : World} (h : Below W.drew.heap.size W.drew w5) : Below W.heap.size W w5 := ⟨h.os, h.tape, h.output, h.size, h.block⟩
theorem inter_ge : ∀ (kids : List Nd) (p : List Pr), (kids = [] ∨ kids.length = p.length + 1) → p.length ≤ (interN kids p).length
  | [], p, _ => by simp [interN]
  | k :: ks, [], _ => by simp
  | k :: ks, q :: p, h => by
    simp only [List.length_cons] at h
    rcases Nat.eq_zero_or_pos ks.length with h0 | h0
    · rcases h with h | h
      · simp at h
      · omega
    · have := inter_ge ks p (.inr (by rcases h with h | h; simp at h; omega))
      simp only [interN, List.length_append, List.length_cons]
      omega
theorem all_ge : ∀ (t : Nd), Shape t → t.prs.length ≤ (allN t).length := by
  rintro ⟨p, kids⟩ h
  cases h with
  | mk _ _ h4 hk hs => rw [allN]; exact inter_ge kids p hk
/-- The way to a kid, where the reading below it is known. -/
theorem implReadKid (pages : List Pg) (rb r : Nat) (hrle : r ≤ rb) (x : Value) (F d : Nat) (s : RS) (no : Int) (w : World) (hd : d ≤ 1000) (hn : s.next ≤ 1048577)
    (hb : BoxAt w rb (stV x s))
    (ih : ∀ W, Below w.heap.size w W → Calls Tryd.prog 123 #[.pointer (some ⟨rb, 0, none⟩), .int .i64 d] W fun e w' => RPost r W.heap.size pages rb x F d s e w' ∧ Off [rb] W w') :
    Calls Tryd.prog 154 #[.pointer (some ⟨rb, 0, none⟩), .int .i64 no, .int .i64 d] w fun e w' =>
      ((no = s.next ∧ RPost r w.heap.size pages rb x F d s e w') ∨ (no ≠ s.next ∧ e = .returned (.tuple #[zeroN, .bool false]))) ∧ Off [rb] w w' := by
  have c1 := hb.2.1 1 _ rfl
  have hrl := hb.1
  have HIH := hid ih
  clear ih hb
  by_cases he : no = s.next
  · have hbe : (no != (s.next : Int)) = false := by rw [he]; simp
    have HI := HIH.out (w.alloc (.cells #[.slice none 0 0, .slice none 0 0, .slice none 0 0] 117)) ((Below.refl _ _).alloc (Nat.le_refl _) _)
    have HE := hid he
    clear he
    go_enter Tryd.func154, Tryd.ntmps154
    go_wp2_with fail
    refine HI.mono ?_
    rintro e w1 ⟨hpost, ho⟩
    have hbx : BoxAt w1 w.heap.size [.slice none 0 0, .slice none 0 0, .slice none 0 0] := (boxNew w #[.slice none 0 0, .slice none 0 0, .slice none 0 0] 117).off ho (by simp; omega)
    have r0 := hbx.2.1 0 _ rfl
    have r1 := hbx.2.1 1 _ rfl
    have r2 := hbx.2.1 2 _ rfl
    have s0 := hbx.2.2 0 (by simp)
    have s1 := hbx.2.2 1 (by simp)
    have s2 := hbx.2.2 2 (by simp)
    have hl := hbx.1
    have hoff : Off [rb] w w1 := (Off.of ((Below.refl _ _).alloc (Nat.le_refl _) _)).trans ho
    have HOF := hid hoff
    rcases hpost with ⟨t, nx, h, kv, vv, cv, h1, rfl, h3, h4⟩ | ⟨h1, rfl⟩
    · obtain ⟨a1, k1, a2, k2, a3, k3, rfl, rfl, rfl⟩ := h3.slices
      have H1 := hid h1
      have H3 := hid h3
      have H4 := hid h4
      clear h1 h3 h4 hbx ho hoff HI HIH
      go_wp2_with fail
      refine bodyPost_ret (by simp [*, results, Tryd.results154, go_sem]; try rfl) rfl ?_
      refine ⟨.inl ⟨HE.out, .inl ⟨t, nx, h, _, _, _, H1.out, rfl, ?_, ?_⟩⟩, off_set (off_set (off_set HOF.out (Nat.le_refl _) _ _) (Nat.le_refl _) _ _) (Nat.le_refl _) _ _⟩
      · refine NodeP.off (S := [w.heap.size]) (off_self _ _ _ _ _) (fun g hg hm => ?_) (NodeP.mono (Q := fun g => (g < r ∨ w.heap.size ≤ g) ∧ g ≠ w.heap.size) (fun g hg _ => ?_) H3.out) |>.mono (fun g hg _ => hg.1)
        · simp at hm; exact hg.2 hm
        · simp only [World.size_alloc] at hg; omega
      · exact H4.out.off (off_self _ _ _ _ _) (by simp; omega)
    · have H1 := hid h1
      clear h1 hbx ho hoff HI HIH
      unfold zeroN
      go_wp2_with fail
      refine bodyPost_ret (by simp [*, results, Tryd.results154, go_sem]; try rfl) rfl ?_
      exact ⟨.inl ⟨HE.out, .inr ⟨H1.out, rfl⟩⟩, off_set (off_set (off_set HOF.out (Nat.le_refl _) _ _) (Nat.le_refl _) _ _) (Nat.le_refl _) _ _⟩
  · have hbe : (no != (s.next : Int)) = true := by rw [bne, beq_false_of_ne he]; rfl
    go_enter Tryd.func154, Tryd.ntmps154
    go_wp2_with fail
    refine bodyPost_ret (by simp [*, results, Tryd.results154, go_sem]; try rfl) rfl ?_
    exact ⟨.inr ⟨he, rfl⟩, Off.of ((Below.refl _ _).alloc (Nat.le_refl _) _)⟩
end Go.Proofs.YtgjcegmjhkehnaaDoor
