/- Rows of the call's own (OwnT.in for a seat without trees). -/
import Derived.Test.YthdodlbhkpoadaaAppI
import Derived.Test.YthdodlbhkpoadaaBoxes
namespace Go.Proofs.Ythdodlbhkpoadaa
open Go.ChangeShapes Go.WideShapes Go.ChangeAt Go.RowKit Go.Deep
set_option linter.unusedVariables false

/-- The block that a slice may be written on in. -/
def obl : Value → List Nat
  | .slice (some a) _ (c + 1) => [a.block]
  | _ => []
/-- A row of the call's own; one without room may lie anywhere. -/
def OwnS (w : World) (base : Nat) (e : TypeId) (v : Value) (n : Nat) (xs : List Value) : Prop :=
  w.ownsRow base e 1 v n xs ∨ (n = 0 ∧ xs = [] ∧ ∃ ao, v = .slice ao 0 0)
/-- The same world but for the blocks S, and new ones. -/
structure Off (S : List Nat) (w w' : World) : Prop where
  os : w'.os = w.os
  tape : w'.tape = w.tape
  output : w'.output = w.output
  size : w.heap.size ≤ w'.heap.size
  block : ∀ k, k < w.heap.size → k ∉ S → w'.heap[k]? = w.heap[k]?
theorem Off.refl (S : List Nat) (w : World) : Off S w w := ⟨rfl, rfl, rfl, Nat.le_refl _, fun _ _ _ => rfl⟩
theorem Off.trans {S : List Nat} {a b c : World} (h : Off S a b) (g : Off S b c) : Off S a c :=
  ⟨g.os.trans h.os, g.tape.trans h.tape, g.output.trans h.output, Nat.le_trans h.size g.size, fun k hk hs => (g.block k (Nat.lt_of_lt_of_le hk h.size) hs).trans (h.block k hk hs)⟩
theorem Off.mono {S T : List Nat} {a b : World} (h : Off S a b) (hs : ∀ g ∈ S, g ∈ T ∨ a.heap.size ≤ g) : Off T a b :=
  ⟨h.os, h.tape, h.output, h.size, fun k hk hn => h.block k hk fun hm => by rcases hs k hm with h | h; exact hn h; omega⟩
theorem Off.of {S : List Nat} {a b : World} (h : Below a.heap.size a b) : Off S a b := ⟨h.os, h.tape, h.output, h.size, fun k hk _ => h.block k hk⟩
theorem Off.below {S : List Nat} {a b : World} {B : Nat} (h : Off S a b) (hB : B ≤ a.heap.size) (hs : ∀ g ∈ S, B ≤ g) : Below B a b :=
  ⟨h.os, h.tape, h.output, h.size, fun k hk => h.block k (Nat.lt_of_lt_of_le hk hB) fun hm => by have := hs k hm; omega⟩
theorem own_keep {w w' : World} {base : Nat} {e : TypeId} {v : Value} {n : Nat} {xs : List Value} (h : OwnS w base e v n xs) (hk : ∀ g ∈ obl v, w'.heap[g]? = w.heap[g]?) : OwnS w' base e v n xs := by
  rcases h with h | h
  · rcases h.2 with h2 | ⟨g, cap, cur, rfl, h3, h4, h5, h6, h7, h8⟩
    · exact .inl ⟨h.1, .inl h2⟩
    · cases cap with
      | zero =>
        have hn : n = 0 := by omega
        subst hn
        exact .inr ⟨rfl, List.eq_nil_of_length_eq_zero (by simpa using h.1), _, rfl⟩
      | succ c => exact .inl ⟨h.1, .inr ⟨g, c + 1, cur, rfl, h3, (hk g (by simp [obl])).trans h4, h5, h6, h7, h8⟩⟩
  · exact .inr h
theorem OwnS.nil (w : World) (base : Nat) (e : TypeId) : OwnS w base e (.slice none 0 0) 0 [] := .inr ⟨rfl, rfl, _, rfl⟩
theorem own_lt {w : World} {base : Nat} {e : TypeId} {v : Value} {n : Nat} {xs : List Value} (h : OwnS w base e v n xs) : ∀ g ∈ obl v, base ≤ g ∧ g < w.heap.size := by
  intro g hg
  rcases h with h | ⟨_, _, ao, rfl⟩
  · rcases h.2 with ⟨rfl, _⟩ | ⟨g', cap, cur, rfl, h3, h4, h5⟩
    · simp [obl] at hg
    · cases cap with
      | zero => simp [obl] at hg
      | succ c =>
        simp [obl] at hg
        subst hg
        exact ⟨h3, by rw [Array.getElem?_eq_some_iff] at h4; exact h4.1⟩
  · cases ao <;> simp [obl] at hg
theorem own_mono {w : World} {base base' : Nat} {e : TypeId} {v : Value} {n : Nat} {xs : List Value} (h : OwnS w base e v n xs) (hb : base' ≤ base) : OwnS w base' e v n xs := by
  rcases h with h | h
  · refine .inl ⟨h.1, ?_⟩
    rcases h.2 with h2 | ⟨g, cap, cur, rfl, h3, h4⟩
    · exact .inl h2
    · exact .inr ⟨g, cap, cur, rfl, Nat.le_trans hb h3, h4⟩
  · exact .inr h
theorem OwnS.below {w w' : World} {base : Nat} {e : TypeId} {v : Value} {n : Nat} {xs : List Value} (h : OwnS w base e v n xs) (hb : Below w.heap.size w w') : OwnS w' base e v n xs := own_keep h fun g hg => hb.block g (own_lt h g hg).2
theorem OwnS.alloc {w : World} {base : Nat} {e : TypeId} {v : Value} {n : Nat} {xs : List Value} (h : OwnS w base e v n xs) (o : Obj) : OwnS (w.alloc o) base e v n xs := h.below ((Below.refl _ _).alloc (Nat.le_refl _) o)
theorem OwnS.off {w w' : World} {base : Nat} {e : TypeId} {v : Value} {n : Nat} {xs : List Value} {S : List Nat} (h : OwnS w base e v n xs) (hb : Off S w w') (hd : ∀ g ∈ obl v, g ∉ S) : OwnS w' base e v n xs := own_keep h fun g hg => hb.block g (own_lt h g hg).2 (hd g hg)
theorem rows_of_ownS {w : World} {base : Nat} {e : TypeId} {n : Nat} {v : Value} {xs : List Value} (h : OwnS w base e v n xs) : RowsAt w 1 v n xs := by
  rcases h with h | ⟨rfl, rfl, ao, rfl⟩
  · exact rows_of_own h
  · exact ⟨rfl, ao, 0, rfl, Nat.le_refl _, fun _ => ⟨rfl, rfl⟩, .inl rfl⟩
section
variable {P : Program}
theorem obl_sub (v : Value) : ∀ g ∈ obl v, v.ownBlock = some g := by
  intro g hg
  unfold obl at hg
  split at hg
  · simp at hg; subst hg; rfl
  · simp at hg
/-- 'append' on a row of the call's own. -/
theorem appS (w : World) (base : Nat) (t ty e : TypeId) (i : TypeInfo) (z : Value) (bytes : Nat) (ht : P.underlying t = some (.slice e)) (hi : P.info? e = some i) (hz : i.zero = some z)
    (hsize : i.size = 1) (hby : i.bytes = bytes) (hzs : z.cells.size = 1)
    (v : Value) (n : Nat) (xs : List Value) (hown : OwnS w base e v n xs)
    (x : Value) (m : Nat) (news : List Value) (hx : RowsAt w 1 x m news) (h1 : ∀ u ∈ news, u.oneCell' = true)
    (h63 : n + m ≤ maxLen) (hbytes : (n + m) * bytes ≤ 140737488355328) (hbase : base ≤ w.heap.size) :
    ∃ v' w', (Builtin.append_ #[t, t] ty #[v, x]).run P w = .ok v' w' ∧ OwnS w' base e v' (n + m) (xs ++ news) ∧ Off (obl v) w w' ∧ (∀ g ∈ obl v', g ∈ obl v ∨ w.heap.size ≤ g) := by
  by_cases hv : ∃ ao, v = .slice ao 0 0
  · have hn : n = 0 ∧ xs = [] := by
      obtain ⟨ao, rfl⟩ := hv
      rcases hown with h | ⟨h, h', _⟩
      · rcases h.2 with ⟨_, h2⟩ | ⟨g, cap, cur, he, _⟩
        · subst h2; exact ⟨rfl, List.eq_nil_of_length_eq_zero (by simpa using h.1)⟩
        · cases he; exact ⟨rfl, List.eq_nil_of_length_eq_zero (by simpa using h.1)⟩
      · exact ⟨h, h'⟩
    obtain ⟨rfl, rfl⟩ := hn
    obtain ⟨ao, rfl⟩ := hv
    have ho : obl (.slice ao 0 0) = [] := by cases ao <;> rfl
    obtain ⟨hl, ax, c, rfl, hc, hn, hr⟩ := hx
    by_cases hm : m = 0
    · subst hm
      have : news = [] := List.eq_nil_of_length_eq_zero (by simpa using hl)
      subst this
      obtain ⟨v', w', r1, r2, r3⟩ := appCap (P := P) w t ty e i z 1 bytes ht hi hz hsize hby hzs (by decide) ao 0 [] ⟨rfl, ao, 0, rfl, Nat.le_refl _, fun _ => ⟨rfl, rfl⟩, .inl rfl⟩ (.slice ax 0 c) 0 [] ⟨hl, ax, c, rfl, hc, hn, hr⟩ h1 h63 hbytes
      have hrun : (Builtin.append_ #[t, t] ty #[.slice ao 0 0, .slice ax 0 c]).run P w = .ok (.slice ao 0 0) w := by
        have hu := run_underlying (P := P) ht
        have hf : ∀ ad, (Builtin.firstCells i.size 0 (.slice (some ad) 0 c)).run P w = .ok #[] w := fun ad => run_firstCells_some (P := P) w i.size 0 ad 0 c [] (by simp) (by simp)
        cases ax with
        | none => cases ao <;> simp [Builtin.append_, hu, sizeOf, typeInfo, hi, Builtin.lenOf, Builtin.firstCells, storeCells]
        | some ad =>
          have := hf ad
          cases ao <;> simp [Builtin.append_, hu, sizeOf, typeInfo, hi, Builtin.lenOf, storeCells, this]
      exact ⟨_, _, hrun, .inr ⟨rfl, rfl, ao, rfl⟩, Off.refl _ _, fun g hg => by rw [ho] at hg; simp at hg⟩
    · obtain ⟨bx, ox, rfl, _, hcell⟩ : ∃ b off, ax = some ⟨b, off, none⟩ ∧ b < w.heap.size ∧ ∀ j u, news[j]? = some u → w.cell? ⟨b, off + j, none⟩ = some u := by
        rcases hr with h | h
        · exact absurd h hm
        · exact h
      have hnews : ∀ j u, news[j]? = some u → w.cell? ((⟨bx, ox, none⟩ : Addr).add j) = some u := fun j u hj => by rw [Addr.add_lit]; exact hcell j u hj
      have fin : ∀ v' w', w'.ownsRow w.heap.size e 1 v' (0 + m) ([] ++ news) → w.grownBy w' none → OwnS w' base e v' (0 + m) ([] ++ news) ∧ Off (obl (.slice ao 0 0)) w w' ∧ (∀ g ∈ obl v', g ∈ obl (.slice ao 0 0) ∨ w.heap.size ≤ g) := by
        intro v' w' r2 r3
        exact ⟨own_mono (.inl r2) hbase, ⟨r3.os, r3.tape, r3.output, r3.size, fun k hk _ => r3.block k hk (by simp)⟩, fun g hg => .inr (own_lt (.inl r2) g hg).1⟩
      cases ao with
      | none =>
        obtain ⟨v', w', r1, r2, r3, _⟩ := run_append_own_at (P := P) w w.heap.size t ty e i z 1 bytes ht hi hz hsize hby hzs (by decide) (.slice none 0 0) 0 [] (World.ownsRow_nil w _ e 1) ⟨bx, ox, none⟩ m c news hl hnews h1 h63 hbytes (Nat.le_refl _)
        exact ⟨v', w', r1, fin v' w' r2 r3⟩
      | some ad =>
        obtain ⟨v', w', r1, r2, r3⟩ := run_append_arg_grows (P := P) w t ty e i z 1 bytes ht hi hz hsize hby hzs (by decide) ad 0 0 [] rfl (by simp) ⟨bx, ox, none⟩ m c news hl hnews (by omega) h63 hbytes
        exact ⟨v', w', r1, fin v' w' r2 r3⟩
  · rcases hown with h | ⟨_, _, ao, rfl⟩
    · obtain ⟨v', w', r1, r2, r3, r4⟩ := appOwn (P := P) w base t ty e i z 1 bytes ht hi hz hsize hby hzs (by decide) v n xs h x m news hx h1 h63 hbytes hbase
      have hob : v.ownBlock.toList = obl v := by
        rcases h.2 with ⟨rfl, _⟩ | ⟨g, cap, cur, rfl, h3, h4, h5, _⟩
        · exact absurd ⟨none, rfl⟩ hv
        · cases cap with
          | zero =>
            have : n = 0 := by omega
            subst this
            exact absurd ⟨_, rfl⟩ hv
          | succ c => rfl
      refine ⟨v', w', r1, .inl r2, ⟨r3.os, r3.tape, r3.output, r3.size, fun k hk hn => r3.block k hk fun he => hn (by rw [← hob, ← he]; simp)⟩, fun g hg => ?_⟩
      have hg2 := obl_sub v' g hg
      rcases r4 with r4 | r4
      · left; rw [← hob, ← r4, hg2]; simp
      · right; rw [r4] at hg2; simp at hg2; omega
    · exact absurd ⟨ao, rfl⟩ hv
theorem wplS {w : World} {ops : Array Oper} {rest : List Oper} {o : Oper} {a : Act} {Q : Exit → Act → World → Prop} (hgd : o.guard = none) (s x : Operand) (t : TypeId)
    (ho : o.op = .call { callee := .builtin .append, args := #[s, x], argTypes := #[t, t] })
    (base : Nat) (e : TypeId) (i : TypeInfo) (z : Value) (bytes : Nat) (ht : P.underlying t = some (.slice e)) (hi : P.info? e = some i) (hz : i.zero = some z)
    (hsize : i.size = 1) (hby : i.bytes = bytes) (hzs : z.cells.size = 1)
    (v : Value) (n : Nat) (xs : List Value) (hs : a.eval s = v) (hown : OwnS w base e v n xs)
    (xv : Value) (m : Nat) (news : List Value) (hx : a.eval x = xv) (hrow : RowsAt w 1 xv m news) (h1 : ∀ u ∈ news, u.oneCell' = true)
    (h63 : n + m ≤ maxLen) (hbytes : (n + m) * bytes ≤ 140737488355328) (hbase : base ≤ w.heap.size)
    (h : ∀ v' w', OwnS w' base e v' (n + m) (xs ++ news) → Off (obl v) w w' → (∀ g ∈ obl v', g ∈ obl v ∨ w.heap.size ≤ g) → wpList P ops Q rest (a.put o.dst v') w') :
    wpList P ops Q (o :: rest) a w := by
  refine wpList_plain hgd fun K hK => ?_
  obtain ⟨v', w', hr, h2, h3, h5⟩ := appS (P := P) w base t o.type e i z bytes ht hi hz hsize hby hzs v n xs hown xv m news hrow h1 h63 hbytes hbase
  unfold Oper.wp execOp
  simp only [ho, resolve, invoke, builtin, Sem.run_bind, Sem.run_pure, Result.andThen_ok, List.map_toArray, List.map_cons, List.map_nil, hs, hx, hr]
  exact hK _ _ (h v' w' h2 h3 h5)
theorem stepS {ops : Array Oper} {o : Oper} {a : Act} {w : World} {K : Act → World → Prop} {Q : Exit → Act → World → Prop} {E : Prop}
    (hg : o.guard = none) (s x : Operand) (t : TypeId) (ho : o.op = Op.call { callee := Callee.builtin Builtin.append, args := #[s, x], argTypes := #[t, t] })
    (base : Nat) (e : TypeId) (i : TypeInfo) (z : Value) (bytes : Nat) (ht : P.underlying t = some (.slice e)) (hi : P.info? e = some i) (hz : i.zero = some z)
    (hsize : i.size = 1) (hby : i.bytes = bytes) (hzs : z.cells.size = 1)
    (v : Value) (n : Nat) (xs : List Value) (hs : a.eval s = v) (hown : OwnS w base e v n xs)
    (xv : Value) (m : Nat) (news : List Value) (hx : a.eval x = xv) (hrow : RowsAt w 1 xv m news) (h1 : ∀ u ∈ news, u.oneCell' = true)
    (h63 : n + m ≤ maxLen) (hbytes : (n + m) * bytes ≤ 140737488355328) (hbase : base ≤ w.heap.size)
    (hK : ∀ v' w', OwnS w' base e v' (n + m) (xs ++ news) → Off (obl v) w w' → (∀ g ∈ obl v', g ∈ obl v ∨ w.heap.size ≤ g) → K (a.put o.dst v') w') :
    if Region.wanted o (yielded ops a.tmps) = true then Oper.wp P o a w K Q else E := by
  have hw : Region.wanted o (yielded ops a.tmps) = true := by simp [Region.wanted, hg]
  rw [if_pos hw]
  obtain ⟨v', w', hr, h2, h3, h5⟩ := appS (P := P) w base t o.type e i z bytes ht hi hz hsize hby hzs v n xs hown xv m news hrow h1 h63 hbytes hbase
  unfold Oper.wp
  simp [execOp, ho, resolve, invoke, builtin, hs, hx, hr, Result.andThen]
  exact hK v' w' h2 h3 h5
end
theorem RowsAt.slice {w : World} {size m : Nat} {x : Value} {news : List Value} (h : RowsAt w size x m news) : ∃ a c, x = .slice a m c := by
  obtain ⟨_, ao, c, rfl, _⟩ := h
  exact ⟨ao, c, rfl⟩
/-- An element's cell. -/
theorem RowsAt.cell1 {w : World} {m : Nat} {x : Value} {news : List Value} (h : RowsAt w 1 x m news) {i : Nat} (hi : i < m) : ∃ b off c, x = .slice (some ⟨b, off, none⟩) m c ∧ b < w.heap.size ∧ w.cell? ⟨b, off + i, none⟩ = some (news.getD i default) := by
  obtain ⟨h1, ao, c, rfl, h3, h4, h5⟩ := h
  rcases h5 with h5 | ⟨b, off, rfl, hl, hc⟩
  · omega
  · exact ⟨b, off, c, rfl, hl, hc i _ (by simp [List.getD, show i < news.length by omega])⟩
theorem ownRow_of {w : World} {base : Nat} {e : TypeId} {v : Value} {n : Nat} {xs : List Value} (h : w.ownsRow base e 1 v n xs) (hn : 0 < n) :
    ∃ g cap, v = .slice (some ⟨g, 0, none⟩) n cap ∧ OwnRow base w g n (fun i => xs.getD i default) := by
  obtain ⟨hl, ⟨_, h0⟩ | ⟨g, cap, cur, rfl, hb, hcur, hc, hm, hs, ht⟩⟩ := h
  · omega
  · rw [Nat.mul_one] at hl hs ht
    have hlt : g < w.heap.size := by
      rcases Nat.lt_or_ge g w.heap.size with hlt | hge
      · exact hlt
      · rw [Array.getElem?_eq_none hge] at hcur; cases hcur
    refine ⟨g, cap, rfl, hb, hlt, fun i hi => ?_, fun i hi => ?_⟩
    · have : cur[i]? = some (xs.getD i default) := by
        have hx : xs[i]? = cur.toList[i]? := by rw [← ht, List.getElem?_take_of_lt hi]
        have hi2 : i < xs.length := by omega
        rw [List.getElem?_eq_getElem hi2] at hx
        rw [← Array.getElem?_toList, ← hx]
        simp [List.getD, hi2]
      simp [World.cell?, hcur, this]
    · simp [World.frozen?, hcur]
theorem row_of_ownS {w : World} {B n : Nat} {e : TypeId} {v : Value} {xs : List Value} (h : OwnS w B e v n xs) : (n = 0 ∧ ∃ a c, v = .slice a 0 c) ∨ (0 < n ∧ ∃ g cap, v = .slice (some ⟨g, 0, none⟩) n cap ∧ g ∈ obl v ∧ OwnRow B w g n (fun i => xs.getD i default)) := by
  rcases Nat.eq_zero_or_pos n with h0 | h0
  · subst h0
    obtain ⟨a, c, rfl⟩ := (rows_of_ownS h).slice
    exact .inl ⟨rfl, a, c, rfl⟩
  · rcases h with h | ⟨h1, _⟩
    · obtain ⟨g, cap, hv, ho⟩ := ownRow_of h h0
      refine .inr ⟨h0, g, cap, hv, ?_, ho⟩
      rcases h.2 with ⟨_, h2⟩ | ⟨g', cap', cur, hv', _, _, hc, _⟩
      · omega
      · rw [hv] at hv'
        cases hv'
        subst hv
        cases cap with
        | zero => omega
        | succ c => simp [obl]
    · omega
end Go.Proofs.Ythdodlbhkpoadaa
