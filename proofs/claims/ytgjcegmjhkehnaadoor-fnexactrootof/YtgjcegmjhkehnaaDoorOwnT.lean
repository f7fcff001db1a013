/- The model's tree in memory: a block a page, its rows, its kids; all of it the call's own. -/
import Derived.Test.YtgjcegmjhkehnaaDoorNd
import Derived.Test.YtgjcegmjhkehnaaDoorApp
import Derived.Test.YtgjcegmjhkehnaaDoorBoxes
namespace Go.Proofs.YtgjcegmjhkehnaaDoor
open Go.ChangeShapes Go.WideShapes Go.ChangeAt Go.RowKit Go.Deep
set_option linter.unusedVariables false

def keysV (p : List Pr) : List Value := p.map fun q => .string q.1
def valsV (p : List Pr) : List Value := p.map fun q => .string q.2
/-- The block that a slice may be written on in. -/
def obl : Value → List Nat
  | .slice (some a) _ (c + 1) => [a.block]
  | _ => []
/-- A row of the call's own; one without room may lie anywhere. -/
def OwnS (w : World) (base : Nat) (e : TypeId) (v : Value) (n : Nat) (xs : List Value) : Prop :=
  w.ownsRow base e 1 v n xs ∨ (n = 0 ∧ xs = [] ∧ ∃ ao, v = .slice ao 0 0)
/-- The same world but for the blocks S, and new ones. -/
structure Off (S : List Nat) (w w' : World) : Prop where
  os : w'.os = w.os
  tape : w'.tape = w.tape
  output : w'.output = w.output
  size : w.heap.size ≤ w'.heap.size
  block : ∀ k, k < w.heap.size → k ∉ S → w'.heap[k]? = w.heap[k]?
theorem Off.refl (S : List Nat) (w : World) : Off S w w := ⟨rfl, rfl, rfl, Nat.le_refl _, fun _ _ _ => rfl⟩
theorem Off.trans {S : List Nat} {a b c : World} (h : Off S a b) (g : Off S b c) : Off S a c :=
  ⟨g.os.trans h.os, g.tape.trans h.tape, g.output.trans h.output, Nat.le_trans h.size g.size, fun k hk hs => (g.block k (Nat.lt_of_lt_of_le hk h.size) hs).trans (h.block k hk hs)⟩
theorem Off.mono {S T : List Nat} {a b : World} (h : Off S a b) (hs : ∀ g ∈ S, g ∈ T ∨ a.heap.size ≤ g) : Off T a b :=
  ⟨h.os, h.tape, h.output, h.size, fun k hk hn => h.block k hk fun hm => by rcases hs k hm with h | h; exact hn h; omega⟩
theorem Off.of {S : List Nat} {a b : World} (h : Below a.heap.size a b) : Off S a b := ⟨h.os, h.tape, h.output, h.size, fun k hk _ => h.block k hk⟩
theorem Off.below {S : List Nat} {a b : World} {B : Nat} (h : Off S a b) (hB : B ≤ a.heap.size) (hs : ∀ g ∈ S, B ≤ g) : Below B a b :=
  ⟨h.os, h.tape, h.output, h.size, fun k hk => h.block k (Nat.lt_of_lt_of_le hk hB) fun hm => by have := hs k hm; omega⟩
theorem own_keep {w w' : World} {base : Nat} {e : TypeId} {v : Value} {n : Nat} {xs : List Value} (h : OwnS w base e v n xs) (hk : ∀ g ∈ obl v, w'.heap[g]? = w.heap[g]?) : OwnS w' base e v n xs := by
  rcases h with h | h
  · rcases h.2 with h2 | ⟨g, cap, cur, rfl, h3, h4, h5, h6, h7, h8⟩
    · exact .inl ⟨h.1, .inl h2⟩
    · cases cap with
      | zero =>
        have hn : n = 0 := by omega
        subst hn
        exact .inr ⟨rfl, List.eq_nil_of_length_eq_zero (by simpa using h.1), _, rfl⟩
      | succ c => exact .inl ⟨h.1, .inr ⟨g, c + 1, cur, rfl, h3, (hk g (by simp [obl])).trans h4, h5, h6, h7, h8⟩⟩
  · exact .inr h
theorem OwnS.nil (w : World) (base : Nat) (e : TypeId) : OwnS w base e (.slice none 0 0) 0 [] := .inr ⟨rfl, rfl, _, rfl⟩
theorem own_lt {w : World} {base : Nat} {e : TypeId} {v : Value} {n : Nat} {xs : List Value} (h : OwnS w base e v n xs) : ∀ g ∈ obl v, base ≤ g ∧ g < w.heap.size := by
  intro g hg
  rcases h with h | ⟨_, _, ao, rfl⟩
  · rcases h.2 with ⟨rfl, _⟩ | ⟨g', cap, cur, rfl, h3, h4, h5⟩
    · simp [obl] at hg
    · cases cap with
      | zero => simp [obl] at hg
      | succ c =>
        simp [obl] at hg
        subst hg
        exact ⟨h3, by rw [Array.getElem?_eq_some_iff] at h4; exact h4.1⟩
  · cases ao <;> simp [obl] at hg
theorem own_mono {w : World} {base base' : Nat} {e : TypeId} {v : Value} {n : Nat} {xs : List Value} (h : OwnS w base e v n xs) (hb : base' ≤ base) : OwnS w base' e v n xs := by
  rcases h with h | h
  · refine .inl ⟨h.1, ?_⟩
    rcases h.2 with h2 | ⟨g, cap, cur, rfl, h3, h4⟩
    · exact .inl h2
    · exact .inr ⟨g, cap, cur, rfl, Nat.le_trans hb h3, h4⟩
  · exact .inr h
theorem OwnS.below {w w' : World} {base : Nat} {e : TypeId} {v : Value} {n : Nat} {xs : List Value} (h : OwnS w base e v n xs) (hb : Below w.heap.size w w') : OwnS w' base e v n xs := own_keep h fun g hg => hb.block g (own_lt h g hg).2
theorem OwnS.alloc {w : World} {base : Nat} {e : TypeId} {v : Value} {n : Nat} {xs : List Value} (h : OwnS w base e v n xs) (o : Obj) : OwnS (w.alloc o) base e v n xs := h.below ((Below.refl _ _).alloc (Nat.le_refl _) o)
theorem OwnS.off {w w' : World} {base : Nat} {e : TypeId} {v : Value} {n : Nat} {xs : List Value} {S : List Nat} (h : OwnS w base e v n xs) (hb : Off S w w') (hd : ∀ g ∈ obl v, g ∉ S) : OwnS w' base e v n xs := own_keep h fun g hg => hb.block g (own_lt h g hg).2 (hd g hg)
theorem rows_of_ownS {w : World} {base : Nat} {e : TypeId} {n : Nat} {v : Value} {xs : List Value} (h : OwnS w base e v n xs) : RowsAt w 1 v n xs := by
  rcases h with h | ⟨rfl, rfl, ao, rfl⟩
  · exact rows_of_own h
  · exact ⟨rfl, ao, 0, rfl, Nat.le_refl _, fun _ => ⟨rfl, rfl⟩, .inl rfl⟩
section
variable {P : Program}
theorem obl_sub (v : Value) : ∀ g ∈ obl v, v.ownBlock = some g := by
  intro g hg
  unfold obl at hg
  split at hg
  · simp at hg; subst hg; rfl
  · simp at hg
/-- 'append' on a row of the call's own. -/
theorem appS (w : World) (base : Nat) (t ty e : TypeId) (i : TypeInfo) (z : Value) (bytes : Nat) (ht : P.underlying t = some (.slice e)) (hi : P.info? e = some i) (hz : i.zero = some z)
    (hsize : i.size = 1) (hby : i.bytes = bytes) (hzs : z.cells.size = 1)
    (v : Value) (n : Nat) (xs : List Value) (hown : OwnS w base e v n xs)
    (x : Value) (m : Nat) (news : List Value) (hx : RowsAt w 1 x m news) (h1 : ∀ u ∈ news, u.oneCell' = true)
    (h63 : n + m ≤ maxLen) (hbytes : (n + m) * bytes ≤ 140737488355328) (hbase : base ≤ w.heap.size) :
    ∃ v' w', (Builtin.append_ #[t, t] ty #[v, x]).run P w = .ok v' w' ∧ OwnS w' base e v' (n + m) (xs ++ news) ∧ Off (obl v) w w' ∧ (∀ g ∈ obl v', g ∈ obl v ∨ w.heap.size ≤ g) := by
  by_cases hv : ∃ ao, v = .slice ao 0 0
  · have hn : n = 0 ∧ xs = [] := by
      obtain ⟨ao, rfl⟩ := hv
      rcases hown with h | ⟨h, h', _⟩
      · rcases h.2 with ⟨_, h2⟩ | ⟨g, cap, cur, he, _⟩
        · subst h2; exact ⟨rfl, List.eq_nil_of_length_eq_zero (by simpa using h.1)⟩
        · cases he; exact ⟨rfl, List.eq_nil_of_length_eq_zero (by simpa using h.1)⟩
      · exact ⟨h, h'⟩
    obtain ⟨rfl, rfl⟩ := hn
    obtain ⟨ao, rfl⟩ := hv
    have ho : obl (.slice ao 0 0) = [] := by cases ao <;> rfl
    obtain ⟨hl, ax, c, rfl, hc, hn, hr⟩ := hx
    by_cases hm : m = 0
    · subst hm
      have : news = [] := List.eq_nil_of_length_eq_zero (by simpa using hl)
      subst this
      obtain ⟨v', w', r1, r2, r3⟩ := appCap (P := P) w t ty e i z 1 bytes ht hi hz hsize hby hzs (by decide) ao 0 [] ⟨rfl, ao, 0, rfl, Nat.le_refl _, fun _ => ⟨rfl, rfl⟩, .inl rfl⟩ (.slice ax 0 c) 0 [] ⟨hl, ax, c, rfl, hc, hn, hr⟩ h1 h63 hbytes
      have hrun : (Builtin.append_ #[t, t] ty #[.slice ao 0 0, .slice ax 0 c]).run P w = .ok (.slice ao 0 0) w := by
        have hu := run_underlying (P := P) ht
        have hf : ∀ ad, (Builtin.firstCells i.size 0 (.slice (some ad) 0 c)).run P w = .ok #[] w := fun ad => run_firstCells_some (P := P) w i.size 0 ad 0 c [] (by simp) (by simp)
        cases ax with
        | none => cases ao <;> simp [Builtin.append_, hu, sizeOf, typeInfo, hi, Builtin.lenOf, Builtin.firstCells, storeCells]
        | some ad =>
          have := hf ad
          cases ao <;> simp [Builtin.append_, hu, sizeOf, typeInfo, hi, Builtin.lenOf, storeCells, this]
      exact ⟨_, _, hrun, .inr ⟨rfl, rfl, ao, rfl⟩, Off.refl _ _, fun g hg => by rw [ho] at hg; simp at hg⟩
    · obtain ⟨bx, ox, rfl, _, hcell⟩ : ∃ b off, ax = some ⟨b, off, none⟩ ∧ b < w.heap.size ∧ ∀ j u, news[j]? = some u → w.cell? ⟨b, off + j, none⟩ = some u := by
        rcases hr with h | h
        · exact absurd h hm
        · exact h
      have hnews : ∀ j u, news[j]? = some u → w.cell? ((⟨bx, ox, none⟩ : Addr).add j) = some u := fun j u hj => by rw [Addr.add_lit]; exact hcell j u hj
      have fin : ∀ v' w', w'.ownsRow w.heap.size e 1 v' (0 + m) ([] ++ news) → w.grownBy w' none → OwnS w' base e v' (0 + m) ([] ++ news) ∧ Off (obl (.slice ao 0 0)) w w' ∧ (∀ g ∈ obl v', g ∈ obl (.slice ao 0 0) ∨ w.heap.size ≤ g) := by
        intro v' w' r2 r3
        exact ⟨own_mono (.inl r2) hbase, ⟨r3.os, r3.tape, r3.output, r3.size, fun k hk _ => r3.block k hk (by simp)⟩, fun g hg => .inr (own_lt (.inl r2) g hg).1⟩
      cases ao with
      | none =>
        obtain ⟨v', w', r1, r2, r3, _⟩ := run_append_own_at (P := P) w w.heap.size t ty e i z 1 bytes ht hi hz hsize hby hzs (by decide) (.slice none 0 0) 0 [] (World.ownsRow_nil w _ e 1) ⟨bx, ox, none⟩ m c news hl hnews h1 h63 hbytes (Nat.le_refl _)
        exact ⟨v', w', r1, fin v' w' r2 r3⟩
      | some ad =>
        obtain ⟨v', w', r1, r2, r3⟩ := run_append_arg_grows (P := P) w t ty e i z 1 bytes ht hi hz hsize hby hzs (by decide) ad 0 0 [] rfl (by simp) ⟨bx, ox, none⟩ m c news hl hnews (by omega) h63 hbytes
        exact ⟨v', w', r1, fin v' w' r2 r3⟩
  · rcases hown with h | ⟨_, _, ao, rfl⟩
    · obtain ⟨v', w', r1, r2, r3, r4⟩ := appOwn (P := P) w base t ty e i z 1 bytes ht hi hz hsize hby hzs (by decide) v n xs h x m news hx h1 h63 hbytes hbase
      have hob : v.ownBlock.toList = obl v := by
        rcases h.2 with ⟨rfl, _⟩ | ⟨g, cap, cur, rfl, h3, h4, h5, _⟩
        · exact absurd ⟨none, rfl⟩ hv
        · cases cap with
          | zero =>
            have : n = 0 := by omega
            subst this
            exact absurd ⟨_, rfl⟩ hv
          | succ c => rfl
      refine ⟨v', w', r1, .inl r2, ⟨r3.os, r3.tape, r3.output, r3.size, fun k hk hn => r3.block k hk fun he => hn (by rw [← hob, ← he]; simp)⟩, fun g hg => ?_⟩
      have hg2 := obl_sub v' g hg
      rcases r4 with r4 | r4
      · left; rw [← hob, ← r4, hg2]; simp
      · right; rw [r4] at hg2; simp at hg2; omega
    · exact absurd ⟨ao, rfl⟩ hv
theorem wplS {w : World} {ops : Array Oper} {rest : List Oper} {o : Oper} {a : Act} {Q : Exit → Act → World → Prop} (hgd : o.guard = none) (s x : Operand) (t : TypeId)
    (ho : o.op = .call { callee := .builtin .append, args := #[s, x], argTypes := #[t, t] })
    (base : Nat) (e : TypeId) (i : TypeInfo) (z : Value) (bytes : Nat) (ht : P.underlying t = some (.slice e)) (hi : P.info? e = some i) (hz : i.zero = some z)
    (hsize : i.size = 1) (hby : i.bytes = bytes) (hzs : z.cells.size = 1)
    (v : Value) (n : Nat) (xs : List Value) (hs : a.eval s = v) (hown : OwnS w base e v n xs)
    (xv : Value) (m : Nat) (news : List Value) (hx : a.eval x = xv) (hrow : RowsAt w 1 xv m news) (h1 : ∀ u ∈ news, u.oneCell' = true)
    (h63 : n + m ≤ maxLen) (hbytes : (n + m) * bytes ≤ 140737488355328) (hbase : base ≤ w.heap.size)
    (h : ∀ v' w', OwnS w' base e v' (n + m) (xs ++ news) → Off (obl v) w w' → (∀ g ∈ obl v', g ∈ obl v ∨ w.heap.size ≤ g) → wpList P ops Q rest (a.put o.dst v') w') :
    wpList P ops Q (o :: rest) a w := by
  refine wpList_plain hgd fun K hK => ?_
  obtain ⟨v', w', hr, h2, h3, h5⟩ := appS (P := P) w base t o.type e i z bytes ht hi hz hsize hby hzs v n xs hown xv m news hrow h1 h63 hbytes hbase
  unfold Oper.wp execOp
  simp only [ho, resolve, invoke, builtin, Sem.run_bind, Sem.run_pure, Result.andThen_ok, List.map_toArray, List.map_cons, List.map_nil, hs, hx, hr]
  exact hK _ _ (h v' w' h2 h3 h5)
theorem stepS {ops : Array Oper} {o : Oper} {a : Act} {w : World} {K : Act → World → Prop} {Q : Exit → Act → World → Prop} {E : Prop}
    (hg : o.guard = none) (s x : Operand) (t : TypeId) (ho : o.op = Op.call { callee := Callee.builtin Builtin.append, args := #[s, x], argTypes := #[t, t] })
    (base : Nat) (e : TypeId) (i : TypeInfo) (z : Value) (bytes : Nat) (ht : P.underlying t = some (.slice e)) (hi : P.info? e = some i) (hz : i.zero = some z)
    (hsize : i.size = 1) (hby : i.bytes = bytes) (hzs : z.cells.size = 1)
    (v : Value) (n : Nat) (xs : List Value) (hs : a.eval s = v) (hown : OwnS w base e v n xs)
    (xv : Value) (m : Nat) (news : List Value) (hx : a.eval x = xv) (hrow : RowsAt w 1 xv m news) (h1 : ∀ u ∈ news, u.oneCell' = true)
    (h63 : n + m ≤ maxLen) (hbytes : (n + m) * bytes ≤ 140737488355328) (hbase : base ≤ w.heap.size)
    (hK : ∀ v' w', OwnS w' base e v' (n + m) (xs ++ news) → Off (obl v) w w' → (∀ g ∈ obl v', g ∈ obl v ∨ w.heap.size ≤ g) → K (a.put o.dst v') w') :
    if Region.wanted o (yielded ops a.tmps) = true then Oper.wp P o a w K Q else E := by
  have hw : Region.wanted o (yielded ops a.tmps) = true := by simp [Region.wanted, hg]
  rw [if_pos hw]
  obtain ⟨v', w', hr, h2, h3, h5⟩ := appS (P := P) w base t o.type e i z bytes ht hi hz hsize hby hzs v n xs hown xv m news hrow h1 h63 hbytes hbase
  unfold Oper.wp
  simp [execOp, ho, resolve, invoke, builtin, hs, hx, hr, Result.andThen]
  exact hK v' w' h2 h3 h5
end
mutual
/-- The pointer v leads to the tree, in the blocks F and no others. -/
def OwnT (w : World) (base : Nat) : Nd → Value → List Nat → Prop
  | .mk p kids, v, F => ∃ b kv vv cv ps Fc, v = .pointer (some ⟨b, 0, none⟩) ∧ base ≤ b ∧ w.heap[b]? = some (.cells #[kv, vv, cv] 178 (0, 0)) ∧
      OwnS w base 9 kv p.length (keysV p) ∧ OwnS w base 9 vv p.length (valsV p) ∧ OwnS w base 106 cv kids.length ps ∧
      OwnTs w base kids ps Fc ∧ F = b :: (obl kv ++ obl vv ++ obl cv ++ Fc) ∧ F.Nodup
def OwnTs (w : World) (base : Nat) : List Nd → List Value → List Nat → Prop
  | [], ps, F => ps = [] ∧ F = []
  | k :: ks, ps, F => ∃ p ps' F1 F2, ps = p :: ps' ∧ F = F1 ++ F2 ∧ OwnT w base k p F1 ∧ OwnTs w base ks ps' F2
end
mutual
theorem OwnT.keep {w w' : World} {base : Nat} : ∀ {t : Nd} {v : Value} {F : List Nat}, OwnT w base t v F → (∀ g ∈ F, w'.heap[g]? = w.heap[g]?) → OwnT w' base t v F
  | .mk p kids, v, F, h, hk => by
    obtain ⟨b, kv, vv, cv, ps, Fc, h1, h2, h3, h4, h5, h6, h7, rfl, h9⟩ := h
    exact ⟨b, kv, vv, cv, ps, Fc, h1, h2, (hk b (by simp)).trans h3, own_keep h4 (fun g hg => hk g (by simp [hg])), own_keep h5 (fun g hg => hk g (by simp [hg])), own_keep h6 (fun g hg => hk g (by simp [hg])),
      OwnTs.keep h7 (fun g hg => hk g (by simp [hg])), rfl, h9⟩
theorem OwnTs.keep {w w' : World} {base : Nat} : ∀ {ks : List Nd} {ps : List Value} {F : List Nat}, OwnTs w base ks ps F → (∀ g ∈ F, w'.heap[g]? = w.heap[g]?) → OwnTs w' base ks ps F
  | [], ps, F, h, hk => h
  | k :: ks, ps, F, h, hk => by
    obtain ⟨p, ps', F1, F2, h1, rfl, h3, h4⟩ := h
    exact ⟨p, ps', F1, F2, h1, rfl, OwnT.keep h3 (fun g hg => hk g (by simp [hg])), OwnTs.keep h4 (fun g hg => hk g (by simp [hg]))⟩
end
mutual
theorem OwnT.lt {w : World} {base : Nat} : ∀ {t : Nd} {v : Value} {F : List Nat}, OwnT w base t v F → ∀ g ∈ F, base ≤ g ∧ g < w.heap.size
  | .mk p kids, v, F, h => by
    obtain ⟨b, kv, vv, cv, ps, Fc, h1, h2, h3, h4, h5, h6, h7, rfl, h9⟩ := h
    intro g hg
    simp only [List.mem_cons, List.mem_append] at hg
    rcases hg with rfl | ((hg | hg) | hg) | hg
    · exact ⟨h2, by rw [Array.getElem?_eq_some_iff] at h3; exact h3.1⟩
    · exact own_lt h4 g hg
    · exact own_lt h5 g hg
    · exact own_lt h6 g hg
    · exact OwnTs.lt h7 g hg
theorem OwnTs.lt {w : World} {base : Nat} : ∀ {ks : List Nd} {ps : List Value} {F : List Nat}, OwnTs w base ks ps F → ∀ g ∈ F, base ≤ g ∧ g < w.heap.size
  | [], ps, F, h => by
    obtain ⟨_, rfl⟩ := h
    intro g hg
    simp at hg
  | k :: ks, ps, F, h => by
    obtain ⟨p, ps', F1, F2, h1, rfl, h3, h4⟩ := h
    intro g hg
    rcases List.mem_append.1 hg with hg | hg
    · exact OwnT.lt h3 g hg
    · exact OwnTs.lt h4 g hg
end
mutual
theorem OwnT.mono {w : World} {base base' : Nat} (hb : base' ≤ base) : ∀ {t : Nd} {v : Value} {F : List Nat}, OwnT w base t v F → OwnT w base' t v F
  | .mk p kids, v, F, h => by
    obtain ⟨b, kv, vv, cv, ps, Fc, h1, h2, h3, h4, h5, h6, h7, rfl, h9⟩ := h
    exact ⟨b, kv, vv, cv, ps, Fc, h1, Nat.le_trans hb h2, h3, own_mono h4 hb, own_mono h5 hb, own_mono h6 hb, OwnTs.mono hb h7, rfl, h9⟩
theorem OwnTs.mono {w : World} {base base' : Nat} (hb : base' ≤ base) : ∀ {ks : List Nd} {ps : List Value} {F : List Nat}, OwnTs w base ks ps F → OwnTs w base' ks ps F
  | [], ps, F, h => h
  | k :: ks, ps, F, h => by
    obtain ⟨p, ps', F1, F2, h1, rfl, h3, h4⟩ := h
    exact ⟨p, ps', F1, F2, h1, rfl, OwnT.mono hb h3, OwnTs.mono hb h4⟩
end
theorem OwnT.below {w w' : World} {base : Nat} {t : Nd} {v : Value} {F : List Nat} (h : OwnT w base t v F) (hb : Below w.heap.size w w') : OwnT w' base t v F := h.keep fun g hg => hb.block g (h.lt g hg).2
theorem OwnTs.below {w w' : World} {base : Nat} {ks : List Nd} {ps : List Value} {F : List Nat} (h : OwnTs w base ks ps F) (hb : Below w.heap.size w w') : OwnTs w' base ks ps F := h.keep fun g hg => hb.block g (h.lt g hg).2
theorem OwnTs.len {w : World} {base : Nat} : ∀ {ks : List Nd} {ps : List Value} {F : List Nat}, OwnTs w base ks ps F → ps.length = ks.length
  | [], ps, F, h => by obtain ⟨rfl, _⟩ := h; rfl
  | k :: ks, ps, F, h => by
    obtain ⟨p, ps', F1, F2, rfl, rfl, h3, h4⟩ := h
    simp [OwnTs.len h4]
/-- The kid at a place. -/
theorem OwnTs.get {w : World} {base : Nat} : ∀ {ks : List Nd} {ps : List Value} {F : List Nat}, OwnTs w base ks ps F → ∀ i, i < ks.length → ∃ F1, OwnT w base (ks.getD i default) (ps.getD i default) F1
  | [], ps, F, h, i, hi => by simp at hi
  | k :: ks, ps, F, h, i, hi => by
    obtain ⟨p, ps', F1, F2, rfl, rfl, h3, h4⟩ := h
    cases i with
    | zero => exact ⟨F1, by simpa using h3⟩
    | succ i =>
      obtain ⟨F3, h5⟩ := OwnTs.get h4 i (by simpa using hi)
      exact ⟨F3, by simpa using h5⟩
theorem OwnTs.append {w : World} {base : Nat} : ∀ {ks ls : List Nd} {ps qs : List Value} {F G : List Nat}, OwnTs w base ks ps F → OwnTs w base ls qs G → OwnTs w base (ks ++ ls) (ps ++ qs) (F ++ G)
  | [], ls, ps, qs, F, G, h, g => by obtain ⟨rfl, rfl⟩ := h; simpa using g
  | k :: ks, ls, ps, qs, F, G, h, g => by
    obtain ⟨p, ps', F1, F2, rfl, rfl, h3, h4⟩ := h
    exact ⟨p, ps' ++ qs, F1, F2 ++ G, rfl, by simp, h3, OwnTs.append h4 g⟩
/-- What is told of a page: its three slices and where they lie. -/
theorem OwnT.parts {w : World} {base : Nat} {p : List Pr} {kids : List Nd} {v : Value} {F : List Nat} (h : OwnT w base (.mk p kids) v F) :
    ∃ b kv vv cv ps Fc, v = .pointer (some ⟨b, 0, none⟩) ∧ b < w.heap.size ∧ w.cell? ⟨b, 0, none⟩ = some kv ∧ w.cell? ⟨b, 1, none⟩ = some vv ∧ w.cell? ⟨b, 2, none⟩ = some cv ∧
      RowsAt w 1 kv p.length (keysV p) ∧ RowsAt w 1 vv p.length (valsV p) ∧ RowsAt w 1 cv kids.length ps ∧ OwnTs w base kids ps Fc := by
  obtain ⟨b, kv, vv, cv, ps, Fc, h1, h2, h3, h4, h5, h6, h7, h8, h9⟩ := h
  exact ⟨b, kv, vv, cv, ps, Fc, h1, by rw [Array.getElem?_eq_some_iff] at h3; exact h3.1, by rw [cell_of_heap h3]; rfl, by rw [cell_of_heap h3]; rfl, by rw [cell_of_heap h3]; rfl, rows_of_ownS h4, rows_of_ownS h5, rows_of_ownS h6, h7⟩
theorem RowsAt.slice {w : World} {size m : Nat} {x : Value} {news : List Value} (h : RowsAt w size x m news) : ∃ a c, x = .slice a m c := by
  obtain ⟨_, ao, c, rfl, _⟩ := h
  exact ⟨ao, c, rfl⟩
/-- An element's cell. -/
theorem RowsAt.cell1 {w : World} {m : Nat} {x : Value} {news : List Value} (h : RowsAt w 1 x m news) {i : Nat} (hi : i < m) : ∃ b off c, x = .slice (some ⟨b, off, none⟩) m c ∧ b < w.heap.size ∧ w.cell? ⟨b, off + i, none⟩ = some (news.getD i default) := by
  obtain ⟨h1, ao, c, rfl, h3, h4, h5⟩ := h
  rcases h5 with h5 | ⟨b, off, rfl, hl, hc⟩
  · omega
  · exact ⟨b, off, c, rfl, hl, hc i _ (by simp [List.getD, show i < news.length by omega])⟩
theorem keysV_len (p : List Pr) : (keysV p).length = p.length := by simp [keysV]
theorem keysV_get (p : List Pr) (i : Nat) (h : i < p.length) : (keysV p).getD i default = .string (p.getD i default).1 := by simp [keysV, List.getD, h]
theorem valsV_get (p : List Pr) (i : Nat) (h : i < p.length) : (valsV p).getD i default = .string (p.getD i default).2 := by simp [valsV, List.getD, h]
end Go.Proofs.YtgjcegmjhkehnaaDoor
