/- 'append' on lists of scores of the call's own. Condition: what is appended lies in memory. -/
import Derived.Test.YthdodlbhkpoadaaScB
import Derived.Test.YthdodlbhkpoadaaSwapG
namespace Go.Proofs.Ythdodlbhkpoadaa
open Go.ChangeShapes Go.WideShapes Go.ChangeAt Go.RowKit Go.Deep
set_option linter.unusedVariables false

theorem appH (w : World) (B : Nat) (t ty : TypeId) (ht : Try.prog.underlying t = some (.slice 33)) (v : Value) (l : List Sc) (hown : OwnH B w v l) (xv : Value) (m : List Sc) (k : Nat) (hk : m.length = k) (hrow : RdS w xv m) (hn : l.length + k ≤ 2000000) (hB : B ≤ w.heap.size) :
    ∃ qa qc w', (Builtin.append_ #[t, t] ty #[v, xv]).run Try.prog w = .ok (.slice qa (l.length + k) qc) w' ∧ OwnH B w' (.slice qa (l.length + k) qc) (l ++ m) ∧ Off (hbl v) w w' ∧ (∀ g ∈ hbl (.slice qa (l.length + k) qc), g ∈ hbl v ∨ g = w.heap.size) := by
  subst hk
  obtain ⟨i0, hi, hzz⟩ := Option.map_eq_some_iff.1 infoSc
  simp only [Prod.mk.injEq] at hzz
  obtain ⟨hz0, hz1, hz2⟩ := hzz
  obtain ⟨v', w', r1, r2, r3, r4⟩ := appOwn (P := Try.prog) w B t ty 33 i0 _ 2 16 ht hi hz0 hz1 hz2 rfl (by decide) v l.length (flS l) hown xv m.length (flS m) hrow (flS_one m) (by unfold maxLen; omega) (by omega) hB
  have h2 : OwnH B w' v' (l ++ m) := by
    unfold OwnH
    rw [List.length_append, flS_app]
    exact r2
  obtain ⟨qa, qc, hv⟩ := h2.slice
  rw [List.length_append] at hv
  subst hv
  refine ⟨qa, qc, w', r1, h2, ⟨r3.os, r3.tape, r3.output, r3.size, fun k hk hn => r3.block k hk (fun e => hn (by simp [hbl, ← e]))⟩, fun g hg => ?_⟩
  have hg2 : (Value.slice qa (l.length + m.length) qc).ownBlock = some g := by simpa [hbl] using hg
  rcases r4 with r4 | r4
  · left; simp [hbl, ← r4, hg2]
  · right; rw [r4] at hg2; exact (Option.some.inj hg2).symm
theorem wpH {o : Oper} {a : Act} {W : World} {K : Act → World → Prop} {Q : Exit → Act → World → Prop} (s x : Operand) (t : TypeId) (ht : Try.prog.underlying t = some (.slice 33))
    (ho : o.op = Op.call { callee := Callee.builtin Builtin.append, args := #[s, x], argTypes := #[t, t] })
    (B : Nat) (v : Value) (l : List Sc) (hown : OwnH B W v l) (xv : Value) (m : List Sc) (k : Nat) (hk : m.length = k) (hrow : RdS W xv m) (hn : l.length + k ≤ 2000000) (hB : B ≤ W.heap.size) (hs : a.eval s = v) (hx : a.eval x = xv)
    (hK : ∀ qa qc w', OwnH B w' (.slice qa (l.length + k) qc) (l ++ m) → Off (hbl v) W w' → (∀ g ∈ hbl (.slice qa (l.length + k) qc), g ∈ hbl v ∨ g = W.heap.size) → K (a.put o.dst (.slice qa (l.length + k) qc)) w') :
    Oper.wp Try.prog o a W K Q := by
  obtain ⟨qa, qc, w', hr, h2, h3, h4⟩ := appH W B t o.type ht v l hown xv m k hk hrow hn hB
  unfold Oper.wp
  simp [execOp, ho, resolve, invoke, builtin, hs, hx, hr, Result.andThen]
  exact hK qa qc w' h2 h3 h4
theorem wplH {w : World} {ops : Array Oper} {rest : List Oper} {o : Oper} {a : Act} {Q : Exit → Act → World → Prop} (hgd : o.guard = none) (s x : Operand) (t : TypeId) (ht : Try.prog.underlying t = some (.slice 33))
    (ho : o.op = .call { callee := .builtin .append, args := #[s, x], argTypes := #[t, t] })
    (B : Nat) (v : Value) (l : List Sc) (hown : OwnH B w v l) (xv : Value) (m : List Sc) (k : Nat) (hk : m.length = k) (hrow : RdS w xv m) (hn : l.length + k ≤ 2000000) (hB : B ≤ w.heap.size) (hs : a.eval s = v) (hx : a.eval x = xv)
    (h : ∀ qa qc w', OwnH B w' (.slice qa (l.length + k) qc) (l ++ m) → Off (hbl v) w w' → (∀ g ∈ hbl (.slice qa (l.length + k) qc), g ∈ hbl v ∨ g = w.heap.size) → wpList Try.prog ops Q rest (a.put o.dst (.slice qa (l.length + k) qc)) w') :
    wpList Try.prog ops Q (o :: rest) a w := by
  refine wpList_plain hgd fun K hK => ?_
  obtain ⟨qa, qc, w', hr, h2, h3, h4⟩ := appH w B t o.type ht v l hown xv m k hk hrow hn hB
  unfold Oper.wp execOp
  simp only [ho, resolve, invoke, builtin, Sem.run_bind, Sem.run_pure, Result.andThen_ok, List.map_toArray, List.map_cons, List.map_nil, hs, hx, hr]
  exact hK _ _ (h qa qc w' h2 h3 h4)
/-- One score, as it lies newly. -/
theorem rd1 (W : World) (p : Sc) (tt : TypeId) : RdS (W.alloc (.cells #[.int .i64 p.1, .int .i64 p.2] tt)) (.slice (some ⟨W.heap.size, 0, none⟩) 1 1) [p] := news2 W p tt
/-- An empty list, as it lies newly. -/
theorem own0 (W : World) (B : Nat) (hB : B ≤ W.heap.size) : OwnH B (W.alloc (.cells #[] 33)) (.slice (some ⟨W.heap.size, 0, none⟩) 0 0) [] :=
  World.ownsRow_lit W #[] 0 hB (by unfold maxLen; omega) rfl
end Go.Proofs.Ythdodlbhkpoadaa
