/- A law of ours for a range over an iterator that hands out rows lying in memory: what the round knows of the row's memory, and what it owes. It speaks of every program. No condition. -/
import Derived.RangeFuncNested
import Derived.RangeFuncLeaves
namespace Go.Proofs.YtemkkofjakpjiaaDoor
open Go Go.RowKit
set_option linter.unusedVariables false

/-- What an iterator of N rows owes: its k-th value is a k-th row of the memory in which it is handed out; between two rounds it lays new blocks and no more; it ends behind the last one, or where a round breaks off. -/
def RowSeq (F : Fence) (n : Nat) (P : Program) (g : Nat) (lb : Array Value) (V : Nat → Value → World → Prop) (N : Nat) (w : World) : Prop :=
  ∀ (l : Nat) (J : Nat → World → Prop) (Jx : World → Prop) (W : World), Below w.heap.size w W →
    (∀ k A B, J k A → Below A.heap.size A B → J k B) → (∀ A B, Jx A → Below A.heap.size A B → Jx B) →
    (∀ k v W1, k < N → J k W1 → V k v W1 → YieldAt F (n - 1) P l #[v] W1 fun e W' =>
      (e = .returned (.bool true) ∧ J (k + 1) W' ∧ V k v W') ∨ (e = .returned (.bool false) ∧ Jx W')) →
    J 0 W → CallsIn F n P g (#[.func (.yield l) #[] #[]] ++ lb) W fun e W' => (∃ v, e = .returned v) ∧ (J N W' ∨ Jx W')

/-- How a round may end: it goes on, or it breaks off. -/
def rowEnds (B : Nat) (V : World → Prop) (I : World → Prop) (Ix : Nat → World → Prop) (W : World) : Exit → Act → World → Prop
  | .normal, _, W' => KeepsFrom B W W' ∧ V W' ∧ I W'
  | .exit id, _, W' => KeepsFrom B W W' ∧ Ix id W'
  | _, _, _ => False

theorem ownBelow {β : Type} {B : Nat} {I : β → World → Prop} (h : OwnFrom B I) {s : β} {X Y : World} (hs : I s X) (hb : Below X.heap.size X Y) : I s Y :=
  h s X Y none hs ⟨hb.os, hb.tape, hb.output, hb.size, fun k hk _ => hb.block k hk⟩ (fun r e => by cases e)

theorem blockBelow {X Y : World} {k : Nat} {o : Obj} (hk : X.heap[k]? = some o) (hb : Below X.heap.size X Y) : Y.heap[k]? = some o :=
  (hb.block k (Array.getElem?_eq_some_iff.1 hk).1).trans hk

variable {F : Fence} {n : Nat} {P : Program}

/-- The statement 'for v := range g' over such an iterator. -/
theorem rangeRows {g : Operand} {p : Tmp} {assign body : Code} {Q : Exit → Act → World → Prop} {a : Act} {w : World}
    (hro : F.round = none) (h1 : 1 ≤ n) {gf : Nat} {lb : Array Value} (hg : a.eval g = .func (.func gf) #[] lb) (hFg : F.fn gf) (eg : ∀ args w, (callFunc gf args).run P w = .ok (.enter gf args) w)
    {V : Nat → Value → World → Prop} {N : Nat} (hseq : RowSeq F (n - 1) P gf lb V N w) (hV : ∀ k v, OwnFrom w.heap.size (fun (_ : Unit) W => V k v W))
    (I : Nat → World → Prop) (Ix : Nat → World → Prop) (hI : OwnFrom w.heap.size I) (hIx : OwnFrom w.heap.size Ix) (h0 : I 0 w) (a₁ : Value → Act)
    (hassign : ∀ (l : Nat) (v : Value) (W : World) (K : Act → World → Prop), K (a₁ v) W →
      assign.wpIn (F.inRound l) (n - 1 - 1) P (Exit.then K (fun _ _ _ => False)) { tmps := a.tmps.setIfInBounds p v, defers := [] } W)
    (hbody : ∀ (l k : Nat) (v : Value) (W : World), k < N → I k W → V k v W → body.wpIn (F.inRound l) (n - 1 - 1) P (rowEnds w.heap.size (V k v) (I (k + 1)) Ix W) (a₁ v) W)
    (hdone : ∀ (D : Nat) (W : World), w.heap.size ≤ D → I N W → W.heap[D]? = some (.deferred (some [])) → Q .normal { a with defers := { target := .collected D, args := #[] } :: a.defers } W)
    (hstop : ∀ (D id : Nat) (W : World), w.heap.size ≤ D → Ix id W → W.heap[D]? = some (.deferred (some [])) → (Code.exit id).wpIn F n P Q { a with defers := { target := .collected D, args := #[] } :: a.defers } W) :
    (Code.rangeFunc g #[p] assign body).wpIn F n P Q a w := by
  refine wpIn_rangeFunc fun fn hfn => ?_
  rw [hro]
  obtain ⟨R, eR⟩ : ∃ R : LoopState → Option Code → Loop, R = fun st j => { state := st, pending := j, fn, tmps := a.tmps, params := #[p], assign, body, defers := w.heap.size } := ⟨_, rfl⟩
  have eS : ∀ st j st' j', { R st j with state := st', pending := j' } = R st' j' := fun _ _ _ _ => by rw [eR]
  have eB : ∀ st j st', { R st j with state := st' } = R st' j := fun _ _ _ => by rw [eR]
  have bk : Below w.heap.size w ((w.alloc (.deferred (some []))).alloc (.loop (R .ready none))) := ((Below.refl _ w).alloc (Nat.le_refl _) _).alloc (by simp) _
  have hk : ((w.alloc (.deferred (some []))).alloc (.loop (R .ready none))).heap[w.heap.size]? = some (.deferred (some [])) :=
    (Below.heap_alloc _ _ _ (by simp)).trans (World.alloc_heap_new w _)
  have hl : ((w.alloc (.deferred (some []))).alloc (.loop (R .ready none))).heap[w.heap.size + 1]? = some (.loop (R .ready none)) := by
    have := World.alloc_heap_new (w.alloc (.deferred (some []))) (.loop (R .ready none))
    rwa [World.size_alloc] at this
  have he : (Instr.enterLoop fn a.tmps #[p] assign body none).run P w = .ok (w.heap.size + 1, [{ target := .collected w.heap.size, args := #[] }]) ((w.alloc (.deferred (some []))).alloc (.loop (R .ready none))) := by
    rw [eR]; exact run_enterLoop_outer _ _ _ _ _
  generalize (w.alloc (.deferred (some []))).alloc (.loop (R .ready none)) = W1 at *
  refine ⟨_, _, W1, { target := .fn (.func gf) lb, args := #[.func (.yield (w.heap.size + 1)) #[] #[]] }, W1, gf, #[.func (.yield (w.heap.size + 1)) #[] #[]] ++ lb, W1, he, ?_, ?_, ?_, fun _ => h1, ?_⟩
  · simp only [resolve, hg]
    simp [go_sem]
  · intro f' hf'
    simp [Target.leads] at hf'
    subst hf'
    exact hFg
  · simp [invoke, go_sem, eg]
  refine (hseq (w.heap.size + 1)
    (fun k W => I k W ∧ W.heap[w.heap.size + 1]? = some (.loop (R .ready none)) ∧ W.heap[w.heap.size]? = some (.deferred (some [])))
    (fun W => ∃ id, Ix id W ∧ W.heap[w.heap.size + 1]? = some (.loop (R .done (some (.exit id)))) ∧ W.heap[w.heap.size]? = some (.deferred (some [])))
    W1 bk (fun k A B h hb => ⟨ownBelow hI h.1 hb, blockBelow h.2.1 hb, blockBelow h.2.2 hb⟩)
    (fun A B h hb => by obtain ⟨id, g1, g2, g3⟩ := h; exact ⟨id, ownBelow hIx g1 hb, blockBelow g2 hb, blockBelow g3 hb⟩) ?_ ⟨ownBelow hI h0 bk, hl, hk⟩).mono ?_
  · rintro k v W hkN ⟨hi, hlW, hkW⟩ hv
    have hy := run_yield (P := P) (args := #[v]) hlW (by rw [eR]; rfl)
    have ht : ((R .ready none).params.zip #[v]).foldl (fun t (q : Tmp × Value) => t.setIfInBounds q.1 q.2) (R .ready none).tmps = a.tmps.setIfInBounds p v := by rw [eR]; simp
    have e1 : (R .ready none).fn = fn := by rw [eR]
    have e2 : (R .ready none).assign = assign := by rw [eR]
    have e3 : (R .ready none).body = body := by rw [eR]
    rw [e1, e2, e3] at hy
    refine ⟨fn, _, assign, body, hy, roundIn_of_wpIn hfn ?_⟩
    refine cast (congrArg (fun T => assign.wpIn (F.inRound (w.heap.size + 1)) (n - 1 - 1) P _ { tmps := T, defers := [] } W) ht.symm) (hassign (w.heap.size + 1) v W _ ⟨_, run_beginRound hlW (by rw [eR]), ?_⟩)
    rw [eB]
    have hlt := (Array.getElem?_eq_some_iff.1 hlW).1
    have hl2 : (W.putObj (w.heap.size + 1) (.loop (R .busy none))).heap[w.heap.size + 1]? = some (.loop (R .busy none)) := World.putObj_heap_same hlt
    have hk2 : (W.putObj (w.heap.size + 1) (.loop (R .busy none))).heap[w.heap.size]? = some (.deferred (some [])) := (World.putObj_heap_other (by omega)).trans hkW
    refine wpIn_mono (hbody _ k v _ hkN (hI.putObj _ hi (by omega) hlW rfl) ((hV k v).putObj (s := ()) _ hv (by omega) hlW rfl)) ?_
    intro e a3 W3 hp
    have ends : ∀ j : Option Code, KeepsFrom w.heap.size (W.putObj (w.heap.size + 1) (.loop (R .busy none))) W3 → ∃ X, (Instr.endRound (w.heap.size + 1) j).run P W3 = .ok (.bool j.isNone) X ∧
        X = W3.putObj (w.heap.size + 1) (.loop (R (if j.isNone then .ready else .done) j)) ∧ W3.heap[w.heap.size + 1]? = some (.loop (R .busy none)) ∧
        X.heap[w.heap.size + 1]? = some (.loop (R (if j.isNone then .ready else .done) j)) ∧ X.heap[w.heap.size]? = some (.deferred (some [])) := fun j hkf => by
      have g1 := hkf.same _ _ (by omega) hl2 rfl
      have g2 := run_endRound (P := P) j g1
      rw [eS] at g2
      exact ⟨_, g2, rfl, g1, World.putObj_heap_same (Array.getElem?_eq_some_iff.1 g1).1, (World.putObj_heap_other (by omega)).trans (hkf.same _ _ (Nat.le_refl _) hk2 rfl)⟩
    cases e with
    | normal =>
      obtain ⟨q1, q2, q3⟩ := hp
      obtain ⟨X, g1, g2, g3, g4, g5⟩ := ends none q1
      subst g2
      exact ⟨_, _, g1, .inl ⟨rfl, ⟨hI.putObj _ q3 (by omega) g3 rfl, g4, g5⟩, (hV k v).putObj (s := ()) _ q2 (by omega) g3 rfl⟩⟩
    | exit id =>
      obtain ⟨q1, q2⟩ := hp
      obtain ⟨X, g1, g2, g3, g4, g5⟩ := ends (some (.exit id)) q1
      subst g2
      exact ⟨_, _, g1, .inr ⟨rfl, id, hIx.putObj _ q2 (by omega) g3 rfl, g4, g5⟩⟩
    | goto t => exact hp.elim
    | ret => exact hp.elim
    | panic ch => exact hp.elim
    | outgrown => exact hp.elim
  · rintro e W2 ⟨⟨v, rfl⟩, h2⟩
    rcases h2 with ⟨hi, hl2, hk2⟩ | ⟨id, hi, hl2, hk2⟩
    · have g1 := run_endLoop (P := P) hl2 (by rw [eR]; simp)
      exact ⟨none, _, by rw [g1, eR], hdone _ _ (Nat.le_refl _) (hI.putObj _ hi (by omega) hl2 rfl) ((World.putObj_heap_other (by omega)).trans hk2)⟩
    · have g1 := run_endLoop (P := P) hl2 (by rw [eR]; simp)
      exact ⟨some (.exit id), _, by rw [g1, eR], hstop _ id _ (Nat.le_refl _) (hIx.putObj _ hi (by omega) hl2 rfl) ((World.putObj_heap_other (by omega)).trans hk2)⟩
end Go.Proofs.YtemkkofjakpjiaaDoor
