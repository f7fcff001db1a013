/- A map of words to what is had of them: each value stands for itself. No condition. -/
import Derived.Test.YtkkmnegmghllpaaWithP
import Derived.Test.YtkkmnegmghllpaaIxM
import Derived.Maps.OwnSet
import Derived.Maps.RangeWalk
import Derived.Maps.StringElems
namespace Go.Proofs.Ytkkmnegmghllpaa
open Go.ChangeShapes Go.WideShapes Go.ChangeAt Go.RowKit Go.Deep Go.Maps Go.WideMaps
set_option linter.unusedVariables false

def hR (v : Value) : Option (DataW Value × List MemPlace) := some (.held v, [])
def kS (s : ByteArray) : Lit := .string s.data.toList
theorem kS_inj {s t : ByteArray} (h : kS s = kS t) : s = t := bytes_inj (by unfold kS at h; exact Lit.string.inj h)
def zW : Value := .agg #[.slice none 0 0, .int .i64 0]
theorem zeroW (w : World) : (zeroValue 77).run Try.prog w = .ok zW w := by
  have h : (Try.prog.info? 77).map (fun i => i.zero) = some (some zW) := by kernel_rfl
  obtain ⟨i, hi, hz⟩ := Option.map_eq_some_iff.1 h
  simp [zeroValue, typeInfo, hi, hz]
theorem lawS : Keyed Try.prog 9 := string_keyed Try.underlying9
theorem key_ok {s : ByteArray} (h : s.size ≤ maxLen) : keyOf Try.prog 9 (.string s) = some (kS s) := keyOf_string_mk Try.underlying9 h
/-- The index of words: what a map has of each word. -/
structure IxF (base : Nat) (w : World) (mb n : Nat) (P : ByteArray → List Po) (No : List Nat) (D : DataW Value) (V : ByteArray → Value) (F : ByteArray → List Value) : Prop where
  own : w.ownsMap Try.prog 9 hR mb n D
  val : ∀ s, D.atKey (kS s) (.held zW) = .held (.agg #[V s, .int .i64 (sumL (P s) : Nat)])
  grp : ∀ s, GrP base w (V s) (P s) (F s)
  apart : ∀ s, mb ∉ fpG (V s) (F s)
  disj : ∀ s t, s ≠ t → ∀ x ∈ fpG (V s) (F s), x ∉ fpG (V t) (F t)
  has : ∀ s, Maps.has D (kS s) = true ↔ P s ≠ []
  shun : ∀ s, ∀ x ∈ fpG (V s) (F s), x ∉ No
  shunm : mb ∉ No
def Ix (base : Nat) (w : World) (mb n : Nat) (P : ByteArray → List Po) (No : List Nat) : Prop := ∃ D V F, IxF base w mb n P No D V F
variable {base mb n : Nat} {w w' : World} {P : ByteArray → List Po} {No : List Nat} {D : DataW Value} {V : ByteArray → Value} {F : ByteArray → List Value}
theorem IxF.below (h : IxF base w mb n P No D V F) (hb : Below w.heap.size w w') : IxF base w' mb n P No D V F :=
  ⟨h.own.kept (row := none) ⟨hb.os, hb.tape, hb.output, hb.size, fun i hi _ => hb.block i hi⟩ (by simp), h.val, fun s => (h.grp s).below hb, h.apart, h.disj, h.has, h.shun, h.shunm⟩
theorem Ix.below (h : Ix base w mb n P No) (hb : Below w.heap.size w w') : Ix base w' mb n P No := by
  obtain ⟨D, V, F, h⟩ := h
  exact ⟨D, V, F, h.below hb⟩
/-- What is new it does not have. -/
theorem Ix.shunN {No' : List Nat} (h : Ix base w mb n P No) (hb : Below w.heap.size w w') (hn : ∀ x ∈ No', w.heap.size ≤ x) : Ix base w' mb n P No' := by
  obtain ⟨D, V, F, h⟩ := h
  have h2 := h.below hb
  refine ⟨D, V, F, h2.own, h2.val, h2.grp, h2.apart, h2.disj, h2.has, fun s x hx hm => ?_, fun hm => ?_⟩
  · have h3 := ((h.grp s).lt x hx).2
    have := hn x hm
    omega
  · have h3 := h.own.lt
    have := hn _ hm
    omega
theorem Ix.start (w : World) (base : Nat) : Ix base (w.alloc (.map #[] 0)) w.heap.size 0 (fun _ => []) [] := by
  refine ⟨.map [], fun _ => .slice none 0 0, fun _ => [], World.ownsMap_made w _ _ _, fun s => ?_, fun s => GrP.nil _ _, fun s => by simp [fpG, Value.ownBlock], fun s t _ x hx => by simp [fpG, Value.ownBlock] at hx, fun s => by simp [Maps.has], fun s x hx => by simp [fpG, Value.ownBlock] at hx, by simp⟩
  simp [DataW.atKey, sumL, zW]
theorem IxF.lookup (h : IxF base w mb n P No D V F) {s : ByteArray} (hs : s.size ≤ maxLen) :
    (Instr.lookup 79 (.map (some mb)) (.string s) false).run Try.prog w = .ok (.agg #[V s, .int .i64 (sumL (P s) : Nat)]) w := by
  obtain ⟨v, ps, hr, hv⟩ := h.own.lookup lawS Try.underlying79 (zeroW w) (zd := .held zW) (zp := []) rfl (key_ok hs)
  rw [h.val s] at hv
  simp only [hR, Option.some.injEq, Prod.mk.injEq] at hv
  have := DataW.held.inj hv.1
  rw [hr, this]
/-- A word's posts stored anew. -/
theorem IxF.store {w1 w2 : World} {s : ByteArray} {v' : Value} {ps' : List Po} {vs' : List Value} (h : IxF base w mb n P No D V F) (hNo : ∀ x ∈ No, x < w.heap.size) (hs : s.size ≤ maxLen) (ho : Off (fpG (V s) (F s)) w w1) (hg : GrP base w1 v' ps' vs')
    (hnew : ∀ x ∈ fpG v' vs', x ∈ fpG (V s) (F s) ∨ w.heap.size ≤ x) (hm : w2.ownsMap Try.prog 9 hR mb (n + 1) (D.put (kS s) (.held (.agg #[v', .int .i64 (sumL ps' : Nat)])))) (hgr : w1.grownBy w2 (some mb)) (hps : ps' ≠ []) :
    Ix base w2 mb (n + 1) (fun t => if t = s then ps' else P t) No ∧ Off (mb :: fpG (V s) (F s)) w w2 := by
  have hmb := h.own.lt
  have hof : Off [mb] w1 w2 := off_gb hgr
  have hk : WideAt.IsKeyLit (kS s) := lawS.key (key_ok hs)
  have hmb2 : mb ∉ fpG v' vs' := fun hx => by
    rcases hnew mb hx with h1 | h1
    · exact h.apart s h1
    · omega
  refine ⟨⟨_, fun t => if t = s then v' else V t, fun t => if t = s then vs' else F t, hm, fun t => ?_, fun t => ?_, fun t => ?_, fun t u hne x hx => ?_, fun t => ?_, fun t x hx => ?_, h.shunm⟩, ?_⟩
  · by_cases e : t = s
    · subst e
      simp only [if_true]
      exact atKey_put_same (h.own.isMap) hk _ _
    · simp only [if_neg e]
      rw [atKey_put_other (fun he => e (kS_inj he))]
      exact h.val t
  · by_cases e : t = s
    · simp only [if_pos e]; exact hg.off hof (fun x hx hm => by simp at hm; subst hm; exact hmb2 hx)
    · simp only [if_neg e]
      exact ((h.grp t).off ho (h.disj t s e)).off hof (fun x hx hm => by simp at hm; subst hm; exact h.apart t hx)
  · by_cases e : t = s
    · simp only [if_pos e]; exact hmb2
    · simp only [if_neg e]; exact h.apart t
  · by_cases e : t = s
    · simp only [if_pos e] at hx
      have e2 : u ≠ s := fun h2 => hne (e.trans h2.symm)
      simp only [if_neg e2]
      intro hm
      rcases hnew x hx with h1 | h1
      · exact h.disj s u (Ne.symm e2) x h1 hm
      · have := ((h.grp u).lt x hm).2; omega
    · simp only [if_neg e] at hx
      by_cases e2 : u = s
      · simp only [if_pos e2]
        intro hm
        rcases hnew x hm with h1 | h1
        · exact h.disj t s e x hx h1
        · have := ((h.grp t).lt x hx).2; omega
      · simp only [if_neg e2]
        exact h.disj t u hne x hx
  · by_cases e : t = s
    · subst e
      simp only [if_true]
      exact ⟨fun _ => hps, fun _ => has_put_same (h.own.isMap) hk _⟩
    · simp only [if_neg e]
      rw [has_put_other (fun he => e (kS_inj he))]
      exact h.has t
  · by_cases e : t = s
    · simp only [if_pos e] at hx
      rcases hnew x hx with h1 | h1
      · exact h.shun s x h1
      · intro hm; have := hNo x hm; omega
    · simp only [if_neg e] at hx
      exact h.shun t x hx
  · exact (ho.mono (fun g hg => .inl (by simp [hg]))).trans (hof.mono (fun g hg => .inl (by simp at hg; simp [hg])))
end Go.Proofs.Ytkkmnegmghllpaa
