/- Lists of scores in memory: how they are read, and rows of the call's own. No condition. -/
import Derived.Test.YthdodlbhkpoadaaBs
import Derived.Laws.OwnMore
import Derived.Lib.SmallJoins
namespace Go.Proofs.Ythdodlbhkpoadaa
open Go.ChangeShapes Go.WideShapes Go.ChangeAt Go.RowKit Go.Joins Go.Deep
set_option linter.unusedVariables false

def scV (p : Sc) : Value := .agg #[.int .i64 p.1, .int .i64 p.2]
/-- The two cells of a score. -/
def ScAt (w : World) (b o : Nat) (p : Sc) : Prop := w.cell? ⟨b, o, none⟩ = some (.int .i64 p.1) ∧ w.cell? ⟨b, o + 1, none⟩ = some (.int .i64 p.2)
theorem ScAt.below {w w' : World} {b o : Nat} {p : Sc} (h : ScAt w b o p) (hb : b < w.heap.size) (kb : Below w.heap.size w w') : ScAt w' b o p :=
  ⟨(kb.cell (p := ⟨b, o, none⟩) hb).trans h.1, (kb.cell (p := ⟨b, o + 1, none⟩) hb).trans h.2⟩
/-- The slice value x reads as the scores l. -/
def ScsAt (w : World) (x : Value) (l : List Sc) : Prop :=
  (∃ a c, x = .slice a 0 c ∧ l = []) ∨ ∃ b off cap, x = .slice (some ⟨b, off, none⟩) l.length cap ∧ b < w.heap.size ∧ ∀ i, i < l.length → ScAt w b (off + i * 2) (gd l i)
theorem ScsAt.slice {w : World} {x : Value} {l : List Sc} (h : ScsAt w x l) : ∃ a c, x = .slice a l.length c := by
  rcases h with ⟨a, c, rfl, rfl⟩ | ⟨b, off, cap, rfl, _, _⟩ <;> exact ⟨_, _, rfl⟩
theorem ScsAt.below {w w' : World} {x : Value} {l : List Sc} (h : ScsAt w x l) (kb : Below w.heap.size w w') : ScsAt w' x l := by
  rcases h with h | ⟨b, off, cap, h1, h2, h3⟩
  · exact .inl h
  · exact .inr ⟨b, off, cap, h1, Nat.lt_of_lt_of_le h2 kb.size, fun i hi => (h3 i hi).below h2 kb⟩
/-- The cells of scores. -/
def flS : List Sc → List Value
  | [] => []
  | p :: l => .int .i64 p.1 :: .int .i64 p.2 :: flS l
theorem flS_len : ∀ l : List Sc, (flS l).length = l.length * 2
  | [] => rfl
  | p :: l => by simp [flS, flS_len l]; omega
theorem flS_app : ∀ l m : List Sc, flS (l ++ m) = flS l ++ flS m
  | [], m => rfl
  | p :: l, m => by simp [flS, flS_app l m]
theorem flS_0 : ∀ (l : List Sc) (i : Nat), i < l.length → (flS l)[i * 2]? = some (.int .i64 (gd l i).1)
  | p :: l, 0, _ => rfl
  | p :: l, i + 1, hi => by
    have := flS_0 l i (by simpa using hi)
    rw [show (i + 1) * 2 = i * 2 + 1 + 1 by omega]
    simpa [flS, gd, List.getD] using this
theorem flS_1 : ∀ (l : List Sc) (i : Nat), i < l.length → (flS l)[i * 2 + 1]? = some (.int .i64 (gd l i).2)
  | p :: l, 0, _ => rfl
  | p :: l, i + 1, hi => by
    have := flS_1 l i (by simpa using hi)
    rw [show (i + 1) * 2 + 1 = i * 2 + 1 + 1 + 1 by omega]
    simpa [flS, gd, List.getD] using this
theorem flS_take : ∀ (l : List Sc) (k : Nat), (flS l).take (k * 2) = flS (l.take k)
  | [], k => by simp [flS]
  | p :: l, 0 => by simp [flS]
  | p :: l, k + 1 => by
    rw [show (k + 1) * 2 = k * 2 + 1 + 1 by omega]
    simp [flS, flS_take l k]
theorem flS_drop : ∀ (l : List Sc) (k : Nat), (flS l).drop (k * 2) = flS (l.drop k)
  | [], k => by simp [flS]
  | p :: l, 0 => by simp [flS]
  | p :: l, k + 1 => by
    rw [show (k + 1) * 2 = k * 2 + 1 + 1 by omega]
    simp [flS, flS_drop l k]
theorem flS_set : ∀ (l : List Sc) (k : Nat) (p : Sc), ((flS l).set (k * 2) (.int .i64 p.1)).set (k * 2 + 1) (.int .i64 p.2) = flS (l.set k p)
  | [], k, p => by simp [flS]
  | q :: l, 0, p => by simp [flS]
  | q :: l, k + 1, p => by
    have := flS_set l k p
    rw [show (k + 1) * 2 = k * 2 + 1 + 1 by omega]
    simp [flS, this]
theorem flS_one : ∀ (l : List Sc), ∀ u ∈ flS l, u.oneCell' = true
  | [], u, h => by simp [flS] at h
  | p :: l, u, h => by
    simp only [flS, List.mem_cons] at h
    rcases h with rfl | rfl | h
    · rfl
    · rfl
    · exact flS_one l u h
theorem infoSc : (Try.prog.info? 33).map (fun i => (i.zero, i.size, i.bytes)) = some (some (.agg #[.int .i64 0, .int .i64 0]), 2, 16) := by kernel_rfl
/-- A list of scores that is read, with its room. -/
def RdS (w : World) (v : Value) (l : List Sc) : Prop := RowsAt w 2 v l.length (flS l)
theorem RdS.at {w : World} {v : Value} {l : List Sc} (h : RdS w v l) : ScsAt w v l := by
  obtain ⟨h1, ao, c, rfl, h3, h4, h5⟩ := h
  rcases h5 with h5 | ⟨b, off, rfl, hl, hc⟩
  · have : l = [] := List.eq_nil_of_length_eq_zero h5
    subst this
    exact .inl ⟨_, _, rfl, rfl⟩
  · refine .inr ⟨b, off, c, rfl, hl, fun i hi => ⟨hc _ _ (flS_0 l i hi), ?_⟩⟩
    rw [Nat.add_assoc]
    exact hc _ _ (flS_1 l i hi)
theorem RdS.below {w w' : World} {v : Value} {l : List Sc} (h : RdS w v l) (kb : Below w.heap.size w w') : RdS w' v l := RowsAt.below h kb
theorem RdS.slice {w : World} {v : Value} {l : List Sc} (h : RdS w v l) : ∃ a c, v = .slice a l.length c := RowsAt.slice h
theorem RdS.nil (w : World) : RdS w (.slice none 0 0) [] := RowsAt.nil w 2
theorem RdS.take {w : World} {l : List Sc} {n c k : Nat} {a : Option Addr} (h : RdS w (.slice a n c) l) (hn : n = l.length) (hk : k ≤ n) : RdS w (.slice a k c) (l.take k) := by
  subst hn
  obtain ⟨h1, ao, c', he, h3, h4, h5⟩ := h
  cases he
  have hl : (l.take k).length = k := by simp; omega
  refine ⟨by rw [flS_len], a, c, by rw [hl], by omega, fun e => by have := h4 e; omega, ?_⟩
  rcases h5 with h5 | ⟨b, off, rfl, hb, hc⟩
  · exact .inl (by omega)
  · refine .inr ⟨b, off, rfl, hb, fun j u hj => hc j u ?_⟩
    rw [← flS_take, List.getElem?_take] at hj
    split at hj
    · exact hj
    · cases hj
theorem RdS.drop {w : World} {l : List Sc} {n c k : Nat} {b off : Nat} (h : RdS w (.slice (some ⟨b, off, none⟩) n c) l) (hn : n = l.length) (hk : k ≤ n) : RdS w (.slice (some ⟨b, off + k * 2, none⟩) (n - k) (c - k)) (l.drop k) := by
  subst hn
  obtain ⟨h1, ao, c', he, h3, h4, h5⟩ := h
  cases he
  have hl : (l.drop k).length = l.length - k := by simp
  refine ⟨by rw [flS_len], _, c - k, by rw [hl], by omega, (fun e => by cases e), ?_⟩
  rcases h5 with h5 | ⟨b', off', he', hb, hc⟩
  · exact .inl (by omega)
  · cases he'
    refine .inr ⟨b, off + k * 2, rfl, hb, fun j u hj => ?_⟩
    rw [← flS_drop, List.getElem?_drop] at hj
    rw [Nat.add_assoc]
    exact hc _ _ hj
/-- A list of scores of the call's own. -/
def OwnH (base : Nat) (w : World) (v : Value) (l : List Sc) : Prop := w.ownsRow base 33 2 v l.length (flS l)
theorem OwnH.rd {base : Nat} {w : World} {v : Value} {l : List Sc} (h : OwnH base w v l) : RdS w v l := rows_of_own h
theorem OwnH.at {base : Nat} {w : World} {v : Value} {l : List Sc} (h : OwnH base w v l) : ScsAt w v l := h.rd.at
theorem OwnH.nil (base : Nat) (w : World) : OwnH base w (.slice none 0 0) [] := World.ownsRow_nil _ _ _ _
theorem OwnH.slice {base : Nat} {w : World} {v : Value} {l : List Sc} (h : OwnH base w v l) : ∃ a c, v = .slice a l.length c := h.rd.slice
/-- The blocks that it may be written in. -/
def hbl (v : Value) : List Nat := v.ownBlock.toList
theorem OwnH.lt {base : Nat} {w : World} {v : Value} {l : List Sc} (h : OwnH base w v l) : ∀ g ∈ hbl v, base ≤ g ∧ g < w.heap.size := by
  intro g hg
  rcases h.2 with ⟨rfl, _⟩ | ⟨g', cap, cur, rfl, h3, h4, h5⟩
  · simp [hbl, Value.ownBlock] at hg
  · simp [hbl, Value.ownBlock] at hg
    subst hg
    exact ⟨h3, by rw [Array.getElem?_eq_some_iff] at h4; exact h4.1⟩
theorem OwnH.off {base : Nat} {w w' : World} {v : Value} {l : List Sc} {S : List Nat} (h : OwnH base w v l) (hb : Off S w w') (hd : ∀ g ∈ hbl v, g ∉ S) : OwnH base w' v l := by
  refine ⟨h.1, ?_⟩
  rcases h.2 with h2 | ⟨g, cap, cur, rfl, h3, h4, h5⟩
  · exact .inl h2
  · exact .inr ⟨g, cap, cur, rfl, h3, (hb.block g (Array.getElem?_eq_some_iff.1 h4).1 (hd g (by simp [hbl, Value.ownBlock]))).trans h4, h5⟩
theorem OwnH.below {base : Nat} {w w' : World} {v : Value} {l : List Sc} (h : OwnH base w v l) (hb : Below w.heap.size w w') : OwnH base w' v l := h.off (Off.of (S := []) hb) (by simp)
theorem OwnH.mono {base base' : Nat} {w : World} {v : Value} {l : List Sc} (h : OwnH base w v l) (hb : base' ≤ base) : OwnH base' w v l := by
  refine ⟨h.1, ?_⟩
  rcases h.2 with h2 | ⟨g, cap, cur, h1, h3, h4⟩
  · exact .inl h2
  · exact .inr ⟨g, cap, cur, h1, Nat.le_trans hb h3, h4⟩
/-- Where it has elements it lies in a block of its own. -/
theorem OwnH.lies {base : Nat} {w : World} {v : Value} {l : List Sc} (h : OwnH base w v l) (h0 : 0 < l.length) : ∃ g cap, v = .slice (some ⟨g, 0, none⟩) l.length cap ∧ base ≤ g ∧ g < w.heap.size := by
  rcases h.2 with ⟨_, h2⟩ | ⟨g, cap, cur, rfl, h3, h4, h5⟩
  · omega
  · exact ⟨g, cap, rfl, h3, (Array.getElem?_eq_some_iff.1 h4).1⟩
theorem OwnH.c0 {base : Nat} {w : World} {g n cap : Nat} {l : List Sc} (h : OwnH base w (.slice (some ⟨g, 0, none⟩) n cap) l) {k : Nat} (hk : k < l.length) : w.cell? ⟨g, k * 2, none⟩ = some (.int .i64 (gd l k).1) := by
  have hn : n = l.length := by obtain ⟨a, c, he⟩ := h.slice; cases he; rfl
  subst hn
  rw [World.ownsRow.cellAt h (k * 2) (by omega), flS_0 l k hk]
theorem OwnH.c1 {base : Nat} {w : World} {g n cap : Nat} {l : List Sc} (h : OwnH base w (.slice (some ⟨g, 0, none⟩) n cap) l) {k : Nat} (hk : k < l.length) : w.cell? ⟨g, k * 2 + 1, none⟩ = some (.int .i64 (gd l k).2) := by
  have hn : n = l.length := by obtain ⟨a, c, he⟩ := h.slice; cases he; rfl
  subst hn
  rw [World.ownsRow.cellAt h (k * 2 + 1) (by omega), flS_1 l k hk]
theorem OwnH.fz {base : Nat} {w : World} {g n cap : Nat} {l : List Sc} (h : OwnH base w (.slice (some ⟨g, 0, none⟩) n cap) l) (j : Nat) : w.frozen? ⟨g, j, none⟩ = false := by
  have hn : n = l.length := by obtain ⟨a, c, he⟩ := h.slice; cases he; rfl
  subst hn
  exact World.ownsRow.frozenAt h j
theorem OwnH.lt1 {base : Nat} {w : World} {g n cap : Nat} {l : List Sc} (h : OwnH base w (.slice (some ⟨g, 0, none⟩) n cap) l) : base ≤ g ∧ g < w.heap.size := h.lt g (by simp [hbl, Value.ownBlock])
theorem off1 (W : World) (g o : Nat) (u : Value) : Off [g] W (W.setCell ⟨g, o, none⟩ u) := ⟨rfl, rfl, rfl, by simp [World.setCell], fun k hk hn => Below.heap_setCell W ⟨g, o, none⟩ u k (by simpa using hn)⟩
/-- A score put into its place. -/
def putC (W : World) (g k : Nat) (p : Sc) : World := (W.setCell ⟨g, k * 2, none⟩ (.int .i64 p.1)).setCell ⟨g, k * 2 + 1, none⟩ (.int .i64 p.2)
theorem putC_off (W : World) (g k : Nat) (p : Sc) : Off [g] W (putC W g k p) := (off1 _ _ _ _).trans (off1 _ _ _ _)
theorem OwnH.put {base : Nat} {w : World} {g n cap : Nat} {l : List Sc} (h : OwnH base w (.slice (some ⟨g, 0, none⟩) n cap) l) (k : Nat) (p : Sc) : OwnH base (putC w g k p) (.slice (some ⟨g, 0, none⟩) n cap) (l.set k p) := by
  have hn : n = l.length := by obtain ⟨a, c, he⟩ := h.slice; cases he; rfl
  subst hn
  have h1 := (World.ownsRow.stored (World.ownsRow.stored h (k * 2) (.int .i64 p.1)).1 (k * 2 + 1) (.int .i64 p.2)).1
  rw [flS_set] at h1
  unfold OwnH putC
  rw [List.length_set]
  exact h1
/-- The same list without its last ones. -/
theorem OwnH.cut {base : Nat} {w : World} {g n cap : Nat} {l : List Sc} (h : OwnH base w (.slice (some ⟨g, 0, none⟩) n cap) l) {k : Nat} (hk : k ≤ l.length) : OwnH base w (.slice (some ⟨g, 0, none⟩) k cap) (l.take k) := by
  have hl : (l.take k).length = k := by simp; omega
  refine ⟨by rw [flS_len], ?_⟩
  rcases h.2 with ⟨h2, _⟩ | ⟨g', cap', cur, he, h3, h4, h5, h6, h7, h8⟩
  · cases h2
  · cases he
    refine .inr ⟨g, cap, cur, by rw [hl], h3, h4, by omega, h6, h7, ?_⟩
    rw [hl, ← flS_take, ← h8, List.take_take, Nat.min_eq_left (by omega)]
/-- What one more makes of it. -/
theorem flS_snoc (l : List Sc) (p : Sc) : flS (l ++ [p]) = flS l ++ [.int .i64 p.1, .int .i64 p.2] := by rw [flS_app]; rfl
theorem news2 (W : World) (p : Sc) (tt : TypeId) : RowsAt (W.alloc (.cells #[.int .i64 p.1, .int .i64 p.2] tt)) 2 (.slice (some ⟨W.heap.size, 0, none⟩) 1 1) 1 [.int .i64 p.1, .int .i64 p.2] := by
  refine ⟨rfl, _, 1, rfl, Nat.le_refl _, by simp, .inr ⟨W.heap.size, 0, rfl, by simp, fun j u' hj => ?_⟩⟩
  match j, hj with
  | 0, hj => simp at hj; subst hj; simp [World.cell?_alloc_new]
  | 1, hj => simp at hj; subst hj; simp [World.cell?_alloc_new]
  | j + 2, hj => simp at hj
/-! ### lists of lists -/
def gR (R : List (List Sc)) (i : Nat) : List Sc := R.getD i []
theorem takeR (R : List (List Sc)) (k : Nat) (h : k < R.length) : R.take (k + 1) = R.take k ++ [gR R k] := by
  rw [List.take_succ_eq_append_getElem h]; simp [gR, List.getD, h]
theorem gR_mem {R : List (List Sc)} {k : Nat} (h : k < R.length) : gR R k ∈ R := by simp [gR, List.getD, h]
theorem mem_gR {R : List (List Sc)} {r : List Sc} (h : r ∈ R) : ∃ i, i < R.length ∧ gR R i = r := by
  obtain ⟨i, hi, rfl⟩ := List.mem_iff_getElem.1 h
  exact ⟨i, hi, by simp [gR, List.getD, hi]⟩
/-- The slice value x reads as the rows R. -/
def RwsAt (w : World) (x : Value) (R : List (List Sc)) : Prop :=
  (∃ a c, x = .slice a 0 c ∧ R = []) ∨ ∃ b off cap, x = .slice (some ⟨b, off, none⟩) R.length cap ∧ b < w.heap.size ∧ ∀ i, i < R.length → ∃ v, w.cell? ⟨b, off + i, none⟩ = some v ∧ ScsAt w v (gR R i)
theorem RwsAt.slice {w : World} {x : Value} {R : List (List Sc)} (h : RwsAt w x R) : ∃ a c, x = .slice a R.length c := by
  rcases h with ⟨a, c, rfl, rfl⟩ | ⟨b, off, cap, rfl, _, _⟩ <;> exact ⟨_, _, rfl⟩
theorem RwsAt.below {w w' : World} {x : Value} {R : List (List Sc)} (h : RwsAt w x R) (kb : Below w.heap.size w w') : RwsAt w' x R := by
  rcases h with h | ⟨b, off, cap, h1, h2, h3⟩
  · exact .inl h
  · exact .inr ⟨b, off, cap, h1, Nat.lt_of_lt_of_le h2 kb.size, fun i hi => by
      obtain ⟨v, hv, hs⟩ := h3 i hi
      exact ⟨v, (kb.cell (p := ⟨b, off + i, none⟩) h2).trans hv, hs.below kb⟩⟩
/-- The same, with the room of each row. -/
def RdR (w : World) (x : Value) (R : List (List Sc)) : Prop :=
  (∃ a c, x = .slice a 0 c ∧ R = []) ∨ ∃ b off cap, x = .slice (some ⟨b, off, none⟩) R.length cap ∧ b < w.heap.size ∧ ∀ i, i < R.length → ∃ v, w.cell? ⟨b, off + i, none⟩ = some v ∧ RdS w v (gR R i)
theorem RdR.at {w : World} {x : Value} {R : List (List Sc)} (h : RdR w x R) : RwsAt w x R := by
  rcases h with h | ⟨b, off, cap, h1, h2, h3⟩
  · exact .inl h
  · exact .inr ⟨b, off, cap, h1, h2, fun i hi => by
      obtain ⟨v, hv, hs⟩ := h3 i hi
      exact ⟨v, hv, hs.at⟩⟩
theorem RdR.slice {w : World} {x : Value} {R : List (List Sc)} (h : RdR w x R) : ∃ a c, x = .slice a R.length c := h.at.slice
theorem RdR.below {w w' : World} {x : Value} {R : List (List Sc)} (h : RdR w x R) (kb : Below w.heap.size w w') : RdR w' x R := by
  rcases h with h | ⟨b, off, cap, h1, h2, h3⟩
  · exact .inl h
  · exact .inr ⟨b, off, cap, h1, Nat.lt_of_lt_of_le h2 kb.size, fun i hi => by
      obtain ⟨v, hv, hs⟩ := h3 i hi
      exact ⟨v, (kb.cell (p := ⟨b, off + i, none⟩) h2).trans hv, hs.below kb⟩⟩
end Go.Proofs.Ythdodlbhkpoadaa
