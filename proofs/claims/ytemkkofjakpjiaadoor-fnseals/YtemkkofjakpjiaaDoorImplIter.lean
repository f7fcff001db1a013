/- The contract of the iterator over the rows of a tree: from the leaves up, each row as it lies in memory. Condition: the table of weights as it is laid; the leaves lie in memory. -/
import Derived.Test.YtemkkofjakpjiaaDoorImplRow
import Derived.Test.YtemkkofjakpjiaaDoorRange
import Derived.RangeFuncBound
import Derived.RangeFuncCalls
import Derived.Shelf.Abstract
import Derived.Shelf.RegionOpen
import Derived.WalkKit
import Derived.OwnWalkIn
import Derived.TacticsInMore
import Derived.LoopNIn
import Derived.LoopIn
namespace Go.Proofs.YtemkkofjakpjiaaDoor
open Go.ChangeShapes Go.WideShapes Go.ChangeAt Go.RowKit Go.Deep Go.Shelf
set_option linter.unusedVariables false

/-- The value v is the k-th row of the tree, from the leaves up, in a block outside of lo .. hi - 1. -/
def RowV (s : ByteArray) (lo hi k : Nat) (v : Value) (W : World) : Prop :=
  Table W ∧ hi ≤ W.heap.size ∧ ∃ g n c, v = .slice (some ⟨g, 0, none⟩) n c ∧ n = 2 ^ (3 - k) ∧ (g < lo ∨ hi ≤ g) ∧ g < W.heap.size ∧ ∀ i, i < n → W.cell? ⟨g, i, none⟩ = some (.string (lev s k i))
theorem RowV.below {s : ByteArray} {lo hi k : Nat} {v : Value} {A B : World} (h : RowV s lo hi k v A) (hb : Below A.heap.size A B) : RowV s lo hi k v B := by
  obtain ⟨ht, hh, g, n, c, h1, h2, h3, h4, h5⟩ := h
  exact ⟨ht.below hb, Nat.le_trans hh hb.size, g, n, c, h1, h2, h3, Nat.lt_of_lt_of_le h4 hb.size, fun i hi => (hb.cell (p := ⟨g, i, none⟩) h4).trans (h5 i hi)⟩
theorem RowV.own (s : ByteArray) (lo hi B k : Nat) (v : Value) : OwnFrom B (fun (_ : Unit) W => RowV s lo hi k v W) := by
  rintro _ X Y row ⟨ht, hh, g, n, c, h1, h2, h3, h4, h5⟩ hg hr
  have hr' : ∀ r, row = some r → ∃ o : Obj, X.heap[r]? = some o ∧ o.isCells = false := fun r e => (hr r e).2
  exact ⟨⟨Nat.lt_of_lt_of_le ht.1 hg.size, fun i hi => cell_kept (ht.2 i hi) hg hr'⟩, Nat.le_trans hh hg.size, g, n, c, h1, h2, h3, Nat.lt_of_lt_of_le h4 hg.size, fun i hi => cell_kept (h5 i hi) hg hr'⟩
def lenR : Value → Nat
  | .slice _ n _ => n
  | _ => 0
theorem rowHalf (h : Nat) (hh : h < 3) : ∃ m, 2 ^ (3 - h) = 2 * m ∧ m = 2 ^ (3 - (h + 1)) ∧ 1 ≤ m ∧ m ≤ 4 := by
  have : h = 0 ∨ h = 1 ∨ h = 2 := by omega
  rcases this with rfl | rfl | rfl <;> exact ⟨_, by decide, rfl, by decide, by decide⟩

theorem implRowsUp (v : Value) (w : World) (a : Option Addr) (n c : Nat) (hv : v = .slice a n c) :
    Calls Tryd.prog 92 #[v] w fun e w' => e = .returned (.func (.func 118) #[] #[.pointer (some ⟨w.heap.size, 0, none⟩)]) ∧ w' = w.alloc (.cells #[v] 25) := by
  have hmf : ∀ (fn : Fn) (first cap : Array Value) (w : World), (Instr.makeFunc fn first cap).run Tryd.prog w = .ok (.func fn first cap) w := fun _ _ _ _ => rfl
  subst hv
  go_enter Tryd.func92, Tryd.ntmps92
  go_wp2
  go_returns
  exact ⟨rfl, rfl⟩

set_option maxHeartbeats 3200000 in
set_option maxRecDepth 100000 in
theorem implRows1 (s : ByteArray) (lo hi b N : Nat) (v0 : Value) (w : World) (hbw : b < w.heap.size) (hbox : w.cell? ⟨b, 0, none⟩ = some v0) (hv : RowV s lo hi 0 v0 w) :
    RowSeq Fence.wide N Tryd.prog 118 #[.pointer (some ⟨b, 0, none⟩)] (RowV s lo hi) 4 w := by
  intro l J Jx W hW hJ hJx hY h0
  have hbox1 : W.cell? ⟨b, 0, none⟩ = some v0 := (hW.cell (p := ⟨b, 0, none⟩) hbw).trans hbox
  have hv1 := hv.below hW
  have HV : Hid (RowV s lo hi 0 v0 W) := hv1
  obtain ⟨_, _, g0, n0, c0, hv0, -⟩ := hv1
  have HJ : Hid (∀ k A B, J k A → Below A.heap.size A B → J k B) := hJ
  have H0 : Hid (J 0 W) := h0
  have HY : Hid (∀ k v W1, k < 4 → J k W1 → RowV s lo hi k v W1 → YieldAt Fence.wide (N - 1) Tryd.prog l #[v] W1 fun e W' => (e = .returned (.bool true) ∧ J (k + 1) W' ∧ RowV s lo hi k v W') ∨ (e = .returned (.bool false) ∧ Jx W')) := hY
  clear hY hJ hJx h0 hv hW hbox
  subst hv0
  refine callsIn_of_wp Tryd.func118 rfl trivial ?_ rfl
  simp only [Tryd.ntmps118, List.size_toArray, List.length_cons, List.length_nil, Nat.reduceAdd, Nat.reduceSub, Array.replicate_succ, Array.replicate_zero, List.push_toArray, List.append_toArray, List.nil_append, List.cons_append]
  gi_wp2
  gi_loopw [3] (fun p wr => ∃ k, k ≤ 3 ∧ RowV s lo hi k p wr ∧ J k wr) (fun p _ => lenR p)
  case atStart => exact ⟨0, by omega, HV.out, H0.out⟩
  case round =>
    obtain ⟨k, hk, hR, hJk⟩ := hrel
    have HR : Hid (RowV s lo hi k _ wr) := hR
    obtain ⟨_, _, g, n, c, hvv, hn, -⟩ := hR
    subst hvv
    have HN : Hid (n = 2 ^ (3 - k)) := hn
    obtain ⟨fn, tmps, assign, body, hy, hround⟩ := HY.out k _ wr (by omega) hJk HR.out
    clear hn HR hJk
    gi_wp2
    refine ⟨fun hh => absurd hh (by decide), hround.mono ?_⟩
    rintro e W3 (⟨rfl, hJ3, hV3⟩ | ⟨rfl, hJx3⟩)
    · clear hround hy
      by_cases hk3 : k < 3
      · obtain ⟨m, hm1, hm2, hm3, hm4⟩ := rowHalf k hk3
        have hnm : n = 2 * m := by rw [HN.out]; exact hm1
        have HM : Hid (m = 2 ^ (3 - (k + 1))) := hm2
        have hgt : (1 : Int) < (n : Int) := by omega
        obtain ⟨hT3, hh3, g', n', c', e', -, -, hg3, hc3⟩ := hV3
        simp only [Value.slice.injEq, Option.some.injEq, Addr.mk.injEq, and_true] at e'
        obtain ⟨eg, en, ec⟩ := e'
        subst eg
        subst en
        have HP := implRow s k m n g c W3 hnm hm3 hm4 hg3 hc3 hT3
        have HT3 : Hid (Table W3) := hT3
        have HNM : Hid (n = 2 * m) := hnm
        clear hm1 hm2 hnm hc3 hT3 ec HN
        gi_wp2_with fail
        refine ⟨trivial, fun hh => absurd hh (by decide), (callsIn_wide.2 HP).mono ?_⟩
        rintro e W4 ⟨rfl, hO4, hb4⟩
        gi_wp2
        go_roundw
        case rel => exact ⟨k + 1, by omega, ⟨HT3.out.below hb4, Nat.le_trans hh3 hb4.size, W3.heap.size, m, m, rfl, HM.out, .inr hh3, hO4.2.1, fun i hi => hO4.2.2.1 i hi⟩, HJ.out _ _ _ hJ3 hb4⟩
        case measure => have := HNM.out; simp [lenR]; omega
      · have hk4 : k = 3 := by omega
        subst hk4
        have hn1 : n = 1 := HN.out
        subst hn1
        gi_wp2
        go_end0
        exact ⟨⟨_, rfl⟩, .inl hJ3⟩
    · clear hround hy
      gi_wp2
      go_end0
      exact ⟨⟨_, rfl⟩, .inr hJx3⟩
end Go.Proofs.YtemkkofjakpjiaaDoor
