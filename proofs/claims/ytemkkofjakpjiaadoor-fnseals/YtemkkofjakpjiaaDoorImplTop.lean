/- The contract of the program's top of a tree of keys. Condition: the table of weights as it is laid. -/
import Derived.Test.YtemkkofjakpjiaaDoorImplIter
namespace Go.Proofs.YtemkkofjakpjiaaDoor
open Go.ChangeShapes Go.WideShapes Go.ChangeAt Go.RowKit Go.Deep Go.Shelf
set_option linter.unusedVariables false
attribute [local go_sem] Oper.semAt_some

/-- A store into a box of the caller's leaves the rows as they lay. -/
theorem RowV.box {s : ByteArray} {lo hi k b : Nat} {v : Value} {W : World} (h : RowV s lo hi k v W) (h0 : 0 < lo) (h1 : lo ≤ b) (h2 : b < hi) (u : Value) : RowV s lo hi k v (W.setCell ⟨b, 0, none⟩ u) := by
  obtain ⟨ht, hh, g, n, c, e, en, ho, hg, hc⟩ := h
  refine ⟨⟨by simpa using ht.1, fun i hi => ?_⟩, by simpa using hh, g, n, c, e, en, ho, by simpa using hg, fun i hi => ?_⟩
  · rw [World.cell?_setCell_other W ⟨b, 0, none⟩ ⟨0, i, none⟩ _ (fun e => by have := congrArg Addr.block e; simp at this; omega)]; exact ht.2 i hi
  · rw [World.cell?_setCell_other W ⟨b, 0, none⟩ ⟨g, i, none⟩ _ (fun e => by have := congrArg Addr.block e; simp at this; omega)]; exact hc i hi
/-- What the top's variable holds when k rows have come. -/
def topAt (s : ByteArray) : Nat → ByteArray
  | 0 => ByteArray.empty
  | k + 1 => lev s k 0

set_option maxHeartbeats 3200000 in
set_option maxRecDepth 100000 in
theorem implTopYes (s : ByteArray) (w : World) (h0 : 1 ≤ s.size) (h1 : s.size ≤ 8) (ht : Table w) :
    Calls Tryd.prog 37 #[.string s] w fun e w' => e = .returned (.tuple #[.string (topB s), .bool true]) ∧ Below w.heap.size w w' := by
  have HT : Hid (Table w) := ht
  have HL := implLeavesYes s w h0 h1 ht
  have hw0 := ht.1
  clear ht
  refine (callsIn_wide (n := 9)).1 ?_
  refine callsIn_of_wp_marks Tryd.func37 rfl trivial ?_ rfl
  simp only [Tryd.ntmps37, List.size_toArray, List.length_cons, List.length_nil, Nat.reduceAdd, Nat.reduceSub, Array.replicate_succ, Array.replicate_zero, List.push_toArray, List.append_toArray, List.nil_append, List.cons_append]
  gi_wp2_with fail
  refine ⟨trivial, (callsIn_wide.2 HL).mono ?_⟩
  rintro e w1 ⟨g, rfl, ho, hb1⟩
  have hl1 := hb1.size
  clear HL
  gi_wp2_with fail
  refine ⟨trivial, (callsIn_wide.2 (implRowsUp _ _ _ _ _ rfl)).mono ?_⟩
  rintro e w2 ⟨rfl, rfl⟩
  gi_wp2_with fail
  obtain ⟨W2, hW2⟩ : ∃ W2, (w1.alloc (.cells #[.string ⟨#[]⟩] 9)).alloc (.cells #[.slice (some ⟨g, 0, none⟩) 8 8] 25) = W2 := ⟨_, rfl⟩
  have hz2 : W2.heap.size = w1.heap.size + 2 := by rw [← hW2]; simp
  have hB0 : Boxed W2 w1.heap.size 9 (.string ByteArray.empty) := by rw [← hW2]; exact (Boxed.new w1 9 _).alloc _
  have hB1 : W2.cell? ⟨w1.heap.size + 1, 0, none⟩ = some (.slice (some ⟨g, 0, none⟩) 8 8) := by rw [← hW2]; simp
  have hb12 : Below w1.heap.size w1 W2 := by rw [← hW2]; exact ((Below.refl _ w1).alloc (Nat.le_refl _) _).alloc (by simp) _
  have hb2 : Below w.heap.size w W2 := hb1.trans (hb12.mono hl1)
  have hgl := ho.2.1
  have ho2 := ho.below hb12
  have hR0 : RowV s w1.heap.size (w1.heap.size + 1) 0 (.slice (some ⟨g, 0, none⟩) 8 8) W2 :=
    ⟨HT.out.below hb2, by omega, g, 8, 8, rfl, rfl, .inl hgl, by omega, fun i hi => ho2.2.2.1 i hi⟩
  have hseq := implRows1 s w1.heap.size (w1.heap.size + 1) (w1.heap.size + 1) (9 - 1) _ W2 (by omega) hB1 hR0
  rw [hW2]
  refine rangeRows rfl (by omega) (gf := 118) (lb := #[.pointer (some ⟨w1.heap.size + 1, 0, none⟩)]) rfl trivial (enters_of Tryd.func118 (by kernel_rfl) rfl)
    hseq (fun k v => RowV.own s _ _ _ k v) (fun k W => Boxed W w1.heap.size 9 (.string (topAt s k)) ∧ Below w.heap.size w W) (fun _ _ => False)
    (OwnFrom.and (Own.from (boxed_own w1.heap.size 9 (fun k => .string (topAt s k))) _) (ownFrom_below (Nat.le_refl _) (by omega)))
    (fun _ _ _ _ hs _ _ => hs) ⟨hB0, hb2⟩ ?a1 ?assign ?body ?done ?stop
  case assign =>
    intro l v W K hK
    gi_wp2
    exact hK
  case body =>
    rintro l k v W hk ⟨hB, hbW⟩ hV
    have hV' := hV
    obtain ⟨_, hh, g', n', c', rfl, hn', ho', hg', hc'⟩ := hV'
    have hn1 : (0 : Int) < (n' : Int) := by
      have : 0 < 2 ^ (3 - k) := Nat.two_pow_pos _
      omega
    have hc0 := hc' 0 (by omega)
    have hbc := hB.cell
    have hbf := hB.frozen
    have HV : Hid (RowV s w1.heap.size (w1.heap.size + 1) k (.slice (some ⟨g', 0, none⟩) n' c') W) := hV
    have HB : Hid (Boxed W w1.heap.size 9 (.string (topAt s k))) := hB
    clear hn' hc' hV hB
    gi_wp2
    exact ⟨(KeepsOthers.setCell _ _ _).from _, HV.out.box (by omega) (Nat.le_refl _) (Nat.lt_succ_self _) _, HB.out.set _, hbW.setCell (p := ⟨w1.heap.size, 0, none⟩) hl1 _⟩
  case done =>
    rintro D W hD ⟨hB, hbW⟩ hK
    have hbc := hB.cell
    gi_wp2
    refine ⟨by simp, .inl ⟨_, _, rfl, run_takeDeferred hK, ?_⟩⟩
    refine ⟨.tuple #[.string (topB s), .bool true], ?_, rfl, hbW.trans (belowK_b (w := w) (Nat.le_refl _) W D _ _ (by omega) hK rfl rfl)⟩
    simp [results, Tryd.results37, go_sem]
    rfl
  case stop =>
    rintro D id W _ h _
    exact h.elim
set_option maxHeartbeats 1600000 in
theorem implTopNo (s : ByteArray) (w : World) (hm : s.size ≤ maxLen) (h : ¬ (1 ≤ s.size ∧ s.size ≤ 8)) :
    Calls Tryd.prog 37 #[.string s] w fun e w' => e = .returned (.tuple #[.string ByteArray.empty, .bool false]) ∧ Below w.heap.size w w' := by
  have HL := implLeavesNo s w hm h
  refine (callsIn_wide (n := 9)).1 ?_
  refine callsIn_of_wp_marks Tryd.func37 rfl trivial ?_ rfl
  simp only [Tryd.ntmps37, List.size_toArray, List.length_cons, List.length_nil, Nat.reduceAdd, Nat.reduceSub, Array.replicate_succ, Array.replicate_zero, List.push_toArray, List.append_toArray, List.nil_append, List.cons_append]
  gi_wp2_with fail
  refine ⟨trivial, (callsIn_wide.2 HL).mono ?_⟩
  rintro e w1 ⟨rfl, hb1⟩
  clear HL
  gi_wp2
  refine ⟨.tuple #[.string ByteArray.empty, .bool false], ?_, rfl, hb1⟩
  simp [results, Tryd.results37, go_sem]
  rfl
end Go.Proofs.YtemkkofjakpjiaaDoor
