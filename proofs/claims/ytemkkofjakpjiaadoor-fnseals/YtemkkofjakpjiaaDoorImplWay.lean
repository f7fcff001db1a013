/- The contract of the program's way in a tree of keys. Condition: the table of weights as it is laid. -/
import Derived.Test.YtemkkofjakpjiaaDoorImplTop
import Derived.Maps.AppendAt
import Derived.Maps.OwnIn
namespace Go.Proofs.YtemkkofjakpjiaaDoor
open Go.ChangeShapes Go.WideShapes Go.ChangeAt Go.RowKit Go.Deep Go.Shelf
set_option linter.unusedVariables false
attribute [local go_sem] Oper.semAt_some

theorem allocCell' (X : World) (vs : Array Value) (T : TypeId) (b k : Nat) (v : Value) (h : b = X.heap.size) (hv : vs[k]? = some v) : (X.alloc (.cells vs T)).cell? ⟨b, k, none⟩ = some v := by
  subst h
  simpa using hv
def atB (no : Nat) : Nat → Nat
  | 0 => no
  | k + 1 => atB no k / 2
theorem atB_lt (no : Nat) (h : no < 8) : ∀ k, k < 3 → atB no k ^^^ 1 < 2 ^ (3 - k) ∧ atB no k < 8 := by
  intro k hk
  match k, hk with
  | 0, _ => exact ⟨xor8 no h, h⟩
  | 1, _ => exact ⟨xor4 (no / 2) (by omega), by show no / 2 < 8; omega⟩
  | 2, _ => exact ⟨xor2 (no / 2 / 2) (by omega), by show no / 2 / 2 < 8; omega⟩
/-- A store into a block of the caller's leaves the rows as they lay. -/
theorem RowV.boxAt {s : ByteArray} {lo hi k b o : Nat} {v : Value} {W : World} (h : RowV s lo hi k v W) (h0 : 0 < lo) (h1 : lo ≤ b) (h2 : b < hi) (u : Value) : RowV s lo hi k v (W.setCell ⟨b, o, none⟩ u) := by
  obtain ⟨ht, hh, g, n, c, e, en, ho, hg, hc⟩ := h
  refine ⟨⟨by simpa using ht.1, fun i hi => ?_⟩, by simpa using hh, g, n, c, e, en, ho, by simpa using hg, fun i hi => ?_⟩
  · rw [World.cell?_setCell_other W ⟨b, o, none⟩ ⟨0, i, none⟩ _ (fun e => by have := congrArg Addr.block e; simp at this; omega)]; exact ht.2 i hi
  · rw [World.cell?_setCell_other W ⟨b, o, none⟩ ⟨g, i, none⟩ _ (fun e => by have := congrArg Addr.block e; simp at this; omega)]; exact hc i hi
theorem ownRow_own (base B g n : Nat) (f : Nat → Value) : OwnFrom B (fun (_ : Unit) W => OwnRow base W g n f) := by
  rintro _ X Y row ⟨h1, h2, h3, h4⟩ hg hr
  have hr' : ∀ r, row = some r → ∃ o : Obj, X.heap[r]? = some o ∧ o.isCells = false := fun r e => (hr r e).2
  exact ⟨h1, Nat.lt_of_lt_of_le h2 hg.size, fun i hi => cell_kept (h3 i hi) hg hr', fun i hi => (frozen_kept (h3 i hi) hg hr').trans (h4 i hi)⟩
theorem OwnRow.setOff' {base : Nat} {w : World} {g n b o : Nat} {v : Value} {f : Nat → Value} (h : OwnRow base w g n f) (hne : b ≠ g) : OwnRow base (w.setCell ⟨b, o, none⟩ v) g n f := by
  refine ⟨h.1, by simpa using h.2.1, fun i hi => ?_, fun i hi => ?_⟩
  · rw [World.cell?_setCell_other w ⟨b, o, none⟩ ⟨g, i, none⟩ _ (fun h => hne (by cases h; rfl)), h.2.2.1 i hi]
  · have := h.2.2.2 i hi
    simp [*, go_sem]
theorem boxed_off {W : World} {B b o : Nat} {t : TypeId} {v u : Value} (h : Boxed W B t v) (hne : b ≠ B) : Boxed (W.setCell ⟨b, o, none⟩ u) B t v :=
  h.kept (row := some b) (gb_setG (World.grownBy.refl W _) o u) (fun e => hne (by cases e; rfl))
/-- The first k of the way lie in their row. -/
def WayAt (s : ByteArray) (no base : Nat) (W : World) (g k : Nat) : Prop := ∃ f, OwnRow base W g 3 f ∧ ∀ i, i < k → f i = .string ((wayB s no).getD i ByteArray.empty)
theorem way_get (s : ByteArray) (no k : Nat) (h : k < 3) : (wayB s no).getD k ByteArray.empty = lev s k (atB no k ^^^ 1) := by
  match k, h with
  | 0, _ => rfl
  | 1, _ => rfl
  | 2, _ => rfl

theorem way_step {s : ByteArray} {no k : Nat} {f : Nat → Value} {r : ByteArray} (h : ∀ i, i < k → f i = .string ((wayB s no).getD i ByteArray.empty)) (hr : (wayB s no).getD k ByteArray.empty = r) (i : Nat) (hi : i < k + 1) :
    (fun i => if i = k then Value.string r else f i) i = .string ((wayB s no).getD i ByteArray.empty) := by
  by_cases e : i = k
  · subst e; simp only [if_true]; rw [hr]
  · simp only [if_neg e]; exact h i (by omega)

/-- What a round of the way leaves. -/
theorem way_round {s : ByteArray} {no k A A' lo b8 B : Nat} {v : Value} {w W : World} {f : Nat → Value} {r : ByteArray} (hV : RowV s lo (b8 + 2) k v W) (h8 : Boxed W b8 25 (.slice (some ⟨lo, 0, none⟩) k 3)) (h9 : Boxed W (b8 + 1) 3 (.int .i64 A))
    (hO : OwnRow lo W lo 3 f) (hf : ∀ i, i < k → f i = .string ((wayB s no).getD i ByteArray.empty)) (hr : (wayB s no).getD k ByteArray.empty = r) (hA : A' = A / 2) (hk : k < 3) (h0 : 0 < lo) (h1 : lo < b8) (h2 : b8 + 1 < W.heap.size) (hl : w.heap.size ≤ lo) (hb : Below w.heap.size w W) :
    KeepsFrom B W ((((W.setCell ⟨lo, k, none⟩ (.string r)).setCell ⟨b8, 0, none⟩ (.slice (some ⟨lo, 0, none⟩) (k + 1) 3)).setCell ⟨b8 + 1, 0, none⟩ (.int .i64 ((A : Int) / 2))).alloc (.cells #[.string r] 9)).drew ∧
    RowV s lo (b8 + 2) k v ((((W.setCell ⟨lo, k, none⟩ (.string r)).setCell ⟨b8, 0, none⟩ (.slice (some ⟨lo, 0, none⟩) (k + 1) 3)).setCell ⟨b8 + 1, 0, none⟩ (.int .i64 ((A : Int) / 2))).alloc (.cells #[.string r] 9)).drew ∧
    ((k + 1 ≤ 3 ∧ WayAt s no lo ((((W.setCell ⟨lo, k, none⟩ (.string r)).setCell ⟨b8, 0, none⟩ (.slice (some ⟨lo, 0, none⟩) (k + 1) 3)).setCell ⟨b8 + 1, 0, none⟩ (.int .i64 ((A : Int) / 2))).alloc (.cells #[.string r] 9)).drew lo (k + 1)) ∧
      Boxed ((((W.setCell ⟨lo, k, none⟩ (.string r)).setCell ⟨b8, 0, none⟩ (.slice (some ⟨lo, 0, none⟩) (k + 1) 3)).setCell ⟨b8 + 1, 0, none⟩ (.int .i64 ((A : Int) / 2))).alloc (.cells #[.string r] 9)).drew b8 25 (.slice (some ⟨lo, 0, none⟩) (k + 1) 3) ∧
      Boxed ((((W.setCell ⟨lo, k, none⟩ (.string r)).setCell ⟨b8, 0, none⟩ (.slice (some ⟨lo, 0, none⟩) (k + 1) 3)).setCell ⟨b8 + 1, 0, none⟩ (.int .i64 ((A : Int) / 2))).alloc (.cells #[.string r] 9)).drew (b8 + 1) 3 (.int .i64 (A' : Nat))) ∧
    Below w.heap.size w ((((W.setCell ⟨lo, k, none⟩ (.string r)).setCell ⟨b8, 0, none⟩ (.slice (some ⟨lo, 0, none⟩) (k + 1) 3)).setCell ⟨b8 + 1, 0, none⟩ (.int .i64 ((A : Int) / 2))).alloc (.cells #[.string r] 9)).drew := by
  have hcast : ((A' : Nat) : Int) = (A : Int) / 2 := by rw [hA]; omega
  have hbs := hb.size
  rw [hcast]
  refine ⟨(((((KeepsOthers.setCell _ _ _).trans (KeepsOthers.setCell _ _ _)).trans (KeepsOthers.setCell _ _ _)).trans (KeepsOthers.alloc _ _)).trans (KeepsOthers.drew _)).from _, ?_, ⟨⟨by omega, ?_⟩, ?_, ?_⟩, ?_⟩
  · exact RowV.below (((hV.boxAt h0 (Nat.le_refl _) (by omega) _).boxAt h0 (by omega) (by omega) _).boxAt h0 (by omega) (by omega) _) (((Below.refl _ _).alloc (Nat.le_refl _) _).drew)
  · exact ⟨_, OwnRow.below (OwnRow.setOff' (OwnRow.setOff' (hO.set hk (.string r)) (by omega)) (by omega)) (((Below.refl _ _).alloc (Nat.le_refl _) _).drew), fun i hi => way_step hf hr i hi⟩
  · exact Boxed.alloc (boxed_off (Boxed.set _ (boxed_off h8 (by omega))) (by omega)) _
  · exact Boxed.alloc (Boxed.set _ (boxed_off (boxed_off h9 (by omega)) (by omega))) _
  · exact ((((hb.setCell (p := ⟨lo, k, none⟩) hl _).setCell (p := ⟨b8, 0, none⟩) (by simp; omega) _).setCell (p := ⟨b8 + 1, 0, none⟩) (by simp; omega) _).alloc (by simp; omega) _).drew

set_option maxHeartbeats 3200000 in
set_option maxRecDepth 100000 in
theorem implWayYes (s : ByteArray) (no : Nat) (w : World) (h0 : 1 ≤ s.size) (h1 : s.size ≤ 8) (hno : no < 8) (ht : Table w) :
    Calls Tryd.prog 42 #[.string s, .int .i64 no] w fun e w' => ∃ g cap, e = .returned (.tuple #[.slice (some ⟨g, 0, none⟩) 3 cap, .bool true]) ∧ OwnRow w.heap.size w' g 3 (fun i => .string ((wayB s no).getD i ByteArray.empty)) ∧ Below w.heap.size w w' := by
  obtain ⟨i0, hi, hz0, hz1, hz2⟩ := info_parts infoStr
  have HT : Hid (Table w) := ht
  have HL := implLeavesYes s w h0 h1 ht
  have hw0 := ht.1
  clear ht
  refine (callsIn_wide (n := 9)).1 ?_
  refine callsIn_of_wp_marks Tryd.func42 rfl trivial ?_ rfl
  simp only [Tryd.ntmps42, List.size_toArray, List.length_cons, List.length_nil, Nat.reduceAdd, Nat.reduceSub, Array.replicate_succ, Array.replicate_zero, List.push_toArray, List.append_toArray, List.nil_append, List.cons_append]
  gi_wp2_with fail
  refine ⟨trivial, (callsIn_wide.2 (implNoYes no w (by omega) (by omega))).mono ?_⟩
  rintro e w0 ⟨rfl, hw0'⟩
  subst w0
  gi_wp2_with fail
  refine ⟨trivial, (callsIn_wide.2 HL).mono ?_⟩
  rintro e w1 ⟨g, rfl, ho, hb1⟩
  have hl1 := hb1.size
  clear HL
  gi_wp2_with (refine wpListIn_make_own w1 rfl _ _ _ rfl w1.heap.size 9 i0 (.string ⟨#[]⟩) 1 Tryd.underlying25 hi hz0 hz1 _ _ _ 3 rfl rfl rfl (by rw [hz2]; decide) (by decide) (Nat.le_refl _) ?_; intro w2 hown2 hg2)
  refine ⟨trivial, (callsIn_wide.2 (implRowsUp _ _ _ _ _ rfl)).mono ?_⟩
  rintro e w3 ⟨rfl, rfl⟩
  gi_wp2_with fail
  obtain ⟨W2, hW2⟩ : ∃ W2, ((w2.alloc (.cells #[.slice (some ⟨w1.heap.size, 0, none⟩) 0 3] 25)).alloc (.cells #[.int .i64 no] 3)).alloc (.cells #[.slice (some ⟨g, 0, none⟩) 8 8] 25) = W2 := ⟨_, rfl⟩
  have hlt2 := hown2.lt w1.heap.size rfl
  have hz2' : W2.heap.size = w2.heap.size + 3 := by rw [← hW2]; simp
  have hB8 : Boxed W2 w2.heap.size 25 (.slice (some ⟨w1.heap.size, 0, none⟩) 0 3) := by rw [← hW2]; exact ((Boxed.new w2 25 _).alloc _).alloc _
  have hB9 : Boxed W2 (w2.heap.size + 1) 3 (.int .i64 no) := by
    rw [← hW2]
    have := (Boxed.new (w2.alloc (.cells #[.slice (some ⟨w1.heap.size, 0, none⟩) 0 3] 25)) 3 (.int .i64 no)).alloc (.cells #[.slice (some ⟨g, 0, none⟩) 8 8] 25)
    rwa [World.size_alloc] at this
  have hBL : W2.cell? ⟨w2.heap.size + 2, 0, none⟩ = some (.slice (some ⟨g, 0, none⟩) 8 8) := by rw [← hW2]; exact allocCell' _ _ _ _ _ _ (by simp) rfl
  have hown : WayAt s no w1.heap.size W2 w1.heap.size 0 := by
    rcases hown2.2 with ⟨h, _⟩ | ⟨g', cap', cur, h, _, hgg, _, _, hcs, _⟩
    · cases h
    · simp only [Value.slice.injEq, Option.some.injEq, Addr.mk.injEq, and_true, true_and] at h
      obtain ⟨rfl, rfl⟩ := h
      have hgg2 : W2.heap[w1.heap.size]? = some (.cells cur 9 (0, 0)) := by
        rw [← hW2]
        refine (heap_alloc_old _ _ (by simp; omega)).trans ((heap_alloc_old _ _ (by simp; omega)).trans ((heap_alloc_old _ _ (by omega)).trans hgg))
      refine ⟨fun i => cur.getD i default, ⟨Nat.le_refl _, by omega, fun i hi => ?_, fun i hi => ?_⟩, fun i hi => by omega⟩
      · have : i < cur.size := by omega
        simp [World.cell?, hgg2, Array.getD, this]
      · simp [World.frozen?, hgg2]
  have hb12 : Below w1.heap.size w1 w2 := ⟨hg2.os, hg2.tape, hg2.output, hg2.size, fun k hk => hg2.block k hk (by simp)⟩
  have hb13 : Below w1.heap.size w1 W2 := by rw [← hW2]; exact ((hb12.alloc hb12.size _).alloc (by have := hb12.size; simp; omega) _).alloc (by have := hb12.size; simp; omega) _
  have hb2 : Below w.heap.size w W2 := hb1.trans (hb13.mono hl1)
  have hgl := ho.2.1
  have ho2 := ho.below hb13
  have hR0 : RowV s w1.heap.size (w2.heap.size + 2) 0 (.slice (some ⟨g, 0, none⟩) 8 8) W2 :=
    ⟨HT.out.below hb2, by omega, g, 8, 8, rfl, rfl, .inl hgl, by omega, fun i hi => ho2.2.2.1 i hi⟩
  have hseq := implRows1 s w1.heap.size (w2.heap.size + 2) (w2.heap.size + 2) (9 - 1) _ W2 (by omega) hBL hR0
  rw [hW2]
  clear hW2 hBL hR0 ho2 ho hg2 hown2 hb12
  have hownF : ∀ k, OwnFrom W2.heap.size (fun (_ : Unit) W => WayAt s no w1.heap.size W w1.heap.size k) := fun k _ X Y row hs hg hr => by
    obtain ⟨f, h1, h2⟩ := hs
    exact ⟨f, ownRow_own _ _ _ _ f () X Y row h1 hg hr, h2⟩
  refine rangeRows rfl (by omega) (gf := 118) (lb := #[.pointer (some ⟨w2.heap.size + 2, 0, none⟩)]) rfl trivial (enters_of Tryd.func118 (by kernel_rfl) rfl)
    hseq (fun k v => RowV.own s _ _ _ k v)
    (fun k W => ((k ≤ 3 ∧ WayAt s no w1.heap.size W w1.heap.size k) ∧ Boxed W w2.heap.size 25 (.slice (some ⟨w1.heap.size, 0, none⟩) k 3) ∧ Boxed W (w2.heap.size + 1) 3 (.int .i64 (atB no k))) ∧ Below w.heap.size w W)
    (fun id W => ((id = 0 ∧ WayAt s no w1.heap.size W w1.heap.size 3) ∧ Boxed W w2.heap.size 25 (.slice (some ⟨w1.heap.size, 0, none⟩) 3 3)) ∧ Below w.heap.size w W)
    (OwnFrom.and (fun k X Y row hs hg hr => ⟨⟨hs.1.1, hownF k () X Y row hs.1.2 hg hr⟩, Own.from (boxed_own w2.heap.size 25 (fun k => .slice (some ⟨w1.heap.size, 0, none⟩) k 3)) _ k X Y row hs.2.1 hg hr, Own.from (boxed_own (w2.heap.size + 1) 3 (fun k => .int .i64 (atB no k))) _ k X Y row hs.2.2 hg hr⟩) (ownFrom_below (Nat.le_refl _) (by omega)))
    (OwnFrom.and (fun id X Y row hs hg hr => ⟨⟨hs.1.1, hownF 3 () X Y row hs.1.2 hg hr⟩, Own.from (boxed_own w2.heap.size 25 (fun _ => .slice (some ⟨w1.heap.size, 0, none⟩) 3 3)) _ id X Y row hs.2 hg hr⟩) (ownFrom_below (Nat.le_refl _) (by omega)))
    ⟨⟨⟨Nat.zero_le _, hown⟩, hB8, hB9⟩, hb2⟩ ?a1 ?assign ?body ?done ?stop
  case assign =>
    intro l v W K hK
    gi_wp2
    exact hK
  case body =>
    rintro l k v W hk ⟨⟨⟨hk3, hO⟩, h8, h9⟩, hbW⟩ hV
    have hV' := hV
    obtain ⟨_, hh, g', n', c', rfl, hn', ho', hg', hc'⟩ := hV'
    have h8c := h8.cell
    have h8f := h8.frozen
    have h9c := h9.cell
    have h9f := h9.frozen
    have HV : Hid (RowV s w1.heap.size (w2.heap.size + 2) k (.slice (some ⟨g', 0, none⟩) n' c') W) := hV
    have H8 : Hid (Boxed W w2.heap.size 25 (.slice (some ⟨w1.heap.size, 0, none⟩) k 3)) := h8
    have H9 : Hid (Boxed W (w2.heap.size + 1) 3 (.int .i64 (atB no k))) := h9
    have HO : Hid (WayAt s no w1.heap.size W w1.heap.size k) := hO
    have HC : Hid (∀ i, i < n' → W.cell? ⟨g', i, none⟩ = some (.string (lev s k i))) := hc'
    have HN : Hid (n' = 2 ^ (3 - k)) := hn'
    clear hn' hc' hV h8 h9 hO
    by_cases hk2 : k < 3
    · obtain ⟨hat, hat8⟩ := atB_lt no hno k hk2
      have HX := fun W => implOther (atB no k) W hat8
      have hcx := HC.out (atB no k ^^^ 1) (by rw [HN.out]; exact hat)
      have HWS : Hid ((wayB s no).getD k ByteArray.empty = lev s k (atB no k ^^^ 1)) := way_get s no k hk2
      have hnx : ((atB no k ^^^ 1 : Nat) : Int) < (n' : Int) := by have := HN.out; omega
      have hnn : ¬ (n' : Int) = 1 := by
        have h := HN.out
        have : 2 ≤ 2 ^ (3 - k) := by
          have : k = 0 ∨ k = 1 ∨ k = 2 := by omega
          rcases this with rfl | rfl | rfl <;> decide
        omega
      have HA2 : Hid (atB no (k + 1) = atB no k / 2) := rfl
      generalize atB no k ^^^ 1 = X at *
      generalize atB no k = A at *
      generalize lev s k X = r at *
      obtain ⟨f, hO, hf⟩ := HO.out
      have HF : Hid (∀ i, i < k → f i = .string ((wayB s no).getD i ByteArray.empty)) := hf
      have HOF : Hid (OwnRow w1.heap.size W w1.heap.size 3 f) := hO
      have hcast : ((A / 2 : Nat) : Int) = (A : Int) / 2 := by omega
      have hmo : Tryd.prog.follows .mixedOrders = true := by kernel_rfl
      have hcK := hO.2.2.1 k hk2
      have hfK := hO.2.2.2 k hk2
      have hr1 : k + 1 ≤ 3 := by omega
      have hgW := hO.2.1
      have hneW : w1.heap.size ≠ W.heap.size := by omega
      have hne8 : w1.heap.size ≠ w2.heap.size := by omega
      have hne9 : w1.heap.size ≠ w2.heap.size + 1 := by omega
      have hl8 : w2.heap.size < W.heap.size := by omega
      have hl9 : w2.heap.size + 1 < W.heap.size := by omega
      have HRO : Hid _ := way_round (B := W2.heap.size) HV.out H8.out H9.out HOF.out HF.out HWS.out HA2.out hk2 (by omega) (by omega) (by omega) hl1 hbW
      generalize f k = x0 at hcK
      clear hO hf HO
      gi_wp2_with fail
      gi_region_with_o (refine ⟨trivial, ?_⟩; gi_at_call 97; refine (CallsIn.inRound l (callsIn_wide.2 (HX _))).mono ?_; rintro e w' ⟨rfl, rfl⟩)
      all_goals gi_wp2
      all_goals exact HRO.out
    · have hk4 : k = 3 := by omega
      subst hk4
      have hn1 : n' = 1 := HN.out
      subst hn1
      gi_wp2
      exact ⟨KeepsFrom.refl _ _, ⟨⟨rfl, HO.out⟩, H8.out⟩, hbW⟩
  case done =>
    rintro D W hD ⟨⟨⟨h, _⟩, _⟩, _⟩ hK
    omega
  case stop =>
    rintro D id W hD ⟨⟨⟨rfl, hO⟩, h8⟩, hbW⟩ hK
    have h8c := h8.cell
    gi_wp2
    refine ⟨by simp, .inl ⟨_, _, rfl, run_takeDeferred hK, ?_⟩⟩
    obtain ⟨f, hof, hff⟩ := hO
    refine ⟨.tuple #[.slice (some ⟨w1.heap.size, 0, none⟩) 3 3, .bool true], ?_, w1.heap.size, 3, rfl, ?_, hbW.trans (belowK_b (w := w) (Nat.le_refl _) W D _ _ (by omega) hK rfl rfl)⟩
    · simp [results, Tryd.results42, go_sem]
      try rfl
    · exact (OwnRow.mono (ownRow_own _ W2.heap.size _ _ f () W _ (some D) hof (grownBy_putObj' _ D (.deferred none)) (fun r e => by cases e; exact ⟨hD, _, hK, rfl⟩)) hl1).congr hff
set_option maxHeartbeats 1600000 in
theorem implWayNo (s : ByteArray) (n : Int) (w : World) (hm : s.size ≤ maxLen) (h : ¬ ((1 ≤ s.size ∧ s.size ≤ 8) ∧ 0 ≤ n ∧ n ≤ 7)) :
    Calls Tryd.prog 42 #[.string s, .int .i64 n] w fun e w' => e = .returned (.tuple #[.slice none 0 0, .bool false]) ∧ Below w.heap.size w w' := by
  refine (callsIn_wide (n := 9)).1 ?_
  refine callsIn_of_wp_marks Tryd.func42 rfl trivial ?_ rfl
  simp only [Tryd.ntmps42, List.size_toArray, List.length_cons, List.length_nil, Nat.reduceAdd, Nat.reduceSub, Array.replicate_succ, Array.replicate_zero, List.push_toArray, List.append_toArray, List.nil_append, List.cons_append]
  by_cases h1 : 0 ≤ n ∧ n ≤ 7
  · have HL := implLeavesNo s w hm (fun g => h ⟨g, h1⟩)
    clear h
    gi_wp2_with fail
    refine ⟨trivial, (callsIn_wide.2 (implNoYes n w h1.1 h1.2)).mono ?_⟩
    rintro e w0 ⟨rfl, hw0⟩
    subst w0
    gi_wp2_with fail
    refine ⟨trivial, (callsIn_wide.2 HL).mono ?_⟩
    rintro e w1 ⟨rfl, hb1⟩
    clear HL
    gi_wp2
    refine ⟨.tuple #[.slice none 0 0, .bool false], ?_, rfl, hb1⟩
    simp [results, Tryd.results42, go_sem]
    try rfl
  · gi_wp2_with fail
    refine ⟨trivial, (callsIn_wide.2 (implNoNo n w h1)).mono ?_⟩
    rintro e w0 ⟨rfl, hw0⟩
    subst w0
    gi_wp2
    refine ⟨.tuple #[.slice none 0 0, .bool false], ?_, rfl, Below.refl _ _⟩
    simp [results, Tryd.results42, go_sem]
    try rfl
end Go.Proofs.YtemkkofjakpjiaaDoor
