/- What the laws' own helpers do with lists of numbers and of texts: whether two are alike, marks in one, whether it holds them. Condition: the list lies in memory. -/
import Derived.Test.YtemkkofjakpjiaaDoorStrs
import Derived.Test.YtemkkofjakpjiaaDoorOnce
import Derived.Deep.AppendLies
import Derived.Deep.RegionHeld3
import Derived.LoopN
import Derived.Lib.AppendStr
namespace Go.Proofs.YtemkkofjakpjiaaDoor
open Go.ChangeShapes Go.WideShapes Go.ChangeAt Go.RowKit Go.Deep Go.Lib
set_option linter.unusedVariables false

/-- The slice value v reads as the numbers zs. -/
def IntsAt (w : World) (v : Value) (zs : List Int) : Prop :=
  (∃ a c, v = .slice a 0 c ∧ zs = []) ∨ ∃ b off cap, v = .slice (some ⟨b, off, none⟩) zs.length cap ∧ b < w.heap.size ∧ ∀ i, i < zs.length → w.cell? ⟨b, off + i, none⟩ = some (.int .i64 (zs.getD i 0))
theorem IntsAt.below {w w' : World} {v : Value} {zs : List Int} (h : IntsAt w v zs) (hb : Below w.heap.size w w') : IntsAt w' v zs := by
  rcases h with h | ⟨b, off, cap, h1, h2, h3⟩
  · exact .inl h
  · exact .inr ⟨b, off, cap, h1, Nat.lt_of_lt_of_le h2 hb.size, fun i hi => (hb.cell (p := ⟨b, off + i, none⟩) h2).trans (h3 i hi)⟩
theorem IntsAt.other {w w' : World} {v : Value} {zs : List Int} {g : Nat} (h : IntsAt w v zs) (hg : w.heap.size ≤ g) {w0 : World} (hw : w.heap.size ≤ w0.heap.size) (hb : Below w.heap.size w w0) (hgb : w0.grownBy w' (some g)) : IntsAt w' v zs := by
  rcases h with h | ⟨b, off, cap, h1, h2, h3⟩
  · exact .inl h
  · exact .inr ⟨b, off, cap, h1, Nat.lt_of_lt_of_le h2 (Nat.le_trans hw hgb.size), fun i hi => hgb.cell ((hb.cell (p := ⟨b, off + i, none⟩) h2).trans (h3 i hi)) (fun e => by simp only [Option.some.injEq] at e; omega)⟩
theorem StrsAt.other {w w' : World} {v : Value} {ss : List ByteArray} {g : Nat} (h : StrsAt w v ss) (hg : w.heap.size ≤ g) {w0 : World} (hw : w.heap.size ≤ w0.heap.size) (hb : Below w.heap.size w w0) (hgb : w0.grownBy w' (some g)) : StrsAt w' v ss := by
  rcases h with h | ⟨b, off, cap, h1, h2, h3⟩
  · exact .inl h
  · exact .inr ⟨b, off, cap, h1, Nat.lt_of_lt_of_le h2 (Nat.le_trans hw hgb.size), fun i hi => hgb.cell ((hb.cell (p := ⟨b, off + i, none⟩) h2).trans (h3 i hi)) (fun e => by simp only [Option.some.injEq] at e; omega)⟩

/-- Block g, from base on, holds n values that may be written. -/
def OwnRow (base : Nat) (w : World) (g n : Nat) (f : Nat → Value) : Prop :=
  base ≤ g ∧ g < w.heap.size ∧ (∀ i, i < n → w.cell? ⟨g, i, none⟩ = some (f i)) ∧ ∀ i, i < n → w.frozen? ⟨g, i, none⟩ = false
theorem OwnRow.below {base : Nat} {w w' : World} {g n : Nat} {f : Nat → Value} (h : OwnRow base w g n f) (hb : Below w.heap.size w w') : OwnRow base w' g n f :=
  ⟨h.1, Nat.lt_of_lt_of_le h.2.1 hb.size, fun i hi => (hb.cell (p := ⟨g, i, none⟩) h.2.1).trans (h.2.2.1 i hi), fun i hi => (hb.frozen (p := ⟨g, i, none⟩) h.2.1).trans (h.2.2.2 i hi)⟩
theorem OwnRow.mono {base base' : Nat} {w : World} {g n : Nat} {f : Nat → Value} (h : OwnRow base w g n f) (hb : base' ≤ base) : OwnRow base' w g n f := ⟨Nat.le_trans hb h.1, h.2⟩
theorem OwnRow.congr {base : Nat} {w : World} {g n : Nat} {f f' : Nat → Value} (h : OwnRow base w g n f) (he : ∀ i, i < n → f i = f' i) : OwnRow base w g n f' :=
  ⟨h.1, h.2.1, fun i hi => (h.2.2.1 i hi).trans (by rw [he i hi]), h.2.2.2⟩
theorem OwnRow.set {base : Nat} {w : World} {g n k : Nat} {f : Nat → Value} (h : OwnRow base w g n f) (hk : k < n) (u : Value) : OwnRow base (w.setCell ⟨g, k, none⟩ u) g n (fun i => if i = k then u else f i) := by
  refine ⟨h.1, by simpa using h.2.1, fun i hi => ?_, fun i hi => ?_⟩
  · by_cases e : k = i
    · subst e
      have := h.2.2.1 k hk
      simp [*, go_sem]
    · rw [World.cell?_setCell_other w ⟨g, k, none⟩ ⟨g, i, none⟩ _ (fun h => e (by cases h; rfl)), h.2.2.1 i hi]
      show some (f i) = some (if i = k then u else f i)
      rw [if_neg (fun h => e (Eq.symm h))]
  · have := h.2.2.2 i hi
    simp [*, go_sem]
theorem OwnRow.strs {base : Nat} {w : World} {g : Nat} {ss : List ByteArray} (h : OwnRow base w g ss.length (fun i => .string (ss.getD i ByteArray.empty))) (cap : Nat) : StrsAt w (.slice (some ⟨g, 0, none⟩) ss.length cap) ss :=
  .inr ⟨g, 0, cap, rfl, h.2.1, fun i hi => by simpa using h.2.2.1 i hi⟩
theorem OwnRow.ints {base : Nat} {w : World} {g : Nat} {zs : List Int} (h : OwnRow base w g zs.length (fun i => .int .i64 (zs.getD i 0))) (cap : Nat) : IntsAt w (.slice (some ⟨g, 0, none⟩) zs.length cap) zs :=
  .inr ⟨g, 0, cap, rfl, h.2.1, fun i hi => by simpa using h.2.2.1 i hi⟩
/-- What the library's own row gives. -/
theorem ownRow_of {w : World} {base : Nat} {e : TypeId} {v : Value} {n : Nat} {xs : List Value} (h : w.ownsRow base e 1 v n xs) (hn : 0 < n) :
    ∃ g cap, v = .slice (some ⟨g, 0, none⟩) n cap ∧ OwnRow base w g n (fun i => xs.getD i default) := by
  obtain ⟨hl, ⟨_, h0⟩ | ⟨g, cap, cur, rfl, hb, hcur, hc, hm, hs, ht⟩⟩ := h
  · omega
  · rw [Nat.mul_one] at hl hs ht
    have hlt : g < w.heap.size := by
      rcases Nat.lt_or_ge g w.heap.size with hlt | hge
      · exact hlt
      · rw [Array.getElem?_eq_none hge] at hcur; cases hcur
    refine ⟨g, cap, rfl, hb, hlt, fun i hi => ?_, fun i hi => ?_⟩
    · have : cur[i]? = some (xs.getD i default) := by
        have hx : xs[i]? = cur.toList[i]? := by rw [← ht, List.getElem?_take_of_lt hi]
        have hi2 : i < xs.length := by omega
        rw [List.getElem?_eq_getElem hi2] at hx
        rw [← Array.getElem?_toList, ← hx]
        simp [List.getD, hi2]
      simp [World.cell?, hcur, this]
    · simp [World.frozen?, hcur]

theorem gb_setG {a b : World} {g : Nat} (h : a.grownBy b (some g)) (o : Nat) (u : Value) : a.grownBy (b.setCell ⟨g, o, none⟩ u) (some g) :=
  ⟨h.os, h.tape, h.output, Nat.le_trans h.size (by simp [World.setCell]), fun k hk hn => (Below.heap_setCell b ⟨g, o, none⟩ u k (fun e => hn (by rw [e]))).trans (h.block k hk hn)⟩

/-- The text that marks the place k. -/
def mkT (k : Nat) : ByteArray :=
  if k < 10 then ⟨#[109]⟩ ++ (strOfNums [48 + (k : Int)] ++ ⟨#[]⟩) else ⟨#[109]⟩ ++ (strOfNums [48 + (k : Int) / 10] ++ (strOfNums [48 + (k : Int) % 10] ++ ⟨#[]⟩))
theorem mconv1 (w : World) (x : Int) (tt : TypeId) (g : Nat) (hg : g = w.heap.size) :
    (convert 22 9 (.slice (some ⟨g, 0, none⟩) 1 1)).run Tryd.prog (w.alloc (.cells #[.int .u8 x] tt)) =
      .ok (.string (strOfNums [x])) (w.alloc (.cells #[.int .u8 x] tt)) := by
  subst hg
  refine run_convert_bytes_arg _ 22 5 Tryd.underlying22 Tryd.underlying5 w.heap.size 0 1 1 [x] rfl ?_ 9 Tryd.underlying9
  intro i hi
  match i, hi with
  | 0, _ => simp
theorem size1 (x : Int) : (strOfNums [x]).size = 1 := strOfNums_size _
theorem markT (k : Nat) (w : World) (h0 : 1 ≤ k) (h1 : k ≤ 99) :
    Calls Tryd.prog 103 #[.int .i64 k] w fun e w' => e = .returned (.string (mkT k)) ∧ Below w.heap.size w w' := by
  have hcv := mconv1
  have hs1 := size1
  have hse : (⟨#[]⟩ : ByteArray).size = 0 := rfl
  have hsm : (⟨#[109]⟩ : ByteArray).size = 1 := rfl
  by_cases hk : k < 10
  · have hq : (k : Int) / 10 = 0 := by omega
    have hr : (k : Int) % 10 = k := by omega
    go_enter Tryd.func103, Tryd.ntmps103
    go_wp2
    refine wp_loop_rounds 2 ?_
    rw [rounds_succ]
    go_wp2
    rw [rounds_succ]
    go_wp2
    go_ret
    exact ⟨by simp [mkT, hk], by go_grown⟩
  · have hq : ((k : Int) / 10) / 10 = 0 := by omega
    have hr : ((k : Int) / 10) % 10 = (k : Int) / 10 := by omega
    have hp : ¬ (k : Int) / 10 ≤ 0 := by omega
    go_enter Tryd.func103, Tryd.ntmps103
    go_wp2
    refine wp_loop_rounds 3 ?_
    rw [rounds_succ]
    go_wp2
    rw [rounds_succ]
    go_wp2
    rw [rounds_succ]
    go_wp2
    go_ret
    exact ⟨by simp [mkT, hk], by go_grown⟩

theorem markStr (base g n cap : Nat) (f : Nat → Value) (w : World) (h : OwnRow base w g n f) (hn : n ≤ 90) (hf : ∀ i, i < n → ∃ x, f i = .string x) :
    Calls Tryd.prog 54 #[.slice (some ⟨g, 0, none⟩) n cap, .int .i64 1] w fun e w' => e = .returned (.int .i64 ((n : Int) + 1)) ∧ OwnRow base w' g n (fun i => .string (mkT (i + 1))) ∧ w.grownBy w' (some g) := by
  have HO : Hid (OwnRow base w g n f) := h
  have HF : Hid (∀ i, i < n → ∃ x, f i = .string x) := hf
  clear h hf
  go_enter Tryd.func54, Tryd.ntmps54
  go_wp2
  go_loopw [1, 5] (fun q i wr => ∃ k : Nat, k ≤ n ∧ i = .int .i64 k ∧ q = .int .i64 ((k + 1 : Nat) : Int) ∧ (∃ f', OwnRow base wr g n f' ∧ (∀ i, i < n → ∃ x, f' i = .string x) ∧ ∀ i, i < k → f' i = .string (mkT (i + 1))) ∧ w.grownBy wr (some g)) (fun _ i _ => n - (intOf i).toNat)
  case atStart => exact ⟨0, Nat.zero_le _, rfl, rfl, ⟨f, HO.out, HF.out, fun i hi => by omega⟩, World.grownBy.refl _ _⟩
  case round =>
    obtain ⟨k, hk, rfl, rfl, ⟨f', ho, hx, hm⟩, hg⟩ := hrel
    by_cases hlt : k < n
    · have HO2 : Hid (OwnRow base wr g n f') := ho
      have HM : Hid (∀ i, i < k → f' i = .string (mkT (i + 1))) := hm
      have HX : Hid (∀ i, i < n → ∃ x, f' i = .string x) := hx
      have HG : Hid (w.grownBy wr (some g)) := hg
      clear ho hm hg hx
      go_wp2_with fail
      refine (markT (k + 1) _ (by omega) (by omega)).mono ?_
      rintro e w1 ⟨rfl, hb1⟩
      have HO3 : Hid (OwnRow base w1 g n f') := HO2.out.below hb1
      have HG3 : Hid (w.grownBy w1 (some g)) := HG.out.trans ⟨hb1.os, hb1.tape, hb1.output, hb1.size, fun k hk _ => hb1.block k hk⟩
      clear hb1
      have hc := HO3.out.2.2.1 k hlt
      have hfz := HO3.out.2.2.2 k hlt
      obtain ⟨x0, hx0⟩ := HX.out k hlt
      rw [hx0] at hc
      clear hx0
      go_wp2
      refine ⟨⟨k + 1, by omega, by go_num, by go_num, ⟨_, HO3.out.set hlt _, fun i hi => ?_, fun i hi => ?_⟩, gb_setG HG3.out _ _⟩, by simp [intOf]; omega⟩
      · by_cases e : i = k
        · exact ⟨_, by simp only [e, if_true]; rfl⟩
        · obtain ⟨x, hx⟩ := HX.out i hi
          exact ⟨x, by simp only [if_neg e]; exact hx⟩
      · by_cases e : i = k
        · simp only [e, if_true]
        · simp only [if_neg e]; exact HM.out i (by omega)
    · have hke : k = n := by omega
      subst hke
      go_wp2
      go_ret
      exact ⟨rfl, ho.congr hm, hg⟩

end Go.Proofs.YtemkkofjakpjiaaDoor
