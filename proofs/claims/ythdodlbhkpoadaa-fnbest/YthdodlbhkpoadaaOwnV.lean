/- A block of values that may be written; what the laws mark a text with. No condition. -/
import Derived.Test.YthdodlbhkpoadaaMix
import Derived.Deep.OwnRows
import Derived.RegionTactic
import Derived.Deep.RegionHeld3
import Derived.Deep.DeepCutAuto
import Derived.Deep.DrawnRows
namespace Go.Proofs.Ythdodlbhkpoadaa
open Go.ChangeShapes Go.WideShapes Go.ChangeAt Go.RowKit Go.Deep
set_option linter.unusedVariables false
attribute [local go_sem ↓] Go.wp_at_zero Go.wp_at_succ

/-- Block g, from base on, holds n values that may be written. -/
def OwnRow (base : Nat) (w : World) (g n : Nat) (f : Nat → Value) : Prop :=
  base ≤ g ∧ g < w.heap.size ∧ (∀ i, i < n → w.cell? ⟨g, i, none⟩ = some (f i)) ∧ ∀ i, i < n → w.frozen? ⟨g, i, none⟩ = false
theorem OwnRow.below {base : Nat} {w w' : World} {g n : Nat} {f : Nat → Value} (h : OwnRow base w g n f) (hb : Below w.heap.size w w') : OwnRow base w' g n f :=
  ⟨h.1, Nat.lt_of_lt_of_le h.2.1 hb.size, fun i hi => (hb.cell (p := ⟨g, i, none⟩) h.2.1).trans (h.2.2.1 i hi), fun i hi => (hb.frozen (p := ⟨g, i, none⟩) h.2.1).trans (h.2.2.2 i hi)⟩
theorem OwnRow.mono {base base' : Nat} {w : World} {g n : Nat} {f : Nat → Value} (h : OwnRow base w g n f) (hb : base' ≤ base) : OwnRow base' w g n f := ⟨Nat.le_trans hb h.1, h.2⟩
theorem OwnRow.congr {base : Nat} {w : World} {g n : Nat} {f f' : Nat → Value} (h : OwnRow base w g n f) (he : ∀ i, i < n → f i = f' i) : OwnRow base w g n f' :=
  ⟨h.1, h.2.1, fun i hi => (h.2.2.1 i hi).trans (by rw [he i hi]), h.2.2.2⟩
theorem OwnRow.set {base : Nat} {w : World} {g n k : Nat} {f : Nat → Value} (h : OwnRow base w g n f) (hk : k < n) (u : Value) : OwnRow base (w.setCell ⟨g, k, none⟩ u) g n (fun i => if i = k then u else f i) := by
  refine ⟨h.1, by simpa using h.2.1, fun i hi => ?_, fun i hi => ?_⟩
  · by_cases e : k = i
    · subst e
      have := h.2.2.1 k hk
      simp [*, go_sem]
    · rw [World.cell?_setCell_other w ⟨g, k, none⟩ ⟨g, i, none⟩ _ (fun h => e (by cases h; rfl)), h.2.2.1 i hi]
      show some (f i) = some (if i = k then u else f i)
      rw [if_neg (fun h => e (Eq.symm h))]
  · have := h.2.2.2 i hi
    simp [*, go_sem]
theorem gb_setG {a b : World} {g : Nat} (h : a.grownBy b (some g)) (o : Nat) (u : Value) : a.grownBy (b.setCell ⟨g, o, none⟩ u) (some g) :=
  ⟨h.os, h.tape, h.output, Nat.le_trans h.size (by simp [World.setCell]), fun k hk hn => (Below.heap_setCell b ⟨g, o, none⟩ u k (fun e => hn (by rw [e]))).trans (h.block k hk hn)⟩
/-- The text that marks the place k. -/
def mkT (k : Nat) : ByteArray :=
  if k < 10 then ⟨#[109]⟩ ++ (strOfNums [48 + (k : Int)] ++ ⟨#[]⟩) else ⟨#[109]⟩ ++ (strOfNums [48 + (k : Int) / 10] ++ (strOfNums [48 + (k : Int) % 10] ++ ⟨#[]⟩))
theorem mconv1 (w : World) (x : Int) (tt : TypeId) (g : Nat) (hg : g = w.heap.size) :
    (convert 22 9 (.slice (some ⟨g, 0, none⟩) 1 1)).run Try.prog (w.alloc (.cells #[.int .u8 x] tt)) =
      .ok (.string (strOfNums [x])) (w.alloc (.cells #[.int .u8 x] tt)) := by
  subst hg
  refine run_convert_bytes_arg _ 22 5 Try.underlying22 Try.underlying5 w.heap.size 0 1 1 [x] rfl ?_ 9 Try.underlying9
  intro i hi
  match i, hi with
  | 0, _ => simp
theorem size1 (x : Int) : (strOfNums [x]).size = 1 := strOfNums_size _
end Go.Proofs.Ythdodlbhkpoadaa
