/- Local variables that lie in memory: a block of values that the walk carries from call to call. It speaks of every program. No condition. -/
import Derived.Test.YthdodlbhkpoadaaMix
import Derived.Deep.OwnRows
import Derived.Deep.DeepCutAuto
namespace Go.Proofs.Ythdodlbhkpoadaa
open Go.ChangeShapes Go.WideShapes Go.ChangeAt Go.RowKit
set_option linter.unusedVariables false

theorem hid {p : Prop} (h : p) : Hid p := h
/-- Block b holds the values vs, and may be written. -/
def BoxAt (W : World) (b : Nat) (vs : List Value) : Prop := b < W.heap.size ∧ (∀ i v, vs[i]? = some v → W.cell? ⟨b, i, none⟩ = some v) ∧ ∀ i, i < vs.length → W.frozen? ⟨b, i, none⟩ = false
theorem BoxAt.below {W W' : World} {b : Nat} {vs : List Value} (h : BoxAt W b vs) (hb : Below W.heap.size W W') : BoxAt W' b vs :=
  ⟨Nat.lt_of_lt_of_le h.1 hb.size, fun i v hv => (hb.cell (p := ⟨b, i, none⟩) h.1).trans (h.2.1 i v hv), fun i hi => (hb.frozen (p := ⟨b, i, none⟩) h.1).trans (h.2.2 i hi)⟩
theorem BoxAt.otherBy {W W' : World} {b r : Nat} {vs : List Value} (h : BoxAt W b vs) (hg : W.grownBy W' (some r)) (hne : r ≠ b) : BoxAt W' b vs := by
  have e := hg.block b h.1 (by simpa using Ne.symm hne)
  exact ⟨Nat.lt_of_lt_of_le h.1 hg.size, fun i v hv => (by simp only [World.cell?, e]; exact h.2.1 i v hv), fun i hi => (by simp only [World.frozen?, e]; exact h.2.2 i hi)⟩
theorem boxNew (X : World) (vs : Array Value) (T : TypeId) : BoxAt (X.alloc (.cells vs T)) X.heap.size vs.toList := by
  refine ⟨by simp, fun i v hv => ?_, fun i hi => by simp⟩
  have : vs[i]? = some v := by simpa using hv
  simp [this]
theorem boxOf1 {X w' : World} {a : Array Value} {A : TypeId} (h : Below (X.alloc (.cells a A)).heap.size (X.alloc (.cells a A)) w') : BoxAt w' X.heap.size a.toList := (boxNew X a A).below h
theorem boxOf2 {X w' : World} {a b : Array Value} {A B : TypeId} (h : Below ((X.alloc (.cells a A)).alloc (.cells b B)).heap.size ((X.alloc (.cells a A)).alloc (.cells b B)) w') : BoxAt w' X.heap.size a.toList ∧ BoxAt w' (X.heap.size + 1) b.toList := by
  refine ⟨((boxNew X a A).below ((Below.refl _ _).alloc (Nat.le_refl _) _)).below h, ?_⟩
  have := (boxNew (X.alloc (.cells a A)) b B).below h
  rwa [World.size_alloc] at this
theorem boxOf3 {X w' : World} {a b c : Array Value} {A B C : TypeId} (h : Below (((X.alloc (.cells a A)).alloc (.cells b B)).alloc (.cells c C)).heap.size (((X.alloc (.cells a A)).alloc (.cells b B)).alloc (.cells c C)) w') :
    BoxAt w' X.heap.size a.toList ∧ BoxAt w' (X.heap.size + 1) b.toList ∧ BoxAt w' (X.heap.size + 1 + 1) c.toList := by
  obtain ⟨h1, h2⟩ := boxOf2 (Below.trans ((Below.refl _ _).alloc (Nat.le_refl _) _) (h.mono (by simp)) : Below ((X.alloc (.cells a A)).alloc (.cells b B)).heap.size ((X.alloc (.cells a A)).alloc (.cells b B)) w')
  refine ⟨h1, h2, ?_⟩
  have := (boxNew ((X.alloc (.cells a A)).alloc (.cells b B)) c C).below h
  rwa [World.size_alloc, World.size_alloc] at this
end Go.Proofs.Ythdodlbhkpoadaa
