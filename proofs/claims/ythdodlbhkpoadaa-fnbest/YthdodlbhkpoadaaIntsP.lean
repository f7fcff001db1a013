/- What the law's own helpers do with lists of numbers: a copy, and whether two are alike. Condition: the list lies in memory. -/
import Derived.Test.YthdodlbhkpoadaaMix
import Derived.Deep.OwnRows
import Derived.RegionTactic
namespace Go.Proofs.Ythdodlbhkpoadaa
open Go.ChangeShapes Go.WideShapes Go.ChangeAt Go.RowKit Go.Deep
set_option linter.unusedVariables false

/-- The slice value v reads as the numbers zs. -/
def IntsAt (w : World) (v : Value) (zs : List Int) : Prop :=
  (∃ a c, v = .slice a 0 c ∧ zs = []) ∨ ∃ b off cap, v = .slice (some ⟨b, off, none⟩) zs.length cap ∧ b < w.heap.size ∧ ∀ i, i < zs.length → w.cell? ⟨b, off + i, none⟩ = some (.int .i64 (zs.getD i 0))
theorem IntsAt.below {w w' : World} {v : Value} {zs : List Int} (h : IntsAt w v zs) (hb : Below w.heap.size w w') : IntsAt w' v zs := by
  rcases h with h | ⟨b, off, cap, h1, h2, h3⟩
  · exact .inl h
  · exact .inr ⟨b, off, cap, h1, Nat.lt_of_lt_of_le h2 hb.size, fun i hi => (hb.cell (p := ⟨b, off + i, none⟩) h2).trans (h3 i hi)⟩
/-- What the row's own reading of a list of numbers gives. -/
theorem ints_of {H : Type} {enc : TypeId × Value → H} {W : World} {base : Nat} {held : Bool} {ad : Option Addr} {len cap : Nat} {d : DataW H} {p : List MemPlace}
    (h : DataW.Trod enc Try.prog W base (fun _ => true) held 77 (.slice ad len cap) d p) : ∃ zs, IntsAt W (.slice ad len cap) zs ∧ zs.length ≤ maxLen := by
  obtain ⟨fuel, hf⟩ := h
  rcases open_ints Try.underlying77 Try.underlying3 (by kernel_rfl) hf with ⟨hcs, _⟩ | ⟨x, l, c, zs, hcs, _, hl, hm, hz, _, hcell, hwz⟩
  · simp [Value.cells] at hcs
    obtain ⟨rfl, rfl, rfl⟩ := hcs
    exact ⟨[], .inl ⟨_, _, rfl, rfl⟩, by simp⟩
  · simp [Value.cells] at hcs
    obtain ⟨rfl, rfl, rfl⟩ := hcs
    have hz' : zs.length = cap := by simpa using hz
    refine ⟨zs.take len, ?_, by simp; omega⟩
    have hlen : (zs.take len).length = len := by simp; omega
    by_cases h0 : len = 0
    · subst h0
      exact .inl ⟨_, _, rfl, by simp⟩
    · obtain ⟨b, off, spot⟩ := x
      have hc := hcell 0 (by omega)
      have hspot : spot = none := by simpa [Addr.add] using World.cell?_spot hc
      subst hspot
      have hadd : ∀ i, ((⟨b, off, none⟩ : Addr).add i) = ⟨b, off + i, none⟩ := fun i => by simp [Addr.add]
      refine .inr ⟨b, off, cap, by rw [hlen], by rw [hadd] at hc; exact World.block_lt_of_cell? W ⟨b, off + 0, none⟩ hc, fun i hi => ?_⟩
      have := hcell i (by omega)
      rw [hadd] at this
      rw [this]
      have hi' : i < len := by omega
      simp [List.getD, hi']
/-- The new row behind k rounds. -/
def fillZ (zs : List Int) : Nat → Array Value
  | 0 => madeCells #[.int .i64 0] zs.length
  | k + 1 => (fillZ zs k).setIfInBounds k (.int .i64 (zs.getD k 0))
theorem fillZ_size (zs : List Int) : ∀ k, (fillZ zs k).size = zs.length
  | 0 => size_madeCells _ _
  | k + 1 => by simp [fillZ, fillZ_size zs k]
theorem fillZ_at (zs : List Int) : ∀ (k i : Nat), i < k → i < zs.length → (fillZ zs k)[i]? = some (.int .i64 (zs.getD i 0))
  | 0, i, h, _ => by omega
  | k + 1, i, h, hi => by
    simp only [fillZ]
    rw [Array.getElem?_setIfInBounds]
    by_cases e : k = i
    · subst e; simp [fillZ_size, hi]
    · rw [if_neg e]; exact fillZ_at zs k i (by omega) hi
end Go.Proofs.Ythdodlbhkpoadaa
