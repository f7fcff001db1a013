/- Lists of values that came in, opened at every value. No condition. -/
import Derived.Test.YtolkiofdbdjfkaaVals
import Derived.Deep.Slices
import Derived.Lib.SmallJoins
namespace Go.Proofs.Ytolkiofdbdjfkaa
open Go.ChangeShapes Go.WideShapes Go.ChangeAt Go.RowKit Go.Joins Go.Deep
set_option linter.unusedVariables false

theorem cellsLV : Try.prog.cellsOf 52 = 3 := by kernel_rfl
set_option maxRecDepth 100000 in
theorem one_of {H : Type} {enc : TypeId × Value → H} {W : World} {base : Nat} {held : Bool} {sp : Nat → Bool} {n : Nat} {b off : Nat} {cs : List Value} {x : DataW H × List MemPlace}
    (hc : W.cells? base ⟨b, off, none⟩ 3 = some cs) (h : DataW.trod enc Try.prog W base sp held n 52 cs = some x) : ∃ v : VV, ValAt W b off v ∧ v.t.size ≤ maxLen := by
  obtain ⟨_, hlen, hcell⟩ := World.cells?_some hc
  obtain ⟨xs, k, hk, hxy, _, hxl, hf⟩ := DataW.trod_struct Try.underlying52 h
  match xs, hxl, cs, hlen with
  | [y0, y1, y2], _, [c0, c1, c2], _ =>
    have g0 := hf 0 _ rfl
    have g1 := hf 1 _ rfl
    have g2 := hf 2 _ rfl
    have q0 : DataW.trod enc Try.prog W base sp held k 3 [c0] = some y0 := g0
    have q1 : DataW.trod enc Try.prog W base sp held k 3 [c1] = some y1 := g1
    have q2 : DataW.trod enc Try.prog W base sp held k 9 [c2] = some y2 := g2
    obtain ⟨a, e0, _, _⟩ := DataW.trod_int Try.underlying3 q0
    obtain ⟨m, e1, _, _⟩ := DataW.trod_int Try.underlying3 q1
    obtain ⟨s, e2, _, hs⟩ := DataW.trod_string Try.underlying9 q2
    simp at e0 e1 e2
    subst e0 e1 e2
    have d0 := hcell 0 (by omega)
    have d1 := hcell 1 (by omega)
    have d2 := hcell 2 (by omega)
    simp [Addr.add] at d0 d1 d2
    exact ⟨⟨a, m, s⟩, ⟨d0, d1, d2⟩, hs⟩
set_option maxRecDepth 100000 in
theorem vals_of {H : Type} {enc : TypeId × Value → H} {W : World} {base : Nat} {held : Bool} {ad : Option Addr} {len cap : Nat} {d : DataW H} {p : List MemPlace}
    (h : DataW.Trod enc Try.prog W base (fun _ => true) held 59 (.slice ad len cap) d p) : ∃ vs, ValsAt W (.slice ad len cap) vs ∧ vs.length ≤ maxLen ∧ ∀ v ∈ vs, v.t.size ≤ maxLen := by
  obtain ⟨fuel, hf⟩ := h
  rcases open_slice Try.underlying59 hf with ⟨hcs, _⟩ | ⟨x, l, c, m, n, D, Pl, hcs, hb, hl, hm, hmm, _, hx⟩
  · simp [Value.cells] at hcs
    obtain ⟨rfl, rfl, rfl⟩ := hcs
    exact ⟨[], .inl ⟨_, _, rfl, rfl⟩, by simp, by simp⟩
  · simp [Value.cells] at hcs
    obtain ⟨rfl, rfl, rfl⟩ := hcs
    have hlm : len ≤ m := by rw [hmm]; simp; omega
    by_cases h0 : len = 0
    · subst h0
      exact ⟨[], .inl ⟨_, _, rfl, rfl⟩, by simp, by simp⟩
    · obtain ⟨b, off, spot⟩ := x
      have hspot : spot = none := by
        obtain ⟨cs', h1, _⟩ := hx 0 (by omega)
        rw [cellsLV] at h1
        obtain ⟨_, hlen, hcell⟩ := World.cells?_some h1
        have hc := hcell 0 (by omega)
        cases cs' with
        | nil => simp at hlen
        | cons c cs =>
          have hc' : W.cell? ((⟨b, off, spot⟩ : Addr).add (0 * 3 + 0)) = some c := by rw [← add_add]; exact hc
          simpa [Addr.add] using World.cell?_spot hc'
      subst hspot
      have hadd : ∀ i, ((⟨b, off, none⟩ : Addr).add i) = ⟨b, off + i, none⟩ := fun i => by simp [Addr.add]
      have each : ∀ i, i < len → ∃ v : VV, ValAt W b (off + i * 3) v ∧ v.t.size ≤ maxLen := by
        intro i hi
        obtain ⟨cs', h1, h2⟩ := hx i (by omega)
        rw [cellsLV, hadd] at h1
        exact one_of h1 h2
      haveI : Inhabited VV := ⟨v0⟩
      obtain ⟨f, hf'⟩ := choose_lt each
      have hbl : b < W.heap.size := World.block_lt_of_cell? W ⟨b, off + 0 * 3, none⟩ (hf' 0 (by omega)).1.1
      refine ⟨(List.range len).map f, .inr ⟨b, off, cap, by simp, hbl, fun i hi => ?_⟩, by simp; omega, fun v hv => ?_⟩
      · have hi' : i < len := by simpa using hi
        have := (hf' i hi').1
        simpa [List.getD, hi'] using this
      · simp only [List.mem_map, List.mem_range] at hv
        obtain ⟨i, hi, rfl⟩ := hv
        exact (hf' i hi).2
end Go.Proofs.Ytolkiofdbdjfkaa
