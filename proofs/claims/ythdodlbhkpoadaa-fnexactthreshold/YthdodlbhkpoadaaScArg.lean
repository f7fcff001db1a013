/- How lists of scores come in. No condition. -/
import Derived.Test.YthdodlbhkpoadaaLawsSQ
namespace Go.Proofs.Ythdodlbhkpoadaa
open Go.ChangeShapes Go.WideShapes Go.ChangeAt Go.RowKit Go.Joins Go.Deep
set_option linter.unusedVariables false

theorem cellsLSc : Try.prog.cellsOf 57 = 2 := by kernel_rfl
theorem cellsLSl : Try.prog.cellsOf 46 = 1 := by kernel_rfl
theorem choose_lt3 {α : Type} [Inhabited α] {l : Nat} {p : Nat → α → Prop} (h : ∀ i, i < l → ∃ x, p i x) : ∃ f : Nat → α, ∀ i, i < l → p i (f i) := by
  classical
  refine ⟨fun i => if hi : i < l then Classical.choose (h i hi) else default, fun i hi => ?_⟩
  simp only [dif_pos hi]
  exact Classical.choose_spec (h i hi)
set_option maxRecDepth 100000 in
theorem oneSc {H : Type} {enc : TypeId × Value → H} {W : World} {base : Nat} {held : Bool} {n : Nat} {b off : Nat} {cs : List Value} {x : DataW H × List MemPlace}
    (hc : W.cells? base ⟨b, off, none⟩ 2 = some cs) (h : DataW.trod enc Try.prog W base (fun _ => true) held n 57 cs = some x) : ∃ p : Sc, ScAt W b off p := by
  obtain ⟨_, hlen, hcell⟩ := World.cells?_some hc
  obtain ⟨xs, k, hk, hxy, _, hxl, hf⟩ := DataW.trod_struct Try.underlying57 h
  match xs, hxl, cs, hlen with
  | [y0, y1], _, [c0, c1], _ =>
    have g0 := hf 0 _ rfl
    have g1 := hf 1 _ rfl
    have q0 : DataW.trod enc Try.prog W base (fun _ => true) held k 3 [c0] = some y0 := g0
    have q1 : DataW.trod enc Try.prog W base (fun _ => true) held k 3 [c1] = some y1 := g1
    obtain ⟨a, e0, x0, wa⟩ := DataW.trod_int Try.underlying3 q0
    obtain ⟨a2, e1, x1, wb⟩ := DataW.trod_int Try.underlying3 q1
    simp at e0 e1
    have d0 := hcell 0 (by omega)
    have d1 := hcell 1 (by omega)
    simp [Addr.add] at d0 d1
    exact ⟨(a, a2), by rw [d0, e0], by rw [d1, e1]⟩
set_option maxRecDepth 100000 in
theorem scs_of1 {H : Type} {enc : TypeId × Value → H} {W : World} {base n : Nat} {held : Bool} {v : Value} {y : DataW H × List MemPlace}
    (hf : DataW.trod enc Try.prog W base (fun _ => true) held n 46 [v] = some y) : ∃ l, ScsAt W v l ∧ l.length ≤ maxLen := by
  rcases open_slice Try.underlying46 hf with ⟨hcs, _⟩ | ⟨x, len, c, m, n, D, Pl, hcs, hb, hl, hm, hmm, _, hx⟩
  · simp at hcs
    subst hcs
    exact ⟨[], .inl ⟨_, _, rfl, rfl⟩, by simp⟩
  · simp at hcs
    subst hcs
    have hlm : len ≤ m := by rw [hmm]; simp; omega
    by_cases h0 : len = 0
    · subst h0
      exact ⟨[], .inl ⟨_, _, rfl, rfl⟩, by simp⟩
    · obtain ⟨b, off, spot⟩ := x
      have hspot : spot = none := by
        obtain ⟨cs', h1, _⟩ := hx 0 (by omega)
        rw [cellsLSc] at h1
        obtain ⟨_, hlen, hcell⟩ := World.cells?_some h1
        have hc := hcell 0 (by omega)
        cases cs' with
        | nil => simp at hlen
        | cons c cs =>
          have hc' : W.cell? ((⟨b, off, spot⟩ : Addr).add (0 * 2 + 0)) = some c := by rw [← add_add]; exact hc
          simpa [Addr.add] using World.cell?_spot hc'
      subst hspot
      have hadd : ∀ i, ((⟨b, off, none⟩ : Addr).add i) = ⟨b, off + i, none⟩ := fun i => by simp [Addr.add]
      have each : ∀ i, i < len → ∃ p : Sc, ScAt W b (off + i * 2) p := by
        intro i hi
        obtain ⟨cs', h1, h2⟩ := hx i (by omega)
        rw [cellsLSc, hadd] at h1
        exact oneSc h1 h2
      obtain ⟨f, hf'⟩ := choose_lt3 each
      have hbl : b < W.heap.size := World.block_lt_of_cell? W ⟨b, off + 0 * 2, none⟩ (hf' 0 (by omega)).1
      refine ⟨(List.range len).map f, .inr ⟨b, off, _, by simp; rfl, hbl, fun i hi => ?_⟩, by simp; omega⟩
      have hi' : i < len := by simpa using hi
      have := hf' i hi'
      simpa [gd, List.getD, hi'] using this
set_option maxRecDepth 100000 in
theorem scs_of {H : Type} {enc : TypeId × Value → H} {W : World} {base b0 : Nat} {held : Bool} {r : Reach} {v : Value} {d : DataW H} {p : List MemPlace}
    (hvk : Value.okWide Try.prog W r b0 46 v) (h : DataW.Trod enc Try.prog W base (fun _ => true) held 46 v d p) : ∃ l, ScsAt W v l ∧ l.length ≤ maxLen := by
  obtain ⟨ad, len, cap, rfl⟩ := okWide_slice Try.underlying46 hvk
  obtain ⟨fuel, hf⟩ := h
  have hf : DataW.trod enc Try.prog W base (fun _ => true) held fuel 46 [.slice ad len cap] = some (d, p) := hf
  exact scs_of1 hf
set_option maxRecDepth 100000 in
theorem rws_of {H : Type} {enc : TypeId × Value → H} {W : World} {base b0 : Nat} {held : Bool} {r : Reach} {v : Value} {d : DataW H} {p : List MemPlace}
    (hvk : Value.okWide Try.prog W r b0 50 v) (h : DataW.Trod enc Try.prog W base (fun _ => true) held 50 v d p) : ∃ R, RwsAt W v R ∧ ReRs R := by
  obtain ⟨ad, len, cap, rfl⟩ := okWide_slice Try.underlying50 hvk
  obtain ⟨fuel, hf⟩ := h
  have hf : DataW.trod enc Try.prog W base (fun _ => true) held fuel 50 [.slice ad len cap] = some (d, p) := hf
  rcases open_slice Try.underlying50 hf with ⟨hcs, _⟩ | ⟨x, l, c, m, n, D, Pl, hcs, hb, hl, hm, hmm, _, hx⟩
  · simp at hcs
    obtain ⟨rfl, rfl, rfl⟩ := hcs
    exact ⟨[], .inl ⟨_, _, rfl, rfl⟩, by simp, by simp⟩
  · simp at hcs
    obtain ⟨rfl, rfl, rfl⟩ := hcs
    have hlm : len ≤ m := by rw [hmm]; simp; omega
    by_cases h0 : len = 0
    · subst h0
      exact ⟨[], .inl ⟨_, _, rfl, rfl⟩, by simp, by simp⟩
    · obtain ⟨b, off, spot⟩ := x
      have hspot : spot = none := by
        obtain ⟨cs', h1, _⟩ := hx 0 (by omega)
        rw [cellsLSl] at h1
        obtain ⟨_, hlen, hcell⟩ := World.cells?_some h1
        have hc := hcell 0 (by omega)
        cases cs' with
        | nil => simp at hlen
        | cons c cs =>
          have hc' : W.cell? ((⟨b, off, spot⟩ : Addr).add (0 * 1 + 0)) = some c := by rw [← add_add]; exact hc
          simpa [Addr.add] using World.cell?_spot hc'
      subst hspot
      have hadd : ∀ i, ((⟨b, off, none⟩ : Addr).add i) = ⟨b, off + i, none⟩ := fun i => by simp [Addr.add]
      have each : ∀ i, i < len → ∃ q : List Sc, (∃ u, W.cell? ⟨b, off + i, none⟩ = some u ∧ ScsAt W u q) ∧ q.length ≤ maxLen := by
        intro i hi
        obtain ⟨cs', h1, h2⟩ := hx i (by omega)
        rw [cellsLSl, hadd] at h1
        obtain ⟨_, hlen, hcell⟩ := World.cells?_some h1
        match cs', hlen with
        | [u], _ =>
          have hc := hcell 0 (by omega)
          simp [Addr.add] at hc
          obtain ⟨q, hq, hql⟩ := scs_of1 h2
          exact ⟨q, ⟨u, hc, hq⟩, hql⟩
      obtain ⟨f, hf'⟩ := choose_lt3 each
      have hbl : b < W.heap.size := by
        obtain ⟨⟨u, hu, _⟩, _⟩ := hf' 0 (by omega)
        exact World.block_lt_of_cell? W ⟨b, off + 0, none⟩ hu
      refine ⟨(List.range len).map f, .inr ⟨b, off, _, by simp; rfl, hbl, fun i hi => ?_⟩, by simp; omega, fun q hq => ?_⟩
      · have hi' : i < len := by simpa using hi
        have := (hf' i hi').1
        simpa [gR, List.getD, hi'] using this
      · simp only [List.mem_map, List.mem_range] at hq
        obtain ⟨i, hi, rfl⟩ := hq
        exact (hf' i hi).2
end Go.Proofs.Ythdodlbhkpoadaa
