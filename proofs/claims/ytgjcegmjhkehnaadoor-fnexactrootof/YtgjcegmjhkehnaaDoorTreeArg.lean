/- A tree that came in, opened. No condition. -/
import Derived.Test.YtgjcegmjhkehnaaDoorLawsY
namespace Go.Proofs.YtgjcegmjhkehnaaDoor
open Go.ChangeShapes Go.WideShapes Go.ChangeAt Go.RowKit Go.Joins Go.Deep
set_option linter.unusedVariables false

theorem cellsLT : Tryd.prog.cellsOf 39 = 1 := by kernel_rfl
set_option maxRecDepth 100000 in
theorem openTree {H : Type} {enc : TypeId × Value → H} {W : World} {base b0 : Nat} {held : Bool} {r : Reach} {v : Value} {d : DataW H} {p : List MemPlace}
    (hv : Value.okWide Tryd.prog W r b0 39 v) (h : DataW.Trod enc Tryd.prog W base (fun _ => true) held 39 v d p) : ∃ x ps, v = .agg #[x] ∧ LPgsAt W x ps ∧ ReTree ps := by
  obtain ⟨cs, rfl, hsz⟩ := okWide_struct Tryd.underlying39 hv
  rw [cellsLT] at hsz
  obtain ⟨l⟩ := cs
  match l, hsz with
  | [c0], _ =>
    obtain ⟨fuel, hf⟩ := h
    obtain ⟨xs, k, _, _, _, hxl, hg⟩ := DataW.trod_struct Tryd.underlying39 hf
    match xs, hxl with
    | [y0], _ =>
      have g0 := hg 0 _ rfl
      have q0 : DataW.trod enc Tryd.prog W base (fun _ => true) held k 37 [c0] = some y0 := g0
      obtain ⟨ps, h1, h2⟩ := pgs_of q0
      exact ⟨c0, ps, rfl, h1, h2⟩
end Go.Proofs.YtgjcegmjhkehnaaDoor
