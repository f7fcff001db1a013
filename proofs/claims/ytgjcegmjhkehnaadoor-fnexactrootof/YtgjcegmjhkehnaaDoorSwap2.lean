/- Regions that draw, walked by hand: their beginning, and two operations that may come up. No condition. -/
import Derived.Test.YtgjcegmjhkehnaaDoorSwap
namespace Go.Proofs.YtgjcegmjhkehnaaDoor
open Go
set_option linter.unusedVariables false
theorem wp_region_heldL {P : Program} {l : List Oper} {S : World → Prop} {Q : Exit → Act → World → Prop} {id n : Nat} {a : Act} {w : World} (hm : P.follows .mixedOrders = true) (hl : l.length = n)
    (hH : wpAnyH P .any l.toArray Q S n (Array.replicate n false) a { w with drawn := w.drawn + 1 }) : (Code.region id l.toArray true).wp P Q a w := by
  subst hl
  exact wp_region_held hm (by simpa using hH)
theorem comes2L {P : Program} {l : List Oper} {Q : Exit → Act → World → Prop} {md : Region.Mode} {S : World → Prop} {i j : Nat} {o o' : Oper} {fuel : Nat} {listed : Array Bool} {a : Act} {w : World} (hi : l[i]? = some o) (hj : l[j]? = some o') (hg : o.guard = none) (hg' : o'.guard = none) (hr : Region.ready md l.toArray listed = [i, j])
    (h : ∀ K' : Act → World → Prop, Shut (∀ a w, S w → (S w → wpAnyH P md l.toArray Q S fuel (listed.setIfInBounds i true) a w) → K' a w) → Oper.wp P o a w K' Q)
    (h' : ∀ K' : Act → World → Prop, Shut (∀ a w, S w → (S w → wpAnyH P md l.toArray Q S fuel (listed.setIfInBounds j true) a w) → K' a w) → Oper.wp P o' a w K' Q) : wpAnyH P md l.toArray Q S (fuel + 1) listed a w :=
  wpAnyH_ready (rs := [i, j]) hr (by simp) (AllReadyH.cons (o := o) (by simpa using hi) (fun K hK => by
    rw [if_pos (by simp [Region.wanted, hg])]
    exact h K hK) (AllReadyH.cons (o := o') (by simpa using hj) (fun K hK => by
    rw [if_pos (by simp [Region.wanted, hg'])]
    exact h' K hK) AllReadyH.nil))
end Go.Proofs.YtgjcegmjhkehnaaDoor
