/- Regions that draw, walked by hand: their beginning, and two operations that may come up. No condition. -/
import Derived.Test.YtgjcegmjhkehnaaDoorSwap2
namespace Go.Proofs.YtgjcegmjhkehnaaDoor
open Go
set_option linter.unusedVariables false
theorem comes3L {P : Program} {l : List Oper} {Q : Exit → Act → World → Prop} {md : Region.Mode} {S : World → Prop} {i j k : Nat} {o o' o2 : Oper} {fuel : Nat} {listed : Array Bool} {a : Act} {w : World} (hi : l[i]? = some o) (hj : l[j]? = some o') (hk : l[k]? = some o2) (hg : o.guard = none) (hg' : o'.guard = none) (hg2 : o2.guard = none) (hr : Region.ready md l.toArray listed = [i, j, k])
    (h : ∀ K' : Act → World → Prop, Shut (∀ a w, S w → (S w → wpAnyH P md l.toArray Q S fuel (listed.setIfInBounds i true) a w) → K' a w) → Oper.wp P o a w K' Q)
    (h' : ∀ K' : Act → World → Prop, Shut (∀ a w, S w → (S w → wpAnyH P md l.toArray Q S fuel (listed.setIfInBounds j true) a w) → K' a w) → Oper.wp P o' a w K' Q)
    (h2 : ∀ K' : Act → World → Prop, Shut (∀ a w, S w → (S w → wpAnyH P md l.toArray Q S fuel (listed.setIfInBounds k true) a w) → K' a w) → Oper.wp P o2 a w K' Q) : wpAnyH P md l.toArray Q S (fuel + 1) listed a w :=
  wpAnyH_ready (rs := [i, j, k]) hr (by simp) (AllReadyH.cons (o := o) (by simpa using hi) (fun K hK => by
    rw [if_pos (by simp [Region.wanted, hg])]
    exact h K hK) (AllReadyH.cons (o := o') (by simpa using hj) (fun K hK => by
    rw [if_pos (by simp [Region.wanted, hg'])]
    exact h' K hK) (AllReadyH.cons (o := o2) (by simpa using hk) (fun K hK => by
    rw [if_pos (by simp [Region.wanted, hg2])]
    exact h2 K hK) AllReadyH.nil)))
end Go.Proofs.YtgjcegmjhkehnaaDoor
