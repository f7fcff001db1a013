/- What the best few are. No condition. -/
import Derived.Test.YthdodlbhkpoadaaBestX
import Derived.Test.YthdodlbhkpoadaaTotX
namespace Go.Proofs.Ythdodlbhkpoadaa
set_option linter.unusedVariables false

theorem all_srt {R : List (List Sc)} (h : ∀ r ∈ R, GoodR r) : SrtB (allS R R) := (allS_inv R R fun r hr => (h r hr).1).1
theorem all_has {R : List (List Sc)} (h : ∀ r ∈ R, GoodR r) (x : Sc) : x ∈ allS R R ↔ InRs R 20 x.1 ∧ x.2 = tot R x.1 := (allS_inv R R fun r hr => (h r hr).1).2 x
theorem inRs_doc {R : List (List Sc)} (h : ∀ r ∈ R, GoodR r) {d : Int} (g : InRs R 20 d) : 0 ≤ d ∧ d ≤ 99 := by
  obtain ⟨r, hr, i, h1, h2, h3⟩ := g
  have := ((h r hr).2 i h2).1.1
  omega
/-- Each of the best few: its doc, its sum, its place behind a better one. -/
theorem best_each {R : List (List Sc)} (h : GoodRs R) (m k : Nat) (hk : k < ((allS R R).take m).length) :
    (0 ≤ (gd ((allS R R).take m) k).1 ∧ (gd ((allS R R).take m) k).1 ≤ 99) ∧ (gd ((allS R R).take m) k).2 = tot R (gd ((allS R R).take m) k).1 ∧ 1 ≤ (gd ((allS R R).take m) k).2 ∧
      (0 < k → bet (gd ((allS R R).take m) (k - 1)) (gd ((allS R R).take m) k) = true) := by
  have hk2 : k < m ∧ k < (allS R R).length := by simp at hk; omega
  have hm := (all_has h.2 _).1 (gd_mem hk2.2)
  rw [gd_take _ _ _ hk2.1]
  refine ⟨inRs_doc h.2 hm.1, hm.2, by rw [hm.2]; exact (tot_pos _ R h.2).2.1 hm.1, fun h0 => ?_⟩
  rw [gd_take _ _ _ (by omega)]
  have h5 := List.pairwise_iff_getElem.1 (all_srt h.2) (k - 1) k (by omega) hk2.2 (by omega)
  simpa [gd, List.getD, hk2.2, show k - 1 < (allS R R).length by omega] using h5
/-- No doc that was left out is better than the last one. -/
theorem best_rest {R : List (List Sc)} (h : GoodRs R) {m : Nat} (hm : 1 ≤ m) (hl : ((allS R R).take m).length = m) (d : Int) (hn : ∀ x ∈ (allS R R).take m, x.1 ≠ d) :
    ¬ ((gd ((allS R R).take m) (m - 1)).2 < tot R d ∨ (tot R d = (gd ((allS R R).take m) (m - 1)).2 ∧ d < (gd ((allS R R).take m) (m - 1)).1)) := by
  have hml : m ≤ (allS R R).length := by simp at hl; omega
  have hb := best_each h m (m - 1) (by omega)
  by_cases g : InRs R 20 d
  · have hmem : (d, tot R d) ∈ allS R R := (all_has h.2 _).2 ⟨g, rfl⟩
    obtain ⟨i, hi, he⟩ := mem_gd hmem
    have him : m ≤ i := by
      rcases Nat.lt_or_ge i m with h9 | h9
      · refine absurd rfl (hn (gd (allS R R) i) ?_ |> fun q => by rw [he] at q; exact q)
        rw [← gd_take _ _ _ h9]
        exact gd_mem (by simp; omega)
      · exact h9
    have h5 := List.pairwise_iff_getElem.1 (all_srt h.2) (m - 1) i (by omega) hi (by omega)
    have h6 : bet (gd (allS R R) (m - 1)) (gd (allS R R) i) = true := by simpa [gd, List.getD, hi, show m - 1 < (allS R R).length by omega] using h5
    rw [he, bet_iff] at h6
    rw [gd_take _ _ _ (by omega)]
    simp only at h6
    omega
  · have h7 := (tot_pos d R h.2).2.2.1 g
    have h8 := hb.2.2.1
    omega
end Go.Proofs.Ythdodlbhkpoadaa
