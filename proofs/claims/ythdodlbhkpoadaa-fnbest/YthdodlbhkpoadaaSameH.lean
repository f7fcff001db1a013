/- Sameness of lists of scores; what a heap is after one more and one less. Condition: the lists lie in memory. -/
import Derived.Test.YthdodlbhkpoadaaPopS
import Derived.Test.YthdodlbhkpoadaaTotX
namespace Go.Proofs.Ythdodlbhkpoadaa
open Go.ChangeShapes Go.WideShapes Go.ChangeAt Go.RowKit Go.Joins Go.Deep
set_option linter.unusedVariables false
attribute [local go_sem ↓] Go.wp_at_zero Go.wp_at_succ

set_option maxHeartbeats 3200000 in
set_option maxRecDepth 100000 in
theorem sameSc (x y : Value) (l : List Sc) (w : World) (hx : ScsAt w x l) (hy : ScsAt w y l) (hl : l.length ≤ 1048576) :
    Calls Try.prog 18 #[x, y] w fun e w' => e = .returned (.bool true) ∧ Below w.heap.size w w' := by
  by_cases h0 : l = []
  · subst h0
    obtain ⟨a1, c1, rfl⟩ := hx.slice
    obtain ⟨a2, c2, rfl⟩ := hy.slice
    clear hx hy
    simp only [List.length_nil]
    go_enter Try.func18, Try.ntmps18
    go_wp2
    go_loopw [13] (fun i wr => i = .int .i64 0 ∧ Below w.heap.size w wr) (fun _ _ => 0)
    case atStart => exact ⟨rfl, by go_grown⟩
    case round =>
      obtain ⟨rfl, kb⟩ := hrel
      go_wp2
      go_ret
      exact ⟨rfl, kb⟩
  · rcases hx with ⟨_, _, _, e⟩ | ⟨b1, off1, cap1, rfl, hb1, hc1⟩
    · exact absurd e h0
    rcases hy with ⟨_, _, _, e⟩ | ⟨b2, off2, cap2, rfl, hb2, hc2⟩
    · exact absurd e h0
    have HC1 := hid hc1
    have HC2 := hid hc2
    have hll : ((l.length : Int) != (l.length : Int)) = false := by simp
    clear hc1 hc2 h0
    go_enter Try.func18, Try.ntmps18
    go_wp2
    go_loopw [13] (fun i wr => ∃ k : Nat, k ≤ l.length ∧ i = .int .i64 k ∧ Below w.heap.size w wr) (fun i _ => l.length - (intOf i).toNat)
    case atStart => exact ⟨0, Nat.zero_le _, rfl, by go_grown⟩
    case round =>
      obtain ⟨k, hk, rfl, kb⟩ := hrel
      have kl := kb.size
      by_cases hlt : k < l.length
      · obtain ⟨p0, p1⟩ := (HC1.out k hlt).below hb1 kb
        obtain ⟨q0, q1⟩ := (HC2.out k hlt).below hb2 kb
        have hb1r : b1 < wr.heap.size := by omega
        have hb2r : b2 < wr.heap.size := by omega
        have hki : (k : Int) < (l.length : Int) := by omega
        have hk0 : (0 : Int) ≤ (k : Int) := by omega
        obtain ⟨u1, hu1⟩ : ∃ u, u = (gd l k).1 := ⟨_, rfl⟩
        obtain ⟨u2, hu2⟩ : ∃ u, u = (gd l k).2 := ⟨_, rfl⟩
        rw [← hu1] at p0 q0
        rw [← hu2] at p1 q1
        have e1 : (u1 != u1) = false := by simp
        have e2 : (u2 != u2) = false := by simp
        clear hu1 hu2
        go_wp2
        go_region
        go_wp2
        exact ⟨⟨k + 1, by omega, by go_num, by go_grown⟩, by simp [intOf]; omega⟩
      · have hke : k = l.length := by omega
        subst hke
        go_wp2
        go_ret
        exact ⟨rfl, kb⟩
theorem push_good {l : List Sc} {x : Sc} (h : PushOk l x) : GoodH (pushL l x) := by
  obtain ⟨⟨h1, h2⟩, h3, h4, h5⟩ := h
  refine ⟨by rw [push_len]; omega, fun i hi => ?_⟩
  have hm : gd (pushL l x) i ∈ x :: l := (push_perm l x).mem_iff.1 (by simp [gd, List.getD, hi])
  rcases List.mem_cons.1 hm with h6 | h6
  · rw [h6]; exact h5
  · obtain ⟨j, hj, h7⟩ := List.mem_iff_getElem.1 h6
    rw [← h7]
    have := h2 j hj
    simpa [gd, List.getD, hj] using this
theorem pop_good {l : List Sc} (h : PopOk l) : GoodH (popL l) := by
  obtain ⟨⟨h1, h2⟩, h3, h4⟩ := h
  refine ⟨by rw [pop_len]; omega, fun i hi => ?_⟩
  have hm : gd (popL l) i ∈ l := (pop_perm l (by omega)).mem_iff.2 (by simp [gd, List.getD, hi])
  obtain ⟨j, hj, h7⟩ := List.mem_iff_getElem.1 hm
  rw [← h7]
  have := h2 j hj
  simpa [gd, List.getD, hj] using this
theorem push_popOk {l : List Sc} {x : Sc} (h : PushOk l x) : PopOk (pushL l x) := ⟨push_good h, push_heap h.2.1 x, by rw [push_len]; omega⟩
/-- None is better than the first. -/
theorem first_best {l : List Sc} (h : IsH l) (k : Nat) (hk : k < l.length) : ¬ ((gd l 0).2 < (gd l k).2 ∨ ((gd l k).2 = (gd l 0).2 ∧ (gd l k).1 < (gd l 0).1)) := bet_no.1 (head_mem h _ (by simp [gd, List.getD, hk]))
end Go.Proofs.Ythdodlbhkpoadaa
