/- The heap's own methods: less, swap. Condition: the heap lies in memory, the places are within it. -/
import Derived.Test.YthdodlbhkpoadaaScB
namespace Go.Proofs.Ythdodlbhkpoadaa
open Go.ChangeShapes Go.WideShapes Go.ChangeAt Go.RowKit Go.Deep
set_option linter.unusedVariables false
attribute [local go_sem ↓] Go.wp_at_zero Go.wp_at_succ

set_option maxHeartbeats 1600000 in
set_option maxRecDepth 100000 in
theorem implLess (x : Value) (l : List Sc) (i j : Nat) (w : World) (h : ScsAt w x l) (hi : i < l.length) (hj : j < l.length) (hl : l.length ≤ 1048576) :
    Calls Try.prog 85 #[x, .int .i64 i, .int .i64 j] w fun e w' => e = .returned (.bool (bet (gd l i) (gd l j))) ∧ Below w.heap.size w w' := by
  rcases h with ⟨_, _, _, rfl⟩ | ⟨b, off, cap, rfl, hb, hc⟩
  · simp at hi
  obtain ⟨p0, p1⟩ := hc i hi
  obtain ⟨q0, q1⟩ := hc j hj
  have HE := fun W => implBet (gd l i) (gd l j) W
  have hii : (i : Int) < (l.length : Int) := by omega
  have hji : (j : Int) < (l.length : Int) := by omega
  have hi0 : (0 : Int) ≤ (i : Int) := by omega
  have hj0 : (0 : Int) ≤ (j : Int) := by omega
  clear hc
  generalize bet (gd l i) (gd l j) = B at *
  generalize gd l i = u at *
  generalize gd l j = v at *
  go_enter Try.func85, Try.ntmps85
  go_wp2
  go_region_held3 (fun w' => (w'.cell? ⟨b, off + i * 2, none⟩ = some (.int .i64 u.1) ∧ w'.cell? ⟨b, off + i * 2 + 1, none⟩ = some (.int .i64 u.2)) ∧ w'.cell? ⟨b, off + j * 2, none⟩ = some (.int .i64 v.1) ∧ w'.cell? ⟨b, off + j * 2 + 1, none⟩ = some (.int .i64 v.2)) (go_keep)
    (first
      | (go_at_call 68; refine (HE _).mono ?_; rintro e w3 ⟨rfl, hx3⟩; have hp3 := kept hx3 b (by simp; omega); have k3 : Below w.heap.size w w3 := (by exact (Below.trans ((Below.refl w.heap.size w).drew) (hx3.mono (by simp)))); clear hx3))
  all_goals
    go_wp2_with fail
    go_returns
    exact ⟨rfl, k3⟩
set_option maxHeartbeats 1600000 in
set_option maxRecDepth 100000 in
theorem implSwap (base g n cap : Nat) (l : List Sc) (i j : Nat) (w : World) (h : OwnH base w (.slice (some ⟨g, 0, none⟩) n cap) l) (hn : n = l.length) (hi : i < l.length) (hj : j < l.length) (hl : l.length ≤ 1048576) :
    Calls Try.prog 89 #[.slice (some ⟨g, 0, none⟩) n cap, .int .i64 i, .int .i64 j] w fun e w' => e = .returned (.tuple #[]) ∧ OwnH base w' (.slice (some ⟨g, 0, none⟩) n cap) (sw l i j) ∧ Off [g] w w' := by
  subst hn
  obtain ⟨hg0, hg1⟩ := h.lt1
  have p0 := h.c0 hi
  have p1 := h.c1 hi
  have q0 := h.c0 hj
  have q1 := h.c1 hj
  have f0 := h.fz (i * 2)
  have f1 := h.fz (i * 2 + 1)
  have e0 := h.fz (j * 2)
  have e1 := h.fz (j * 2 + 1)
  have hii : (i : Int) < (l.length : Int) := by omega
  have hji : (j : Int) < (l.length : Int) := by omega
  have hi0 : (0 : Int) ≤ (i : Int) := by omega
  have hj0 : (0 : Int) ≤ (j : Int) := by omega
  have HF : Hid (OwnH base (putC (putC w g i (gd l j)) g j (gd l i)) (.slice (some ⟨g, 0, none⟩) l.length cap) (sw l i j)) := (h.put i (gd l j)).put j (gd l i)
  have HO : Hid (Off [g] w (putC (putC w g i (gd l j)) g j (gd l i))) := (putC_off _ _ _ _).trans (putC_off _ _ _ _)
  have hjs : j < (l.set i (gd l j)).length := by simpa using hj
  have z0 := (h.put i (gd l j)).c0 hjs
  have z1 := (h.put i (gd l j)).c1 hjs
  have y0 := (h.put i (gd l j)).fz (j * 2)
  have y1 := (h.put i (gd l j)).fz (j * 2 + 1)
  generalize (gd (l.set i (gd l j)) j) = ww at z0 z1
  unfold putC at HF HO z0 z1 y0 y1
  clear h hjs
  generalize gd l i = u at *
  generalize gd l j = v at *
  go_enter Try.func89, Try.ntmps89
  go_region
  all_goals
    go_wp2
    go_returns
    exact ⟨rfl, HF.out.below ((Below.refl _ _).drew), HO.out.trans (Off.of ((Below.refl _ _).drew))⟩
end Go.Proofs.Ythdodlbhkpoadaa
