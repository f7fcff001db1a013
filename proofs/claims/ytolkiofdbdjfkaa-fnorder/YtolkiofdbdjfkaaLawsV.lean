/- Contracts of the laws' helpers on values and lists of values. Condition: lists lie in memory. -/
import Derived.Test.YtolkiofdbdjfkaaVals
namespace Go.Proofs.Ytolkiofdbdjfkaa
open Go.ChangeShapes Go.WideShapes Go.ChangeAt Go.RowKit Go.Deep
set_option linter.unusedVariables false
attribute [local go_sem ↓] Go.wp_at_zero Go.wp_at_succ

theorem toVal (v : VV) (w : World) : Calls Try.prog 39 #[encV v] w fun e w' => e = .returned (encV v) ∧ Below w.heap.size w w' := by
  obtain ⟨k, n, t⟩ := v
  unfold encV
  go_enter Try.func39, Try.ntmps39
  go_wp2
  go_returns
  exact ⟨rfl, by go_grown⟩
theorem eqVal (v : VV) (w : World) : Calls Try.prog 40 #[encV v, encV v] w fun e w' => e = .returned (.bool true) ∧ Below w.heap.size w w' := by
  obtain ⟨k, n, t⟩ := v
  unfold encV
  go_enter Try.func40, Try.ntmps40
  go_wp2
  go_returns
  exact ⟨rfl, by go_grown⟩
theorem szValYes (v : VV) (z : Nat) (w : World) (hz : z ≤ 1048576) (h : v.t.size ≤ z) :
    Calls Try.prog 38 #[encV v, .int .i64 z] w fun e w' => e = .returned (.int .i64 ((z : Int) - (v.t.size : Int))) ∧ Below w.heap.size w w' := by
  obtain ⟨k, n, t⟩ := v
  unfold encV
  simp only [] at h ⊢
  have h0 : ¬ (z : Int) - (t.size : Int) < 0 := by omega
  go_enter Try.func38, Try.ntmps38
  go_wp2
  go_returns
  exact ⟨rfl, by go_grown⟩
theorem szValNo (v : VV) (z : Nat) (w : World) (hm : v.t.size ≤ maxLen) (hz : z ≤ 1048576) (h : z < v.t.size) :
    Calls Try.prog 38 #[encV v, .int .i64 z] w fun e w' => e = .returned (.int .i64 (-1)) ∧ Below w.heap.size w w' := by
  obtain ⟨k, n, t⟩ := v
  unfold encV
  simp only [] at h hm ⊢
  unfold maxLen at hm
  have h0 : (z : Int) - (t.size : Int) < 0 := by omega
  go_enter Try.func38, Try.ntmps38
  go_wp2
  go_returns
  exact ⟨rfl, by go_grown⟩
set_option maxHeartbeats 3200000 in
theorem eqVals (x y : Value) (vs : List VV) (w : World) (hx : ValsAt w x vs) (hy : ValsAt w y vs) (hl : vs.length ≤ 1048576) :
    Calls Try.prog 43 #[x, y] w fun e w' => e = .returned (.bool true) ∧ Below w.heap.size w w' := by
  by_cases h0 : vs = []
  · subst h0
    have f1 : ∃ a c, x = .slice a 0 c := by rcases hx with ⟨a, c, rfl, _⟩ | ⟨b, off, cap, rfl, _, _⟩ <;> exact ⟨_, _, rfl⟩
    have f2 : ∃ a c, y = .slice a 0 c := by rcases hy with ⟨a, c, rfl, _⟩ | ⟨b, off, cap, rfl, _, _⟩ <;> exact ⟨_, _, rfl⟩
    obtain ⟨a1, c1, rfl⟩ := f1
    obtain ⟨a2, c2, rfl⟩ := f2
    clear hx hy
    go_enter Try.func43, Try.ntmps43
    go_wp2
    go_loopw [5] (fun i wr => i = .int .i64 0 ∧ Below w.heap.size w wr) (fun _ _ => 0)
    case atStart => exact ⟨rfl, by go_grown⟩
    case round =>
      obtain ⟨rfl, kb⟩ := hrel
      go_wp2
      go_ret
      exact ⟨rfl, kb⟩
  · rcases hx with ⟨_, _, _, e⟩ | ⟨b1, off1, cap1, rfl, hb1, hc1⟩
    · exact absurd e h0
    rcases hy with ⟨_, _, _, e⟩ | ⟨b2, off2, cap2, rfl, hb2, hc2⟩
    · exact absurd e h0
    have HC1 : Hid (∀ i, i < vs.length → ValAt w b1 (off1 + i * 3) (vs.getD i v0)) := hc1
    have HC2 : Hid (∀ i, i < vs.length → ValAt w b2 (off2 + i * 3) (vs.getD i v0)) := hc2
    clear hc1 hc2 h0
    go_enter Try.func43, Try.ntmps43
    go_wp2
    go_loopw [5] (fun i wr => ∃ k : Nat, k ≤ vs.length ∧ i = .int .i64 k ∧ Below w.heap.size w wr) (fun i _ => vs.length - (intOf i).toNat)
    case atStart => exact ⟨0, Nat.zero_le _, rfl, by go_grown⟩
    case round =>
      obtain ⟨k, hk, rfl, kb⟩ := hrel
      have kl := kb.size
      by_cases hlt : k < vs.length
      · obtain ⟨p0, p1, p2⟩ := (HC1.out k hlt).below hb1 kb
        obtain ⟨q0, q1, q2⟩ := (HC2.out k hlt).below hb2 kb
        have hb1r : b1 < wr.heap.size := by omega
        have hb2r : b2 < wr.heap.size := by omega
        have HE := fun W => eqVal (vs.getD k v0) W
        have hki : (k : Int) < (vs.length : Int) := by omega
        have hk0 : (0 : Int) ≤ (k : Int) := by omega
        generalize vs.getD k v0 = u at *
        obtain ⟨K, N, T⟩ := u
        unfold encV at HE
        simp only [] at HE p0 p1 p2 q0 q1 q2
        go_upto_region 6 with fail
        go_region_held3 (fun w' => (w'.cell? ⟨b1, off1 + k * 3, none⟩ = some (.int .i64 K) ∧ w'.cell? ⟨b1, off1 + k * 3 + 1, none⟩ = some (.int .i64 N) ∧ w'.cell? ⟨b1, off1 + k * 3 + 2, none⟩ = some (.string T)) ∧ w'.cell? ⟨b2, off2 + k * 3, none⟩ = some (.int .i64 K) ∧ w'.cell? ⟨b2, off2 + k * 3 + 1, none⟩ = some (.int .i64 N) ∧ w'.cell? ⟨b2, off2 + k * 3 + 2, none⟩ = some (.string T)) (first | go_keep | trivial)
          (first
            | (go_at_call 40; refine (HE _).mono ?_; rintro e w3 ⟨rfl, hx3⟩; have hp3 := kept hx3 b1 (by simp; omega); have hq3 := kept hx3 b2 (by simp; omega); have k3 : Below w.heap.size w w3 := (by exact kb.trans ((Below.trans ((Below.refl wr.heap.size wr).drew) (hx3.mono (by simp))).mono kl)); clear hx3))
        all_goals
          go_wp2_with fail
          exact ⟨⟨k + 1, by omega, by go_num, k3⟩, by simp [intOf]; omega⟩
      · have hke : k = vs.length := by omega
        subst hke
        go_wp2
        go_ret
        exact ⟨rfl, kb⟩
end Go.Proofs.Ytolkiofdbdjfkaa
