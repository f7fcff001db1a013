/- Whether two lists are the same: the library's, the laws' own, the model's (made by same8.py). Condition: they lie in memory. -/
import Derived.Test.YtaafdcghafbfhaaLawsM
namespace Go.Proofs.Ytaafdcghafbfhaa
open Go.ChangeShapes Go.WideShapes Go.ChangeAt Go.RowKit Go.Deep
set_option linter.unusedVariables false
attribute [local go_sem ↓] Go.wp_at_zero Go.wp_at_succ

theorem ext_getD {zs ys : List Int} (hl : zs.length = ys.length) (h : ∀ i, i < zs.length → zs.getD i 0 = ys.getD i 0) : zs = ys := by
  apply List.ext_getElem hl
  intro i h1 h2
  have := h i h1
  simpa [List.getD, h1, h2] using this
theorem ext_getDB {zs ys : List Bool} (hl : zs.length = ys.length) (h : ∀ i, i < zs.length → zs.getD i false = ys.getD i false) : zs = ys := by
  apply List.ext_getElem hl
  intro i h1 h2
  have := h i h1
  simpa [List.getD, h1, h2] using this
set_option maxHeartbeats 1600000 in
theorem equalI (v1 v2 : Value) (zs ys : List Int) (w : World) (h1 : IntsAt w v1 zs) (h2 : IntsAt w v2 ys) (hlen : zs.length ≤ 1048576) (hlen2 : ys.length ≤ 1048576) :
    Calls Try.prog 79 #[v1, v2] w fun e w' => e = .returned (.bool (decide (zs = ys))) ∧ Below w.heap.size w w' := by
  by_cases hl : zs.length = ys.length
  case neg =>
    have hF : decide (zs = ys) = false := by simp; intro e; rw [e] at hl; exact hl rfl
    obtain ⟨a1, c1, rfl⟩ := h1.slice
    obtain ⟨a2, c2, rfl⟩ := h2.slice
    have hne : ((zs.length : Int) != (ys.length : Int)) = true := by simp; omega
    rw [hF]
    clear h1 h2 hl hF
    go_enter Try.func79, Try.ntmps79
    go_wp2
    go_returns
    exact ⟨rfl, by go_grown⟩
  by_cases h0 : zs = []
  · subst h0
    have hy : ys = [] := List.eq_nil_of_length_eq_zero hl.symm
    subst hy
    have f1 : ∃ a c, v1 = .slice a 0 c := by rcases h1 with ⟨a, c, rfl, _⟩ | ⟨b, off, cap, rfl, _, _⟩ <;> exact ⟨_, _, rfl⟩
    have f2 : ∃ a c, v2 = .slice a 0 c := by rcases h2 with ⟨a, c, rfl, _⟩ | ⟨b, off, cap, rfl, _, _⟩ <;> exact ⟨_, _, rfl⟩
    obtain ⟨a1, c1, rfl⟩ := f1
    obtain ⟨a2, c2, rfl⟩ := f2
    clear h1 h2
    go_enter Try.func79, Try.ntmps79
    go_wp2
    go_loop [5, 13] (fun x i => i = .int .i64 0) (fun _ _ => 0)
    case atStart => rfl
    case round =>
      subst hrel
      go_wp2
      go_ret
      exact ⟨rfl, by go_grown⟩
  · rcases h1 with ⟨_, _, _, e⟩ | ⟨b, off, cap, rfl, hb, hcell⟩
    · exact absurd e h0
    rcases h2 with ⟨_, _, _, e⟩ | ⟨b2, off2, cap2, rfl, hb2, hcell2⟩
    · subst e; exact absurd (List.eq_nil_of_length_eq_zero hl) h0
    have HC : Hid (∀ i, i < zs.length → w.cell? ⟨b, off + i, none⟩ = some (.int .i64 (zs.getD i 0))) := hcell
    have HD : Hid (∀ i, i < zs.length → w.cell? ⟨b2, off2 + i, none⟩ = some (.int .i64 (ys.getD i 0))) := by rw [hl]; exact hcell2
    have HE : Hid ((∀ i, i < zs.length → zs.getD i 0 = ys.getD i 0) → decide (zs = ys) = true) := fun h => by simpa using ext_getD hl h
    have HN : Hid (∀ i, zs.getD i 0 ≠ ys.getD i 0 → decide (zs = ys) = false) := fun i h => by simp; intro e; rw [e] at h; exact h rfl
    clear hcell hcell2
    rw [← hl]
    clear hl h0
    generalize decide (zs = ys) = same at *
    go_enter Try.func79, Try.ntmps79
    go_wp2
    go_loopw [5, 13] (fun x i wr => ∃ k : Nat, k ≤ zs.length ∧ i = .int .i64 k ∧ Below w.heap.size w wr ∧ ∀ j, j < k → zs.getD j 0 = ys.getD j 0) (fun _ i _ => zs.length - (intOf i).toNat)
    case atStart => exact ⟨0, Nat.zero_le _, rfl, by go_grown, fun j hj => by omega⟩
    case round =>
      obtain ⟨k, hk, rfl, kb, hall⟩ := hrel
      have HA : Hid (∀ j, j < k → zs.getD j 0 = ys.getD j 0) := hall
      clear hall
      by_cases hlt : k < zs.length
      · have hc : wr.cell? ⟨b, off + k, none⟩ = some (.int .i64 (zs.getD k 0)) := (kb.cell (p := ⟨b, off + k, none⟩) hb).trans (HC.out k hlt)
        have hd : wr.cell? ⟨b2, off2 + k, none⟩ = some (.int .i64 (ys.getD k 0)) := (kb.cell (p := ⟨b2, off2 + k, none⟩) hb2).trans (HD.out k hlt)
        have HNk : Hid (zs.getD k 0 ≠ ys.getD k 0 → same = false) := HN.out k
        have HAk : Hid (zs.getD k 0 = ys.getD k 0 → ∀ j, j < k + 1 → zs.getD j 0 = ys.getD j 0) := by
          intro h j hj
          by_cases e : j = k
          · rw [e]; exact h
          · exact HA.out j (by omega)
        generalize zs.getD k 0 = t at *
        generalize ys.getD k 0 = t' at *
        by_cases ht : t = t'
        · have HAl : Hid (∀ j, j < k + 1 → zs.getD j 0 = ys.getD j 0) := HAk.out ht
          clear HAk HNk
          subst ht
          go_wp2
          go_region
          go_wp2
          exact ⟨⟨k + 1, by omega, by go_num, by go_grown, HAl.out⟩, by simp [intOf]; omega⟩
        · have HS : Hid (same = false) := HNk.out ht
          go_wp2
          go_region
          all_goals go_wp2
          all_goals go_returns
          all_goals exact ⟨by rw [HS.out]; rfl, by go_grown⟩
      · have HS : Hid (same = true) := HE.out (fun i hi => HA.out i (by omega))
        go_wp2
        go_ret
        exact ⟨by rw [HS.out]; rfl, by go_grown⟩
set_option maxHeartbeats 1600000 in
theorem equalB (v1 v2 : Value) (zs ys : List Bool) (w : World) (h1 : BoolsAt w v1 zs) (h2 : BoolsAt w v2 ys) (hlen : zs.length ≤ 1048576) (hlen2 : ys.length ≤ 1048576) :
    Calls Try.prog 80 #[v1, v2] w fun e w' => e = .returned (.bool (decide (zs = ys))) ∧ Below w.heap.size w w' := by
  by_cases hl : zs.length = ys.length
  case neg =>
    have hF : decide (zs = ys) = false := by simp; intro e; rw [e] at hl; exact hl rfl
    obtain ⟨a1, c1, rfl⟩ := h1.slice
    obtain ⟨a2, c2, rfl⟩ := h2.slice
    have hne : ((zs.length : Int) != (ys.length : Int)) = true := by simp; omega
    rw [hF]
    clear h1 h2 hl hF
    go_enter Try.func80, Try.ntmps80
    go_wp2
    go_returns
    exact ⟨rfl, by go_grown⟩
  by_cases h0 : zs = []
  · subst h0
    have hy : ys = [] := List.eq_nil_of_length_eq_zero hl.symm
    subst hy
    have f1 : ∃ a c, v1 = .slice a 0 c := by rcases h1 with ⟨a, c, rfl, _⟩ | ⟨b, off, cap, rfl, _, _⟩ <;> exact ⟨_, _, rfl⟩
    have f2 : ∃ a c, v2 = .slice a 0 c := by rcases h2 with ⟨a, c, rfl, _⟩ | ⟨b, off, cap, rfl, _, _⟩ <;> exact ⟨_, _, rfl⟩
    obtain ⟨a1, c1, rfl⟩ := f1
    obtain ⟨a2, c2, rfl⟩ := f2
    clear h1 h2
    go_enter Try.func80, Try.ntmps80
    go_wp2
    go_loop [5, 13] (fun x i => i = .int .i64 0) (fun _ _ => 0)
    case atStart => rfl
    case round =>
      subst hrel
      go_wp2
      go_ret
      exact ⟨rfl, by go_grown⟩
  · rcases h1 with ⟨_, _, _, e⟩ | ⟨b, off, cap, rfl, hb, hcell⟩
    · exact absurd e h0
    rcases h2 with ⟨_, _, _, e⟩ | ⟨b2, off2, cap2, rfl, hb2, hcell2⟩
    · subst e; exact absurd (List.eq_nil_of_length_eq_zero hl) h0
    have HC : Hid (∀ i, i < zs.length → w.cell? ⟨b, off + i, none⟩ = some (.bool (zs.getD i false))) := hcell
    have HD : Hid (∀ i, i < zs.length → w.cell? ⟨b2, off2 + i, none⟩ = some (.bool (ys.getD i false))) := by rw [hl]; exact hcell2
    have HE : Hid ((∀ i, i < zs.length → zs.getD i false = ys.getD i false) → decide (zs = ys) = true) := fun h => by simpa using ext_getDB hl h
    have HN : Hid (∀ i, zs.getD i false ≠ ys.getD i false → decide (zs = ys) = false) := fun i h => by simp; intro e; rw [e] at h; exact h rfl
    clear hcell hcell2
    rw [← hl]
    clear hl h0
    generalize decide (zs = ys) = same at *
    go_enter Try.func80, Try.ntmps80
    go_wp2
    go_loopw [5, 13] (fun x i wr => ∃ k : Nat, k ≤ zs.length ∧ i = .int .i64 k ∧ Below w.heap.size w wr ∧ ∀ j, j < k → zs.getD j false = ys.getD j false) (fun _ i _ => zs.length - (intOf i).toNat)
    case atStart => exact ⟨0, Nat.zero_le _, rfl, by go_grown, fun j hj => by omega⟩
    case round =>
      obtain ⟨k, hk, rfl, kb, hall⟩ := hrel
      have HA : Hid (∀ j, j < k → zs.getD j false = ys.getD j false) := hall
      clear hall
      by_cases hlt : k < zs.length
      · have hc : wr.cell? ⟨b, off + k, none⟩ = some (.bool (zs.getD k false)) := (kb.cell (p := ⟨b, off + k, none⟩) hb).trans (HC.out k hlt)
        have hd : wr.cell? ⟨b2, off2 + k, none⟩ = some (.bool (ys.getD k false)) := (kb.cell (p := ⟨b2, off2 + k, none⟩) hb2).trans (HD.out k hlt)
        have HNk : Hid (zs.getD k false ≠ ys.getD k false → same = false) := HN.out k
        have HAk : Hid (zs.getD k false = ys.getD k false → ∀ j, j < k + 1 → zs.getD j false = ys.getD j false) := by
          intro h j hj
          by_cases e : j = k
          · rw [e]; exact h
          · exact HA.out j (by omega)
        generalize zs.getD k false = t at *
        generalize ys.getD k false = t' at *
        by_cases ht : t = t'
        · have HAl : Hid (∀ j, j < k + 1 → zs.getD j false = ys.getD j false) := HAk.out ht
          clear HAk HNk
          subst ht
          have htb : (t != t) = false := by cases t <;> rfl
          go_wp2
          go_region
          go_wp2
          exact ⟨⟨k + 1, by omega, by go_num, by go_grown, HAl.out⟩, by simp [intOf]; omega⟩
        · have HS : Hid (same = false) := HNk.out ht
          have htt : t' = !t := by cases t <;> cases t' <;> simp_all
          subst htt
          clear HNk HAk ht
          cases t
          all_goals
            simp only [Bool.not_true, Bool.not_false] at hd
            go_wp2
            go_region
            all_goals go_wp2
            all_goals go_returns
            all_goals exact ⟨by rw [HS.out]; rfl, by go_grown⟩
      · have HS : Hid (same = true) := HE.out (fun i hi => HA.out i (by omega))
        go_wp2
        go_ret
        exact ⟨by rw [HS.out]; rfl, by go_grown⟩
set_option maxHeartbeats 1600000 in
theorem sameI (v1 v2 : Value) (zs ys : List Int) (w : World) (h1 : IntsAt w v1 zs) (h2 : IntsAt w v2 ys) (hlen : zs.length ≤ 1048576) (hlen2 : ys.length ≤ 1048576) :
    Calls Try.prog 20 #[v1, v2] w fun e w' => e = .returned (.bool (decide (zs = ys))) ∧ Below w.heap.size w w' := by
  by_cases hl : zs.length = ys.length
  case neg =>
    have hF : decide (zs = ys) = false := by simp; intro e; rw [e] at hl; exact hl rfl
    obtain ⟨a1, c1, rfl⟩ := h1.slice
    obtain ⟨a2, c2, rfl⟩ := h2.slice
    have hne : ((zs.length : Int) != (ys.length : Int)) = true := by simp; omega
    rw [hF]
    clear h1 h2 hl hF
    go_enter Try.func20, Try.ntmps20
    go_wp2
    go_returns
    exact ⟨rfl, by go_grown⟩
  by_cases h0 : zs = []
  · subst h0
    have hy : ys = [] := List.eq_nil_of_length_eq_zero hl.symm
    subst hy
    have f1 : ∃ a c, v1 = .slice a 0 c := by rcases h1 with ⟨a, c, rfl, _⟩ | ⟨b, off, cap, rfl, _, _⟩ <;> exact ⟨_, _, rfl⟩
    have f2 : ∃ a c, v2 = .slice a 0 c := by rcases h2 with ⟨a, c, rfl, _⟩ | ⟨b, off, cap, rfl, _, _⟩ <;> exact ⟨_, _, rfl⟩
    obtain ⟨a1, c1, rfl⟩ := f1
    obtain ⟨a2, c2, rfl⟩ := f2
    clear h1 h2
    go_enter Try.func20, Try.ntmps20
    go_wp2
    go_loop [5, 13] (fun x i => i = .int .i64 0) (fun _ _ => 0)
    case atStart => rfl
    case round =>
      subst hrel
      go_wp2
      go_ret
      exact ⟨rfl, by go_grown⟩
  · rcases h1 with ⟨_, _, _, e⟩ | ⟨b, off, cap, rfl, hb, hcell⟩
    · exact absurd e h0
    rcases h2 with ⟨_, _, _, e⟩ | ⟨b2, off2, cap2, rfl, hb2, hcell2⟩
    · subst e; exact absurd (List.eq_nil_of_length_eq_zero hl) h0
    have HC : Hid (∀ i, i < zs.length → w.cell? ⟨b, off + i, none⟩ = some (.int .i64 (zs.getD i 0))) := hcell
    have HD : Hid (∀ i, i < zs.length → w.cell? ⟨b2, off2 + i, none⟩ = some (.int .i64 (ys.getD i 0))) := by rw [hl]; exact hcell2
    have HE : Hid ((∀ i, i < zs.length → zs.getD i 0 = ys.getD i 0) → decide (zs = ys) = true) := fun h => by simpa using ext_getD hl h
    have HN : Hid (∀ i, zs.getD i 0 ≠ ys.getD i 0 → decide (zs = ys) = false) := fun i h => by simp; intro e; rw [e] at h; exact h rfl
    clear hcell hcell2
    rw [← hl]
    clear hl h0
    generalize decide (zs = ys) = same at *
    go_enter Try.func20, Try.ntmps20
    go_wp2
    go_loopw [5, 13] (fun x i wr => ∃ k : Nat, k ≤ zs.length ∧ i = .int .i64 k ∧ Below w.heap.size w wr ∧ ∀ j, j < k → zs.getD j 0 = ys.getD j 0) (fun _ i _ => zs.length - (intOf i).toNat)
    case atStart => exact ⟨0, Nat.zero_le _, rfl, by go_grown, fun j hj => by omega⟩
    case round =>
      obtain ⟨k, hk, rfl, kb, hall⟩ := hrel
      have HA : Hid (∀ j, j < k → zs.getD j 0 = ys.getD j 0) := hall
      clear hall
      by_cases hlt : k < zs.length
      · have hc : wr.cell? ⟨b, off + k, none⟩ = some (.int .i64 (zs.getD k 0)) := (kb.cell (p := ⟨b, off + k, none⟩) hb).trans (HC.out k hlt)
        have hd : wr.cell? ⟨b2, off2 + k, none⟩ = some (.int .i64 (ys.getD k 0)) := (kb.cell (p := ⟨b2, off2 + k, none⟩) hb2).trans (HD.out k hlt)
        have HNk : Hid (zs.getD k 0 ≠ ys.getD k 0 → same = false) := HN.out k
        have HAk : Hid (zs.getD k 0 = ys.getD k 0 → ∀ j, j < k + 1 → zs.getD j 0 = ys.getD j 0) := by
          intro h j hj
          by_cases e : j = k
          · rw [e]; exact h
          · exact HA.out j (by omega)
        generalize zs.getD k 0 = t at *
        generalize ys.getD k 0 = t' at *
        by_cases ht : t = t'
        · have HAl : Hid (∀ j, j < k + 1 → zs.getD j 0 = ys.getD j 0) := HAk.out ht
          clear HAk HNk
          subst ht
          go_wp2
          go_region
          go_wp2
          exact ⟨⟨k + 1, by omega, by go_num, by go_grown, HAl.out⟩, by simp [intOf]; omega⟩
        · have HS : Hid (same = false) := HNk.out ht
          go_wp2
          go_region
          all_goals go_wp2
          all_goals go_returns
          all_goals exact ⟨by rw [HS.out]; rfl, by go_grown⟩
      · have HS : Hid (same = true) := HE.out (fun i hi => HA.out i (by omega))
        go_wp2
        go_ret
        exact ⟨by rw [HS.out]; rfl, by go_grown⟩
set_option maxHeartbeats 1600000 in
theorem sameB (v1 v2 : Value) (zs ys : List Bool) (w : World) (h1 : BoolsAt w v1 zs) (h2 : BoolsAt w v2 ys) (hlen : zs.length ≤ 1048576) (hlen2 : ys.length ≤ 1048576) :
    Calls Try.prog 52 #[v1, v2] w fun e w' => e = .returned (.bool (decide (zs = ys))) ∧ Below w.heap.size w w' := by
  by_cases hl : zs.length = ys.length
  case neg =>
    have hF : decide (zs = ys) = false := by simp; intro e; rw [e] at hl; exact hl rfl
    obtain ⟨a1, c1, rfl⟩ := h1.slice
    obtain ⟨a2, c2, rfl⟩ := h2.slice
    have hne : ((zs.length : Int) != (ys.length : Int)) = true := by simp; omega
    rw [hF]
    clear h1 h2 hl hF
    go_enter Try.func52, Try.ntmps52
    go_wp2
    go_returns
    exact ⟨rfl, by go_grown⟩
  by_cases h0 : zs = []
  · subst h0
    have hy : ys = [] := List.eq_nil_of_length_eq_zero hl.symm
    subst hy
    have f1 : ∃ a c, v1 = .slice a 0 c := by rcases h1 with ⟨a, c, rfl, _⟩ | ⟨b, off, cap, rfl, _, _⟩ <;> exact ⟨_, _, rfl⟩
    have f2 : ∃ a c, v2 = .slice a 0 c := by rcases h2 with ⟨a, c, rfl, _⟩ | ⟨b, off, cap, rfl, _, _⟩ <;> exact ⟨_, _, rfl⟩
    obtain ⟨a1, c1, rfl⟩ := f1
    obtain ⟨a2, c2, rfl⟩ := f2
    clear h1 h2
    go_enter Try.func52, Try.ntmps52
    go_wp2
    go_loop [5, 13] (fun x i => i = .int .i64 0) (fun _ _ => 0)
    case atStart => rfl
    case round =>
      subst hrel
      go_wp2
      go_ret
      exact ⟨rfl, by go_grown⟩
  · rcases h1 with ⟨_, _, _, e⟩ | ⟨b, off, cap, rfl, hb, hcell⟩
    · exact absurd e h0
    rcases h2 with ⟨_, _, _, e⟩ | ⟨b2, off2, cap2, rfl, hb2, hcell2⟩
    · subst e; exact absurd (List.eq_nil_of_length_eq_zero hl) h0
    have HC : Hid (∀ i, i < zs.length → w.cell? ⟨b, off + i, none⟩ = some (.bool (zs.getD i false))) := hcell
    have HD : Hid (∀ i, i < zs.length → w.cell? ⟨b2, off2 + i, none⟩ = some (.bool (ys.getD i false))) := by rw [hl]; exact hcell2
    have HE : Hid ((∀ i, i < zs.length → zs.getD i false = ys.getD i false) → decide (zs = ys) = true) := fun h => by simpa using ext_getDB hl h
    have HN : Hid (∀ i, zs.getD i false ≠ ys.getD i false → decide (zs = ys) = false) := fun i h => by simp; intro e; rw [e] at h; exact h rfl
    clear hcell hcell2
    rw [← hl]
    clear hl h0
    generalize decide (zs = ys) = same at *
    go_enter Try.func52, Try.ntmps52
    go_wp2
    go_loopw [5, 13] (fun x i wr => ∃ k : Nat, k ≤ zs.length ∧ i = .int .i64 k ∧ Below w.heap.size w wr ∧ ∀ j, j < k → zs.getD j false = ys.getD j false) (fun _ i _ => zs.length - (intOf i).toNat)
    case atStart => exact ⟨0, Nat.zero_le _, rfl, by go_grown, fun j hj => by omega⟩
    case round =>
      obtain ⟨k, hk, rfl, kb, hall⟩ := hrel
      have HA : Hid (∀ j, j < k → zs.getD j false = ys.getD j false) := hall
      clear hall
      by_cases hlt : k < zs.length
      · have hc : wr.cell? ⟨b, off + k, none⟩ = some (.bool (zs.getD k false)) := (kb.cell (p := ⟨b, off + k, none⟩) hb).trans (HC.out k hlt)
        have hd : wr.cell? ⟨b2, off2 + k, none⟩ = some (.bool (ys.getD k false)) := (kb.cell (p := ⟨b2, off2 + k, none⟩) hb2).trans (HD.out k hlt)
        have HNk : Hid (zs.getD k false ≠ ys.getD k false → same = false) := HN.out k
        have HAk : Hid (zs.getD k false = ys.getD k false → ∀ j, j < k + 1 → zs.getD j false = ys.getD j false) := by
          intro h j hj
          by_cases e : j = k
          · rw [e]; exact h
          · exact HA.out j (by omega)
        generalize zs.getD k false = t at *
        generalize ys.getD k false = t' at *
        by_cases ht : t = t'
        · have HAl : Hid (∀ j, j < k + 1 → zs.getD j false = ys.getD j false) := HAk.out ht
          clear HAk HNk
          subst ht
          have htb : (t != t) = false := by cases t <;> rfl
          go_wp2
          go_region
          go_wp2
          exact ⟨⟨k + 1, by omega, by go_num, by go_grown, HAl.out⟩, by simp [intOf]; omega⟩
        · have HS : Hid (same = false) := HNk.out ht
          have htt : t' = !t := by cases t <;> cases t' <;> simp_all
          subst htt
          clear HNk HAk ht
          cases t
          all_goals
            simp only [Bool.not_true, Bool.not_false] at hd
            go_wp2
            go_region
            all_goals go_wp2
            all_goals go_returns
            all_goals exact ⟨by rw [HS.out]; rfl, by go_grown⟩
      · have HS : Hid (same = true) := HE.out (fun i hi => HA.out i (by omega))
        go_wp2
        go_ret
        exact ⟨by rw [HS.out]; rfl, by go_grown⟩
set_option maxHeartbeats 1600000 in
theorem l1SameI (v1 v2 : Value) (zs ys : List Int) (w : World) (h1 : IntsAt w v1 zs) (h2 : IntsAt w v2 ys) (hlen : zs.length ≤ 1048576) (hlen2 : ys.length ≤ 1048576) :
    Calls Try.prog 75 #[v1, v2] w fun e w' => e = .returned (.bool (decide (zs = ys))) ∧ Below w.heap.size w w' := by
  by_cases hl : zs.length = ys.length
  case neg =>
    have hF : decide (zs = ys) = false := by simp; intro e; rw [e] at hl; exact hl rfl
    obtain ⟨a1, c1, rfl⟩ := h1.slice
    obtain ⟨a2, c2, rfl⟩ := h2.slice
    have hne : ((zs.length : Int) != (ys.length : Int)) = true := by simp; omega
    rw [hF]
    clear h1 h2 hl hF
    go_enter Try.func75, Try.ntmps75
    go_wp2
    go_returns
    exact ⟨rfl, by go_grown⟩
  by_cases h0 : zs = []
  · subst h0
    have hy : ys = [] := List.eq_nil_of_length_eq_zero hl.symm
    subst hy
    have f1 : ∃ a c, v1 = .slice a 0 c := by rcases h1 with ⟨a, c, rfl, _⟩ | ⟨b, off, cap, rfl, _, _⟩ <;> exact ⟨_, _, rfl⟩
    have f2 : ∃ a c, v2 = .slice a 0 c := by rcases h2 with ⟨a, c, rfl, _⟩ | ⟨b, off, cap, rfl, _, _⟩ <;> exact ⟨_, _, rfl⟩
    obtain ⟨a1, c1, rfl⟩ := f1
    obtain ⟨a2, c2, rfl⟩ := f2
    clear h1 h2
    go_enter Try.func75, Try.ntmps75
    go_wp2
    go_loop [5, 13] (fun x i => i = .int .i64 0) (fun _ _ => 0)
    case atStart => rfl
    case round =>
      subst hrel
      go_wp2
      go_ret
      exact ⟨rfl, by go_grown⟩
  · rcases h1 with ⟨_, _, _, e⟩ | ⟨b, off, cap, rfl, hb, hcell⟩
    · exact absurd e h0
    rcases h2 with ⟨_, _, _, e⟩ | ⟨b2, off2, cap2, rfl, hb2, hcell2⟩
    · subst e; exact absurd (List.eq_nil_of_length_eq_zero hl) h0
    have HC : Hid (∀ i, i < zs.length → w.cell? ⟨b, off + i, none⟩ = some (.int .i64 (zs.getD i 0))) := hcell
    have HD : Hid (∀ i, i < zs.length → w.cell? ⟨b2, off2 + i, none⟩ = some (.int .i64 (ys.getD i 0))) := by rw [hl]; exact hcell2
    have HE : Hid ((∀ i, i < zs.length → zs.getD i 0 = ys.getD i 0) → decide (zs = ys) = true) := fun h => by simpa using ext_getD hl h
    have HN : Hid (∀ i, zs.getD i 0 ≠ ys.getD i 0 → decide (zs = ys) = false) := fun i h => by simp; intro e; rw [e] at h; exact h rfl
    clear hcell hcell2
    rw [← hl]
    clear hl h0
    generalize decide (zs = ys) = same at *
    go_enter Try.func75, Try.ntmps75
    go_wp2
    go_loopw [5, 13] (fun x i wr => ∃ k : Nat, k ≤ zs.length ∧ i = .int .i64 k ∧ Below w.heap.size w wr ∧ ∀ j, j < k → zs.getD j 0 = ys.getD j 0) (fun _ i _ => zs.length - (intOf i).toNat)
    case atStart => exact ⟨0, Nat.zero_le _, rfl, by go_grown, fun j hj => by omega⟩
    case round =>
      obtain ⟨k, hk, rfl, kb, hall⟩ := hrel
      have HA : Hid (∀ j, j < k → zs.getD j 0 = ys.getD j 0) := hall
      clear hall
      by_cases hlt : k < zs.length
      · have hc : wr.cell? ⟨b, off + k, none⟩ = some (.int .i64 (zs.getD k 0)) := (kb.cell (p := ⟨b, off + k, none⟩) hb).trans (HC.out k hlt)
        have hd : wr.cell? ⟨b2, off2 + k, none⟩ = some (.int .i64 (ys.getD k 0)) := (kb.cell (p := ⟨b2, off2 + k, none⟩) hb2).trans (HD.out k hlt)
        have HNk : Hid (zs.getD k 0 ≠ ys.getD k 0 → same = false) := HN.out k
        have HAk : Hid (zs.getD k 0 = ys.getD k 0 → ∀ j, j < k + 1 → zs.getD j 0 = ys.getD j 0) := by
          intro h j hj
          by_cases e : j = k
          · rw [e]; exact h
          · exact HA.out j (by omega)
        generalize zs.getD k 0 = t at *
        generalize ys.getD k 0 = t' at *
        by_cases ht : t = t'
        · have HAl : Hid (∀ j, j < k + 1 → zs.getD j 0 = ys.getD j 0) := HAk.out ht
          clear HAk HNk
          subst ht
          go_wp2
          go_region
          go_wp2
          exact ⟨⟨k + 1, by omega, by go_num, by go_grown, HAl.out⟩, by simp [intOf]; omega⟩
        · have HS : Hid (same = false) := HNk.out ht
          go_wp2
          go_region
          all_goals go_wp2
          all_goals go_returns
          all_goals exact ⟨by rw [HS.out]; rfl, by go_grown⟩
      · have HS : Hid (same = true) := HE.out (fun i hi => HA.out i (by omega))
        go_wp2
        go_ret
        exact ⟨by rw [HS.out]; rfl, by go_grown⟩
end Go.Proofs.Ytaafdcghafbfhaa
