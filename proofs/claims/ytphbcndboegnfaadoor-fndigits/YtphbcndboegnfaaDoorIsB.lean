/- Contracts of IsBelow, program and model. Condition: the lists lie in memory. -/
import Derived.Test.YtphbcndboegnfaaDoorOwn2
import Derived.RegionTactic
namespace Go.Proofs.YtphbcndboegnfaaDoor
open Go.ChangeShapes Go.WideShapes Go.ChangeAt Go.RowKit Go.Deep
set_option linter.unusedVariables false

/-- Each number from nought to fifteen. -/
def allZB (zs : List Int) : Bool := zs.all fun d => decide (0 ≤ d ∧ d ≤ 15)
def goodZB (zs : List Int) : Bool := decide (zs.length = 11) && allZB zs
def belowB (zs ys : List Int) : Bool := (List.range 11).all fun k => decide (zs.getD k 0 ≤ ys.getD k 0)
theorem getD_memZ (zs : List Int) (k : Nat) (h : k < zs.length) : zs.getD k 0 ∈ zs := by simp [List.getD, h]
theorem allZB_true {zs : List Int} (h : ∀ i, i < zs.length → 0 ≤ zs.getD i 0 ∧ zs.getD i 0 ≤ 15) : allZB zs = true := by
  simp only [allZB, List.all_eq_true, decide_eq_true_eq]
  intro d hd
  obtain ⟨i, hi, he⟩ := List.getElem_of_mem hd
  have := h i hi
  simpa [List.getD, hi, he] using this
theorem allZB_false {zs : List Int} {i : Nat} (hi : i < zs.length) (h : ¬ (0 ≤ zs.getD i 0 ∧ zs.getD i 0 ≤ 15)) : allZB zs = false := by
  cases e : allZB zs
  · rfl
  · simp only [allZB, List.all_eq_true, decide_eq_true_eq] at e
    exact absurd (e _ (getD_memZ zs i hi)) h
theorem belowB_true {zs ys : List Int} (h : ∀ k, k < 11 → zs.getD k 0 ≤ ys.getD k 0) : belowB zs ys = true := by
  simp only [belowB, List.all_eq_true, decide_eq_true_eq, List.mem_range]; exact h
theorem belowB_false {zs ys : List Int} {k : Nat} (hk : k < 11) (h : ¬ zs.getD k 0 ≤ ys.getD k 0) : belowB zs ys = false := by
  cases e : belowB zs ys
  · rfl
  · simp only [belowB, List.all_eq_true, decide_eq_true_eq, List.mem_range] at e
    exact absurd (e k hk) h
theorem goodZB_true {zs : List Int} (h : goodZB zs = true) : zs.length = 11 ∧ allZB zs = true := by
  simpa [goodZB] using h

set_option maxHeartbeats 1600000 in
set_option maxRecDepth 100000 in
theorem specAll (v : Value) (zs : List Int) (w : World) (h : IntsAt w v zs) (hlen : zs.length ≤ 1048576) :
    Calls Tryd.prog 73 #[v, .int .i64 0, .int .i64 15] w fun e w' => e = .returned (.bool (allZB zs)) ∧ Below w.heap.size w w' := by
  rcases h with ⟨a0, c0, rfl, rfl⟩ | ⟨b, off, cap, rfl, hb, hcell⟩
  · go_enter Tryd.func73, Tryd.ntmps73
    go_wp2
    go_loop [8, 11] (fun x i => i = .int .i64 0) (fun _ _ => 0)
    case atStart => rfl
    case round =>
      subst hrel
      go_wp2
      go_returns
      exact ⟨rfl, by go_grown⟩
  · have HC : Hid (∀ i, i < zs.length → w.cell? ⟨b, off + i, none⟩ = some (.int .i64 (zs.getD i 0))) := hcell
    have HE : Hid ((∀ i, i < zs.length → 0 ≤ zs.getD i 0 ∧ zs.getD i 0 ≤ 15) → allZB zs = true) := allZB_true
    have HN2 : Hid (∀ i, i < zs.length → ¬ (0 ≤ zs.getD i 0 ∧ zs.getD i 0 ≤ 15) → allZB zs = false) := fun i hi h => allZB_false hi h
    clear hcell
    generalize allZB zs = ok at *
    go_enter Tryd.func73, Tryd.ntmps73
    go_wp2
    go_loopw [8, 11] (fun x i wr => ∃ k : Nat, k ≤ zs.length ∧ i = .int .i64 k ∧ (∀ j, j < k → 0 ≤ zs.getD j 0 ∧ zs.getD j 0 ≤ 15) ∧ Below w.heap.size w wr) (fun _ i _ => zs.length - (intOf i).toNat)
    case atStart => exact ⟨0, Nat.zero_le _, rfl, fun j hj => by omega, by go_grown⟩
    case round =>
      obtain ⟨k, hk, rfl, hall, kb⟩ := hrel
      have HA : Hid (∀ j, j < k → 0 ≤ zs.getD j 0 ∧ zs.getD j 0 ≤ 15) := hall
      clear hall
      by_cases hlt : k < zs.length
      · have hc : wr.cell? ⟨b, off + k, none⟩ = some (.int .i64 (zs.getD k 0)) := (kb.cell (p := ⟨b, off + k, none⟩) hb).trans (HC.out k hlt)
        have HNk : Hid (¬ (0 ≤ zs.getD k 0 ∧ zs.getD k 0 ≤ 15) → ok = false) := HN2.out k hlt
        have HAk : Hid ((0 ≤ zs.getD k 0 ∧ zs.getD k 0 ≤ 15) → ∀ j, j < k + 1 → 0 ≤ zs.getD j 0 ∧ zs.getD j 0 ≤ 15) := by
          intro h j hj
          by_cases e : j = k
          · rw [e]; exact h
          · exact HA.out j (by omega)
        generalize zs.getD k 0 = t at *
        by_cases h0 : t < 0
        · have HS : Hid (ok = false) := HNk.out (by omega)
          go_wp2
          go_returns
          exact ⟨by rw [HS.out]; rfl, by go_grown⟩
        · by_cases h1 : 15 < t
          · have HS : Hid (ok = false) := HNk.out (by omega)
            have hd : decide (t ≤ 15) = false := by simp; omega
            go_wp2
            go_returns
            exact ⟨by rw [HS.out]; rfl, by go_grown⟩
          · have HAl : Hid (∀ j, j < k + 1 → 0 ≤ zs.getD j 0 ∧ zs.getD j 0 ≤ 15) := HAk.out (by omega)
            have hd : decide (t ≤ 15) = true := by simp; omega
            go_wp2
            exact ⟨⟨k + 1, by omega, by go_num, HAl.out, by go_grown⟩, by simp [intOf]; omega⟩
      · have hke : k = zs.length := by omega
        have HS : Hid (ok = true) := HE.out (fun i hi => HA.out i (by omega))
        go_wp2
        go_returns
        exact ⟨by rw [HS.out]; rfl, by go_grown⟩

set_option maxHeartbeats 1600000 in
set_option maxRecDepth 100000 in
theorem implGoodD (v : Value) (zs : List Int) (w : World) (h : IntsAt w v zs) (hlen : zs.length ≤ 1048576) :
    Calls Tryd.prog 67 #[v] w fun e w' => e = .returned (.bool (goodZB zs)) ∧ Below w.heap.size w w' := by
  rcases h with ⟨a0, c0, rfl, rfl⟩ | ⟨b, off, cap, rfl, hb, hcell⟩
  · go_enter Tryd.func67, Tryd.ntmps67
    go_wp2
    go_returns
    exact ⟨rfl, by go_grown⟩
  by_cases h11 : zs.length = 11
  · have hl11 : (zs.length : Int) = 11 := by omega
    have HC : Hid (∀ i, i < zs.length → w.cell? ⟨b, off + i, none⟩ = some (.int .i64 (zs.getD i 0))) := hcell
    have HE : Hid ((∀ i, i < zs.length → 0 ≤ zs.getD i 0 ∧ zs.getD i 0 ≤ 15) → goodZB zs = true) := fun h => by simp [goodZB, h11, allZB_true h]
    have HN2 : Hid (∀ i, i < zs.length → ¬ (0 ≤ zs.getD i 0 ∧ zs.getD i 0 ≤ 15) → goodZB zs = false) := fun i hi h => by simp [goodZB, allZB_false hi h]
    clear hcell
    generalize goodZB zs = ok at *
    go_enter Tryd.func67, Tryd.ntmps67
    go_wp2
    go_loopw [4, 10] (fun x i wr => ∃ k : Nat, k ≤ zs.length ∧ i = .int .i64 k ∧ (∀ j, j < k → 0 ≤ zs.getD j 0 ∧ zs.getD j 0 ≤ 15) ∧ Below w.heap.size w wr) (fun _ i _ => zs.length - (intOf i).toNat)
    case atStart => exact ⟨0, Nat.zero_le _, rfl, fun j hj => by omega, by go_grown⟩
    case round =>
      obtain ⟨k, hk, rfl, hall, kb⟩ := hrel
      have HA : Hid (∀ j, j < k → 0 ≤ zs.getD j 0 ∧ zs.getD j 0 ≤ 15) := hall
      clear hall
      by_cases hlt : k < zs.length
      · have hc : wr.cell? ⟨b, off + k, none⟩ = some (.int .i64 (zs.getD k 0)) := (kb.cell (p := ⟨b, off + k, none⟩) hb).trans (HC.out k hlt)
        have HNk : Hid (¬ (0 ≤ zs.getD k 0 ∧ zs.getD k 0 ≤ 15) → ok = false) := HN2.out k hlt
        have HAk : Hid ((0 ≤ zs.getD k 0 ∧ zs.getD k 0 ≤ 15) → ∀ j, j < k + 1 → 0 ≤ zs.getD j 0 ∧ zs.getD j 0 ≤ 15) := by
          intro h j hj
          by_cases e : j = k
          · rw [e]; exact h
          · exact HA.out j (by omega)
        have hki : (k : Int) < 11 := by omega
        generalize zs.getD k 0 = t at *
        by_cases h0 : t < 0
        · have HS : Hid (ok = false) := HNk.out (by omega)
          go_wp2
          go_returns
          exact ⟨by rw [HS.out]; rfl, by go_grown⟩
        · by_cases h1 : 15 < t
          · have HS : Hid (ok = false) := HNk.out (by omega)
            have hd : decide (t ≤ 15) = false := by simp; omega
            go_wp2
            go_returns
            exact ⟨by rw [HS.out]; rfl, by go_grown⟩
          · have HAl : Hid (∀ j, j < k + 1 → 0 ≤ zs.getD j 0 ∧ zs.getD j 0 ≤ 15) := HAk.out (by omega)
            have hd : decide (t ≤ 15) = true := by simp; omega
            go_wp2
            exact ⟨⟨k + 1, by omega, by go_num, HAl.out, by go_grown⟩, by simp [intOf]; omega⟩
      · have hke : k = zs.length := by omega
        have hki : ¬ (k : Int) < 11 := by omega
        have HS : Hid (ok = true) := HE.out (fun i hi => HA.out i (by omega))
        go_wp2
        go_returns
        exact ⟨by rw [HS.out]; rfl, by go_grown⟩
  · have hl11 : ¬ (zs.length : Int) = 11 := by omega
    have HS : Hid (goodZB zs = false) := by show _ = _; simp [goodZB, h11]
    clear hcell
    go_enter Tryd.func67, Tryd.ntmps67
    go_wp2
    go_returns
    exact ⟨by rw [HS.out]; rfl, by go_grown⟩

theorem rowZ {w : World} {v : Value} {zs : List Int} (h : IntsAt w v zs) (hl : zs.length = 11) : ∃ b off cap, v = .slice (some ⟨b, off, none⟩) 11 cap ∧ b < w.heap.size ∧ ∀ i, i < 11 → w.cell? ⟨b, off + i, none⟩ = some (.int .i64 (zs.getD i 0)) := by
  rcases h with ⟨a0, c0, rfl, rfl⟩ | ⟨b, off, cap, rfl, hb, hcell⟩
  · simp at hl
  · rw [hl] at hcell
    exact ⟨b, off, cap, by rw [hl], hb, hcell⟩
/-- Both are good digits. -/
def BothZ (zs ys : List Int) : Prop := goodZB zs = true ∧ goodZB ys = true

set_option maxHeartbeats 1600000 in
set_option maxRecDepth 100000 in
theorem implBelowYes (v1 v2 : Value) (zs ys : List Int) (w : World) (h1 : IntsAt w v1 zs) (h2 : IntsAt w v2 ys) (hy : BothZ zs ys) :
    Calls Tryd.prog 31 #[v1, v2] w fun e w' => e = .returned (.tuple #[.bool (belowB zs ys), .bool true]) ∧ Below w.heap.size w w' := by
  have HE : Hid ((∀ k, k < 11 → zs.getD k 0 ≤ ys.getD k 0) → belowB zs ys = true) := belowB_true
  have HN : Hid (∀ k, k < 11 → ys.getD k 0 < zs.getD k 0 → belowB zs ys = false) := fun k hk h => belowB_false hk (by omega)
  obtain ⟨hlz, haz⟩ := goodZB_true hy.1
  obtain ⟨hly, hay⟩ := goodZB_true hy.2
  have G1 := fun W hW => implGoodD v1 zs W hW (by omega)
  have G2 := fun W hW => implGoodD v2 ys W hW (by omega)
  rw [hy.1] at G1
  rw [hy.2] at G2
  obtain ⟨b, off, cap, rfl, hb, hcell⟩ := rowZ h1 hlz
  obtain ⟨b2, off2, cap2, rfl, hb2, hcell2⟩ := rowZ h2 hly
  have HC : Hid (∀ i, i < 11 → w.cell? ⟨b, off + i, none⟩ = some (.int .i64 (zs.getD i 0))) := hcell
  have HD : Hid (∀ i, i < 11 → w.cell? ⟨b2, off2 + i, none⟩ = some (.int .i64 (ys.getD i 0))) := hcell2
  have H1 : Hid (IntsAt w _ zs) := h1
  have H2 : Hid (IntsAt w _ ys) := h2
  clear hcell hcell2 h1 h2 hy haz hay hlz hly
  generalize belowB zs ys = below at *
  go_enter Tryd.func31, Tryd.ntmps31
  go_wp2_with fail
  refine (G1 _ H1.out).mono ?_
  rintro e w1 ⟨rfl, hb1⟩
  go_wp2_with fail
  refine (G2 _ (H2.out.below hb1)).mono ?_
  rintro e w2 ⟨rfl, hbb2⟩
  have k2 := hb1.trans (hbb2.mono hb1.size)
  clear G1 G2 hb1 hbb2
  go_wp2_with fail
  go_loopw [6, 17] (fun x i wr => ∃ k : Nat, k ≤ 11 ∧ i = .int .i64 k ∧ (∀ j, j < k → zs.getD j 0 ≤ ys.getD j 0) ∧ Below w.heap.size w wr) (fun _ i _ => 11 - (intOf i).toNat)
  case atStart => exact ⟨0, Nat.zero_le _, rfl, fun j hj => by omega, k2⟩
  case round =>
    obtain ⟨k, hk, rfl, hall, kb⟩ := hrel
    have HA : Hid (∀ j, j < k → zs.getD j 0 ≤ ys.getD j 0) := hall
    clear hall
    by_cases hlt : k < 11
    · have hki : (k : Int) < 11 := by omega
      have hc : wr.cell? ⟨b, off + k, none⟩ = some (.int .i64 (zs.getD k 0)) := (kb.cell (p := ⟨b, off + k, none⟩) hb).trans (HC.out k hlt)
      have hd : wr.cell? ⟨b2, off2 + k, none⟩ = some (.int .i64 (ys.getD k 0)) := (kb.cell (p := ⟨b2, off2 + k, none⟩) hb2).trans (HD.out k hlt)
      have HNk : Hid (ys.getD k 0 < zs.getD k 0 → below = false) := HN.out k hlt
      have HAk : Hid (zs.getD k 0 ≤ ys.getD k 0 → ∀ j, j < k + 1 → zs.getD j 0 ≤ ys.getD j 0) := by
        intro h j hj
        by_cases e : j = k
        · rw [e]; exact h
        · exact HA.out j (by omega)
      generalize zs.getD k 0 = t at *
      generalize ys.getD k 0 = t2 at *
      by_cases ht : t2 < t
      · have HS : Hid (below = false) := HNk.out (by omega)
        go_wp2
        go_region
        all_goals go_wp2
        all_goals go_returns
        all_goals exact ⟨by rw [HS.out]; rfl, by go_grown⟩
      · have HAl : Hid (∀ j, j < k + 1 → zs.getD j 0 ≤ ys.getD j 0) := HAk.out (by omega)
        go_wp2
        go_region
        all_goals go_wp2
        all_goals exact ⟨⟨k + 1, by omega, by go_num, HAl.out, by go_grown⟩, by simp [intOf]; omega⟩
    · have hki : ¬ (k : Int) < 11 := by omega
      have HS : Hid (below = true) := HE.out (fun i hi => HA.out i (by omega))
      go_wp2
      go_returns
      exact ⟨by rw [HS.out]; rfl, by go_grown⟩

set_option maxHeartbeats 1600000 in
set_option maxRecDepth 100000 in
theorem specBelowYes (v1 v2 : Value) (zs ys : List Int) (w : World) (h1 : IntsAt w v1 zs) (h2 : IntsAt w v2 ys) (hy : BothZ zs ys) :
    Calls Tryd.prog 36 #[v1, v2] w fun e w' => e = .returned (.tuple #[.bool (belowB zs ys), .bool true]) ∧ Below w.heap.size w w' := by
  have HE : Hid ((∀ k, k < 11 → zs.getD k 0 ≤ ys.getD k 0) → belowB zs ys = true) := belowB_true
  have HN : Hid (∀ k, k < 11 → ys.getD k 0 < zs.getD k 0 → belowB zs ys = false) := fun k hk h => belowB_false hk (by omega)
  obtain ⟨hlz, haz⟩ := goodZB_true hy.1
  obtain ⟨hly, hay⟩ := goodZB_true hy.2
  have G1 := fun W hW => specAll v1 zs W hW (by omega)
  have G2 := fun W hW => specAll v2 ys W hW (by omega)
  rw [haz] at G1
  rw [hay] at G2
  obtain ⟨b, off, cap, rfl, hb, hcell⟩ := rowZ h1 hlz
  obtain ⟨b2, off2, cap2, rfl, hb2, hcell2⟩ := rowZ h2 hly
  have HC : Hid (∀ i, i < 11 → w.cell? ⟨b, off + i, none⟩ = some (.int .i64 (zs.getD i 0))) := hcell
  have HD : Hid (∀ i, i < 11 → w.cell? ⟨b2, off2 + i, none⟩ = some (.int .i64 (ys.getD i 0))) := hcell2
  have H1 : Hid (IntsAt w _ zs) := h1
  have H2 : Hid (IntsAt w _ ys) := h2
  clear hcell hcell2 h1 h2 hy haz hay hlz hly
  generalize belowB zs ys = below at *
  go_enter Tryd.func36, Tryd.ntmps36
  go_wp2_with fail
  refine (G1 _ H1.out).mono ?_
  rintro e w1 ⟨rfl, hb1⟩
  go_wp2_with fail
  refine (G2 _ (H2.out.below hb1)).mono ?_
  rintro e w2 ⟨rfl, hbb2⟩
  have k2 := hb1.trans (hbb2.mono hb1.size)
  clear G1 G2 hb1 hbb2
  go_wp2_with fail
  go_loopw [6, 7, 28] (fun x y i wr => ∃ k : Nat, k ≤ 11 ∧ i = .int .i64 k ∧ (∀ j, j < k → zs.getD j 0 ≤ ys.getD j 0) ∧ Below w.heap.size w wr) (fun _ _ i _ => 11 - (intOf i).toNat)
  case atStart => exact ⟨0, Nat.zero_le _, rfl, fun j hj => by omega, k2⟩
  case round =>
    obtain ⟨k, hk, rfl, hall, kb⟩ := hrel
    have HA : Hid (∀ j, j < k → zs.getD j 0 ≤ ys.getD j 0) := hall
    clear hall
    by_cases hlt : k < 11
    · have hki : (k : Int) < 11 := by omega
      have hc : wr.cell? ⟨b, off + k, none⟩ = some (.int .i64 (zs.getD k 0)) := (kb.cell (p := ⟨b, off + k, none⟩) hb).trans (HC.out k hlt)
      have hd : wr.cell? ⟨b2, off2 + k, none⟩ = some (.int .i64 (ys.getD k 0)) := (kb.cell (p := ⟨b2, off2 + k, none⟩) hb2).trans (HD.out k hlt)
      have HNk : Hid (ys.getD k 0 < zs.getD k 0 → below = false) := HN.out k hlt
      have HAk : Hid (zs.getD k 0 ≤ ys.getD k 0 → ∀ j, j < k + 1 → zs.getD j 0 ≤ ys.getD j 0) := by
        intro h j hj
        by_cases e : j = k
        · rw [e]; exact h
        · exact HA.out j (by omega)
      generalize zs.getD k 0 = t at *
      generalize ys.getD k 0 = t2 at *
      by_cases ht : t2 < t
      · have HS : Hid (below = false) := HNk.out (by omega)
        go_wp2
        all_goals go_returns
        all_goals exact ⟨by rw [HS.out]; rfl, by go_grown⟩
      · have HAl : Hid (∀ j, j < k + 1 → zs.getD j 0 ≤ ys.getD j 0) := HAk.out (by omega)
        go_wp2
        all_goals exact ⟨⟨k + 1, by omega, by go_num, HAl.out, by go_grown⟩, by simp [intOf]; omega⟩
    · have hki : ¬ (k : Int) < 11 := by omega
      have HS : Hid (below = true) := HE.out (fun i hi => HA.out i (by omega))
      go_wp2
      go_returns
      exact ⟨by rw [HS.out]; rfl, by go_grown⟩

set_option maxHeartbeats 1600000 in
set_option maxRecDepth 100000 in
theorem implBelowNo (v1 v2 : Value) (zs ys : List Int) (w : World) (h1 : IntsAt w v1 zs) (h2 : IntsAt w v2 ys) (hl1 : zs.length ≤ 1048576) (hl2 : ys.length ≤ 1048576) (hn : ¬ BothZ zs ys) :
    Calls Tryd.prog 31 #[v1, v2] w fun e w' => e = .returned (.tuple #[.bool false, .bool false]) ∧ Below w.heap.size w w' := by
  have G1 := fun W hW => implGoodD v1 zs W hW hl1
  have G2 := fun W hW => implGoodD v2 ys W hW hl2
  cases hz : goodZB zs with
  | false =>
    rw [hz] at G1
    go_enter Tryd.func31, Tryd.ntmps31
    go_wp2_with fail
    refine (G1 _ h1).mono ?_
    rintro e w1 ⟨rfl, hb1⟩
    clear G1 G2 h1 h2
    go_wp2
    go_returns
    exact ⟨rfl, hb1⟩
  | true =>
    have hw : goodZB ys = false := by
      cases e : goodZB ys
      · rfl
      · exact absurd ⟨hz, e⟩ hn
    rw [hz] at G1
    rw [hw] at G2
    go_enter Tryd.func31, Tryd.ntmps31
    go_wp2_with fail
    refine (G1 _ h1).mono ?_
    rintro e w1 ⟨rfl, hb1⟩
    go_wp2_with fail
    refine (G2 _ (h2.below hb1)).mono ?_
    rintro e w2 ⟨rfl, hb2⟩
    have k2 := hb1.trans (hb2.mono hb1.size)
    clear G1 G2 h1 h2
    go_wp2
    go_returns
    exact ⟨rfl, k2⟩
theorem intsForm {w : World} {v : Value} {zs : List Int} (h : IntsAt w v zs) : ∃ a c, v = .slice a zs.length c := by
  rcases h with ⟨a, c, rfl, rfl⟩ | ⟨b, off, cap, rfl, _, _⟩
  · exact ⟨a, c, rfl⟩
  · exact ⟨_, _, rfl⟩
set_option maxHeartbeats 1600000 in
set_option maxRecDepth 100000 in
theorem specBelowNo (v1 v2 : Value) (zs ys : List Int) (w : World) (h1 : IntsAt w v1 zs) (h2 : IntsAt w v2 ys) (hl1 : zs.length ≤ 1048576) (hl2 : ys.length ≤ 1048576) (hn : ¬ BothZ zs ys) :
    Calls Tryd.prog 36 #[v1, v2] w fun e w' => e = .returned (.tuple #[.bool false, .bool false]) ∧ Below w.heap.size w w' := by
  have G1 := fun W hW => specAll v1 zs W hW hl1
  have G2 := fun W hW => specAll v2 ys W hW hl2
  have H1 : Hid (IntsAt w v1 zs) := h1
  have H2 : Hid (IntsAt w v2 ys) := h2
  obtain ⟨a1, c1, rfl⟩ := intsForm h1
  obtain ⟨a2, c2, rfl⟩ := intsForm h2
  clear h1 h2
  by_cases e1 : zs.length = 11
  · by_cases e2 : ys.length = 11
    · have HW : allZB zs = true → allZB ys = false := by
        intro hz
        cases e : allZB ys
        · rfl
        · exact absurd ⟨by simp [goodZB, e1, hz], by simp [goodZB, e2, e]⟩ hn
      clear hn
      simp only [e1] at G1 H1 ⊢
      simp only [e2] at G2 H2 ⊢
      clear e1 e2 hl1 hl2
      cases hz : allZB zs with
      | false =>
        rw [hz] at G1
        clear HW hz
        go_enter Tryd.func36, Tryd.ntmps36
        go_wp2_with fail
        refine (G1 _ H1.out).mono ?_
        rintro e w1 ⟨rfl, hb1⟩
        clear G1 G2
        go_wp2
        go_returns
        exact ⟨rfl, hb1⟩
      | true =>
        have hw := HW hz
        rw [hz] at G1
        rw [hw] at G2
        clear HW hz hw
        go_enter Tryd.func36, Tryd.ntmps36
        go_wp2_with fail
        refine (G1 _ H1.out).mono ?_
        rintro e w1 ⟨rfl, hb1⟩
        go_wp2_with fail
        refine (G2 _ (H2.out.below hb1)).mono ?_
        rintro e w2 ⟨rfl, hb2⟩
        have k2 := hb1.trans (hb2.mono hb1.size)
        clear G1 G2
        go_wp2
        go_returns
        exact ⟨rfl, k2⟩
    · have i1 : (zs.length : Int) = 11 := by omega
      have i2 : ¬ (ys.length : Int) = 11 := by omega
      clear G1 G2
      go_enter Tryd.func36, Tryd.ntmps36
      go_wp2
      go_returns
      exact ⟨rfl, by go_grown⟩
  · have i1 : ¬ (zs.length : Int) = 11 := by omega
    clear G1 G2
    go_enter Tryd.func36, Tryd.ntmps36
    go_wp2
    go_returns
    exact ⟨rfl, by go_grown⟩
end Go.Proofs.YtphbcndboegnfaaDoor
