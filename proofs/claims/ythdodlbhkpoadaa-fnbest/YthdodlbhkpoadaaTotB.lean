/- What rows have for a doc, and at a depth: program and model. Condition: the rows lie in memory, and are good. -/
import Derived.Test.YthdodlbhkpoadaaScB
import Derived.Test.YthdodlbhkpoadaaBoxW
namespace Go.Proofs.Ythdodlbhkpoadaa
open Go.ChangeShapes Go.WideShapes Go.ChangeAt Go.RowKit Go.Deep
set_option linter.unusedVariables false
attribute [local go_sem ↓] Go.wp_at_zero Go.wp_at_succ

set_option maxHeartbeats 3200000 in
set_option maxRecDepth 100000 in
theorem implTotal (x : Value) (R : List (List Sc)) (d : Int) (w : World) (h : RwsAt w x R) (hg : ∀ r ∈ R, GoodR r) (hR : R.length ≤ 4) :
    Calls Try.prog 61 #[x, .int .i64 d] w fun e w' => e = .returned (.int .i64 (tot R d)) ∧ Below w.heap.size w w' := by
  have HG := hid hg
  clear hg
  rcases h with ⟨a0, c0, rfl, rfl⟩ | ⟨b, off, cap, rfl, hb, hcell⟩
  · have HE : Hid (tot [] d = 0) := rfl
    go_enter Try.func61, Try.ntmps61
    go_wp2
    go_loopw [5, 12] (fun s i wr => s = .int .i64 0 ∧ i = .int .i64 0 ∧ Below w.heap.size w wr) (fun _ _ _ => 0)
    case atStart => exact ⟨rfl, rfl, by go_grown⟩
    case round =>
      obtain ⟨rfl, rfl, kb⟩ := hrel
      go_wp2
      go_returns
      exact ⟨by rw [HE.out]; rfl, by go_grown⟩
  · have HC := hid hcell
    clear hcell
    go_enter Try.func61, Try.ntmps61
    go_wp2
    go_loopw [5, 12] (fun s i wr => ∃ (k : Nat) (z : Int), k ≤ R.length ∧ i = .int .i64 k ∧ s = .int .i64 z ∧ 0 ≤ z ∧ z ≤ 20000 * (k : Int) ∧ Hid (z = tot (R.take k) d) ∧ Below w.heap.size w wr) (fun _ i _ => R.length - (intOf i).toNat)
    case atStart => exact ⟨0, 0, Nat.zero_le _, rfl, rfl, by omega, by omega, rfl, by go_grown⟩
    case round =>
      obtain ⟨k, z, hk, rfl, rfl, hz0, hz1, HZ, kb⟩ := hrel
      have kl := kb.size
      by_cases hlt : k < R.length
      · obtain ⟨rv, r0, hrs⟩ := HC.out k hlt
        have r1 : wr.cell? ⟨b, off + k, none⟩ = some rv := (kb.cell (p := ⟨b, off + k, none⟩) hb).trans r0
        have hgr := HG.out _ (gR_mem hlt)
        have HSN : Hid (tot (R.take (k + 1)) d = tot (R.take k) d + totL (gR R k) d) := by show _ = _; rw [takeR R k hlt, tot_snoc]
        have hki : (k : Int) < (R.length : Int) := by omega
        have hk0 : (0 : Int) ≤ (k : Int) := by omega
        have hrb := hrs.below kb
        obtain ⟨r, hr⟩ : ∃ r, r = gR R k := ⟨_, rfl⟩
        rw [← hr] at hgr HSN hrb
        have HGR := hid hgr
        have hrl := hgr.1
        have hbr : b < wr.heap.size := by omega
        have HKB := hid kb
        clear r0 hrs hr hgr kb
        generalize wr = wo at *
        rcases hrb with ⟨ra, rc, rfl, rfl⟩ | ⟨rb, ro, rc, rfl, hrbl, hrc⟩
        · have HE : Hid (z = tot (R.take (k + 1)) d) := by show _ = _; rw [HSN.out, HZ.out]; simp [totL]
          go_wp2
          go_loopw [5, 18] (fun s i w2 => s = .int .i64 z ∧ i = .int .i64 0 ∧ Below w.heap.size w w2) (fun _ _ _ => 0)
          case atStart => exact ⟨rfl, rfl, HKB.out⟩
          case round =>
            obtain ⟨rfl, rfl, kb2⟩ := hrel
            go_wp2
            exact ⟨⟨k + 1, z, by omega, by go_num, rfl, hz0, by omega, HE.out, kb2⟩, by simp [intOf]; omega⟩
        · have HRC := hid hrc
          clear hrc
          go_wp2
          go_loopw [5, 18] (fun s i w2 => ∃ (j : Nat) (y : Int), j ≤ r.length ∧ i = .int .i64 j ∧ s = .int .i64 y ∧ 0 ≤ y ∧ y ≤ 20000 * (k : Int) + 1000 * (j : Int) ∧ Hid (y = z + totL (r.take j) d) ∧ Below wo.heap.size wo w2) (fun _ i _ => r.length - (intOf i).toNat)
          case atStart => exact ⟨0, z, Nat.zero_le _, rfl, rfl, hz0, by omega, by show _ = _; simp [totL], Below.refl _ _⟩
          case round =>
            obtain ⟨j, y, hj, rfl, rfl, hy0, hy1, HY, kb2⟩ := hrel
            have kl2 := kb2.size
            by_cases hjl : j < r.length
            · obtain ⟨p0, p1⟩ := (HRC.out j hjl).below hrbl kb2
              have hgi := (HGR.out.2 j hjl).1
              have HTS : Hid (totL (r.take (j + 1)) d = if (gd r j).1 = d then totL (r.take j) d + (gd r j).2 else totL (r.take j) d) := by show _ = _; rw [take_gd r j hjl, totL_snoc]
              have hji : (j : Int) < (r.length : Int) := by omega
              have hj0 : (0 : Int) ≤ (j : Int) := by omega
              have hrb2 : rb < wr.heap.size := by omega
              obtain ⟨u, hu⟩ : ∃ u, u = gd r j := ⟨_, rfl⟩
              rw [← hu] at p0 p1 hgi HTS
              obtain ⟨⟨u0, u1⟩, u2, u3⟩ := hgi
              clear hu
              by_cases hd : u.1 = d
              · have HN : Hid (y + u.2 = z + totL (r.take (j + 1)) d) := by show _ = _; rw [HTS.out, if_pos hd, HY.out]; omega
                have hde : (u.1 == d) = true := by simp [hd]
                clear hd HTS
                go_wp2
                exact ⟨⟨j + 1, y + u.2, by omega, by go_num, by go_num, by omega, by omega, HN.out, by go_grown⟩, by simp [intOf]; omega⟩
              · have HN : Hid (y = z + totL (r.take (j + 1)) d) := by show _ = _; rw [HTS.out, if_neg hd, HY.out]
                have hde : (u.1 == d) = false := by simp [hd]
                clear hd HTS
                go_wp2
                exact ⟨⟨j + 1, y, by omega, by go_num, rfl, hy0, by omega, HN.out, by go_grown⟩, by simp [intOf]; omega⟩
            · have hji : ¬ (j : Int) < (r.length : Int) := by omega
              have HE : Hid (y = tot (R.take (k + 1)) d) := by
                show _ = _
                have h1 := HY.out
                rw [List.take_of_length_le (by omega)] at h1
                rw [HSN.out, ← HZ.out, h1]
              have hy2 : y ≤ 20000 * ((k : Int) + 1) := by omega
              have k3 := HKB.out.trans (kb2.mono kl)
              clear kb2
              go_wp2
              exact ⟨⟨k + 1, y, by omega, by go_num, rfl, hy0, by omega, HE.out, k3⟩, by simp [intOf]; omega⟩
      · have hki : ¬ (k : Int) < (R.length : Int) := by omega
        have HE : Hid (z = tot R d) := by
          show _ = _
          rw [HZ.out, List.take_of_length_le (by omega)]
        go_wp2
        go_returns
        exact ⟨by rw [← HE.out]; rfl, by go_grown⟩
set_option maxHeartbeats 3200000 in
set_option maxRecDepth 100000 in
theorem specTotal (x : Value) (R : List (List Sc)) (d : Int) (w : World) (h : RwsAt w x R) (hg : ∀ r ∈ R, GoodR r) (hR : R.length ≤ 4) :
    Calls Try.prog 58 #[x, .int .i64 d] w fun e w' => e = .returned (.int .i64 (tot R d)) ∧ Below w.heap.size w w' := by
  have HG := hid hg
  clear hg
  rcases h with ⟨a0, c0, rfl, rfl⟩ | ⟨b, off, cap, rfl, hb, hcell⟩
  · have HE : Hid (tot [] d = 0) := rfl
    go_enter Try.func58, Try.ntmps58
    go_wp2
    go_loopw [5, 12] (fun s i wr => s = .int .i64 0 ∧ i = .int .i64 0 ∧ Below w.heap.size w wr) (fun _ _ _ => 0)
    case atStart => exact ⟨rfl, rfl, by go_grown⟩
    case round =>
      obtain ⟨rfl, rfl, kb⟩ := hrel
      go_wp2
      go_returns
      exact ⟨by rw [HE.out]; rfl, by go_grown⟩
  · have HC := hid hcell
    clear hcell
    go_enter Try.func58, Try.ntmps58
    go_wp2
    go_loopw [5, 12] (fun s i wr => ∃ (k : Nat) (z : Int), k ≤ R.length ∧ i = .int .i64 k ∧ s = .int .i64 z ∧ 0 ≤ z ∧ z ≤ 20000 * (k : Int) ∧ Hid (z = tot (R.take k) d) ∧ Below w.heap.size w wr) (fun _ i _ => R.length - (intOf i).toNat)
    case atStart => exact ⟨0, 0, Nat.zero_le _, rfl, rfl, by omega, by omega, rfl, by go_grown⟩
    case round =>
      obtain ⟨k, z, hk, rfl, rfl, hz0, hz1, HZ, kb⟩ := hrel
      have kl := kb.size
      by_cases hlt : k < R.length
      · obtain ⟨rv, r0, hrs⟩ := HC.out k hlt
        have r1 : wr.cell? ⟨b, off + k, none⟩ = some rv := (kb.cell (p := ⟨b, off + k, none⟩) hb).trans r0
        have hgr := HG.out _ (gR_mem hlt)
        have HSN : Hid (tot (R.take (k + 1)) d = tot (R.take k) d + totL (gR R k) d) := by show _ = _; rw [takeR R k hlt, tot_snoc]
        have hki : (k : Int) < (R.length : Int) := by omega
        have hk0 : (0 : Int) ≤ (k : Int) := by omega
        have hrb := hrs.below kb
        obtain ⟨r, hr⟩ : ∃ r, r = gR R k := ⟨_, rfl⟩
        rw [← hr] at hgr HSN hrb
        have HGR := hid hgr
        have hrl := hgr.1
        have hbr : b < wr.heap.size := by omega
        have HKB := hid kb
        clear r0 hrs hr hgr kb
        generalize wr = wo at *
        rcases hrb with ⟨ra, rc, rfl, rfl⟩ | ⟨rb, ro, rc, rfl, hrbl, hrc⟩
        · have HE : Hid (z = tot (R.take (k + 1)) d) := by show _ = _; rw [HSN.out, HZ.out]; simp [totL]
          go_wp2
          go_loopw [5, 18] (fun s i w2 => s = .int .i64 z ∧ i = .int .i64 0 ∧ Below w.heap.size w w2) (fun _ _ _ => 0)
          case atStart => exact ⟨rfl, rfl, HKB.out⟩
          case round =>
            obtain ⟨rfl, rfl, kb2⟩ := hrel
            go_wp2
            exact ⟨⟨k + 1, z, by omega, by go_num, rfl, hz0, by omega, HE.out, kb2⟩, by simp [intOf]; omega⟩
        · have HRC := hid hrc
          clear hrc
          go_wp2
          go_loopw [5, 18] (fun s i w2 => ∃ (j : Nat) (y : Int), j ≤ r.length ∧ i = .int .i64 j ∧ s = .int .i64 y ∧ 0 ≤ y ∧ y ≤ 20000 * (k : Int) + 1000 * (j : Int) ∧ Hid (y = z + totL (r.take j) d) ∧ Below wo.heap.size wo w2) (fun _ i _ => r.length - (intOf i).toNat)
          case atStart => exact ⟨0, z, Nat.zero_le _, rfl, rfl, hz0, by omega, by show _ = _; simp [totL], Below.refl _ _⟩
          case round =>
            obtain ⟨j, y, hj, rfl, rfl, hy0, hy1, HY, kb2⟩ := hrel
            have kl2 := kb2.size
            by_cases hjl : j < r.length
            · obtain ⟨p0, p1⟩ := (HRC.out j hjl).below hrbl kb2
              have hgi := (HGR.out.2 j hjl).1
              have HTS : Hid (totL (r.take (j + 1)) d = if (gd r j).1 = d then totL (r.take j) d + (gd r j).2 else totL (r.take j) d) := by show _ = _; rw [take_gd r j hjl, totL_snoc]
              have hji : (j : Int) < (r.length : Int) := by omega
              have hj0 : (0 : Int) ≤ (j : Int) := by omega
              have hrb2 : rb < wr.heap.size := by omega
              obtain ⟨u, hu⟩ : ∃ u, u = gd r j := ⟨_, rfl⟩
              rw [← hu] at p0 p1 hgi HTS
              obtain ⟨⟨u0, u1⟩, u2, u3⟩ := hgi
              clear hu
              by_cases hd : u.1 = d
              · have HN : Hid (y + u.2 = z + totL (r.take (j + 1)) d) := by show _ = _; rw [HTS.out, if_pos hd, HY.out]; omega
                have hde : (u.1 == d) = true := by simp [hd]
                clear hd HTS
                go_wp2
                exact ⟨⟨j + 1, y + u.2, by omega, by go_num, by go_num, by omega, by omega, HN.out, by go_grown⟩, by simp [intOf]; omega⟩
              · have HN : Hid (y = z + totL (r.take (j + 1)) d) := by show _ = _; rw [HTS.out, if_neg hd, HY.out]
                have hde : (u.1 == d) = false := by simp [hd]
                clear hd HTS
                go_wp2
                exact ⟨⟨j + 1, y, by omega, by go_num, rfl, hy0, by omega, HN.out, by go_grown⟩, by simp [intOf]; omega⟩
            · have hji : ¬ (j : Int) < (r.length : Int) := by omega
              have HE : Hid (y = tot (R.take (k + 1)) d) := by
                show _ = _
                have h1 := HY.out
                rw [List.take_of_length_le (by omega)] at h1
                rw [HSN.out, ← HZ.out, h1]
              have hy2 : y ≤ 20000 * ((k : Int) + 1) := by omega
              have k3 := HKB.out.trans (kb2.mono kl)
              clear kb2
              go_wp2
              exact ⟨⟨k + 1, y, by omega, by go_num, rfl, hy0, by omega, HE.out, k3⟩, by simp [intOf]; omega⟩
      · have hki : ¬ (k : Int) < (R.length : Int) := by omega
        have HE : Hid (z = tot R d) := by
          show _ = _
          rw [HZ.out, List.take_of_length_le (by omega)]
        go_wp2
        go_returns
        exact ⟨by rw [← HE.out]; rfl, by go_grown⟩
set_option maxHeartbeats 3200000 in
set_option maxRecDepth 100000 in
theorem implBound (x : Value) (R : List (List Sc)) (D : Nat) (w : World) (h : RwsAt w x R) (hg : ∀ r ∈ R, GoodR r) (hR : R.length ≤ 4) (hD : D ≤ 100) :
    Calls Try.prog 51 #[x, .int .i64 D] w fun e w' => e = .returned (.int .i64 (bnd R D)) ∧ Below w.heap.size w w' := by
  have HG := hid hg
  clear hg
  rcases h with ⟨a0, c0, rfl, rfl⟩ | ⟨b, off, cap, rfl, hb, hcell⟩
  · have HE : Hid (bnd [] D = 0) := rfl
    go_enter Try.func51, Try.ntmps51
    go_wp2
    go_loopw [5, 10] (fun s i wr => s = .int .i64 0 ∧ i = .int .i64 0 ∧ Below w.heap.size w wr) (fun _ _ _ => 0)
    case atStart => exact ⟨rfl, rfl, by go_grown⟩
    case round =>
      obtain ⟨rfl, rfl, kb⟩ := hrel
      go_wp2
      go_returns
      exact ⟨by rw [HE.out]; rfl, by go_grown⟩
  · have HC := hid hcell
    clear hcell
    go_enter Try.func51, Try.ntmps51
    go_wp2
    go_loopw [5, 10] (fun s i wr => ∃ (k : Nat) (z : Int), k ≤ R.length ∧ i = .int .i64 k ∧ s = .int .i64 z ∧ 0 ≤ z ∧ z ≤ 1000 * (k : Int) ∧ Hid (z = bnd (R.take k) D) ∧ Below w.heap.size w wr) (fun _ i _ => R.length - (intOf i).toNat)
    case atStart => exact ⟨0, 0, Nat.zero_le _, rfl, rfl, by omega, by omega, rfl, by go_grown⟩
    case round =>
      obtain ⟨k, z, hk, rfl, rfl, hz0, hz1, HZ, kb⟩ := hrel
      have kl := kb.size
      by_cases hlt : k < R.length
      · obtain ⟨rv, r0, hrs⟩ := HC.out k hlt
        have r1 : wr.cell? ⟨b, off + k, none⟩ = some rv := (kb.cell (p := ⟨b, off + k, none⟩) hb).trans r0
        have hgr := HG.out _ (gR_mem hlt)
        have HSN : Hid (bnd (R.take (k + 1)) D = bnd (R.take k) D + bndL (gR R k) D) := by show _ = _; rw [takeR R k hlt, bnd_snoc]
        have hki : (k : Int) < (R.length : Int) := by omega
        have hk0 : (0 : Int) ≤ (k : Int) := by omega
        have hrb := hrs.below kb
        obtain ⟨r, hr⟩ : ∃ r, r = gR R k := ⟨_, rfl⟩
        rw [← hr] at hgr HSN hrb
        have HGR := hid hgr
        have hrl := hgr.1
        have hbr : b < wr.heap.size := by omega
        clear r0 hrs hr hgr
        by_cases hDl : D < r.length
        · rcases hrb with ⟨ra, rc, rfl, rfl⟩ | ⟨rb, ro, rc, rfl, hrbl, hrc⟩
          · simp at hDl
          · obtain ⟨p0, p1⟩ := hrc D hDl
            have hgi := (HGR.out.2 D hDl).1
            have HN : Hid (z + (gd r D).2 = bnd (R.take (k + 1)) D) := by show _ = _; rw [HSN.out, ← HZ.out]; unfold bndL; rw [if_pos hDl]
            have hDi : (D : Int) < (r.length : Int) := by omega
            obtain ⟨u, hu⟩ : ∃ u, u = gd r D := ⟨_, rfl⟩
            rw [← hu] at p0 p1 hgi HN
            obtain ⟨⟨u0, u1⟩, u2, u3⟩ := hgi
            clear hu hrc
            go_wp2
            exact ⟨⟨k + 1, z + u.2, by omega, by go_num, by go_num, by omega, by omega, HN.out, kb⟩, by simp [intOf]; omega⟩
        · have HN : Hid (z = bnd (R.take (k + 1)) D) := by show _ = _; rw [HSN.out, ← HZ.out]; unfold bndL; rw [if_neg hDl]; omega
          have hDi : ¬ (D : Int) < (r.length : Int) := by omega
          obtain ⟨ra, rc, rfl⟩ := hrb.slice
          clear hrb
          go_wp2
          exact ⟨⟨k + 1, z, by omega, by go_num, rfl, hz0, by omega, HN.out, kb⟩, by simp [intOf]; omega⟩
      · have hki : ¬ (k : Int) < (R.length : Int) := by omega
        have HE : Hid (z = bnd R D) := by
          show _ = _
          rw [HZ.out, List.take_of_length_le (by omega)]
        go_wp2
        go_returns
        exact ⟨by rw [← HE.out]; rfl, by go_grown⟩
set_option maxHeartbeats 3200000 in
set_option maxRecDepth 100000 in
theorem specBound (x : Value) (R : List (List Sc)) (D : Nat) (w : World) (h : RwsAt w x R) (hg : ∀ r ∈ R, GoodR r) (hR : R.length ≤ 4) (hD : D ≤ 100) :
    Calls Try.prog 56 #[x, .int .i64 D] w fun e w' => e = .returned (.int .i64 (bnd R D)) ∧ Below w.heap.size w w' := by
  have HG := hid hg
  clear hg
  rcases h with ⟨a0, c0, rfl, rfl⟩ | ⟨b, off, cap, rfl, hb, hcell⟩
  · have HE : Hid (bnd [] D = 0) := rfl
    go_enter Try.func56, Try.ntmps56
    go_wp2
    go_loopw [5, 10] (fun s i wr => s = .int .i64 0 ∧ i = .int .i64 0 ∧ Below w.heap.size w wr) (fun _ _ _ => 0)
    case atStart => exact ⟨rfl, rfl, by go_grown⟩
    case round =>
      obtain ⟨rfl, rfl, kb⟩ := hrel
      go_wp2
      go_returns
      exact ⟨by rw [HE.out]; rfl, by go_grown⟩
  · have HC := hid hcell
    clear hcell
    go_enter Try.func56, Try.ntmps56
    go_wp2
    go_loopw [5, 10] (fun s i wr => ∃ (k : Nat) (z : Int), k ≤ R.length ∧ i = .int .i64 k ∧ s = .int .i64 z ∧ 0 ≤ z ∧ z ≤ 1000 * (k : Int) ∧ Hid (z = bnd (R.take k) D) ∧ Below w.heap.size w wr) (fun _ i _ => R.length - (intOf i).toNat)
    case atStart => exact ⟨0, 0, Nat.zero_le _, rfl, rfl, by omega, by omega, rfl, by go_grown⟩
    case round =>
      obtain ⟨k, z, hk, rfl, rfl, hz0, hz1, HZ, kb⟩ := hrel
      have kl := kb.size
      by_cases hlt : k < R.length
      · obtain ⟨rv, r0, hrs⟩ := HC.out k hlt
        have r1 : wr.cell? ⟨b, off + k, none⟩ = some rv := (kb.cell (p := ⟨b, off + k, none⟩) hb).trans r0
        have hgr := HG.out _ (gR_mem hlt)
        have HSN : Hid (bnd (R.take (k + 1)) D = bnd (R.take k) D + bndL (gR R k) D) := by show _ = _; rw [takeR R k hlt, bnd_snoc]
        have hki : (k : Int) < (R.length : Int) := by omega
        have hk0 : (0 : Int) ≤ (k : Int) := by omega
        have hrb := hrs.below kb
        obtain ⟨r, hr⟩ : ∃ r, r = gR R k := ⟨_, rfl⟩
        rw [← hr] at hgr HSN hrb
        have HGR := hid hgr
        have hrl := hgr.1
        have hbr : b < wr.heap.size := by omega
        clear r0 hrs hr hgr
        by_cases hDl : D < r.length
        · rcases hrb with ⟨ra, rc, rfl, rfl⟩ | ⟨rb, ro, rc, rfl, hrbl, hrc⟩
          · simp at hDl
          · obtain ⟨p0, p1⟩ := hrc D hDl
            have hgi := (HGR.out.2 D hDl).1
            have HN : Hid (z + (gd r D).2 = bnd (R.take (k + 1)) D) := by show _ = _; rw [HSN.out, ← HZ.out]; unfold bndL; rw [if_pos hDl]
            have hDi : (D : Int) < (r.length : Int) := by omega
            obtain ⟨u, hu⟩ : ∃ u, u = gd r D := ⟨_, rfl⟩
            rw [← hu] at p0 p1 hgi HN
            obtain ⟨⟨u0, u1⟩, u2, u3⟩ := hgi
            clear hu hrc
            go_wp2
            exact ⟨⟨k + 1, z + u.2, by omega, by go_num, by go_num, by omega, by omega, HN.out, kb⟩, by simp [intOf]; omega⟩
        · have HN : Hid (z = bnd (R.take (k + 1)) D) := by show _ = _; rw [HSN.out, ← HZ.out]; unfold bndL; rw [if_neg hDl]; omega
          have hDi : ¬ (D : Int) < (r.length : Int) := by omega
          obtain ⟨ra, rc, rfl⟩ := hrb.slice
          clear hrb
          go_wp2
          exact ⟨⟨k + 1, z, by omega, by go_num, rfl, hz0, by omega, HN.out, kb⟩, by simp [intOf]; omega⟩
      · have hki : ¬ (k : Int) < (R.length : Int) := by omega
        have HE : Hid (z = bnd R D) := by
          show _ = _
          rw [HZ.out, List.take_of_length_le (by omega)]
        go_wp2
        go_returns
        exact ⟨by rw [← HE.out]; rfl, by go_grown⟩
end Go.Proofs.Ythdodlbhkpoadaa
