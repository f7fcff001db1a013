/- Contracts of ListDigest, program and model. Condition: the table of weights as it is laid; the list lies in memory. -/
import Derived.Test.YtmnebdgoombfoaaDoorList
namespace Go.Proofs.YtmnebdgoombfoaaDoor
open Go.ChangeShapes Go.WideShapes Go.ChangeAt Go.RowKit Go.Deep Go.Lib
set_option linter.unusedVariables false

theorem specKind (k : Int) (w : World) (hk : 97 ≤ k) (hk2 : k ≤ 122) :
    Calls Tryd.prog 47 #[.int .u8 k] w fun e w' => e = .returned (.bool true) ∧ w = w' := by
  go_enter Tryd.func47, Tryd.ntmps47
  go_wp2
  go_ret
  exact ⟨rfl, rfl⟩

set_option maxHeartbeats 1600000 in
theorem specListA (k : Int) (v : Value) (ss : List ByteArray) (w : World) (h : StrsAt w v ss) (hl : ss.length ≤ 1048576) (hsz : ∀ s ∈ ss, s.size ≤ maxLen) (hok : okS ss = false) :
    Calls Tryd.prog 32 #[.int .u8 k, v] w fun e w' => e = .returned (.tuple #[.string ByteArray.empty, .bool false]) ∧ Below w.heap.size w w' := by
  have hat := h
  rcases h with ⟨a0, c0, rfl, hnil⟩ | ⟨b, off, cap, rfl, hb, hcell⟩
  · exact absurd hok (by simp [okS, hnil])
  · have HC : Hid (∀ i, i < ss.length → w.cell? ⟨b, off + i, none⟩ = some (.string (ss.getD i ByteArray.empty))) := hcell
    have HZ : Hid (∀ s ∈ ss, s.size ≤ maxLen) := hsz
    clear hcell
    go_enter Tryd.func32, Tryd.ntmps32
    go_wp2
    go_loop [7, 10] (fun y i => ∃ k : Nat, k ≤ ss.length ∧ (∀ s ∈ ss.take k, s.size ≤ 100) ∧ i = .int .i64 k) (fun _ i => ss.length - (intOf i).toNat)
    case atStart => exact ⟨0, Nat.zero_le _, fun s hs => by simp at hs, rfl⟩
    case round =>
      obtain ⟨n, hn, hall, rfl⟩ := hrel
      have HA : Hid (∀ s ∈ ss.take n, s.size ≤ 100) := hall
      clear hall
      by_cases hlt : n < ss.length
      · have hc := HC.out n hlt
        have hm := HZ.out _ (getD_mem ss n hlt)
        unfold maxLen at hm
        have HK : Hid (100 < (ss.getD n ByteArray.empty).size → okS ss = false) := fun h => okS_false (getD_mem ss n hlt) h
        have HN : Hid ((ss.getD n ByteArray.empty).size ≤ 100 → ∀ s ∈ ss.take (n + 1), s.size ≤ 100) := by
          intro h s hs
          rw [take_snocS ss n hlt] at hs
          rcases List.mem_append.1 hs with h1 | h1
          · exact HA.out s h1
          · simp only [List.mem_singleton] at h1; subst h1; exact h
        generalize ss.getD n ByteArray.empty = t at *
        by_cases hbig : 100 < t.size
        · have hd100 : (100 : Int) < (t.size : Int) := by omega
          go_wp2
          go_returns
          exact ⟨rfl, by go_grown⟩
        have hd100 : ¬ (100 : Int) < (t.size : Int) := by omega
        go_wp2
        go_round
        case rel => exact ⟨n + 1, by omega, HN.out (by omega), by go_num⟩
        case measure => simp [intOf]; omega
      · have hne : n = ss.length := by omega
        subst hne
        have HF : Hid (okS ss = true) := okS_true.2 (by have := HA.out; rwa [List.take_length] at this)
        exact absurd (HF.out.symm.trans hok) (by decide)
set_option maxHeartbeats 1600000 in
theorem specListB (k : Int) (v : Value) (ss : List ByteArray) (w : World) (h : StrsAt w v ss) (hl : ss.length ≤ 1048576) (hsz : ∀ s ∈ ss, s.size ≤ maxLen) (hok : okS ss = true) (hk : k < 97) :
    Calls Tryd.prog 32 #[.int .u8 k, v] w fun e w' => e = .returned (.tuple #[.string ByteArray.empty, .bool false]) ∧ Below w.heap.size w w' := by
  have hk1 : ¬ 97 ≤ k := by omega
  have hat := h
  rcases h with ⟨a0, c0, rfl, hnil⟩ | ⟨b, off, cap, rfl, hb, hcell⟩
  · have HNL : Hid (ss = []) := hnil
    clear hnil
    go_enter Tryd.func32, Tryd.ntmps32
    go_wp2
    go_loop [7, 10] (fun y i => i = .int .i64 0) (fun _ _ => 0)
    case atStart => rfl
    case round =>
      subst hrel
      go_wp2
      go_returns
      exact ⟨rfl, by go_grown⟩
  · have HC : Hid (∀ i, i < ss.length → w.cell? ⟨b, off + i, none⟩ = some (.string (ss.getD i ByteArray.empty))) := hcell
    have HZ : Hid (∀ s ∈ ss, s.size ≤ maxLen) := hsz
    clear hcell
    go_enter Tryd.func32, Tryd.ntmps32
    go_wp2
    go_loop [7, 10] (fun y i => ∃ k : Nat, k ≤ ss.length ∧ (∀ s ∈ ss.take k, s.size ≤ 100) ∧ i = .int .i64 k) (fun _ i => ss.length - (intOf i).toNat)
    case atStart => exact ⟨0, Nat.zero_le _, fun s hs => by simp at hs, rfl⟩
    case round =>
      obtain ⟨n, hn, hall, rfl⟩ := hrel
      have HA : Hid (∀ s ∈ ss.take n, s.size ≤ 100) := hall
      clear hall
      by_cases hlt : n < ss.length
      · have hc := HC.out n hlt
        have hm := HZ.out _ (getD_mem ss n hlt)
        unfold maxLen at hm
        have HK : Hid (100 < (ss.getD n ByteArray.empty).size → okS ss = false) := fun h => okS_false (getD_mem ss n hlt) h
        have HN : Hid ((ss.getD n ByteArray.empty).size ≤ 100 → ∀ s ∈ ss.take (n + 1), s.size ≤ 100) := by
          intro h s hs
          rw [take_snocS ss n hlt] at hs
          rcases List.mem_append.1 hs with h1 | h1
          · exact HA.out s h1
          · simp only [List.mem_singleton] at h1; subst h1; exact h
        generalize ss.getD n ByteArray.empty = t at *
        by_cases hbig : 100 < t.size
        · have hd100 : (100 : Int) < (t.size : Int) := by omega
          exact absurd ((hok).symm.trans (HK.out hbig)) (by decide)
        have hd100 : ¬ (100 : Int) < (t.size : Int) := by omega
        go_wp2
        go_round
        case rel => exact ⟨n + 1, by omega, HN.out (by omega), by go_num⟩
        case measure => simp [intOf]; omega
      · have hne : n = ss.length := by omega
        subst hne
        have HF : Hid (okS ss = true) := okS_true.2 (by have := HA.out; rwa [List.take_length] at this)
        go_wp2
        go_returns
        exact ⟨rfl, by go_grown⟩
set_option maxHeartbeats 1600000 in
theorem specListC (k : Int) (v : Value) (ss : List ByteArray) (w : World) (h : StrsAt w v ss) (hl : ss.length ≤ 1048576) (hsz : ∀ s ∈ ss, s.size ≤ maxLen) (hok : okS ss = true) (hk : 97 ≤ k) (hk2 : 122 < k) :
    Calls Tryd.prog 32 #[.int .u8 k, v] w fun e w' => e = .returned (.tuple #[.string ByteArray.empty, .bool false]) ∧ Below w.heap.size w w' := by
  have hk1 : ¬ k ≤ 122 := by omega
  have hat := h
  rcases h with ⟨a0, c0, rfl, hnil⟩ | ⟨b, off, cap, rfl, hb, hcell⟩
  · have HNL : Hid (ss = []) := hnil
    clear hnil
    go_enter Tryd.func32, Tryd.ntmps32
    go_wp2
    go_loop [7, 10] (fun y i => i = .int .i64 0) (fun _ _ => 0)
    case atStart => rfl
    case round =>
      subst hrel
      go_wp2
      go_returns
      exact ⟨rfl, by go_grown⟩
  · have HC : Hid (∀ i, i < ss.length → w.cell? ⟨b, off + i, none⟩ = some (.string (ss.getD i ByteArray.empty))) := hcell
    have HZ : Hid (∀ s ∈ ss, s.size ≤ maxLen) := hsz
    clear hcell
    go_enter Tryd.func32, Tryd.ntmps32
    go_wp2
    go_loop [7, 10] (fun y i => ∃ k : Nat, k ≤ ss.length ∧ (∀ s ∈ ss.take k, s.size ≤ 100) ∧ i = .int .i64 k) (fun _ i => ss.length - (intOf i).toNat)
    case atStart => exact ⟨0, Nat.zero_le _, fun s hs => by simp at hs, rfl⟩
    case round =>
      obtain ⟨n, hn, hall, rfl⟩ := hrel
      have HA : Hid (∀ s ∈ ss.take n, s.size ≤ 100) := hall
      clear hall
      by_cases hlt : n < ss.length
      · have hc := HC.out n hlt
        have hm := HZ.out _ (getD_mem ss n hlt)
        unfold maxLen at hm
        have HK : Hid (100 < (ss.getD n ByteArray.empty).size → okS ss = false) := fun h => okS_false (getD_mem ss n hlt) h
        have HN : Hid ((ss.getD n ByteArray.empty).size ≤ 100 → ∀ s ∈ ss.take (n + 1), s.size ≤ 100) := by
          intro h s hs
          rw [take_snocS ss n hlt] at hs
          rcases List.mem_append.1 hs with h1 | h1
          · exact HA.out s h1
          · simp only [List.mem_singleton] at h1; subst h1; exact h
        generalize ss.getD n ByteArray.empty = t at *
        by_cases hbig : 100 < t.size
        · have hd100 : (100 : Int) < (t.size : Int) := by omega
          exact absurd ((hok).symm.trans (HK.out hbig)) (by decide)
        have hd100 : ¬ (100 : Int) < (t.size : Int) := by omega
        go_wp2
        go_round
        case rel => exact ⟨n + 1, by omega, HN.out (by omega), by go_num⟩
        case measure => simp [intOf]; omega
      · have hne : n = ss.length := by omega
        subst hne
        have HF : Hid (okS ss = true) := okS_true.2 (by have := HA.out; rwa [List.take_length] at this)
        go_wp2
        go_returns
        exact ⟨rfl, by go_grown⟩
set_option maxHeartbeats 1600000 in
theorem specListD (k : Int) (v : Value) (ss : List ByteArray) (w : World) (h : StrsAt w v ss) (hl : ss.length ≤ 1048576) (hsz : ∀ s ∈ ss, s.size ≤ maxLen) (hok : okS ss = true) (hk : 97 ≤ k) (hk2 : k ≤ 122) (h20 : 20 < ss.length) :
    Calls Tryd.prog 32 #[.int .u8 k, v] w fun e w' => e = .returned (.tuple #[.string ByteArray.empty, .bool false]) ∧ Below w.heap.size w w' := by
  have h20i : (20 : Int) < (ss.length : Int) := by omega
  have hat := h
  rcases h with ⟨a0, c0, rfl, hnil⟩ | ⟨b, off, cap, rfl, hb, hcell⟩
  · simp [hnil] at h20
  · have HC : Hid (∀ i, i < ss.length → w.cell? ⟨b, off + i, none⟩ = some (.string (ss.getD i ByteArray.empty))) := hcell
    have HZ : Hid (∀ s ∈ ss, s.size ≤ maxLen) := hsz
    clear hcell
    go_enter Tryd.func32, Tryd.ntmps32
    go_wp2
    go_loop [7, 10] (fun y i => ∃ k : Nat, k ≤ ss.length ∧ (∀ s ∈ ss.take k, s.size ≤ 100) ∧ i = .int .i64 k) (fun _ i => ss.length - (intOf i).toNat)
    case atStart => exact ⟨0, Nat.zero_le _, fun s hs => by simp at hs, rfl⟩
    case round =>
      obtain ⟨n, hn, hall, rfl⟩ := hrel
      have HA : Hid (∀ s ∈ ss.take n, s.size ≤ 100) := hall
      clear hall
      by_cases hlt : n < ss.length
      · have hc := HC.out n hlt
        have hm := HZ.out _ (getD_mem ss n hlt)
        unfold maxLen at hm
        have HK : Hid (100 < (ss.getD n ByteArray.empty).size → okS ss = false) := fun h => okS_false (getD_mem ss n hlt) h
        have HN : Hid ((ss.getD n ByteArray.empty).size ≤ 100 → ∀ s ∈ ss.take (n + 1), s.size ≤ 100) := by
          intro h s hs
          rw [take_snocS ss n hlt] at hs
          rcases List.mem_append.1 hs with h1 | h1
          · exact HA.out s h1
          · simp only [List.mem_singleton] at h1; subst h1; exact h
        generalize ss.getD n ByteArray.empty = t at *
        by_cases hbig : 100 < t.size
        · have hd100 : (100 : Int) < (t.size : Int) := by omega
          exact absurd ((hok).symm.trans (HK.out hbig)) (by decide)
        have hd100 : ¬ (100 : Int) < (t.size : Int) := by omega
        go_wp2
        go_round
        case rel => exact ⟨n + 1, by omega, HN.out (by omega), by go_num⟩
        case measure => simp [intOf]; omega
      · have hne : n = ss.length := by omega
        subst hne
        have HF : Hid (okS ss = true) := okS_true.2 (by have := HA.out; rwa [List.take_length] at this)
        go_wp2
        go_returns
        exact ⟨rfl, by go_grown⟩
set_option maxHeartbeats 1600000 in
theorem specListE (k : Int) (v : Value) (ss : List ByteArray) (w : World) (h : StrsAt w v ss) (hl : ss.length ≤ 1048576) (hsz : ∀ s ∈ ss, s.size ≤ maxLen) (hok : okS ss = true) (hk : 97 ≤ k) (hk2 : k ≤ 122) (h20 : ss.length ≤ 20) (h600 : 600 < ss.length + sumS ss) :
    Calls Tryd.prog 32 #[.int .u8 k, v] w fun e w' => e = .returned (.tuple #[.string ByteArray.empty, .bool false]) ∧ Below w.heap.size w w' := by
  have h20i : ¬ (20 : Int) < (ss.length : Int) := by omega
  have hat := h
  rcases h with ⟨a0, c0, rfl, hnil⟩ | ⟨b, off, cap, rfl, hb, hcell⟩
  · simp [sumS, hnil] at h600
  · have HC : Hid (∀ i, i < ss.length → w.cell? ⟨b, off + i, none⟩ = some (.string (ss.getD i ByteArray.empty))) := hcell
    have HZ : Hid (∀ s ∈ ss, s.size ≤ maxLen) := hsz
    clear hcell
    go_enter Tryd.func32, Tryd.ntmps32
    go_wp2
    go_loop [7, 10] (fun y i => ∃ k : Nat, k ≤ ss.length ∧ (∀ s ∈ ss.take k, s.size ≤ 100) ∧ i = .int .i64 k) (fun _ i => ss.length - (intOf i).toNat)
    case atStart => exact ⟨0, Nat.zero_le _, fun s hs => by simp at hs, rfl⟩
    case round =>
      obtain ⟨n, hn, hall, rfl⟩ := hrel
      have HA : Hid (∀ s ∈ ss.take n, s.size ≤ 100) := hall
      clear hall
      by_cases hlt : n < ss.length
      · have hc := HC.out n hlt
        have hm := HZ.out _ (getD_mem ss n hlt)
        unfold maxLen at hm
        have HK : Hid (100 < (ss.getD n ByteArray.empty).size → okS ss = false) := fun h => okS_false (getD_mem ss n hlt) h
        have HN : Hid ((ss.getD n ByteArray.empty).size ≤ 100 → ∀ s ∈ ss.take (n + 1), s.size ≤ 100) := by
          intro h s hs
          rw [take_snocS ss n hlt] at hs
          rcases List.mem_append.1 hs with h1 | h1
          · exact HA.out s h1
          · simp only [List.mem_singleton] at h1; subst h1; exact h
        generalize ss.getD n ByteArray.empty = t at *
        by_cases hbig : 100 < t.size
        · have hd100 : (100 : Int) < (t.size : Int) := by omega
          exact absurd ((hok).symm.trans (HK.out hbig)) (by decide)
        have hd100 : ¬ (100 : Int) < (t.size : Int) := by omega
        go_wp2
        go_round
        case rel => exact ⟨n + 1, by omega, HN.out (by omega), by go_num⟩
        case measure => simp [intOf]; omega
      · have hne : n = ss.length := by omega
        subst hne
        have HF : Hid (okS ss = true) := okS_true.2 (by have := HA.out; rwa [List.take_length] at this)
        go_wp2_with fail
        refine (specKind k _ hk hk2).mono ?_
        rintro e w0 ⟨rfl, rfl⟩
        go_wp2_with fail
        refine (specRow _ ss _ hat h20 (okS_true.1 hok)).mono ?_
        rintro e w1 ⟨rfl, hb1⟩
        have hl1 := hb1.size
        have hRs := rowB_size ss
        have hRi : (600 : Int) < ((rowB ss).size : Int) := by omega
        generalize rowB ss = R at *
        go_wp2
        go_returns
        exact ⟨rfl, by go_grown⟩
set_option maxHeartbeats 1600000 in
theorem specListYes (k : Int) (v : Value) (ss : List ByteArray) (w : World) (h : StrsAt w v ss) (hl : ss.length ≤ 1048576) (hsz : ∀ s ∈ ss, s.size ≤ maxLen) (hok : okS ss = true) (hk : 97 ≤ k) (hk2 : k ≤ 122) (h20 : ss.length ≤ 20) (h600 : ss.length + sumS ss ≤ 600) :
    Calls Tryd.prog 32 #[.int .u8 k, v] w fun e w' => e = .returned (.tuple #[.string (digestB k (rowB ss)), .bool true]) ∧ Below w.heap.size w w' := by
  have h20i : ¬ (20 : Int) < (ss.length : Int) := by omega
  have hat := h
  rcases h with ⟨a0, c0, rfl, hnil⟩ | ⟨b, off, cap, rfl, hb, hcell⟩
  · have HNL : Hid (ss = []) := hnil
    clear hnil
    go_enter Tryd.func32, Tryd.ntmps32
    go_wp2
    go_loop [7, 10] (fun y i => i = .int .i64 0) (fun _ _ => 0)
    case atStart => rfl
    case round =>
      subst hrel
      go_wp2_with fail
      refine (specKind k _ hk hk2).mono ?_
      rintro e w0 ⟨rfl, rfl⟩
      go_wp2_with fail
      refine (specRow _ ss _ hat h20 (okS_true.1 hok)).mono ?_
      rintro e w1 ⟨rfl, hb1⟩
      have hl1 := hb1.size
      have hRs := rowB_size ss
      have hRi : ¬ (600 : Int) < ((rowB ss).size : Int) := by omega
      have hRz : (rowB ss).size ≤ 600 := by omega
      clear hRs
      generalize hR : rowB ss = R at *
      have HR : Hid (rowB ss = R) := hR
      clear hR
      go_wp2_with fail
      refine (specRow _ ss _ (hat.below hb1) h20 (okS_true.1 hok)).mono ?_
      rintro e w2 ⟨rfl, hb2⟩
      rw [HR.out]
      have k2 : Below w.heap.size w w2 := hb1.trans (hb2.mono hl1)
      have hl2 := k2.size
      clear hb2
      go_wp2_with fail
      refine (specL1Digest k R _ hk hk2 hRz).mono ?_
      rintro e w3 ⟨rfl, hb3⟩
      have k3 : Below w.heap.size w w3 := k2.trans (hb3.mono hl2)
      clear hb3
      go_wp2
      go_returns
      exact ⟨by rw [HR.out]; rfl, k3⟩
  · have HC : Hid (∀ i, i < ss.length → w.cell? ⟨b, off + i, none⟩ = some (.string (ss.getD i ByteArray.empty))) := hcell
    have HZ : Hid (∀ s ∈ ss, s.size ≤ maxLen) := hsz
    clear hcell
    go_enter Tryd.func32, Tryd.ntmps32
    go_wp2
    go_loop [7, 10] (fun y i => ∃ k : Nat, k ≤ ss.length ∧ (∀ s ∈ ss.take k, s.size ≤ 100) ∧ i = .int .i64 k) (fun _ i => ss.length - (intOf i).toNat)
    case atStart => exact ⟨0, Nat.zero_le _, fun s hs => by simp at hs, rfl⟩
    case round =>
      obtain ⟨n, hn, hall, rfl⟩ := hrel
      have HA : Hid (∀ s ∈ ss.take n, s.size ≤ 100) := hall
      clear hall
      by_cases hlt : n < ss.length
      · have hc := HC.out n hlt
        have hm := HZ.out _ (getD_mem ss n hlt)
        unfold maxLen at hm
        have HK : Hid (100 < (ss.getD n ByteArray.empty).size → okS ss = false) := fun h => okS_false (getD_mem ss n hlt) h
        have HN : Hid ((ss.getD n ByteArray.empty).size ≤ 100 → ∀ s ∈ ss.take (n + 1), s.size ≤ 100) := by
          intro h s hs
          rw [take_snocS ss n hlt] at hs
          rcases List.mem_append.1 hs with h1 | h1
          · exact HA.out s h1
          · simp only [List.mem_singleton] at h1; subst h1; exact h
        generalize ss.getD n ByteArray.empty = t at *
        by_cases hbig : 100 < t.size
        · have hd100 : (100 : Int) < (t.size : Int) := by omega
          exact absurd ((hok).symm.trans (HK.out hbig)) (by decide)
        have hd100 : ¬ (100 : Int) < (t.size : Int) := by omega
        go_wp2
        go_round
        case rel => exact ⟨n + 1, by omega, HN.out (by omega), by go_num⟩
        case measure => simp [intOf]; omega
      · have hne : n = ss.length := by omega
        subst hne
        have HF : Hid (okS ss = true) := okS_true.2 (by have := HA.out; rwa [List.take_length] at this)
        go_wp2_with fail
        refine (specKind k _ hk hk2).mono ?_
        rintro e w0 ⟨rfl, rfl⟩
        go_wp2_with fail
        refine (specRow _ ss _ hat h20 (okS_true.1 hok)).mono ?_
        rintro e w1 ⟨rfl, hb1⟩
        have hl1 := hb1.size
        have hRs := rowB_size ss
        have hRi : ¬ (600 : Int) < ((rowB ss).size : Int) := by omega
        have hRz : (rowB ss).size ≤ 600 := by omega
        clear hRs
        generalize hR : rowB ss = R at *
        have HR : Hid (rowB ss = R) := hR
        clear hR
        go_wp2_with fail
        refine (specRow _ ss _ (hat.below hb1) h20 (okS_true.1 hok)).mono ?_
        rintro e w2 ⟨rfl, hb2⟩
        rw [HR.out]
        have k2 : Below w.heap.size w w2 := hb1.trans (hb2.mono hl1)
        have hl2 := k2.size
        clear hb2
        go_wp2_with fail
        refine (specL1Digest k R _ hk hk2 hRz).mono ?_
        rintro e w3 ⟨rfl, hb3⟩
        have k3 : Below w.heap.size w w3 := k2.trans (hb3.mono hl2)
        clear hb3
        go_wp2
        go_returns
        exact ⟨by rw [HR.out]; rfl, k3⟩

def ListYes (k : Int) (ss : List ByteArray) : Prop := okS ss = true ∧ 97 ≤ k ∧ k ≤ 122 ∧ ss.length ≤ 20 ∧ ss.length + sumS ss ≤ 600
theorem specListNo (k : Int) (v : Value) (ss : List ByteArray) (w : World) (h : StrsAt w v ss) (hl : ss.length ≤ 1048576) (hsz : ∀ s ∈ ss, s.size ≤ maxLen) (hno : ¬ ListYes k ss) :
    Calls Tryd.prog 32 #[.int .u8 k, v] w fun e w' => e = .returned (.tuple #[.string ByteArray.empty, .bool false]) ∧ Below w.heap.size w w' := by
  cases hok : okS ss
  · exact specListA k v ss w h hl hsz hok
  · by_cases h1 : k < 97
    · exact specListB k v ss w h hl hsz hok h1
    · by_cases h2 : 122 < k
      · exact specListC k v ss w h hl hsz hok (by omega) h2
      · by_cases h3 : 20 < ss.length
        · exact specListD k v ss w h hl hsz hok (by omega) (by omega) h3
        · by_cases h4 : 600 < ss.length + sumS ss
          · exact specListE k v ss w h hl hsz hok (by omega) (by omega) (by omega) h4
          · exact absurd ⟨hok, by omega, by omega, by omega, by omega⟩ hno

set_option maxHeartbeats 800000 in
theorem implListYes (k : Int) (v : Value) (ss : List ByteArray) (w : World) (h : StrsAt w v ss) (hsz : ∀ s ∈ ss, s.size ≤ maxLen) (hyes : ListYes k ss) (ht : Table w) :
    Calls Tryd.prog 31 #[.int .u8 k, v] w fun e w' => e = .returned (.tuple #[.string (digestB k (rowB ss)), .bool true]) ∧ Below w.heap.size w w' := by
  obtain ⟨hok, hk, hk2, h20, h600⟩ := hyes
  have hRs := rowB_size ss
  have hj := joinMid v ss w h h20 hsz
  rw [joinV_true hok] at hj
  have HJ := hj
  clear hj
  generalize rowB ss = R at *
  go_enter Tryd.func31, Tryd.ntmps31
  go_wp2_with fail
  refine HJ.mono ?_
  rintro e w1 ⟨rfl, k1⟩
  clear HJ
  have hl1 := k1.size
  go_wp2_with fail
  refine (implDigestYes k R _ hk hk2 (by omega) (ht.below k1)).mono ?_
  rintro e w2 ⟨rfl, hb2⟩
  have k2 : Below w.heap.size w w2 := k1.trans (hb2.mono hl1)
  clear hb2
  go_wp2
  go_returns
  exact ⟨rfl, k2⟩

set_option maxHeartbeats 800000 in
theorem implListNo (k : Int) (v : Value) (ss : List ByteArray) (w : World) (h : StrsAt w v ss) (hl : ss.length ≤ 1048576) (hsz : ∀ s ∈ ss, s.size ≤ maxLen) (hno : ¬ ListYes k ss) :
    Calls Tryd.prog 31 #[.int .u8 k, v] w fun e w' => e = .returned (.tuple #[.string ByteArray.empty, .bool false]) ∧ Below w.heap.size w w' := by
  by_cases h20 : 20 < ss.length
  · have HJ := joinLong v ss w h hl h20
    go_enter Tryd.func31, Tryd.ntmps31
    go_wp2_with fail
    refine HJ.mono ?_
    rintro e w1 ⟨rfl, k1⟩
    clear HJ
    go_wp2
    go_returns
    exact ⟨rfl, k1⟩
  · have HJ := joinMid v ss w h (by omega) hsz
    cases hok : okS ss
    · rw [joinV_false hok] at HJ
      go_enter Tryd.func31, Tryd.ntmps31
      go_wp2_with fail
      refine HJ.mono ?_
      rintro e w1 ⟨rfl, k1⟩
      clear HJ
      go_wp2
      go_returns
      exact ⟨rfl, k1⟩
    · rw [joinV_true hok] at HJ
      have hRs := rowB_size ss
      have hm : sumS ss ≤ 2000 := by have := sumS_le ss (okS_true.1 hok); omega
      have hd : DigestNo k (rowB ss).size := by
        rcases Decidable.em (97 ≤ k ∧ k ≤ 122) with e | e
        · rcases Nat.lt_or_ge 600 (ss.length + sumS ss) with e2 | e2
          · exact .inr ⟨e.1, e.2, by omega⟩
          · exact absurd ⟨hok, e.1, e.2, by omega, e2⟩ hno
        · exact .inl e
      have hR : (rowB ss).size ≤ maxLen := by unfold maxLen; omega
      clear hRs hno
      generalize rowB ss = R at *
      go_enter Tryd.func31, Tryd.ntmps31
      go_wp2_with fail
      refine HJ.mono ?_
      rintro e w1 ⟨rfl, k1⟩
      clear HJ
      have hl1 := k1.size
      go_wp2_with fail
      refine (implDigestNo k R _ hR hd).mono ?_
      rintro e w2 ⟨rfl, hb2⟩
      have k2 : Below w.heap.size w w2 := k1.trans (hb2.mono hl1)
      clear hb2
      go_wp2
      go_returns
      exact ⟨rfl, k2⟩
end Go.Proofs.YtmnebdgoombfoaaDoor
