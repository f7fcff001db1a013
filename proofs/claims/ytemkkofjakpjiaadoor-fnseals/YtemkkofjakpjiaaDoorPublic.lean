/- Contracts of PublicOf, PublicFrom and CheckOnce, program and model. Condition: the table of weights as it is laid. -/
import Derived.Test.YtemkkofjakpjiaaDoorSign
namespace Go.Proofs.YtemkkofjakpjiaaDoor
open Go.ChangeShapes Go.WideShapes Go.ChangeAt Go.RowKit Go.Deep
set_option linter.unusedVariables false

theorem catB_take_size (ss : List ByteArray) (k : Nat) (h : ∀ s ∈ ss, s.size = 4) (hk : k ≤ ss.length) : (catB (ss.take k)).size = 4 * k := by
  rw [catB_size _ (fun s hs => h s (List.mem_of_mem_take hs))]; simp; omega
theorem wholeB_four (s : ByteArray) : ∀ x ∈ wholeB s, x.size = 4 := by
  intro x hx
  simp only [wholeB, List.mem_map] at hx
  obtain ⟨k, _, rfl⟩ := hx
  exact chainB_size _ _ _ (keyB_size _ _)
theorem endsB_four (t : ByteArray) (ss : List ByteArray) (hss : ∀ i, i < 11 → (ss.getD i ByteArray.empty).size = 4) : ∀ x ∈ endsB t ss, x.size = 4 := by
  intro x hx
  simp only [endsB, List.mem_map] at hx
  obtain ⟨k, hk, rfl⟩ := hx
  exact chainB_size _ _ _ (hss k (by simpa using hk))
theorem wholeB_len (s : ByteArray) : (wholeB s).length = 11 := by simp [wholeB]
theorem endsB_len (t : ByteArray) (ss : List ByteArray) : (endsB t ss).length = 11 := by simp [endsB]
theorem catB_nil : catB [] = ⟨#[]⟩ := rfl

set_option maxHeartbeats 1600000 in
theorem specL2Public (s : ByteArray) (w : World) (h0 : 1 ≤ s.size) (h1 : s.size ≤ 16) :
    Calls Tryd.prog 75 #[.string s] w fun e w' => e = .returned (.string (pubB s)) ∧ Below w.heap.size w w' := by
  go_enter Tryd.func75, Tryd.ntmps75
  go_wp2_with fail
  go_loopw [3, 4] (fun x i wr => ∃ k : Nat, k ≤ 11 ∧ i = .int .i64 k ∧ x = .string (catB ((wholeB s).take k)) ∧ Below w.heap.size w wr) (fun _ i _ => 11 - (intOf i).toNat)
  case atStart => exact ⟨0, Nat.zero_le _, rfl, rfl, by go_grown⟩
  case round =>
    obtain ⟨k, hk, rfl, rfl, kb⟩ := hrel
    have kl := kb.size
    have hcs := catB_take_size (wholeB s) k (wholeB_four s) (by rw [wholeB_len]; exact hk)
    by_cases hlt : k < 11
    · have HS : Hid (catB ((wholeB s).take (k + 1)) = catB ((wholeB s).take k) ++ chainB (keyB s k) 0 15) := by
        show _ = _
        unfold wholeB; rw [take_range _ 11 k hlt]; exact catB_snoc _ _
      generalize catB ((wholeB s).take k) = R at *
      go_wp2_with fail
      refine (specKey s k _ (by omega) (by omega)).mono ?_
      rintro e w1 ⟨rfl, hb1⟩
      have kb1 : Below w.heap.size w w1 := kb.trans (hb1.mono kl)
      have kl1 := kb1.size
      have hks := keyB_size s k
      clear hb1
      generalize keyB s k = q at *
      go_wp2_with fail
      refine (specChainUp q 15 _ hks (by omega)).mono ?_
      rintro e w2 ⟨rfl, hb2⟩
      have kb2 : Below w.heap.size w w2 := kb1.trans (hb2.mono kl1)
      clear hb2
      have hcz := chainB_size q 0 15 hks
      generalize chainB q 0 15 = r at *
      go_wp2
      exact ⟨⟨k + 1, by omega, by go_num, by rw [HS.out], kb2⟩, by simp [intOf]; omega⟩
    · have hke : k = 11 := by omega
      subst hke
      rw [List.take_of_length_le (by rw [wholeB_len]; omega)] at hcs ⊢
      have HP : Hid (pubB s = digestB 112 (catB (wholeB s))) := rfl
      generalize catB (wholeB s) = R at *
      go_wp2_with fail
      refine (specL1Digest 112 R _ (by omega) (by omega) (by omega)).mono ?_
      rintro e w1 ⟨rfl, hb1⟩
      go_wp2
      go_returns
      exact ⟨by rw [HP.out]; rfl, kb.trans (hb1.mono kl)⟩
set_option maxHeartbeats 1600000 in
theorem specPubYes (s : ByteArray) (w : World) (h0 : 1 ≤ s.size) (h1 : s.size ≤ 16) :
    Calls Tryd.prog 18 #[.string s] w fun e w' => e = .returned (.tuple #[.string (pubB s), .bool true]) ∧ Below w.heap.size w w' := by
  go_enter Tryd.func18, Tryd.ntmps18
  go_wp2_with fail
  refine (specSeedYes s _ h0 h1).mono ?_
  rintro e w0 ⟨rfl, rfl⟩
  go_wp2_with fail
  refine (specL2Public s _ h0 h1).mono ?_
  rintro e w1 ⟨rfl, hb1⟩
  go_wp2
  go_returns
  exact ⟨rfl, hb1⟩
set_option maxHeartbeats 1600000 in
theorem specPubNo (s : ByteArray) (w : World) (hm : s.size ≤ maxLen) (h : ¬ (1 ≤ s.size ∧ s.size ≤ 16)) :
    Calls Tryd.prog 18 #[.string s] w fun e w' => e = .returned (.tuple #[.string ByteArray.empty, .bool false]) ∧ Below w.heap.size w w' := by
  go_enter Tryd.func18, Tryd.ntmps18
  go_wp2_with fail
  refine (specSeedNo s _ hm h).mono ?_
  rintro e w0 ⟨rfl, rfl⟩
  go_wp2
  go_returns
  exact ⟨rfl, by go_grown⟩

def zeroV : Array Value := #[.int .i64 0, .int .i64 0, .int .i64 0, .int .i64 0, .int .i64 0, .int .i64 0, .int .i64 0, .int .i64 0, .int .i64 0, .int .i64 0, .int .i64 0]
theorem zeroDigs : Digs zeroV [0, 0, 0, 0, 0, 0, 0, 0, 0, 0, 0] := by
  refine ⟨rfl, fun i hi => ?_⟩
  match i, hi with
  | 0, _ => exact ⟨rfl, by decide, by decide⟩
  | 1, _ => exact ⟨rfl, by decide, by decide⟩
  | 2, _ => exact ⟨rfl, by decide, by decide⟩
  | 3, _ => exact ⟨rfl, by decide, by decide⟩
  | 4, _ => exact ⟨rfl, by decide, by decide⟩
  | 5, _ => exact ⟨rfl, by decide, by decide⟩
  | 6, _ => exact ⟨rfl, by decide, by decide⟩
  | 7, _ => exact ⟨rfl, by decide, by decide⟩
  | 8, _ => exact ⟨rfl, by decide, by decide⟩
  | 9, _ => exact ⟨rfl, by decide, by decide⟩
  | 10, _ => exact ⟨rfl, by decide, by decide⟩
theorem moved_whole (s : ByteArray) : movedOn [0, 0, 0, 0, 0, 0, 0, 0, 0, 0, 0] (keysB s) = wholeB s := by
  unfold movedOn wholeB
  apply List.map_congr_left
  intro k hk
  have hk' : k < 11 := by simpa using hk
  rw [keysB_at s k hk']
  match k, hk' with
  | 0, _ => rfl
  | 1, _ => rfl
  | 2, _ => rfl
  | 3, _ => rfl
  | 4, _ => rfl
  | 5, _ => rfl
  | 6, _ => rfl
  | 7, _ => rfl
  | 8, _ => rfl
  | 9, _ => rfl
  | 10, _ => rfl
set_option maxHeartbeats 1600000 in
set_option maxRecDepth 100000 in
theorem implPubYes (s : ByteArray) (w : World) (h0 : 1 ≤ s.size) (h1 : s.size ≤ 16) (ht : Table w) :
    Calls Tryd.prog 17 #[.string s] w fun e w' => e = .returned (.tuple #[.string (pubB s), .bool true]) ∧ Below w.heap.size w w' := by
  have hmf : ∀ (fn : Fn) (first cap : Array Value) (w : World), (Instr.makeFunc fn first cap).run Tryd.prog w = .ok (.func fn first cap) w := fun _ _ _ _ => rfl
  have HT : Hid (Table w) := ht
  have hcz := catB_size (wholeB s) (wholeB_four s)
  rw [wholeB_len] at hcz
  have HP : Hid (pubB s = digestB 112 (catB (wholeB s))) := rfl
  have HMW : Hid (movedOn [0, 0, 0, 0, 0, 0, 0, 0, 0, 0, 0] (keysB s) = wholeB s) := moved_whole s
  clear ht
  go_enter Tryd.func17, Tryd.ntmps17
  go_wp2_with fail
  refine (implKeysYes s _ h0 h1 HT.out).mono ?_
  rintro e w1 ⟨g1, cap1, rfl, ho1, hb1⟩
  have hl1 := hb1.size
  have HM := implJoinOn zeroV _ (keysB s) g1 0 cap1 w1 zeroDigs (fun i hi => by rw [keysB_at s i hi]; exact keyB_size _ _) ho1.2.1 (fun i hi => by rw [Nat.zero_add]; exact ho1.2.2.1 i hi) (HT.out.below hb1)
  rw [HMW.out] at HM
  clear ho1
  generalize catB (wholeB s) = R at *
  go_wp2_with fail
  refine HM.mono ?_
  rintro e w2 ⟨rfl, hb2⟩
  have k2 := hb1.trans (hb2.mono hl1)
  clear hb2 HM
  go_wp2_with fail
  refine (implDigestYes 112 R _ (by omega) (by omega) (by omega) (HT.out.below k2)).mono ?_
  rintro e w3 ⟨rfl, hb3⟩
  have k3 := k2.trans (hb3.mono k2.size)
  clear hb3
  go_wp2
  go_returns
  exact ⟨by rw [HP.out]; rfl, k3⟩
set_option maxHeartbeats 1600000 in
theorem implPubNo (s : ByteArray) (w : World) (hm : s.size ≤ maxLen) (h : ¬ (1 ≤ s.size ∧ s.size ≤ 16)) :
    Calls Tryd.prog 17 #[.string s] w fun e w' => e = .returned (.tuple #[.string ByteArray.empty, .bool false]) ∧ Below w.heap.size w w' := by
  go_enter Tryd.func17, Tryd.ntmps17
  go_wp2_with fail
  refine (implKeysNo s _ hm h).mono ?_
  rintro e w1 ⟨rfl, hb1⟩
  have hl1 := hb1.size
  go_wp2
  go_returns
  exact ⟨rfl, by go_grown⟩
end Go.Proofs.YtemkkofjakpjiaaDoor
