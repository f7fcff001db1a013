/- The laws' own helpers on lists of texts from any mark on and with any rest: marks, held marks, and how much there is. Condition: the list lies in memory. -/
import Derived.Test.YtemkkofjakpjiaaDoorOwn2
import Derived.Deep.DeepCutAuto
import Derived.Deep.DrawnRows
namespace Go.Proofs.YtemkkofjakpjiaaDoor
open Go.ChangeShapes Go.WideShapes Go.ChangeAt Go.RowKit Go.Deep
set_option linter.unusedVariables false
attribute [local go_sem ↓] Go.wp_at_zero Go.wp_at_succ

theorem markStrK (base g n cap q : Nat) (f : Nat → Value) (w : World) (h : OwnRow base w g n f) (hq : 1 ≤ q) (hn : q + n ≤ 99) (hf : ∀ i, i < n → ∃ x, f i = .string x) :
    Calls Tryd.prog 54 #[.slice (some ⟨g, 0, none⟩) n cap, .int .i64 q] w fun e w' => e = .returned (.int .i64 ((q + n : Nat) : Int)) ∧ OwnRow base w' g n (fun i => .string (mkT (q + i))) ∧ w.grownBy w' (some g) := by
  have HO : Hid (OwnRow base w g n f) := h
  have HF : Hid (∀ i, i < n → ∃ x, f i = .string x) := hf
  clear h hf
  go_enter Tryd.func54, Tryd.ntmps54
  go_wp2
  go_loopw [1, 5] (fun r i wr => ∃ k : Nat, k ≤ n ∧ i = .int .i64 k ∧ r = .int .i64 ((q + k : Nat) : Int) ∧ (∃ f', OwnRow base wr g n f' ∧ (∀ i, i < n → ∃ x, f' i = .string x) ∧ ∀ i, i < k → f' i = .string (mkT (q + i))) ∧ w.grownBy wr (some g)) (fun _ i _ => n - (intOf i).toNat)
  case atStart => exact ⟨0, Nat.zero_le _, rfl, rfl, ⟨f, HO.out, HF.out, fun i hi => by omega⟩, World.grownBy.refl _ _⟩
  case round =>
    obtain ⟨k, hk, rfl, rfl, ⟨f', ho, hx, hm⟩, hg⟩ := hrel
    by_cases hlt : k < n
    · have HO2 : Hid (OwnRow base wr g n f') := ho
      have HM : Hid (∀ i, i < k → f' i = .string (mkT (q + i))) := hm
      have HX : Hid (∀ i, i < n → ∃ x, f' i = .string x) := hx
      have HG : Hid (w.grownBy wr (some g)) := hg
      clear ho hm hg hx
      go_wp2_with fail
      refine (markT (q + k) _ (by omega) (by omega)).mono ?_
      rintro e w1 ⟨rfl, hb1⟩
      have HO3 : Hid (OwnRow base w1 g n f') := HO2.out.below hb1
      have HG3 : Hid (w.grownBy w1 (some g)) := HG.out.trans ⟨hb1.os, hb1.tape, hb1.output, hb1.size, fun k hk _ => hb1.block k hk⟩
      clear hb1
      have hc := HO3.out.2.2.1 k hlt
      have hfz := HO3.out.2.2.2 k hlt
      obtain ⟨x0, hx0⟩ := HX.out k hlt
      rw [hx0] at hc
      clear hx0
      go_wp2
      refine ⟨⟨k + 1, by omega, by go_num, by go_num, ⟨_, HO3.out.set hlt _, fun i hi => ?_, fun i hi => ?_⟩, gb_setG HG3.out _ _⟩, by simp [intOf]; omega⟩
      · by_cases e : i = k
        · exact ⟨_, by simp only [e, if_true]; rfl⟩
        · obtain ⟨x, hx⟩ := HX.out i hi
          exact ⟨x, by simp only [if_neg e]; exact hx⟩
      · by_cases e : i = k
        · simp only [e, if_true]
        · simp only [if_neg e]; exact HM.out i (by omega)
    · have hke : k = n := by omega
      subst hke
      go_wp2
      go_ret
      exact ⟨rfl, ho.congr hm, hg⟩

theorem heldStrK (base g n cap q : Nat) (w : World) (h : OwnRow base w g n (fun i => .string (mkT (q + i)))) (hq : 1 ≤ q) (hn : q + n ≤ 99) :
    Calls Tryd.prog 55 #[.slice (some ⟨g, 0, none⟩) n cap, .int .i64 q] w fun e w' => e = .returned (.int .i64 ((q + n : Nat) : Int)) ∧ Below w.heap.size w w' := by
  have HO : Hid (OwnRow base w g n (fun i => .string (mkT (q + i)))) := h
  have hgw : g < w.heap.size := h.2.1
  clear h
  go_enter Tryd.func55, Tryd.ntmps55
  go_wp2
  go_loopw [1, 5] (fun r i wr => ∃ k : Nat, k ≤ n ∧ i = .int .i64 k ∧ r = .int .i64 ((q + k : Nat) : Int) ∧ Below w.heap.size w wr) (fun _ i _ => n - (intOf i).toNat)
  case atStart => exact ⟨0, Nat.zero_le _, rfl, rfl, by go_grown⟩
  case round =>
    obtain ⟨k, hk, rfl, rfl, kb⟩ := hrel
    by_cases hlt : k < n
    · have hc : wr.cell? ⟨g, k, none⟩ = some (.string (mkT (q + k))) := (HO.out.below kb).2.2.1 k hlt
      have hsz := kb.size
      have hgr : g < wr.heap.size := by omega
      have HT := fun W => markT (q + k) W (by omega) (by omega)
      generalize mkT (q + k) = t at *
      go_upto_region 4 with fail
      go_region_held3 (fun w' => w'.cell? ⟨g, k, none⟩ = some (.string t)) (go_keep)
        (first
          | (go_at_call 103; refine (HT _).mono ?_; rintro e w1 ⟨rfl, hb1⟩; have hp1 := kept hb1 g (by go_size); have k1 : Below w.heap.size w w1 := (by exact Below.trans (by go_grown) (hb1.mono (by go_size))); clear hb1))
      all_goals go_wp2_with fail
      all_goals exact ⟨⟨k + 1, by omega, by go_num, by go_num, by go_grown⟩, by simp [intOf]; omega⟩
    · have hke : k = n := by omega
      subst hke
      go_wp2
      go_ret
      exact ⟨rfl, kb⟩
theorem markStrKNil (a : Option Addr) (c q : Nat) (w : World) : Calls Tryd.prog 54 #[.slice a 0 c, .int .i64 q] w fun e w' => e = .returned (.int .i64 q) ∧ w' = w := by
  go_enter Tryd.func54, Tryd.ntmps54
  go_wp2
  go_loop [1, 5] (fun r i => i = .int .i64 0 ∧ r = .int .i64 q) (fun _ _ => 0)
  case atStart => exact ⟨rfl, rfl⟩
  case round =>
    obtain ⟨rfl, rfl⟩ := hrel
    go_wp2
    go_ret
    exact ⟨rfl, rfl⟩
theorem heldStrKNil (a : Option Addr) (c q : Nat) (w : World) : Calls Tryd.prog 55 #[.slice a 0 c, .int .i64 q] w fun e w' => e = .returned (.int .i64 q) ∧ w' = w := by
  go_enter Tryd.func55, Tryd.ntmps55
  go_wp2
  go_loop [1, 5] (fun r i => i = .int .i64 0 ∧ r = .int .i64 q) (fun _ _ => 0)
  case atStart => exact ⟨rfl, rfl⟩
  case round =>
    obtain ⟨rfl, rfl⟩ := hrel
    go_wp2
    go_ret
    exact ⟨rfl, rfl⟩

/-- What is left of z behind the list, or -1. -/
def szRK (z : Nat) (ss : List ByteArray) : Int := if ss.length + sumS ss ≤ z then (z : Int) - ((ss.length + sumS ss : Nat) : Int) else -1
theorem szRK_neg {z : Nat} {ss : List ByteArray} (h : z < ss.length + sumS ss) : szRK z ss = -1 := by unfold szRK; rw [if_neg (by omega)]
theorem szRK_pos {z : Nat} {ss : List ByteArray} (h : ss.length + sumS ss ≤ z) : szRK z ss = ((z - (ss.length + sumS ss) : Nat) : Int) := by unfold szRK; rw [if_pos h]; omega
set_option maxHeartbeats 1600000 in
theorem szStrK (v : Value) (ss : List ByteArray) (z : Nat) (w : World) (h : StrsAt w v ss) (hz : z ≤ 1048576) (hlen : ss.length ≤ maxLen) (hsz : ∀ s ∈ ss, s.size ≤ maxLen) :
    Calls Tryd.prog 51 #[v, .int .i64 z] w fun e w' => e = .returned (.int .i64 (szRK z ss)) ∧ w' = w := by
  unfold maxLen at hlen
  rcases h with ⟨a0, c0, rfl, rfl⟩ | ⟨b, off, cap, rfl, hb, hcell⟩
  · go_enter Tryd.func51, Tryd.ntmps51
    go_wp2
    go_loop [1, 5] (fun x i => i = .int .i64 0 ∧ x = .int .i64 z) (fun _ _ => 0)
    case atStart => exact ⟨rfl, rfl⟩
    case round =>
      obtain ⟨rfl, rfl⟩ := hrel
      go_wp2
      go_ret
      exact ⟨ret_int (by simp [szRK, sumS]), rfl⟩
  · by_cases hbig : z < ss.length
    · have hl : (z : Int) - (ss.length : Int) < 0 := by omega
      go_enter Tryd.func51, Tryd.ntmps51
      go_wp2
      go_ret
      exact ⟨ret_int (by unfold szRK; rw [if_neg (by omega)]), rfl⟩
    · have hl : ¬ (z : Int) - (ss.length : Int) < 0 := by omega
      have hl2 : decide ((z : Int) - (ss.length : Int) < 0) = false := by simp; omega
      have HC : Hid (∀ i, i < ss.length → w.cell? ⟨b, off + i, none⟩ = some (.string (ss.getD i ByteArray.empty))) := hcell
      have HZ : Hid (∀ s ∈ ss, s.size ≤ maxLen) := hsz
      clear hcell hsz
      go_enter Tryd.func51, Tryd.ntmps51
      go_wp2
      go_loop [1, 5] (fun x i => ∃ k : Nat, k ≤ ss.length ∧ ss.length + sumS (ss.take k) ≤ z ∧ i = .int .i64 k ∧ x = .int .i64 ((z : Int) - (ss.length : Int) - (sumS (ss.take k) : Nat))) (fun _ i => ss.length - (intOf i).toNat)
      case atStart => exact ⟨0, Nat.zero_le _, by simp [sumS]; omega, rfl, by simp [sumS]⟩
      case round =>
        obtain ⟨k, hk, hle, rfl, rfl⟩ := hrel
        by_cases hlt : k < ss.length
        · have hc := HC.out k hlt
          have hm := HZ.out _ (getD_mem ss k hlt)
          unfold maxLen at hm
          have HS : Hid (sumS (ss.take (k + 1)) = sumS (ss.take k) + (ss.getD k ByteArray.empty).size) := by
            show _ = _
            rw [take_snocS ss k hlt]; exact sumS_snoc _ _
          have HT : Hid (sumS (ss.take (k + 1)) ≤ sumS ss) := sumS_take ss (k + 1)
          generalize ss.getD k ByteArray.empty = t at *
          generalize sumS (ss.take k) = S at *
          by_cases hout : (z : Int) - (ss.length : Int) - (S : Int) - (t.size : Int) < 0
          · go_wp2
            go_ret
            exact ⟨ret_int (by unfold szRK; have h1 := HS.out; have h2 := HT.out; rw [if_neg (by omega)]), rfl⟩
          · go_wp2
            go_round
            case rel => exact ⟨k + 1, by omega, by rw [HS.out]; omega, by go_num, by rw [HS.out]; go_num⟩
            case measure => simp [intOf]; omega
        · have hke : k = ss.length := by omega
          subst hke
          rw [List.take_length] at hle
          go_wp2
          go_ret
          exact ⟨ret_int (by unfold szRK; rw [if_pos (by omega)]; omega), rfl⟩
end Go.Proofs.YtemkkofjakpjiaaDoor
