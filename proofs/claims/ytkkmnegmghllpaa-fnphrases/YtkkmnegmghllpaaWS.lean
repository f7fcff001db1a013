/- What the laws' own helpers do with lists of texts: marks of any number, a copy, sizes, sameness; an answer's own list of texts. Condition: the list lies in memory. -/
import Derived.Test.YtkkmnegmghllpaaWB
import Derived.Test.YtkkmnegmghllpaaBoxes2
namespace Go.Proofs.Ytkkmnegmghllpaa
open Go.ChangeShapes Go.WideShapes Go.ChangeAt Go.RowKit Go.Deep
set_option linter.unusedVariables false
attribute [local go_sem ↓] Go.wp_at_zero Go.wp_at_succ

/-- The signs of a number ahead of a text. -/
def dgs : Nat → Nat → ByteArray → ByteArray
  | 0, _, S => S
  | n + 1, j, S => if j = 0 then S else dgs n (j / 10) (strOfNums [48 + (j : Int) % 10] ++ S)
/-- What the laws mark a text with. -/
def mkG (k : Nat) : ByteArray := ⟨#[109]⟩ ++ dgs 14 k ⟨#[]⟩
theorem dgs_step {n j : Nat} {S : ByteArray} (hj : j ≠ 0) (hn : j < 10 ^ (n + 1)) : dgs (n + 1) j S = dgs n (j / 10) (strOfNums [48 + (j : Int) % 10] ++ S) := by
  simp [dgs, hj]
theorem dgs_zero (n : Nat) (S : ByteArray) : dgs n 0 S = S := by cases n <;> simp [dgs]
set_option maxRecDepth 100000 in
set_option maxHeartbeats 1600000 in
theorem markTG (k : Nat) (w : World) (h0 : 1 ≤ k) (h1 : k < 10000000000000) :
    Calls Try.prog 76 #[.int .i64 k] w fun e w' => e = .returned (.string (mkG k)) ∧ Below w.heap.size w w' := by
  have hcv := mconv1
  have hs1 := size1
  have hse : (⟨#[]⟩ : ByteArray).size = 0 := rfl
  have hsm : (⟨#[109]⟩ : ByteArray).size = 1 := rfl
  have i0 : ¬ ((k : Int) ≤ 0) := by omega
  obtain ⟨D, hD⟩ : ∃ D, D = dgs 14 k ⟨#[]⟩ := ⟨_, rfl⟩
  obtain ⟨M, hM⟩ : ∃ M, M = mkG k := ⟨_, rfl⟩
  have HM : Hid (⟨#[109]⟩ ++ D = M) := by show _ = _; rw [hM, hD]; rfl
  have HD : Hid (D = dgs 14 k ⟨#[]⟩) := hD
  rw [← hM]
  clear hD hM
  have HK : Hid (k < 10 ^ 14 ∧ k < 10000000000000) := ⟨Nat.lt_trans h1 (by decide), h1⟩
  clear h1
  go_enter Try.func76, Try.ntmps76
  go_wp2_with fail
  go_loopw [0, 3] (fun t s wr => ∃ (j m : Nat) (S : ByteArray), t = .int .i64 j ∧ s = .string S ∧ Hid (j < 10 ^ m) ∧ Hid (dgs m j S = D) ∧ Hid (j < 10000000000000) ∧ S.size + m = 14 ∧ Below w.heap.size w wr) (fun t _ _ => (intOf t).toNat)
  case atStart => exact ⟨k, 14, ⟨#[]⟩, rfl, rfl, HK.out.1, HD.out.symm, HK.out.2, by simp [hse], Below.refl _ _⟩
  case round =>
    obtain ⟨j, m, S, rfl, rfl, hjm, hd, hj3, hS, kb⟩ := hrel
    by_cases hj : j = 0
    · have HF : Hid (⟨#[109]⟩ ++ S = M) := by
        show _ = _
        have h9 := hd.out
        rw [hj, dgs_zero] at h9
        rw [h9]; exact HM.out
      have hj0 : ¬ (0 : Int) < (j : Int) := by omega
      clear hj
      go_wp2
      go_ret
      exact ⟨by rw [HF.out]; rfl, kb⟩
    · have hj0 : (0 : Int) < (j : Int) := by omega
      obtain ⟨q, rfl⟩ : ∃ q, m = q + 1 := by
        cases m with
        | zero => have := hjm.out; simp at this; omega
        | succ q => exact ⟨q, rfl⟩
      have H1 : Hid (j / 10 < 10 ^ q) := by
        show _ < _
        have h9 := hjm.out
        rw [Nat.pow_succ] at h9
        omega
      have H2 : Hid (dgs q (j / 10) (strOfNums [48 + (j : Int) % 10] ++ S) = D) := by
        show _ = _
        rw [← hd.out]; exact (dgs_step hj hjm.out).symm
      have H3 : Hid (j / 10 < 10000000000000) := by have := hj3.out; show _ < _; omega
      have hj4 : j < 10000000000000 := hj3.out
      have hS2 : S.size ≤ 13 := by omega
      have HS3 : Hid (S.size + (q + 1) = 14) := hS
      clear hd hjm hj3 hS
      go_wp2_with fail
      refine ⟨⟨j / 10, q, _, by rw [show ((j / 10 : Nat) : Int) = (j : Int) / 10 by omega], rfl, H1, H2, H3, ?_, kb.alloc kb.size _⟩, by simp [intOf]; omega⟩
      rw [ByteArray.size_append, size1]; have := HS3.out; omega
def strsF (ss : List ByteArray) (i : Nat) : Value := .string (ss.getD i ByteArray.empty)
theorem StrsAt.slice {w : World} {v : Value} {zs : List ByteArray} (h : StrsAt w v zs) : ∃ a c, v = .slice a zs.length c := by
  rcases h with ⟨a, c, rfl, rfl⟩ | ⟨b, off, cap, rfl, _, _⟩ <;> exact ⟨_, _, rfl⟩
theorem OwnA.strs {base : Nat} {w : World} {v : Value} {ss : List ByteArray} (h : OwnA base w v ss.length (strsF ss)) : StrsAt w v ss := by
  rcases h with ⟨h0, a, c, rfl⟩ | ⟨h0, g, cap, rfl, ho⟩
  · exact .inl ⟨a, c, rfl, List.eq_nil_of_length_eq_zero h0⟩
  · exact .inr ⟨g, 0, cap, rfl, ho.2.1, fun i hi => by simpa [strsF] using ho.2.2.1 i hi⟩
def strsV (ss : List ByteArray) : List Value := ss.map Value.string
theorem OwnA.ofStrs {base : Nat} {w : World} {v : Value} {ss : List ByteArray} {e : TypeId} (h : OwnS w base e v ss.length (strsV ss)) : OwnA base w v ss.length (strsF ss) ∧ ∀ g ∈ ablk v, g ∈ obl v := by
  rcases row_of_ownS h with ⟨h0, a, c, rfl⟩ | ⟨h0, g, cap, rfl, hg, ho⟩
  · exact ⟨.inl ⟨h0, a, c, rfl⟩, fun g hg => by rw [ablk_zero] at hg; cases hg⟩
  · exact ⟨.inr ⟨h0, g, cap, rfl, ho.congr fun i hi => by simp [strsV, strsF, List.getD, hi]⟩, fun x hx => by rw [ablk_row h0] at hx; simp at hx; subst hx; exact hg⟩
theorem markStrG (base g n cap q : Nat) (f : Nat → Value) (w : World) (h : OwnRow base w g n f) (hq : 1 ≤ q) (hn : q + n < 10000000000000) (hf : ∀ i, i < n → ∃ x, f i = .string x) :
    Calls Try.prog 40 #[.slice (some ⟨g, 0, none⟩) n cap, .int .i64 q] w fun e w' => e = .returned (.int .i64 ((q + n : Nat) : Int)) ∧ OwnRow base w' g n (fun i => .string (mkG (q + i))) ∧ w.grownBy w' (some g) := by
  have HO : Hid (OwnRow base w g n f) := h
  have HF : Hid (∀ i, i < n → ∃ x, f i = .string x) := hf
  clear h hf
  go_enter Try.func40, Try.ntmps40
  go_wp2
  go_loopw [1, 5] (fun r i wr => ∃ k : Nat, k ≤ n ∧ i = .int .i64 k ∧ r = .int .i64 ((q + k : Nat) : Int) ∧ (∃ f', OwnRow base wr g n f' ∧ (∀ i, i < n → ∃ x, f' i = .string x) ∧ ∀ i, i < k → f' i = .string (mkG (q + i))) ∧ w.grownBy wr (some g)) (fun _ i _ => n - (intOf i).toNat)
  case atStart => exact ⟨0, Nat.zero_le _, rfl, rfl, ⟨f, HO.out, HF.out, fun i hi => by omega⟩, World.grownBy.refl _ _⟩
  case round =>
    obtain ⟨k, hk, rfl, rfl, ⟨f', ho, hx, hm⟩, hg⟩ := hrel
    by_cases hlt : k < n
    · have HO2 : Hid (OwnRow base wr g n f') := ho
      have HM : Hid (∀ i, i < k → f' i = .string (mkG (q + i))) := hm
      have HX : Hid (∀ i, i < n → ∃ x, f' i = .string x) := hx
      have HG : Hid (w.grownBy wr (some g)) := hg
      clear ho hm hg hx
      go_wp2_with fail
      refine (markTG (q + k) _ (by omega) (by omega)).mono ?_
      rintro e w1 ⟨rfl, hb1⟩
      have HO3 : Hid (OwnRow base w1 g n f') := HO2.out.below hb1
      have HG3 : Hid (w.grownBy w1 (some g)) := HG.out.trans ⟨hb1.os, hb1.tape, hb1.output, hb1.size, fun k hk _ => hb1.block k hk⟩
      clear hb1
      have hc := HO3.out.2.2.1 k hlt
      have hfz := HO3.out.2.2.2 k hlt
      obtain ⟨x0, hx0⟩ := HX.out k hlt
      rw [hx0] at hc
      clear hx0
      go_wp2
      refine ⟨⟨k + 1, by omega, by go_num, by go_num, ⟨_, HO3.out.set hlt _, fun i hi => ?_, fun i hi => ?_⟩, gb_setG HG3.out _ _⟩, by simp [intOf]; omega⟩
      · by_cases e : i = k
        · exact ⟨_, by simp only [e, if_true]; rfl⟩
        · obtain ⟨x, hx⟩ := HX.out i hi
          exact ⟨x, by simp only [if_neg e]; exact hx⟩
      · by_cases e : i = k
        · simp only [e, if_true]
        · simp only [if_neg e]; exact HM.out i (by omega)
    · have hke : k = n := by omega
      subst hke
      go_wp2
      go_ret
      exact ⟨rfl, ho.congr hm, hg⟩
theorem heldStrG (base g n cap q : Nat) (w : World) (h : OwnRow base w g n (fun i => .string (mkG (q + i)))) (hq : 1 ≤ q) (hn : q + n < 10000000000000) :
    Calls Try.prog 41 #[.slice (some ⟨g, 0, none⟩) n cap, .int .i64 q] w fun e w' => e = .returned (.int .i64 ((q + n : Nat) : Int)) ∧ Below w.heap.size w w' := by
  have HO : Hid (OwnRow base w g n (fun i => .string (mkG (q + i)))) := h
  have hgw : g < w.heap.size := h.2.1
  clear h
  go_enter Try.func41, Try.ntmps41
  go_wp2
  go_loopw [1, 5] (fun r i wr => ∃ k : Nat, k ≤ n ∧ i = .int .i64 k ∧ r = .int .i64 ((q + k : Nat) : Int) ∧ Below w.heap.size w wr) (fun _ i _ => n - (intOf i).toNat)
  case atStart => exact ⟨0, Nat.zero_le _, rfl, rfl, by go_grown⟩
  case round =>
    obtain ⟨k, hk, rfl, rfl, kb⟩ := hrel
    by_cases hlt : k < n
    · have hc : wr.cell? ⟨g, k, none⟩ = some (.string (mkG (q + k))) := (HO.out.below kb).2.2.1 k hlt
      have hsz := kb.size
      have hgr : g < wr.heap.size := by omega
      have HT := fun W => markTG (q + k) W (by omega) (by omega)
      generalize mkG (q + k) = t at *
      go_upto_region 4 with fail
      go_region_held3 (fun w' => w'.cell? ⟨g, k, none⟩ = some (.string t)) (go_keep)
        (first
          | (go_at_call 76; refine (HT _).mono ?_; rintro e w1 ⟨rfl, hb1⟩; have hp1 := kept hb1 g (by go_size); have k1 : Below w.heap.size w w1 := (by exact Below.trans (by go_grown) (hb1.mono (by go_size))); clear hb1))
      all_goals go_wp2_with fail
      all_goals exact ⟨⟨k + 1, by omega, by go_num, by go_num, by go_grown⟩, by simp [intOf]; omega⟩
    · have hke : k = n := by omega
      subst hke
      go_wp2
      go_ret
      exact ⟨rfl, kb⟩
theorem markStrE (base q n : Nat) (v : Value) (f : Nat → Value) (w : World) (h : OwnA base w v n f) (hq : 1 ≤ q) (hn : q + n < 10000000000000) (hf : ∀ i, i < n → ∃ x, f i = .string x) :
    Calls Try.prog 40 #[v, .int .i64 q] w fun e w' => e = .returned (.int .i64 ((q + n : Nat) : Int)) ∧ OwnA base w' v n (fun i => .string (mkG (q + i))) ∧ Off (ablk v) w w' := by
  rcases h with ⟨h0, a, c, rfl⟩ | ⟨h0, g, cap, rfl, ho⟩
  · subst h0
    have hk : ((q + 0 : Nat) : Int) = (q : Int) := rfl
    rw [hk]
    clear hn hk
    go_enter Try.func40, Try.ntmps40
    go_wp2
    go_loopw [1, 5] (fun r i wr => i = .int .i64 0 ∧ r = .int .i64 q ∧ wr = w) (fun _ _ _ => 0)
    case atStart => exact ⟨rfl, rfl, rfl⟩
    case round =>
      obtain ⟨rfl, rfl, hw⟩ := hrel
      subst wr
      go_wp2
      go_ret
      exact ⟨rfl, .inl ⟨rfl, a, c, rfl⟩, Off.refl _ _⟩
  · refine (markStrG base g n cap q f w ho hq hn hf).mono ?_
    rintro e w' ⟨rfl, h1, h2⟩
    exact ⟨rfl, .inr ⟨h0, g, cap, rfl, h1⟩, by rw [ablk_row h0]; exact off_gb h2⟩
theorem heldStrE (base q n : Nat) (v : Value) (w : World) (h : OwnA base w v n (fun i => .string (mkG (q + i)))) (hq : 1 ≤ q) (hn : q + n < 10000000000000) :
    Calls Try.prog 41 #[v, .int .i64 q] w fun e w' => e = .returned (.int .i64 ((q + n : Nat) : Int)) ∧ Below w.heap.size w w' := by
  rcases h with ⟨h0, a, c, rfl⟩ | ⟨h0, g, cap, rfl, ho⟩
  · subst h0
    have hk : ((q + 0 : Nat) : Int) = (q : Int) := rfl
    rw [hk]
    clear hn hk
    go_enter Try.func41, Try.ntmps41
    go_wp2
    go_loopw [1, 5] (fun r i wr => i = .int .i64 0 ∧ r = .int .i64 q ∧ wr = w) (fun _ _ _ => 0)
    case atStart => exact ⟨rfl, rfl, rfl⟩
    case round =>
      obtain ⟨rfl, rfl, hw⟩ := hrel
      subst wr
      go_wp2
      go_ret
      exact ⟨rfl, Below.refl _ _⟩
  · exact (heldStrG base g n cap q w ho hq hn)
theorem toStrO (v : Value) (ss : List ByteArray) (w : World) (h : StrsAt w v ss) (hlen : ss.length ≤ 1048576) :
    Calls Try.prog 43 #[v] w fun e w' => ∃ x, e = .returned x ∧ OwnA w.heap.size w' x ss.length (strsF ss) ∧ Below w.heap.size w w' := by
  have hmk := fun w => run_make_row' (P := Try.prog) 23 9 (.string ByteArray.empty) 16 Try.underlying23 (by kernel_rfl) rfl .i64 .i64 ss.length (by omega) (by omega) w
  rcases h with ⟨a0, c0, rfl, rfl⟩ | ⟨b, off, cap, rfl, hb, hcell⟩
  · have hmk0 : ∀ w, (Instr.makeSlice 23 (.int .i64 0) (.int .i64 0)).run Try.prog w = .ok (.slice (some ⟨w.heap.size, 0, none⟩) 0 0) (w.alloc (.cells #[] 9)) := fun w => by
      have := hmk w
      simp only [List.length_nil] at this
      rw [Array.eq_empty_of_size_eq_zero (size_madeCells _ _)] at this
      simpa using this
    clear hmk
    go_enter Try.func43, Try.ntmps43
    go_wp2
    go_loop [4] (fun i => i = .int .i64 0) (fun _ => 0)
    case atStart => rfl
    case round =>
      subst hrel
      go_wp2
      go_ret
      exact ⟨_, rfl, .inl ⟨rfl, _, _, rfl⟩, by go_grown⟩
  · have HC : Hid (∀ i, i < ss.length → w.cell? ⟨b, off + i, none⟩ = some (.string (ss.getD i ByteArray.empty))) := hcell
    clear hcell
    have hne : b ≠ w.heap.size := by omega
    go_enter Try.func43, Try.ntmps43
    go_wp2
    go_loopw [4] (fun i wr => ∃ k : Nat, k ≤ ss.length ∧ i = .int .i64 k ∧ wr = w.alloc (.cells (fill ss k) 9)) (fun i _ => ss.length - (intOf i).toNat)
    case atStart => exact ⟨0, Nat.zero_le _, rfl, rfl⟩
    case round =>
      obtain ⟨k, hk, rfl, rfl⟩ := hrel
      by_cases hlt : k < ss.length
      · have hc := HC.out k hlt
        have hfs := fill_size ss k
        have hsrc : ∀ C, (w.alloc C).cell? ⟨b, off + k, none⟩ = some (.string (ss.getD k ByteArray.empty)) := fun C => by
          rw [((Below.refl w.heap.size w).alloc (Nat.le_refl _) C).cell (p := ⟨b, off + k, none⟩) hb]; exact hc
        go_wp2
        exact ⟨⟨k + 1, by omega, by go_num, by simp [fill, List.getD, hlt]⟩, by simp [intOf]; omega⟩
      · have hke : k = ss.length := by omega
        subst hke
        go_wp2
        go_ret
        refine ⟨_, rfl, .ofRow ⟨Nat.le_refl _, by simp, fun i hi => ?_, fun i hi => ?_⟩ _, by go_grown⟩
        · have := fill_at ss ss.length i hi hi
          simp [World.cell?_alloc_new, this, strsF]
        · exact World.frozen?_alloc_new w _ _ _
/-- What is left of z behind the list, or -1. -/
def szRK (z : Nat) (ss : List ByteArray) : Int := if ss.length + sumS ss ≤ z then (z : Int) - ((ss.length + sumS ss : Nat) : Int) else -1
theorem szRK_neg {z : Nat} {ss : List ByteArray} (h : z < ss.length + sumS ss) : szRK z ss = -1 := by unfold szRK; rw [if_neg (by omega)]
theorem szRK_pos {z : Nat} {ss : List ByteArray} (h : ss.length + sumS ss ≤ z) : szRK z ss = ((z - (ss.length + sumS ss) : Nat) : Int) := by unfold szRK; rw [if_pos h]; omega
set_option maxHeartbeats 1600000 in
theorem szStrK (v : Value) (ss : List ByteArray) (z : Nat) (w : World) (h : StrsAt w v ss) (hz : z ≤ 1048576) (hlen : ss.length ≤ maxLen) (hsz : ∀ s ∈ ss, s.size ≤ maxLen) :
    Calls Try.prog 42 #[v, .int .i64 z] w fun e w' => e = .returned (.int .i64 (szRK z ss)) ∧ w' = w := by
  unfold maxLen at hlen
  rcases h with ⟨a0, c0, rfl, rfl⟩ | ⟨b, off, cap, rfl, hb, hcell⟩
  · go_enter Try.func42, Try.ntmps42
    go_wp2
    go_loop [1, 5] (fun x i => i = .int .i64 0 ∧ x = .int .i64 z) (fun _ _ => 0)
    case atStart => exact ⟨rfl, rfl⟩
    case round =>
      obtain ⟨rfl, rfl⟩ := hrel
      go_wp2
      go_ret
      exact ⟨ret_int (by simp [szRK, sumS]), rfl⟩
  · by_cases hbig : z < ss.length
    · have hl : (z : Int) - (ss.length : Int) < 0 := by omega
      go_enter Try.func42, Try.ntmps42
      go_wp2
      go_ret
      exact ⟨ret_int (by unfold szRK; rw [if_neg (by omega)]), rfl⟩
    · have hl : ¬ (z : Int) - (ss.length : Int) < 0 := by omega
      have hl2 : decide ((z : Int) - (ss.length : Int) < 0) = false := by simp; omega
      have HC : Hid (∀ i, i < ss.length → w.cell? ⟨b, off + i, none⟩ = some (.string (ss.getD i ByteArray.empty))) := hcell
      have HZ : Hid (∀ s ∈ ss, s.size ≤ maxLen) := hsz
      clear hcell hsz
      go_enter Try.func42, Try.ntmps42
      go_wp2
      go_loop [1, 5] (fun x i => ∃ k : Nat, k ≤ ss.length ∧ ss.length + sumS (ss.take k) ≤ z ∧ i = .int .i64 k ∧ x = .int .i64 ((z : Int) - (ss.length : Int) - (sumS (ss.take k) : Nat))) (fun _ i => ss.length - (intOf i).toNat)
      case atStart => exact ⟨0, Nat.zero_le _, by simp [sumS]; omega, rfl, by simp [sumS]⟩
      case round =>
        obtain ⟨k, hk, hle, rfl, rfl⟩ := hrel
        by_cases hlt : k < ss.length
        · have hc := HC.out k hlt
          have hm := HZ.out _ (getD_mem ss k hlt)
          unfold maxLen at hm
          have HS : Hid (sumS (ss.take (k + 1)) = sumS (ss.take k) + (ss.getD k ByteArray.empty).size) := by
            show _ = _
            rw [take_snocS ss k hlt]; exact sumS_snoc _ _
          have HT : Hid (sumS (ss.take (k + 1)) ≤ sumS ss) := sumS_take ss (k + 1)
          generalize ss.getD k ByteArray.empty = t at *
          generalize sumS (ss.take k) = S at *
          by_cases hout : (z : Int) - (ss.length : Int) - (S : Int) - (t.size : Int) < 0
          · go_wp2
            go_ret
            exact ⟨ret_int (by unfold szRK; have h1 := HS.out; have h2 := HT.out; rw [if_neg (by omega)]), rfl⟩
          · go_wp2
            go_round
            case rel => exact ⟨k + 1, by omega, by rw [HS.out]; omega, by go_num, by rw [HS.out]; go_num⟩
            case measure => simp [intOf]; omega
        · have hke : k = ss.length := by omega
          subst hke
          rw [List.take_length] at hle
          go_wp2
          go_ret
          exact ⟨ret_int (by unfold szRK; rw [if_pos (by omega)]; omega), rfl⟩
end Go.Proofs.Ytkkmnegmghllpaa
