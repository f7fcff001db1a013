/- What the laws' own helpers do with lists of yes-and-no (made of LawsI.in by lawsb.py). Condition: the list lies in memory. -/
import Derived.Test.YtaafdcghafbfhaaLawsI
namespace Go.Proofs.Ytaafdcghafbfhaa
open Go.ChangeShapes Go.WideShapes Go.ChangeAt Go.RowKit Go.Deep
set_option linter.unusedVariables false
attribute [local go_sem ↓] Go.wp_at_zero Go.wp_at_succ

def mk3 (n : Nat) : Bool := n % 3 == 0
theorem mk3_int (n : Nat) : (((n : Int) % 3 == 0) : Bool) = mk3 n := by
  unfold mk3
  rw [Bool.eq_iff_iff]
  simp only [beq_iff_eq]
  omega
def fillB (zs : List Bool) : Nat → Array Value
  | 0 => madeCells #[.bool false] zs.length
  | k + 1 => (fillB zs k).setIfInBounds k (.bool (zs.getD k false))
theorem fillB_size (zs : List Bool) : ∀ k, (fillB zs k).size = zs.length
  | 0 => size_madeCells _ _
  | k + 1 => by simp [fillB, fillB_size zs k]
theorem fillB_at (zs : List Bool) : ∀ (k i : Nat), i < k → i < zs.length → (fillB zs k)[i]? = some (.bool (zs.getD i false))
  | 0, i, h, _ => by omega
  | k + 1, i, h, hi => by
    simp only [fillB]
    rw [Array.getElem?_setIfInBounds]
    by_cases e : k = i
    · subst e; simp [fillB_size, hi]
    · rw [if_neg e]; exact fillB_at zs k i (by omega) hi
theorem OwnRow.boolsL {base : Nat} {w : World} {g : Nat} {zs : List Bool} (h : OwnRow base w g zs.length (fun i => .bool (zs.getD i false))) (cap : Nat) : BoolsAt w (.slice (some ⟨g, 0, none⟩) zs.length cap) zs :=
  .inr ⟨g, 0, cap, rfl, h.2.1, fun i hi => by simpa using h.2.2.1 i hi⟩
theorem toBoolO (v : Value) (zs : List Bool) (w : World) (h : BoolsAt w v zs) (hlen : zs.length ≤ 1048576) :
    Calls Try.prog 68 #[v] w fun e w' => e = .returned (.slice (some ⟨w.heap.size, 0, none⟩) zs.length zs.length) ∧ OwnRow w.heap.size w' w.heap.size zs.length (fun i => .bool (zs.getD i false)) ∧ Below w.heap.size w w' := by
  have hmk := fun w => run_make_row' (P := Try.prog) 25 4 (.bool false) 1 Try.underlying25 (by kernel_rfl) rfl .i64 .i64 zs.length (by omega) (by omega) w
  rcases h with ⟨a0, c0, rfl, rfl⟩ | ⟨b, off, cap, rfl, hb, hcell⟩
  · have hmk0 : ∀ w, (Instr.makeSlice 25 (.int .i64 0) (.int .i64 0)).run Try.prog w = .ok (.slice (some ⟨w.heap.size, 0, none⟩) 0 0) (w.alloc (.cells #[] 4)) := fun w => by
      have := hmk w
      simp only [List.length_nil] at this
      rw [Array.eq_empty_of_size_eq_zero (size_madeCells _ _)] at this
      simpa using this
    clear hmk
    go_enter Try.func68, Try.ntmps68
    go_wp2
    go_loop [4] (fun i => i = .int .i64 0) (fun _ => 0)
    case atStart => rfl
    case round =>
      subst hrel
      go_wp2
      go_ret
      exact ⟨rfl, ⟨Nat.le_refl _, by simp, fun i hi => by simp at hi, fun i hi => by simp at hi⟩, by go_grown⟩
  · have HC : Hid (∀ i, i < zs.length → w.cell? ⟨b, off + i, none⟩ = some (.bool (zs.getD i false))) := hcell
    clear hcell
    have hne : b ≠ w.heap.size := by omega
    go_enter Try.func68, Try.ntmps68
    go_wp2
    go_loopw [4] (fun i wr => ∃ k : Nat, k ≤ zs.length ∧ i = .int .i64 k ∧ wr = w.alloc (.cells (fillB zs k) 4)) (fun i _ => zs.length - (intOf i).toNat)
    case atStart => exact ⟨0, Nat.zero_le _, rfl, rfl⟩
    case round =>
      obtain ⟨k, hk, rfl, rfl⟩ := hrel
      by_cases hlt : k < zs.length
      · have hc := HC.out k hlt
        have hfs := fillB_size zs k
        have hsrc : ∀ C, (w.alloc C).cell? ⟨b, off + k, none⟩ = some (.bool (zs.getD k false)) := fun C => by
          rw [((Below.refl w.heap.size w).alloc (Nat.le_refl _) C).cell (p := ⟨b, off + k, none⟩) hb]; exact hc
        go_wp2
        exact ⟨⟨k + 1, by omega, by go_num, by simp [fillB, List.getD, hlt]⟩, by simp [intOf]; omega⟩
      · have hke : k = zs.length := by omega
        subst hke
        go_wp2
        go_ret
        refine ⟨rfl, ⟨Nat.le_refl _, by simp, fun i hi => ?_, fun i hi => ?_⟩, by go_grown⟩
        · have := fillB_at zs zs.length i hi hi
          simp [World.cell?_alloc_new, this]
        · exact World.frozen?_alloc_new w _ _ _
set_option maxHeartbeats 1600000 in
theorem eqBoolB (v1 v2 : Value) (zs ys : List Bool) (w : World) (h1 : BoolsAt w v1 zs) (h2 : BoolsAt w v2 ys) (hlen : zs.length ≤ 1048576) (hlen2 : ys.length ≤ 1048576) (hzy : zs = ys) :
    Calls Try.prog 63 #[v1, v2] w fun e w' => e = .returned (.bool true) ∧ Below w.heap.size w w' := by
  subst hzy
  by_cases h0 : zs = []
  · subst h0
    obtain ⟨a1, c1, rfl⟩ := h1.slice
    obtain ⟨a2, c2, rfl⟩ := h2.slice
    clear h1 h2
    go_enter Try.func63, Try.ntmps63
    go_wp2
    go_loopw [5] (fun i wr => i = .int .i64 0 ∧ Below w.heap.size w wr) (fun _ _ => 0)
    case atStart => exact ⟨rfl, by go_grown⟩
    case round =>
      obtain ⟨rfl, hw⟩ := hrel
      go_wp2
      go_ret
      exact ⟨rfl, by go_grown⟩
  · rcases h1 with ⟨_, _, _, e⟩ | ⟨b, off, cap, rfl, hb, hcell⟩
    · exact absurd e h0
    rcases h2 with ⟨_, _, _, e⟩ | ⟨b2, off2, cap2, rfl, hb2, hcell2⟩
    · exact absurd e h0
    have HC : Hid (∀ i, i < zs.length → w.cell? ⟨b, off + i, none⟩ = some (.bool (zs.getD i false))) := hcell
    have HD : Hid (∀ i, i < zs.length → w.cell? ⟨b2, off2 + i, none⟩ = some (.bool (zs.getD i false))) := hcell2
    clear hcell hcell2
    go_enter Try.func63, Try.ntmps63
    go_wp2
    go_loopw [5] (fun i wr => ∃ k : Nat, k ≤ zs.length ∧ i = .int .i64 k ∧ Below w.heap.size w wr) (fun i _ => zs.length - (intOf i).toNat)
    case atStart => exact ⟨0, Nat.zero_le _, rfl, by go_grown⟩
    case round =>
      obtain ⟨k, hk, rfl, kb⟩ := hrel
      by_cases hlt : k < zs.length
      · have hc := (kb.cell (p := ⟨b, off + k, none⟩) hb).trans (HC.out k hlt)
        have hd := (kb.cell (p := ⟨b2, off2 + k, none⟩) hb2).trans (HD.out k hlt)
        generalize zs.getD k false = t at *
        go_wp2
        go_region
        go_wp2
        exact ⟨⟨k + 1, by omega, by go_num, by go_grown⟩, by simp [intOf]; omega⟩
      · go_wp2
        go_ret
        exact ⟨rfl, by go_grown⟩
set_option maxHeartbeats 1600000 in
theorem markBoolO (base g n cap q : Nat) (f : Nat → Value) (w : World) (h : OwnRow base w g n f) (hn : ((q + n : Nat) : Int) < 10000000000000) (hf : ∀ i, i < n → ∃ x, f i = .bool x) :
    Calls Try.prog 64 #[.slice (some ⟨g, 0, none⟩) n cap, .int .i64 q] w fun e w' => e = .returned (.int .i64 ((q + n : Nat) : Int)) ∧ OwnRow base w' g n (fun i => .bool (mk3 (q + i))) ∧ w.grownBy w' (some g) := by
  have HO : Hid (OwnRow base w g n f) := h
  have HF : Hid (∀ i, i < n → ∃ x, f i = .bool x) := hf
  have HNN : Hid (((q + n : Nat) : Int) < 10000000000000) := hn
  clear h hf hn
  go_enter Try.func64, Try.ntmps64
  go_wp2
  go_loopw [1, 5] (fun r i wr => ∃ k Q : Nat, k ≤ n ∧ Hid (Q = q + k) ∧ i = .int .i64 k ∧ r = .int .i64 Q ∧ (∃ f', OwnRow base wr g n f' ∧ (∀ i, i < n → ∃ x, f' i = .bool x) ∧ ∀ i, i < k → f' i = .bool (mk3 (q + i))) ∧ w.grownBy wr (some g)) (fun _ i _ => n - (intOf i).toNat)
  case atStart => exact ⟨0, q, Nat.zero_le _, rfl, rfl, rfl, ⟨f, HO.out, HF.out, fun i hi => by omega⟩, World.grownBy.refl _ _⟩
  case round =>
    obtain ⟨k, Q, hk, hQ, rfl, rfl, ⟨f', ho, hx, hm⟩, hg⟩ := hrel
    have hki0 : (0 : Int) ≤ (k : Int) := by omega
    by_cases hlt : k < n
    · have hc := ho.2.2.1 k hlt
      have hfz := ho.2.2.2 k hlt
      have hki : (k : Int) < (n : Int) := by omega
      have hQw : IntKind.i64.wrap ((Q : Int) + 1) = (Q : Int) + 1 := by have := HNN.out; have := hQ.out; rw [IntKind.wrap_i64]; omega
      have hkw : IntKind.i64.wrap ((k : Int) + 1) = (k : Int) + 1 := by have := HNN.out; rw [IntKind.wrap_i64]; omega
      have HO2 : Hid (OwnRow base wr g n f') := ho
      have h3 : Int.tmod (Q : Int) 3 = ((Q % 3 : Nat) : Int) := by rw [Int.tmod_eq_emod_of_nonneg (by omega)]; rfl
      have h3b : (((Q : Int) % 3 == 0) : Bool) = mk3 Q := mk3_int Q
      have HM : Hid (∀ i, i < k → f' i = .bool (mk3 (q + i))) := hm
      have HX : Hid (∀ i, i < n → ∃ x, f' i = .bool x) := hx
      have HG : Hid (w.grownBy wr (some g)) := hg
      obtain ⟨x0, hx0⟩ := hx k hlt
      rw [hx0] at hc
      clear ho hm hg hx hx0
      go_wp2
      refine ⟨⟨k + 1, Q + 1, by omega, (show Q + 1 = q + (k + 1) by have := hQ.out; omega), by go_num, by go_num, ⟨_, HO2.out.set hlt (.bool (mk3 Q)), fun i hi => ?_, fun i hi => ?_⟩, gb_setI HG.out _ _⟩, by simp [intOf]; omega⟩
      · by_cases e : i = k
        · exact ⟨_, by simp only [e, if_true]; rfl⟩
        · obtain ⟨x, hx⟩ := HX.out i hi
          exact ⟨x, by simp only [if_neg e]; exact hx⟩
      · by_cases e : i = k
        · have := hQ.out
          simp only [e, if_true]
          rw [this]
        · simp only [if_neg e]; exact HM.out i (by omega)
    · have hke : k = n := by omega
      subst hke
      have hki : ¬ (k : Int) < (k : Int) := by omega
      go_wp2
      go_ret
      refine ⟨by rw [hQ.out]; simp, ?_, hg⟩
      exact ho.congr (fun i hi => hm i hi)
set_option maxHeartbeats 1600000 in
theorem heldBoolO (base g n cap q : Nat) (w : World) (h : OwnRow base w g n (fun i => .bool (mk3 (q + i)))) (hn : ((q + n : Nat) : Int) < 10000000000000) :
    Calls Try.prog 65 #[.slice (some ⟨g, 0, none⟩) n cap, .int .i64 q] w fun e w' => e = .returned (.int .i64 ((q + n : Nat) : Int)) ∧ w' = w := by
  have HC : Hid (∀ i, i < n → w.cell? ⟨g, i, none⟩ = some (.bool (mk3 (q + i)))) := h.2.2.1
  have HNN : Hid (((q + n : Nat) : Int) < 10000000000000) := hn
  clear h hn
  go_enter Try.func65, Try.ntmps65
  go_wp2
  go_loopw [1, 5] (fun r i wr => ∃ k Q : Nat, k ≤ n ∧ Hid (Q = q + k) ∧ i = .int .i64 k ∧ r = .int .i64 Q ∧ wr = w) (fun _ i _ => n - (intOf i).toNat)
  case atStart => exact ⟨0, q, Nat.zero_le _, rfl, rfl, rfl, rfl⟩
  case round =>
    obtain ⟨k, Q, hk, hQ, rfl, rfl, hw⟩ := hrel
    subst wr
    have hki0 : (0 : Int) ≤ (k : Int) := by omega
    by_cases hlt : k < n
    · have hc := HC.out k hlt
      rw [← hQ.out] at hc
      have h3b : (((Q : Int) % 3 == 0) : Bool) = mk3 Q := mk3_int Q
      have h3c : (mk3 Q != mk3 Q) = false := by cases mk3 Q <;> rfl
      generalize mk3 Q = tt at *
      have hki : (k : Int) < (n : Int) := by omega
      have hQw : IntKind.i64.wrap ((Q : Int) + 1) = (Q : Int) + 1 := by have := HNN.out; have := hQ.out; rw [IntKind.wrap_i64]; omega
      have hkw : IntKind.i64.wrap ((k : Int) + 1) = (k : Int) + 1 := by have := HNN.out; rw [IntKind.wrap_i64]; omega
      go_wp2
      exact ⟨⟨k + 1, Q + 1, by omega, (show Q + 1 = q + (k + 1) by have := hQ.out; omega), by go_num, by go_num, by first | rfl | trivial⟩, by simp [intOf]; omega⟩
    · have hke : k = n := by omega
      subst hke
      have hki : ¬ (k : Int) < (k : Int) := by omega
      go_wp2
      go_ret
      exact ⟨by rw [hQ.out]; simp, rfl⟩
theorem szBoolO (a : Option Addr) (n c : Nat) (z : Nat) (w : World) (hz : z ≤ 1048576) (hlen : n ≤ maxLen) :
    Calls Try.prog 67 #[.slice a n c, .int .i64 z] w fun e w' => e = .returned (.int .i64 (if n ≤ z then ((z - n : Nat) : Int) else -1)) ∧ w' = w := by
  unfold maxLen at hlen
  by_cases h1 : n ≤ z
  · rw [if_pos h1]
    have h2 : ¬ (z : Int) - (n : Int) < 0 := by omega
    have h3 : ((z - n : Nat) : Int) = (z : Int) - (n : Int) := by omega
    rw [h3]
    clear h3
    go_enter Try.func67, Try.ntmps67
    go_wp2
    go_ret
    exact ⟨rfl, rfl⟩
  · rw [if_neg h1]
    have h2 : (z : Int) - (n : Int) < 0 := by omega
    go_enter Try.func67, Try.ntmps67
    go_wp2
    go_ret
    exact ⟨rfl, rfl⟩
end Go.Proofs.Ytaafdcghafbfhaa
