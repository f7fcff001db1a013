/- Copies, marks, sameness, sizes of lists of numbers, and an answer's own lists. Condition: they lie in memory. -/
import Derived.Test.YtkkmnegmghllpaaOwnI
namespace Go.Proofs.Ytkkmnegmghllpaa
open Go.ChangeShapes Go.WideShapes Go.ChangeAt Go.RowKit Go.Deep
set_option linter.unusedVariables false
attribute [local go_sem ↓] Go.wp_at_zero Go.wp_at_succ

theorem IntsAt.slice {w : World} {v : Value} {zs : List Int} (h : IntsAt w v zs) : ∃ a c, v = .slice a zs.length c := by
  rcases h with ⟨a, c, rfl, rfl⟩ | ⟨b, off, cap, rfl, _, _⟩ <;> exact ⟨_, _, rfl⟩
theorem OwnRow.otherBy {base : Nat} {w w' : World} {g n r : Nat} {f : Nat → Value} (h : OwnRow base w g n f) (hg : w.grownBy w' (some r)) (hne : r ≠ g) : OwnRow base w' g n f :=
  ⟨h.1, Nat.lt_of_lt_of_le h.2.1 hg.size, fun i hi => hg.cell (h.2.2.1 i hi) (fun e => by cases e; exact hne rfl), fun i hi => by
    have hb := hg.block g h.2.1 (fun e => by cases e; exact hne rfl)
    have h0 := h.2.2.2 i hi
    simp only [World.frozen?] at h0 ⊢
    rw [hb]; exact h0⟩
theorem gb_setI {a b : World} {g : Nat} (h : a.grownBy b (some g)) (o : Nat) (u : Value) : a.grownBy (b.setCell ⟨g, o, none⟩ u) (some g) :=
  ⟨h.os, h.tape, h.output, Nat.le_trans h.size (by simp [World.setCell]), fun k hk hn => (Below.heap_setCell b ⟨g, o, none⟩ u k (fun e => hn (by rw [e]))).trans (h.block k hk hn)⟩
--INT
theorem OwnRow.intsL {base : Nat} {w : World} {g : Nat} {zs : List Int} (h : OwnRow base w g zs.length (fun i => .int .i64 (zs.getD i 0))) (cap : Nat) : IntsAt w (.slice (some ⟨g, 0, none⟩) zs.length cap) zs :=
  .inr ⟨g, 0, cap, rfl, h.2.1, fun i hi => by simpa using h.2.2.1 i hi⟩
theorem toIntO (v : Value) (zs : List Int) (w : World) (h : IntsAt w v zs) (hlen : zs.length ≤ 1048576) :
    Calls Try.prog 90 #[v] w fun e w' => e = .returned (.slice (some ⟨w.heap.size, 0, none⟩) zs.length zs.length) ∧ OwnRow w.heap.size w' w.heap.size zs.length (fun i => .int .i64 (zs.getD i 0)) ∧ Below w.heap.size w w' := by
  have hmk := fun w => run_make_row' (P := Try.prog) 37 3 (.int .i64 0) 8 Try.underlying37 (by kernel_rfl) rfl .i64 .i64 zs.length (by omega) (by omega) w
  rcases h with ⟨a0, c0, rfl, rfl⟩ | ⟨b, off, cap, rfl, hb, hcell⟩
  · have hmk0 : ∀ w, (Instr.makeSlice 37 (.int .i64 0) (.int .i64 0)).run Try.prog w = .ok (.slice (some ⟨w.heap.size, 0, none⟩) 0 0) (w.alloc (.cells #[] 3)) := fun w => by
      have := hmk w
      simp only [List.length_nil] at this
      rw [Array.eq_empty_of_size_eq_zero (size_madeCells _ _)] at this
      simpa using this
    clear hmk
    go_enter Try.func90, Try.ntmps90
    go_wp2
    go_loop [4] (fun i => i = .int .i64 0) (fun _ => 0)
    case atStart => rfl
    case round =>
      subst hrel
      go_wp2
      go_ret
      exact ⟨rfl, ⟨Nat.le_refl _, by simp, fun i hi => by simp at hi, fun i hi => by simp at hi⟩, by go_grown⟩
  · have HC : Hid (∀ i, i < zs.length → w.cell? ⟨b, off + i, none⟩ = some (.int .i64 (zs.getD i 0))) := hcell
    clear hcell
    have hne : b ≠ w.heap.size := by omega
    go_enter Try.func90, Try.ntmps90
    go_wp2
    go_loopw [4] (fun i wr => ∃ k : Nat, k ≤ zs.length ∧ i = .int .i64 k ∧ wr = w.alloc (.cells (fillZ zs k) 3)) (fun i _ => zs.length - (intOf i).toNat)
    case atStart => exact ⟨0, Nat.zero_le _, rfl, rfl⟩
    case round =>
      obtain ⟨k, hk, rfl, rfl⟩ := hrel
      by_cases hlt : k < zs.length
      · have hc := HC.out k hlt
        have hfs := fillZ_size zs k
        have hsrc : ∀ C, (w.alloc C).cell? ⟨b, off + k, none⟩ = some (.int .i64 (zs.getD k 0)) := fun C => by
          rw [((Below.refl w.heap.size w).alloc (Nat.le_refl _) C).cell (p := ⟨b, off + k, none⟩) hb]; exact hc
        go_wp2
        exact ⟨⟨k + 1, by omega, by go_num, by simp [fillZ, List.getD, hlt]⟩, by simp [intOf]; omega⟩
      · have hke : k = zs.length := by omega
        subst hke
        go_wp2
        go_ret
        refine ⟨rfl, ⟨Nat.le_refl _, by simp, fun i hi => ?_, fun i hi => ?_⟩, by go_grown⟩
        · have := fillZ_at zs zs.length i hi hi
          simp [World.cell?_alloc_new, this]
        · exact World.frozen?_alloc_new w _ _ _
set_option maxHeartbeats 1600000 in
theorem eqIntB (v1 v2 : Value) (zs ys : List Int) (w : World) (h1 : IntsAt w v1 zs) (h2 : IntsAt w v2 ys) (hlen : zs.length ≤ 1048576) (hlen2 : ys.length ≤ 1048576) (hzy : zs = ys) :
    Calls Try.prog 47 #[v1, v2] w fun e w' => e = .returned (.bool true) ∧ Below w.heap.size w w' := by
  subst hzy
  by_cases h0 : zs = []
  · subst h0
    obtain ⟨a1, c1, rfl⟩ := h1.slice
    obtain ⟨a2, c2, rfl⟩ := h2.slice
    clear h1 h2
    go_enter Try.func47, Try.ntmps47
    go_wp2
    go_loopw [5] (fun i wr => i = .int .i64 0 ∧ Below w.heap.size w wr) (fun _ _ => 0)
    case atStart => exact ⟨rfl, by go_grown⟩
    case round =>
      obtain ⟨rfl, hw⟩ := hrel
      go_wp2
      go_ret
      exact ⟨rfl, by go_grown⟩
  · rcases h1 with ⟨_, _, _, e⟩ | ⟨b, off, cap, rfl, hb, hcell⟩
    · exact absurd e h0
    rcases h2 with ⟨_, _, _, e⟩ | ⟨b2, off2, cap2, rfl, hb2, hcell2⟩
    · exact absurd e h0
    have HC : Hid (∀ i, i < zs.length → w.cell? ⟨b, off + i, none⟩ = some (.int .i64 (zs.getD i 0))) := hcell
    have HD : Hid (∀ i, i < zs.length → w.cell? ⟨b2, off2 + i, none⟩ = some (.int .i64 (zs.getD i 0))) := hcell2
    clear hcell hcell2
    go_enter Try.func47, Try.ntmps47
    go_wp2
    go_loopw [5] (fun i wr => ∃ k : Nat, k ≤ zs.length ∧ i = .int .i64 k ∧ Below w.heap.size w wr) (fun i _ => zs.length - (intOf i).toNat)
    case atStart => exact ⟨0, Nat.zero_le _, rfl, by go_grown⟩
    case round =>
      obtain ⟨k, hk, rfl, kb⟩ := hrel
      by_cases hlt : k < zs.length
      · have hc := (kb.cell (p := ⟨b, off + k, none⟩) hb).trans (HC.out k hlt)
        have hd := (kb.cell (p := ⟨b2, off2 + k, none⟩) hb2).trans (HD.out k hlt)
        generalize zs.getD k 0 = t at *
        go_wp2
        go_region
        go_wp2
        exact ⟨⟨k + 1, by omega, by go_num, by go_grown⟩, by simp [intOf]; omega⟩
      · go_wp2
        go_ret
        exact ⟨rfl, by go_grown⟩
set_option maxHeartbeats 1600000 in
theorem markIntO (base g n cap q : Nat) (f : Nat → Value) (w : World) (h : OwnRow base w g n f) (hn : ((q + n : Nat) : Int) < 10000000000000) (hf : ∀ i, i < n → ∃ x, f i = .int .i64 x) :
    Calls Try.prog 48 #[.slice (some ⟨g, 0, none⟩) n cap, .int .i64 q] w fun e w' => e = .returned (.int .i64 ((q + n : Nat) : Int)) ∧ OwnRow base w' g n (fun i => .int .i64 ((q + i : Nat) : Int)) ∧ w.grownBy w' (some g) := by
  have HO : Hid (OwnRow base w g n f) := h
  have HF : Hid (∀ i, i < n → ∃ x, f i = .int .i64 x) := hf
  have HNN : Hid (((q + n : Nat) : Int) < 10000000000000) := hn
  clear h hf hn
  go_enter Try.func48, Try.ntmps48
  go_wp2
  go_loopw [1, 5] (fun r i wr => ∃ k Q : Nat, k ≤ n ∧ Hid (Q = q + k) ∧ i = .int .i64 k ∧ r = .int .i64 Q ∧ (∃ f', OwnRow base wr g n f' ∧ (∀ i, i < n → ∃ x, f' i = .int .i64 x) ∧ ∀ i, i < k → f' i = .int .i64 ((q + i : Nat) : Int)) ∧ w.grownBy wr (some g)) (fun _ i _ => n - (intOf i).toNat)
  case atStart => exact ⟨0, q, Nat.zero_le _, rfl, rfl, rfl, ⟨f, HO.out, HF.out, fun i hi => by omega⟩, World.grownBy.refl _ _⟩
  case round =>
    obtain ⟨k, Q, hk, hQ, rfl, rfl, ⟨f', ho, hx, hm⟩, hg⟩ := hrel
    have hki0 : (0 : Int) ≤ (k : Int) := by omega
    by_cases hlt : k < n
    · have hc := ho.2.2.1 k hlt
      have hfz := ho.2.2.2 k hlt
      have hki : (k : Int) < (n : Int) := by omega
      have hQw : IntKind.i64.wrap ((Q : Int) + 1) = (Q : Int) + 1 := by have := HNN.out; have := hQ.out; rw [IntKind.wrap_i64]; omega
      have hkw : IntKind.i64.wrap ((k : Int) + 1) = (k : Int) + 1 := by have := HNN.out; rw [IntKind.wrap_i64]; omega
      have HO2 : Hid (OwnRow base wr g n f') := ho
      have HM : Hid (∀ i, i < k → f' i = .int .i64 ((q + i : Nat) : Int)) := hm
      have HX : Hid (∀ i, i < n → ∃ x, f' i = .int .i64 x) := hx
      have HG : Hid (w.grownBy wr (some g)) := hg
      obtain ⟨x0, hx0⟩ := hx k hlt
      rw [hx0] at hc
      clear ho hm hg hx hx0
      go_wp2
      refine ⟨⟨k + 1, Q + 1, by omega, (show Q + 1 = q + (k + 1) by have := hQ.out; omega), by go_num, by go_num, ⟨_, HO2.out.set hlt (.int .i64 (Q : Int)), fun i hi => ?_, fun i hi => ?_⟩, gb_setI HG.out _ _⟩, by simp [intOf]; omega⟩
      · by_cases e : i = k
        · exact ⟨_, by simp only [e, if_true]; rfl⟩
        · obtain ⟨x, hx⟩ := HX.out i hi
          exact ⟨x, by simp only [if_neg e]; exact hx⟩
      · by_cases e : i = k
        · have := hQ.out
          simp only [e, if_true]
          rw [this]
        · simp only [if_neg e]; exact HM.out i (by omega)
    · have hke : k = n := by omega
      subst hke
      have hki : ¬ (k : Int) < (k : Int) := by omega
      go_wp2
      go_ret
      refine ⟨by rw [hQ.out]; simp, ?_, hg⟩
      exact ho.congr (fun i hi => hm i hi)
set_option maxHeartbeats 1600000 in
theorem heldIntO (base g n cap q : Nat) (w : World) (h : OwnRow base w g n (fun i => .int .i64 ((q + i : Nat) : Int))) (hn : ((q + n : Nat) : Int) < 10000000000000) :
    Calls Try.prog 49 #[.slice (some ⟨g, 0, none⟩) n cap, .int .i64 q] w fun e w' => e = .returned (.int .i64 ((q + n : Nat) : Int)) ∧ w' = w := by
  have HC : Hid (∀ i, i < n → w.cell? ⟨g, i, none⟩ = some (.int .i64 ((q + i : Nat) : Int))) := h.2.2.1
  have HNN : Hid (((q + n : Nat) : Int) < 10000000000000) := hn
  clear h hn
  go_enter Try.func49, Try.ntmps49
  go_wp2
  go_loopw [1, 5] (fun r i wr => ∃ k Q : Nat, k ≤ n ∧ Hid (Q = q + k) ∧ i = .int .i64 k ∧ r = .int .i64 Q ∧ wr = w) (fun _ i _ => n - (intOf i).toNat)
  case atStart => exact ⟨0, q, Nat.zero_le _, rfl, rfl, rfl, rfl⟩
  case round =>
    obtain ⟨k, Q, hk, hQ, rfl, rfl, hw⟩ := hrel
    subst wr
    have hki0 : (0 : Int) ≤ (k : Int) := by omega
    by_cases hlt : k < n
    · have hc := HC.out k hlt
      rw [← hQ.out] at hc
      have hki : (k : Int) < (n : Int) := by omega
      have hQw : IntKind.i64.wrap ((Q : Int) + 1) = (Q : Int) + 1 := by have := HNN.out; have := hQ.out; rw [IntKind.wrap_i64]; omega
      have hkw : IntKind.i64.wrap ((k : Int) + 1) = (k : Int) + 1 := by have := HNN.out; rw [IntKind.wrap_i64]; omega
      go_wp2
      exact ⟨⟨k + 1, Q + 1, by omega, (show Q + 1 = q + (k + 1) by have := hQ.out; omega), by go_num, by go_num, by first | rfl | trivial⟩, by simp [intOf]; omega⟩
    · have hke : k = n := by omega
      subst hke
      have hki : ¬ (k : Int) < (k : Int) := by omega
      go_wp2
      go_ret
      exact ⟨by rw [hQ.out]; simp, rfl⟩
theorem szIntO (a : Option Addr) (n c : Nat) (z : Nat) (w : World) (hz : z ≤ 1048576) (hlen : n ≤ maxLen) :
    Calls Try.prog 89 #[.slice a n c, .int .i64 z] w fun e w' => e = .returned (.int .i64 (if n ≤ z then ((z - n : Nat) : Int) else -1)) ∧ w' = w := by
  unfold maxLen at hlen
  by_cases h1 : n ≤ z
  · rw [if_pos h1]
    have h2 : ¬ (z : Int) - (n : Int) < 0 := by omega
    have h3 : ((z - n : Nat) : Int) = (z : Int) - (n : Int) := by omega
    rw [h3]
    clear h3
    go_enter Try.func89, Try.ntmps89
    go_wp2
    go_ret
    exact ⟨rfl, rfl⟩
  · rw [if_neg h1]
    have h2 : (z : Int) - (n : Int) < 0 := by omega
    go_enter Try.func89, Try.ntmps89
    go_wp2
    go_ret
    exact ⟨rfl, rfl⟩
--END
/-- The block of a list that has elements. -/
def ablk : Value → List Nat
  | .slice (some a) (_ + 1) _ => [a.block]
  | _ => []
/-- An answer's list: its own, from base on. -/
def OwnA (base : Nat) (w : World) (v : Value) (n : Nat) (f : Nat → Value) : Prop := (n = 0 ∧ ∃ a c, v = .slice a 0 c) ∨ (0 < n ∧ ∃ g cap, v = .slice (some ⟨g, 0, none⟩) n cap ∧ OwnRow base w g n f)
theorem OwnA.slice {base : Nat} {w : World} {v : Value} {n : Nat} {f : Nat → Value} (h : OwnA base w v n f) : ∃ a c, v = .slice a n c := by
  rcases h with ⟨rfl, a, c, rfl⟩ | ⟨_, g, cap, rfl, _⟩
  · exact ⟨a, c, rfl⟩
  · exact ⟨_, cap, rfl⟩
theorem ablk_row {g n cap : Nat} (h : 0 < n) : ablk (.slice (some ⟨g, 0, none⟩) n cap) = [g] := by
  cases n with
  | zero => omega
  | succ n => rfl
theorem ablk_zero (a : Option Addr) (c : Nat) : ablk (.slice a 0 c) = [] := by cases a <;> rfl
theorem OwnA.lt {base : Nat} {w : World} {v : Value} {n : Nat} {f : Nat → Value} (h : OwnA base w v n f) : ∀ g ∈ ablk v, base ≤ g ∧ g < w.heap.size := by
  rcases h with ⟨rfl, a, c, rfl⟩ | ⟨h0, g, cap, rfl, ho⟩
  · intro g hg; rw [ablk_zero] at hg; cases hg
  · intro x hx; rw [ablk_row h0] at hx; simp at hx; subst hx; exact ⟨ho.1, ho.2.1⟩
theorem OwnA.below {base : Nat} {w w' : World} {v : Value} {n : Nat} {f : Nat → Value} (h : OwnA base w v n f) (hb : Below w.heap.size w w') : OwnA base w' v n f := by
  rcases h with h | ⟨h0, g, cap, rfl, ho⟩
  · exact .inl h
  · exact .inr ⟨h0, g, cap, rfl, ho.below hb⟩
theorem OwnA.off {base : Nat} {w w' : World} {v : Value} {n : Nat} {f : Nat → Value} {S : List Nat} (h : OwnA base w v n f) (hb : Off S w w') (hd : ∀ g ∈ ablk v, g ∉ S) : OwnA base w' v n f := by
  rcases h with h | ⟨h0, g, cap, rfl, ho⟩
  · exact .inl h
  · have hg := hb.block g ho.2.1 (hd g (by rw [ablk_row h0]; simp))
    exact .inr ⟨h0, g, cap, rfl, ho.1, Nat.lt_of_lt_of_le ho.2.1 hb.size, fun i hi => by simp only [World.cell?, hg]; exact ho.2.2.1 i hi, fun i hi => by simp only [World.frozen?, hg]; exact ho.2.2.2 i hi⟩
theorem OwnA.mono {base base' : Nat} {w : World} {v : Value} {n : Nat} {f : Nat → Value} (h : OwnA base w v n f) (hb : base' ≤ base) : OwnA base' w v n f := by
  rcases h with h | ⟨h0, g, cap, rfl, ho⟩
  · exact .inl h
  · exact .inr ⟨h0, g, cap, rfl, ho.mono hb⟩
theorem OwnA.ints {base : Nat} {w : World} {v : Value} {zs : List Int} (h : OwnA base w v zs.length (fun i => .int .i64 (zs.getD i 0))) : IntsAt w v zs := by
  rcases h with ⟨h0, a, c, rfl⟩ | ⟨h0, g, cap, rfl, ho⟩
  · exact .inl ⟨a, c, rfl, List.eq_nil_of_length_eq_zero h0⟩
  · exact ho.intsL cap
theorem OwnA.ofRow {base : Nat} {w : World} {g n : Nat} {f : Nat → Value} (h : OwnRow base w g n f) (cap : Nat) : OwnA base w (.slice (some ⟨g, 0, none⟩) n cap) n f := by
  rcases Nat.eq_zero_or_pos n with h0 | h0
  · subst h0; exact .inl ⟨rfl, _, _, rfl⟩
  · exact .inr ⟨h0, g, cap, rfl, h⟩
def intsV (zs : List Int) : List Value := zs.map (Value.int .i64)
theorem OwnA.ofInts {base : Nat} {w : World} {v : Value} {zs : List Int} {e : TypeId} (h : OwnS w base e v zs.length (intsV zs)) : OwnA base w v zs.length (fun i => .int .i64 (zs.getD i 0)) ∧ ∀ g ∈ ablk v, g ∈ obl v := by
  rcases row_of_ownS h with ⟨h0, a, c, rfl⟩ | ⟨h0, g, cap, rfl, hg, ho⟩
  · exact ⟨.inl ⟨h0, a, c, rfl⟩, fun g hg => by rw [ablk_zero] at hg; cases hg⟩
  · exact ⟨.inr ⟨h0, g, cap, rfl, ho.congr fun i hi => by simp [intsV, List.getD, hi]⟩, fun x hx => by rw [ablk_row h0] at hx; simp at hx; subst hx; exact hg⟩
theorem off_gb {w w' : World} {g : Nat} (h : w.grownBy w' (some g)) : Off [g] w w' := ⟨h.os, h.tape, h.output, h.size, fun k hk hn => h.block k hk (fun e => by cases e; exact hn (by simp))⟩
set_option maxHeartbeats 1600000 in
theorem markIntE (base q n : Nat) (v : Value) (f : Nat → Value) (w : World) (h : OwnA base w v n f) (hn : ((q + n : Nat) : Int) < 10000000000000) (hf : ∀ i, i < n → ∃ x, f i = .int .i64 x) :
    Calls Try.prog 48 #[v, .int .i64 q] w fun e w' => e = .returned (.int .i64 ((q + n : Nat) : Int)) ∧ OwnA base w' v n (fun i => .int .i64 ((q + i : Nat) : Int)) ∧ Off (ablk v) w w' := by
  rcases h with ⟨h0, a, c, rfl⟩ | ⟨h0, g, cap, rfl, ho⟩
  · subst h0
    have hk : ((q + 0 : Nat) : Int) = (q : Int) := rfl
    rw [hk]
    clear hn hk
    go_enter Try.func48, Try.ntmps48
    go_wp2
    go_loopw [1, 5] (fun r i wr => i = .int .i64 0 ∧ r = .int .i64 q ∧ wr = w) (fun _ _ _ => 0)
    case atStart => exact ⟨rfl, rfl, rfl⟩
    case round =>
      obtain ⟨rfl, rfl, hw⟩ := hrel
      subst wr
      go_wp2
      go_ret
      exact ⟨rfl, .inl ⟨rfl, a, c, rfl⟩, Off.refl _ _⟩
  · refine (markIntO base g n cap q f w ho hn hf).mono ?_
    rintro e w' ⟨rfl, h1, h2⟩
    exact ⟨rfl, .inr ⟨h0, g, cap, rfl, h1⟩, by rw [ablk_row h0]; exact off_gb h2⟩
set_option maxHeartbeats 1600000 in
theorem heldIntE (base q n : Nat) (v : Value) (w : World) (h : OwnA base w v n (fun i => .int .i64 ((q + i : Nat) : Int))) (hn : ((q + n : Nat) : Int) < 10000000000000) :
    Calls Try.prog 49 #[v, .int .i64 q] w fun e w' => e = .returned (.int .i64 ((q + n : Nat) : Int)) ∧ Below w.heap.size w w' := by
  rcases h with ⟨h0, a, c, rfl⟩ | ⟨h0, g, cap, rfl, ho⟩
  · subst h0
    have hk : ((q + 0 : Nat) : Int) = (q : Int) := rfl
    rw [hk]
    clear hn hk
    go_enter Try.func49, Try.ntmps49
    go_wp2
    go_loopw [1, 5] (fun r i wr => i = .int .i64 0 ∧ r = .int .i64 q ∧ wr = w) (fun _ _ _ => 0)
    case atStart => exact ⟨rfl, rfl, rfl⟩
    case round =>
      obtain ⟨rfl, rfl, hw⟩ := hrel
      subst wr
      go_wp2
      go_ret
      exact ⟨rfl, Below.refl _ _⟩
  · refine (heldIntO base g n cap q w ho hn).mono ?_
    rintro e w' ⟨rfl, rfl⟩
    exact ⟨rfl, Below.refl _ _⟩
theorem off_below {S : List Nat} {a b c : World} (h : Off S a b) (hb : Below b.heap.size b c) : Off S a c := h.trans (Off.of hb)
end Go.Proofs.Ytkkmnegmghllpaa
