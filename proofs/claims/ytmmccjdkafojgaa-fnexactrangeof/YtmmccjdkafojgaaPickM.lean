/- Marks of lists of texts. No condition. -/
import Derived.Test.YtmmccjdkafojgaaMarks
namespace Go.Proofs.Ytmmccjdkafojgaa
open Go.ChangeShapes Go.WideShapes Go.ChangeAt Go.RowKit Go.Deep
set_option linter.unusedVariables false
attribute [local go_sem ↓] Go.wp_at_zero Go.wp_at_succ

/-- What the library's own row gives. -/
theorem ownRow_of {w : World} {base : Nat} {e : TypeId} {v : Value} {n : Nat} {xs : List Value} (h : w.ownsRow base e 1 v n xs) (hn : 0 < n) :
    ∃ g cap, v = .slice (some ⟨g, 0, none⟩) n cap ∧ OwnRow base w g n (fun i => xs.getD i default) := by
  obtain ⟨hl, ⟨_, h0⟩ | ⟨g, cap, cur, rfl, hb, hcur, hc, hm, hs, ht⟩⟩ := h
  · omega
  · rw [Nat.mul_one] at hl hs ht
    have hlt : g < w.heap.size := by
      rcases Nat.lt_or_ge g w.heap.size with hlt | hge
      · exact hlt
      · rw [Array.getElem?_eq_none hge] at hcur; cases hcur
    refine ⟨g, cap, rfl, hb, hlt, fun i hi => ?_, fun i hi => ?_⟩
    · have : cur[i]? = some (xs.getD i default) := by
        have hx : xs[i]? = cur.toList[i]? := by rw [← ht, List.getElem?_take_of_lt hi]
        have hi2 : i < xs.length := by omega
        rw [List.getElem?_eq_getElem hi2] at hx
        rw [← Array.getElem?_toList, ← hx]
        simp [List.getD, hi2]
      simp [World.cell?, hcur, this]
    · simp [World.frozen?, hcur]
theorem markStrK (base g n cap q : Nat) (f : Nat → Value) (w : World) (h : OwnRow base w g n f) (hq : 1 ≤ q) (hn : q + n ≤ 99) (hf : ∀ i, i < n → ∃ x, f i = .string x) :
    Calls Try.prog 45 #[.slice (some ⟨g, 0, none⟩) n cap, .int .i64 q] w fun e w' => e = .returned (.int .i64 ((q + n : Nat) : Int)) ∧ OwnRow base w' g n (fun i => .string (mkT (q + i))) ∧ w.grownBy w' (some g) := by
  have HO : Hid (OwnRow base w g n f) := h
  have HF : Hid (∀ i, i < n → ∃ x, f i = .string x) := hf
  clear h hf
  go_enter Try.func45, Try.ntmps45
  go_wp2
  go_loopw [1, 5] (fun r i wr => ∃ k : Nat, k ≤ n ∧ i = .int .i64 k ∧ r = .int .i64 ((q + k : Nat) : Int) ∧ (∃ f', OwnRow base wr g n f' ∧ (∀ i, i < n → ∃ x, f' i = .string x) ∧ ∀ i, i < k → f' i = .string (mkT (q + i))) ∧ w.grownBy wr (some g)) (fun _ i _ => n - (intOf i).toNat)
  case atStart => exact ⟨0, Nat.zero_le _, rfl, rfl, ⟨f, HO.out, HF.out, fun i hi => by omega⟩, World.grownBy.refl _ _⟩
  case round =>
    obtain ⟨k, hk, rfl, rfl, ⟨f', ho, hx, hm⟩, hg⟩ := hrel
    by_cases hlt : k < n
    · have HO2 : Hid (OwnRow base wr g n f') := ho
      have HM : Hid (∀ i, i < k → f' i = .string (mkT (q + i))) := hm
      have HX : Hid (∀ i, i < n → ∃ x, f' i = .string x) := hx
      have HG : Hid (w.grownBy wr (some g)) := hg
      clear ho hm hg hx
      go_wp2_with fail
      refine (markT (q + k) _ (by omega) (by omega)).mono ?_
      rintro e w1 ⟨rfl, hb1⟩
      have HO3 : Hid (OwnRow base w1 g n f') := HO2.out.below hb1
      have HG3 : Hid (w.grownBy w1 (some g)) := HG.out.trans ⟨hb1.os, hb1.tape, hb1.output, hb1.size, fun k hk _ => hb1.block k hk⟩
      clear hb1
      have hc := HO3.out.2.2.1 k hlt
      have hfz := HO3.out.2.2.2 k hlt
      obtain ⟨x0, hx0⟩ := HX.out k hlt
      rw [hx0] at hc
      clear hx0
      go_wp2
      refine ⟨⟨k + 1, by omega, by go_num, by go_num, ⟨_, HO3.out.set hlt _, fun i hi => ?_, fun i hi => ?_⟩, gb_setG HG3.out _ _⟩, by simp [intOf]; omega⟩
      · by_cases e : i = k
        · exact ⟨_, by simp only [e, if_true]; rfl⟩
        · obtain ⟨x, hx⟩ := HX.out i hi
          exact ⟨x, by simp only [if_neg e]; exact hx⟩
      · by_cases e : i = k
        · simp only [e, if_true]
        · simp only [if_neg e]; exact HM.out i (by omega)
    · have hke : k = n := by omega
      subst hke
      go_wp2
      go_ret
      exact ⟨rfl, ho.congr hm, hg⟩
theorem heldStrK (base g n cap q : Nat) (w : World) (h : OwnRow base w g n (fun i => .string (mkT (q + i)))) (hq : 1 ≤ q) (hn : q + n ≤ 99) :
    Calls Try.prog 46 #[.slice (some ⟨g, 0, none⟩) n cap, .int .i64 q] w fun e w' => e = .returned (.int .i64 ((q + n : Nat) : Int)) ∧ Below w.heap.size w w' := by
  have HO : Hid (OwnRow base w g n (fun i => .string (mkT (q + i)))) := h
  have hgw : g < w.heap.size := h.2.1
  clear h
  go_enter Try.func46, Try.ntmps46
  go_wp2
  go_loopw [1, 5] (fun r i wr => ∃ k : Nat, k ≤ n ∧ i = .int .i64 k ∧ r = .int .i64 ((q + k : Nat) : Int) ∧ Below w.heap.size w wr) (fun _ i _ => n - (intOf i).toNat)
  case atStart => exact ⟨0, Nat.zero_le _, rfl, rfl, by go_grown⟩
  case round =>
    obtain ⟨k, hk, rfl, rfl, kb⟩ := hrel
    by_cases hlt : k < n
    · have hc : wr.cell? ⟨g, k, none⟩ = some (.string (mkT (q + k))) := (HO.out.below kb).2.2.1 k hlt
      have hsz := kb.size
      have hgr : g < wr.heap.size := by omega
      have HT := fun W => markT (q + k) W (by omega) (by omega)
      generalize mkT (q + k) = t at *
      go_upto_region 4 with fail
      go_region_held3 (fun w' => w'.cell? ⟨g, k, none⟩ = some (.string t)) (go_keep)
        (first
          | (go_at_call 94; refine (HT _).mono ?_; rintro e w1 ⟨rfl, hb1⟩; have hp1 := kept hb1 g (by go_size); have k1 : Below w.heap.size w w1 := (by exact Below.trans (by go_grown) (hb1.mono (by go_size))); clear hb1))
      all_goals go_wp2_with fail
      all_goals exact ⟨⟨k + 1, by omega, by go_num, by go_num, by go_grown⟩, by simp [intOf]; omega⟩
    · have hke : k = n := by omega
      subst hke
      go_wp2
      go_ret
      exact ⟨rfl, kb⟩
theorem markStrKNil (a : Option Addr) (c q : Nat) (w : World) : Calls Try.prog 45 #[.slice a 0 c, .int .i64 q] w fun e w' => e = .returned (.int .i64 q) ∧ w' = w := by
  go_enter Try.func45, Try.ntmps45
  go_wp2
  go_loop [1, 5] (fun r i => i = .int .i64 0 ∧ r = .int .i64 q) (fun _ _ => 0)
  case atStart => exact ⟨rfl, rfl⟩
  case round =>
    obtain ⟨rfl, rfl⟩ := hrel
    go_wp2
    go_ret
    exact ⟨rfl, rfl⟩
theorem heldStrKNil (a : Option Addr) (c q : Nat) (w : World) : Calls Try.prog 46 #[.slice a 0 c, .int .i64 q] w fun e w' => e = .returned (.int .i64 q) ∧ w' = w := by
  go_enter Try.func46, Try.ntmps46
  go_wp2
  go_loop [1, 5] (fun r i => i = .int .i64 0 ∧ r = .int .i64 q) (fun _ _ => 0)
  case atStart => exact ⟨rfl, rfl⟩
  case round =>
    obtain ⟨rfl, rfl⟩ := hrel
    go_wp2
    go_ret
    exact ⟨rfl, rfl⟩
end Go.Proofs.Ytmmccjdkafojgaa
