/- Contracts of the laws' marks in lists of values, and of lists of values held alike. Condition: the list lies in memory. -/
import Derived.Test.YtolkiofdbdjfkaaLawsW
namespace Go.Proofs.Ytolkiofdbdjfkaa
open Go.ChangeShapes Go.WideShapes Go.ChangeAt Go.RowKit Go.Deep
set_option linter.unusedVariables false
attribute [local go_sem ↓] Go.wp_at_zero Go.wp_at_succ

/-- What a marked cell holds. -/
def mf (c : Nat) : Value := if c % 3 = 2 then .string (mkT (c + 1)) else .int .i64 ((c + 1 : Nat) : Int)
set_option maxHeartbeats 6400000 in
theorem markVals (base g n cap : Nat) (f : Nat → Value) (w : World) (h : OwnRow base w g (n * 3) f) (hn : n ≤ 30) :
    Calls Try.prog 44 #[.slice (some ⟨g, 0, none⟩) n cap, .int .i64 1] w fun e w' => e = .returned (.int .i64 ((1 + n * 3 : Nat) : Int)) ∧ OwnRow base w' g (n * 3) mf ∧ w.grownBy w' (some g) := by
  have HO : Hid (OwnRow base w g (n * 3) f) := h
  clear h
  go_enter Try.func44, Try.ntmps44
  go_wp2
  go_loopw [1, 5] (fun r i wr => ∃ k : Nat, k ≤ n ∧ i = .int .i64 k ∧ r = .int .i64 ((1 + k * 3 : Nat) : Int) ∧ (∃ f', OwnRow base wr g (n * 3) f' ∧ ∀ c, c < k * 3 → f' c = mf c) ∧ w.grownBy wr (some g)) (fun _ i _ => n - (intOf i).toNat)
  case atStart => exact ⟨0, Nat.zero_le _, rfl, rfl, ⟨f, HO.out, fun c hc => by omega⟩, World.grownBy.refl _ _⟩
  case round =>
    obtain ⟨k, hk, rfl, rfl, ⟨f', ho, hm⟩, hg⟩ := hrel
    by_cases hlt : k < n
    · have HM : Hid (∀ c, c < k * 3 → f' c = mf c) := hm
      have HG : Hid (w.grownBy wr (some g)) := hg
      have hki : (k : Int) < (n : Int) := by omega
      have hk0 : (0 : Int) ≤ (k : Int) := by omega
      have s1 := ho.set (k := k * 3) (by omega) (.int .i64 (1 + (k : Int) * 3))
      have s2 := s1.set (k := k * 3 + 1) (by omega) (.int .i64 (1 + (k : Int) * 3 + 1))
      have c0 := ho.2.2.1 (k * 3) (by omega)
      have z0 := ho.2.2.2 (k * 3) (by omega)
      have c1 := ho.2.2.1 (k * 3 + 1) (by omega)
      have z1 := ho.2.2.2 (k * 3 + 1) (by omega)
      have HS2 : Hid _ := s2
      have HMT := fun W => markT (1 + k * 3 + 1 + 1) W (by omega) (by omega)
      simp only [show ((1 + k * 3 + 1 + 1 : Nat) : Int) = 1 + (k : Int) * 3 + 1 + 1 from by omega] at HMT
      have HMK : Hid (mkT (1 + k * 3 + 1 + 1) = mkT (k * 3 + 2 + 1)) := by show _ = _; rw [show 1 + k * 3 + 1 + 1 = k * 3 + 2 + 1 from by omega]
      generalize mkT (1 + k * 3 + 1 + 1) = tt at *
      have hgl := ho.2.1
      generalize f' (k * 3) = y0 at c0
      generalize f' (k * 3 + 1) = y1 at c1
      clear hm hg ho s1 s2
      go_wp2_with fail
      refine (HMT _).mono ?_
      rintro e w1 ⟨rfl, hb1⟩
      have ho1 := OwnRow.below HS2.out hb1
      have HG1 : Hid (w.grownBy w1 (some g)) := (gb_setG (gb_setG HG.out _ _) _ _).trans ⟨hb1.os, hb1.tape, hb1.output, hb1.size, fun k hk _ => hb1.block k hk⟩
      have c2 := ho1.2.2.1 (k * 3 + 2) (by omega)
      have z2 := ho1.2.2.2 (k * 3 + 2) (by omega)
      have s3 := OwnRow.set ho1 (k := k * 3 + 2) (by omega) (.string tt)
      have HS3 : Hid _ := s3
      clear hb1 HMT c0 c1 z0 z1 s3 ho1
      obtain ⟨y2, hy2⟩ : ∃ y, w1.cell? ⟨g, k * 3 + 2, none⟩ = some y := ⟨_, c2⟩
      clear c2
      go_wp2
      refine ⟨⟨k + 1, by omega, by go_num, by go_num, ⟨_, HS3.out, fun c hc => ?_⟩, gb_setG HG1.out _ _⟩, by simp [intOf]; omega⟩
      by_cases e2 : c = k * 3 + 2
      · rw [if_pos e2, e2]; unfold mf; rw [if_pos (by omega), HMK.out]
      · rw [if_neg e2]
        by_cases e1 : c = k * 3 + 1
        · rw [if_pos e1, e1]; unfold mf; rw [if_neg (by omega)]; congr 1; omega
        · rw [if_neg e1]
          by_cases e0 : c = k * 3
          · rw [if_pos e0, e0]; unfold mf; rw [if_neg (by omega)]; congr 1; omega
          · rw [if_neg e0]; exact HM.out c (by omega)
    · have hke : k = n := by omega
      subst hke
      go_wp2
      go_ret
      exact ⟨rfl, ho.congr hm, hg⟩
set_option maxHeartbeats 6400000 in
theorem heldVals (base g n cap : Nat) (w : World) (h : OwnRow base w g (n * 3) mf) (hn : n ≤ 30) :
    Calls Try.prog 45 #[.slice (some ⟨g, 0, none⟩) n cap, .int .i64 1] w fun e w' => e = .returned (.int .i64 ((1 + n * 3 : Nat) : Int)) ∧ Below w.heap.size w w' := by
  have HO : Hid (OwnRow base w g (n * 3) mf) := h
  clear h
  go_enter Try.func45, Try.ntmps45
  go_wp2
  go_loopw [1, 5] (fun r i wr => ∃ k : Nat, k ≤ n ∧ i = .int .i64 k ∧ r = .int .i64 ((1 + k * 3 : Nat) : Int) ∧ Below w.heap.size w wr) (fun _ i _ => n - (intOf i).toNat)
  case atStart => exact ⟨0, Nat.zero_le _, rfl, rfl, by go_grown⟩
  case round =>
    obtain ⟨k, hk, rfl, rfl, kb⟩ := hrel
    have kl := kb.size
    by_cases hlt : k < n
    · have ho := HO.out.below kb
      have hki : (k : Int) < (n : Int) := by omega
      have hk0 : (0 : Int) ≤ (k : Int) := by omega
      have c0 : wr.cell? ⟨g, k * 3, none⟩ = some (.int .i64 (1 + (k : Int) * 3)) := by
        rw [ho.2.2.1 (k * 3) (by omega)]; unfold mf; rw [if_neg (by omega)]; congr 2; omega
      have c1 : wr.cell? ⟨g, k * 3 + 1, none⟩ = some (.int .i64 (1 + (k : Int) * 3 + 1)) := by
        rw [ho.2.2.1 (k * 3 + 1) (by omega)]; unfold mf; rw [if_neg (by omega)]; congr 2; omega
      have c2 : wr.cell? ⟨g, k * 3 + 2, none⟩ = some (.string (mkT (1 + k * 3 + 1 + 1))) := by
        rw [ho.2.2.1 (k * 3 + 2) (by omega)]; unfold mf; rw [if_pos (by omega), show k * 3 + 2 + 1 = 1 + k * 3 + 1 + 1 from by omega]
      have hgl := ho.2.1
      have HMT := fun W => markT (1 + k * 3 + 1 + 1) W (by omega) (by omega)
      simp only [show ((1 + k * 3 + 1 + 1 : Nat) : Int) = 1 + (k : Int) * 3 + 1 + 1 from by omega] at HMT
      generalize mkT (1 + k * 3 + 1 + 1) = tt at *
      clear ho
      go_upto_region 10 with fail
      go_region_held3 (fun w' => w'.cell? ⟨g, k * 3 + 2, none⟩ = some (.string tt)) (go_keep)
        (first
          | (go_at_call 66; refine (HMT _).mono ?_; rintro e w1 ⟨rfl, hb1⟩; have hp1 := kept hb1 g (by simp; omega); have k1 : Below w.heap.size w w1 := (by exact kb.trans ((Below.trans ((Below.refl wr.heap.size wr).drew) (hb1.mono (by simp))).mono kl)); clear hb1))
      all_goals go_wp2_with fail
      all_goals exact ⟨⟨k + 1, by omega, by go_num, by go_num, k1⟩, by simp [intOf]; omega⟩
    · have hke : k = n := by omega
      subst hke
      go_wp2
      go_ret
      exact ⟨rfl, kb⟩
theorem markValsNil (a : Option Addr) (c : Nat) (w : World) : Calls Try.prog 44 #[.slice a 0 c, .int .i64 1] w fun e w' => e = .returned (.int .i64 1) ∧ w' = w := by
  go_enter Try.func44, Try.ntmps44
  go_wp2
  go_loop [1, 5] (fun r i => i = .int .i64 0 ∧ r = .int .i64 1) (fun _ _ => 0)
  case atStart => exact ⟨rfl, rfl⟩
  case round =>
    obtain ⟨rfl, rfl⟩ := hrel
    go_wp2
    go_ret
    exact ⟨rfl, rfl⟩
theorem heldValsNil (a : Option Addr) (c : Nat) (w : World) : Calls Try.prog 45 #[.slice a 0 c, .int .i64 1] w fun e w' => e = .returned (.int .i64 1) ∧ w' = w := by
  go_enter Try.func45, Try.ntmps45
  go_wp2
  go_loop [1, 5] (fun r i => i = .int .i64 0 ∧ r = .int .i64 1) (fun _ _ => 0)
  case atStart => exact ⟨rfl, rfl⟩
  case round =>
    obtain ⟨rfl, rfl⟩ := hrel
    go_wp2
    go_ret
    exact ⟨rfl, rfl⟩
end Go.Proofs.Ytolkiofdbdjfkaa
