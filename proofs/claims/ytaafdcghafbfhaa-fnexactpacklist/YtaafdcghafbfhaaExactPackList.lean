/- At every list of numbers the function FnExactPackList returns true and leaves its argument as it was: PackList answers as its model does, and its answer owns its memory. No condition. -/
import Derived.Test.YtaafdcghafbfhaaPackL
import Derived.Test.YtaafdcghafbfhaaPkArg
import Derived.Lib.SmallJoins
namespace Go.Proofs.Ytaafdcghafbfhaa.fnExactPackList
open Go.ChangeShapes Go.WideShapes Go.ChangeAt Go.RowKit Go.Joins
open Go.ChangeMaps (open_string shut_string)
set_option linter.unusedVariables false
attribute [local go_sem ↓] Go.wp_at_zero Go.wp_at_succ
theorem hide {p : Prop} (h : p) : Hid p := h
theorem unhide {p : Prop} (h : Hid p) : p := h

set_option maxRecDepth 100000 in
set_option maxHeartbeats 6400000 in
theorem walk (v : Value) (l : List Int) (hm : l.length ≤ maxLen) (w : World) (hv : IntsAt w v l) :
    Calls Try.prog 5 #[v] w fun e w' => e = .returned (.bool true) ∧ Below w.heap.size w w' := by
  unfold maxLen at hm
  have HS := hide hv
  have HS0 := hide hv
  have HK : Hid (Below w.heap.size w w) := Below.refl _ _
  obtain ⟨va, vc, hve⟩ := hv.slice
  subst hve
  clear hv
  by_cases hbig : 1048576 < l.length
  · have hb1 : (1048576 : Int) < (l.length : Int) := by omega
    clear HS HS0 HK
    go_enter Try.func5, Try.ntmps5
    go_wp2
    go_returns
    exact ⟨rfl, by go_grown⟩
  have hb1 : ¬ (1048576 : Int) < (l.length : Int) := by omega
  have hl : l.length ≤ 1048576 := by omega
  obtain ⟨p, B, hp1, hp2, HSP, HIM⟩ : ∃ (p : Pk) (B : Bool), p.lows.length ≤ 60 ∧ p.high.length ≤ 180 ∧
      (∀ x W, IntsAt W x l → Calls Try.prog 15 #[x] W fun e w' => ∃ lv hv, e = .returned (.tuple #[.agg #[.int .i64 p.many, .int .i64 p.low, lv, hv], .bool B]) ∧ PkA W.heap.size w' lv hv p ∧ Below W.heap.size W w') ∧
      (∀ x W, IntsAt W x l → Calls Try.prog 14 #[x] W fun e w' => ∃ lv hv, e = .returned (.tuple #[.agg #[.int .i64 p.many, .int .i64 p.low, lv, hv], .bool B]) ∧ PkA W.heap.size w' lv hv p ∧ Below W.heap.size W w') := by
    by_cases hg : GoodL l
    · have h1 := high_len hg
      have h2 := hg.1
      exact ⟨packM l, true, by simp [packM]; omega, by simp only [packM]; omega, fun x W h => specPackYes x l W h hg, fun x W h => implPackYes x l W h hg⟩
    · have hno : ∀ (W w' : World) (e : Ending), (e = .returned (.tuple #[.agg #[.int .i64 0, .int .i64 0, .slice none 0 0, .slice none 0 0], .bool false]) ∧ Below W.heap.size W w') → ∃ lv hv, e = .returned (.tuple #[.agg #[.int .i64 0, .int .i64 0, lv, hv], .bool false]) ∧ PkA W.heap.size w' lv hv ⟨0, 0, [], []⟩ ∧ Below W.heap.size W w' := by
        rintro W w' e ⟨rfl, hb⟩
        exact ⟨_, _, rfl, ⟨.inl ⟨rfl, _, _, rfl⟩, .inl ⟨rfl, _, _, rfl⟩, fun g hg => by simp [ablk] at hg⟩, hb⟩
      exact ⟨⟨0, 0, [], []⟩, false, by simp, by simp, fun x W h => (specPackNo x l W h hl hg).mono (fun e w' h => hno W w' e h), fun x W h => (implPackNo x l W h hl hg).mono (fun e w' h => hno W w' e h)⟩
  have HTO : ∀ x W, IntsAt W x l → Calls Try.prog 37 #[x] W fun e w' => ∃ g, e = .returned (.slice (some ⟨g, 0, none⟩) l.length l.length) ∧ OwnRow W.heap.size w' g l.length (fun i => .int .i64 (l.getD i 0)) ∧ Below W.heap.size W w' := fun x W h => (toIntO x l W h hl).mono (fun e w' h => ⟨_, h⟩)
  have HEI := fun x y W h g => eqIntB x y l l W h g hl hl rfl
  have HEQ := fun a b c d W h g => eqPk p a b c d W h g (by omega) (by omega)
  have hbn : (B != B) = false := by cases B <;> rfl
  obtain ⟨X, hX⟩ : ∃ X : Nat, X = 1 + l.length := ⟨_, rfl⟩
  obtain ⟨N, hN⟩ : ∃ N : Nat, N = 1 + p.lows.length + p.high.length := ⟨_, rfl⟩
  have hX0 : decide ((X : Int) < 0) = false := decide_eq_false (by omega)
  have hN0 : ¬ (N : Int) < 0 := by omega
  have hNN : ((N : Int) != (N : Int)) = false := by simp
  have HMX := fun b x W (h : OwnA b W x l.length (fun i => .int .i64 (l.getD i 0))) => markIntE b 1 l.length x _ W h (by omega) (fun i _ => ⟨_, rfl⟩)
  have HMP := fun b c d W (h : PkA b W c d p) => markPk b 1 p p.many p.low c d W h (by omega)
  have HHP := fun b c d W (h : PkMk b W c d p.lows.length p.high.length 1) => heldPk b p.lows.length p.high.length 1 p.many p.low c d W h (by omega)
  simp only [show ((1 : Nat) : Int) = 1 from rfl] at HMX HMP HHP
  rw [← hX] at HMX
  rw [← hN] at HMP HHP
  obtain ⟨M, hMm⟩ : ∃ M, M = p.many := ⟨_, rfl⟩
  obtain ⟨L, hLl⟩ : ∃ L, L = p.low := ⟨_, rfl⟩
  rw [← hMm, ← hLl] at HMP HHP HEQ HSP HIM
  clear hX hN hMm hLl hm hbig hp1 hp2
  go_enter Try.func5, Try.ntmps5
  go_wp2_with fail
  refine (HTO _ _ ((unhide HS).below (by go_grown))).mono ?_
  rintro e w1 ⟨g1, rfl, hu, hx1⟩
  have hb1 : Below w.heap.size w w1 := Below.trans (by go_grown) (hx1.mono (by go_size))
  replace HS := hide ((unhide HS).below hb1)
  replace HK := hide ((unhide HK).trans (hb1.mono (unhide HK).size))
  have HU := hide (hu.intsL l.length)
  clear hu
  go_wp2_with fail
  refine (HSP _ _ (unhide HU)).mono ?_
  rintro e w2 ⟨wl, wh, rfl, hw, hx2⟩
  have hb2 : Below w1.heap.size w1 w2 := Below.trans (by go_grown) (hx2.mono (by go_size))
  replace HS := hide ((unhide HS).below hb2)
  replace HK := hide ((unhide HK).trans (hb2.mono (unhide HK).size))
  have HW := hide hw
  have HWL : Hid (∀ g ∈ ablk wl ++ ablk wh, g < w2.heap.size) := fun g hg => by
    rcases List.mem_append.1 hg with h | h
    · exact (hw.1.lt g h).2
    · exact (hw.2.1.lt g h).2
  obtain ⟨wa, wc, hwe⟩ := hw.1.slice
  subst hwe
  obtain ⟨ya, yc, hye⟩ := hw.2.1.slice
  subst hye
  have HZ2 : Hid (w.heap.size ≤ w2.heap.size) := (unhide HK).size
  clear hw HU hx1 hb1
  go_wp2_with fail
  refine (HTO _ _ ((unhide HS).below (by go_grown))).mono ?_
  rintro e w3 ⟨g3, rfl, hu, hx3⟩
  have hb3 : Below w2.heap.size w2 w3 := Below.trans (by go_grown) (hx3.mono (by go_size))
  replace HS := hide ((unhide HS).below hb3)
  replace HW := hide ((unhide HW).below hb3)
  replace HK := hide ((unhide HK).trans (hb3.mono (unhide HK).size))
  have qBX := boxOf1 hx3
  have BX := hide qBX
  clear qBX
  have BXz := (unhide BX).1
  have BXc0 := (unhide BX).2.1 0 _ rfl
  have BXc1 := (unhide BX).2.1 1 _ rfl
  have BXc2 := (unhide BX).2.1 2 _ rfl
  have BXc3 := (unhide BX).2.1 3 _ rfl
  have HG3 : Hid (w2.heap.size < g3 ∧ g3 < w3.heap.size) := ⟨by have := hu.1; simp at this; omega, hu.2.1⟩
  have HX := hide (OwnA.ofRow hu l.length)
  have HXA := hide (hu.intsL l.length)
  clear hu hx2 hb2
  go_wp2_with fail
  refine (HIM _ _ (unhide HXA)).mono ?_
  rintro e w4 ⟨gl, gh, rfl, hg, hx4⟩
  have hb4 : Below w3.heap.size w3 w4 := Below.trans (by go_grown) (hx4.mono (by go_size))
  replace HS := hide ((unhide HS).below hb4)
  replace HW := hide ((unhide HW).below hb4)
  (try clear BXz BXc0 BXc1 BXc2 BXc3)
  replace BX := hide ((unhide BX).below hb4)
  have BXz := (unhide BX).1
  have BXc0 := (unhide BX).2.1 0 _ rfl
  have BXc1 := (unhide BX).2.1 1 _ rfl
  have BXc2 := (unhide BX).2.1 2 _ rfl
  have BXc3 := (unhide BX).2.1 3 _ rfl
  replace HX := hide ((unhide HX).below hb4)
  replace HXA := hide ((unhide HXA).below hb4)
  replace HK := hide ((unhide HK).trans (hb4.mono (unhide HK).size))
  have HG := hide hg
  have HGL : Hid (∀ g ∈ ablk gl ++ ablk gh, w3.heap.size ≤ g ∧ g < w4.heap.size) := fun g hh => by
    rcases List.mem_append.1 hh with h | h
    · exact hg.1.lt g h
    · exact hg.2.1.lt g h
  obtain ⟨ga, gc, hge⟩ := hg.1.slice
  subst hge
  obtain ⟨ka, kc, hke⟩ := hg.2.1.slice
  subst hke
  have HZ4 : Hid (w3.heap.size ≤ w4.heap.size) := hb4.size
  clear hg hx3 hb3
  go_wp2_with fail
  refine (HEQ _ _ _ _ _ ((unhide HG).at.below (by go_grown)) ((unhide HW).at.below (by go_grown))).mono ?_
  rintro e w5 ⟨rfl, hx5⟩
  have hb5 : Below w4.heap.size w4 w5 := Below.trans (by go_grown) (hx5.mono (by go_size))
  replace HS := hide ((unhide HS).below hb5)
  replace HW := hide ((unhide HW).below hb5)
  (try clear BXz BXc0 BXc1 BXc2 BXc3)
  replace BX := hide ((unhide BX).below hb5)
  have BXz := (unhide BX).1
  have BXc0 := (unhide BX).2.1 0 _ rfl
  have BXc1 := (unhide BX).2.1 1 _ rfl
  have BXc2 := (unhide BX).2.1 2 _ rfl
  have BXc3 := (unhide BX).2.1 3 _ rfl
  replace HX := hide ((unhide HX).below hb5)
  replace HXA := hide ((unhide HXA).below hb5)
  replace HG := hide ((unhide HG).below hb5)
  replace HK := hide ((unhide HK).trans (hb5.mono (unhide HK).size))
  have qBY := boxOf1 hx5
  have BY := hide qBY
  clear qBY
  have BYz := (unhide BY).1
  have BYc0 := (unhide BY).2.1 0 _ rfl
  have BYc1 := (unhide BY).2.1 1 _ rfl
  have BYc2 := (unhide BY).2.1 2 _ rfl
  have BYc3 := (unhide BY).2.1 3 _ rfl
  clear hx4 hb4
  go_wp2_with fail
  refine (HTO _ _ ((unhide HS).below (by go_grown))).mono ?_
  rintro e w6 ⟨g6, rfl, hu, hx6⟩
  have hb6 : Below w5.heap.size w5 w6 := Below.trans (by go_grown) (hx6.mono (by go_size))
  replace HS := hide ((unhide HS).below hb6)
  replace HW := hide ((unhide HW).below hb6)
  (try clear BXz BXc0 BXc1 BXc2 BXc3)
  replace BX := hide ((unhide BX).below hb6)
  have BXz := (unhide BX).1
  have BXc0 := (unhide BX).2.1 0 _ rfl
  have BXc1 := (unhide BX).2.1 1 _ rfl
  have BXc2 := (unhide BX).2.1 2 _ rfl
  have BXc3 := (unhide BX).2.1 3 _ rfl
  replace HX := hide ((unhide HX).below hb6)
  replace HXA := hide ((unhide HXA).below hb6)
  replace HG := hide ((unhide HG).below hb6)
  (try clear BYz BYc0 BYc1 BYc2 BYc3)
  replace BY := hide ((unhide BY).below hb6)
  have BYz := (unhide BY).1
  have BYc0 := (unhide BY).2.1 0 _ rfl
  have BYc1 := (unhide BY).2.1 1 _ rfl
  have BYc2 := (unhide BY).2.1 2 _ rfl
  have BYc3 := (unhide BY).2.1 3 _ rfl
  replace HK := hide ((unhide HK).trans (hb6.mono (unhide HK).size))
  have HU := hide (hu.intsL l.length)
  clear hu hx5 hb5
  go_wp2_with fail
  refine (HEI _ _ _ (unhide HXA) (unhide HU)).mono ?_
  rintro e w7 ⟨rfl, hx7⟩
  have hb7 : Below w6.heap.size w6 w7 := Below.trans (by go_grown) (hx7.mono (by go_size))
  replace HS := hide ((unhide HS).below hb7)
  replace HW := hide ((unhide HW).below hb7)
  (try clear BXz BXc0 BXc1 BXc2 BXc3)
  replace BX := hide ((unhide BX).below hb7)
  have BXz := (unhide BX).1
  have BXc0 := (unhide BX).2.1 0 _ rfl
  have BXc1 := (unhide BX).2.1 1 _ rfl
  have BXc2 := (unhide BX).2.1 2 _ rfl
  have BXc3 := (unhide BX).2.1 3 _ rfl
  replace HX := hide ((unhide HX).below hb7)
  replace HXA := hide ((unhide HXA).below hb7)
  replace HG := hide ((unhide HG).below hb7)
  (try clear BYz BYc0 BYc1 BYc2 BYc3)
  replace BY := hide ((unhide BY).below hb7)
  have BYz := (unhide BY).1
  have BYc0 := (unhide BY).2.1 0 _ rfl
  have BYc1 := (unhide BY).2.1 1 _ rfl
  have BYc2 := (unhide BY).2.1 2 _ rfl
  have BYc3 := (unhide BY).2.1 3 _ rfl
  replace HK := hide ((unhide HK).trans (hb7.mono (unhide HK).size))
  clear HU hx6 hb6
  go_wp2_with fail
  refine (HMX _ _ _ (unhide HX)).mono ?_
  rintro e w8 ⟨rfl, hmx, ho8⟩
  have hab : ∀ g, g ∈ ablk (.slice (some ⟨g3, 0, none⟩) l.length l.length) → g = g3 := fun g hg => by
    rcases Nat.eq_zero_or_pos l.length with h0 | h0
    · rw [h0, ablk_zero] at hg; cases hg
    · rw [ablk_row h0] at hg; simpa using hg
  have hz2 := (unhide HG3).1
  have hz3 := (unhide HG3).2
  have hzw : w.heap.size ≤ w2.heap.size := HZ2.out
  have k8 : Below w.heap.size w7 w8 := ho8.below (unhide HK).size (fun g hg => by rw [hab g hg]; omega)
  replace HW := hide ((unhide HW).off ho8 (fun g hg hm => by have h1 := HWL.out g hg; rw [hab g hm] at h1; omega))
  replace HG := hide ((unhide HG).off ho8 (fun g hg hm => by have h1 := HGL.out g hg; rw [hab g hm] at h1; omega))
  replace BX := hide ((unhide BX).offI ho8 (fun hm => by have h1 := hab _ hm; omega))
  replace BY := hide ((unhide BY).offI ho8 (fun hm => by have h1 := hab _ hm; have h2 := HZ4.out; omega))
  replace HK := hide ((unhide HK).trans k8)
  replace HS := hide ((unhide HS0).below (unhide HK))
  clear hmx k8 ho8 HX HXA BXz BXc0 BXc1 BXc2 BXc3 BYz BYc0 BYc1 BYc2 BYc3 hx7 hb7
  have BXz := (unhide BX).1
  have BXc0 := (unhide BX).2.1 0 _ rfl
  have BXc1 := (unhide BX).2.1 1 _ rfl
  have BXc2 := (unhide BX).2.1 2 _ rfl
  have BXc3 := (unhide BX).2.1 3 _ rfl
  have BYz := (unhide BY).1
  have BYc0 := (unhide BY).2.1 0 _ rfl
  have BYc1 := (unhide BY).2.1 1 _ rfl
  have BYc2 := (unhide BY).2.1 2 _ rfl
  have BYc3 := (unhide BY).2.1 3 _ rfl
  go_wp2_with fail
  refine (HEQ _ _ _ _ _ ((unhide HG).at.below (by go_grown)) ((unhide HW).at.below (by go_grown))).mono ?_
  rintro e w9 ⟨rfl, hx9⟩
  have hb9 : Below w8.heap.size w8 w9 := Below.trans (by go_grown) (hx9.mono (by go_size))
  replace HS := hide ((unhide HS).below hb9)
  replace HW := hide ((unhide HW).below hb9)
  (try clear BXz BXc0 BXc1 BXc2 BXc3)
  replace BX := hide ((unhide BX).below hb9)
  have BXz := (unhide BX).1
  have BXc0 := (unhide BX).2.1 0 _ rfl
  have BXc1 := (unhide BX).2.1 1 _ rfl
  have BXc2 := (unhide BX).2.1 2 _ rfl
  have BXc3 := (unhide BX).2.1 3 _ rfl
  replace HG := hide ((unhide HG).below hb9)
  (try clear BYz BYc0 BYc1 BYc2 BYc3)
  replace BY := hide ((unhide BY).below hb9)
  have BYz := (unhide BY).1
  have BYc0 := (unhide BY).2.1 0 _ rfl
  have BYc1 := (unhide BY).2.1 1 _ rfl
  have BYc2 := (unhide BY).2.1 2 _ rfl
  have BYc3 := (unhide BY).2.1 3 _ rfl
  replace HK := hide ((unhide HK).trans (hb9.mono (unhide HK).size))
  go_wp2_with fail
  refine (HMP _ _ _ _ (unhide HG)).mono ?_
  rintro e w10 ⟨rfl, hmp, ho10⟩
  have HMK := hide hmp
  have hz2 := (unhide HG3).1
  have hz3 := (unhide HG3).2
  have hzw : w.heap.size ≤ w2.heap.size := HZ2.out
  have hab : ∀ g, g ∈ ablk (.slice ga p.lows.length gc) ++ ablk (.slice ka p.high.length kc) → w3.heap.size ≤ g ∧ g < w4.heap.size := fun g hg => HGL.out g hg
  have k10 : Below w.heap.size w9 w10 := ho10.below (unhide HK).size (fun g hg => by have := (hab g hg).1; omega)
  replace HW := hide ((unhide HW).off ho10 (fun g hg hm => by have h1 := HWL.out g hg; have h2 := (hab g hm).1; omega))
  replace BX := hide ((unhide BX).offI ho10 (fun hm => by have h1 := (hab _ hm).1; omega))
  replace BY := hide ((unhide BY).offI ho10 (fun hm => by have h1 := (hab _ hm).2; omega))
  replace HK := hide ((unhide HK).trans k10)
  replace HS := hide ((unhide HS0).below (unhide HK))
  clear hmp k10 ho10 HG BXz BXc0 BXc1 BXc2 BXc3 BYz BYc0 BYc1 BYc2 BYc3 hx9 hb9
  have BXz := (unhide BX).1
  have BXc0 := (unhide BX).2.1 0 _ rfl
  have BXc1 := (unhide BX).2.1 1 _ rfl
  have BXc2 := (unhide BX).2.1 2 _ rfl
  have BXc3 := (unhide BX).2.1 3 _ rfl
  have BYz := (unhide BY).1
  have BYc0 := (unhide BY).2.1 0 _ rfl
  have BYc1 := (unhide BY).2.1 1 _ rfl
  have BYc2 := (unhide BY).2.1 2 _ rfl
  have BYc3 := (unhide BY).2.1 3 _ rfl
  go_wp2_with fail
  refine (HHP _ _ _ _ (unhide HMK)).mono ?_
  rintro e w11 ⟨rfl, hx11⟩
  have hb11 : Below w10.heap.size w10 w11 := Below.trans (by go_grown) (hx11.mono (by go_size))
  replace HS := hide ((unhide HS).below hb11)
  replace HW := hide ((unhide HW).below hb11)
  (try clear BXz BXc0 BXc1 BXc2 BXc3)
  replace BX := hide ((unhide BX).below hb11)
  have BXz := (unhide BX).1
  have BXc0 := (unhide BX).2.1 0 _ rfl
  have BXc1 := (unhide BX).2.1 1 _ rfl
  have BXc2 := (unhide BX).2.1 2 _ rfl
  have BXc3 := (unhide BX).2.1 3 _ rfl
  replace HMK := hide ((unhide HMK).below hb11)
  (try clear BYz BYc0 BYc1 BYc2 BYc3)
  replace BY := hide ((unhide BY).below hb11)
  have BYz := (unhide BY).1
  have BYc0 := (unhide BY).2.1 0 _ rfl
  have BYc1 := (unhide BY).2.1 1 _ rfl
  have BYc2 := (unhide BY).2.1 2 _ rfl
  have BYc3 := (unhide BY).2.1 3 _ rfl
  replace HK := hide ((unhide HK).trans (hb11.mono (unhide HK).size))
  go_wp2_with fail
  refine (HTO _ _ ((unhide HS).below (by go_grown))).mono ?_
  rintro e w12 ⟨g12, rfl, hu, hx12⟩
  have hb12 : Below w11.heap.size w11 w12 := Below.trans (by go_grown) (hx12.mono (by go_size))
  replace HS := hide ((unhide HS).below hb12)
  replace HW := hide ((unhide HW).below hb12)
  (try clear BXz BXc0 BXc1 BXc2 BXc3)
  replace BX := hide ((unhide BX).below hb12)
  have BXz := (unhide BX).1
  have BXc0 := (unhide BX).2.1 0 _ rfl
  have BXc1 := (unhide BX).2.1 1 _ rfl
  have BXc2 := (unhide BX).2.1 2 _ rfl
  have BXc3 := (unhide BX).2.1 3 _ rfl
  replace HMK := hide ((unhide HMK).below hb12)
  (try clear BYz BYc0 BYc1 BYc2 BYc3)
  replace BY := hide ((unhide BY).below hb12)
  have BYz := (unhide BY).1
  have BYc0 := (unhide BY).2.1 0 _ rfl
  have BYc1 := (unhide BY).2.1 1 _ rfl
  have BYc2 := (unhide BY).2.1 2 _ rfl
  have BYc3 := (unhide BY).2.1 3 _ rfl
  replace HK := hide ((unhide HK).trans (hb12.mono (unhide HK).size))
  have HU := hide (hu.intsL l.length)
  clear hu hx11 hb11
  go_wp2_with fail
  refine (HIM _ _ (unhide HU)).mono ?_
  rintro e w13 ⟨hl, hh, rfl, hg, hx13⟩
  have hb13 : Below w12.heap.size w12 w13 := Below.trans (by go_grown) (hx13.mono (by go_size))
  replace HW := hide ((unhide HW).below hb13)
  (try clear BXz BXc0 BXc1 BXc2 BXc3)
  replace BX := hide ((unhide BX).below hb13)
  have BXz := (unhide BX).1
  have BXc0 := (unhide BX).2.1 0 _ rfl
  have BXc1 := (unhide BX).2.1 1 _ rfl
  have BXc2 := (unhide BX).2.1 2 _ rfl
  have BXc3 := (unhide BX).2.1 3 _ rfl
  replace HMK := hide ((unhide HMK).below hb13)
  (try clear BYz BYc0 BYc1 BYc2 BYc3)
  replace BY := hide ((unhide BY).below hb13)
  have BYz := (unhide BY).1
  have BYc0 := (unhide BY).2.1 0 _ rfl
  have BYc1 := (unhide BY).2.1 1 _ rfl
  have BYc2 := (unhide BY).2.1 2 _ rfl
  have BYc3 := (unhide BY).2.1 3 _ rfl
  replace HK := hide ((unhide HK).trans (hb13.mono (unhide HK).size))
  have HG := hide hg
  obtain ⟨ua, uc, hue⟩ := hg.1.slice
  subst hue
  obtain ⟨oa, oc, hoe⟩ := hg.2.1.slice
  subst hoe
  clear hg hx12 hb12 HU
  go_wp2_with fail
  refine (HEQ _ _ _ _ _ ((unhide HG).at.below (by go_grown)) ((unhide HW).at.below (by go_grown))).mono ?_
  rintro e w14 ⟨rfl, hx14⟩
  have hb14 : Below w13.heap.size w13 w14 := Below.trans (by go_grown) (hx14.mono (by go_size))
  replace HMK := hide ((unhide HMK).below hb14)
  (try clear BYz BYc0 BYc1 BYc2 BYc3)
  replace BY := hide ((unhide BY).below hb14)
  have BYz := (unhide BY).1
  have BYc0 := (unhide BY).2.1 0 _ rfl
  have BYc1 := (unhide BY).2.1 1 _ rfl
  have BYc2 := (unhide BY).2.1 2 _ rfl
  have BYc3 := (unhide BY).2.1 3 _ rfl
  replace HK := hide ((unhide HK).trans (hb14.mono (unhide HK).size))
  clear hx13 hb13 HG HW
  go_wp2_with fail
  refine (HHP _ _ _ _ (unhide HMK)).mono ?_
  rintro e w15 ⟨rfl, hx15⟩
  have hb15 : Below w14.heap.size w14 w15 := Below.trans (by go_grown) (hx15.mono (by go_size))
  replace HMK := hide ((unhide HMK).below hb15)
  replace HK := hide ((unhide HK).trans (hb15.mono (unhide HK).size))
  have hfin := unhide HK
  go_wp2_with fail
  go_returns
  exact ⟨rfl, hfin⟩

theorem own : ownKnob Try.prog.godebug = none := by kernel_rfl
theorem laidOut : laidOutB Try.prog = true := by kernel_rfl
set_option maxRecDepth 100000 in
theorem lifted (os : Os) (started : os.Started) (H : Type) (enc : TypeId × Value → H) :
    ReturnsInHanded {} Try.checked os 5 .any (Rows.fnExactPackListSpec.pre6 enc Try.prog Try.f5 Rows.fnExactPackListRow.domain false) (Rows.fnExactPackListSpec.post enc Try.prog Try.f5 false true false false) := by
  refine returnsInHanded_of_change (C := Try.checked) own started (by kernel_rfl) Try.func5
    (ChangeSpec.witness6 (enc := enc) (C := Try.checked) false ⟨#[], #[.slice none 0 0], []⟩ 8 (by kernel_rfl) (by kernel_rfl) (by kernel_rfl) (by kernel_rfl)) ?_
  intro W base args ds gs before hval0 hW hcnd _
  have hval : ∀ (j : Nat) t v, Try.f5.params[j]? = some t → args[j]? = some v → Value.okWide Try.prog W .any base t v := hval0
  have hW' := hW
  obtain ⟨p, q, hA0, hV, rfl, hfz, hnd⟩ := hW
  have hA : DataW.TrodAll enc Try.prog W 0 (fun _ => true) true Try.f5.params.toList args.toList ds p := hA0
  rw [Try.params5] at hA hval
  obtain ⟨v0, vs0, d0, ds0, p0, q0, hargs, rfl, rfl, h0, r0⟩ := trodAll_cons hA
  obtain ⟨rfl, rfl, rfl⟩ := trodAll_nil r0
  obtain rfl : args = #[v0] := by cases args; simp_all
  obtain ⟨rfl, rfl⟩ := trodVars_none hV
  obtain ⟨ad0, len0, cap0, rfl⟩ := okWide_slice Try.underlying23 (hval 0 23 v0 rfl rfl)
  have kk0 := h0
  have lt0 : ∀ x ∈ p0, x.block < W.heap.size := by obtain ⟨m, hm⟩ := kk0; exact DataW.trod_lt m _ _ _ hm
  obtain ⟨zs0, hss0, hsl0⟩ := ints_of h0
  clear hA0 hval0
  refine (walk _ zs0 hsl0 W hss0).mono fun e W' ⟨he, bel⟩ => ?_
  subst he
  exact ⟨_, rfl, _, _, _, [], _, [], hW', trodAll_mk1 (shut_bool Try.underlying4 _), (trodAll_cons_mk (Below.trod laidOut (by kernel_rfl) (of_decide_eq_true (by kernel_rfl)) kk0 bel lt0) trodAll_mk0), rfl, bel.frame _, fun h => by cases h⟩

theorem over : Rows.fnExactPackListRow.holds Try.pinned (OpenSpec.ofChange Rows.fnExactPackListSpec) :=
  OpenClaim.holds_of_wide 5 Try.f5 rfl rfl rfl rfl rfl rfl rfl ⟨rfl, rfl, rfl, rfl, rfl⟩ rfl rfl rfl rfl rfl (by kernel_rfl) Try.func5 (by kernel_rfl)
    (of_decide_eq_true (by kernel_rfl)) (by unfold Func.isWrapper; first | (rw [if_pos (by decide +kernel)]; kernel_rfl) | (rw [if_neg (by decide +kernel)]; exact ⟨rfl, rfl⟩))
    (fun os started H enc _ => lifted os started H enc)
end Go.Proofs.Ytaafdcghafbfhaa.fnExactPackList
namespace Go.Proofs.Ytaafdcghafbfhaa
theorem fnExactPackList_holds : Rows.FnExactPackListSaid := fnExactPackList.over
#print axioms fnExactPackList_holds
end Go.Proofs.Ytaafdcghafbfhaa
