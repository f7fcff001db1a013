/- At every packed list the function FnExactUnpackList returns true and leaves its argument as it was: UnpackList answers as its model does, and its answer owns its memory. No condition. -/
import Derived.Test.YtaafdcghafbfhaaPkArg
import Derived.Test.YtaafdcghafbfhaaSpecW
import Derived.Test.YtaafdcghafbfhaaListW
import Derived.Lib.SmallJoins
namespace Go.Proofs.Ytaafdcghafbfhaa.fnExactUnpackList
open Go.ChangeShapes Go.WideShapes Go.ChangeAt Go.RowKit Go.Joins
open Go.ChangeMaps (open_string shut_string)
set_option linter.unusedVariables false
attribute [local go_sem ↓] Go.wp_at_zero Go.wp_at_succ
theorem hide {p : Prop} (h : p) : Hid p := h
theorem unhide {p : Prop} (h : Hid p) : p := h

set_option maxRecDepth 100000 in
set_option maxHeartbeats 6400000 in
theorem walk (p : Pk) (lv hv : Value) (hm : ReP p) (w : World) (hp : PkAt w lv hv p) :
    Calls Try.prog 7 #[.agg #[.int .i64 p.many, .int .i64 p.low, lv, hv]] w fun e w' => e = .returned (.bool true) ∧ Below w.heap.size w w' := by
  have HS := hide hp
  have HS0 := hide hp
  have HK : Hid (Below w.heap.size w w) := Below.refl _ _
  obtain ⟨la, lc, hle⟩ := hp.1.slice
  subst hle
  obtain ⟨ha, hc, hhe⟩ := hp.2.slice
  subst hhe
  clear hp
  by_cases hbig : 1048576 < amountP p
  · have HZ := fun M L W => szPkNo p la ha lc hc M L 1048576 W (by omega) hm.1 hm.2 hbig
    simp only [show ((1048576 : Nat) : Int) = 1048576 from rfl] at HZ
    obtain ⟨M, hM⟩ : ∃ M, M = p.many := ⟨_, rfl⟩
    obtain ⟨L, hL⟩ : ∃ L, L = p.low := ⟨_, rfl⟩
    rw [← hM, ← hL]
    clear hM hL
    go_enter Try.func7, Try.ntmps7
    go_wp2_with fail
    refine (HZ _ _ _).mono ?_
    rintro e w1 ⟨rfl, hx1⟩
    have hb1 : Below w.heap.size w w1 := Below.trans (by go_grown) (hx1.mono (by go_size))
    replace HS := hide ((unhide HS).below hb1)
    replace HK := hide ((unhide HK).trans (hb1.mono (unhide HK).size))
    have hfin := unhide HK
    go_wp2
    go_returns
    exact ⟨rfl, hfin⟩
  have HZ := fun M L W => szPkYes p la ha lc hc M L 1048576 W (by omega) hm.1 hm.2 (by omega)
  simp only [show ((1048576 : Nat) : Int) = 1048576 from rfl] at HZ
  have l1 : p.lows.length ≤ 1048576 := by unfold amountP at hbig; omega
  have l2 : p.high.length ≤ 1048576 := by unfold amountP at hbig; omega
  obtain ⟨B, A, hA⟩ := ans_ex p
  have h60 := hA.len
  have HSP : ∀ a b W, PkAt W a b p → Calls Try.prog 22 #[.agg #[.int .i64 p.many, .int .i64 p.low, a, b]] W fun e w' => ∃ x, e = .returned (.tuple #[x, .bool B]) ∧ OwnA W.heap.size w' x A.length (fun i => .int .i64 (A.getD i 0)) ∧ Below W.heap.size W w' := fun a b W h => (specUnpack p B A hA a b W h l1 l2).mono (fun e w' h => by
    obtain ⟨⟨x, h1, h2⟩, h3⟩ := h
    exact ⟨x, h1, (OwnA.ofInts h2).1, h3⟩)
  have HIM : ∀ a b W, PkAt W a b p → Calls Try.prog 17 #[.agg #[.int .i64 p.many, .int .i64 p.low, a, b]] W fun e w' => ∃ x, e = .returned (.tuple #[x, .bool B]) ∧ OwnA W.heap.size w' x A.length (fun i => .int .i64 (A.getD i 0)) ∧ Below W.heap.size W w' := fun a b W h => (implUnpack p B A hA a b W h l1 l2).mono (fun e w' h => by
    obtain ⟨⟨x, h1, h2⟩, h3⟩ := h
    exact ⟨x, h1, (OwnA.ofInts h2).1, h3⟩)
  have HTO : ∀ a b W, PkAt W a b p → Calls Try.prog 45 #[.agg #[.int .i64 p.many, .int .i64 p.low, a, b]] W fun e w' => ∃ ku vu, e = .returned (.agg #[.int .i64 p.many, .int .i64 p.low, ku, vu]) ∧ PkA W.heap.size w' ku vu p ∧ Below W.heap.size W w' := fun a b W h => (toPk p a b W h l1 l2).mono (fun e w' h => by
    obtain ⟨g, q, h1, h2, h3⟩ := h
    exact ⟨_, _, h1, h2.a _ _, h3⟩)
  have HEQ := fun a b c d W h g => eqPk p a b c d W h g l1 l2
  have HEI := fun x y W h g => eqIntB x y A A W h g (by omega) (by omega) rfl
  have hbn : (B != B) = false := by cases B <;> rfl
  obtain ⟨X, hX⟩ : ∃ X : Nat, X = 1 + p.lows.length + p.high.length := ⟨_, rfl⟩
  obtain ⟨N, hN⟩ : ∃ N : Nat, N = 1 + A.length := ⟨_, rfl⟩
  have hX0 : decide ((X : Int) < 0) = false := decide_eq_false (by omega)
  have hN0 : ¬ (N : Int) < 0 := by omega
  have hNN : ((N : Int) != (N : Int)) = false := by simp
  have HMG := fun b x W (h : OwnA b W x A.length (fun i => .int .i64 (A.getD i 0))) => markIntE b 1 A.length x _ W h (by omega) (fun i _ => ⟨_, rfl⟩)
  have HHG := fun b x W (h : OwnA b W x A.length (fun i => .int .i64 ((1 + i : Nat) : Int))) => heldIntE b 1 A.length x W h (by omega)
  have HMP := fun b M L c d W (h : PkA b W c d p) => markPk b 1 p M L c d W h (by omega)
  simp only [show ((1 : Nat) : Int) = 1 from rfl] at HMG HHG HMP
  rw [← hX] at HMP
  rw [← hN] at HMG HHG
  clear hX hN
  obtain ⟨M, hM⟩ : ∃ M, M = p.many := ⟨_, rfl⟩
  obtain ⟨L, hL⟩ : ∃ L, L = p.low := ⟨_, rfl⟩
  rw [← hM, ← hL] at HSP HIM HTO HEQ
  rw [← hM, ← hL]
  clear hM hL hA hm l1 l2 hbig
  generalize 1048576 - amountP p = z at *
  have hz : ¬ (z : Int) < 0 := by omega
  go_enter Try.func7, Try.ntmps7
  go_wp2_with fail
  refine (HZ _ _ _).mono ?_
  rintro e w1 ⟨rfl, hx1⟩
  have hb1 : Below w.heap.size w w1 := Below.trans (by go_grown) (hx1.mono (by go_size))
  replace HS := hide ((unhide HS).below hb1)
  replace HK := hide ((unhide HK).trans (hb1.mono (unhide HK).size))
  have qBX := boxOf1 hx1
  have BX := hide qBX
  clear qBX
  have BXz := (unhide BX).1
  have BXc0 := (unhide BX).2.1 0 _ rfl
  have BXc1 := (unhide BX).2.1 1 _ rfl
  have BXc2 := (unhide BX).2.1 2 _ rfl
  have BXc3 := (unhide BX).2.1 3 _ rfl
  go_wp2_with fail
  refine (HTO _ _ _ (unhide HS)).mono ?_
  rintro e w2 ⟨u1, u2, rfl, hu, hx2⟩
  have hb2 : Below w1.heap.size w1 w2 := Below.trans (by go_grown) (hx2.mono (by go_size))
  replace HS := hide ((unhide HS).below hb2)
  (try clear BXz BXc0 BXc1 BXc2 BXc3)
  replace BX := hide ((unhide BX).below hb2)
  have BXz := (unhide BX).1
  have BXc0 := (unhide BX).2.1 0 _ rfl
  have BXc1 := (unhide BX).2.1 1 _ rfl
  have BXc2 := (unhide BX).2.1 2 _ rfl
  have BXc3 := (unhide BX).2.1 3 _ rfl
  replace HK := hide ((unhide HK).trans (hb2.mono (unhide HK).size))
  have HU := hide hu.at
  obtain ⟨_, _, hz1⟩ := hu.1.slice
  subst hz1
  obtain ⟨_, _, hz2⟩ := hu.2.1.slice
  subst hz2
  clear hu hx1 hb1
  go_wp2_with fail
  refine (HSP _ _ _ (unhide HU)).mono ?_
  rintro e w3 ⟨ow, rfl, how, hx3⟩
  have hb3 : Below w2.heap.size w2 w3 := Below.trans (by go_grown) (hx3.mono (by go_size))
  replace HS := hide ((unhide HS).below hb3)
  (try clear BXz BXc0 BXc1 BXc2 BXc3)
  replace BX := hide ((unhide BX).below hb3)
  have BXz := (unhide BX).1
  have BXc0 := (unhide BX).2.1 0 _ rfl
  have BXc1 := (unhide BX).2.1 1 _ rfl
  have BXc2 := (unhide BX).2.1 2 _ rfl
  have BXc3 := (unhide BX).2.1 3 _ rfl
  replace HK := hide ((unhide HK).trans (hb3.mono (unhide HK).size))
  have HOW := hide how
  have HWL : Hid (∀ g ∈ ablk ow, g < w3.heap.size) := fun g hg => (how.lt g hg).2
  obtain ⟨_, _, hz3⟩ := how.slice
  subst hz3
  have HZ3 : Hid (w.heap.size < w3.heap.size) := BXz
  clear how HU hx2 hb2
  go_wp2_with fail
  refine (HTO _ _ _ (unhide HS)).mono ?_
  rintro e w4 ⟨x1, x2, rfl, hx, hx4⟩
  have hb4 : Below w3.heap.size w3 w4 := Below.trans (by go_grown) (hx4.mono (by go_size))
  replace HS := hide ((unhide HS).below hb4)
  (try clear BXz BXc0 BXc1 BXc2 BXc3)
  replace BX := hide ((unhide BX).below hb4)
  have BXz := (unhide BX).1
  have BXc0 := (unhide BX).2.1 0 _ rfl
  have BXc1 := (unhide BX).2.1 1 _ rfl
  have BXc2 := (unhide BX).2.1 2 _ rfl
  have BXc3 := (unhide BX).2.1 3 _ rfl
  replace HOW := hide ((unhide HOW).below hb4)
  replace HK := hide ((unhide HK).trans (hb4.mono (unhide HK).size))
  have HX := hide hx
  have HXL : Hid (∀ g ∈ ablk x1 ++ ablk x2, w3.heap.size ≤ g ∧ g < w4.heap.size) := fun g hg => by
    rcases List.mem_append.1 hg with h | h
    · exact hx.1.lt g h
    · exact hx.2.1.lt g h
  obtain ⟨xa1, xc1, hz1⟩ := hx.1.slice
  subst hz1
  obtain ⟨xa2, xc2, hz2⟩ := hx.2.1.slice
  subst hz2
  have HZ4 : Hid (w3.heap.size ≤ w4.heap.size) := hb4.size
  clear hx hx3 hb3
  go_wp2_with fail
  refine (HIM _ _ _ ((unhide HX).at.below (by go_grown))).mono ?_
  rintro e w5 ⟨og, rfl, hog, hx5⟩
  have hb5 : Below w4.heap.size w4 w5 := Below.trans (by go_grown) (hx5.mono (by go_size))
  replace HS := hide ((unhide HS).below hb5)
  (try clear BXz BXc0 BXc1 BXc2 BXc3)
  replace BX := hide ((unhide BX).below hb5)
  have BXz := (unhide BX).1
  have BXc0 := (unhide BX).2.1 0 _ rfl
  have BXc1 := (unhide BX).2.1 1 _ rfl
  have BXc2 := (unhide BX).2.1 2 _ rfl
  have BXc3 := (unhide BX).2.1 3 _ rfl
  replace HOW := hide ((unhide HOW).below hb5)
  replace HX := hide ((unhide HX).below hb5)
  replace HK := hide ((unhide HK).trans (hb5.mono (unhide HK).size))
  have qBY := boxOf1 hx5
  have BY := hide qBY
  clear qBY
  have BYz := (unhide BY).1
  have BYc0 := (unhide BY).2.1 0 _ rfl
  have BYc1 := (unhide BY).2.1 1 _ rfl
  have BYc2 := (unhide BY).2.1 2 _ rfl
  have BYc3 := (unhide BY).2.1 3 _ rfl
  have HOG := hide hog
  have HGL : Hid (∀ g ∈ ablk og, w4.heap.size < g) := fun g hg => by have h7 := (hog.lt g hg).1; simp at h7; omega
  obtain ⟨_, _, hz3⟩ := hog.slice
  subst hz3
  clear hog hx4 hb4
  go_wp2_with fail
  refine (HEI _ _ _ (unhide HOG).ints (unhide HOW).ints).mono ?_
  rintro e w6 ⟨rfl, hx6⟩
  have hb6 : Below w5.heap.size w5 w6 := Below.trans (by go_grown) (hx6.mono (by go_size))
  replace HS := hide ((unhide HS).below hb6)
  (try clear BXz BXc0 BXc1 BXc2 BXc3)
  replace BX := hide ((unhide BX).below hb6)
  have BXz := (unhide BX).1
  have BXc0 := (unhide BX).2.1 0 _ rfl
  have BXc1 := (unhide BX).2.1 1 _ rfl
  have BXc2 := (unhide BX).2.1 2 _ rfl
  have BXc3 := (unhide BX).2.1 3 _ rfl
  replace HOW := hide ((unhide HOW).below hb6)
  replace HX := hide ((unhide HX).below hb6)
  (try clear BYz BYc0 BYc1 BYc2 BYc3)
  replace BY := hide ((unhide BY).below hb6)
  have BYz := (unhide BY).1
  have BYc0 := (unhide BY).2.1 0 _ rfl
  have BYc1 := (unhide BY).2.1 1 _ rfl
  have BYc2 := (unhide BY).2.1 2 _ rfl
  have BYc3 := (unhide BY).2.1 3 _ rfl
  replace HOG := hide ((unhide HOG).below hb6)
  replace HK := hide ((unhide HK).trans (hb6.mono (unhide HK).size))
  clear hx5 hb5
  go_upto_region 10 with fail
  go_region_held3 (fun w' => (w'.cell? ⟨w.heap.size, 0, none⟩ = some (.int .i64 M) ∧ w'.cell? ⟨w.heap.size, 1, none⟩ = some (.int .i64 L) ∧ w'.cell? ⟨w.heap.size, 2, none⟩ = some (.slice la p.lows.length lc) ∧ w'.cell? ⟨w.heap.size, 3, none⟩ = some (.slice ha p.high.length hc)) ∧ w'.cell? ⟨w4.heap.size, 0, none⟩ = some (.int .i64 M) ∧ w'.cell? ⟨w4.heap.size, 1, none⟩ = some (.int .i64 L) ∧ w'.cell? ⟨w4.heap.size, 2, none⟩ = some (.slice xa1 p.lows.length xc1) ∧ w'.cell? ⟨w4.heap.size, 3, none⟩ = some (.slice xa2 p.high.length xc2)) (first | go_keep | trivial)
    (first
      | (go_at_call 45; refine (HTO _ _ _ ((unhide HS).below (by go_grown))).mono ?_; rintro e w8 ⟨y1, y2, rfl, hy, hx8⟩; have hp8 := kept hx8 w.heap.size (by go_size); have hq8 := kept hx8 w4.heap.size (by go_size); have k8 : Below w6.heap.size w6 w8 := (by exact Below.trans (by go_grown) (hx8.mono (by go_size))); have HY := hide hy.at; have HX3 := hide ((unhide HX).at.below k8); have kz8 := k8.size; obtain ⟨_, _, hz1⟩ := hy.1.slice; subst hz1; obtain ⟨_, _, hz2⟩ := hy.2.1.slice; subst hz2; clear hx8 hy)
      | (go_at_call 38; refine (HEQ _ _ _ _ _ ((unhide HX3).below (by go_grown)) ((unhide HY).below (by go_grown))).mono ?_; rintro e w9 ⟨rfl, hx9⟩; have hp9 := kept hx9 w.heap.size (by omega); have hq9 := kept hx9 w4.heap.size (by omega); have k9 : Below w6.heap.size w6 w9 := (by exact k8.trans (hx9.mono (by omega))); have kz9 := k9.size; clear hx9))
  replace HS := hide ((unhide HS).below k9)
  replace HOW := hide ((unhide HOW).below k9)
  replace HX := hide ((unhide HX).below k9)
  replace HOG := hide ((unhide HOG).below k9)
  replace BX := hide ((unhide BX).below k9)
  replace BY := hide ((unhide BY).below k9)
  replace HK := hide ((unhide HK).trans (k9.mono (unhide HK).size))
  clear hp8 hq8 hp9 hq9
  clear BXz BXc0 BXc1 BXc2 BXc3 BYz BYc0 BYc1 BYc2 BYc3 HX3 HY
  have BXz := (unhide BX).1
  have BXc0 := (unhide BX).2.1 0 _ rfl
  have BXc1 := (unhide BX).2.1 1 _ rfl
  have BXc2 := (unhide BX).2.1 2 _ rfl
  have BXc3 := (unhide BX).2.1 3 _ rfl
  have BYz := (unhide BY).1
  have BYc0 := (unhide BY).2.1 0 _ rfl
  have BYc1 := (unhide BY).2.1 1 _ rfl
  have BYc2 := (unhide BY).2.1 2 _ rfl
  have BYc3 := (unhide BY).2.1 3 _ rfl
  go_wp2_with fail
  refine (HMP _ _ _ _ _ _ (unhide HX)).mono ?_
  rintro e w10 ⟨rfl, hmx, ho10⟩
  have hz3 := HZ3.out
  have hz4 := HZ4.out
  have k10 : Below w.heap.size w9 w10 := ho10.below (unhide HK).size (fun g hg => by have := (HXL.out g hg).1; omega)
  replace HOW := hide ((unhide HOW).off ho10 (fun g hg hm => by have h1 := HWL.out g hg; have h2 := (HXL.out g hm).1; omega))
  replace HOG := hide ((unhide HOG).off ho10 (fun g hg hm => by have h1 := HGL.out g hg; have h2 := (HXL.out g hm).2; omega))
  replace BX := hide ((unhide BX).offI ho10 (fun hm => by have h1 := (HXL.out _ hm).1; omega))
  replace HK := hide ((unhide HK).trans k10)
  replace HS := hide ((unhide HS0).below (unhide HK))
  clear hmx k10 ho10 HX BXz BXc0 BXc1 BXc2 BXc3 BYz BYc0 BYc1 BYc2 BYc3 BY
  have BXz := (unhide BX).1
  have BXc0 := (unhide BX).2.1 0 _ rfl
  have BXc1 := (unhide BX).2.1 1 _ rfl
  have BXc2 := (unhide BX).2.1 2 _ rfl
  have BXc3 := (unhide BX).2.1 3 _ rfl
  go_wp2_with fail
  refine (HEI _ _ _ (unhide HOG).ints (unhide HOW).ints).mono ?_
  rintro e w11 ⟨rfl, hx11⟩
  have hb11 : Below w10.heap.size w10 w11 := Below.trans (by go_grown) (hx11.mono (by go_size))
  replace HS := hide ((unhide HS).below hb11)
  replace HOW := hide ((unhide HOW).below hb11)
  (try clear BXz BXc0 BXc1 BXc2 BXc3)
  replace BX := hide ((unhide BX).below hb11)
  have BXz := (unhide BX).1
  have BXc0 := (unhide BX).2.1 0 _ rfl
  have BXc1 := (unhide BX).2.1 1 _ rfl
  have BXc2 := (unhide BX).2.1 2 _ rfl
  have BXc3 := (unhide BX).2.1 3 _ rfl
  replace HOG := hide ((unhide HOG).below hb11)
  replace HK := hide ((unhide HK).trans (hb11.mono (unhide HK).size))
  go_wp2_with fail
  refine (HMG _ _ _ (unhide HOG)).mono ?_
  rintro e w12 ⟨rfl, hmg, ho12⟩
  have HMK := hide hmg
  have hz3 := HZ3.out
  have hz4 := HZ4.out
  have k12 : Below w.heap.size w11 w12 := ho12.below (unhide HK).size (fun g hg => by have := HGL.out g hg; omega)
  replace HOW := hide ((unhide HOW).off ho12 (fun g hg hm => by have h1 := HWL.out g hg; have h2 := HGL.out g hm; omega))
  replace BX := hide ((unhide BX).offI ho12 (fun hm => by have h1 := HGL.out _ hm; omega))
  replace HK := hide ((unhide HK).trans k12)
  replace HS := hide ((unhide HS0).below (unhide HK))
  clear hmg k12 ho12 HOG BXz BXc0 BXc1 BXc2 BXc3 hx11 hb11
  have BXz := (unhide BX).1
  have BXc0 := (unhide BX).2.1 0 _ rfl
  have BXc1 := (unhide BX).2.1 1 _ rfl
  have BXc2 := (unhide BX).2.1 2 _ rfl
  have BXc3 := (unhide BX).2.1 3 _ rfl
  go_wp2_with fail
  refine (HHG _ _ _ (unhide HMK)).mono ?_
  rintro e w13 ⟨rfl, hx13⟩
  have hb13 : Below w12.heap.size w12 w13 := Below.trans (by go_grown) (hx13.mono (by go_size))
  replace HS := hide ((unhide HS).below hb13)
  replace HOW := hide ((unhide HOW).below hb13)
  (try clear BXz BXc0 BXc1 BXc2 BXc3)
  replace BX := hide ((unhide BX).below hb13)
  have BXz := (unhide BX).1
  have BXc0 := (unhide BX).2.1 0 _ rfl
  have BXc1 := (unhide BX).2.1 1 _ rfl
  have BXc2 := (unhide BX).2.1 2 _ rfl
  have BXc3 := (unhide BX).2.1 3 _ rfl
  replace HMK := hide ((unhide HMK).below hb13)
  replace HK := hide ((unhide HK).trans (hb13.mono (unhide HK).size))
  go_wp2_with fail
  refine (HTO _ _ _ (unhide HS)).mono ?_
  rintro e w14 ⟨u1, u2, rfl, hu, hx14⟩
  have hb14 : Below w13.heap.size w13 w14 := Below.trans (by go_grown) (hx14.mono (by go_size))
  replace HS := hide ((unhide HS).below hb14)
  replace HOW := hide ((unhide HOW).below hb14)
  (try clear BXz BXc0 BXc1 BXc2 BXc3)
  replace BX := hide ((unhide BX).below hb14)
  have BXz := (unhide BX).1
  have BXc0 := (unhide BX).2.1 0 _ rfl
  have BXc1 := (unhide BX).2.1 1 _ rfl
  have BXc2 := (unhide BX).2.1 2 _ rfl
  have BXc3 := (unhide BX).2.1 3 _ rfl
  replace HMK := hide ((unhide HMK).below hb14)
  replace HK := hide ((unhide HK).trans (hb14.mono (unhide HK).size))
  have HU := hide hu.at
  obtain ⟨_, _, hz1⟩ := hu.1.slice
  subst hz1
  obtain ⟨_, _, hz2⟩ := hu.2.1.slice
  subst hz2
  clear hu hx13 hb13
  go_wp2_with fail
  refine (HIM _ _ _ (unhide HU)).mono ?_
  rintro e w15 ⟨oh, rfl, hoh, hx15⟩
  have hb15 : Below w14.heap.size w14 w15 := Below.trans (by go_grown) (hx15.mono (by go_size))
  replace HOW := hide ((unhide HOW).below hb15)
  replace HMK := hide ((unhide HMK).below hb15)
  replace HK := hide ((unhide HK).trans (hb15.mono (unhide HK).size))
  have HOH := hide hoh
  obtain ⟨_, _, hz1⟩ := hoh.slice
  subst hz1
  clear hoh hx14 hb14 HU
  go_wp2_with fail
  refine (HEI _ _ _ ((unhide HOH).below (by go_grown)).ints (unhide HOW).ints).mono ?_
  rintro e w16 ⟨rfl, hx16⟩
  have hb16 : Below w15.heap.size w15 w16 := Below.trans (by go_grown) (hx16.mono (by go_size))
  replace HOW := hide ((unhide HOW).below hb16)
  replace HMK := hide ((unhide HMK).below hb16)
  replace HK := hide ((unhide HK).trans (hb16.mono (unhide HK).size))
  clear hx15 hb15 HOH HOW
  go_wp2_with fail
  refine (HHG _ _ _ (unhide HMK)).mono ?_
  rintro e w17 ⟨rfl, hx17⟩
  have hb17 : Below w16.heap.size w16 w17 := Below.trans (by go_grown) (hx17.mono (by go_size))
  replace HMK := hide ((unhide HMK).below hb17)
  replace HK := hide ((unhide HK).trans (hb17.mono (unhide HK).size))
  have hfin := unhide HK
  go_wp2_with fail
  go_returns
  exact ⟨rfl, hfin⟩

theorem own : ownKnob Try.prog.godebug = none := by kernel_rfl
theorem laidOut : laidOutB Try.prog = true := by kernel_rfl
theorem cellsPacked : Try.prog.cellsOf 55 = 4 := by kernel_rfl
set_option maxRecDepth 100000 in
theorem lifted (os : Os) (started : os.Started) (H : Type) (enc : TypeId × Value → H) :
    ReturnsInHanded {} Try.checked os 7 .any (Rows.fnExactUnpackListSpec.pre6 enc Try.prog Try.f7 Rows.fnExactUnpackListRow.domain false) (Rows.fnExactUnpackListSpec.post enc Try.prog Try.f7 false true false false) := by
  refine returnsInHanded_of_change (C := Try.checked) own started (by kernel_rfl) Try.func7
    (ChangeSpec.witness6 (enc := enc) (C := Try.checked) false ⟨#[], #[.agg #[.int .i64 0, .int .i64 0, .slice none 0 0, .slice none 0 0]], []⟩ 8 (by kernel_rfl) (by kernel_rfl) (by kernel_rfl) (by kernel_rfl)) ?_
  intro W base args ds gs before hval0 hW hcnd _
  have hval : ∀ (j : Nat) t v, Try.f7.params[j]? = some t → args[j]? = some v → Value.okWide Try.prog W .any base t v := hval0
  have hW' := hW
  obtain ⟨p, q, hA0, hV, rfl, hfz, hnd⟩ := hW
  have hA : DataW.TrodAll enc Try.prog W 0 (fun _ => true) true Try.f7.params.toList args.toList ds p := hA0
  rw [Try.params7] at hA hval
  obtain ⟨v0, vs0, d0, ds0, p0, q0, hargs, rfl, rfl, h0, r0⟩ := trodAll_cons hA
  obtain ⟨rfl, rfl, rfl⟩ := trodAll_nil r0
  obtain rfl : args = #[v0] := by cases args; simp_all
  obtain ⟨rfl, rfl⟩ := trodVars_none hV
  have kk0 := h0
  have lt0 : ∀ x ∈ p0, x.block < W.heap.size := by obtain ⟨m, hm⟩ := kk0; exact DataW.trod_lt m _ _ _ hm
  obtain ⟨c00, c01, c02, c03, y00, y01, y02, y03, m0, rfl, rfl, rfl, hy00, hy01, hy02, hy03⟩ := open_agg4 Try.underlying55 (by kernel_rfl) cellsPacked (hval 0 55 v0 rfl rfl) h0
  obtain ⟨a0, e00, x00, wa0⟩ := DataW.trod_int Try.underlying3 hy00
  obtain ⟨b0, e01, x01, wb0⟩ := DataW.trod_int Try.underlying3 hy01
  simp at e00 e01
  subst e00 e01
  obtain ⟨ks0, hks0, hkl0⟩ := ints_of1 hy02
  obtain ⟨us0, hus0, hul0⟩ := bools_of1 hy03
  have hss0 : PkAt W c02 c03 ⟨a0, b0, ks0, us0⟩ := ⟨hks0, hus0⟩
  clear hA0 hval0
  refine (walk ⟨a0, b0, ks0, us0⟩ c02 c03 ⟨hkl0, hul0⟩ W hss0).mono fun e W' ⟨he, bel⟩ => ?_
  subst he
  exact ⟨_, rfl, _, _, _, [], _, [], hW', trodAll_mk1 (shut_bool Try.underlying4 _), (trodAll_cons_mk (Below.trod laidOut (by kernel_rfl) (of_decide_eq_true (by kernel_rfl)) kk0 bel lt0) trodAll_mk0), rfl, bel.frame _, fun h => by cases h⟩

theorem over : Rows.fnExactUnpackListRow.holds Try.pinned (OpenSpec.ofChange Rows.fnExactUnpackListSpec) :=
  OpenClaim.holds_of_wide 7 Try.f7 rfl rfl rfl rfl rfl rfl rfl ⟨rfl, rfl, rfl, rfl, rfl⟩ rfl rfl rfl rfl rfl (by kernel_rfl) Try.func7 (by kernel_rfl)
    (of_decide_eq_true (by kernel_rfl)) (by unfold Func.isWrapper; first | (rw [if_pos (by decide +kernel)]; kernel_rfl) | (rw [if_neg (by decide +kernel)]; exact ⟨rfl, rfl⟩))
    (fun os started H enc _ => lifted os started H enc)
end Go.Proofs.Ytaafdcghafbfhaa.fnExactUnpackList
namespace Go.Proofs.Ytaafdcghafbfhaa
theorem fnExactUnpackList_holds : Rows.FnExactUnpackListSaid := fnExactUnpackList.over
#print axioms fnExactUnpackList_holds
end Go.Proofs.Ytaafdcghafbfhaa
