/- At every tree and two texts the function FnExactRangeOf returns true and leaves its arguments as they were: RangeOf answers as its model does, and its answer owns its memory. No condition. -/
import Derived.Test.YtmmccjdkafojgaaTreeArg
import Derived.Test.YtmmccjdkafojgaaRangeO
namespace Go.Proofs.Ytmmccjdkafojgaa.fnExactRangeOf
open Go.ChangeShapes Go.WideShapes Go.ChangeAt Go.RowKit Go.Joins
open Go.ChangeMaps (open_string shut_string)
set_option linter.unusedVariables false
attribute [local go_sem ↓] Go.wp_at_zero Go.wp_at_succ
theorem hide {p : Prop} (h : p) : Hid p := h
theorem unhide {p : Prop} (h : Hid p) : p := h

set_option maxRecDepth 100000 in
set_option maxHeartbeats 6400000 in
theorem walk (x : Value) (ps : List Pg) (hm : ReTree ps) (f : ByteArray) (hmf : f.size ≤ maxLen) (u : ByteArray) (hmu : u.size ≤ maxLen) (w : World) (hx : LPgsAt w x ps) :
    Calls Try.prog 10 #[.agg #[x], .string f, .string u] w fun e w' => e = .returned (.bool true) ∧ Below w.heap.size w w' := by
  have hmf2 := hmf
  have hmu2 := hmu
  unfold maxLen at hmf2 hmu2
  by_cases hbf : 1048576 < f.size
  · have hb1 : (1048576 : Int) < (f.size : Int) := by omega
    obtain ⟨xa, xc, rfl⟩ := hx.slice
    clear hx hbf
    go_enter Try.func10, Try.ntmps10
    go_wp2
    go_returns
    exact ⟨rfl, by go_grown⟩
  have hbf2 : ¬ (1048576 : Int) < (f.size : Int) := by omega
  by_cases hbu : 1048576 < u.size
  · have hb1 : (1048576 : Int) < (u.size : Int) := by omega
    obtain ⟨xa, xc, rfl⟩ := hx.slice
    clear hx hbf hbu
    go_enter Try.func10, Try.ntmps10
    go_wp2
    go_returns
    exact ⟨rfl, by go_grown⟩
  have hbu2 : ¬ (1048576 : Int) < (u.size : Int) := by omega
  have HS := hide hx
  have HS0 := hide hx
  have HK : Hid (Below w.heap.size w w) := Below.refl _ _
  obtain ⟨xa, xc, rfl⟩ := hx.slice
  clear hx
  have HZ := fun W h => szTreeIs (.slice xa ps.length xc) ps 1048576 W h (by omega) hm
  simp only [show ((1048576 : Nat) : Int) = 1048576 from rfl] at HZ
  by_cases hbig : 1048576 < ps.length + sumP ps
  · have HR : Hid (szRP 1048576 ps = -1) := by show _ = _; unfold szRP; rw [if_neg (by omega)]
    rw [HR.out] at HZ
    go_enter Try.func10, Try.ntmps10
    go_wp2_with fail
    refine (HZ _ ((unhide HS).below (by go_grown))).mono ?_
    rintro e w1 ⟨rfl, hx1⟩
    have hb1 : Below w.heap.size w w1 := Below.trans (by go_grown) (hx1.mono (by go_size))
    replace HS := hide ((unhide HS).below hb1)
    replace HK := hide ((unhide HK).trans (hb1.mono (unhide HK).size))
    have hfin := unhide HK
    go_wp2
    go_returns
    exact ⟨rfl, hfin⟩
  have HR : Hid (szRP 1048576 ps = ((1048576 - (ps.length + sumP ps) : Nat) : Int)) := by show _ = _; unfold szRP; rw [if_pos (by omega)]
  rw [HR.out] at HZ
  have hh := hm.small (by omega)
  obtain ⟨A, B, HA40, HSP, HIM⟩ : ∃ (A : List Pr) (B : Bool), A.length ≤ 40 ∧ (∀ x W, PgsAt W x ps → Calls Try.prog 49 #[.agg #[x], .string f, .string u] W fun e w' => ∃ kv vv, e = .returned (.tuple #[kv, vv, .bool B]) ∧ Acc w' W.heap.size kv vv A ∧ Below W.heap.size W w') ∧
      (∀ x W, PgsAt W x ps → Calls Try.prog 50 #[.agg #[x], .string f, .string u] W fun e w' => ∃ kv vv, e = .returned (.tuple #[kv, vv, .bool B]) ∧ Acc w' W.heap.size kv vv A ∧ Below W.heap.size W w') := by
    have hno : ∀ (W w' : World) (e : Ending), (e = .returned (.tuple #[.slice none 0 0, .slice none 0 0, .bool false]) ∧ Below W.heap.size W w') → ∃ kv vv, e = .returned (.tuple #[kv, vv, .bool false]) ∧ Acc w' W.heap.size kv vv [] ∧ Below W.heap.size W w' := by
      rintro W w' e ⟨rfl, hb⟩
      exact ⟨_, _, rfl, Acc.nil _ _, hb⟩
    by_cases ht : ∃ t, TreeIs ps t
    · obtain ⟨t, ht⟩ := ht
      by_cases hr : GoodR f u
      · exact ⟨selP f u (allN t), true, Nat.le_trans (selP_le _ _ _) ht.2.2.2.2, fun x W h => specRangeYes hh ht f u hr hmf hmu W x h, fun x W h => implRangeYes hh ht f u hr hmf hmu W x h⟩
      · exact ⟨[], false, by simp, fun x W h => (specRangeOut hh ht f u hr hmf hmu W x h).mono (fun e w' h => hno W w' e h), fun x W h => (implRangeOut hh ht f u hr hmf hmu W x h).mono (fun e w' h => hno W w' e h)⟩
    · have ht' : ∀ t, ¬ TreeIs ps t := fun t h => ht ⟨t, h⟩
      exact ⟨[], false, by simp, fun x W h => (specRangeNo hh ht' f u W x h).mono (fun e w' h => hno W w' e h), fun x W h => (implRangeNo hh ht' f u W x h).mono (fun e w' h => hno W w' e h)⟩
  have HTO := fun x W h => toTreeIs x ps W h hh.1
  have HTF := fun x W h => toTreeF x ps W h hh.1
  have HEQ := fun x y W h g => eqTreeIs x y ps W h g hh.1
  have HEK := fun a b W h g => eqStr a b (A.map (·.1)) W h g (by simp; omega)
  have HEV := fun a b W h g => eqStr a b (A.map (·.2)) W h g (by simp; omega)
  have hbn : (B != B) = false := by cases B <;> rfl
  have HSM := hide hh.1
  obtain ⟨M, hM⟩ : ∃ M : Nat, M = 1 + A.length := ⟨_, rfl⟩
  obtain ⟨N, hN⟩ : ∃ N : Nat, N = M + A.length := ⟨_, rfl⟩
  have hM0 : ¬ (M : Int) < 0 := by omega
  have hN0 : ¬ (N : Int) < 0 := by omega
  have hNN : ((N : Int) != (N : Int)) = false := by simp
  have HMK := fun b v W (h : OwnS W b 9 v A.length (keysV A)) => markOwn b A.length 1 (A.map (·.1)) v W (by rw [← keys_mapK]; exact h) (by simp) (by omega) (by omega)
  have HMV := fun b v W (h : OwnS W b 9 v A.length (valsV A)) => markOwn b A.length M (A.map (·.2)) v W (by rw [← vals_mapK]; exact h) (by simp) (by omega) (by omega)
  have HHK := fun b v W (h : Marked W b 1 v A.length) => heldOwn b A.length 1 v W h (by omega) (by omega)
  have HHV := fun b v W (h : Marked W b M v A.length) => heldOwn b A.length M v W h (by omega) (by omega)
  simp only [show ((1 : Nat) : Int) = 1 from rfl] at HMK HHK
  rw [← hM] at HMK HHK
  rw [← hN] at HMV HHV
  clear hM hN hh hm HR hmf hmf2 hmu hmu2 hbf hbu
  generalize 1048576 - (ps.length + sumP ps) = z at *
  have hz : ¬ (z : Int) < 0 := by omega
  go_enter Try.func10, Try.ntmps10
  go_wp2_with fail
  refine (HZ _ ((unhide HS).below (by go_grown))).mono ?_
  rintro e w1 ⟨rfl, hx1⟩
  have hb1 : Below w.heap.size w w1 := Below.trans (by go_grown) (hx1.mono (by go_size))
  replace HS := hide ((unhide HS).below hb1)
  replace HK := hide ((unhide HK).trans (hb1.mono (unhide HK).size))
  have qBX := boxOf1 hx1
  have BX := hide qBX
  clear qBX
  have BXz := (unhide BX).1
  have BXc0 := (unhide BX).2.1 0 _ rfl
  go_wp2_with fail
  refine (HTO _ _ (unhide HS)).mono ?_
  rintro e w2 ⟨u1, rfl, hu, hx2⟩
  have hb2 : Below w1.heap.size w1 w2 := Below.trans (by go_grown) (hx2.mono (by go_size))
  replace HS := hide ((unhide HS).below hb2)
  (try clear BXz BXc0)
  replace BX := hide ((unhide BX).below hb2)
  have BXz := (unhide BX).1
  have BXc0 := (unhide BX).2.1 0 _ rfl
  replace HK := hide ((unhide HK).trans (hb2.mono (unhide HK).size))
  have HU := hide hu.at
  obtain ⟨_, _, rfl⟩ := hu.at.slice
  clear hu hx1 hb1
  go_wp2_with fail
  refine (HSP _ _ (unhide HU)).mono ?_
  rintro e w3 ⟨kw, vw, rfl, how, hx3⟩
  have hb3 : Below w2.heap.size w2 w3 := Below.trans (by go_grown) (hx3.mono (by go_size))
  replace HS := hide ((unhide HS).below hb3)
  (try clear BXz BXc0)
  replace BX := hide ((unhide BX).below hb3)
  have BXz := (unhide BX).1
  have BXc0 := (unhide BX).2.1 0 _ rfl
  replace HK := hide ((unhide HK).trans (hb3.mono (unhide HK).size))
  have HOW := hide how
  have HWL := hide (fun g hg => (own_lt how.1 g hg).2)
  have HWV := hide (fun g hg => (own_lt how.2.1 g hg).2)
  obtain ⟨_, _, rfl⟩ := (rows_of_ownS how.1).slice
  obtain ⟨_, _, rfl⟩ := (rows_of_ownS how.2.1).slice
  clear how HU hx2 hb2
  have HB0 : Hid (w.heap.size < w3.heap.size) := BXz
  go_wp2_with fail
  refine (HTF _ _ (unhide HS)).mono ?_
  rintro e w4 ⟨x1, rfl, hx, hnf, hx4⟩
  have hb4 : Below w3.heap.size w3 w4 := Below.trans (by go_grown) (hx4.mono (by go_size))
  replace HS := hide ((unhide HS).below hb4)
  (try clear BXz BXc0)
  replace BX := hide ((unhide BX).below hb4)
  have BXz := (unhide BX).1
  have BXc0 := (unhide BX).2.1 0 _ rfl
  replace HOW := hide ((unhide HOW).below hb4)
  replace HK := hide ((unhide HK).trans (hb4.mono (unhide HK).size))
  have HM := hide (MkP.of hx (unhide HSM) hnf)
  have HXX := hide hx.at
  have hz34 := hx4.size
  obtain ⟨xa1, xc1, rfl⟩ := hx.at.slice
  have HZ4 : Hid (w3.heap.size ≤ w4.heap.size) := hz34
  clear hx hnf hx3 hb3
  go_wp2_with fail
  refine (HIM _ _ ((unhide HXX).below (by go_grown))).mono ?_
  rintro e w5 ⟨kg, vg, rfl, hog, hx5⟩
  have hb5 : Below w4.heap.size w4 w5 := Below.trans (by go_grown) (hx5.mono (by go_size))
  replace HS := hide ((unhide HS).below hb5)
  (try clear BXz BXc0)
  replace BX := hide ((unhide BX).below hb5)
  have BXz := (unhide BX).1
  have BXc0 := (unhide BX).2.1 0 _ rfl
  replace HOW := hide ((unhide HOW).below hb5)
  replace HM := hide ((unhide HM).below hb5)
  replace HXX := hide ((unhide HXX).below hb5)
  replace HK := hide ((unhide HK).trans (hb5.mono (unhide HK).size))
  have qBY := boxOf1 hx5
  have BY := hide qBY
  clear qBY
  have BYz := (unhide BY).1
  have BYc0 := (unhide BY).2.1 0 _ rfl
  have HOG := hide hog
  have HGL : Hid (∀ g ∈ obl kg, w4.heap.size ≤ g) := fun g hg => by
    have h7 := (own_lt hog.1 g hg).1
    simp at h7
    omega
  have HGV : Hid (∀ g ∈ obl vg, w4.heap.size ≤ g) := fun g hg => by
    have h7 := (own_lt hog.2.1 g hg).1
    simp at h7
    omega
  have HCP := hide (own_cap hog.1)
  obtain ⟨_, _, rfl⟩ := (rows_of_ownS hog.1).slice
  obtain ⟨_, _, rfl⟩ := (rows_of_ownS hog.2.1).slice
  clear hog hx4 hb4
  go_wp2_with fail
  refine (HEK _ _ _ (accStrs (unhide HOG)).1 (accStrs (unhide HOW)).1).mono ?_
  rintro e w6 ⟨rfl, hx6⟩
  have hb6 : Below w5.heap.size w5 w6 := Below.trans (by go_grown) (hx6.mono (by go_size))
  replace HS := hide ((unhide HS).below hb6)
  (try clear BXz BXc0)
  replace BX := hide ((unhide BX).below hb6)
  have BXz := (unhide BX).1
  have BXc0 := (unhide BX).2.1 0 _ rfl
  replace HOW := hide ((unhide HOW).below hb6)
  replace HM := hide ((unhide HM).below hb6)
  replace HXX := hide ((unhide HXX).below hb6)
  (try clear BYz BYc0)
  replace BY := hide ((unhide BY).below hb6)
  have BYz := (unhide BY).1
  have BYc0 := (unhide BY).2.1 0 _ rfl
  replace HOG := hide ((unhide HOG).below hb6)
  replace HK := hide ((unhide HK).trans (hb6.mono (unhide HK).size))
  clear hx5 hb5
  go_wp2_with fail
  refine (HEV _ _ _ (accStrs (unhide HOG)).2 (accStrs (unhide HOW)).2).mono ?_
  rintro e w7 ⟨rfl, hx7⟩
  have hb7 : Below w6.heap.size w6 w7 := Below.trans (by go_grown) (hx7.mono (by go_size))
  replace HS := hide ((unhide HS).below hb7)
  (try clear BXz BXc0)
  replace BX := hide ((unhide BX).below hb7)
  have BXz := (unhide BX).1
  have BXc0 := (unhide BX).2.1 0 _ rfl
  replace HOW := hide ((unhide HOW).below hb7)
  replace HM := hide ((unhide HM).below hb7)
  replace HXX := hide ((unhide HXX).below hb7)
  (try clear BYz BYc0)
  replace BY := hide ((unhide BY).below hb7)
  have BYz := (unhide BY).1
  have BYc0 := (unhide BY).2.1 0 _ rfl
  replace HOG := hide ((unhide HOG).below hb7)
  replace HK := hide ((unhide HK).trans (hb7.mono (unhide HK).size))
  clear hx6 hb6
  go_upto_region 14 with fail
  go_region_held3 (fun w' => w'.cell? ⟨w.heap.size, 0, none⟩ = some (.slice xa ps.length xc) ∧ w'.cell? ⟨w4.heap.size, 0, none⟩ = some (.slice xa1 ps.length xc1)) (first | go_keep | trivial)
    (first
      | (go_at_call 43; refine (HTO _ _ ((unhide HS).below (by go_grown))).mono ?_; rintro e w8 ⟨y1, rfl, hy, hx8⟩; have hp8 := kept hx8 w.heap.size (by go_size); have hq8 := kept hx8 w4.heap.size (by go_size); have k8 : Below w7.heap.size w7 w8 := (by exact Below.trans (by go_grown) (hx8.mono (by go_size))); have HY := hide hy.at; have HX3 := hide ((unhide HXX).below k8); have kz8 := k8.size; clear hx8 hy)
      | (go_at_call 39; refine (HEQ _ y1 _ ((unhide HX3).read.below (by go_grown)) ((unhide HY).read.below (by go_grown))).mono ?_; rintro e w9 ⟨rfl, hx9⟩; have hp9 := kept hx9 w.heap.size (by omega); have hq9 := kept hx9 w4.heap.size (by omega); have k9 : Below w7.heap.size w7 w9 := (by exact Below.trans k8 (hx9.mono k8.size)); clear hx9))
  replace HS := hide ((unhide HS).below k9)
  replace HOW := hide ((unhide HOW).below k9)
  replace HM := hide ((unhide HM).below k9)
  replace HOG := hide ((unhide HOG).below k9)
  replace BX := hide ((unhide BX).below k9)
  replace BY := hide ((unhide BY).below k9)
  replace HK := hide ((unhide HK).trans (k9.mono (unhide HK).size))
  have BXz := (unhide BX).1
  have BXc0 := (unhide BX).2.1 0 _ rfl
  have BYz := (unhide BY).1
  have BYc0 := (unhide BY).2.1 0 _ rfl
  have hs9 := (unhide HM).2.2
  go_wp2_with fail
  refine (markTreeA _ _ 1 ps.length _ _ (unhide HM).1 (unhide HSM).1 (unhide HM).2.1 hs9 (by omega) (by omega)).mono ?_
  rintro e w10 ⟨m, rfl, ho10⟩
  have hm0 : ¬ (m : Int) < 0 := by omega
  have k10 : Below w.heap.size w9 w10 := ho10.below (unhide HK).size (fun g hg => Nat.le_trans (Nat.le_of_lt HB0.out) (mem_rg.1 hg).1)
  replace HK := hide ((unhide HK).trans k10)
  replace HOW := hide (accOff (unhide HOW) ho10 (fun g hg hm => by have h1 := HWL.out g hg; have h2 := (mem_rg.1 hm).1; omega) (fun g hg hm => by have h1 := HWV.out g hg; have h2 := (mem_rg.1 hm).1; omega))
  replace HOG := hide (accOff (unhide HOG) ho10 (fun g hg hm => by have h1 := HGL.out g hg; have h2 := (mem_rg.1 hm).2; omega) (fun g hg hm => by have h1 := HGV.out g hg; have h2 := (mem_rg.1 hm).2; omega))
  replace HS := hide ((unhide HS0).below (unhide HK))
  replace BX := hide ((unhide BX).off ho10 (fun hm => by have h1 := (mem_rg.1 hm).1; have h2 := HB0.out; omega))
  clear k10 ho10 BXz BXc0 BYz BYc0 hs9 HM BY HXX
  have BXz := (unhide BX).1
  have BXc0 := (unhide BX).2.1 0 _ rfl
  go_wp2_with fail
  refine (HEK _ _ _ (accStrs (unhide HOG)).1 (accStrs (unhide HOW)).1).mono ?_
  rintro e w11 ⟨rfl, hx11⟩
  have hb11 : Below w10.heap.size w10 w11 := Below.trans (by go_grown) (hx11.mono (by go_size))
  replace HS := hide ((unhide HS).below hb11)
  (try clear BXz BXc0)
  replace BX := hide ((unhide BX).below hb11)
  have BXz := (unhide BX).1
  have BXc0 := (unhide BX).2.1 0 _ rfl
  replace HOW := hide ((unhide HOW).below hb11)
  replace HOG := hide ((unhide HOG).below hb11)
  replace HK := hide ((unhide HK).trans (hb11.mono (unhide HK).size))
  go_wp2_with fail
  refine (HEV _ _ _ (accStrs (unhide HOG)).2 (accStrs (unhide HOW)).2).mono ?_
  rintro e w12 ⟨rfl, hx12⟩
  have hb12 : Below w11.heap.size w11 w12 := Below.trans (by go_grown) (hx12.mono (by go_size))
  replace HS := hide ((unhide HS).below hb12)
  (try clear BXz BXc0)
  replace BX := hide ((unhide BX).below hb12)
  have BXz := (unhide BX).1
  have BXc0 := (unhide BX).2.1 0 _ rfl
  replace HOW := hide ((unhide HOW).below hb12)
  replace HOG := hide ((unhide HOG).below hb12)
  replace HK := hide ((unhide HK).trans (hb12.mono (unhide HK).size))
  go_wp2_with fail
  refine (HMK _ _ _ (unhide HOG).1).mono ?_
  rintro e w13 ⟨rfl, hmk, ho13⟩
  have HMD := hide hmk
  have k13 : Below w.heap.size w12 w13 := ho13.below (unhide HK).size (fun g hg => by have h1 := HGL.out g hg; have h2 := HB0.out; have h3 := HZ4.out; omega)
  have HDJ := hide (unhide HOG).2.2
  have HOV := hide ((unhide HOG).2.1.off ho13 (fun g hg hm => HDJ.out g hm hg))
  replace HK := hide ((unhide HK).trans k13)
  replace HOW := hide (accOff (unhide HOW) ho13 (fun g hg hm => by have h1 := HWL.out g hg; have h2 := HGL.out g hm; have h3 := HZ4.out; omega) (fun g hg hm => by have h1 := HWV.out g hg; have h2 := HGL.out g hm; have h3 := HZ4.out; omega))
  replace HS := hide ((unhide HS0).below (unhide HK))
  replace BX := hide ((unhide BX).off ho13 (fun hm => by have h1 := HGL.out _ hm; have h2 := HB0.out; have h3 := HZ4.out; omega))
  clear hmk k13 ho13 BXz BXc0 HOG hx11 hb11 hx12 hb12
  go_wp2_with fail
  refine (HMV _ _ _ (unhide HOV)).mono ?_
  rintro e w14 ⟨rfl, hmk, ho14⟩
  have HMW := hide hmk
  have k14 : Below w.heap.size w13 w14 := ho14.below (unhide HK).size (fun g hg => by have h1 := HGV.out g hg; have h2 := HB0.out; have h3 := HZ4.out; omega)
  replace HMD := hide ((unhide HMD).off ho14 (unhide HCP) (fun g hg hm => HDJ.out g hg hm))
  replace HK := hide ((unhide HK).trans k14)
  replace HOW := hide (accOff (unhide HOW) ho14 (fun g hg hm => by have h1 := HWL.out g hg; have h2 := HGV.out g hm; have h3 := HZ4.out; omega) (fun g hg hm => by have h1 := HWV.out g hg; have h2 := HGV.out g hm; have h3 := HZ4.out; omega))
  replace HS := hide ((unhide HS0).below (unhide HK))
  replace BX := hide ((unhide BX).off ho14 (fun hm => by have h1 := HGV.out _ hm; have h2 := HB0.out; have h3 := HZ4.out; omega))
  clear hmk k14 ho14 HOV
  have BXz := (unhide BX).1
  have BXc0 := (unhide BX).2.1 0 _ rfl
  go_wp2_with fail
  refine (HHK _ _ _ (unhide HMD)).mono ?_
  rintro e w15 ⟨rfl, hx15⟩
  have hb15 : Below w14.heap.size w14 w15 := Below.trans (by go_grown) (hx15.mono (by go_size))
  replace HS := hide ((unhide HS).below hb15)
  (try clear BXz BXc0)
  replace BX := hide ((unhide BX).below hb15)
  have BXz := (unhide BX).1
  have BXc0 := (unhide BX).2.1 0 _ rfl
  replace HOW := hide ((unhide HOW).below hb15)
  replace HMD := hide ((unhide HMD).below hb15)
  replace HMW := hide ((unhide HMW).below hb15)
  replace HK := hide ((unhide HK).trans (hb15.mono (unhide HK).size))
  go_wp2_with fail
  refine (HHV _ _ _ (unhide HMW)).mono ?_
  rintro e w16 ⟨rfl, hx16⟩
  have hb16 : Below w15.heap.size w15 w16 := Below.trans (by go_grown) (hx16.mono (by go_size))
  replace HS := hide ((unhide HS).below hb16)
  (try clear BXz BXc0)
  replace BX := hide ((unhide BX).below hb16)
  have BXz := (unhide BX).1
  have BXc0 := (unhide BX).2.1 0 _ rfl
  replace HOW := hide ((unhide HOW).below hb16)
  replace HMD := hide ((unhide HMD).below hb16)
  replace HMW := hide ((unhide HMW).below hb16)
  replace HK := hide ((unhide HK).trans (hb16.mono (unhide HK).size))
  clear hx15 hb15
  go_wp2_with fail
  refine (HTO _ _ (unhide HS)).mono ?_
  rintro e w17 ⟨y17, rfl, hy, hx17⟩
  have hb17 : Below w16.heap.size w16 w17 := Below.trans (by go_grown) (hx17.mono (by go_size))
  replace HS := hide ((unhide HS).below hb17)
  (try clear BXz BXc0)
  replace BX := hide ((unhide BX).below hb17)
  have BXz := (unhide BX).1
  have BXc0 := (unhide BX).2.1 0 _ rfl
  replace HOW := hide ((unhide HOW).below hb17)
  replace HMD := hide ((unhide HMD).below hb17)
  replace HMW := hide ((unhide HMW).below hb17)
  replace HK := hide ((unhide HK).trans (hb17.mono (unhide HK).size))
  have HY := hide hy.at
  obtain ⟨_, _, rfl⟩ := hy.at.slice
  clear hy hx16 hb16
  go_wp2_with fail
  refine (HIM _ _ (unhide HY)).mono ?_
  rintro e w18 ⟨kh, vh, rfl, hoh, hx18⟩
  have hb18 : Below w17.heap.size w17 w18 := Below.trans (by go_grown) (hx18.mono (by go_size))
  replace HS := hide ((unhide HS).below hb18)
  (try clear BXz BXc0)
  replace BX := hide ((unhide BX).below hb18)
  have BXz := (unhide BX).1
  have BXc0 := (unhide BX).2.1 0 _ rfl
  replace HOW := hide ((unhide HOW).below hb18)
  replace HMD := hide ((unhide HMD).below hb18)
  replace HMW := hide ((unhide HMW).below hb18)
  replace HK := hide ((unhide HK).trans (hb18.mono (unhide HK).size))
  have HOH := hide hoh
  obtain ⟨_, _, rfl⟩ := (rows_of_ownS hoh.1).slice
  obtain ⟨_, _, rfl⟩ := (rows_of_ownS hoh.2.1).slice
  clear hoh hx17 hb17 HY
  go_wp2_with fail
  refine (HEK _ _ _ (accStrs (unhide HOH)).1 (accStrs (unhide HOW)).1).mono ?_
  rintro e w19 ⟨rfl, hx19⟩
  have hb19 : Below w18.heap.size w18 w19 := Below.trans (by go_grown) (hx19.mono (by go_size))
  replace HOW := hide ((unhide HOW).below hb19)
  replace HMD := hide ((unhide HMD).below hb19)
  replace HMW := hide ((unhide HMW).below hb19)
  replace HOH := hide ((unhide HOH).below hb19)
  replace HK := hide ((unhide HK).trans (hb19.mono (unhide HK).size))
  clear hx18 hb18
  go_wp2_with fail
  refine (HEV _ _ _ (accStrs (unhide HOH)).2 (accStrs (unhide HOW)).2).mono ?_
  rintro e w20 ⟨rfl, hx20⟩
  have hb20 : Below w19.heap.size w19 w20 := Below.trans (by go_grown) (hx20.mono (by go_size))
  replace HMD := hide ((unhide HMD).below hb20)
  replace HMW := hide ((unhide HMW).below hb20)
  replace HOW := hide ((unhide HOW).below hb20)
  replace HOH := hide ((unhide HOH).below hb20)
  replace HK := hide ((unhide HK).trans (hb20.mono (unhide HK).size))
  clear hx19 hb19
  go_wp2_with fail
  refine (HHK _ _ _ (unhide HMD)).mono ?_
  rintro e w21 ⟨rfl, hx21⟩
  have hb21 : Below w20.heap.size w20 w21 := Below.trans (by go_grown) (hx21.mono (by go_size))
  replace HMD := hide ((unhide HMD).below hb21)
  replace HMW := hide ((unhide HMW).below hb21)
  replace HK := hide ((unhide HK).trans (hb21.mono (unhide HK).size))
  clear hx20 hb20
  go_wp2_with fail
  refine (HHV _ _ _ (unhide HMW)).mono ?_
  rintro e w22 ⟨rfl, hx22⟩
  have hb22 : Below w21.heap.size w21 w22 := Below.trans (by go_grown) (hx22.mono (by go_size))
  replace HMW := hide ((unhide HMW).below hb22)
  replace HK := hide ((unhide HK).trans (hb22.mono (unhide HK).size))
  have hfin := unhide HK
  go_wp2_with fail
  go_returns
  exact ⟨rfl, hfin⟩

theorem own : ownKnob Try.prog.godebug = none := by kernel_rfl
theorem laidOut : laidOutB Try.prog = true := by kernel_rfl
set_option maxRecDepth 100000 in
theorem lifted (os : Os) (started : os.Started) (H : Type) (enc : TypeId × Value → H) :
    ReturnsInHanded {} Try.checked os 10 .any (Rows.fnExactRangeOfSpec.pre6 enc Try.prog Try.f10 Rows.fnExactRangeOfRow.domain false) (Rows.fnExactRangeOfSpec.post enc Try.prog Try.f10 false true false false) := by
  refine returnsInHanded_of_change (C := Try.checked) own started (by kernel_rfl) Try.func10
    (ChangeSpec.witness6 (enc := enc) (C := Try.checked) false ⟨#[], #[.agg #[.slice none 0 0], .string ByteArray.empty, .string ByteArray.empty], []⟩ 8 (by kernel_rfl) (by kernel_rfl) (by kernel_rfl) (by kernel_rfl)) ?_
  intro W base args ds gs before hval0 hW hcnd _
  have hval : ∀ (j : Nat) t v, Try.f10.params[j]? = some t → args[j]? = some v → Value.okWide Try.prog W .any base t v := hval0
  have hW' := hW
  obtain ⟨p, q, hA0, hV, rfl, hfz, hnd⟩ := hW
  have hA : DataW.TrodAll enc Try.prog W 0 (fun _ => true) true Try.f10.params.toList args.toList ds p := hA0
  rw [Try.params10] at hA hval
  obtain ⟨v0, vs0, d0, ds0, p0, q0, hargs, rfl, rfl, h0, r0⟩ := trodAll_cons hA
  obtain ⟨v1, vs1, d1, ds1, p1, q1, rfl, rfl, rfl, h1, r1⟩ := trodAll_cons r0
  obtain ⟨v2, vs2, d2, ds2, p2, q2, rfl, rfl, rfl, h2, r2⟩ := trodAll_cons r1
  obtain ⟨rfl, rfl, rfl⟩ := trodAll_nil r2
  obtain rfl : args = #[v0, v1, v2] := by cases args; simp_all
  obtain ⟨rfl, rfl⟩ := trodVars_none hV
  have kk0 := h0
  have lt0 : ∀ x ∈ p0, x.block < W.heap.size := by obtain ⟨m, hm⟩ := kk0; exact DataW.trod_lt m _ _ _ hm
  obtain ⟨xt0, ps0_, rfl, hss0, hre0⟩ := openTree (hval 0 56 v0 rfl rfl) h0
  obtain ⟨s1, rfl, rfl, rfl, hs1⟩ := open_string Try.underlying9 (hval 1 9 v1 rfl rfl) h1
  obtain ⟨s2, rfl, rfl, rfl, hs2⟩ := open_string Try.underlying9 (hval 2 9 v2 rfl rfl) h2
  clear hA0 hval0
  refine (walk xt0 ps0_ hre0 s1 hs1 s2 hs2 W hss0).mono fun e W' ⟨he, bel⟩ => ?_
  subst he
  exact ⟨_, rfl, _, _, _, [], _, [], hW', trodAll_mk1 (shut_bool Try.underlying4 _), (trodAll_cons_mk (Below.trod laidOut (by kernel_rfl) (of_decide_eq_true (by kernel_rfl)) kk0 bel lt0) (trodAll_cons_mk (shut_string Try.underlying9 hs1) (trodAll_cons_mk (shut_string Try.underlying9 hs2) trodAll_mk0))), rfl, bel.frame _, fun h => by cases h⟩

theorem over : Rows.fnExactRangeOfRow.holds Try.pinned (OpenSpec.ofChange Rows.fnExactRangeOfSpec) :=
  OpenClaim.holds_of_wide 10 Try.f10 rfl rfl rfl rfl rfl rfl rfl ⟨rfl, rfl, rfl, rfl, rfl⟩ rfl rfl rfl rfl rfl (by kernel_rfl) Try.func10 (by kernel_rfl)
    (of_decide_eq_true (by kernel_rfl)) (by unfold Func.isWrapper; first | (rw [if_pos (by decide +kernel)]; kernel_rfl) | (rw [if_neg (by decide +kernel)]; exact ⟨rfl, rfl⟩))
    (fun os started H enc _ => lifted os started H enc)
end Go.Proofs.Ytmmccjdkafojgaa.fnExactRangeOf
namespace Go.Proofs.Ytmmccjdkafojgaa
theorem fnExactRangeOf_holds : Rows.FnExactRangeOfSaid := fnExactRangeOf.over
#print axioms fnExactRangeOf_holds
end Go.Proofs.Ytmmccjdkafojgaa
