/- At every tree the function FnExactKeysIn returns true and leaves its argument as it was: KeysIn answers as its model does, and its answer owns its memory. No condition. -/
import Derived.Test.YtmmccjdkafojgaaTreeArg
import Derived.Test.YtmmccjdkafojgaaKeysX
import Derived.Test.YtmmccjdkafojgaaMkP
namespace Go.Proofs.Ytmmccjdkafojgaa.fnExactKeysIn
open Go.ChangeShapes Go.WideShapes Go.ChangeAt Go.RowKit Go.Joins
open Go.ChangeMaps (open_string shut_string)
set_option linter.unusedVariables false
attribute [local go_sem ↓] Go.wp_at_zero Go.wp_at_succ
theorem hide {p : Prop} (h : p) : Hid p := h
theorem unhide {p : Prop} (h : Hid p) : p := h

set_option maxRecDepth 100000 in
set_option maxHeartbeats 6400000 in
theorem walk (x : Value) (ps : List Pg) (hm : ReTree ps) (w : World) (hx : LPgsAt w x ps) :
    Calls Try.prog 8 #[.agg #[x]] w fun e w' => e = .returned (.bool true) ∧ Below w.heap.size w w' := by
  have HS := hide hx
  have HS0 := hide hx
  have HK : Hid (Below w.heap.size w w) := Below.refl _ _
  obtain ⟨xa, xc, rfl⟩ := hx.slice
  clear hx
  have HZ := fun W h => szTreeIs (.slice xa ps.length xc) ps 1048576 W h (by omega) hm
  simp only [show ((1048576 : Nat) : Int) = 1048576 from rfl] at HZ
  by_cases hbig : 1048576 < ps.length + sumP ps
  · have HR : Hid (szRP 1048576 ps = -1) := by show _ = _; unfold szRP; rw [if_neg (by omega)]
    rw [HR.out] at HZ
    go_enter Try.func8, Try.ntmps8
    go_wp2_with fail
    refine (HZ _ ((unhide HS).below (by go_grown))).mono ?_
    rintro e w1 ⟨rfl, hx1⟩
    have hb1 : Below w.heap.size w w1 := Below.trans (by go_grown) (hx1.mono (by go_size))
    replace HS := hide ((unhide HS).below hb1)
    replace HK := hide ((unhide HK).trans (hb1.mono (unhide HK).size))
    have hfin := unhide HK
    go_wp2
    go_returns
    exact ⟨rfl, hfin⟩
  have HR : Hid (szRP 1048576 ps = ((1048576 - (ps.length + sumP ps) : Nat) : Int)) := by show _ = _; unfold szRP; rw [if_pos (by omega)]
  rw [HR.out] at HZ
  have hh := hm.small (by omega)
  obtain ⟨K, B, HK40, HSP, HIM⟩ : ∃ (K : List ByteArray) (B : Bool), K.length ≤ 40 ∧ (∀ x W, PgsAt W x ps → Calls Try.prog 29 #[.agg #[x]] W fun e w' => ∃ kv, e = .returned (.tuple #[kv, .bool B]) ∧ OwnS w' W.heap.size 9 kv K.length (strsV K) ∧ Below W.heap.size W w') ∧
      (∀ x W, PgsAt W x ps → Calls Try.prog 21 #[.agg #[x]] W fun e w' => ∃ kv, e = .returned (.tuple #[kv, .bool B]) ∧ OwnS w' W.heap.size 9 kv K.length (strsV K) ∧ Below W.heap.size W w') := by
    by_cases ht : ∃ t, TreeIs ps t
    · obtain ⟨t, ht⟩ := ht
      refine ⟨(allN t).map (·.1), true, by simpa using ht.2.2.2.2, fun x W h => ?_, fun x W h => ?_⟩
      · simpa [keys_mapK] using specKeysYes hh ht W x h
      · simpa [keys_mapK] using implKeysYes hh ht W x h
    · have ht' : ∀ t, ¬ TreeIs ps t := fun t h => ht ⟨t, h⟩
      refine ⟨[], false, by simp, fun x W h => (specKeysNo hh ht' W x h).mono ?_, fun x W h => (implKeysNo hh ht' W x h).mono ?_⟩
      · rintro e w' ⟨rfl, hb⟩
        exact ⟨_, rfl, OwnS.nil _ _ _, hb⟩
      · rintro e w' ⟨rfl, hb⟩
        exact ⟨_, rfl, OwnS.nil _ _ _, hb⟩
  have HTO := fun x W h => toTreeIs x ps W h hh.1
  have HTF := fun x W h => toTreeF x ps W h hh.1
  have HEQ := fun x y W h g => eqTreeIs x y ps W h g hh.1
  have HES := fun a b W h g => eqStr a b K W h g (by omega)
  have hbn : (B != B) = false := by cases B <;> rfl
  have HSM := hide hh.1
  obtain ⟨M, hM⟩ : ∃ M : Nat, M = 1 + K.length := ⟨_, rfl⟩
  have hM0 : ¬ (M : Int) < 0 := by omega
  have hMM : ((M : Int) != (M : Int)) = false := by simp
  have HMK := fun b v W (h : OwnS W b 9 v K.length (strsV K)) => markOwn b K.length 1 K v W h rfl (by omega) (by omega)
  have HHD := fun b v W (h : Marked W b 1 v K.length) => heldOwn b K.length 1 v W h (by omega) (by omega)
  simp only [show ((1 : Nat) : Int) = 1 from rfl] at HMK HHD
  rw [← hM] at HMK HHD
  clear hM
  clear hh hm HR
  generalize 1048576 - (ps.length + sumP ps) = z at *
  have hz : ¬ (z : Int) < 0 := by omega
  go_enter Try.func8, Try.ntmps8
  go_wp2_with fail
  refine (HZ _ ((unhide HS).below (by go_grown))).mono ?_
  rintro e w1 ⟨rfl, hx1⟩
  have hb1 : Below w.heap.size w w1 := Below.trans (by go_grown) (hx1.mono (by go_size))
  replace HS := hide ((unhide HS).below hb1)
  replace HK := hide ((unhide HK).trans (hb1.mono (unhide HK).size))
  have qBX := boxOf1 hx1
  have BX := hide qBX
  clear qBX
  have BXz := (unhide BX).1
  have BXc0 := (unhide BX).2.1 0 _ rfl
  go_wp2_with fail
  refine (HTO _ _ (unhide HS)).mono ?_
  rintro e w2 ⟨u1, rfl, hu, hx2⟩
  have hb2 : Below w1.heap.size w1 w2 := Below.trans (by go_grown) (hx2.mono (by go_size))
  replace HS := hide ((unhide HS).below hb2)
  (try clear BXz BXc0)
  replace BX := hide ((unhide BX).below hb2)
  have BXz := (unhide BX).1
  have BXc0 := (unhide BX).2.1 0 _ rfl
  replace HK := hide ((unhide HK).trans (hb2.mono (unhide HK).size))
  have HU := hide hu.at
  obtain ⟨_, _, rfl⟩ := hu.at.slice
  clear hu hx1 hb1
  go_wp2_with fail
  refine (HSP _ _ (unhide HU)).mono ?_
  rintro e w3 ⟨kw, rfl, how, hx3⟩
  have hb3 : Below w2.heap.size w2 w3 := Below.trans (by go_grown) (hx3.mono (by go_size))
  replace HS := hide ((unhide HS).below hb3)
  (try clear BXz BXc0)
  replace BX := hide ((unhide BX).below hb3)
  have BXz := (unhide BX).1
  have BXc0 := (unhide BX).2.1 0 _ rfl
  replace HK := hide ((unhide HK).trans (hb3.mono (unhide HK).size))
  have HOW := hide how
  have HWL := hide (fun g hg => (own_lt how g hg).2)
  obtain ⟨_, _, rfl⟩ := (rows_of_ownS how).slice
  clear how HU hx2 hb2
  have HB0 : Hid (w.heap.size < w3.heap.size) := BXz
  go_wp2_with fail
  refine (HTF _ _ (unhide HS)).mono ?_
  rintro e w4 ⟨x1, rfl, hx, hnf, hx4⟩
  have hb4 : Below w3.heap.size w3 w4 := Below.trans (by go_grown) (hx4.mono (by go_size))
  replace HS := hide ((unhide HS).below hb4)
  (try clear BXz BXc0)
  replace BX := hide ((unhide BX).below hb4)
  have BXz := (unhide BX).1
  have BXc0 := (unhide BX).2.1 0 _ rfl
  replace HOW := hide ((unhide HOW).below hb4)
  replace HK := hide ((unhide HK).trans (hb4.mono (unhide HK).size))
  have HM := hide (MkP.of hx (unhide HSM) hnf)
  have HXX := hide hx.at
  have hz34 := hx4.size
  obtain ⟨xa1, xc1, rfl⟩ := hx.at.slice
  have HZ4 : Hid (w3.heap.size ≤ w4.heap.size) := hz34
  clear hx hnf hx3 hb3
  go_wp2_with fail
  refine (HIM _ _ ((unhide HXX).below (by go_grown))).mono ?_
  rintro e w5 ⟨kg, rfl, hog, hx5⟩
  have hb5 : Below w4.heap.size w4 w5 := Below.trans (by go_grown) (hx5.mono (by go_size))
  replace HS := hide ((unhide HS).below hb5)
  (try clear BXz BXc0)
  replace BX := hide ((unhide BX).below hb5)
  have BXz := (unhide BX).1
  have BXc0 := (unhide BX).2.1 0 _ rfl
  replace HOW := hide ((unhide HOW).below hb5)
  replace HM := hide ((unhide HM).below hb5)
  replace HXX := hide ((unhide HXX).below hb5)
  replace HK := hide ((unhide HK).trans (hb5.mono (unhide HK).size))
  have qBY := boxOf1 hx5
  have BY := hide qBY
  clear qBY
  have BYz := (unhide BY).1
  have BYc0 := (unhide BY).2.1 0 _ rfl
  have HOG := hide hog
  have HGL : Hid (∀ g ∈ obl kg, w4.heap.size ≤ g) := fun g hg => by
    have h7 := (own_lt hog g hg).1
    simp at h7
    omega
  obtain ⟨_, _, rfl⟩ := (rows_of_ownS hog).slice
  clear hog hx4 hb4
  go_wp2_with fail
  refine (HES _ _ _ (strs_own (unhide HOG) rfl) (strs_own (unhide HOW) rfl)).mono ?_
  rintro e w6 ⟨rfl, hx6⟩
  have hb6 : Below w5.heap.size w5 w6 := Below.trans (by go_grown) (hx6.mono (by go_size))
  replace HS := hide ((unhide HS).below hb6)
  (try clear BXz BXc0)
  replace BX := hide ((unhide BX).below hb6)
  have BXz := (unhide BX).1
  have BXc0 := (unhide BX).2.1 0 _ rfl
  replace HOW := hide ((unhide HOW).below hb6)
  replace HM := hide ((unhide HM).below hb6)
  replace HXX := hide ((unhide HXX).below hb6)
  (try clear BYz BYc0)
  replace BY := hide ((unhide BY).below hb6)
  have BYz := (unhide BY).1
  have BYc0 := (unhide BY).2.1 0 _ rfl
  replace HOG := hide ((unhide HOG).below hb6)
  replace HK := hide ((unhide HK).trans (hb6.mono (unhide HK).size))
  clear hx5 hb5
  go_upto_region 10 with fail
  go_region_held3 (fun w' => w'.cell? ⟨w.heap.size, 0, none⟩ = some (.slice xa ps.length xc) ∧ w'.cell? ⟨w4.heap.size, 0, none⟩ = some (.slice xa1 ps.length xc1)) (first | go_keep | trivial)
    (first
      | (go_at_call 43; refine (HTO _ _ ((unhide HS).below (by go_grown))).mono ?_; rintro e w7 ⟨y1, rfl, hy, hx7⟩; have hp7 := kept hx7 w.heap.size (by go_size); have hq7 := kept hx7 w4.heap.size (by go_size); have k7 : Below w6.heap.size w6 w7 := (by exact Below.trans (by go_grown) (hx7.mono (by go_size))); have HY := hide hy.at; have HX3 := hide ((unhide HXX).below k7); have kz7 := k7.size; clear hx7 hy)
      | (go_at_call 39; refine (HEQ _ y1 _ ((unhide HX3).read.below (by go_grown)) ((unhide HY).read.below (by go_grown))).mono ?_; rintro e w8 ⟨rfl, hx8⟩; have hp8 := kept hx8 w.heap.size (by omega); have hq8 := kept hx8 w4.heap.size (by omega); have k8 : Below w6.heap.size w6 w8 := (by exact Below.trans k7 (hx8.mono k7.size)); clear hx8))
  replace HS := hide ((unhide HS).below k8)
  replace HOW := hide ((unhide HOW).below k8)
  replace HM := hide ((unhide HM).below k8)
  replace HOG := hide ((unhide HOG).below k8)
  replace BX := hide ((unhide BX).below k8)
  replace BY := hide ((unhide BY).below k8)
  replace HK := hide ((unhide HK).trans (k8.mono (unhide HK).size))
  have BXz := (unhide BX).1
  have BXc0 := (unhide BX).2.1 0 _ rfl
  have BYz := (unhide BY).1
  have BYc0 := (unhide BY).2.1 0 _ rfl
  have hs8 := (unhide HM).2.2
  go_wp2_with fail
  refine (markTreeA _ _ 1 ps.length _ _ (unhide HM).1 (unhide HSM).1 (unhide HM).2.1 hs8 (by omega) (by omega)).mono ?_
  rintro e w9 ⟨m, rfl, ho9⟩
  have hm0 : ¬ (m : Int) < 0 := by omega
  have k9 : Below w.heap.size w8 w9 := ho9.below (unhide HK).size (fun g hg => Nat.le_trans (Nat.le_of_lt HB0.out) (mem_rg.1 hg).1)
  replace HK := hide ((unhide HK).trans k9)
  replace HOW := hide ((unhide HOW).off ho9 (fun g hg hm => by have h1 := HWL.out g hg; have h2 := (mem_rg.1 hm).1; omega))
  replace HOG := hide ((unhide HOG).off ho9 (fun g hg hm => by have h1 := HGL.out g hg; have h2 := (mem_rg.1 hm).2; omega))
  replace HS := hide ((unhide HS0).below (unhide HK))
  replace BX := hide ((unhide BX).off ho9 (fun hm => by have h1 := (mem_rg.1 hm).1; have h2 := HB0.out; omega))
  clear k9 ho9 BXz BXc0 BYz BYc0 hs8 HM BY HXX
  have BXz := (unhide BX).1
  have BXc0 := (unhide BX).2.1 0 _ rfl
  go_wp2_with fail
  refine (HES _ _ _ (strs_own (unhide HOG) rfl) (strs_own (unhide HOW) rfl)).mono ?_
  rintro e w10 ⟨rfl, hx10⟩
  have hb10 : Below w9.heap.size w9 w10 := Below.trans (by go_grown) (hx10.mono (by go_size))
  replace HS := hide ((unhide HS).below hb10)
  (try clear BXz BXc0)
  replace BX := hide ((unhide BX).below hb10)
  have BXz := (unhide BX).1
  have BXc0 := (unhide BX).2.1 0 _ rfl
  replace HOW := hide ((unhide HOW).below hb10)
  replace HOG := hide ((unhide HOG).below hb10)
  replace HK := hide ((unhide HK).trans (hb10.mono (unhide HK).size))
  go_wp2_with fail
  refine (HMK _ _ _ (unhide HOG)).mono ?_
  rintro e w11 ⟨rfl, hmk, ho11⟩
  have HMD := hide hmk
  have k11 : Below w.heap.size w10 w11 := ho11.below (unhide HK).size (fun g hg => by have h1 := HGL.out g hg; have h2 := HB0.out; have h3 := HZ4.out; omega)
  replace HK := hide ((unhide HK).trans k11)
  replace HOW := hide ((unhide HOW).off ho11 (fun g hg hm => by have h1 := HWL.out g hg; have h2 := HGL.out g hm; have h3 := HZ4.out; omega))
  replace HS := hide ((unhide HS0).below (unhide HK))
  replace BX := hide ((unhide BX).off ho11 (fun hm => by have h1 := HGL.out _ hm; have h2 := HB0.out; have h3 := HZ4.out; omega))
  clear hmk k11 ho11 BXz BXc0 HOG hx10 hb10
  have BXz := (unhide BX).1
  have BXc0 := (unhide BX).2.1 0 _ rfl
  go_wp2_with fail
  refine (HHD _ _ _ (unhide HMD)).mono ?_
  rintro e w12 ⟨rfl, hx12⟩
  have hb12 : Below w11.heap.size w11 w12 := Below.trans (by go_grown) (hx12.mono (by go_size))
  replace HS := hide ((unhide HS).below hb12)
  (try clear BXz BXc0)
  replace BX := hide ((unhide BX).below hb12)
  have BXz := (unhide BX).1
  have BXc0 := (unhide BX).2.1 0 _ rfl
  replace HOW := hide ((unhide HOW).below hb12)
  replace HMD := hide ((unhide HMD).below hb12)
  replace HK := hide ((unhide HK).trans (hb12.mono (unhide HK).size))
  go_wp2_with fail
  refine (HTO _ _ (unhide HS)).mono ?_
  rintro e w13 ⟨y13, rfl, hy, hx13⟩
  have hb13 : Below w12.heap.size w12 w13 := Below.trans (by go_grown) (hx13.mono (by go_size))
  replace HS := hide ((unhide HS).below hb13)
  (try clear BXz BXc0)
  replace BX := hide ((unhide BX).below hb13)
  have BXz := (unhide BX).1
  have BXc0 := (unhide BX).2.1 0 _ rfl
  replace HOW := hide ((unhide HOW).below hb13)
  replace HMD := hide ((unhide HMD).below hb13)
  replace HK := hide ((unhide HK).trans (hb13.mono (unhide HK).size))
  have HY := hide hy.at
  obtain ⟨_, _, rfl⟩ := hy.at.slice
  clear hy hx12 hb12
  go_wp2_with fail
  refine (HIM _ _ (unhide HY)).mono ?_
  rintro e w14 ⟨kh, rfl, hoh, hx14⟩
  have hb14 : Below w13.heap.size w13 w14 := Below.trans (by go_grown) (hx14.mono (by go_size))
  replace HS := hide ((unhide HS).below hb14)
  (try clear BXz BXc0)
  replace BX := hide ((unhide BX).below hb14)
  have BXz := (unhide BX).1
  have BXc0 := (unhide BX).2.1 0 _ rfl
  replace HOW := hide ((unhide HOW).below hb14)
  replace HMD := hide ((unhide HMD).below hb14)
  replace HK := hide ((unhide HK).trans (hb14.mono (unhide HK).size))
  have HOH := hide hoh
  obtain ⟨_, _, rfl⟩ := (rows_of_ownS hoh).slice
  clear hoh hx13 hb13 HY
  go_wp2_with fail
  refine (HES _ _ _ (strs_own (unhide HOH) rfl) (strs_own (unhide HOW) rfl)).mono ?_
  rintro e w15 ⟨rfl, hx15⟩
  have hb15 : Below w14.heap.size w14 w15 := Below.trans (by go_grown) (hx15.mono (by go_size))
  replace HS := hide ((unhide HS).below hb15)
  replace HOW := hide ((unhide HOW).below hb15)
  replace HMD := hide ((unhide HMD).below hb15)
  replace HOH := hide ((unhide HOH).below hb15)
  replace HK := hide ((unhide HK).trans (hb15.mono (unhide HK).size))
  clear hx14 hb14
  go_wp2_with fail
  refine (HHD _ _ _ (unhide HMD)).mono ?_
  rintro e w16 ⟨rfl, hx16⟩
  have hb16 : Below w15.heap.size w15 w16 := Below.trans (by go_grown) (hx16.mono (by go_size))
  replace HMD := hide ((unhide HMD).below hb16)
  replace HK := hide ((unhide HK).trans (hb16.mono (unhide HK).size))
  have hfin := unhide HK
  go_wp2_with fail
  go_returns
  exact ⟨rfl, hfin⟩

theorem own : ownKnob Try.prog.godebug = none := by kernel_rfl
theorem laidOut : laidOutB Try.prog = true := by kernel_rfl
set_option maxRecDepth 100000 in
theorem lifted (os : Os) (started : os.Started) (H : Type) (enc : TypeId × Value → H) :
    ReturnsInHanded {} Try.checked os 8 .any (Rows.fnExactKeysInSpec.pre6 enc Try.prog Try.f8 Rows.fnExactKeysInRow.domain false) (Rows.fnExactKeysInSpec.post enc Try.prog Try.f8 false true false false) := by
  refine returnsInHanded_of_change (C := Try.checked) own started (by kernel_rfl) Try.func8
    (ChangeSpec.witness6 (enc := enc) (C := Try.checked) false ⟨#[], #[.agg #[.slice none 0 0]], []⟩ 8 (by kernel_rfl) (by kernel_rfl) (by kernel_rfl) (by kernel_rfl)) ?_
  intro W base args ds gs before hval0 hW hcnd _
  have hval : ∀ (j : Nat) t v, Try.f8.params[j]? = some t → args[j]? = some v → Value.okWide Try.prog W .any base t v := hval0
  have hW' := hW
  obtain ⟨p, q, hA0, hV, rfl, hfz, hnd⟩ := hW
  have hA : DataW.TrodAll enc Try.prog W 0 (fun _ => true) true Try.f8.params.toList args.toList ds p := hA0
  rw [Try.params8] at hA hval
  obtain ⟨v0, vs0, d0, ds0, p0, q0, hargs, rfl, rfl, h0, r0⟩ := trodAll_cons hA
  obtain ⟨rfl, rfl, rfl⟩ := trodAll_nil r0
  obtain rfl : args = #[v0] := by cases args; simp_all
  obtain ⟨rfl, rfl⟩ := trodVars_none hV
  have kk0 := h0
  have lt0 : ∀ x ∈ p0, x.block < W.heap.size := by obtain ⟨m, hm⟩ := kk0; exact DataW.trod_lt m _ _ _ hm
  obtain ⟨xt0, ps0_, rfl, hss0, hre0⟩ := openTree (hval 0 56 v0 rfl rfl) h0
  clear hA0 hval0
  refine (walk xt0 ps0_ hre0 W hss0).mono fun e W' ⟨he, bel⟩ => ?_
  subst he
  exact ⟨_, rfl, _, _, _, [], _, [], hW', trodAll_mk1 (shut_bool Try.underlying4 _), (trodAll_cons_mk (Below.trod laidOut (by kernel_rfl) (of_decide_eq_true (by kernel_rfl)) kk0 bel lt0) trodAll_mk0), rfl, bel.frame _, fun h => by cases h⟩

theorem over : Rows.fnExactKeysInRow.holds Try.pinned (OpenSpec.ofChange Rows.fnExactKeysInSpec) :=
  OpenClaim.holds_of_wide 8 Try.f8 rfl rfl rfl rfl rfl rfl rfl ⟨rfl, rfl, rfl, rfl, rfl⟩ rfl rfl rfl rfl rfl (by kernel_rfl) Try.func8 (by kernel_rfl)
    (of_decide_eq_true (by kernel_rfl)) (by unfold Func.isWrapper; first | (rw [if_pos (by decide +kernel)]; kernel_rfl) | (rw [if_neg (by decide +kernel)]; exact ⟨rfl, rfl⟩))
    (fun os started H enc _ => lifted os started H enc)
end Go.Proofs.Ytmmccjdkafojgaa.fnExactKeysIn
namespace Go.Proofs.Ytmmccjdkafojgaa
theorem fnExactKeysIn_holds : Rows.FnExactKeysInSaid := fnExactKeysIn.over
#print axioms fnExactKeysIn_holds
end Go.Proofs.Ytmmccjdkafojgaa
