/- At every list of rows and every number the function FnExactBestFew returns true and leaves its argument as it was: BestFew answers as its model does, and its answer owns its memory. No condition. -/
import Derived.Test.YthdodlbhkpoadaaScX
import Derived.Test.YthdodlbhkpoadaaThrS
import Derived.Lib.SmallJoins
namespace Go.Proofs.Ythdodlbhkpoadaa.fnExactBestFew
open Go.ChangeShapes Go.WideShapes Go.ChangeAt Go.RowKit Go.Joins Go.Deep
open Go.ChangeMaps (open_string shut_string)
set_option linter.unusedVariables false
attribute [local go_sem ↓] Go.wp_at_zero Go.wp_at_succ

set_option maxRecDepth 100000 in
set_option maxHeartbeats 12800000 in
theorem walk (xq : Value) (Rq : List (List Sc)) (hmq : ReRs Rq) (yy : Int) (hwy : (Lit.int .i64 yy).wf = true) (w : World) (hxq : RwsAt w xq Rq) :
    Calls Try.prog 7 #[xq, .int .i64 yy] w fun e w' => e = .returned (.bool true) ∧ Below w.heap.size w w' := by
  have HAq := hid hxq
  obtain ⟨aq, cq, hveq⟩ := hxq.slice
  subst hveq
  clear hxq
  have HZq := fun W h => szScR (.slice aq Rq.length cq) Rq 1048576 W h (by omega) hmq
  simp only [show ((1048576 : Nat) : Int) = 1048576 from rfl] at HZq
  by_cases hbgq : 1048576 < Rq.length + sumR Rq
  · have hzn : szRR 1048576 Rq = -1 := by unfold szRR; rw [if_neg (by omega)]
    rw [hzn] at HZq
    clear hzn hbgq
    have k0 : Below w.heap.size w w := Below.refl _ _
    go_enter Try.func7, Try.ntmps7
    go_wp2_with fail
    refine (HZq _ (HAq.out.below k0)).mono ?_
    rintro e w1 ⟨rfl, hb1⟩
    have k1 : Below w.heap.size w w1 := k0.trans (hb1.mono k0.size)
    have sz1 : w.heap.size ≤ w1.heap.size := hb1.size
    clear hb1
    go_wp2
    go_returns
    exact ⟨rfl, k1⟩
  have hzpq : szRR 1048576 Rq = ((1048576 - (Rq.length + sumR Rq) : Nat) : Int) := by unfold szRR; rw [if_pos (by omega)]
  rw [hzpq] at HZq
  obtain ⟨zq, hzq⟩ : ∃ z : Nat, z = 1048576 - (Rq.length + sumR Rq) := ⟨_, rfl⟩
  rw [← hzq] at HZq
  have hzdq : decide ((zq : Int) < 0) = false := decide_eq_false (by omega)
  have hzd2q : ¬ (zq : Int) < 0 := by omega
  clear hzpq
  have l1q : Rq.length ≤ 1048576 := by omega
  have l2q : ∀ r ∈ Rq, r.length ≤ 1048576 := fun r hr => by have := sumR_mem hr; omega
  have l3q : sumR Rq ≤ 1048576 := by omega
  obtain ⟨B0, hB⟩ := bool_of (GoodRs Rq)
  have hAl0 := bfA_len B0 Rq yy
  have HSP0 := fun x W h => specBestFew x Rq yy B0 hB W h l1q l2q
  have HIM0 := fun x W h => implBestFew x Rq yy B0 hB W h l1q l2q
  obtain ⟨A, hA⟩ : ∃ A, A = bfA B0 Rq yy := ⟨_, rfl⟩
  obtain ⟨B, hBe⟩ : ∃ B, B = bfB B0 yy := ⟨_, rfl⟩
  rw [← hA, ← hBe] at HSP0 HIM0
  rw [← hA] at hAl0
  have hAl : A.length ≤ 1048576 := by omega
  have HSP : ∀ x W, RdR W x Rq → Calls Try.prog 17 #[x, .int .i64 yy] W fun e w' => ∃ a c, e = .returned (.tuple #[.slice a A.length c, .bool B]) ∧ OwnH W.heap.size w' (.slice a A.length c) A ∧ Below W.heap.size W w' := HSP0
  have HIM : ∀ x W, RdR W x Rq → Calls Try.prog 16 #[x, .int .i64 yy] W fun e w' => ∃ a c, e = .returned (.tuple #[.slice a A.length c, .bool B]) ∧ OwnH W.heap.size w' (.slice a A.length c) A ∧ Below W.heap.size W w' := HIM0
  have hbn : (B != B) = false := by cases B <;> rfl
  clear hB hBe hA HSP0 HIM0 hAl0
  have HTOq := fun x W h => toScR x Rq W h l1q l2q
  have HEAq := fun x y W h g => eqScR x y Rq W h g l1q l2q
  obtain ⟨Xq, hXq⟩ : ∃ X : Nat, X = 1 + 2 * sumR Rq := ⟨_, rfl⟩
  have HMAq := fun b v vs W h => markScR b 1 v Rq vs W h (by omega) l1q
  rw [← hXq] at HMAq
  simp only [show ((1 : Nat) : Int) = 1 from rfl] at HMAq
  have hXDEC : decide ((Xq : Int) < 0) = false := decide_eq_false (by omega)
  have hXDE2 : ¬ (Xq : Int) < 0 := by omega
  have HEQ := fun x y W h g => eqScS x y A W h g hAl
  obtain ⟨N, hN⟩ : ∃ N : Nat, N = 1 + 2 * A.length := ⟨_, rfl⟩
  have HMG := fun b v W h => markScS b 1 v A W h (by omega)
  have HHG := fun v W h => heldScS 1 A.length v W h (by omega)
  rw [← hN] at HMG HHG
  simp only [show ((1 : Nat) : Int) = 1 from rfl] at HMG HHG
  have hN0 : decide ((N : Int) < 0) = false := decide_eq_false (by omega)
  have hN0' : ¬ (N : Int) < 0 := by omega
  have hNN : ((N : Int) != (N : Int)) = false := by simp
  have hML : (mkS 1 A.length).length = A.length := mkS_len _ _
  clear hXq hzq hbgq hN
  have k0 : Below w.heap.size w w := Below.refl _ _
  go_enter Try.func7, Try.ntmps7
  go_wp2_with fail
  refine (HZq _ (HAq.out.below k0)).mono ?_
  rintro e w1 ⟨rfl, hb1⟩
  have k1 : Below w.heap.size w w1 := k0.trans (hb1.mono k0.size)
  have sz1 : w.heap.size ≤ w1.heap.size := hb1.size
  clear hb1
  go_wp2_with fail
  refine (HTOq _ _ (HAq.out.below k1)).mono ?_
  rintro e w2 ⟨aUq, cUq, vsUq, rfl, hUq, hb2⟩
  have k2 : Below w.heap.size w w2 := k1.trans (hb2.mono k1.size)
  have sz2 : w1.heap.size ≤ w2.heap.size := hb2.size
  have HUq := hid hUq
  have RUq : Hid (∀ g ∈ fpR (.slice aUq Rq.length cUq) vsUq, w1.heap.size ≤ g ∧ g < w2.heap.size) := hUq.lt
  clear hUq
  clear hb2
  go_wp2_with fail
  refine (HSP _ _ (HUq.out.rd)).mono ?_
  rintro e w3 ⟨aOW, cOW, rfl, hOW, hb3⟩
  have k3 : Below w.heap.size w w3 := k2.trans (hb3.mono k2.size)
  have sz3 : w2.heap.size ≤ w3.heap.size := hb3.size
  replace HUq := hid (HUq.out.below hb3)
  have HOW := hid hOW
  have ROW : Hid (∀ g ∈ hbl (.slice aOW A.length cOW), w2.heap.size ≤ g ∧ g < w3.heap.size) := hOW.lt
  clear hOW
  clear hb3
  clear HUq
  go_wp2_with fail
  refine (HTOq _ _ (HAq.out.below k3)).mono ?_
  rintro e w4 ⟨aXq, cXq, vsXq, rfl, hXq, hb4⟩
  have k4 : Below w.heap.size w w4 := k3.trans (hb4.mono k3.size)
  have sz4 : w3.heap.size ≤ w4.heap.size := hb4.size
  replace HOW := hid (HOW.out.below hb4)
  have HXq := hid hXq
  have RXq : Hid (∀ g ∈ fpR (.slice aXq Rq.length cXq) vsXq, w3.heap.size ≤ g ∧ g < w4.heap.size) := hXq.lt
  clear hXq
  clear hb4
  go_wp2_with fail
  refine (HIM _ _ (HXq.out.rd)).mono ?_
  rintro e w5 ⟨aOG, cOG, rfl, hOG, hb5⟩
  have k5 : Below w.heap.size w w5 := k4.trans (hb5.mono k4.size)
  have sz5 : w4.heap.size ≤ w5.heap.size := hb5.size
  replace HOW := hid (HOW.out.below hb5)
  replace HXq := hid (HXq.out.below hb5)
  have HOG := hid hOG
  have ROG : Hid (∀ g ∈ hbl (.slice aOG A.length cOG), w4.heap.size ≤ g ∧ g < w5.heap.size) := hOG.lt
  clear hOG
  clear hb5
  go_wp2_with fail
  refine (HEQ _ _ _ (HOG.out.at) (HOW.out.at)).mono ?_
  rintro e w6 ⟨rfl, hb6⟩
  have k6 : Below w.heap.size w w6 := k5.trans (hb6.mono k5.size)
  have sz6 : w5.heap.size ≤ w6.heap.size := hb6.size
  replace HOW := hid (HOW.out.below hb6)
  replace HXq := hid (HXq.out.below hb6)
  replace HOG := hid (HOG.out.below hb6)
  clear hb6
  go_wp2_with fail
  refine (HTOq _ _ (HAq.out.below k6)).mono ?_
  rintro e w7 ⟨aYq, cYq, vsYq, rfl, hYq, hb7⟩
  have k7 : Below w.heap.size w w7 := k6.trans (hb7.mono k6.size)
  have sz7 : w6.heap.size ≤ w7.heap.size := hb7.size
  replace HOW := hid (HOW.out.below hb7)
  replace HXq := hid (HXq.out.below hb7)
  replace HOG := hid (HOG.out.below hb7)
  have HYq := hid hYq
  have RYq : Hid (∀ g ∈ fpR (.slice aYq Rq.length cYq) vsYq, w6.heap.size ≤ g ∧ g < w7.heap.size) := hYq.lt
  clear hYq
  clear hb7
  go_wp2_with fail
  refine (HEAq _ _ _ (HXq.out.rd.at) (HYq.out.rd.at)).mono ?_
  rintro e w8 ⟨rfl, hb8⟩
  have k8 : Below w.heap.size w w8 := k7.trans (hb8.mono k7.size)
  have sz8 : w7.heap.size ≤ w8.heap.size := hb8.size
  replace HOW := hid (HOW.out.below hb8)
  replace HXq := hid (HXq.out.below hb8)
  replace HOG := hid (HOG.out.below hb8)
  replace HYq := hid (HYq.out.below hb8)
  clear hb8
  clear HYq
  go_wp2_with fail
  refine (HMAq _ _ _ _ HXq.out).mono ?_
  rintro e w9 ⟨rfl, ho9⟩
  have k9 : Below w.heap.size w w9 := k8.trans (ho9.below k8.size (fun g hg => by have h1 := RXq.out g hg; have h2 := k3.size; omega))
  have sz9 : w8.heap.size ≤ w9.heap.size := ho9.size
  replace HOW := hid (HOW.out.off ho9 (fun g hg hm => by have h1 := ROW.out g hg; have h2 := RXq.out g hm; omega))
  replace HOG := hid (HOG.out.off ho9 (fun g hg hm => by have h1 := ROG.out g hg; have h2 := RXq.out g hm; omega))
  clear ho9 HXq
  go_wp2_with fail
  refine (HEQ _ _ _ (HOG.out.at) (HOW.out.at)).mono ?_
  rintro e w10 ⟨rfl, hb10⟩
  have k10 : Below w.heap.size w w10 := k9.trans (hb10.mono k9.size)
  have sz10 : w9.heap.size ≤ w10.heap.size := hb10.size
  replace HOW := hid (HOW.out.below hb10)
  replace HOG := hid (HOG.out.below hb10)
  clear hb10
  go_wp2_with fail
  refine (HMG _ _ _ HOG.out).mono ?_
  rintro e w11 ⟨rfl, hm11, ho11⟩
  have k11 : Below w.heap.size w w11 := k10.trans (ho11.below k10.size (fun g hg => by have h1 := ROG.out g hg; have h2 := k4.size; omega))
  have sz11 : w10.heap.size ≤ w11.heap.size := ho11.size
  replace HOW := hid (HOW.out.off ho11 (fun g hg hm => by have h1 := ROW.out g hg; have h2 := ROG.out g hm; omega))
  replace HOG := hid hm11
  clear ho11
  go_wp2_with fail
  refine (HHG _ _ HOG.out.at).mono ?_
  rintro e w12 ⟨rfl, hb12⟩
  have k12 : Below w.heap.size w w12 := k11.trans (hb12.mono k11.size)
  have sz12 : w11.heap.size ≤ w12.heap.size := hb12.size
  replace HOW := hid (HOW.out.below hb12)
  replace HOG := hid (HOG.out.below hb12)
  clear hb12
  go_wp2_with fail
  refine (HTOq _ _ (HAq.out.below k12)).mono ?_
  rintro e w13 ⟨aVq, cVq, vsVq, rfl, hVq, hb13⟩
  have k13 : Below w.heap.size w w13 := k12.trans (hb13.mono k12.size)
  have sz13 : w12.heap.size ≤ w13.heap.size := hb13.size
  replace HOW := hid (HOW.out.below hb13)
  replace HOG := hid (HOG.out.below hb13)
  have HVq := hid hVq
  have RVq : Hid (∀ g ∈ fpR (.slice aVq Rq.length cVq) vsVq, w12.heap.size ≤ g ∧ g < w13.heap.size) := hVq.lt
  clear hVq
  clear hb13
  go_wp2_with fail
  refine (HIM _ _ (HVq.out.rd)).mono ?_
  rintro e w14 ⟨aOH, cOH, rfl, hOH, hb14⟩
  have k14 : Below w.heap.size w w14 := k13.trans (hb14.mono k13.size)
  have sz14 : w13.heap.size ≤ w14.heap.size := hb14.size
  replace HOW := hid (HOW.out.below hb14)
  replace HOG := hid (HOG.out.below hb14)
  replace HVq := hid (HVq.out.below hb14)
  have HOH := hid hOH
  have ROH : Hid (∀ g ∈ hbl (.slice aOH A.length cOH), w13.heap.size ≤ g ∧ g < w14.heap.size) := hOH.lt
  clear hOH
  clear hb14
  clear HVq
  go_wp2_with fail
  refine (HEQ _ _ _ (HOH.out.at) (HOW.out.at)).mono ?_
  rintro e w15 ⟨rfl, hb15⟩
  have k15 : Below w.heap.size w w15 := k14.trans (hb15.mono k14.size)
  have sz15 : w14.heap.size ≤ w15.heap.size := hb15.size
  replace HOW := hid (HOW.out.below hb15)
  replace HOG := hid (HOG.out.below hb15)
  replace HOH := hid (HOH.out.below hb15)
  clear hb15
  go_wp2_with fail
  refine (HHG _ _ HOG.out.at).mono ?_
  rintro e w16 ⟨rfl, hb16⟩
  have k16 : Below w.heap.size w w16 := k15.trans (hb16.mono k15.size)
  have sz16 : w15.heap.size ≤ w16.heap.size := hb16.size
  replace HOW := hid (HOW.out.below hb16)
  replace HOG := hid (HOG.out.below hb16)
  replace HOH := hid (HOH.out.below hb16)
  clear hb16
  go_wp2_with fail
  go_returns
  exact ⟨rfl, k16⟩
theorem own : ownKnob Try.prog.godebug = none := by kernel_rfl
theorem laidOut : laidOutB Try.prog = true := by kernel_rfl
set_option maxRecDepth 100000 in
theorem lifted (os : Os) (started : os.Started) (H : Type) (enc : TypeId × Value → H) :
    ReturnsInHanded {} Try.checked os 7 .any (Rows.fnExactBestFewSpec.pre6 enc Try.prog Try.f7 Rows.fnExactBestFewRow.domain false) (Rows.fnExactBestFewSpec.post enc Try.prog Try.f7 false true false false) := by
  refine returnsInHanded_of_change (C := Try.checked) own started (by kernel_rfl) Try.func7
    (ChangeSpec.witness6 (enc := enc) (C := Try.checked) false ⟨#[], #[.slice none 0 0, .int .i64 0], []⟩ 8 (by kernel_rfl) (by kernel_rfl) (by kernel_rfl) (by kernel_rfl)) ?_
  intro W base args ds gs before hval0 hW hcnd _
  have hval : ∀ (j : Nat) t v, Try.f7.params[j]? = some t → args[j]? = some v → Value.okWide Try.prog W .any base t v := hval0
  have hW' := hW
  obtain ⟨p, q, hA0, hV, rfl, hfz, hnd⟩ := hW
  have hA : DataW.TrodAll enc Try.prog W 0 (fun _ => true) true Try.f7.params.toList args.toList ds p := hA0
  rw [Try.params7] at hA hval
  obtain ⟨v0, vs0, d0, ds0, p0, q0, hargs, rfl, rfl, h0, r0⟩ := trodAll_cons hA
  obtain ⟨v1, vs1, d1, ds1, p1, q1, rfl, rfl, rfl, h1, r1⟩ := trodAll_cons r0
  obtain ⟨rfl, rfl, rfl⟩ := trodAll_nil r1
  obtain rfl : args = #[v0, v1] := by cases args; simp_all
  obtain ⟨rfl, rfl⟩ := trodVars_none hV
  have kk0 := h0
  have lt0 : ∀ x ∈ p0, x.block < W.heap.size := by obtain ⟨m, hm⟩ := kk0; exact DataW.trod_lt m _ _ _ hm
  obtain ⟨ps0_, hss0, hre0⟩ := rws_of (hval 0 50 v0 rfl rfl) h0
  obtain ⟨a1, rfl, rfl, rfl, wa1⟩ := open_int Try.underlying3 (hval 1 3 v1 rfl rfl) h1
  clear hA0 hval0
  refine (walk _ ps0_ hre0 a1 wa1 W hss0).mono fun e W' ⟨he, bel⟩ => ?_
  subst he
  exact ⟨_, rfl, _, _, _, [], _, [], hW', trodAll_mk1 (shut_bool Try.underlying4 _), (trodAll_cons_mk (Below.trod laidOut (by kernel_rfl) (of_decide_eq_true (by kernel_rfl)) kk0 bel lt0) (trodAll_cons_mk (shut_int Try.underlying3 wa1) trodAll_mk0)), rfl, bel.frame _, fun h => by cases h⟩

theorem over : Rows.fnExactBestFewRow.holds Try.pinned (OpenSpec.ofChange Rows.fnExactBestFewSpec) :=
  OpenClaim.holds_of_wide 7 Try.f7 rfl rfl rfl rfl rfl rfl rfl ⟨rfl, rfl, rfl, rfl, rfl⟩ rfl rfl rfl rfl rfl (by kernel_rfl) Try.func7 (by kernel_rfl)
    (of_decide_eq_true (by kernel_rfl)) (by unfold Func.isWrapper; first | (rw [if_pos (by decide +kernel)]; kernel_rfl) | (rw [if_neg (by decide +kernel)]; exact ⟨rfl, rfl⟩))
    (fun os started H enc _ => lifted os started H enc)
end Go.Proofs.Ythdodlbhkpoadaa.fnExactBestFew
namespace Go.Proofs.Ythdodlbhkpoadaa
theorem fnExactBestFew_holds : Rows.FnExactBestFewSaid := fnExactBestFew.over
#print axioms fnExactBestFew_holds
end Go.Proofs.Ythdodlbhkpoadaa
