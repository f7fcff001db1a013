/- At every list of scores the function FnExactHeapPop returns true and leaves its argument as it was: HeapPop answers as its model does, and its answer owns its memory. No condition. -/
import Derived.Test.YthdodlbhkpoadaaScX
import Derived.Test.YthdodlbhkpoadaaPopS
import Derived.Lib.SmallJoins
namespace Go.Proofs.Ythdodlbhkpoadaa.fnExactHeapPop
open Go.ChangeShapes Go.WideShapes Go.ChangeAt Go.RowKit Go.Joins Go.Deep
open Go.ChangeMaps (open_string shut_string)
set_option linter.unusedVariables false
attribute [local go_sem ↓] Go.wp_at_zero Go.wp_at_succ

set_option maxRecDepth 100000 in
set_option maxHeartbeats 12800000 in
theorem walk (xq : Value) (lq : List Sc) (hmq : lq.length ≤ maxLen) (w : World) (hxq : ScsAt w xq lq) :
    Calls Try.prog 10 #[xq] w fun e w' => e = .returned (.bool true) ∧ Below w.heap.size w w' := by
  have HAq := hid hxq
  obtain ⟨aq, cq, hveq⟩ := hxq.slice
  subst hveq
  clear hxq
  have HZq := fun W h => szScB (.slice aq lq.length cq) lq 1048576 W h (by omega) hmq
  simp only [show ((1048576 : Nat) : Int) = 1048576 from rfl] at HZq
  by_cases hbgq : 1048576 < lq.length
  · have hzn : szS 1048576 lq.length = -1 := by unfold szS; rw [if_neg (by omega)]
    rw [hzn] at HZq
    clear hzn hbgq
    have k0 : Below w.heap.size w w := Below.refl _ _
    go_enter Try.func10, Try.ntmps10
    go_wp2_with fail
    refine (HZq _ (HAq.out.below k0)).mono ?_
    rintro e w1 ⟨rfl, hb1⟩
    have k1 : Below w.heap.size w w1 := k0.trans (hb1.mono k0.size)
    have sz1 : w.heap.size ≤ w1.heap.size := hb1.size
    clear hb1
    go_wp2
    go_returns
    exact ⟨rfl, k1⟩
  have hzpq : szS 1048576 lq.length = ((1048576 - lq.length : Nat) : Int) := by unfold szS; rw [if_pos (by omega)]
  rw [hzpq] at HZq
  obtain ⟨zq, hzq⟩ : ∃ z : Nat, z = 1048576 - lq.length := ⟨_, rfl⟩
  rw [← hzq] at HZq
  have hzdq : decide ((zq : Int) < 0) = false := decide_eq_false (by omega)
  have hzd2q : ¬ (zq : Int) < 0 := by omega
  clear hzpq
  have l1q : lq.length ≤ 1048576 := by omega
  obtain ⟨B, hB⟩ := bool_of (PopOk lq)
  have hAl0 : (popAns B lq).length ≤ 1048576 := by
    unfold popAns
    split
    · rw [pop_len]; omega
    · simp
  have HSP0 := fun x W h => specHPop x lq B hB W h l1q
  have HIM0 := fun x W h => implHPop x lq B hB W h l1q
  obtain ⟨A, hA⟩ : ∃ A, A = popAns B lq := ⟨_, rfl⟩
  obtain ⟨u, hu⟩ : ∃ u, u = popOne B lq := ⟨_, rfl⟩
  rw [← hA, ← hu] at HSP0 HIM0
  rw [← hA] at hAl0
  have hAl : A.length ≤ 1048576 := hAl0
  have HSP : ∀ x W, RdS W x lq → Calls Try.prog 34 #[x] W fun e w' => ∃ a c, e = .returned (.tuple #[.slice a A.length c, .agg #[.int .i64 u.1, .int .i64 u.2], .bool B]) ∧ OwnH W.heap.size w' (.slice a A.length c) A ∧ Below W.heap.size W w' := HSP0
  have HIM : ∀ x W, RdS W x lq → Calls Try.prog 32 #[x] W fun e w' => ∃ a c, e = .returned (.tuple #[.slice a A.length c, .agg #[.int .i64 u.1, .int .i64 u.2], .bool B]) ∧ OwnH W.heap.size w' (.slice a A.length c) A ∧ Below W.heap.size W w' := HIM0
  have HQ1 := fun W => eqSc u W
  have hbn : (B != B) = false := by cases B <;> rfl
  clear hB hA hu HSP0 HIM0 hAl0
  have HTOq := fun x W h => toScS x lq W h l1q
  have HEAq := fun x y W h g => eqScS x y lq W h g l1q
  obtain ⟨Xq, hXq⟩ : ∃ X : Nat, X = 1 + 2 * lq.length := ⟨_, rfl⟩
  have HMAq := fun b v W h => markScS b 1 v lq W h (by omega)
  rw [← hXq] at HMAq
  simp only [show ((1 : Nat) : Int) = 1 from rfl] at HMAq
  have hXDEC : decide ((Xq : Int) < 0) = false := decide_eq_false (by omega)
  have hXDE2 : ¬ (Xq : Int) < 0 := by omega
  have HEQ := fun x y W h g => eqScS x y A W h g hAl
  obtain ⟨N, hN⟩ : ∃ N : Nat, N = 1 + 2 * A.length := ⟨_, rfl⟩
  have HMG := fun b v W h => markScS b 1 v A W h (by omega)
  have HHG := fun v W h => heldScS 1 A.length v W h (by omega)
  rw [← hN] at HMG HHG
  simp only [show ((1 : Nat) : Int) = 1 from rfl] at HMG HHG
  have hN0 : decide ((N : Int) < 0) = false := decide_eq_false (by omega)
  have hN0' : ¬ (N : Int) < 0 := by omega
  have hNN : ((N : Int) != (N : Int)) = false := by simp
  have hML : (mkS 1 A.length).length = A.length := mkS_len _ _
  clear hXq hzq hbgq hN
  have k0 : Below w.heap.size w w := Below.refl _ _
  go_enter Try.func10, Try.ntmps10
  go_wp2_with fail
  refine (HZq _ (HAq.out.below k0)).mono ?_
  rintro e w1 ⟨rfl, hb1⟩
  have k1 : Below w.heap.size w w1 := k0.trans (hb1.mono k0.size)
  have sz1 : w.heap.size ≤ w1.heap.size := hb1.size
  clear hb1
  go_wp2_with fail
  refine (HTOq _ _ (HAq.out.below k1)).mono ?_
  rintro e w2 ⟨aUq, cUq, rfl, hUq, hb2⟩
  have k2 : Below w.heap.size w w2 := k1.trans (hb2.mono k1.size)
  have sz2 : w1.heap.size ≤ w2.heap.size := hb2.size
  have HUq := hid hUq
  have RUq : Hid (∀ g ∈ hbl (.slice aUq lq.length cUq), w1.heap.size ≤ g ∧ g < w2.heap.size) := hUq.lt
  clear hUq
  clear hb2
  go_wp2_with fail
  refine (HSP _ _ (HUq.out.rd)).mono ?_
  rintro e w3 ⟨aOW, cOW, rfl, hOW, hb3⟩
  have k3 : Below w.heap.size w w3 := k2.trans (hb3.mono k2.size)
  have sz3 : w2.heap.size ≤ w3.heap.size := hb3.size
  replace HUq := hid (HUq.out.below hb3)
  have HOW := hid hOW
  have ROW : Hid (∀ g ∈ hbl (.slice aOW A.length cOW), w2.heap.size ≤ g ∧ g < w3.heap.size) := hOW.lt
  clear hOW
  clear hb3
  obtain ⟨w4, hw4⟩ : ∃ q, q = w3.alloc (.cells #[.int .i64 u.1, .int .i64 u.2] 33) := ⟨_, rfl⟩
  have hb4 : Below w3.heap.size w3 w4 := by rw [hw4]; exact al_ _ _
  have hBOW : BoxAt w4 w3.heap.size [.int .i64 u.1, .int .i64 u.2] := by rw [hw4]; exact boxNew w3 _ _
  obtain ⟨bBOW, eBOW⟩ : ∃ b, b = w3.heap.size := ⟨_, rfl⟩
  rw [← eBOW] at hBOW
  have RBOW : Hid (w3.heap.size ≤ bBOW ∧ bBOW < w4.heap.size) := ⟨by rw [eBOW]; exact Nat.le_refl _, hBOW.1⟩
  have EBOW := hid eBOW
  have VBOW := hid hw4
  clear eBOW hw4
  have k4 : Below w.heap.size w w4 := k3.trans (hb4.mono k3.size)
  have sz4 : w3.heap.size ≤ w4.heap.size := hb4.size
  replace HUq := hid (HUq.out.below hb4)
  replace HOW := hid (HOW.out.below hb4)
  have HBOW := hid hBOW
  clear hBOW hb4
  go_upto_region 6 with fail
  rw [← VBOW.out, ← EBOW.out]
  clear VBOW EBOW
  clear HUq
  go_wp2_with fail
  refine (HTOq _ _ (HAq.out.below k4)).mono ?_
  rintro e w5 ⟨aXq, cXq, rfl, hXq, hb5⟩
  have k5 : Below w.heap.size w w5 := k4.trans (hb5.mono k4.size)
  have sz5 : w4.heap.size ≤ w5.heap.size := hb5.size
  replace HOW := hid (HOW.out.below hb5)
  replace HBOW := hid (HBOW.out.below hb5)
  have HXq := hid hXq
  have RXq : Hid (∀ g ∈ hbl (.slice aXq lq.length cXq), w4.heap.size ≤ g ∧ g < w5.heap.size) := hXq.lt
  clear hXq
  clear hb5
  go_wp2_with fail
  refine (HIM _ _ (HXq.out.rd)).mono ?_
  rintro e w6 ⟨aOG, cOG, rfl, hOG, hb6⟩
  have k6 : Below w.heap.size w w6 := k5.trans (hb6.mono k5.size)
  have sz6 : w5.heap.size ≤ w6.heap.size := hb6.size
  replace HOW := hid (HOW.out.below hb6)
  replace HBOW := hid (HBOW.out.below hb6)
  replace HXq := hid (HXq.out.below hb6)
  have HOG := hid hOG
  have ROG : Hid (∀ g ∈ hbl (.slice aOG A.length cOG), w5.heap.size ≤ g ∧ g < w6.heap.size) := hOG.lt
  clear hOG
  clear hb6
  obtain ⟨w7, hw7⟩ : ∃ q, q = w6.alloc (.cells #[.int .i64 u.1, .int .i64 u.2] 33) := ⟨_, rfl⟩
  have hb7 : Below w6.heap.size w6 w7 := by rw [hw7]; exact al_ _ _
  have hBOG : BoxAt w7 w6.heap.size [.int .i64 u.1, .int .i64 u.2] := by rw [hw7]; exact boxNew w6 _ _
  obtain ⟨bBOG, eBOG⟩ : ∃ b, b = w6.heap.size := ⟨_, rfl⟩
  rw [← eBOG] at hBOG
  have RBOG : Hid (w6.heap.size ≤ bBOG ∧ bBOG < w7.heap.size) := ⟨by rw [eBOG]; exact Nat.le_refl _, hBOG.1⟩
  have EBOG := hid eBOG
  have VBOG := hid hw7
  clear eBOG hw7
  have k7 : Below w.heap.size w w7 := k6.trans (hb7.mono k6.size)
  have sz7 : w6.heap.size ≤ w7.heap.size := hb7.size
  replace HOW := hid (HOW.out.below hb7)
  replace HBOW := hid (HBOW.out.below hb7)
  replace HXq := hid (HXq.out.below hb7)
  replace HOG := hid (HOG.out.below hb7)
  have HBOG := hid hBOG
  clear hBOG hb7
  go_upto_region 8 with fail
  rw [← VBOG.out, ← EBOG.out]
  clear VBOG EBOG
  go_wp2_with fail
  refine (HEQ _ _ _ (HOG.out.at) (HOW.out.at)).mono ?_
  rintro e w8 ⟨rfl, hb8⟩
  have k8 : Below w.heap.size w w8 := k7.trans (hb8.mono k7.size)
  have sz8 : w7.heap.size ≤ w8.heap.size := hb8.size
  replace HOW := hid (HOW.out.below hb8)
  replace HBOW := hid (HBOW.out.below hb8)
  replace HXq := hid (HXq.out.below hb8)
  replace HOG := hid (HOG.out.below hb8)
  replace HBOG := hid (HBOG.out.below hb8)
  clear hb8
  have BOGc0 := HBOG.out.2.1 0 _ rfl
  have BOGc1 := HBOG.out.2.1 1 _ rfl
  have BOGcl := HBOG.out.1
  have BOWc0 := HBOW.out.2.1 0 _ rfl
  have BOWc1 := HBOW.out.2.1 1 _ rfl
  have BOWcl := HBOW.out.1
  go_wp2_with fail
  refine (HQ1 _).mono ?_
  rintro e w9 ⟨rfl, hb9⟩
  have k9 : Below w.heap.size w w9 := k8.trans (hb9.mono k8.size)
  have sz9 : w8.heap.size ≤ w9.heap.size := hb9.size
  replace HOW := hid (HOW.out.below hb9)
  replace HBOW := hid (HBOW.out.below hb9)
  replace HXq := hid (HXq.out.below hb9)
  replace HOG := hid (HOG.out.below hb9)
  replace HBOG := hid (HBOG.out.below hb9)
  clear BOGc0 BOGc1 BOGcl BOWc0 BOWc1 BOWcl
  clear hb9
  go_wp2_with fail
  refine (HTOq _ _ (HAq.out.below k9)).mono ?_
  rintro e w10 ⟨aYq, cYq, rfl, hYq, hb10⟩
  have k10 : Below w.heap.size w w10 := k9.trans (hb10.mono k9.size)
  have sz10 : w9.heap.size ≤ w10.heap.size := hb10.size
  replace HOW := hid (HOW.out.below hb10)
  replace HBOW := hid (HBOW.out.below hb10)
  replace HXq := hid (HXq.out.below hb10)
  replace HOG := hid (HOG.out.below hb10)
  replace HBOG := hid (HBOG.out.below hb10)
  have HYq := hid hYq
  have RYq : Hid (∀ g ∈ hbl (.slice aYq lq.length cYq), w9.heap.size ≤ g ∧ g < w10.heap.size) := hYq.lt
  clear hYq
  clear hb10
  go_wp2_with fail
  refine (HEAq _ _ _ (HXq.out.at) (HYq.out.at)).mono ?_
  rintro e w11 ⟨rfl, hb11⟩
  have k11 : Below w.heap.size w w11 := k10.trans (hb11.mono k10.size)
  have sz11 : w10.heap.size ≤ w11.heap.size := hb11.size
  replace HOW := hid (HOW.out.below hb11)
  replace HBOW := hid (HBOW.out.below hb11)
  replace HXq := hid (HXq.out.below hb11)
  replace HOG := hid (HOG.out.below hb11)
  replace HBOG := hid (HBOG.out.below hb11)
  replace HYq := hid (HYq.out.below hb11)
  clear hb11
  clear HYq
  go_wp2_with fail
  refine (HMAq _ _ _ HXq.out).mono ?_
  rintro e w12 ⟨rfl, hm12, ho12⟩
  have k12 : Below w.heap.size w w12 := k11.trans (ho12.below k11.size (fun g hg => by have h1 := RXq.out g hg; have h2 := k4.size; omega))
  have sz12 : w11.heap.size ≤ w12.heap.size := ho12.size
  replace HOW := hid (HOW.out.off ho12 (fun g hg hm => by have h1 := ROW.out g hg; have h2 := RXq.out g hm; omega))
  replace HBOW := hid (HBOW.out.off ho12 (fun hm => by have h1 := RBOW.out; have h2 := RXq.out bBOW hm; omega))
  replace HOG := hid (HOG.out.off ho12 (fun g hg hm => by have h1 := ROG.out g hg; have h2 := RXq.out g hm; omega))
  replace HBOG := hid (HBOG.out.off ho12 (fun hm => by have h1 := RBOG.out; have h2 := RXq.out bBOG hm; omega))
  clear hm12 ho12 HXq
  go_wp2_with fail
  refine (HEQ _ _ _ (HOG.out.at) (HOW.out.at)).mono ?_
  rintro e w13 ⟨rfl, hb13⟩
  have k13 : Below w.heap.size w w13 := k12.trans (hb13.mono k12.size)
  have sz13 : w12.heap.size ≤ w13.heap.size := hb13.size
  replace HOW := hid (HOW.out.below hb13)
  replace HBOW := hid (HBOW.out.below hb13)
  replace HOG := hid (HOG.out.below hb13)
  replace HBOG := hid (HBOG.out.below hb13)
  clear hb13
  have BOGc0 := HBOG.out.2.1 0 _ rfl
  have BOGc1 := HBOG.out.2.1 1 _ rfl
  have BOGcl := HBOG.out.1
  have BOWc0 := HBOW.out.2.1 0 _ rfl
  have BOWc1 := HBOW.out.2.1 1 _ rfl
  have BOWcl := HBOW.out.1
  go_wp2_with fail
  refine (HQ1 _).mono ?_
  rintro e w14 ⟨rfl, hb14⟩
  have k14 : Below w.heap.size w w14 := k13.trans (hb14.mono k13.size)
  have sz14 : w13.heap.size ≤ w14.heap.size := hb14.size
  replace HOW := hid (HOW.out.below hb14)
  replace HBOW := hid (HBOW.out.below hb14)
  replace HOG := hid (HOG.out.below hb14)
  replace HBOG := hid (HBOG.out.below hb14)
  clear BOGc0 BOGc1 BOGcl BOWc0 BOWc1 BOWcl
  clear hb14
  go_wp2_with fail
  refine (HMG _ _ _ HOG.out).mono ?_
  rintro e w15 ⟨rfl, hm15, ho15⟩
  have k15 : Below w.heap.size w w15 := k14.trans (ho15.below k14.size (fun g hg => by have h1 := ROG.out g hg; have h2 := k5.size; omega))
  have sz15 : w14.heap.size ≤ w15.heap.size := ho15.size
  replace HOW := hid (HOW.out.off ho15 (fun g hg hm => by have h1 := ROW.out g hg; have h2 := ROG.out g hm; omega))
  replace HBOW := hid (HBOW.out.off ho15 (fun hm => by have h1 := RBOW.out; have h2 := ROG.out bBOW hm; omega))
  replace HBOG := hid (HBOG.out.off ho15 (fun hm => by have h1 := RBOG.out; have h2 := ROG.out bBOG hm; omega))
  replace HOG := hid hm15
  clear ho15
  go_wp2_with fail
  refine (HHG _ _ HOG.out.at).mono ?_
  rintro e w16 ⟨rfl, hb16⟩
  have k16 : Below w.heap.size w w16 := k15.trans (hb16.mono k15.size)
  have sz16 : w15.heap.size ≤ w16.heap.size := hb16.size
  replace HOW := hid (HOW.out.below hb16)
  replace HBOW := hid (HBOW.out.below hb16)
  replace HOG := hid (HOG.out.below hb16)
  replace HBOG := hid (HBOG.out.below hb16)
  clear hb16
  go_wp2_with fail
  refine (HTOq _ _ (HAq.out.below k16)).mono ?_
  rintro e w17 ⟨aVq, cVq, rfl, hVq, hb17⟩
  have k17 : Below w.heap.size w w17 := k16.trans (hb17.mono k16.size)
  have sz17 : w16.heap.size ≤ w17.heap.size := hb17.size
  replace HOW := hid (HOW.out.below hb17)
  replace HBOW := hid (HBOW.out.below hb17)
  replace HOG := hid (HOG.out.below hb17)
  replace HBOG := hid (HBOG.out.below hb17)
  have HVq := hid hVq
  have RVq : Hid (∀ g ∈ hbl (.slice aVq lq.length cVq), w16.heap.size ≤ g ∧ g < w17.heap.size) := hVq.lt
  clear hVq
  clear hb17
  go_wp2_with fail
  refine (HIM _ _ (HVq.out.rd)).mono ?_
  rintro e w18 ⟨aOH, cOH, rfl, hOH, hb18⟩
  have k18 : Below w.heap.size w w18 := k17.trans (hb18.mono k17.size)
  have sz18 : w17.heap.size ≤ w18.heap.size := hb18.size
  replace HOW := hid (HOW.out.below hb18)
  replace HBOW := hid (HBOW.out.below hb18)
  replace HOG := hid (HOG.out.below hb18)
  replace HBOG := hid (HBOG.out.below hb18)
  replace HVq := hid (HVq.out.below hb18)
  have HOH := hid hOH
  have ROH : Hid (∀ g ∈ hbl (.slice aOH A.length cOH), w17.heap.size ≤ g ∧ g < w18.heap.size) := hOH.lt
  clear hOH
  clear hb18
  obtain ⟨w19, hw19⟩ : ∃ q, q = w18.alloc (.cells #[.int .i64 u.1, .int .i64 u.2] 33) := ⟨_, rfl⟩
  have hb19 : Below w18.heap.size w18 w19 := by rw [hw19]; exact al_ _ _
  have hBOH : BoxAt w19 w18.heap.size [.int .i64 u.1, .int .i64 u.2] := by rw [hw19]; exact boxNew w18 _ _
  obtain ⟨bBOH, eBOH⟩ : ∃ b, b = w18.heap.size := ⟨_, rfl⟩
  rw [← eBOH] at hBOH
  have RBOH : Hid (w18.heap.size ≤ bBOH ∧ bBOH < w19.heap.size) := ⟨by rw [eBOH]; exact Nat.le_refl _, hBOH.1⟩
  have EBOH := hid eBOH
  have VBOH := hid hw19
  clear eBOH hw19
  have k19 : Below w.heap.size w w19 := k18.trans (hb19.mono k18.size)
  have sz19 : w18.heap.size ≤ w19.heap.size := hb19.size
  replace HOW := hid (HOW.out.below hb19)
  replace HBOW := hid (HBOW.out.below hb19)
  replace HOG := hid (HOG.out.below hb19)
  replace HBOG := hid (HBOG.out.below hb19)
  replace HVq := hid (HVq.out.below hb19)
  replace HOH := hid (HOH.out.below hb19)
  have HBOH := hid hBOH
  clear hBOH hb19
  go_upto_region 25 with fail
  rw [← VBOH.out, ← EBOH.out]
  clear VBOH EBOH
  clear HVq
  go_wp2_with fail
  refine (HEQ _ _ _ (HOH.out.at) (HOW.out.at)).mono ?_
  rintro e w20 ⟨rfl, hb20⟩
  have k20 : Below w.heap.size w w20 := k19.trans (hb20.mono k19.size)
  have sz20 : w19.heap.size ≤ w20.heap.size := hb20.size
  replace HOW := hid (HOW.out.below hb20)
  replace HBOW := hid (HBOW.out.below hb20)
  replace HOG := hid (HOG.out.below hb20)
  replace HBOG := hid (HBOG.out.below hb20)
  replace HOH := hid (HOH.out.below hb20)
  replace HBOH := hid (HBOH.out.below hb20)
  clear hb20
  have BOHc0 := HBOH.out.2.1 0 _ rfl
  have BOHc1 := HBOH.out.2.1 1 _ rfl
  have BOHcl := HBOH.out.1
  have BOWc0 := HBOW.out.2.1 0 _ rfl
  have BOWc1 := HBOW.out.2.1 1 _ rfl
  have BOWcl := HBOW.out.1
  go_wp2_with fail
  refine (HQ1 _).mono ?_
  rintro e w21 ⟨rfl, hb21⟩
  have k21 : Below w.heap.size w w21 := k20.trans (hb21.mono k20.size)
  have sz21 : w20.heap.size ≤ w21.heap.size := hb21.size
  replace HOW := hid (HOW.out.below hb21)
  replace HBOW := hid (HBOW.out.below hb21)
  replace HOG := hid (HOG.out.below hb21)
  replace HBOG := hid (HBOG.out.below hb21)
  replace HOH := hid (HOH.out.below hb21)
  replace HBOH := hid (HBOH.out.below hb21)
  clear BOHc0 BOHc1 BOHcl BOWc0 BOWc1 BOWcl
  clear hb21
  go_wp2_with fail
  refine (HHG _ _ HOG.out.at).mono ?_
  rintro e w22 ⟨rfl, hb22⟩
  have k22 : Below w.heap.size w w22 := k21.trans (hb22.mono k21.size)
  have sz22 : w21.heap.size ≤ w22.heap.size := hb22.size
  replace HOW := hid (HOW.out.below hb22)
  replace HBOW := hid (HBOW.out.below hb22)
  replace HOG := hid (HOG.out.below hb22)
  replace HBOG := hid (HBOG.out.below hb22)
  replace HOH := hid (HOH.out.below hb22)
  replace HBOH := hid (HBOH.out.below hb22)
  clear hb22
  go_wp2_with fail
  go_returns
  exact ⟨rfl, k22⟩
theorem own : ownKnob Try.prog.godebug = none := by kernel_rfl
theorem laidOut : laidOutB Try.prog = true := by kernel_rfl
set_option maxRecDepth 100000 in
theorem lifted (os : Os) (started : os.Started) (H : Type) (enc : TypeId × Value → H) :
    ReturnsInHanded {} Try.checked os 10 .any (Rows.fnExactHeapPopSpec.pre6 enc Try.prog Try.f10 Rows.fnExactHeapPopRow.domain false) (Rows.fnExactHeapPopSpec.post enc Try.prog Try.f10 false true false false) := by
  refine returnsInHanded_of_change (C := Try.checked) own started (by kernel_rfl) Try.func10
    (ChangeSpec.witness6 (enc := enc) (C := Try.checked) false ⟨#[], #[.slice none 0 0], []⟩ 8 (by kernel_rfl) (by kernel_rfl) (by kernel_rfl) (by kernel_rfl)) ?_
  intro W base args ds gs before hval0 hW hcnd _
  have hval : ∀ (j : Nat) t v, Try.f10.params[j]? = some t → args[j]? = some v → Value.okWide Try.prog W .any base t v := hval0
  have hW' := hW
  obtain ⟨p, q, hA0, hV, rfl, hfz, hnd⟩ := hW
  have hA : DataW.TrodAll enc Try.prog W 0 (fun _ => true) true Try.f10.params.toList args.toList ds p := hA0
  rw [Try.params10] at hA hval
  obtain ⟨v0, vs0, d0, ds0, p0, q0, hargs, rfl, rfl, h0, r0⟩ := trodAll_cons hA
  obtain ⟨rfl, rfl, rfl⟩ := trodAll_nil r0
  obtain rfl : args = #[v0] := by cases args; simp_all
  obtain ⟨rfl, rfl⟩ := trodVars_none hV
  have kk0 := h0
  have lt0 : ∀ x ∈ p0, x.block < W.heap.size := by obtain ⟨m, hm⟩ := kk0; exact DataW.trod_lt m _ _ _ hm
  obtain ⟨ps0_, hss0, hre0⟩ := scs_of (hval 0 46 v0 rfl rfl) h0
  clear hA0 hval0
  refine (walk _ ps0_ hre0 W hss0).mono fun e W' ⟨he, bel⟩ => ?_
  subst he
  exact ⟨_, rfl, _, _, _, [], _, [], hW', trodAll_mk1 (shut_bool Try.underlying4 _), (trodAll_cons_mk (Below.trod laidOut (by kernel_rfl) (of_decide_eq_true (by kernel_rfl)) kk0 bel lt0) trodAll_mk0), rfl, bel.frame _, fun h => by cases h⟩

theorem over : Rows.fnExactHeapPopRow.holds Try.pinned (OpenSpec.ofChange Rows.fnExactHeapPopSpec) :=
  OpenClaim.holds_of_wide 10 Try.f10 rfl rfl rfl rfl rfl rfl rfl ⟨rfl, rfl, rfl, rfl, rfl⟩ rfl rfl rfl rfl rfl (by kernel_rfl) Try.func10 (by kernel_rfl)
    (of_decide_eq_true (by kernel_rfl)) (by unfold Func.isWrapper; first | (rw [if_pos (by decide +kernel)]; kernel_rfl) | (rw [if_neg (by decide +kernel)]; exact ⟨rfl, rfl⟩))
    (fun os started H enc _ => lifted os started H enc)
end Go.Proofs.Ythdodlbhkpoadaa.fnExactHeapPop
namespace Go.Proofs.Ythdodlbhkpoadaa
theorem fnExactHeapPop_holds : Rows.FnExactHeapPopSaid := fnExactHeapPop.over
#print axioms fnExactHeapPop_holds
end Go.Proofs.Ythdodlbhkpoadaa
