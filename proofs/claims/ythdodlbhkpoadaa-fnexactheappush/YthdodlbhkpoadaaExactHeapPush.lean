/- At every list of scores and every score the function FnExactHeapPush returns true and leaves its argument as it was: HeapPush answers as its model does, and its answer owns its memory. No condition. -/
import Derived.Test.YthdodlbhkpoadaaScX
import Derived.Test.YthdodlbhkpoadaaPushS
import Derived.Lib.SmallJoins
namespace Go.Proofs.Ythdodlbhkpoadaa.fnExactHeapPush
open Go.ChangeShapes Go.WideShapes Go.ChangeAt Go.RowKit Go.Joins Go.Deep
open Go.ChangeMaps (open_string shut_string)
set_option linter.unusedVariables false
attribute [local go_sem ↓] Go.wp_at_zero Go.wp_at_succ

set_option maxRecDepth 100000 in
set_option maxHeartbeats 12800000 in
theorem walk (xq : Value) (lq : List Sc) (hmq : lq.length ≤ maxLen) (pp : Sc) (w : World) (hxq : ScsAt w xq lq) :
    Calls Try.prog 9 #[xq, .agg #[.int .i64 pp.1, .int .i64 pp.2]] w fun e w' => e = .returned (.bool true) ∧ Below w.heap.size w w' := by
  have HAq := hid hxq
  obtain ⟨aq, cq, hveq⟩ := hxq.slice
  subst hveq
  clear hxq
  have HZq := fun W h => szScB (.slice aq lq.length cq) lq 1048576 W h (by omega) hmq
  simp only [show ((1048576 : Nat) : Int) = 1048576 from rfl] at HZq
  by_cases hbgq : 1048576 < lq.length
  · have hzn : szS 1048576 lq.length = -1 := by unfold szS; rw [if_neg (by omega)]
    rw [hzn] at HZq
    clear hzn hbgq
    obtain ⟨w0, hw0⟩ : ∃ q, q = w.alloc (.cells #[.int .i64 pp.1, .int .i64 pp.2] 57) := ⟨_, rfl⟩
    have k0 : Below w.heap.size w w0 := by rw [hw0]; exact al_ _ _
    have bx0 : BoxAt w0 w.heap.size [.int .i64 pp.1, .int .i64 pp.2] := by rw [hw0]; exact boxNew w _ _
    obtain ⟨pb, hpb⟩ : ∃ pb, pb = w.heap.size := ⟨_, rfl⟩
    rw [← hpb] at bx0
    have HBX := hid bx0
    have HPB := hid hpb
    have HW0 := hid hw0
    have hpl : pb < w0.heap.size := bx0.1
    clear bx0 hpb hw0
    go_enter Try.func9, Try.ntmps9
    go_upto_region 1 with fail
    rw [← HW0.out, ← HPB.out]
    clear HW0 HPB
    go_wp2_with fail
    refine (HZq _ (HAq.out.below k0)).mono ?_
    rintro e w1 ⟨rfl, hb1⟩
    have k1 : Below w.heap.size w w1 := k0.trans (hb1.mono k0.size)
    have sz1 : w0.heap.size ≤ w1.heap.size := hb1.size
    replace HBX := hid (HBX.out.below hb1)
    clear hb1
    go_wp2
    go_returns
    exact ⟨rfl, k1⟩
  have hzpq : szS 1048576 lq.length = ((1048576 - lq.length : Nat) : Int) := by unfold szS; rw [if_pos (by omega)]
  rw [hzpq] at HZq
  obtain ⟨zq, hzq⟩ : ∃ z : Nat, z = 1048576 - lq.length := ⟨_, rfl⟩
  rw [← hzq] at HZq
  have hzdq : decide ((zq : Int) < 0) = false := decide_eq_false (by omega)
  have hzd2q : ¬ (zq : Int) < 0 := by omega
  clear hzpq
  have l1q : lq.length ≤ 1048576 := by omega
  obtain ⟨B, hB⟩ := bool_of (PushOk lq pp)
  have hAl0 : (pushAns B lq pp).length ≤ 1048576 := by
    unfold pushAns
    split
    · rename_i hb
      have := (hB.1 hb).1.1
      rw [push_len]; omega
    · simp
  have HSP0 := fun x W h => specHPush x lq pp B hB W h l1q
  have HIM0 := fun x W h => implHPush x lq pp B hB W h l1q
  obtain ⟨A, hA⟩ : ∃ A, A = pushAns B lq pp := ⟨_, rfl⟩
  rw [← hA] at HSP0 HIM0 hAl0
  have hAl : A.length ≤ 1048576 := hAl0
  have HSP : ∀ x W, RdS W x lq → Calls Try.prog 30 #[x, .agg #[.int .i64 pp.1, .int .i64 pp.2]] W fun e w' => ∃ a c, e = .returned (.tuple #[.slice a A.length c, .bool B]) ∧ OwnH W.heap.size w' (.slice a A.length c) A ∧ Below W.heap.size W w' := HSP0
  have HIM : ∀ x W, RdS W x lq → Calls Try.prog 29 #[x, .agg #[.int .i64 pp.1, .int .i64 pp.2]] W fun e w' => ∃ a c, e = .returned (.tuple #[.slice a A.length c, .bool B]) ∧ OwnH W.heap.size w' (.slice a A.length c) A ∧ Below W.heap.size W w' := HIM0
  have hbn : (B != B) = false := by cases B <;> rfl
  clear hB hA HSP0 HIM0 hAl0
  have HTOq := fun x W h => toScS x lq W h l1q
  have HEAq := fun x y W h g => eqScS x y lq W h g l1q
  obtain ⟨Xq, hXq⟩ : ∃ X : Nat, X = 1 + 2 * lq.length := ⟨_, rfl⟩
  have HMAq := fun b v W h => markScS b 1 v lq W h (by omega)
  rw [← hXq] at HMAq
  simp only [show ((1 : Nat) : Int) = 1 from rfl] at HMAq
  have hXDEC : decide ((Xq : Int) < 0) = false := decide_eq_false (by omega)
  have hXDE2 : ¬ (Xq : Int) < 0 := by omega
  have HTOp := fun W => toSc pp W
  have HEQ := fun x y W h g => eqScS x y A W h g hAl
  obtain ⟨N, hN⟩ : ∃ N : Nat, N = 1 + 2 * A.length := ⟨_, rfl⟩
  have HMG := fun b v W h => markScS b 1 v A W h (by omega)
  have HHG := fun v W h => heldScS 1 A.length v W h (by omega)
  rw [← hN] at HMG HHG
  simp only [show ((1 : Nat) : Int) = 1 from rfl] at HMG HHG
  have hN0 : decide ((N : Int) < 0) = false := decide_eq_false (by omega)
  have hN0' : ¬ (N : Int) < 0 := by omega
  have hNN : ((N : Int) != (N : Int)) = false := by simp
  have hML : (mkS 1 A.length).length = A.length := mkS_len _ _
  clear hXq hzq hbgq hN
  obtain ⟨w0, hw0⟩ : ∃ q, q = w.alloc (.cells #[.int .i64 pp.1, .int .i64 pp.2] 57) := ⟨_, rfl⟩
  have k0 : Below w.heap.size w w0 := by rw [hw0]; exact al_ _ _
  have bx0 : BoxAt w0 w.heap.size [.int .i64 pp.1, .int .i64 pp.2] := by rw [hw0]; exact boxNew w _ _
  obtain ⟨pb, hpb⟩ : ∃ pb, pb = w.heap.size := ⟨_, rfl⟩
  rw [← hpb] at bx0
  have HBX := hid bx0
  have HPB := hid hpb
  have HW0 := hid hw0
  have hpl : pb < w0.heap.size := bx0.1
  clear bx0 hpb hw0
  go_enter Try.func9, Try.ntmps9
  go_upto_region 1 with fail
  rw [← HW0.out, ← HPB.out]
  clear HW0 HPB
  go_wp2_with fail
  refine (HZq _ (HAq.out.below k0)).mono ?_
  rintro e w1 ⟨rfl, hb1⟩
  have k1 : Below w.heap.size w w1 := k0.trans (hb1.mono k0.size)
  have sz1 : w0.heap.size ≤ w1.heap.size := hb1.size
  replace HBX := hid (HBX.out.below hb1)
  clear hb1
  have pc0 := HBX.out.2.1 0 _ rfl
  have pc1 := HBX.out.2.1 1 _ rfl
  have pcl := HBX.out.1
  go_upto_region 5 with fail
  have HSK : Hid (∀ W, Below w1.heap.size w1 W → (fun w' : World => w'.cell? ⟨pb, 0, none⟩ = some (.int .i64 pp.1) ∧ w'.cell? ⟨pb, 1, none⟩ = some (.int .i64 pp.2)) W) := fun W hW => ⟨(hW.cell pcl).trans pc0, (hW.cell pcl).trans pc1⟩
  have kd : Below w1.heap.size w1 w1.drew := Below.drew (Below.refl _ _)
  have hHeld := HSK.out w1.drew kd
  refine wp_region_heldL (n := 10) (S := fun w' : World => w'.cell? ⟨pb, 0, none⟩ = some (.int .i64 pp.1) ∧ w'.cell? ⟨pb, 1, none⟩ = some (.int .i64 pp.2)) (by kernel_rfl) rfl ?_
  refine takeL (i := 0) (v := ?_) rfl (by kernel_rfl) (by kernel_rfl) (by kernel_rfl) (fun _ _ _ h => h) rfl ?_ (by assumption) ?_
  rotate_left
  · intro w hSw; (try dsimp only at hSw); go_simp; (try with_reducible rfl)
  (try simp only [Act.put, List.setIfInBounds_toArray, List.set_cons_zero, List.set_cons_succ])
  refine takeL (i := 2) (v := ?_) rfl (by kernel_rfl) (by kernel_rfl) (by kernel_rfl) (fun _ _ _ h => h) rfl ?_ (by assumption) ?_
  rotate_left
  · intro w hSw; (try dsimp only at hSw); go_simp; (try with_reducible rfl)
  (try simp only [Act.put, List.setIfInBounds_toArray, List.set_cons_zero, List.set_cons_succ])
  refine comesL (i := 1) rfl rfl (by kernel_rfl) (fun K hK => ?_)
  go_simp
  refine (HTOq _ _ (HAq.out.below (k1.trans (kd.mono k1.size)))).mono ?_
  rintro e w2 ⟨aUq, cUq, rfl, hUq, hb⟩
  have mw2 : Below w1.heap.size w1 w2 := kd.trans (hb.mono kd.size)
  have k2 : Below w.heap.size w w2 := k1.trans (mw2.mono k1.size)
  have sz2 : w1.heap.size ≤ w2.heap.size := mw2.size
  replace HBX := hid (HBX.out.below mw2)
  have HUq := hid (hUq.mono (show w1.heap.size ≤ w1.drew.heap.size from kd.size))
  have RUq : Hid (∀ g ∈ hbl (.slice aUq lq.length cUq), w1.heap.size ≤ g ∧ g < w2.heap.size) := HUq.out.lt
  clear hUq
  clear hb
  (try dsimp only)
  refine hK.out _ _ (HSK.out w2 mw2) (fun hH2 => ?_)
  clear hK K
  replace hHeld := hH2
  clear hH2
  (try simp only [Act.put, List.setIfInBounds_toArray, List.set_cons_zero, List.set_cons_succ])
  refine comesL (i := 3) rfl rfl (by kernel_rfl) (fun K hK => ?_)
  go_simp
  refine (HTOp _).mono ?_
  rintro e w3 ⟨rfl, hb⟩
  have mw3 : Below w1.heap.size w1 w3 := mw2.trans (hb.mono mw2.size)
  have k3 : Below w.heap.size w w3 := k1.trans (mw3.mono k1.size)
  have sz3 : w2.heap.size ≤ w3.heap.size := hb.size
  replace HBX := hid (HBX.out.below hb)
  replace HUq := hid (HUq.out.below hb)
  clear hb
  (try dsimp only)
  refine hK.out _ _ (HSK.out w3 mw3) (fun hH2 => ?_)
  clear hK K
  replace hHeld := hH2
  clear hH2
  (try simp only [Act.put, List.setIfInBounds_toArray, List.set_cons_zero, List.set_cons_succ])
  refine comesL (i := 4) rfl rfl (by kernel_rfl) (fun K hK => ?_)
  go_simp
  refine (HSP _ _ (HUq.out.rd)).mono ?_
  rintro e w4 ⟨aOW, cOW, rfl, hOW, hb⟩
  have mw4 : Below w1.heap.size w1 w4 := mw3.trans (hb.mono mw3.size)
  have k4 : Below w.heap.size w w4 := k1.trans (mw4.mono k1.size)
  have sz4 : w3.heap.size ≤ w4.heap.size := hb.size
  replace HBX := hid (HBX.out.below hb)
  replace HUq := hid (HUq.out.below hb)
  have HOW := hid hOW
  have ROW : Hid (∀ g ∈ hbl (.slice aOW A.length cOW), w3.heap.size ≤ g ∧ g < w4.heap.size) := HOW.out.lt
  clear hOW
  clear hb
  (try dsimp only)
  refine hK.out _ _ (HSK.out w4 mw4) (fun hH2 => ?_)
  clear hK K
  replace hHeld := hH2
  clear hH2
  (try simp only [Act.put, List.setIfInBounds_toArray, List.set_cons_zero, List.set_cons_succ])
  refine takeL (i := 5) (v := ?_) rfl (by kernel_rfl) (by kernel_rfl) (by kernel_rfl) (fun _ _ _ h => h) rfl ?_ (by assumption) ?_
  rotate_left
  · intro w hSw; (try dsimp only at hSw); go_simp; (try with_reducible rfl)
  (try simp only [Act.put, List.setIfInBounds_toArray, List.set_cons_zero, List.set_cons_succ])
  refine takeL (i := 6) (v := ?_) rfl (by kernel_rfl) (by kernel_rfl) (by kernel_rfl) (fun _ _ _ h => h) rfl ?_ (by assumption) ?_
  rotate_left
  · intro w hSw; (try dsimp only at hSw); go_simp; (try with_reducible rfl)
  (try simp only [Act.put, List.setIfInBounds_toArray, List.set_cons_zero, List.set_cons_succ])
  refine takeL (i := 7) (v := ?_) rfl (by kernel_rfl) (by kernel_rfl) (by kernel_rfl) (fun _ _ _ h => h) rfl ?_ (by assumption) ?_
  rotate_left
  · intro w hSw; (try dsimp only at hSw); go_simp; (try with_reducible rfl)
  (try simp only [Act.put, List.setIfInBounds_toArray, List.set_cons_zero, List.set_cons_succ])
  refine takeL (i := 8) (v := ?_) rfl (by kernel_rfl) (by kernel_rfl) (by kernel_rfl) (fun _ _ _ h => h) rfl ?_ (by assumption) ?_
  rotate_left
  · intro w hSw; (try dsimp only at hSw); go_simp; (try with_reducible rfl)
  (try simp only [Act.put, List.setIfInBounds_toArray, List.set_cons_zero, List.set_cons_succ])
  refine takeL (i := 9) (v := ?_) rfl (by kernel_rfl) (by kernel_rfl) (by kernel_rfl) (fun _ _ _ h => h) rfl ?_ (by assumption) ?_
  rotate_left
  · intro w hSw; (try dsimp only at hSw); go_simp; (try with_reducible rfl)
  (try simp only [Act.put, List.setIfInBounds_toArray, List.set_cons_zero, List.set_cons_succ])
  refine wpAnyH_done (by kernel_rfl) ?_ _
  clear hHeld kd HSK
  clear pc0 pc1 pcl
  clear HUq
  go_wp2_with fail
  refine (HTOq _ _ (HAq.out.below k4)).mono ?_
  rintro e w5 ⟨aXq, cXq, rfl, hXq, hb5⟩
  have k5 : Below w.heap.size w w5 := k4.trans (hb5.mono k4.size)
  have sz5 : w4.heap.size ≤ w5.heap.size := hb5.size
  replace HBX := hid (HBX.out.below hb5)
  replace HOW := hid (HOW.out.below hb5)
  have HXq := hid hXq
  have RXq : Hid (∀ g ∈ hbl (.slice aXq lq.length cXq), w4.heap.size ≤ g ∧ g < w5.heap.size) := hXq.lt
  clear hXq
  clear hb5
  have pc0 := HBX.out.2.1 0 _ rfl
  have pc1 := HBX.out.2.1 1 _ rfl
  have pcl := HBX.out.1
  go_wp2_with fail
  refine (HTOp _).mono ?_
  rintro e w6 ⟨rfl, hb6⟩
  have k6 : Below w.heap.size w w6 := k5.trans (hb6.mono k5.size)
  have sz6 : w5.heap.size ≤ w6.heap.size := hb6.size
  replace HBX := hid (HBX.out.below hb6)
  replace HOW := hid (HOW.out.below hb6)
  replace HXq := hid (HXq.out.below hb6)
  clear pc0 pc1 pcl
  clear hb6
  go_wp2_with fail
  refine (HIM _ _ (HXq.out.rd)).mono ?_
  rintro e w7 ⟨aOG, cOG, rfl, hOG, hb7⟩
  have k7 : Below w.heap.size w w7 := k6.trans (hb7.mono k6.size)
  have sz7 : w6.heap.size ≤ w7.heap.size := hb7.size
  replace HBX := hid (HBX.out.below hb7)
  replace HOW := hid (HOW.out.below hb7)
  replace HXq := hid (HXq.out.below hb7)
  have HOG := hid hOG
  have ROG : Hid (∀ g ∈ hbl (.slice aOG A.length cOG), w6.heap.size ≤ g ∧ g < w7.heap.size) := hOG.lt
  clear hOG
  clear hb7
  go_wp2_with fail
  refine (HEQ _ _ _ (HOG.out.at) (HOW.out.at)).mono ?_
  rintro e w8 ⟨rfl, hb8⟩
  have k8 : Below w.heap.size w w8 := k7.trans (hb8.mono k7.size)
  have sz8 : w7.heap.size ≤ w8.heap.size := hb8.size
  replace HBX := hid (HBX.out.below hb8)
  replace HOW := hid (HOW.out.below hb8)
  replace HXq := hid (HXq.out.below hb8)
  replace HOG := hid (HOG.out.below hb8)
  clear hb8
  go_wp2_with fail
  refine (HTOq _ _ (HAq.out.below k8)).mono ?_
  rintro e w9 ⟨aYq, cYq, rfl, hYq, hb9⟩
  have k9 : Below w.heap.size w w9 := k8.trans (hb9.mono k8.size)
  have sz9 : w8.heap.size ≤ w9.heap.size := hb9.size
  replace HBX := hid (HBX.out.below hb9)
  replace HOW := hid (HOW.out.below hb9)
  replace HXq := hid (HXq.out.below hb9)
  replace HOG := hid (HOG.out.below hb9)
  have HYq := hid hYq
  have RYq : Hid (∀ g ∈ hbl (.slice aYq lq.length cYq), w8.heap.size ≤ g ∧ g < w9.heap.size) := hYq.lt
  clear hYq
  clear hb9
  go_wp2_with fail
  refine (HEAq _ _ _ (HXq.out.at) (HYq.out.at)).mono ?_
  rintro e w10 ⟨rfl, hb10⟩
  have k10 : Below w.heap.size w w10 := k9.trans (hb10.mono k9.size)
  have sz10 : w9.heap.size ≤ w10.heap.size := hb10.size
  replace HBX := hid (HBX.out.below hb10)
  replace HOW := hid (HOW.out.below hb10)
  replace HXq := hid (HXq.out.below hb10)
  replace HOG := hid (HOG.out.below hb10)
  replace HYq := hid (HYq.out.below hb10)
  clear hb10
  clear HYq
  go_wp2_with fail
  refine (HMAq _ _ _ HXq.out).mono ?_
  rintro e w11 ⟨rfl, hm11, ho11⟩
  have k11 : Below w.heap.size w w11 := k10.trans (ho11.below k10.size (fun g hg => by have h1 := RXq.out g hg; have h2 := k4.size; omega))
  have sz11 : w10.heap.size ≤ w11.heap.size := ho11.size
  replace HBX := hid (HBX.out.off ho11 (fun hm => by have h2 := RXq.out pb hm; omega))
  replace HOW := hid (HOW.out.off ho11 (fun g hg hm => by have h1 := ROW.out g hg; have h2 := RXq.out g hm; omega))
  replace HOG := hid (HOG.out.off ho11 (fun g hg hm => by have h1 := ROG.out g hg; have h2 := RXq.out g hm; omega))
  clear hm11 ho11 HXq
  go_wp2_with fail
  refine (HEQ _ _ _ (HOG.out.at) (HOW.out.at)).mono ?_
  rintro e w12 ⟨rfl, hb12⟩
  have k12 : Below w.heap.size w w12 := k11.trans (hb12.mono k11.size)
  have sz12 : w11.heap.size ≤ w12.heap.size := hb12.size
  replace HBX := hid (HBX.out.below hb12)
  replace HOW := hid (HOW.out.below hb12)
  replace HOG := hid (HOG.out.below hb12)
  clear hb12
  go_wp2_with fail
  refine (HMG _ _ _ HOG.out).mono ?_
  rintro e w13 ⟨rfl, hm13, ho13⟩
  have k13 : Below w.heap.size w w13 := k12.trans (ho13.below k12.size (fun g hg => by have h1 := ROG.out g hg; have h2 := k6.size; omega))
  have sz13 : w12.heap.size ≤ w13.heap.size := ho13.size
  replace HBX := hid (HBX.out.off ho13 (fun hm => by have h2 := ROG.out pb hm; omega))
  replace HOW := hid (HOW.out.off ho13 (fun g hg hm => by have h1 := ROW.out g hg; have h2 := ROG.out g hm; omega))
  replace HOG := hid hm13
  clear ho13
  go_wp2_with fail
  refine (HHG _ _ HOG.out.at).mono ?_
  rintro e w14 ⟨rfl, hb14⟩
  have k14 : Below w.heap.size w w14 := k13.trans (hb14.mono k13.size)
  have sz14 : w13.heap.size ≤ w14.heap.size := hb14.size
  replace HBX := hid (HBX.out.below hb14)
  replace HOW := hid (HOW.out.below hb14)
  replace HOG := hid (HOG.out.below hb14)
  clear hb14
  have pc0 := HBX.out.2.1 0 _ rfl
  have pc1 := HBX.out.2.1 1 _ rfl
  have pcl := HBX.out.1
  go_upto_region 24 with fail
  have HSK : Hid (∀ W, Below w14.heap.size w14 W → (fun w' : World => w'.cell? ⟨pb, 0, none⟩ = some (.int .i64 pp.1) ∧ w'.cell? ⟨pb, 1, none⟩ = some (.int .i64 pp.2)) W) := fun W hW => ⟨(hW.cell pcl).trans pc0, (hW.cell pcl).trans pc1⟩
  have kd : Below w14.heap.size w14 w14.drew := Below.drew (Below.refl _ _)
  have hHeld := HSK.out w14.drew kd
  refine wp_region_heldL (n := 10) (S := fun w' : World => w'.cell? ⟨pb, 0, none⟩ = some (.int .i64 pp.1) ∧ w'.cell? ⟨pb, 1, none⟩ = some (.int .i64 pp.2)) (by kernel_rfl) rfl ?_
  refine takeL (i := 0) (v := ?_) rfl (by kernel_rfl) (by kernel_rfl) (by kernel_rfl) (fun _ _ _ h => h) rfl ?_ (by assumption) ?_
  rotate_left
  · intro w hSw; (try dsimp only at hSw); go_simp; (try with_reducible rfl)
  (try simp only [Act.put, List.setIfInBounds_toArray, List.set_cons_zero, List.set_cons_succ])
  refine takeL (i := 2) (v := ?_) rfl (by kernel_rfl) (by kernel_rfl) (by kernel_rfl) (fun _ _ _ h => h) rfl ?_ (by assumption) ?_
  rotate_left
  · intro w hSw; (try dsimp only at hSw); go_simp; (try with_reducible rfl)
  (try simp only [Act.put, List.setIfInBounds_toArray, List.set_cons_zero, List.set_cons_succ])
  refine comesL (i := 1) rfl rfl (by kernel_rfl) (fun K hK => ?_)
  go_simp
  refine (HTOq _ _ (HAq.out.below (k14.trans (kd.mono k14.size)))).mono ?_
  rintro e w15 ⟨aVq, cVq, rfl, hVq, hb⟩
  have mw15 : Below w14.heap.size w14 w15 := kd.trans (hb.mono kd.size)
  have k15 : Below w.heap.size w w15 := k14.trans (mw15.mono k14.size)
  have sz15 : w14.heap.size ≤ w15.heap.size := mw15.size
  replace HBX := hid (HBX.out.below mw15)
  replace HOW := hid (HOW.out.below mw15)
  replace HOG := hid (HOG.out.below mw15)
  have HVq := hid (hVq.mono (show w14.heap.size ≤ w14.drew.heap.size from kd.size))
  have RVq : Hid (∀ g ∈ hbl (.slice aVq lq.length cVq), w14.heap.size ≤ g ∧ g < w15.heap.size) := HVq.out.lt
  clear hVq
  clear hb
  (try dsimp only)
  refine hK.out _ _ (HSK.out w15 mw15) (fun hH2 => ?_)
  clear hK K
  replace hHeld := hH2
  clear hH2
  (try simp only [Act.put, List.setIfInBounds_toArray, List.set_cons_zero, List.set_cons_succ])
  refine comesL (i := 3) rfl rfl (by kernel_rfl) (fun K hK => ?_)
  go_simp
  refine (HTOp _).mono ?_
  rintro e w16 ⟨rfl, hb⟩
  have mw16 : Below w14.heap.size w14 w16 := mw15.trans (hb.mono mw15.size)
  have k16 : Below w.heap.size w w16 := k14.trans (mw16.mono k14.size)
  have sz16 : w15.heap.size ≤ w16.heap.size := hb.size
  replace HBX := hid (HBX.out.below hb)
  replace HOW := hid (HOW.out.below hb)
  replace HOG := hid (HOG.out.below hb)
  replace HVq := hid (HVq.out.below hb)
  clear hb
  (try dsimp only)
  refine hK.out _ _ (HSK.out w16 mw16) (fun hH2 => ?_)
  clear hK K
  replace hHeld := hH2
  clear hH2
  (try simp only [Act.put, List.setIfInBounds_toArray, List.set_cons_zero, List.set_cons_succ])
  refine comesL (i := 4) rfl rfl (by kernel_rfl) (fun K hK => ?_)
  go_simp
  refine (HIM _ _ (HVq.out.rd)).mono ?_
  rintro e w17 ⟨aOH, cOH, rfl, hOH, hb⟩
  have mw17 : Below w14.heap.size w14 w17 := mw16.trans (hb.mono mw16.size)
  have k17 : Below w.heap.size w w17 := k14.trans (mw17.mono k14.size)
  have sz17 : w16.heap.size ≤ w17.heap.size := hb.size
  replace HBX := hid (HBX.out.below hb)
  replace HOW := hid (HOW.out.below hb)
  replace HOG := hid (HOG.out.below hb)
  replace HVq := hid (HVq.out.below hb)
  have HOH := hid hOH
  have ROH : Hid (∀ g ∈ hbl (.slice aOH A.length cOH), w16.heap.size ≤ g ∧ g < w17.heap.size) := HOH.out.lt
  clear hOH
  clear hb
  (try dsimp only)
  refine hK.out _ _ (HSK.out w17 mw17) (fun hH2 => ?_)
  clear hK K
  replace hHeld := hH2
  clear hH2
  (try simp only [Act.put, List.setIfInBounds_toArray, List.set_cons_zero, List.set_cons_succ])
  refine takeL (i := 5) (v := ?_) rfl (by kernel_rfl) (by kernel_rfl) (by kernel_rfl) (fun _ _ _ h => h) rfl ?_ (by assumption) ?_
  rotate_left
  · intro w hSw; (try dsimp only at hSw); go_simp; (try with_reducible rfl)
  (try simp only [Act.put, List.setIfInBounds_toArray, List.set_cons_zero, List.set_cons_succ])
  refine takeL (i := 6) (v := ?_) rfl (by kernel_rfl) (by kernel_rfl) (by kernel_rfl) (fun _ _ _ h => h) rfl ?_ (by assumption) ?_
  rotate_left
  · intro w hSw; (try dsimp only at hSw); go_simp; (try with_reducible rfl)
  (try simp only [Act.put, List.setIfInBounds_toArray, List.set_cons_zero, List.set_cons_succ])
  refine takeL (i := 7) (v := ?_) rfl (by kernel_rfl) (by kernel_rfl) (by kernel_rfl) (fun _ _ _ h => h) rfl ?_ (by assumption) ?_
  rotate_left
  · intro w hSw; (try dsimp only at hSw); go_simp; (try with_reducible rfl)
  (try simp only [Act.put, List.setIfInBounds_toArray, List.set_cons_zero, List.set_cons_succ])
  refine takeL (i := 8) (v := ?_) rfl (by kernel_rfl) (by kernel_rfl) (by kernel_rfl) (fun _ _ _ h => h) rfl ?_ (by assumption) ?_
  rotate_left
  · intro w hSw; (try dsimp only at hSw); go_simp; (try with_reducible rfl)
  (try simp only [Act.put, List.setIfInBounds_toArray, List.set_cons_zero, List.set_cons_succ])
  refine takeL (i := 9) (v := ?_) rfl (by kernel_rfl) (by kernel_rfl) (by kernel_rfl) (fun _ _ _ h => h) rfl ?_ (by assumption) ?_
  rotate_left
  · intro w hSw; (try dsimp only at hSw); go_simp; (try with_reducible rfl)
  (try simp only [Act.put, List.setIfInBounds_toArray, List.set_cons_zero, List.set_cons_succ])
  refine wpAnyH_done (by kernel_rfl) ?_ _
  clear hHeld kd HSK
  clear pc0 pc1 pcl
  clear HVq
  go_wp2_with fail
  refine (HEQ _ _ _ (HOH.out.at) (HOW.out.at)).mono ?_
  rintro e w18 ⟨rfl, hb18⟩
  have k18 : Below w.heap.size w w18 := k17.trans (hb18.mono k17.size)
  have sz18 : w17.heap.size ≤ w18.heap.size := hb18.size
  replace HBX := hid (HBX.out.below hb18)
  replace HOW := hid (HOW.out.below hb18)
  replace HOG := hid (HOG.out.below hb18)
  replace HOH := hid (HOH.out.below hb18)
  clear hb18
  go_wp2_with fail
  refine (HHG _ _ HOG.out.at).mono ?_
  rintro e w19 ⟨rfl, hb19⟩
  have k19 : Below w.heap.size w w19 := k18.trans (hb19.mono k18.size)
  have sz19 : w18.heap.size ≤ w19.heap.size := hb19.size
  replace HBX := hid (HBX.out.below hb19)
  replace HOW := hid (HOW.out.below hb19)
  replace HOG := hid (HOG.out.below hb19)
  replace HOH := hid (HOH.out.below hb19)
  clear hb19
  go_wp2_with fail
  go_returns
  exact ⟨rfl, k19⟩
theorem own : ownKnob Try.prog.godebug = none := by kernel_rfl
theorem laidOut : laidOutB Try.prog = true := by kernel_rfl
theorem cellsScore : Try.prog.cellsOf 57 = 2 := by kernel_rfl
set_option maxRecDepth 100000 in
theorem lifted (os : Os) (started : os.Started) (H : Type) (enc : TypeId × Value → H) :
    ReturnsInHanded {} Try.checked os 9 .any (Rows.fnExactHeapPushSpec.pre6 enc Try.prog Try.f9 Rows.fnExactHeapPushRow.domain false) (Rows.fnExactHeapPushSpec.post enc Try.prog Try.f9 false true false false) := by
  refine returnsInHanded_of_change (C := Try.checked) own started (by kernel_rfl) Try.func9
    (ChangeSpec.witness6 (enc := enc) (C := Try.checked) false ⟨#[], #[.slice none 0 0, .agg #[.int .i64 0, .int .i64 0]], []⟩ 8 (by kernel_rfl) (by kernel_rfl) (by kernel_rfl) (by kernel_rfl)) ?_
  intro W base args ds gs before hval0 hW hcnd _
  have hval : ∀ (j : Nat) t v, Try.f9.params[j]? = some t → args[j]? = some v → Value.okWide Try.prog W .any base t v := hval0
  have hW' := hW
  obtain ⟨p, q, hA0, hV, rfl, hfz, hnd⟩ := hW
  have hA : DataW.TrodAll enc Try.prog W 0 (fun _ => true) true Try.f9.params.toList args.toList ds p := hA0
  rw [Try.params9] at hA hval
  obtain ⟨v0, vs0, d0, ds0, p0, q0, hargs, rfl, rfl, h0, r0⟩ := trodAll_cons hA
  obtain ⟨v1, vs1, d1, ds1, p1, q1, rfl, rfl, rfl, h1, r1⟩ := trodAll_cons r0
  obtain ⟨rfl, rfl, rfl⟩ := trodAll_nil r1
  obtain rfl : args = #[v0, v1] := by cases args; simp_all
  obtain ⟨rfl, rfl⟩ := trodVars_none hV
  have kk0 := h0
  have lt0 : ∀ x ∈ p0, x.block < W.heap.size := by obtain ⟨m, hm⟩ := kk0; exact DataW.trod_lt m _ _ _ hm
  obtain ⟨ps0_, hss0, hre0⟩ := scs_of (hval 0 46 v0 rfl rfl) h0
  have kk1 := h1
  have lt1 : ∀ x ∈ p1, x.block < W.heap.size := by obtain ⟨m, hm⟩ := kk1; exact DataW.trod_lt m _ _ _ hm
  obtain ⟨c10, c11, y10, y11, m1, rfl, rfl, rfl, hy10, hy11⟩ := open_agg2 Try.underlying57 (by kernel_rfl) cellsScore (hval 1 57 v1 rfl rfl) h1
  obtain ⟨k1, e10, x10, wk1⟩ := DataW.trod_int Try.underlying3 hy10
  obtain ⟨n1, e11, x11, wn1⟩ := DataW.trod_int Try.underlying3 hy11
  simp at e10 e11
  subst e10 e11
  clear hA0 hval0
  refine (walk _ ps0_ hre0 (k1, n1) W hss0).mono fun e W' ⟨he, bel⟩ => ?_
  subst he
  exact ⟨_, rfl, _, _, _, [], _, [], hW', trodAll_mk1 (shut_bool Try.underlying4 _), (trodAll_cons_mk (Below.trod laidOut (by kernel_rfl) (of_decide_eq_true (by kernel_rfl)) kk0 bel lt0) (trodAll_cons_mk (Below.trod laidOut (by kernel_rfl) (of_decide_eq_true (by kernel_rfl)) kk1 bel lt1) trodAll_mk0)), rfl, bel.frame _, fun h => by cases h⟩

theorem over : Rows.fnExactHeapPushRow.holds Try.pinned (OpenSpec.ofChange Rows.fnExactHeapPushSpec) :=
  OpenClaim.holds_of_wide 9 Try.f9 rfl rfl rfl rfl rfl rfl rfl ⟨rfl, rfl, rfl, rfl, rfl⟩ rfl rfl rfl rfl rfl (by kernel_rfl) Try.func9 (by kernel_rfl)
    (of_decide_eq_true (by kernel_rfl)) (by unfold Func.isWrapper; first | (rw [if_pos (by decide +kernel)]; kernel_rfl) | (rw [if_neg (by decide +kernel)]; exact ⟨rfl, rfl⟩))
    (fun os started H enc _ => lifted os started H enc)
end Go.Proofs.Ythdodlbhkpoadaa.fnExactHeapPush
namespace Go.Proofs.Ythdodlbhkpoadaa
theorem fnExactHeapPush_holds : Rows.FnExactHeapPushSaid := fnExactHeapPush.over
#print axioms fnExactHeapPush_holds
end Go.Proofs.Ythdodlbhkpoadaa
