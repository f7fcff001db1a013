/- At every two packed lists the function FnExactMeetPacked returns true and leaves its arguments as they were: MeetPacked answers as its model does, and its answer owns its memory. No condition. -/
import Derived.Test.YtaafdcghafbfhaaPkArg
import Derived.Test.YtaafdcghafbfhaaSpecMt
import Derived.Test.YtaafdcghafbfhaaSwap
import Derived.Lib.SmallJoins
namespace Go.Proofs.Ytaafdcghafbfhaa.fnExactMeetPacked
open Go.ChangeShapes Go.WideShapes Go.ChangeAt Go.RowKit Go.Joins
open Go.ChangeMaps (open_string shut_string)
set_option linter.unusedVariables false
attribute [local go_sem ↓] Go.wp_at_zero Go.wp_at_succ
theorem hide {p : Prop} (h : p) : Hid p := h
theorem unhide {p : Prop} (h : Hid p) : p := h

set_option maxRecDepth 100000 in
set_option maxHeartbeats 12800000 in
theorem walk (p : Pk) (lv hv : Value) (hm : ReP p) (q : Pk) (lv2 hv2 : Value) (hm2 : ReP q) (w : World) (hp : PkAt w lv hv p) (hq : PkAt w lv2 hv2 q) :
    Calls Try.prog 12 #[.agg #[.int .i64 p.many, .int .i64 p.low, lv, hv], .agg #[.int .i64 q.many, .int .i64 q.low, lv2, hv2]] w fun e w' => e = .returned (.bool true) ∧ Below w.heap.size w w' := by
  have HS := hide hp
  have HS0 := hide hp
  have HT := hide hq
  have HT0 := hide hq
  have HK : Hid (Below w.heap.size w w) := Below.refl _ _
  obtain ⟨la, lc, hle⟩ := hp.1.slice
  subst hle
  obtain ⟨ha, hc, hhe⟩ := hp.2.slice
  subst hhe
  obtain ⟨lb, ld, hle⟩ := hq.1.slice
  subst hle
  obtain ⟨hb, hd, hhe⟩ := hq.2.slice
  subst hhe
  clear hp hq
  by_cases hbig : 1048576 < amountP p
  · have HZ := fun M L W => szPkNo p la ha lc hc M L 1048576 W (by omega) hm.1 hm.2 hbig
    simp only [show ((1048576 : Nat) : Int) = 1048576 from rfl] at HZ
    generalize p.many = M
    generalize p.low = L
    generalize q.many = M2
    generalize q.low = L2
    go_enter Try.func12, Try.ntmps12
    go_wp2_with fail
    refine (HZ _ _ _).mono ?_
    rintro e w1 ⟨rfl, hx1⟩
    have hb1 : Below w.heap.size w w1 := Below.trans (by go_grown) (hx1.mono (by go_size))
    replace HS := hide ((unhide HS).below hb1)
    replace HT := hide ((unhide HT).below hb1)
    replace HK := hide ((unhide HK).trans (hb1.mono (unhide HK).size))
    have hfin := unhide HK
    go_wp2
    go_returns
    exact ⟨rfl, hfin⟩
  have HZ := fun M L W => szPkYes p la ha lc hc M L 1048576 W (by omega) hm.1 hm.2 (by omega)
  simp only [show ((1048576 : Nat) : Int) = 1048576 from rfl] at HZ
  by_cases hbig2 : 1048576 - amountP p < amountP q
  · have HZ2 := fun M L W => szPkNo q lb hb ld hd M L (1048576 - amountP p) W (by omega) hm2.1 hm2.2 hbig2
    generalize p.many = M
    generalize p.low = L
    generalize q.many = M2
    generalize q.low = L2
    generalize 1048576 - amountP p = z at *
    have hz : ¬ (z : Int) < 0 := by omega
    go_enter Try.func12, Try.ntmps12
    go_wp2_with fail
    refine (HZ _ _ _).mono ?_
    rintro e w1 ⟨rfl, hx1⟩
    have hb1 : Below w.heap.size w w1 := Below.trans (by go_grown) (hx1.mono (by go_size))
    replace HS := hide ((unhide HS).below hb1)
    replace HT := hide ((unhide HT).below hb1)
    replace HK := hide ((unhide HK).trans (hb1.mono (unhide HK).size))
    obtain ⟨qBX, qBZ⟩ := boxOf2 hx1
    have BX := hide qBX
    clear qBX
    have BXz := (unhide BX).1
    have BXc0 := (unhide BX).2.1 0 _ rfl
    have BXc1 := (unhide BX).2.1 1 _ rfl
    have BXc2 := (unhide BX).2.1 2 _ rfl
    have BXc3 := (unhide BX).2.1 3 _ rfl
    have BZ := hide qBZ
    clear qBZ
    have BZz := (unhide BZ).1
    have BZc0 := (unhide BZ).2.1 0 _ rfl
    have BZc1 := (unhide BZ).2.1 1 _ rfl
    have BZc2 := (unhide BZ).2.1 2 _ rfl
    have BZc3 := (unhide BZ).2.1 3 _ rfl
    go_wp2_with fail
    refine (HZ2 _ _ _).mono ?_
    rintro e w2 ⟨rfl, hx2⟩
    have hb2 : Below w1.heap.size w1 w2 := Below.trans (by go_grown) (hx2.mono (by go_size))
    replace HS := hide ((unhide HS).below hb2)
    replace HT := hide ((unhide HT).below hb2)
    (try clear BXz BXc0 BXc1 BXc2 BXc3)
    replace BX := hide ((unhide BX).below hb2)
    have BXz := (unhide BX).1
    have BXc0 := (unhide BX).2.1 0 _ rfl
    have BXc1 := (unhide BX).2.1 1 _ rfl
    have BXc2 := (unhide BX).2.1 2 _ rfl
    have BXc3 := (unhide BX).2.1 3 _ rfl
    (try clear BZz BZc0 BZc1 BZc2 BZc3)
    replace BZ := hide ((unhide BZ).below hb2)
    have BZz := (unhide BZ).1
    have BZc0 := (unhide BZ).2.1 0 _ rfl
    have BZc1 := (unhide BZ).2.1 1 _ rfl
    have BZc2 := (unhide BZ).2.1 2 _ rfl
    have BZc3 := (unhide BZ).2.1 3 _ rfl
    replace HK := hide ((unhide HK).trans (hb2.mono (unhide HK).size))
    have hfin := unhide HK
    go_wp2
    go_returns
    exact ⟨rfl, hfin⟩
  have HZ2 := fun M L W => szPkYes q lb hb ld hd M L (1048576 - amountP p) W (by omega) hm2.1 hm2.2 (by omega)
  have l1 : p.lows.length ≤ 1048576 := by unfold amountP at hbig; omega
  have l2 : p.high.length ≤ 1048576 := by unfold amountP at hbig; omega
  have l3 : q.lows.length ≤ 1048576 := by unfold amountP at hbig2; omega
  have l4 : q.high.length ≤ 1048576 := by unfold amountP at hbig2; omega
  obtain ⟨B1, A1, hA⟩ := ans_ex p
  obtain ⟨B2, A2, hC⟩ := ans_ex q
  have h60 : (meetL A1 A2).length ≤ 60 := Nat.le_trans (meet_len _ _) hA.len
  have HSP0 := fun a b c d W h g => specMeet p q B1 B2 A1 A2 hA hC a b c d W h g l1 l2 l3 l4
  have HIM0 := fun a b c d W h g => implMeet p q B1 B2 A1 A2 hA hC a b c d W h g l1 l2 l3 l4
  obtain ⟨B, hB⟩ : ∃ B, B = (B1 && B2) := ⟨_, rfl⟩
  obtain ⟨A, hAA⟩ : ∃ A, A = meetL A1 A2 := ⟨_, rfl⟩
  rw [← hB, ← hAA] at HSP0 HIM0
  rw [← hAA] at h60
  clear hB hAA hA hC
  have HSP : ∀ a b c d W, PkAt W a b p → PkAt W c d q → Calls Try.prog 33 #[.agg #[.int .i64 p.many, .int .i64 p.low, a, b], .agg #[.int .i64 q.many, .int .i64 q.low, c, d]] W fun e w' => ∃ x, e = .returned (.tuple #[x, .bool B]) ∧ OwnA W.heap.size w' x A.length (fun i => .int .i64 (A.getD i 0)) ∧ Below W.heap.size W w' := fun a b c d W h g => (HSP0 a b c d W h g).mono (fun e w' h => by
    obtain ⟨⟨x, h1, h2⟩, h3⟩ := h
    exact ⟨x, h1, (OwnA.ofInts h2).1, h3⟩)
  have HIM : ∀ a b c d W, PkAt W a b p → PkAt W c d q → Calls Try.prog 32 #[.agg #[.int .i64 p.many, .int .i64 p.low, a, b], .agg #[.int .i64 q.many, .int .i64 q.low, c, d]] W fun e w' => ∃ x, e = .returned (.tuple #[x, .bool B]) ∧ OwnA W.heap.size w' x A.length (fun i => .int .i64 (A.getD i 0)) ∧ Below W.heap.size W w' := fun a b c d W h g => (HIM0 a b c d W h g).mono (fun e w' h => by
    obtain ⟨⟨x, h1, h2⟩, h3⟩ := h
    exact ⟨x, h1, (OwnA.ofInts h2).1, h3⟩)
  have HTO : ∀ a b W, PkAt W a b p → Calls Try.prog 45 #[.agg #[.int .i64 p.many, .int .i64 p.low, a, b]] W fun e w' => ∃ ku vu, e = .returned (.agg #[.int .i64 p.many, .int .i64 p.low, ku, vu]) ∧ PkA W.heap.size w' ku vu p ∧ Below W.heap.size W w' := fun a b W h => (toPk p a b W h l1 l2).mono (fun e w' h => by
    obtain ⟨g, r, h1, h2, h3⟩ := h
    exact ⟨_, _, h1, h2.a _ _, h3⟩)
  have HTQ : ∀ a b W, PkAt W a b q → Calls Try.prog 45 #[.agg #[.int .i64 q.many, .int .i64 q.low, a, b]] W fun e w' => ∃ ku vu, e = .returned (.agg #[.int .i64 q.many, .int .i64 q.low, ku, vu]) ∧ PkA W.heap.size w' ku vu q ∧ Below W.heap.size W w' := fun a b W h => (toPk q a b W h l3 l4).mono (fun e w' h => by
    obtain ⟨g, r, h1, h2, h3⟩ := h
    exact ⟨_, _, h1, h2.a _ _, h3⟩)
  have HEQ := fun a b c d W h g => eqPk p a b c d W h g l1 l2
  have HEW := fun a b c d W h g => eqPk q a b c d W h g l3 l4
  have HEI := fun x y W h g => eqIntB x y A A W h g (by omega) (by omega) rfl
  have hbn : (B != B) = false := by cases B <;> rfl
  obtain ⟨X, hX⟩ : ∃ X : Nat, X = 1 + p.lows.length + p.high.length := ⟨_, rfl⟩
  obtain ⟨X2, hX2⟩ : ∃ X2 : Nat, X2 = X + q.lows.length + q.high.length := ⟨_, rfl⟩
  obtain ⟨N, hN⟩ : ∃ N : Nat, N = 1 + A.length := ⟨_, rfl⟩
  have hX0 : decide ((X2 : Int) < 0) = false := decide_eq_false (by omega)
  have hN0 : ¬ (N : Int) < 0 := by omega
  have hNN : ((N : Int) != (N : Int)) = false := by simp
  have HMG := fun b x W (h : OwnA b W x A.length (fun i => .int .i64 (A.getD i 0))) => markIntE b 1 A.length x _ W h (by omega) (fun i _ => ⟨_, rfl⟩)
  have HHG := fun b x W (h : OwnA b W x A.length (fun i => .int .i64 ((1 + i : Nat) : Int))) => heldIntE b 1 A.length x W h (by omega)
  have HMP := fun b M L c d W (h : PkA b W c d p) => markPk b 1 p M L c d W h (by omega)
  have HMQ := fun b M L c d W (h : PkA b W c d q) => markPk b X q M L c d W h (by omega)
  simp only [show ((1 : Nat) : Int) = 1 from rfl] at HMG HHG HMP
  rw [← hX] at HMP
  rw [← hX2] at HMQ
  rw [← hN] at HMG HHG
  clear hX hN hX2 HSP0 HIM0 l1 l2 l3 l4 hm hm2 hbig hbig2
  obtain ⟨M, hM⟩ : ∃ M, M = p.many := ⟨_, rfl⟩
  obtain ⟨L, hL⟩ : ∃ L, L = p.low := ⟨_, rfl⟩
  obtain ⟨M2, hM2⟩ : ∃ M, M = q.many := ⟨_, rfl⟩
  obtain ⟨L2, hL2⟩ : ∃ L, L = q.low := ⟨_, rfl⟩
  rw [← hM, ← hL] at HSP HIM HTO HEQ ⊢
  rw [← hM2, ← hL2] at HSP HIM HTQ HEW ⊢
  clear hM hL hM2 hL2
  generalize 1048576 - amountP p = z at *
  have hz : ¬ (z : Int) < 0 := by omega
  generalize z - amountP q = z2 at *
  have hz2 : ¬ (z2 : Int) < 0 := by omega
  go_enter Try.func12, Try.ntmps12
  go_wp2_with fail
  refine (HZ _ _ _).mono ?_
  rintro e w1 ⟨rfl, hx1⟩
  have hb1 : Below w.heap.size w w1 := Below.trans (by go_grown) (hx1.mono (by go_size))
  replace HS := hide ((unhide HS).below hb1)
  replace HT := hide ((unhide HT).below hb1)
  replace HK := hide ((unhide HK).trans (hb1.mono (unhide HK).size))
  obtain ⟨qBX, qBZ⟩ := boxOf2 hx1
  have BX := hide qBX
  clear qBX
  have BXz := (unhide BX).1
  have BXc0 := (unhide BX).2.1 0 _ rfl
  have BXc1 := (unhide BX).2.1 1 _ rfl
  have BXc2 := (unhide BX).2.1 2 _ rfl
  have BXc3 := (unhide BX).2.1 3 _ rfl
  have BZ := hide qBZ
  clear qBZ
  have BZz := (unhide BZ).1
  have BZc0 := (unhide BZ).2.1 0 _ rfl
  have BZc1 := (unhide BZ).2.1 1 _ rfl
  have BZc2 := (unhide BZ).2.1 2 _ rfl
  have BZc3 := (unhide BZ).2.1 3 _ rfl
  go_wp2_with fail
  refine (HZ2 _ _ _).mono ?_
  rintro e w2 ⟨rfl, hx2⟩
  have hb2 : Below w1.heap.size w1 w2 := Below.trans (by go_grown) (hx2.mono (by go_size))
  replace HS := hide ((unhide HS).below hb2)
  replace HT := hide ((unhide HT).below hb2)
  (try clear BXz BXc0 BXc1 BXc2 BXc3)
  replace BX := hide ((unhide BX).below hb2)
  have BXz := (unhide BX).1
  have BXc0 := (unhide BX).2.1 0 _ rfl
  have BXc1 := (unhide BX).2.1 1 _ rfl
  have BXc2 := (unhide BX).2.1 2 _ rfl
  have BXc3 := (unhide BX).2.1 3 _ rfl
  (try clear BZz BZc0 BZc1 BZc2 BZc3)
  replace BZ := hide ((unhide BZ).below hb2)
  have BZz := (unhide BZ).1
  have BZc0 := (unhide BZ).2.1 0 _ rfl
  have BZc1 := (unhide BZ).2.1 1 _ rfl
  have BZc2 := (unhide BZ).2.1 2 _ rfl
  have BZc3 := (unhide BZ).2.1 3 _ rfl
  replace HK := hide ((unhide HK).trans (hb2.mono (unhide HK).size))
  clear hx1 hb1 hx2 hb2
  go_upto_region 8 with fail
  have HSK : Hid (∀ W, Below w2.heap.size w2 W → (fun w' : World => (w'.cell? ⟨w.heap.size, 0, none⟩ = some (.int .i64 M) ∧ w'.cell? ⟨w.heap.size, 1, none⟩ = some (.int .i64 L) ∧ w'.cell? ⟨w.heap.size, 2, none⟩ = some (.slice la p.lows.length lc) ∧ w'.cell? ⟨w.heap.size, 3, none⟩ = some (.slice ha p.high.length hc)) ∧ w'.cell? ⟨(w.heap.size + 1), 0, none⟩ = some (.int .i64 M2) ∧ w'.cell? ⟨(w.heap.size + 1), 1, none⟩ = some (.int .i64 L2) ∧ w'.cell? ⟨(w.heap.size + 1), 2, none⟩ = some (.slice lb q.lows.length ld) ∧ w'.cell? ⟨(w.heap.size + 1), 3, none⟩ = some (.slice hb q.high.length hd)) W) := fun W hW => ⟨⟨(hW.cell (p := ⟨w.heap.size, 0, none⟩) BXz).trans BXc0, (hW.cell (p := ⟨w.heap.size, 1, none⟩) BXz).trans BXc1, (hW.cell (p := ⟨w.heap.size, 2, none⟩) BXz).trans BXc2, (hW.cell (p := ⟨w.heap.size, 3, none⟩) BXz).trans BXc3⟩, (hW.cell (p := ⟨w.heap.size + 1, 0, none⟩) BZz).trans BZc0, (hW.cell (p := ⟨w.heap.size + 1, 1, none⟩) BZz).trans BZc1, (hW.cell (p := ⟨w.heap.size + 1, 2, none⟩) BZz).trans BZc2, (hW.cell (p := ⟨w.heap.size + 1, 3, none⟩) BZz).trans BZc3⟩
  have kd : Below w2.heap.size w2 w2.drew := Below.drew (Below.refl _ _)
  have hHeld := HSK.out w2.drew kd
  refine wp_region_heldL (n := 10) (S := fun w' : World => (w'.cell? ⟨w.heap.size, 0, none⟩ = some (.int .i64 M) ∧ w'.cell? ⟨w.heap.size, 1, none⟩ = some (.int .i64 L) ∧ w'.cell? ⟨w.heap.size, 2, none⟩ = some (.slice la p.lows.length lc) ∧ w'.cell? ⟨w.heap.size, 3, none⟩ = some (.slice ha p.high.length hc)) ∧ w'.cell? ⟨(w.heap.size + 1), 0, none⟩ = some (.int .i64 M2) ∧ w'.cell? ⟨(w.heap.size + 1), 1, none⟩ = some (.int .i64 L2) ∧ w'.cell? ⟨(w.heap.size + 1), 2, none⟩ = some (.slice lb q.lows.length ld) ∧ w'.cell? ⟨(w.heap.size + 1), 3, none⟩ = some (.slice hb q.high.length hd)) (by kernel_rfl) rfl ?_
  refine takeL (i := 0) (v := ?_) rfl (by kernel_rfl) (by kernel_rfl) (by kernel_rfl) (fun _ _ _ h => h) rfl ?_ (by assumption) ?_
  rotate_left
  · intro w hSw; (try dsimp only at hSw); go_simp; (try with_reducible rfl)
  (try simp only [Act.put, List.setIfInBounds_toArray, List.set_cons_zero, List.set_cons_succ])
  refine takeL (i := 2) (v := ?_) rfl (by kernel_rfl) (by kernel_rfl) (by kernel_rfl) (fun _ _ _ h => h) rfl ?_ (by assumption) ?_
  rotate_left
  · intro w hSw; (try dsimp only at hSw); go_simp; (try with_reducible rfl)
  (try simp only [Act.put, List.setIfInBounds_toArray, List.set_cons_zero, List.set_cons_succ])
  refine comesL (i := 1) rfl rfl (by kernel_rfl) (fun K hK => ?_)
  go_simp
  refine (HTO _ _ _ ((unhide HS).below kd)).mono ?_
  rintro e wa ⟨u1, u2, rfl, hya, hxa⟩
  have ka : Below w2.heap.size w2 wa := kd.trans (hxa.mono (by simp))
  have HYa := hide hya.at
  obtain ⟨ua1, uc1, hz1⟩ := hya.1.slice
  subst hz1
  obtain ⟨ua2, uc2, hz1⟩ := hya.2.1.slice
  subst hz1
  clear hxa hya
  (try dsimp only)
  refine hK.out _ _ (HSK.out wa ka) (fun hH2 => ?_)
  clear hK K
  replace hHeld := hH2
  clear hH2
  (try simp only [Act.put, List.setIfInBounds_toArray, List.set_cons_zero, List.set_cons_succ])
  refine comesL (i := 3) rfl rfl (by kernel_rfl) (fun K hK => ?_)
  go_simp
  refine (HTQ _ _ _ ((unhide HT).below ka)).mono ?_
  rintro e wb ⟨v1, v2, rfl, hyb, hxb⟩
  have kb : Below w2.heap.size w2 wb := ka.trans (hxb.mono ka.size)
  have HYa2 := hide ((unhide HYa).below hxb)
  have HYb := hide hyb.at
  obtain ⟨va1, vc1, hz1⟩ := hyb.1.slice
  subst hz1
  obtain ⟨va2, vc2, hz1⟩ := hyb.2.1.slice
  subst hz1
  clear hxb hyb
  (try dsimp only)
  refine hK.out _ _ (HSK.out wb kb) (fun hH2 => ?_)
  clear hK K
  replace hHeld := hH2
  clear hH2
  (try simp only [Act.put, List.setIfInBounds_toArray, List.set_cons_zero, List.set_cons_succ])
  refine comesL (i := 4) rfl rfl (by kernel_rfl) (fun K hK => ?_)
  go_simp
  refine (HSP _ _ _ _ _ (unhide HYa2) (unhide HYb)).mono ?_
  rintro e w3 ⟨ow, rfl, how, hx3⟩
  have k3 : Below w2.heap.size w2 w3 := kb.trans (hx3.mono kb.size)
  have HOW := hide how
  have HWL : Hid (∀ g ∈ ablk ow, g < w3.heap.size) := fun g hg => (how.lt g hg).2
  obtain ⟨oa, oc, hz1⟩ := how.slice
  subst hz1
  clear hx3 how HYa HYa2 HYb
  (try dsimp only)
  refine hK.out _ _ (HSK.out w3 k3) (fun hH2 => ?_)
  clear hK K
  replace hHeld := hH2
  clear hH2
  (try simp only [Act.put, List.setIfInBounds_toArray, List.set_cons_zero, List.set_cons_succ])
  refine takeL (i := 5) (v := ?_) rfl (by kernel_rfl) (by kernel_rfl) (by kernel_rfl) (fun _ _ _ h => h) rfl ?_ (by assumption) ?_
  rotate_left
  · intro w hSw; (try dsimp only at hSw); go_simp; (try with_reducible rfl)
  (try simp only [Act.put, List.setIfInBounds_toArray, List.set_cons_zero, List.set_cons_succ])
  refine takeL (i := 6) (v := ?_) rfl (by kernel_rfl) (by kernel_rfl) (by kernel_rfl) (fun _ _ _ h => h) rfl ?_ (by assumption) ?_
  rotate_left
  · intro w hSw; (try dsimp only at hSw); go_simp; (try with_reducible rfl)
  (try simp only [Act.put, List.setIfInBounds_toArray, List.set_cons_zero, List.set_cons_succ])
  refine takeL (i := 7) (v := ?_) rfl (by kernel_rfl) (by kernel_rfl) (by kernel_rfl) (fun _ _ _ h => h) rfl ?_ (by assumption) ?_
  rotate_left
  · intro w hSw; (try dsimp only at hSw); go_simp; (try with_reducible rfl)
  (try simp only [Act.put, List.setIfInBounds_toArray, List.set_cons_zero, List.set_cons_succ])
  refine takeL (i := 8) (v := ?_) rfl (by kernel_rfl) (by kernel_rfl) (by kernel_rfl) (fun _ _ _ h => h) rfl ?_ (by assumption) ?_
  rotate_left
  · intro w hSw; (try dsimp only at hSw); go_simp; (try with_reducible rfl)
  (try simp only [Act.put, List.setIfInBounds_toArray, List.set_cons_zero, List.set_cons_succ])
  refine takeL (i := 9) (v := ?_) rfl (by kernel_rfl) (by kernel_rfl) (by kernel_rfl) (fun _ _ _ h => h) rfl ?_ (by assumption) ?_
  rotate_left
  · intro w hSw; (try dsimp only at hSw); go_simp; (try with_reducible rfl)
  (try simp only [Act.put, List.setIfInBounds_toArray, List.set_cons_zero, List.set_cons_succ])
  refine wpAnyH_done (by kernel_rfl) ?_ _
  clear hHeld kd HSK
  replace HS := hide ((unhide HS).below k3)
  replace HT := hide ((unhide HT).below k3)
  replace BX := hide ((unhide BX).below k3)
  replace BZ := hide ((unhide BZ).below k3)
  replace HK := hide ((unhide HK).trans (k3.mono (unhide HK).size))
  clear BXz BXc0 BXc1 BXc2 BXc3 BZz BZc0 BZc1 BZc2 BZc3
  have BXz := (unhide BX).1
  have BXc0 := (unhide BX).2.1 0 _ rfl
  have BXc1 := (unhide BX).2.1 1 _ rfl
  have BXc2 := (unhide BX).2.1 2 _ rfl
  have BXc3 := (unhide BX).2.1 3 _ rfl
  have BZz := (unhide BZ).1
  have BZc0 := (unhide BZ).2.1 0 _ rfl
  have BZc1 := (unhide BZ).2.1 1 _ rfl
  have BZc2 := (unhide BZ).2.1 2 _ rfl
  have BZc3 := (unhide BZ).2.1 3 _ rfl
  have HZ3 : Hid (w.heap.size + 1 < w3.heap.size) := BZz
  clear k3
  go_wp2_with fail
  refine (HTO _ _ _ (unhide HS)).mono ?_
  rintro e w4 ⟨x1, x2, rfl, hx, hx4⟩
  have hb4 : Below w3.heap.size w3 w4 := Below.trans (by go_grown) (hx4.mono (by go_size))
  replace HS := hide ((unhide HS).below hb4)
  replace HT := hide ((unhide HT).below hb4)
  (try clear BXz BXc0 BXc1 BXc2 BXc3)
  replace BX := hide ((unhide BX).below hb4)
  have BXz := (unhide BX).1
  have BXc0 := (unhide BX).2.1 0 _ rfl
  have BXc1 := (unhide BX).2.1 1 _ rfl
  have BXc2 := (unhide BX).2.1 2 _ rfl
  have BXc3 := (unhide BX).2.1 3 _ rfl
  (try clear BZz BZc0 BZc1 BZc2 BZc3)
  replace BZ := hide ((unhide BZ).below hb4)
  have BZz := (unhide BZ).1
  have BZc0 := (unhide BZ).2.1 0 _ rfl
  have BZc1 := (unhide BZ).2.1 1 _ rfl
  have BZc2 := (unhide BZ).2.1 2 _ rfl
  have BZc3 := (unhide BZ).2.1 3 _ rfl
  replace HOW := hide ((unhide HOW).below hb4)
  replace HK := hide ((unhide HK).trans (hb4.mono (unhide HK).size))
  have HX := hide hx
  have HXL : Hid (∀ g ∈ ablk x1 ++ ablk x2, w3.heap.size ≤ g ∧ g < w4.heap.size) := fun g hg => by
    rcases List.mem_append.1 hg with h | h
    · exact hx.1.lt g h
    · exact hx.2.1.lt g h
  obtain ⟨xa1, xc1, hz1⟩ := hx.1.slice
  subst hz1
  obtain ⟨xa2, xc2, hz1⟩ := hx.2.1.slice
  subst hz1
  have HZ4 : Hid (w3.heap.size ≤ w4.heap.size) := hb4.size
  clear hx hb4
  go_wp2_with fail
  refine (HTQ _ _ _ ((unhide HT).below (by go_grown))).mono ?_
  rintro e w5 ⟨y1, y2, rfl, hy, hx5⟩
  have hb5 : Below w4.heap.size w4 w5 := Below.trans (by go_grown) (hx5.mono (by go_size))
  replace HS := hide ((unhide HS).below hb5)
  replace HT := hide ((unhide HT).below hb5)
  (try clear BXz BXc0 BXc1 BXc2 BXc3)
  replace BX := hide ((unhide BX).below hb5)
  have BXz := (unhide BX).1
  have BXc0 := (unhide BX).2.1 0 _ rfl
  have BXc1 := (unhide BX).2.1 1 _ rfl
  have BXc2 := (unhide BX).2.1 2 _ rfl
  have BXc3 := (unhide BX).2.1 3 _ rfl
  (try clear BZz BZc0 BZc1 BZc2 BZc3)
  replace BZ := hide ((unhide BZ).below hb5)
  have BZz := (unhide BZ).1
  have BZc0 := (unhide BZ).2.1 0 _ rfl
  have BZc1 := (unhide BZ).2.1 1 _ rfl
  have BZc2 := (unhide BZ).2.1 2 _ rfl
  have BZc3 := (unhide BZ).2.1 3 _ rfl
  replace HOW := hide ((unhide HOW).below hb5)
  replace HX := hide ((unhide HX).below hb5)
  replace HK := hide ((unhide HK).trans (hb5.mono (unhide HK).size))
  have qBY := boxOf1 hx5
  have BY := hide qBY
  clear qBY
  have BYz := (unhide BY).1
  have BYc0 := (unhide BY).2.1 0 _ rfl
  have BYc1 := (unhide BY).2.1 1 _ rfl
  have BYc2 := (unhide BY).2.1 2 _ rfl
  have BYc3 := (unhide BY).2.1 3 _ rfl
  have HY := hide hy
  have HYL : Hid (∀ g ∈ ablk y1 ++ ablk y2, w4.heap.size < g ∧ g < w5.heap.size) := fun g hg => by
    rcases List.mem_append.1 hg with h | h
    · have := hy.1.lt g h; simp at this; omega
    · have := hy.2.1.lt g h; simp at this; omega
  obtain ⟨ya1, yc1, hz1⟩ := hy.1.slice
  subst hz1
  obtain ⟨ya2, yc2, hz1⟩ := hy.2.1.slice
  subst hz1
  have HZ5 : Hid (w4.heap.size ≤ w5.heap.size) := hb5.size
  clear hy hx4 hb5
  go_wp2_with fail
  refine (HIM _ _ _ _ _ ((unhide HX).at.below (by go_grown)) ((unhide HY).at.below (by go_grown))).mono ?_
  rintro e w6 ⟨og, rfl, hog, hx6⟩
  have hb6 : Below w5.heap.size w5 w6 := Below.trans (by go_grown) (hx6.mono (by go_size))
  replace HS := hide ((unhide HS).below hb6)
  replace HT := hide ((unhide HT).below hb6)
  (try clear BXz BXc0 BXc1 BXc2 BXc3)
  replace BX := hide ((unhide BX).below hb6)
  have BXz := (unhide BX).1
  have BXc0 := (unhide BX).2.1 0 _ rfl
  have BXc1 := (unhide BX).2.1 1 _ rfl
  have BXc2 := (unhide BX).2.1 2 _ rfl
  have BXc3 := (unhide BX).2.1 3 _ rfl
  (try clear BZz BZc0 BZc1 BZc2 BZc3)
  replace BZ := hide ((unhide BZ).below hb6)
  have BZz := (unhide BZ).1
  have BZc0 := (unhide BZ).2.1 0 _ rfl
  have BZc1 := (unhide BZ).2.1 1 _ rfl
  have BZc2 := (unhide BZ).2.1 2 _ rfl
  have BZc3 := (unhide BZ).2.1 3 _ rfl
  replace HOW := hide ((unhide HOW).below hb6)
  replace HX := hide ((unhide HX).below hb6)
  (try clear BYz BYc0 BYc1 BYc2 BYc3)
  replace BY := hide ((unhide BY).below hb6)
  have BYz := (unhide BY).1
  have BYc0 := (unhide BY).2.1 0 _ rfl
  have BYc1 := (unhide BY).2.1 1 _ rfl
  have BYc2 := (unhide BY).2.1 2 _ rfl
  have BYc3 := (unhide BY).2.1 3 _ rfl
  replace HY := hide ((unhide HY).below hb6)
  replace HK := hide ((unhide HK).trans (hb6.mono (unhide HK).size))
  have qBV := boxOf1 hx6
  have BV := hide qBV
  clear qBV
  have BVz := (unhide BV).1
  have BVc0 := (unhide BV).2.1 0 _ rfl
  have BVc1 := (unhide BV).2.1 1 _ rfl
  have BVc2 := (unhide BV).2.1 2 _ rfl
  have BVc3 := (unhide BV).2.1 3 _ rfl
  have HOG := hide hog
  have HGL : Hid (∀ g ∈ ablk og, w5.heap.size < g) := fun g hg => by have h7 := (hog.lt g hg).1; simp at h7; omega
  obtain ⟨ga, gc, hz1⟩ := hog.slice
  subst hz1
  clear hog hx5 hb6
  go_wp2_with fail
  refine (HEI _ _ _ (unhide HOG).ints (unhide HOW).ints).mono ?_
  rintro e w7 ⟨rfl, hx7⟩
  have hb7 : Below w6.heap.size w6 w7 := Below.trans (by go_grown) (hx7.mono (by go_size))
  replace HS := hide ((unhide HS).below hb7)
  replace HT := hide ((unhide HT).below hb7)
  (try clear BXz BXc0 BXc1 BXc2 BXc3)
  replace BX := hide ((unhide BX).below hb7)
  have BXz := (unhide BX).1
  have BXc0 := (unhide BX).2.1 0 _ rfl
  have BXc1 := (unhide BX).2.1 1 _ rfl
  have BXc2 := (unhide BX).2.1 2 _ rfl
  have BXc3 := (unhide BX).2.1 3 _ rfl
  (try clear BZz BZc0 BZc1 BZc2 BZc3)
  replace BZ := hide ((unhide BZ).below hb7)
  have BZz := (unhide BZ).1
  have BZc0 := (unhide BZ).2.1 0 _ rfl
  have BZc1 := (unhide BZ).2.1 1 _ rfl
  have BZc2 := (unhide BZ).2.1 2 _ rfl
  have BZc3 := (unhide BZ).2.1 3 _ rfl
  replace HOW := hide ((unhide HOW).below hb7)
  replace HX := hide ((unhide HX).below hb7)
  (try clear BYz BYc0 BYc1 BYc2 BYc3)
  replace BY := hide ((unhide BY).below hb7)
  have BYz := (unhide BY).1
  have BYc0 := (unhide BY).2.1 0 _ rfl
  have BYc1 := (unhide BY).2.1 1 _ rfl
  have BYc2 := (unhide BY).2.1 2 _ rfl
  have BYc3 := (unhide BY).2.1 3 _ rfl
  replace HY := hide ((unhide HY).below hb7)
  (try clear BVz BVc0 BVc1 BVc2 BVc3)
  replace BV := hide ((unhide BV).below hb7)
  have BVz := (unhide BV).1
  have BVc0 := (unhide BV).2.1 0 _ rfl
  have BVc1 := (unhide BV).2.1 1 _ rfl
  have BVc2 := (unhide BV).2.1 2 _ rfl
  have BVc3 := (unhide BV).2.1 3 _ rfl
  replace HOG := hide ((unhide HOG).below hb7)
  replace HK := hide ((unhide HK).trans (hb7.mono (unhide HK).size))
  clear hx6 hb7
  go_upto_region 14 with fail
  have HSK : Hid (∀ W, Below w7.heap.size w7 W → (fun w' : World => (w'.cell? ⟨w4.heap.size, 0, none⟩ = some (.int .i64 M) ∧ w'.cell? ⟨w4.heap.size, 1, none⟩ = some (.int .i64 L) ∧ w'.cell? ⟨w4.heap.size, 2, none⟩ = some (.slice xa1 p.lows.length xc1) ∧ w'.cell? ⟨w4.heap.size, 3, none⟩ = some (.slice xa2 p.high.length xc2)) ∧ w'.cell? ⟨w.heap.size, 0, none⟩ = some (.int .i64 M) ∧ w'.cell? ⟨w.heap.size, 1, none⟩ = some (.int .i64 L) ∧ w'.cell? ⟨w.heap.size, 2, none⟩ = some (.slice la p.lows.length lc) ∧ w'.cell? ⟨w.heap.size, 3, none⟩ = some (.slice ha p.high.length hc)) W) := fun W hW => ⟨⟨(hW.cell (p := ⟨w4.heap.size, 0, none⟩) BYz).trans BYc0, (hW.cell (p := ⟨w4.heap.size, 1, none⟩) BYz).trans BYc1, (hW.cell (p := ⟨w4.heap.size, 2, none⟩) BYz).trans BYc2, (hW.cell (p := ⟨w4.heap.size, 3, none⟩) BYz).trans BYc3⟩, (hW.cell (p := ⟨w.heap.size, 0, none⟩) BXz).trans BXc0, (hW.cell (p := ⟨w.heap.size, 1, none⟩) BXz).trans BXc1, (hW.cell (p := ⟨w.heap.size, 2, none⟩) BXz).trans BXc2, (hW.cell (p := ⟨w.heap.size, 3, none⟩) BXz).trans BXc3⟩
  have kd : Below w7.heap.size w7 w7.drew := Below.drew (Below.refl _ _)
  have hHeld := HSK.out w7.drew kd
  refine wp_region_heldL (n := 5) (S := fun w' : World => (w'.cell? ⟨w4.heap.size, 0, none⟩ = some (.int .i64 M) ∧ w'.cell? ⟨w4.heap.size, 1, none⟩ = some (.int .i64 L) ∧ w'.cell? ⟨w4.heap.size, 2, none⟩ = some (.slice xa1 p.lows.length xc1) ∧ w'.cell? ⟨w4.heap.size, 3, none⟩ = some (.slice xa2 p.high.length xc2)) ∧ w'.cell? ⟨w.heap.size, 0, none⟩ = some (.int .i64 M) ∧ w'.cell? ⟨w.heap.size, 1, none⟩ = some (.int .i64 L) ∧ w'.cell? ⟨w.heap.size, 2, none⟩ = some (.slice la p.lows.length lc) ∧ w'.cell? ⟨w.heap.size, 3, none⟩ = some (.slice ha p.high.length hc)) (by kernel_rfl) rfl ?_
  refine takeL (i := 0) (v := ?_) rfl (by kernel_rfl) (by kernel_rfl) (by kernel_rfl) (fun _ _ _ h => h) rfl ?_ (by assumption) ?_
  rotate_left
  · intro w hSw; (try dsimp only at hSw); go_simp; (try with_reducible rfl)
  (try simp only [Act.put, List.setIfInBounds_toArray, List.set_cons_zero, List.set_cons_succ])
  refine takeL (i := 1) (v := ?_) rfl (by kernel_rfl) (by kernel_rfl) (by kernel_rfl) (fun _ _ _ h => h) rfl ?_ (by assumption) ?_
  rotate_left
  · intro w hSw; (try dsimp only at hSw); go_simp; (try with_reducible rfl)
  (try simp only [Act.put, List.setIfInBounds_toArray, List.set_cons_zero, List.set_cons_succ])
  refine comesL (i := 2) rfl rfl (by kernel_rfl) (fun K hK => ?_)
  go_simp
  refine (HTO _ _ _ ((unhide HS).below kd)).mono ?_
  rintro e wc ⟨q1, q2, rfl, hq, hxq⟩
  have kc : Below w7.heap.size w7 wc := kd.trans (hxq.mono (by simp))
  have HYq := hide hq.at
  have HXq := hide ((unhide HX).at.below kc)
  obtain ⟨ra1, ra2, hz1⟩ := hq.1.slice
  subst hz1
  obtain ⟨ra3, ra4, hz1⟩ := hq.2.1.slice
  subst hz1
  clear hxq hq
  (try dsimp only)
  refine hK.out _ _ (HSK.out wc kc) (fun hH2 => ?_)
  clear hK K
  replace hHeld := hH2
  clear hH2
  (try simp only [Act.put, List.setIfInBounds_toArray, List.set_cons_zero, List.set_cons_succ])
  refine comesL (i := 3) rfl rfl (by kernel_rfl) (fun K hK => ?_)
  go_simp
  refine (HEQ _ _ _ _ _ (unhide HXq) (unhide HYq)).mono ?_
  rintro e w8 ⟨rfl, hxr⟩
  have k8 : Below w7.heap.size w7 w8 := kc.trans (hxr.mono kc.size)
  clear hxr HYq HXq
  (try dsimp only)
  refine hK.out _ _ (HSK.out w8 k8) (fun hH2 => ?_)
  clear hK K
  replace hHeld := hH2
  clear hH2
  (try simp only [Act.put, List.setIfInBounds_toArray, List.set_cons_zero, List.set_cons_succ])
  refine takeL (i := 4) (v := ?_) rfl (by kernel_rfl) (by kernel_rfl) (by kernel_rfl) (fun _ _ _ h => h) rfl ?_ (by assumption) ?_
  rotate_left
  · intro w hSw; (try dsimp only at hSw); go_simp; (try with_reducible rfl)
  (try simp only [Act.put, List.setIfInBounds_toArray, List.set_cons_zero, List.set_cons_succ])
  refine wpAnyH_done (by kernel_rfl) ?_ _
  clear hHeld kd HSK
  replace HS := hide ((unhide HS).below k8)
  replace HT := hide ((unhide HT).below k8)
  replace BX := hide ((unhide BX).below k8)
  replace BZ := hide ((unhide BZ).below k8)
  replace HOW := hide ((unhide HOW).below k8)
  replace HX := hide ((unhide HX).below k8)
  replace BY := hide ((unhide BY).below k8)
  replace HY := hide ((unhide HY).below k8)
  replace BV := hide ((unhide BV).below k8)
  replace HOG := hide ((unhide HOG).below k8)
  replace HK := hide ((unhide HK).trans (k8.mono (unhide HK).size))
  clear BXz BXc0 BXc1 BXc2 BXc3 BZz BZc0 BZc1 BZc2 BZc3 BYz BYc0 BYc1 BYc2 BYc3 BVz BVc0 BVc1 BVc2 BVc3
  have BXz := (unhide BX).1
  have BXc0 := (unhide BX).2.1 0 _ rfl
  have BXc1 := (unhide BX).2.1 1 _ rfl
  have BXc2 := (unhide BX).2.1 2 _ rfl
  have BXc3 := (unhide BX).2.1 3 _ rfl
  have BZz := (unhide BZ).1
  have BZc0 := (unhide BZ).2.1 0 _ rfl
  have BZc1 := (unhide BZ).2.1 1 _ rfl
  have BZc2 := (unhide BZ).2.1 2 _ rfl
  have BZc3 := (unhide BZ).2.1 3 _ rfl
  have BYz := (unhide BY).1
  have BYc0 := (unhide BY).2.1 0 _ rfl
  have BYc1 := (unhide BY).2.1 1 _ rfl
  have BYc2 := (unhide BY).2.1 2 _ rfl
  have BYc3 := (unhide BY).2.1 3 _ rfl
  have BVz := (unhide BV).1
  have BVc0 := (unhide BV).2.1 0 _ rfl
  have BVc1 := (unhide BV).2.1 1 _ rfl
  have BVc2 := (unhide BV).2.1 2 _ rfl
  have BVc3 := (unhide BV).2.1 3 _ rfl
  clear k8 kc
  go_upto_region 16 with fail
  have HSK : Hid (∀ W, Below w8.heap.size w8 W → (fun w' : World => (w'.cell? ⟨w5.heap.size, 0, none⟩ = some (.int .i64 M2) ∧ w'.cell? ⟨w5.heap.size, 1, none⟩ = some (.int .i64 L2) ∧ w'.cell? ⟨w5.heap.size, 2, none⟩ = some (.slice ya1 q.lows.length yc1) ∧ w'.cell? ⟨w5.heap.size, 3, none⟩ = some (.slice ya2 q.high.length yc2)) ∧ w'.cell? ⟨(w.heap.size + 1), 0, none⟩ = some (.int .i64 M2) ∧ w'.cell? ⟨(w.heap.size + 1), 1, none⟩ = some (.int .i64 L2) ∧ w'.cell? ⟨(w.heap.size + 1), 2, none⟩ = some (.slice lb q.lows.length ld) ∧ w'.cell? ⟨(w.heap.size + 1), 3, none⟩ = some (.slice hb q.high.length hd)) W) := fun W hW => ⟨⟨(hW.cell (p := ⟨w5.heap.size, 0, none⟩) BVz).trans BVc0, (hW.cell (p := ⟨w5.heap.size, 1, none⟩) BVz).trans BVc1, (hW.cell (p := ⟨w5.heap.size, 2, none⟩) BVz).trans BVc2, (hW.cell (p := ⟨w5.heap.size, 3, none⟩) BVz).trans BVc3⟩, (hW.cell (p := ⟨w.heap.size + 1, 0, none⟩) BZz).trans BZc0, (hW.cell (p := ⟨w.heap.size + 1, 1, none⟩) BZz).trans BZc1, (hW.cell (p := ⟨w.heap.size + 1, 2, none⟩) BZz).trans BZc2, (hW.cell (p := ⟨w.heap.size + 1, 3, none⟩) BZz).trans BZc3⟩
  have kd : Below w8.heap.size w8 w8.drew := Below.drew (Below.refl _ _)
  have hHeld := HSK.out w8.drew kd
  refine wp_region_heldL (n := 5) (S := fun w' : World => (w'.cell? ⟨w5.heap.size, 0, none⟩ = some (.int .i64 M2) ∧ w'.cell? ⟨w5.heap.size, 1, none⟩ = some (.int .i64 L2) ∧ w'.cell? ⟨w5.heap.size, 2, none⟩ = some (.slice ya1 q.lows.length yc1) ∧ w'.cell? ⟨w5.heap.size, 3, none⟩ = some (.slice ya2 q.high.length yc2)) ∧ w'.cell? ⟨(w.heap.size + 1), 0, none⟩ = some (.int .i64 M2) ∧ w'.cell? ⟨(w.heap.size + 1), 1, none⟩ = some (.int .i64 L2) ∧ w'.cell? ⟨(w.heap.size + 1), 2, none⟩ = some (.slice lb q.lows.length ld) ∧ w'.cell? ⟨(w.heap.size + 1), 3, none⟩ = some (.slice hb q.high.length hd)) (by kernel_rfl) rfl ?_
  refine takeL (i := 0) (v := ?_) rfl (by kernel_rfl) (by kernel_rfl) (by kernel_rfl) (fun _ _ _ h => h) rfl ?_ (by assumption) ?_
  rotate_left
  · intro w hSw; (try dsimp only at hSw); go_simp; (try with_reducible rfl)
  (try simp only [Act.put, List.setIfInBounds_toArray, List.set_cons_zero, List.set_cons_succ])
  refine takeL (i := 1) (v := ?_) rfl (by kernel_rfl) (by kernel_rfl) (by kernel_rfl) (fun _ _ _ h => h) rfl ?_ (by assumption) ?_
  rotate_left
  · intro w hSw; (try dsimp only at hSw); go_simp; (try with_reducible rfl)
  (try simp only [Act.put, List.setIfInBounds_toArray, List.set_cons_zero, List.set_cons_succ])
  refine comesL (i := 2) rfl rfl (by kernel_rfl) (fun K hK => ?_)
  go_simp
  refine (HTQ _ _ _ ((unhide HT).below kd)).mono ?_
  rintro e wd ⟨q1, q2, rfl, hq, hxq⟩
  have kdd : Below w8.heap.size w8 wd := kd.trans (hxq.mono (by simp))
  have HYq := hide hq.at
  have HXq := hide ((unhide HY).at.below kdd)
  obtain ⟨rb1, rb2, hz1⟩ := hq.1.slice
  subst hz1
  obtain ⟨rb3, rb4, hz1⟩ := hq.2.1.slice
  subst hz1
  clear hxq hq
  (try dsimp only)
  refine hK.out _ _ (HSK.out wd kdd) (fun hH2 => ?_)
  clear hK K
  replace hHeld := hH2
  clear hH2
  (try simp only [Act.put, List.setIfInBounds_toArray, List.set_cons_zero, List.set_cons_succ])
  refine comesL (i := 3) rfl rfl (by kernel_rfl) (fun K hK => ?_)
  go_simp
  refine (HEW _ _ _ _ _ (unhide HXq) (unhide HYq)).mono ?_
  rintro e w9 ⟨rfl, hxr⟩
  have k9 : Below w8.heap.size w8 w9 := kdd.trans (hxr.mono kdd.size)
  clear hxr HYq HXq
  (try dsimp only)
  refine hK.out _ _ (HSK.out w9 k9) (fun hH2 => ?_)
  clear hK K
  replace hHeld := hH2
  clear hH2
  (try simp only [Act.put, List.setIfInBounds_toArray, List.set_cons_zero, List.set_cons_succ])
  refine takeL (i := 4) (v := ?_) rfl (by kernel_rfl) (by kernel_rfl) (by kernel_rfl) (fun _ _ _ h => h) rfl ?_ (by assumption) ?_
  rotate_left
  · intro w hSw; (try dsimp only at hSw); go_simp; (try with_reducible rfl)
  (try simp only [Act.put, List.setIfInBounds_toArray, List.set_cons_zero, List.set_cons_succ])
  refine wpAnyH_done (by kernel_rfl) ?_ _
  clear hHeld kd HSK
  replace HS := hide ((unhide HS).below k9)
  replace HT := hide ((unhide HT).below k9)
  replace BX := hide ((unhide BX).below k9)
  replace BZ := hide ((unhide BZ).below k9)
  replace HOW := hide ((unhide HOW).below k9)
  replace HX := hide ((unhide HX).below k9)
  replace BY := hide ((unhide BY).below k9)
  replace HY := hide ((unhide HY).below k9)
  replace BV := hide ((unhide BV).below k9)
  replace HOG := hide ((unhide HOG).below k9)
  replace HK := hide ((unhide HK).trans (k9.mono (unhide HK).size))
  clear BXz BXc0 BXc1 BXc2 BXc3 BZz BZc0 BZc1 BZc2 BZc3 BYz BYc0 BYc1 BYc2 BYc3 BVz BVc0 BVc1 BVc2 BVc3
  have BXz := (unhide BX).1
  have BXc0 := (unhide BX).2.1 0 _ rfl
  have BXc1 := (unhide BX).2.1 1 _ rfl
  have BXc2 := (unhide BX).2.1 2 _ rfl
  have BXc3 := (unhide BX).2.1 3 _ rfl
  have BZz := (unhide BZ).1
  have BZc0 := (unhide BZ).2.1 0 _ rfl
  have BZc1 := (unhide BZ).2.1 1 _ rfl
  have BZc2 := (unhide BZ).2.1 2 _ rfl
  have BZc3 := (unhide BZ).2.1 3 _ rfl
  have BYz := (unhide BY).1
  have BYc0 := (unhide BY).2.1 0 _ rfl
  have BYc1 := (unhide BY).2.1 1 _ rfl
  have BYc2 := (unhide BY).2.1 2 _ rfl
  have BYc3 := (unhide BY).2.1 3 _ rfl
  have BVz := (unhide BV).1
  have BVc0 := (unhide BV).2.1 0 _ rfl
  have BVc1 := (unhide BV).2.1 1 _ rfl
  have BVc2 := (unhide BV).2.1 2 _ rfl
  have BVc3 := (unhide BV).2.1 3 _ rfl
  clear k9 kdd
  go_wp2_with fail
  refine (HMP _ _ _ _ _ _ (unhide HX)).mono ?_
  rintro e w10 ⟨rfl, hmx, ho10⟩
  have hz3 := HZ3.out
  have hz4 := HZ4.out
  have hz5 := HZ5.out
  have k10 : Below w.heap.size w9 w10 := ho10.below (unhide HK).size (fun g hg => by have := (HXL.out g hg).1; omega)
  replace HOW := hide ((unhide HOW).off ho10 (fun g hg hm => by have h1 := HWL.out g hg; have h2 := (HXL.out g hm).1; omega))
  replace HOG := hide ((unhide HOG).off ho10 (fun g hg hm => by have h1 := HGL.out g hg; have h2 := (HXL.out g hm).2; omega))
  replace HY := hide ((unhide HY).off ho10 (fun g hg hm => by have h1 := (HYL.out g hg).1; have h2 := (HXL.out g hm).2; omega))
  replace BX := hide ((unhide BX).offI ho10 (fun hm => by have h1 := (HXL.out _ hm).1; omega))
  replace BZ := hide ((unhide BZ).offI ho10 (fun hm => by have h1 := (HXL.out _ hm).1; omega))
  replace BV := hide ((unhide BV).offI ho10 (fun hm => by have h1 := (HXL.out _ hm).2; omega))
  replace HK := hide ((unhide HK).trans k10)
  clear hmx k10 ho10 HX HS HT BYz BYc0 BYc1 BYc2 BYc3 BY
  clear BXz BXc0 BXc1 BXc2 BXc3 BZz BZc0 BZc1 BZc2 BZc3 BVz BVc0 BVc1 BVc2 BVc3
  have BXz := (unhide BX).1
  have BXc0 := (unhide BX).2.1 0 _ rfl
  have BXc1 := (unhide BX).2.1 1 _ rfl
  have BXc2 := (unhide BX).2.1 2 _ rfl
  have BXc3 := (unhide BX).2.1 3 _ rfl
  have BZz := (unhide BZ).1
  have BZc0 := (unhide BZ).2.1 0 _ rfl
  have BZc1 := (unhide BZ).2.1 1 _ rfl
  have BZc2 := (unhide BZ).2.1 2 _ rfl
  have BZc3 := (unhide BZ).2.1 3 _ rfl
  have BVz := (unhide BV).1
  have BVc0 := (unhide BV).2.1 0 _ rfl
  have BVc1 := (unhide BV).2.1 1 _ rfl
  have BVc2 := (unhide BV).2.1 2 _ rfl
  have BVc3 := (unhide BV).2.1 3 _ rfl
  go_wp2_with fail
  refine (HMQ _ _ _ _ _ _ (unhide HY)).mono ?_
  rintro e w11 ⟨rfl, hmx, ho11⟩
  have k11 : Below w.heap.size w10 w11 := ho11.below (unhide HK).size (fun g hg => by have := (HYL.out g hg).1; omega)
  replace HOW := hide ((unhide HOW).off ho11 (fun g hg hm => by have h1 := HWL.out g hg; have h2 := (HYL.out g hm).1; omega))
  replace HOG := hide ((unhide HOG).off ho11 (fun g hg hm => by have h1 := HGL.out g hg; have h2 := (HYL.out g hm).2; omega))
  replace BX := hide ((unhide BX).offI ho11 (fun hm => by have h1 := (HYL.out _ hm).1; omega))
  replace BZ := hide ((unhide BZ).offI ho11 (fun hm => by have h1 := (HYL.out _ hm).1; omega))
  replace HK := hide ((unhide HK).trans k11)
  have HS := hide ((unhide HS0).below (unhide HK))
  have HT := hide ((unhide HT0).below (unhide HK))
  clear hmx k11 ho11 HY BVz BVc0 BVc1 BVc2 BVc3 BV
  clear BXz BXc0 BXc1 BXc2 BXc3 BZz BZc0 BZc1 BZc2 BZc3
  have BXz := (unhide BX).1
  have BXc0 := (unhide BX).2.1 0 _ rfl
  have BXc1 := (unhide BX).2.1 1 _ rfl
  have BXc2 := (unhide BX).2.1 2 _ rfl
  have BXc3 := (unhide BX).2.1 3 _ rfl
  have BZz := (unhide BZ).1
  have BZc0 := (unhide BZ).2.1 0 _ rfl
  have BZc1 := (unhide BZ).2.1 1 _ rfl
  have BZc2 := (unhide BZ).2.1 2 _ rfl
  have BZc3 := (unhide BZ).2.1 3 _ rfl
  go_wp2_with fail
  refine (HEI _ _ _ (unhide HOG).ints (unhide HOW).ints).mono ?_
  rintro e w12 ⟨rfl, hx12⟩
  have hb12 : Below w11.heap.size w11 w12 := Below.trans (by go_grown) (hx12.mono (by go_size))
  replace HS := hide ((unhide HS).below hb12)
  replace HT := hide ((unhide HT).below hb12)
  replace HOW := hide ((unhide HOW).below hb12)
  (try clear BXz BXc0 BXc1 BXc2 BXc3)
  replace BX := hide ((unhide BX).below hb12)
  have BXz := (unhide BX).1
  have BXc0 := (unhide BX).2.1 0 _ rfl
  have BXc1 := (unhide BX).2.1 1 _ rfl
  have BXc2 := (unhide BX).2.1 2 _ rfl
  have BXc3 := (unhide BX).2.1 3 _ rfl
  (try clear BZz BZc0 BZc1 BZc2 BZc3)
  replace BZ := hide ((unhide BZ).below hb12)
  have BZz := (unhide BZ).1
  have BZc0 := (unhide BZ).2.1 0 _ rfl
  have BZc1 := (unhide BZ).2.1 1 _ rfl
  have BZc2 := (unhide BZ).2.1 2 _ rfl
  have BZc3 := (unhide BZ).2.1 3 _ rfl
  replace HOG := hide ((unhide HOG).below hb12)
  replace HK := hide ((unhide HK).trans (hb12.mono (unhide HK).size))
  go_wp2_with fail
  refine (HMG _ _ _ (unhide HOG)).mono ?_
  rintro e w13 ⟨rfl, hmg, ho13⟩
  have HMK := hide hmg
  have k13 : Below w.heap.size w12 w13 := ho13.below (unhide HK).size (fun g hg => by have := HGL.out g hg; omega)
  replace HOW := hide ((unhide HOW).off ho13 (fun g hg hm => by have h1 := HWL.out g hg; have h2 := HGL.out g hm; omega))
  replace BX := hide ((unhide BX).offI ho13 (fun hm => by have h1 := HGL.out _ hm; omega))
  replace BZ := hide ((unhide BZ).offI ho13 (fun hm => by have h1 := HGL.out _ hm; omega))
  replace HK := hide ((unhide HK).trans k13)
  replace HS := hide ((unhide HS0).below (unhide HK))
  replace HT := hide ((unhide HT0).below (unhide HK))
  clear hmg k13 ho13 HOG hx12 hb12
  clear BXz BXc0 BXc1 BXc2 BXc3 BZz BZc0 BZc1 BZc2 BZc3
  have BXz := (unhide BX).1
  have BXc0 := (unhide BX).2.1 0 _ rfl
  have BXc1 := (unhide BX).2.1 1 _ rfl
  have BXc2 := (unhide BX).2.1 2 _ rfl
  have BXc3 := (unhide BX).2.1 3 _ rfl
  have BZz := (unhide BZ).1
  have BZc0 := (unhide BZ).2.1 0 _ rfl
  have BZc1 := (unhide BZ).2.1 1 _ rfl
  have BZc2 := (unhide BZ).2.1 2 _ rfl
  have BZc3 := (unhide BZ).2.1 3 _ rfl
  go_wp2_with fail
  refine (HHG _ _ _ (unhide HMK)).mono ?_
  rintro e w14 ⟨rfl, hx14⟩
  have hb14 : Below w13.heap.size w13 w14 := Below.trans (by go_grown) (hx14.mono (by go_size))
  replace HS := hide ((unhide HS).below hb14)
  replace HT := hide ((unhide HT).below hb14)
  replace HOW := hide ((unhide HOW).below hb14)
  (try clear BXz BXc0 BXc1 BXc2 BXc3)
  replace BX := hide ((unhide BX).below hb14)
  have BXz := (unhide BX).1
  have BXc0 := (unhide BX).2.1 0 _ rfl
  have BXc1 := (unhide BX).2.1 1 _ rfl
  have BXc2 := (unhide BX).2.1 2 _ rfl
  have BXc3 := (unhide BX).2.1 3 _ rfl
  (try clear BZz BZc0 BZc1 BZc2 BZc3)
  replace BZ := hide ((unhide BZ).below hb14)
  have BZz := (unhide BZ).1
  have BZc0 := (unhide BZ).2.1 0 _ rfl
  have BZc1 := (unhide BZ).2.1 1 _ rfl
  have BZc2 := (unhide BZ).2.1 2 _ rfl
  have BZc3 := (unhide BZ).2.1 3 _ rfl
  replace HMK := hide ((unhide HMK).below hb14)
  replace HK := hide ((unhide HK).trans (hb14.mono (unhide HK).size))
  clear hx14 hb14
  go_upto_region 31 with fail
  have HSK : Hid (∀ W, Below w14.heap.size w14 W → (fun w' : World => (w'.cell? ⟨w.heap.size, 0, none⟩ = some (.int .i64 M) ∧ w'.cell? ⟨w.heap.size, 1, none⟩ = some (.int .i64 L) ∧ w'.cell? ⟨w.heap.size, 2, none⟩ = some (.slice la p.lows.length lc) ∧ w'.cell? ⟨w.heap.size, 3, none⟩ = some (.slice ha p.high.length hc)) ∧ w'.cell? ⟨(w.heap.size + 1), 0, none⟩ = some (.int .i64 M2) ∧ w'.cell? ⟨(w.heap.size + 1), 1, none⟩ = some (.int .i64 L2) ∧ w'.cell? ⟨(w.heap.size + 1), 2, none⟩ = some (.slice lb q.lows.length ld) ∧ w'.cell? ⟨(w.heap.size + 1), 3, none⟩ = some (.slice hb q.high.length hd)) W) := fun W hW => ⟨⟨(hW.cell (p := ⟨w.heap.size, 0, none⟩) BXz).trans BXc0, (hW.cell (p := ⟨w.heap.size, 1, none⟩) BXz).trans BXc1, (hW.cell (p := ⟨w.heap.size, 2, none⟩) BXz).trans BXc2, (hW.cell (p := ⟨w.heap.size, 3, none⟩) BXz).trans BXc3⟩, (hW.cell (p := ⟨w.heap.size + 1, 0, none⟩) BZz).trans BZc0, (hW.cell (p := ⟨w.heap.size + 1, 1, none⟩) BZz).trans BZc1, (hW.cell (p := ⟨w.heap.size + 1, 2, none⟩) BZz).trans BZc2, (hW.cell (p := ⟨w.heap.size + 1, 3, none⟩) BZz).trans BZc3⟩
  have kd : Below w14.heap.size w14 w14.drew := Below.drew (Below.refl _ _)
  have hHeld := HSK.out w14.drew kd
  refine wp_region_heldL (n := 10) (S := fun w' : World => (w'.cell? ⟨w.heap.size, 0, none⟩ = some (.int .i64 M) ∧ w'.cell? ⟨w.heap.size, 1, none⟩ = some (.int .i64 L) ∧ w'.cell? ⟨w.heap.size, 2, none⟩ = some (.slice la p.lows.length lc) ∧ w'.cell? ⟨w.heap.size, 3, none⟩ = some (.slice ha p.high.length hc)) ∧ w'.cell? ⟨(w.heap.size + 1), 0, none⟩ = some (.int .i64 M2) ∧ w'.cell? ⟨(w.heap.size + 1), 1, none⟩ = some (.int .i64 L2) ∧ w'.cell? ⟨(w.heap.size + 1), 2, none⟩ = some (.slice lb q.lows.length ld) ∧ w'.cell? ⟨(w.heap.size + 1), 3, none⟩ = some (.slice hb q.high.length hd)) (by kernel_rfl) rfl ?_
  refine takeL (i := 0) (v := ?_) rfl (by kernel_rfl) (by kernel_rfl) (by kernel_rfl) (fun _ _ _ h => h) rfl ?_ (by assumption) ?_
  rotate_left
  · intro w hSw; (try dsimp only at hSw); go_simp; (try with_reducible rfl)
  (try simp only [Act.put, List.setIfInBounds_toArray, List.set_cons_zero, List.set_cons_succ])
  refine takeL (i := 2) (v := ?_) rfl (by kernel_rfl) (by kernel_rfl) (by kernel_rfl) (fun _ _ _ h => h) rfl ?_ (by assumption) ?_
  rotate_left
  · intro w hSw; (try dsimp only at hSw); go_simp; (try with_reducible rfl)
  (try simp only [Act.put, List.setIfInBounds_toArray, List.set_cons_zero, List.set_cons_succ])
  refine comesL (i := 1) rfl rfl (by kernel_rfl) (fun K hK => ?_)
  go_simp
  refine (HTO _ _ _ ((unhide HS).below kd)).mono ?_
  rintro e we ⟨u1, u2, rfl, hya, hxa⟩
  have ke : Below w14.heap.size w14 we := kd.trans (hxa.mono (by simp))
  have HYa := hide hya.at
  obtain ⟨ub1, ud1, hz1⟩ := hya.1.slice
  subst hz1
  obtain ⟨ub2, ud2, hz1⟩ := hya.2.1.slice
  subst hz1
  clear hxa hya
  (try dsimp only)
  refine hK.out _ _ (HSK.out we ke) (fun hH2 => ?_)
  clear hK K
  replace hHeld := hH2
  clear hH2
  (try simp only [Act.put, List.setIfInBounds_toArray, List.set_cons_zero, List.set_cons_succ])
  refine comesL (i := 3) rfl rfl (by kernel_rfl) (fun K hK => ?_)
  go_simp
  refine (HTQ _ _ _ ((unhide HT).below ke)).mono ?_
  rintro e wf ⟨v1, v2, rfl, hyb, hxb⟩
  have kf : Below w14.heap.size w14 wf := ke.trans (hxb.mono ke.size)
  have HYa2 := hide ((unhide HYa).below hxb)
  have HYb := hide hyb.at
  obtain ⟨vb1, vd1, hz1⟩ := hyb.1.slice
  subst hz1
  obtain ⟨vb2, vd2, hz1⟩ := hyb.2.1.slice
  subst hz1
  clear hxb hyb
  (try dsimp only)
  refine hK.out _ _ (HSK.out wf kf) (fun hH2 => ?_)
  clear hK K
  replace hHeld := hH2
  clear hH2
  (try simp only [Act.put, List.setIfInBounds_toArray, List.set_cons_zero, List.set_cons_succ])
  refine comesL (i := 4) rfl rfl (by kernel_rfl) (fun K hK => ?_)
  go_simp
  refine (HIM _ _ _ _ _ (unhide HYa2) (unhide HYb)).mono ?_
  rintro e w15 ⟨oh, rfl, hoh, hx3⟩
  have k15 : Below w14.heap.size w14 w15 := kf.trans (hx3.mono kf.size)
  have HOH := hide hoh
  obtain ⟨ea, ec, hz1⟩ := hoh.slice
  subst hz1
  clear hx3 hoh HYa HYa2 HYb
  (try dsimp only)
  refine hK.out _ _ (HSK.out w15 k15) (fun hH2 => ?_)
  clear hK K
  replace hHeld := hH2
  clear hH2
  (try simp only [Act.put, List.setIfInBounds_toArray, List.set_cons_zero, List.set_cons_succ])
  refine takeL (i := 5) (v := ?_) rfl (by kernel_rfl) (by kernel_rfl) (by kernel_rfl) (fun _ _ _ h => h) rfl ?_ (by assumption) ?_
  rotate_left
  · intro w hSw; (try dsimp only at hSw); go_simp; (try with_reducible rfl)
  (try simp only [Act.put, List.setIfInBounds_toArray, List.set_cons_zero, List.set_cons_succ])
  refine takeL (i := 6) (v := ?_) rfl (by kernel_rfl) (by kernel_rfl) (by kernel_rfl) (fun _ _ _ h => h) rfl ?_ (by assumption) ?_
  rotate_left
  · intro w hSw; (try dsimp only at hSw); go_simp; (try with_reducible rfl)
  (try simp only [Act.put, List.setIfInBounds_toArray, List.set_cons_zero, List.set_cons_succ])
  refine takeL (i := 7) (v := ?_) rfl (by kernel_rfl) (by kernel_rfl) (by kernel_rfl) (fun _ _ _ h => h) rfl ?_ (by assumption) ?_
  rotate_left
  · intro w hSw; (try dsimp only at hSw); go_simp; (try with_reducible rfl)
  (try simp only [Act.put, List.setIfInBounds_toArray, List.set_cons_zero, List.set_cons_succ])
  refine takeL (i := 8) (v := ?_) rfl (by kernel_rfl) (by kernel_rfl) (by kernel_rfl) (fun _ _ _ h => h) rfl ?_ (by assumption) ?_
  rotate_left
  · intro w hSw; (try dsimp only at hSw); go_simp; (try with_reducible rfl)
  (try simp only [Act.put, List.setIfInBounds_toArray, List.set_cons_zero, List.set_cons_succ])
  refine takeL (i := 9) (v := ?_) rfl (by kernel_rfl) (by kernel_rfl) (by kernel_rfl) (fun _ _ _ h => h) rfl ?_ (by assumption) ?_
  rotate_left
  · intro w hSw; (try dsimp only at hSw); go_simp; (try with_reducible rfl)
  (try simp only [Act.put, List.setIfInBounds_toArray, List.set_cons_zero, List.set_cons_succ])
  refine wpAnyH_done (by kernel_rfl) ?_ _
  clear hHeld kd HSK
  replace HOW := hide ((unhide HOW).below k15)
  replace HMK := hide ((unhide HMK).below k15)
  replace HK := hide ((unhide HK).trans (k15.mono (unhide HK).size))
  clear k15 ke kf HS HT BX BZ BXz BXc0 BXc1 BXc2 BXc3 BZz BZc0 BZc1 BZc2 BZc3
  go_wp2_with fail
  refine (HEI _ _ _ (unhide HOH).ints (unhide HOW).ints).mono ?_
  rintro e w16 ⟨rfl, hx16⟩
  have hb16 : Below w15.heap.size w15 w16 := Below.trans (by go_grown) (hx16.mono (by go_size))
  replace HOW := hide ((unhide HOW).below hb16)
  replace HMK := hide ((unhide HMK).below hb16)
  replace HK := hide ((unhide HK).trans (hb16.mono (unhide HK).size))
  clear HOH HOW
  go_wp2_with fail
  refine (HHG _ _ _ (unhide HMK)).mono ?_
  rintro e w17 ⟨rfl, hx17⟩
  have hb17 : Below w16.heap.size w16 w17 := Below.trans (by go_grown) (hx17.mono (by go_size))
  replace HMK := hide ((unhide HMK).below hb17)
  replace HK := hide ((unhide HK).trans (hb17.mono (unhide HK).size))
  have hfin := unhide HK
  go_wp2_with fail
  go_returns
  exact ⟨rfl, hfin⟩


theorem own : ownKnob Try.prog.godebug = none := by kernel_rfl
theorem laidOut : laidOutB Try.prog = true := by kernel_rfl
theorem cellsPacked : Try.prog.cellsOf 55 = 4 := by kernel_rfl
set_option maxRecDepth 100000 in
theorem lifted (os : Os) (started : os.Started) (H : Type) (enc : TypeId × Value → H) :
    ReturnsInHanded {} Try.checked os 12 .any (Rows.fnExactMeetPackedSpec.pre6 enc Try.prog Try.f12 Rows.fnExactMeetPackedRow.domain false) (Rows.fnExactMeetPackedSpec.post enc Try.prog Try.f12 false true false false) := by
  refine returnsInHanded_of_change (C := Try.checked) own started (by kernel_rfl) Try.func12
    (ChangeSpec.witness6 (enc := enc) (C := Try.checked) false ⟨#[], #[.agg #[.int .i64 0, .int .i64 0, .slice none 0 0, .slice none 0 0], .agg #[.int .i64 0, .int .i64 0, .slice none 0 0, .slice none 0 0]], []⟩ 8 (by kernel_rfl) (by kernel_rfl) (by kernel_rfl) (by kernel_rfl)) ?_
  intro W base args ds gs before hval0 hW hcnd _
  have hval : ∀ (j : Nat) t v, Try.f12.params[j]? = some t → args[j]? = some v → Value.okWide Try.prog W .any base t v := hval0
  have hW' := hW
  obtain ⟨p, q, hA0, hV, rfl, hfz, hnd⟩ := hW
  have hA : DataW.TrodAll enc Try.prog W 0 (fun _ => true) true Try.f12.params.toList args.toList ds p := hA0
  rw [Try.params12] at hA hval
  obtain ⟨v0, vs0, d0, ds0, p0, q0, hargs, rfl, rfl, h0, r0⟩ := trodAll_cons hA
  obtain ⟨v1, vs1, d1, ds1, p1, q1, rfl, rfl, rfl, h1, r1⟩ := trodAll_cons r0
  obtain ⟨rfl, rfl, rfl⟩ := trodAll_nil r1
  obtain rfl : args = #[v0, v1] := by cases args; simp_all
  obtain ⟨rfl, rfl⟩ := trodVars_none hV
  have kk0 := h0
  have lt0 : ∀ x ∈ p0, x.block < W.heap.size := by obtain ⟨m, hm⟩ := kk0; exact DataW.trod_lt m _ _ _ hm
  obtain ⟨c00, c01, c02, c03, y00, y01, y02, y03, m0, rfl, rfl, rfl, hy00, hy01, hy02, hy03⟩ := open_agg4 Try.underlying55 (by kernel_rfl) cellsPacked (hval 0 55 v0 rfl rfl) h0
  obtain ⟨a0, e00, x00, wa0⟩ := DataW.trod_int Try.underlying3 hy00
  obtain ⟨b0, e01, x01, wb0⟩ := DataW.trod_int Try.underlying3 hy01
  simp at e00 e01
  subst e00 e01
  obtain ⟨ks0, hks0, hkl0⟩ := ints_of1 hy02
  obtain ⟨us0, hus0, hul0⟩ := bools_of1 hy03
  have hss0 : PkAt W c02 c03 ⟨a0, b0, ks0, us0⟩ := ⟨hks0, hus0⟩
  have kk1 := h1
  have lt1 : ∀ x ∈ p1, x.block < W.heap.size := by obtain ⟨m, hm⟩ := kk1; exact DataW.trod_lt m _ _ _ hm
  obtain ⟨c10, c11, c12, c13, y10, y11, y12, y13, m1, rfl, rfl, rfl, hy10, hy11, hy12, hy13⟩ := open_agg4 Try.underlying55 (by kernel_rfl) cellsPacked (hval 1 55 v1 rfl rfl) h1
  obtain ⟨a1, e10, x10, wa1⟩ := DataW.trod_int Try.underlying3 hy10
  obtain ⟨b1, e11, x11, wb1⟩ := DataW.trod_int Try.underlying3 hy11
  simp at e10 e11
  subst e10 e11
  obtain ⟨ks1, hks1, hkl1⟩ := ints_of1 hy12
  obtain ⟨us1, hus1, hul1⟩ := bools_of1 hy13
  have hss1 : PkAt W c12 c13 ⟨a1, b1, ks1, us1⟩ := ⟨hks1, hus1⟩
  clear hA0 hval0
  refine (walk ⟨a0, b0, ks0, us0⟩ c02 c03 ⟨hkl0, hul0⟩ ⟨a1, b1, ks1, us1⟩ c12 c13 ⟨hkl1, hul1⟩ W hss0 hss1).mono fun e W' ⟨he, bel⟩ => ?_
  subst he
  exact ⟨_, rfl, _, _, _, [], _, [], hW', trodAll_mk1 (shut_bool Try.underlying4 _), (trodAll_cons_mk (Below.trod laidOut (by kernel_rfl) (of_decide_eq_true (by kernel_rfl)) kk0 bel lt0) (trodAll_cons_mk (Below.trod laidOut (by kernel_rfl) (of_decide_eq_true (by kernel_rfl)) kk1 bel lt1) trodAll_mk0)), rfl, bel.frame _, fun h => by cases h⟩

theorem over : Rows.fnExactMeetPackedRow.holds Try.pinned (OpenSpec.ofChange Rows.fnExactMeetPackedSpec) :=
  OpenClaim.holds_of_wide 12 Try.f12 rfl rfl rfl rfl rfl rfl rfl ⟨rfl, rfl, rfl, rfl, rfl⟩ rfl rfl rfl rfl rfl (by kernel_rfl) Try.func12 (by kernel_rfl)
    (of_decide_eq_true (by kernel_rfl)) (by unfold Func.isWrapper; first | (rw [if_pos (by decide +kernel)]; kernel_rfl) | (rw [if_neg (by decide +kernel)]; exact ⟨rfl, rfl⟩))
    (fun os started H enc _ => lifted os started H enc)
end Go.Proofs.Ytaafdcghafbfhaa.fnExactMeetPacked
namespace Go.Proofs.Ytaafdcghafbfhaa
theorem fnExactMeetPacked_holds : Rows.FnExactMeetPackedSaid := fnExactMeetPacked.over
#print axioms fnExactMeetPacked_holds
end Go.Proofs.Ytaafdcghafbfhaa
