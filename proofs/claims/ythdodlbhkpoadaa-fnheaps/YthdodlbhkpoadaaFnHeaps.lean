/- At every two lists of bytes the function FnHeaps returns true and leaves its arguments as they were: the first of a heap is the best, whatever comes and goes. No condition. -/
import Derived.Test.YthdodlbhkpoadaaDrawHp
import Derived.Test.YthdodlbhkpoadaaSameH
import Derived.Lib.SmallJoins
namespace Go.Proofs.Ythdodlbhkpoadaa.fnHeaps
open Go.ChangeShapes Go.WideShapes Go.ChangeAt Go.RowKit Go.Joins Go.Deep
open Go.ChangeMaps (open_string shut_string)
set_option linter.unusedVariables false
attribute [local go_sem ↓] Go.wp_at_zero Go.wp_at_succ

set_option maxRecDepth 100000 in
set_option maxHeartbeats 12800000 in
theorem walk0 (v0 : Value) (n0 : Nat) (v1 : Value) (n1 : Nat) (w : World) (hc0 : CodeAt w v0 n0) (hc1 : CodeAt w v1 n1) (hn : n0 + n1 ≤ 1048576) :
    Calls Try.prog 4 #[v0, v1] w fun e w' => e = .returned (.bool true) ∧ Below w.heap.size w w' := by
  have HC0 := hide hc0
  have HC1 := hide hc1
  obtain ⟨ad0, c0, rfl⟩ : ∃ ad c, v0 = .slice ad n0 c := by
    obtain ⟨ad, c, e, _⟩ := hc0
    exact ⟨ad, c, e⟩
  obtain ⟨ad1, c1, rfl⟩ : ∃ ad c, v1 = .slice ad n1 c := by
    obtain ⟨ad, c, e, _⟩ := hc1
    exact ⟨ad, c, e⟩
  have k0 : Below w.heap.size w w := Below.refl _ _
  have hbig : ¬ (1048576 : Int) < (n0 : Int) + (n1 : Int) := by omega
  clear hc0 hc1
  go_enter Try.func4, Try.ntmps4
  go_wp2_with fail
  refine (drawPush _ n0 _ HC0.out).mono ?_
  rintro e w1 ⟨x, l, p, rfl, ⟨ho, hl1⟩, hb1⟩
  have k1 : Below w.heap.size w w1 := k0.trans (hb1.mono k0.size)
  replace HC1 := hid (HC1.out.below hb1)
  have HX := hid ho
  obtain ⟨xa, xc, rfl⟩ := ho.slice
  clear ho HC0
  clear hb1
  obtain ⟨B, hB⟩ := bool_of (PushOk l p)
  have hAl0 : (pushAns B l p).length ≤ 1048576 := by
    unfold pushAns
    split
    · rw [push_len]; omega
    · simp
  have HIP := fun x W h => implHPush x l p B hB W h (by omega)
  have HSP := fun x W h => specHPush x l p B hB W h (by omega)
  obtain ⟨A, hA⟩ : ∃ A, A = pushAns B l p := ⟨_, rfl⟩
  rw [← hA] at HIP HSP hAl0
  have HSS := fun x y W h g => sameSc x y A W h g hAl0
  have HBB := hid hB
  have HAE := hid hA
  have hbn : (B != B) = false := by cases B <;> rfl
  clear hB hA
  obtain ⟨w2, hw2⟩ : ∃ q, q = w1.alloc (.cells #[.int .i64 p.1, .int .i64 p.2] 33) := ⟨_, rfl⟩
  have hb2 : Below w1.heap.size w1 w2 := by rw [hw2]; exact al_ _ _
  have hBP : BoxAt w2 w1.heap.size [.int .i64 p.1, .int .i64 p.2] := by rw [hw2]; exact boxNew w1 _ _
  obtain ⟨bBP, eBP⟩ : ∃ b, b = w1.heap.size := ⟨_, rfl⟩
  rw [← eBP] at hBP
  have EBP := hid eBP
  have VBP := hid hw2
  clear eBP hw2
  have k2 : Below w.heap.size w w2 := k1.trans (hb2.mono k1.size)
  replace HC1 := hid (HC1.out.below hb2)
  replace HX := hid (HX.out.below hb2)
  have HBP := hid hBP
  clear hBP hb2
  go_upto_region 4 with fail
  rw [← VBP.out, ← EBP.out]
  clear VBP EBP
  have BPc0 := HBP.out.2.1 0 _ rfl
  have BPc1 := HBP.out.2.1 1 _ rfl
  have BPcl := HBP.out.1
  go_wp2_with fail
  refine (HIP _ _ HX.out.rd).mono ?_
  rintro e w3 ⟨aA1, cA1, rfl, hA1, hb3⟩
  have k3 : Below w.heap.size w w3 := k2.trans (hb3.mono k2.size)
  replace HC1 := hid (HC1.out.below hb3)
  replace HX := hid (HX.out.below hb3)
  replace HBP := hid (HBP.out.below hb3)
  have HA1 := hid hA1
  clear hA1
  clear hb3
  clear BPc0 BPc1 BPcl
  have BPc0 := HBP.out.2.1 0 _ rfl
  have BPc1 := HBP.out.2.1 1 _ rfl
  have BPcl := HBP.out.1
  go_wp2_with fail
  refine (HSP _ _ HX.out.rd).mono ?_
  rintro e w4 ⟨aA2, cA2, rfl, hA2, hb4⟩
  have k4 : Below w.heap.size w w4 := k3.trans (hb4.mono k3.size)
  replace HC1 := hid (HC1.out.below hb4)
  replace HX := hid (HX.out.below hb4)
  replace HBP := hid (HBP.out.below hb4)
  replace HA1 := hid (HA1.out.below hb4)
  have HA2 := hid hA2
  clear hA2
  clear hb4
  clear BPc0 BPc1 BPcl
  go_wp2_with fail
  refine (HSS _ _ _ HA1.out.at HA2.out.at).mono ?_
  rintro e w5 ⟨rfl, hb5⟩
  have k5 : Below w.heap.size w w5 := k4.trans (hb5.mono k4.size)
  replace HC1 := hid (HC1.out.below hb5)
  replace HX := hid (HX.out.below hb5)
  replace HBP := hid (HBP.out.below hb5)
  replace HA1 := hid (HA1.out.below hb5)
  replace HA2 := hid (HA2.out.below hb5)
  clear hb5
  clear HA2 HBP HIP HSP HSS
  cases B
  case false =>
    clear HX HA1 HBB HAE
    go_wp2_with fail
    refine (drawPop _ n1 _ HC1.out).mono ?_
    rintro e w6 ⟨x, g, rfl, ⟨ho, hl2⟩, hb6⟩
    have k6 : Below w.heap.size w w6 := k5.trans (hb6.mono k5.size)
    replace HC1 := hid (HC1.out.below hb6)
    have HG := hid ho
    obtain ⟨ga, gc, rfl⟩ := ho.slice
    clear ho HC1
    clear hb6
    obtain ⟨B2, hB2⟩ := bool_of (PopOk g)
    obtain ⟨G2, hG2⟩ := bool_of (GoodH g)
    obtain ⟨O2, hO2⟩ := bool_of (IsH g)
    have hAl2 : (popAns B2 g).length ≤ 1048576 := by
      unfold popAns
      split
      · rw [pop_len]; omega
      · simp
    have HI0 := fun x W h => implIsHeap x g G2 O2 hG2 hO2 W h (by omega)
    have HS0 := fun x W h => specIsHeap x g G2 O2 hG2 hO2 W h (by omega)
    have HIQ := fun x W h => implHPop x g B2 hB2 W h (by omega)
    have HSQ := fun x W h => specHPop x g B2 hB2 W h (by omega)
    obtain ⟨D2, hD2⟩ : ∃ D, D = (G2 && O2) := ⟨_, rfl⟩
    rw [← hD2] at HI0 HS0
    obtain ⟨Z, hZ⟩ : ∃ Z, Z = popAns B2 g := ⟨_, rfl⟩
    obtain ⟨y, hy⟩ : ∃ y, y = popOne B2 g := ⟨_, rfl⟩
    rw [← hZ, ← hy] at HIQ HSQ
    rw [← hZ] at hAl2
    have HSS2 := fun x y W h g => sameSc x y Z W h g hAl2
    have hb2 : (B2 == B2) = true := by cases B2 <;> rfl
    have hg2 : (G2 == G2) = true := by cases G2 <;> rfl
    have hd2 : (D2 == D2) = true := by cases D2 <;> rfl
    have hy1 : (y.1 == y.1) = true := by simp
    have hy2 : (y.2 == y.2) = true := by simp
    clear hB2 hG2 hO2 hD2 hZ hy
    go_wp2_with fail
    refine (HIQ _ _ HG.out.rd).mono ?_
    rintro e w7 ⟨aZ1, cZ1, rfl, hZ1, hb7⟩
    have k7 : Below w.heap.size w w7 := k6.trans (hb7.mono k6.size)
    replace HG := hid (HG.out.below hb7)
    have HZ1 := hid hZ1
    clear hZ1
    clear hb7
    obtain ⟨w8, hw8⟩ : ∃ q, q = w7.alloc (.cells #[.int .i64 y.1, .int .i64 y.2] 33) := ⟨_, rfl⟩
    have hb8 : Below w7.heap.size w7 w8 := by rw [hw8]; exact al_ _ _
    have hBY : BoxAt w8 w7.heap.size [.int .i64 y.1, .int .i64 y.2] := by rw [hw8]; exact boxNew w7 _ _
    obtain ⟨bBY, eBY⟩ : ∃ b, b = w7.heap.size := ⟨_, rfl⟩
    rw [← eBY] at hBY
    have EBY := hid eBY
    have VBY := hid hw8
    clear eBY hw8
    have k8 : Below w.heap.size w w8 := k7.trans (hb8.mono k7.size)
    replace HG := hid (HG.out.below hb8)
    replace HZ1 := hid (HZ1.out.below hb8)
    have HBY := hid hBY
    clear hBY hb8
    go_upto_region 22 with fail
    rw [← VBY.out, ← EBY.out]
    clear VBY EBY
    go_wp2_with fail
    refine (HSQ _ _ HG.out.rd).mono ?_
    rintro e w9 ⟨aZ2, cZ2, rfl, hZ2, hb9⟩
    have k9 : Below w.heap.size w w9 := k8.trans (hb9.mono k8.size)
    replace HG := hid (HG.out.below hb9)
    replace HZ1 := hid (HZ1.out.below hb9)
    replace HBY := hid (HBY.out.below hb9)
    have HZ2 := hid hZ2
    clear hZ2
    clear hb9
    obtain ⟨w10, hw10⟩ : ∃ q, q = w9.alloc (.cells #[.int .i64 y.1, .int .i64 y.2] 33) := ⟨_, rfl⟩
    have hb10 : Below w9.heap.size w9 w10 := by rw [hw10]; exact al_ _ _
    have hBZ : BoxAt w10 w9.heap.size [.int .i64 y.1, .int .i64 y.2] := by rw [hw10]; exact boxNew w9 _ _
    obtain ⟨bBZ, eBZ⟩ : ∃ b, b = w9.heap.size := ⟨_, rfl⟩
    rw [← eBZ] at hBZ
    have EBZ := hid eBZ
    have VBZ := hid hw10
    clear eBZ hw10
    have k10 : Below w.heap.size w w10 := k9.trans (hb10.mono k9.size)
    replace HG := hid (HG.out.below hb10)
    replace HZ1 := hid (HZ1.out.below hb10)
    replace HBY := hid (HBY.out.below hb10)
    replace HZ2 := hid (HZ2.out.below hb10)
    have HBZ := hid hBZ
    clear hBZ hb10
    go_upto_region 23 with fail
    rw [← VBZ.out, ← EBZ.out]
    clear VBZ EBZ
    go_wp2_with fail
    refine (HI0 _ _ HG.out.at).mono ?_
    rintro e w11 ⟨rfl, hb11⟩
    have k11 : Below w.heap.size w w11 := k10.trans (hb11.mono k10.size)
    replace HG := hid (HG.out.below hb11)
    replace HZ1 := hid (HZ1.out.below hb11)
    replace HBY := hid (HBY.out.below hb11)
    replace HZ2 := hid (HZ2.out.below hb11)
    replace HBZ := hid (HBZ.out.below hb11)
    clear hb11
    go_wp2_with fail
    refine (HS0 _ _ HG.out.at).mono ?_
    rintro e w12 ⟨rfl, hb12⟩
    have k12 : Below w.heap.size w w12 := k11.trans (hb12.mono k11.size)
    replace HG := hid (HG.out.below hb12)
    replace HZ1 := hid (HZ1.out.below hb12)
    replace HBY := hid (HBY.out.below hb12)
    replace HZ2 := hid (HZ2.out.below hb12)
    replace HBZ := hid (HBZ.out.below hb12)
    clear hb12
    clear HI0 HS0 HIQ HSQ
    have BYc0 := HBY.out.2.1 0 _ rfl
    have BYc1 := HBY.out.2.1 1 _ rfl
    have BYcl := HBY.out.1
    have BZc0 := HBZ.out.2.1 0 _ rfl
    have BZc1 := HBZ.out.2.1 1 _ rfl
    have BZcl := HBZ.out.1
    go_wp2_with fail
    refine (HSS2 _ _ _ HZ1.out.at HZ2.out.at).mono ?_
    rintro e w13 ⟨rfl, hb13⟩
    have k13 : Below w.heap.size w w13 := k12.trans (hb13.mono k12.size)
    replace HG := hid (HG.out.below hb13)
    replace HZ1 := hid (HZ1.out.below hb13)
    replace HBY := hid (HBY.out.below hb13)
    replace HZ2 := hid (HZ2.out.below hb13)
    replace HBZ := hid (HBZ.out.below hb13)
    clear hb13
    go_wp2
    go_returns
    exact ⟨rfl, k13⟩
  case true =>
    have hok := HBB.out.1 rfl
    have hae : A = pushL l p := HAE.out
    have hpo : PopOk A := by rw [hae]; exact push_popOk hok
    have hal : A.length = l.length + 1 := by rw [hae]; exact push_len l p
    have HFB := hid fun k hk => first_best hpo.2.1 k hk
    have tt : ∀ {q : Prop}, q → (true = true ↔ q) := fun h => ⟨fun _ => h, fun _ => rfl⟩
    have HI1 : ∀ x W, ScsAt W x A → Calls Try.prog 31 #[x] W fun e w' => e = .returned (.tuple #[.bool true, .bool true]) ∧ Below W.heap.size W w' := fun x W h => implIsHeap x A true true (tt hpo.1) (tt hpo.2.1) W h (by omega)
    have HQ0 := fun x W h => implHPop x A true (tt hpo) W h (by omega)
    have hql : (popL A).length = l.length := by rw [pop_len]; omega
    have HI2 : ∀ x W, ScsAt W x (popL A) → Calls Try.prog 31 #[x] W fun e w' => e = .returned (.tuple #[.bool true, .bool true]) ∧ Below W.heap.size W w' := fun x W h => implIsHeap x (popL A) true true (tt (pop_good hpo)) (tt (pop_heap hpo.2.1)) W h (by omega)
    rw [show popAns true A = popL A from rfl, show popOne true A = gd A 0 from rfl] at HQ0
    obtain ⟨Q, hQ⟩ : ∃ Q, Q = popL A := ⟨_, rfl⟩
    obtain ⟨u, hu⟩ : ∃ u, u = gd A 0 := ⟨_, rfl⟩
    rw [← hQ] at HQ0 HI2 hql
    rw [← hu] at HQ0 HFB
    have hlw : IntKind.i64.wrap ((l.length : Int) + 1) = (A.length : Int) := by rw [IntKind.wrap_i64]; omega
    have hln : ((A.length : Int) != (l.length : Int) + 1) = false := by rw [hal]; simp
    have hl0 : ((A.length : Int) != (A.length : Int)) = false := by simp
    have hqn : ((Q.length : Int) != (l.length : Int)) = false := by rw [hql]; simp
    have hA0 : 0 < A.length := by omega
    have hA1 : A.length ≤ 100 := by omega
    clear hok hae hpo hal hql hQ hu HBB HAE tt
    go_wp2_with fail
    refine (HI1 _ _ HA1.out.at).mono ?_
    rintro e w6 ⟨rfl, hb6⟩
    have k6 : Below w.heap.size w w6 := k5.trans (hb6.mono k5.size)
    replace HC1 := hid (HC1.out.below hb6)
    replace HX := hid (HX.out.below hb6)
    replace HA1 := hid (HA1.out.below hb6)
    clear hb6
    go_wp2_with fail
    refine (HQ0 _ _ HA1.out.rd).mono ?_
    rintro e w7 ⟨aQ1, cQ1, rfl, hQ1, hb7⟩
    have k7 : Below w.heap.size w w7 := k6.trans (hb7.mono k6.size)
    replace HC1 := hid (HC1.out.below hb7)
    replace HX := hid (HX.out.below hb7)
    replace HA1 := hid (HA1.out.below hb7)
    have HQ1 := hid hQ1
    clear hQ1
    clear hb7
    obtain ⟨w8, hw8⟩ : ∃ q, q = w7.alloc (.cells #[.int .i64 u.1, .int .i64 u.2] 33) := ⟨_, rfl⟩
    have hb8 : Below w7.heap.size w7 w8 := by rw [hw8]; exact al_ _ _
    have hBU : BoxAt w8 w7.heap.size [.int .i64 u.1, .int .i64 u.2] := by rw [hw8]; exact boxNew w7 _ _
    obtain ⟨bBU, eBU⟩ : ∃ b, b = w7.heap.size := ⟨_, rfl⟩
    rw [← eBU] at hBU
    have EBU := hid eBU
    have VBU := hid hw8
    clear eBU hw8
    have k8 : Below w.heap.size w w8 := k7.trans (hb8.mono k7.size)
    replace HC1 := hid (HC1.out.below hb8)
    replace HX := hid (HX.out.below hb8)
    replace HA1 := hid (HA1.out.below hb8)
    replace HQ1 := hid (HQ1.out.below hb8)
    have HBU := hid hBU
    clear hBU hb8
    go_upto_region 11 with fail
    rw [← VBU.out, ← EBU.out]
    clear VBU EBU
    go_wp2_with fail
    refine (HI2 _ _ HQ1.out.at).mono ?_
    rintro e w9 ⟨rfl, hb9⟩
    have k9 : Below w.heap.size w w9 := k8.trans (hb9.mono k8.size)
    replace HC1 := hid (HC1.out.below hb9)
    replace HX := hid (HX.out.below hb9)
    replace HA1 := hid (HA1.out.below hb9)
    replace HQ1 := hid (HQ1.out.below hb9)
    replace HBU := hid (HBU.out.below hb9)
    clear hb9
    clear HI1 HI2 HQ0
    obtain ⟨g0, gcap, hge, hg0, hg1⟩ := HA1.out.lies hA0
    cases hge
    have kr : Below w9.heap.size w9 w9 := Below.refl _ _
    go_wp2_with fail
    go_loopw [115] (fun i wr => ∃ k : Nat, k ≤ A.length ∧ i = .int .i64 (k : Int) ∧ Below w9.heap.size w9 wr) (fun i _ => A.length - (intOf i).toNat)
    case atStart => exact ⟨0, Nat.zero_le _, rfl, kr⟩
    case round =>
      obtain ⟨k, hk, rfl, kb⟩ := hrel
      clear kr
      have kl := kb.size
      by_cases hlt : k < A.length
      · have hA := HA1.out.below kb
        have z0 := hA.c0 hlt
        have z1 := hA.c1 hlt
        have hfb := HFB.out k hlt
        have hgr : g0 < wr.heap.size := by omega
        have hki : (k : Int) < (A.length : Int) := by omega
        have hk0 : (0 : Int) ≤ (k : Int) := by omega
        obtain ⟨z, hz⟩ : ∃ z, z = gd A k := ⟨_, rfl⟩
        rw [← hz] at z0 z1 hfb
        clear hA hz
        obtain ⟨W1, hW1⟩ : ∃ W1, W1 = wr.alloc (.cells #[.int .i64 z.1, .int .i64 z.2] 33) := ⟨_, rfl⟩
        have k1 : Below wr.heap.size wr W1 := by rw [hW1]; exact al_ _ _
        have hbz : BoxAt W1 wr.heap.size [.int .i64 z.1, .int .i64 z.2] := by rw [hW1]; exact boxNew wr _ _
        have hbu := (HBU.out.below kb).below k1
        obtain ⟨bz, ebz⟩ : ∃ b, b = wr.heap.size := ⟨_, rfl⟩
        rw [← ebz] at hbz
        have x0 := hbz.2.1 0 _ rfl
        have x1 := hbz.2.1 1 _ rfl
        have xl := hbz.1
        have y0 := hbu.2.1 0 _ rfl
        have y1 := hbu.2.1 1 _ rfl
        have yl := hbu.1
        have kn : Below w9.heap.size w9 W1 := kb.trans (k1.mono kl)
        have HV := hid (And.intro hW1 ebz)
        clear hbz hbu k1 hW1 ebz
        go_upto_region 17 with fail
        rw [← HV.out.1, ← HV.out.2]
        clear HV z0 z1
        by_cases h2 : z.2 = u.2
        · have e1 : ¬ u.2 < z.2 := by omega
          have e2 : (z.2 == u.2) = true := by rw [h2]; simp
          have e3 : ¬ z.1 < u.1 := fun h => hfb (.inr ⟨h2, h⟩)
          clear hfb h2
          go_wp2
          exact ⟨⟨k + 1, by omega, by go_num, by go_grown⟩, by simp [intOf]; omega⟩
        · have e1 : ¬ u.2 < z.2 := fun h => hfb (.inl h)
          have e2 : (z.2 == u.2) = false := beq_false_of_ne h2
          clear hfb h2
          go_wp2
          exact ⟨⟨k + 1, by omega, by go_num, by go_grown⟩, by simp [intOf]; omega⟩
      · have hke : ¬ (k : Int) < (A.length : Int) := by omega
        have k99 : Below w.heap.size w wr := k9.trans (kb.mono k9.size)
        replace HC1 := hid (HC1.out.below kb)
        clear HX HA1 HQ1 HBU HFB kb
        go_wp2_with fail
        refine (drawPop _ n1 _ HC1.out).mono ?_
        rintro e w100 ⟨x, g, rfl, ⟨ho, hl2⟩, hb100⟩
        have k100 : Below w.heap.size w w100 := k99.trans (hb100.mono k99.size)
        replace HC1 := hid (HC1.out.below hb100)
        have HG := hid ho
        obtain ⟨ga, gc, rfl⟩ := ho.slice
        clear ho HC1
        clear hb100
        obtain ⟨B2, hB2⟩ := bool_of (PopOk g)
        obtain ⟨G2, hG2⟩ := bool_of (GoodH g)
        obtain ⟨O2, hO2⟩ := bool_of (IsH g)
        have hAl2 : (popAns B2 g).length ≤ 1048576 := by
          unfold popAns
          split
          · rw [pop_len]; omega
          · simp
        have HI0 := fun x W h => implIsHeap x g G2 O2 hG2 hO2 W h (by omega)
        have HS0 := fun x W h => specIsHeap x g G2 O2 hG2 hO2 W h (by omega)
        have HIQ := fun x W h => implHPop x g B2 hB2 W h (by omega)
        have HSQ := fun x W h => specHPop x g B2 hB2 W h (by omega)
        obtain ⟨D2, hD2⟩ : ∃ D, D = (G2 && O2) := ⟨_, rfl⟩
        rw [← hD2] at HI0 HS0
        obtain ⟨Z, hZ⟩ : ∃ Z, Z = popAns B2 g := ⟨_, rfl⟩
        obtain ⟨y, hy⟩ : ∃ y, y = popOne B2 g := ⟨_, rfl⟩
        rw [← hZ, ← hy] at HIQ HSQ
        rw [← hZ] at hAl2
        have HSS2 := fun x y W h g => sameSc x y Z W h g hAl2
        have hb2 : (B2 == B2) = true := by cases B2 <;> rfl
        have hg2 : (G2 == G2) = true := by cases G2 <;> rfl
        have hd2 : (D2 == D2) = true := by cases D2 <;> rfl
        have hy1 : (y.1 == y.1) = true := by simp
        have hy2 : (y.2 == y.2) = true := by simp
        clear hB2 hG2 hO2 hD2 hZ hy
        go_wp2_with fail
        refine (HIQ _ _ HG.out.rd).mono ?_
        rintro e w101 ⟨aZ1, cZ1, rfl, hZ1, hb101⟩
        have k101 : Below w.heap.size w w101 := k100.trans (hb101.mono k100.size)
        replace HG := hid (HG.out.below hb101)
        have HZ1 := hid hZ1
        clear hZ1
        clear hb101
        obtain ⟨w102, hw102⟩ : ∃ q, q = w101.alloc (.cells #[.int .i64 y.1, .int .i64 y.2] 33) := ⟨_, rfl⟩
        have hb102 : Below w101.heap.size w101 w102 := by rw [hw102]; exact al_ _ _
        have hBY : BoxAt w102 w101.heap.size [.int .i64 y.1, .int .i64 y.2] := by rw [hw102]; exact boxNew w101 _ _
        obtain ⟨bBY, eBY⟩ : ∃ b, b = w101.heap.size := ⟨_, rfl⟩
        rw [← eBY] at hBY
        have EBY := hid eBY
        have VBY := hid hw102
        clear eBY hw102
        have k102 : Below w.heap.size w w102 := k101.trans (hb102.mono k101.size)
        replace HG := hid (HG.out.below hb102)
        replace HZ1 := hid (HZ1.out.below hb102)
        have HBY := hid hBY
        clear hBY hb102
        go_upto_region 22 with fail
        rw [← VBY.out, ← EBY.out]
        clear VBY EBY
        go_wp2_with fail
        refine (HSQ _ _ HG.out.rd).mono ?_
        rintro e w103 ⟨aZ2, cZ2, rfl, hZ2, hb103⟩
        have k103 : Below w.heap.size w w103 := k102.trans (hb103.mono k102.size)
        replace HG := hid (HG.out.below hb103)
        replace HZ1 := hid (HZ1.out.below hb103)
        replace HBY := hid (HBY.out.below hb103)
        have HZ2 := hid hZ2
        clear hZ2
        clear hb103
        obtain ⟨w104, hw104⟩ : ∃ q, q = w103.alloc (.cells #[.int .i64 y.1, .int .i64 y.2] 33) := ⟨_, rfl⟩
        have hb104 : Below w103.heap.size w103 w104 := by rw [hw104]; exact al_ _ _
        have hBZ : BoxAt w104 w103.heap.size [.int .i64 y.1, .int .i64 y.2] := by rw [hw104]; exact boxNew w103 _ _
        obtain ⟨bBZ, eBZ⟩ : ∃ b, b = w103.heap.size := ⟨_, rfl⟩
        rw [← eBZ] at hBZ
        have EBZ := hid eBZ
        have VBZ := hid hw104
        clear eBZ hw104
        have k104 : Below w.heap.size w w104 := k103.trans (hb104.mono k103.size)
        replace HG := hid (HG.out.below hb104)
        replace HZ1 := hid (HZ1.out.below hb104)
        replace HBY := hid (HBY.out.below hb104)
        replace HZ2 := hid (HZ2.out.below hb104)
        have HBZ := hid hBZ
        clear hBZ hb104
        go_upto_region 23 with fail
        rw [← VBZ.out, ← EBZ.out]
        clear VBZ EBZ
        go_wp2_with fail
        refine (HI0 _ _ HG.out.at).mono ?_
        rintro e w105 ⟨rfl, hb105⟩
        have k105 : Below w.heap.size w w105 := k104.trans (hb105.mono k104.size)
        replace HG := hid (HG.out.below hb105)
        replace HZ1 := hid (HZ1.out.below hb105)
        replace HBY := hid (HBY.out.below hb105)
        replace HZ2 := hid (HZ2.out.below hb105)
        replace HBZ := hid (HBZ.out.below hb105)
        clear hb105
        go_wp2_with fail
        refine (HS0 _ _ HG.out.at).mono ?_
        rintro e w106 ⟨rfl, hb106⟩
        have k106 : Below w.heap.size w w106 := k105.trans (hb106.mono k105.size)
        replace HG := hid (HG.out.below hb106)
        replace HZ1 := hid (HZ1.out.below hb106)
        replace HBY := hid (HBY.out.below hb106)
        replace HZ2 := hid (HZ2.out.below hb106)
        replace HBZ := hid (HBZ.out.below hb106)
        clear hb106
        clear HI0 HS0 HIQ HSQ
        have BYc0 := HBY.out.2.1 0 _ rfl
        have BYc1 := HBY.out.2.1 1 _ rfl
        have BYcl := HBY.out.1
        have BZc0 := HBZ.out.2.1 0 _ rfl
        have BZc1 := HBZ.out.2.1 1 _ rfl
        have BZcl := HBZ.out.1
        go_wp2_with fail
        refine (HSS2 _ _ _ HZ1.out.at HZ2.out.at).mono ?_
        rintro e w107 ⟨rfl, hb107⟩
        have k107 : Below w.heap.size w w107 := k106.trans (hb107.mono k106.size)
        replace HG := hid (HG.out.below hb107)
        replace HZ1 := hid (HZ1.out.below hb107)
        replace HBY := hid (HBY.out.below hb107)
        replace HZ2 := hid (HZ2.out.below hb107)
        replace HBZ := hid (HBZ.out.below hb107)
        clear hb107
        go_wp2
        go_returns
        exact ⟨rfl, k107⟩
set_option maxRecDepth 100000 in
theorem walk (v0 : Value) (n0 : Nat) (h0 : n0 ≤ 140737488351232) (v1 : Value) (n1 : Nat) (h1 : n1 ≤ 140737488351232) (w : World) (hb0 : ByteRow w v0 n0) (hb1 : ByteRow w v1 n1) :
    Calls Try.prog 4 #[v0, v1] w fun e w' => e = .returned (.bool true) ∧ Below w.heap.size w w' := by
  by_cases hn : n0 + n1 ≤ 1048576
  · exact walk0 v0 n0 v1 n1 w (hb0.code (by omega)) (hb1.code (by omega)) hn
  · obtain ⟨ad0, c0, rfl, _⟩ := hb0
    obtain ⟨ad1, c1, rfl, _⟩ := hb1
    have hbig : (1048576 : Int) < (n0 : Int) + (n1 : Int) := by omega
    go_enter Try.func4, Try.ntmps4
    go_wp2
    go_returns
    exact ⟨rfl, by go_grown⟩


theorem own : ownKnob Try.prog.godebug = none := by kernel_rfl
theorem laidOut : laidOutB Try.prog = true := by kernel_rfl
set_option maxRecDepth 100000 in
theorem lifted (os : Os) (started : os.Started) (H : Type) (enc : TypeId × Value → H) :
    ReturnsInHanded {} Try.checked os 4 .any (Rows.fnHeapsSpec.pre6 enc Try.prog Try.f4 Rows.fnHeapsRow.domain false) (Rows.fnHeapsSpec.post enc Try.prog Try.f4 false true false false) := by
  refine returnsInHanded_of_change_sized (C := Try.checked) own started (by kernel_rfl) Try.func4
    (ChangeSpec.witness6 (enc := enc) (C := Try.checked) false ⟨#[], #[.slice none 0 0, .slice none 0 0], []⟩ 8 (by kernel_rfl) (by kernel_rfl) (by kernel_rfl) (by kernel_rfl)) ?_
  intro W base args ds gs before hval0 hW hcnd hsz0 _
  have hsz : (DataW.weightsEach Try.prog (Try.f4.params.toList ++ (OpenSpec.ofChange Rows.fnHeapsSpec).bare.plain.varTypes Try.prog) (ds ++ gs)).all (· ≤ reachBytes) = true := hsz0
  have hval : ∀ (j : Nat) t v, Try.f4.params[j]? = some t → args[j]? = some v → Value.okWide Try.prog W .any base t v := hval0
  have hW' := hW
  obtain ⟨p, q, hA0, hV, rfl, hfz, hnd⟩ := hW
  have hA : DataW.TrodAll enc Try.prog W 0 (fun _ => true) true Try.f4.params.toList args.toList ds p := hA0
  rw [Try.params4] at hA hval
  obtain ⟨v0, vs0, d0, ds0, p0, q0, hargs, rfl, rfl, h0, r0⟩ := trodAll_cons hA
  obtain ⟨v1, vs1, d1, ds1, p1, q1, rfl, rfl, rfl, h1, r1⟩ := trodAll_cons r0
  obtain ⟨rfl, rfl, rfl⟩ := trodAll_nil r1
  obtain rfl : args = #[v0, v1] := by cases args; simp_all
  obtain ⟨rfl, rfl⟩ := trodVars_none hV
  obtain ⟨ad0, len0, cap0, rfl⟩ := okWide_slice Try.underlying22 (hval 0 22 v0 rfl rfl)
  have kk0 := h0
  have lt0 : ∀ x ∈ p0, x.block < W.heap.size := by obtain ⟨m, hm⟩ := kk0; exact DataW.trod_lt m _ _ _ hm
  obtain ⟨hbr0, hbn0⟩ := bytes_of h0 hsz (j := 0) (by rw [Try.params4]; rfl) rfl
  obtain ⟨ad1, len1, cap1, rfl⟩ := okWide_slice Try.underlying22 (hval 1 22 v1 rfl rfl)
  have kk1 := h1
  have lt1 : ∀ x ∈ p1, x.block < W.heap.size := by obtain ⟨m, hm⟩ := kk1; exact DataW.trod_lt m _ _ _ hm
  obtain ⟨hbr1, hbn1⟩ := bytes_of h1 hsz (j := 1) (by rw [Try.params4]; rfl) rfl
  clear hA0 hval0
  refine (walk _ len0 hbn0 _ len1 hbn1 W hbr0 hbr1).mono fun e W' ⟨he, bel⟩ => ?_
  subst he
  exact ⟨_, rfl, _, _, _, [], _, [], hW', trodAll_mk1 (shut_bool Try.underlying4 _), (trodAll_cons_mk (Below.trod laidOut (by kernel_rfl) (of_decide_eq_true (by kernel_rfl)) kk0 bel lt0) (trodAll_cons_mk (Below.trod laidOut (by kernel_rfl) (of_decide_eq_true (by kernel_rfl)) kk1 bel lt1) trodAll_mk0)), rfl, bel.frame _, fun h => by cases h⟩

theorem over : Rows.fnHeapsRow.holds Try.pinned (OpenSpec.ofChange Rows.fnHeapsSpec) :=
  OpenClaim.holds_of_wide 4 Try.f4 rfl rfl rfl rfl rfl rfl rfl ⟨rfl, rfl, rfl, rfl, rfl⟩ rfl rfl rfl rfl rfl (by kernel_rfl) Try.func4 (by kernel_rfl)
    (of_decide_eq_true (by kernel_rfl)) (by unfold Func.isWrapper; first | (rw [if_pos (by decide +kernel)]; kernel_rfl) | (rw [if_neg (by decide +kernel)]; exact ⟨rfl, rfl⟩))
    (fun os started H enc _ => lifted os started H enc)
end Go.Proofs.Ythdodlbhkpoadaa.fnHeaps
namespace Go.Proofs.Ythdodlbhkpoadaa
theorem fnHeaps_holds : Rows.FnHeapsSaid := fnHeaps.over
#print axioms fnHeaps_holds
end Go.Proofs.Ythdodlbhkpoadaa
