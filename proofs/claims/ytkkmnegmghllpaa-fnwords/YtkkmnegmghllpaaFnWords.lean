/- At every two lists of bytes the function FnWords returns true and leaves its arguments as they were: a word's places are just where it stands, and each word of documents is in their vocabulary. No condition. -/
import Derived.Test.YtkkmnegmghllpaaSameP9
import Derived.Lib.SmallJoins
namespace Go.Proofs.Ytkkmnegmghllpaa.fnWords
open Go.ChangeShapes Go.WideShapes Go.ChangeAt Go.RowKit Go.Joins Go.Deep
open Go.ChangeMaps (open_string shut_string)
set_option linter.unusedVariables false
attribute [local go_sem ↓] Go.wp_at_zero Go.wp_at_succ

set_option maxRecDepth 100000 in
set_option maxHeartbeats 12800000 in
theorem walk0 (v0 : Value) (n0 : Nat) (v1 : Value) (n1 : Nat) (w : World) (hc0 : CodeAt w v0 n0) (hc1 : CodeAt w v1 n1) (hn : n0 + n1 ≤ 1048576) :
    Calls Try.prog 3 #[v0, v1] w fun e w' => e = .returned (.bool true) ∧ Below w.heap.size w w' := by
  have HC0 := hide hc0
  have HC1 := hide hc1
  obtain ⟨ad0, c0, rfl⟩ : ∃ ad c, v0 = .slice ad n0 c := by
    obtain ⟨ad, c, e, _⟩ := hc0
    exact ⟨ad, c, e⟩
  obtain ⟨ad1, c1, rfl⟩ : ∃ ad c, v1 = .slice ad n1 c := by
    obtain ⟨ad, c, e, _⟩ := hc1
    exact ⟨ad, c, e⟩
  have k0 : Below w.heap.size w w := Below.refl _ _
  have hbig : ¬ (1048576 : Int) < (n0 : Int) + (n1 : Int) := by omega
  clear hc0 hc1
  go_enter Try.func3, Try.ntmps3
  go_wp2_with fail
  refine (drawPosts _ n0 _ HC0.out).mono ?_
  rintro e w1 ⟨x, ds, s, rfl, ho, hdl, hA, hs4, hb1⟩
  have k1 : Below w.heap.size w w1 := k0.trans (hb1.mono k0.size)
  replace HC1 := hide (HC1.out.below hb1)
  have HX := hide (OwnA.ofStrs ho).1.strs
  have HSZ : Hid (∀ u ∈ ds, u.size ≤ 1048576) := fun u hu => by have := hA u hu; omega
  obtain ⟨xa, xc, hxe⟩ := (rows_of_ownS ho).slice
  subst hxe
  clear ho hA HC0
  clear hb1
  obtain ⟨V, hVI⟩ := voIs_ex ds
  have hAb := poA_len ds s
  have HGX : Hid (poB ds s = true → docsB ds = true ∧ poA ds s = psK ds s ds.length) := fun h => by
    have h1 := h
    unfold poB at h1
    rw [Bool.and_eq_true] at h1
    exact ⟨h1.1, by unfold poA; rw [h, if_pos rfl]⟩
  have HVI := hide hVI
  have hVl := hVI.len
  have HIP0 := fun x W h => implPosts x ds s W h (by omega) HSZ.out (by omega)
  have HSP0 := fun x W h => specPosts x ds s W h (by omega) HSZ.out (by omega)
  have HIC := fun x W h => implCount x ds s W h (by omega) HSZ.out (by omega)
  have HSC := fun x W h => specCount x ds s W h (by omega) HSZ.out (by omega)
  have HIV0 := fun x W h => implVoc x ds V hVI W h (by omega) HSZ.out
  have HSV0 := fun x W h => specVoc x ds V hVI W h (by omega) HSZ.out
  obtain ⟨B, hB⟩ : ∃ B, B = poB ds s := ⟨_, rfl⟩
  obtain ⟨A, hA⟩ : ∃ A, A = poA ds s := ⟨_, rfl⟩
  obtain ⟨Bd, hBd⟩ : ∃ Bd, Bd = docsB ds := ⟨_, rfl⟩
  obtain ⟨N1, hN1⟩ : ∃ N1 : Int, N1 = (A.length : Nat) := ⟨_, rfl⟩
  obtain ⟨N2, hN2⟩ : ∃ N2 : Int, N2 = (sumL A : Nat) := ⟨_, rfl⟩
  rw [← hB, ← hA] at HIP0 HSP0 HIC HSC
  rw [← hN1, ← hN2] at HIC HSC
  rw [← hBd] at HIV0 HSV0
  rw [← hB, ← hA, ← hBd] at HGX
  rw [← hA] at hAb
  have HBd := hide hBd
  have HIP : ∀ x W, StrsAt W x ds → Calls Try.prog 14 #[x, .string s] W fun e w' => ∃ v, e = .returned (.tuple #[v, .bool B]) ∧ PosAt w' v A ∧ Below W.heap.size W w' := fun x W h => (HIP0 x W h).mono fun e w' ⟨⟨v, vs, h1, h2⟩, h3⟩ => ⟨v, h1, h2.at, h3⟩
  have HSP : ∀ x W, StrsAt W x ds → Calls Try.prog 15 #[x, .string s] W fun e w' => ∃ v, e = .returned (.tuple #[v, .bool B]) ∧ PosAt w' v A ∧ Below W.heap.size W w' := fun x W h => (HSP0 x W h).mono fun e w' ⟨⟨v, vs, h1, h2⟩, h3⟩ => ⟨v, h1, h2.at, h3⟩
  have HIV : ∀ x W, StrsAt W x ds → Calls Try.prog 18 #[x] W fun e w' => ∃ v, e = .returned (.tuple #[v, .bool Bd]) ∧ StrsAt w' v V ∧ Below W.heap.size W w' := fun x W h => (HIV0 x W h).mono fun e w' ⟨⟨v, h1, h2⟩, h3⟩ => ⟨v, h1, (OwnA.ofStrs h2).1.strs, h3⟩
  have HSV : ∀ x W, StrsAt W x ds → Calls Try.prog 19 #[x] W fun e w' => ∃ v, e = .returned (.tuple #[v, .bool Bd]) ∧ StrsAt w' v V ∧ Below W.heap.size W w' := fun x W h => (HSV0 x W h).mono fun e w' ⟨⟨v, h1, h2⟩, h3⟩ => ⟨v, h1, (OwnA.ofStrs h2).1.strs, h3⟩
  have HEQP := fun x y W h g => samePos x y A W h g (by omega) (fun p hp => by have := sumL_mem hp; omega)
  have HEQV := fun x y W h g => sameStr x y V W h g (by omega)
  have HN := hide (And.intro hN1 hN2)
  have hc1 : (N1 != N1) = false := by simp
  have hc2 : (N2 != N2) = false := by simp
  have hbn : (B != B) = false := by cases B <;> rfl
  have hbd : (Bd != Bd) = false := by cases Bd <;> rfl
  clear HIP0 HSP0 HIV0 HSV0 hB hA hBd hN1 hN2 hVI
  go_wp2_with fail
  refine (HIP _ _ HX.out).mono ?_
  rintro e w2 ⟨pl, rfl, hpl, hb2⟩
  have k2 : Below w.heap.size w w2 := k1.trans (hb2.mono k1.size)
  replace HC1 := hide (HC1.out.below hb2)
  replace HX := hide (HX.out.below hb2)
  have Hpl := hide hpl
  obtain ⟨apl, cpl, hve⟩ := hpl.slice
  subst hve
  clear hpl
  clear hb2
  go_wp2_with fail
  refine (HSP _ _ HX.out).mono ?_
  rintro e w3 ⟨pm, rfl, hpm, hb3⟩
  have k3 : Below w.heap.size w w3 := k2.trans (hb3.mono k2.size)
  replace HC1 := hide (HC1.out.below hb3)
  replace HX := hide (HX.out.below hb3)
  replace Hpl := hide (Hpl.out.below hb3)
  have Hpm := hide hpm
  obtain ⟨apm, cpm, hve⟩ := hpm.slice
  subst hve
  clear hpm
  clear hb3
  go_wp2_with fail
  refine (HIC _ _ HX.out).mono ?_
  rintro e w4 ⟨rfl, hb4⟩
  have k4 : Below w.heap.size w w4 := k3.trans (hb4.mono k3.size)
  replace HC1 := hide (HC1.out.below hb4)
  replace HX := hide (HX.out.below hb4)
  replace Hpl := hide (Hpl.out.below hb4)
  replace Hpm := hide (Hpm.out.below hb4)
  clear hb4
  go_wp2_with fail
  refine (HSC _ _ HX.out).mono ?_
  rintro e w5 ⟨rfl, hb5⟩
  have k5 : Below w.heap.size w w5 := k4.trans (hb5.mono k4.size)
  replace HC1 := hide (HC1.out.below hb5)
  replace HX := hide (HX.out.below hb5)
  replace Hpl := hide (Hpl.out.below hb5)
  replace Hpm := hide (Hpm.out.below hb5)
  clear hb5
  go_wp2_with fail
  refine (HIV _ _ HX.out).mono ?_
  rintro e w6 ⟨va, rfl, hva, hb6⟩
  have k6 : Below w.heap.size w w6 := k5.trans (hb6.mono k5.size)
  replace HC1 := hide (HC1.out.below hb6)
  replace HX := hide (HX.out.below hb6)
  replace Hpl := hide (Hpl.out.below hb6)
  replace Hpm := hide (Hpm.out.below hb6)
  have Hva := hide hva
  obtain ⟨ava, cva, hve⟩ := hva.slice
  subst hve
  clear hva
  clear hb6
  go_wp2_with fail
  refine (HSV _ _ HX.out).mono ?_
  rintro e w7 ⟨vb, rfl, hvb, hb7⟩
  have k7 : Below w.heap.size w w7 := k6.trans (hb7.mono k6.size)
  replace HC1 := hide (HC1.out.below hb7)
  replace HX := hide (HX.out.below hb7)
  replace Hpl := hide (Hpl.out.below hb7)
  replace Hpm := hide (Hpm.out.below hb7)
  replace Hva := hide (Hva.out.below hb7)
  have Hvb := hide hvb
  obtain ⟨avb, cvb, hve⟩ := hvb.slice
  subst hve
  clear hvb
  clear hb7
  clear HIP HSP HIC HSC HIV HSV
  obtain ⟨W1, hW1⟩ : ∃ W1, W1 = w7 := ⟨_, rfl⟩
  subst hW1
  have HKW := hide k7
  have HQP : Hid (∀ W, Below W1.heap.size W1 W → Calls Try.prog 20 #[.slice apl A.length cpl, .slice apm A.length cpm] W fun e w' => e = .returned (.bool true) ∧ Below W.heap.size W w') := fun W h => HEQP _ _ W (Hpl.out.below h) (Hpm.out.below h)
  have HQV : Hid (∀ W, Below W1.heap.size W1 W → Calls Try.prog 21 #[.slice ava V.length cva, .slice avb V.length cvb] W fun e w' => e = .returned (.bool true) ∧ Below W.heap.size W w') := fun W h => HEQV _ _ W (Hva.out.below h) (Hvb.out.below h)
  clear HEQP HEQV
  have kr : Below W1.heap.size W1 W1 := Below.refl _ _
  go_wp2_with fail
  refine (HQP.out _ kr).mono ?_
  rintro e wb ⟨rfl, hx2⟩
  have k2 : Below W1.heap.size W1 wb := hx2
  clear hx2
  go_wp2_with fail
  refine (HQV.out _ k2).mono ?_
  rintro e wc ⟨rfl, hx3⟩
  have k3 : Below W1.heap.size W1 wc := k2.trans (hx3.mono k2.size)
  have kc : Below w.heap.size w wc := HKW.out.trans (k3.mono HKW.out.size)
  replace HX := hide (HX.out.below k3)
  replace Hpl := hide (Hpl.out.below k3)
  replace Hva := hide (Hva.out.below k3)
  replace HC1 := hide (HC1.out.below k3)
  clear HQP HQV Hpm Hvb k2 kr k3 hx3
  cases B
  case false =>
    clear HVI HGX
    replace HC1 := hide (HC1.out.below (Below.refl wc.heap.size wc))
    have kT : Below w.heap.size w wc := kc.trans ((Below.refl wc.heap.size wc).mono kc.size)
    clear HX Hpl Hva
    go_wp2_with fail
    refine (drawWords _ n1 _ HC1.out).mono ?_
    rintro e wa ⟨u, rfl, hu, hba⟩
    have ka : Below w.heap.size w wa := kT.trans (hba.mono kT.size)
    have HIW := fun W => implWords u (by unfold maxLen; omega) W
    have HSW := fun W => specWordsOf u (by omega) W
    have hln : (docA u).length ≤ 20 := by
      unfold docA
      split
      · rename_i h; exact (doc_yes h).2
      · simp
    generalize docA u = Ua at *
    obtain ⟨Ub, hUb⟩ : ∃ Ub, Ub = docB u := ⟨_, rfl⟩
    rw [← hUb] at HIW HSW
    clear hUb hba HC1
    go_wp2_with fail
    refine (HIW _).mono ?_
    rintro e wb ⟨v, rfl, hov, hbb⟩
    have kb : Below w.heap.size w wb := ka.trans (hbb.mono ka.size)
    have HV := hide (OwnA.ofStrs hov).1.strs
    obtain ⟨va, vc, hve⟩ := (rows_of_ownS hov).slice
    subst hve
    clear hov hbb
    go_wp2_with fail
    refine (HSW _).mono ?_
    rintro e wd ⟨v, rfl, hov, hbd2⟩
    have kd : Below w.heap.size w wd := kb.trans (hbd2.mono kb.size)
    replace HV := hide (HV.out.below hbd2)
    have HV2 := hide (OwnA.ofStrs hov).1.strs
    obtain ⟨vb, vd, hve⟩ := (rows_of_ownS hov).slice
    subst hve
    have hub : (Ub == Ub) = true := by cases Ub <;> rfl
    clear hov hbd2 HIW HSW
    go_wp2_with fail
    refine (sameStr _ _ Ua _ HV.out HV2.out (by omega)).mono ?_
    rintro e we ⟨rfl, hbe⟩
    have ke : Below w.heap.size w we := kd.trans (hbe.mono kd.size)
    clear hbe
    go_wp2
    go_returns
    exact ⟨rfl, ke⟩
  case true =>
    obtain ⟨hd, hAe⟩ := HGX.out rfl
    subst hd
    have HDB : Hid (docsB ds = true) := HBd.out.symm
    have HGA := hide hAe
    have hgd : true = true ↔ GoodP A := ⟨fun _ => by rw [hAe]; exact psK_good HDB.out s, fun _ => rfl⟩
    have HGP := hide (implGP _ A true hgd wc Hpl.out (by omega) (fun p hp => by have := sumL_mem hp; omega))
    have hc3 : (N1 != (A.length : Int)) = false := by rw [HN.out.1]; simp
    obtain ⟨BH, hBH⟩ : ∃ b, b = decide ((0 : Int) < N1) := ⟨_, rfl⟩
    have hiff : BH = true ↔ s ∈ V := by
      rw [hBH, HVI.out.has HDB.out s, ← hAe, decide_eq_true_iff, HN.out.1]
      constructor
      · intro h e; rw [e] at h; simp at h
      · intro h; have := List.length_pos_iff.2 h; omega
    have hgt : decide ((0 : Int) < N1) = BH := hBH.symm
    have hbh : (BH != BH) = false := by cases BH <;> rfl
    clear hBH hAe hgd HGX HBd
    go_wp2_with fail
    refine HGP.out.mono ?_
    rintro e wf ⟨rfl, hbf⟩
    have kf : Below wc.heap.size wc wf := hbf
    have HHT := hide (lawHasT V s BH hiff _ wf (Hva.out.below kf) (by omega))
    clear HGP hbf hiff
    go_wp2_with fail
    refine HHT.out.mono ?_
    rintro e wg ⟨rfl, hbg⟩
    have kg : Below wc.heap.size wc wg := kf.trans (hbg.mono kf.size)
    clear HHT hbg kf
    go_wp2_with fail
    go_loopw [21, 143] (fun al i wr => ∃ k : Nat, k ≤ A.length ∧ i = .int .i64 (k : Int) ∧ al = .int .i64 ((sumL (A.take k) : Nat) : Int) ∧ sumL (A.take k) ≤ 240 ∧ Below wc.heap.size wc wr) (fun _ i _ => A.length - (intOf i).toNat)
    case atStart => exact ⟨0, Nat.zero_le _, rfl, by simp [sumL], by simp [sumL], kg⟩
    case round =>
      obtain ⟨k, hk, rfl, rfl, hsl, kb⟩ := hrel
      clear kg
      have kl := kb.size
      by_cases hlt : k < A.length
      · obtain ⟨g, off, cap, hve, hgl, pv, p0, p1, hlp⟩ := (Hpl.out.below kb).rows hlt
        cases hve
        have hki : (k : Int) < (A.length : Int) := by omega
        have hk0 : (0 : Int) ≤ (k : Int) := by omega
        obtain ⟨q0, q1, q2, q3⟩ := psK_doc ds s ds.length (A.getD k default) (by rw [← HGA.out]; exact getD_memL A k hlt)
        obtain ⟨D, hD⟩ : ∃ D : Nat, (A.getD k default).1 = (D : Int) := ⟨(A.getD k default).1.toNat, by omega⟩
        have hDl : D < ds.length := by omega
        have hDt : (A.getD k default).1.toNat = D := by omega
        rw [hDt] at q3
        have hst := sumL_step A k hlt
        have hle := sumL_take A (k + 1)
        have hyes := (docs_yes HDB.out).2 D hDl
        obtain ⟨hz1, hz2⟩ := doc_yes hyes
        have HIW := fun W => implWords (ds.getD D ByteArray.empty) (by unfold maxLen; omega) W
        obtain ⟨L, hL⟩ : ∃ L, L = docAt ds D := ⟨_, rfl⟩
        have hda : docA (ds.getD D ByteArray.empty) = L := by unfold docA; rw [hyes, if_pos rfl, hL]; rfl
        rw [hyes, hda] at HIW
        rw [← hL] at q3
        have hLl : L.length ≤ 20 := by rw [hL]; exact hz2
        have HPM : Hid (∀ i : Nat, (i : Int) ∈ (A.getD k default).2 ↔ i < L.length ∧ L.getD i ByteArray.empty = s) := fun i => by rw [q3]; exact plK_mem L s L.length i
        have hpl20 : (A.getD k default).2.length ≤ 20 := by rw [q3]; have := plK_len L s L.length; omega
        rw [hD] at p0
        obtain ⟨gd, offd, capd, hve, hgd2, hcd⟩ := (HX.out.below kb).cellS hDl
        cases hve
        have hdi : (D : Int) < (ds.length : Int) := by omega
        have hd0 : (0 : Int) ≤ (D : Int) := by omega
        have HLP := hide hlp
        obtain ⟨pa, pc, hpe⟩ := hlp.slice
        subst hpe
        obtain ⟨S2, hS2⟩ : ∃ S2, S2 = sumL (A.take (k + 1)) := ⟨_, rfl⟩
        have HS2 := hide hS2
        rw [← hS2] at hst hle
        clear hS2 hda hyes hz1 hz2 hL q0 q1 q2 q3 hD hDt hlp
        generalize sumL (A.take k) = SS at *
        generalize (A.getD k default).2 = pl at *
        generalize (A.getD k default).1 = dd at *
        generalize ds.getD D ByteArray.empty = txt at *
        obtain ⟨W1, hW1⟩ : ∃ W1, W1 = wr.alloc (.cells #[.int .i64 (D : Int), .slice pa pl.length pc] 39) := ⟨_, rfl⟩
        have hx0 := boxNew wr #[.int .i64 (D : Int), .slice pa pl.length pc] 39
        rw [← hW1] at hx0
        have kW : Below wr.heap.size wr W1 := by rw [hW1]; exact (Below.refl _ _).alloc (Nat.le_refl _) _
        obtain ⟨bx, hbx⟩ : ∃ bx, bx = wr.heap.size := ⟨_, rfl⟩
        go_upto_region 19 with fail
        rw [← hW1, ← hbx]
        rw [← hbx] at hx0
        have HBX := hide hx0
        have HLP1 := hide (HLP.out.below kW)
        have kb1 : Below wc.heap.size wc W1 := kb.trans (kW.mono kl)
        have hcd1 := (kW.cell (p := ⟨gd, offd + D, none⟩) hgd2).trans hcd
        have x0 := HBX.out.2.1 0 _ rfl
        have x1 := HBX.out.2.1 1 _ rfl
        clear hW1 hbx kW hx0 p0 p1 hcd hgd2 HLP
        go_wp2_with fail
        refine (HIW _).mono ?_
        rintro e w3 ⟨v, rfl, hov, hb3⟩
        have kb3 : Below wc.heap.size wc w3 := kb1.trans (hb3.mono kb1.size)
        replace HBX := hide (HBX.out.below hb3)
        replace HLP1 := hide (HLP1.out.below hb3)
        have HLW := hide (OwnA.ofStrs hov).1.strs
        obtain ⟨va, vc, hve⟩ := (rows_of_ownS hov).slice
        subst hve
        clear hov hb3 HIW x0 x1 hcd1 kb1
        go_wp2_with fail
        go_loopw [160] (fun i wr => ∃ t : Nat, t ≤ L.length ∧ i = .int .i64 (t : Int) ∧ Below w3.heap.size w3 wr) (fun i _ => L.length - (intOf i).toNat)
        case atStart => exact ⟨0, Nat.zero_le _, rfl, Below.refl _ _⟩
        case round =>
          obtain ⟨t, ht, rfl, kt⟩ := hrel
          generalize wr = w4 at *
          have HBX4 := HBX.out.below kt
          have x0 := HBX4.2.1 0 _ rfl
          have x1 := HBX4.2.1 1 _ rfl
          by_cases htt : t < L.length
          · obtain ⟨gt, offt, capt, hve, hgt2, hct⟩ := (HLW.out.below kt).cellS htt
            cases hve
            have hti : (t : Int) < (L.length : Int) := by omega
            have ht0 : (0 : Int) ≤ (t : Int) := by omega
            obtain ⟨BB, hBB⟩ : ∃ b, b = decide ((t : Int) ∈ pl) := ⟨_, rfl⟩
            have hsq : ((L.getD t ByteArray.empty).toList == s.toList) = BB := by
              rw [sEq, hBB]
              by_cases e : L.getD t ByteArray.empty = s
              · rw [decide_eq_true e, decide_eq_true ((HPM.out t).2 ⟨htt, e⟩)]
              · rw [decide_eq_false e, decide_eq_false (fun h => e ((HPM.out t).1 h).2)]
            have HHS := fun W h => lawHas pl (t : Int) BB hBB.symm (.slice pa pl.length pc) W h (by omega)
            have HLP4 := hide (HLP1.out.below kt)
            have hbb : (BB != BB) = false := by cases BB <;> rfl
            generalize L.getD t ByteArray.empty = tw at *
            clear hBB
            go_wp2_with fail
            refine (HHS _ HLP4.out).mono ?_
            rintro e w5 ⟨rfl, hb5⟩
            have kt5 : Below w3.heap.size w3 w5 := kt.trans (hb5.mono kt.size)
            clear hb5 HHS x0 x1 HBX4 hct
            go_wp2_with fail
            exact ⟨⟨t + 1, by omega, by go_num, kt5⟩, by simp [intOf]; omega⟩
          · have hte : t = L.length := by omega
            subst hte
            have hti : ¬ (L.length : Int) < (L.length : Int) := by omega
            have hw : IntKind.i64.wrap ((SS : Int) + (pl.length : Int)) = (S2 : Int) := by rw [IntKind.wrap_i64]; omega
            have kf : Below wc.heap.size wc w4 := kb3.trans (kt.mono kb3.size)
            clear hst
            go_wp2_with fail
            exact ⟨⟨k + 1, by omega, by go_num, by rw [HS2.out], by rw [← HS2.out]; omega, kf⟩, by simp [intOf]; omega⟩
      · have hke : k = A.length := by omega
        subst hke
        have hki : ¬ (A.length : Int) < (A.length : Int) := by omega
        have hn9 : (((sumL A : Nat) : Int) != N2) = false := by rw [HN.out.2]; simp
        rw [List.take_length]
        replace HC1 := hide (HC1.out.below kb)
        have kT : Below w.heap.size w wr := kc.trans (kb.mono kc.size)
        clear HX Hpl Hva
        go_wp2_with fail
        refine (drawWords _ n1 _ HC1.out).mono ?_
        rintro e wa ⟨u, rfl, hu, hba⟩
        have ka : Below w.heap.size w wa := kT.trans (hba.mono kT.size)
        have HIW := fun W => implWords u (by unfold maxLen; omega) W
        have HSW := fun W => specWordsOf u (by omega) W
        have hln : (docA u).length ≤ 20 := by
          unfold docA
          split
          · rename_i h; exact (doc_yes h).2
          · simp
        generalize docA u = Ua at *
        obtain ⟨Ub, hUb⟩ : ∃ Ub, Ub = docB u := ⟨_, rfl⟩
        rw [← hUb] at HIW HSW
        clear hUb hba HC1
        go_wp2_with fail
        refine (HIW _).mono ?_
        rintro e wb ⟨v, rfl, hov, hbb⟩
        have kb : Below w.heap.size w wb := ka.trans (hbb.mono ka.size)
        have HV := hide (OwnA.ofStrs hov).1.strs
        obtain ⟨va, vc, hve⟩ := (rows_of_ownS hov).slice
        subst hve
        clear hov hbb
        go_wp2_with fail
        refine (HSW _).mono ?_
        rintro e wd ⟨v, rfl, hov, hbd2⟩
        have kd : Below w.heap.size w wd := kb.trans (hbd2.mono kb.size)
        replace HV := hide (HV.out.below hbd2)
        have HV2 := hide (OwnA.ofStrs hov).1.strs
        obtain ⟨vb, vd, hve⟩ := (rows_of_ownS hov).slice
        subst hve
        have hub : (Ub == Ub) = true := by cases Ub <;> rfl
        clear hov hbd2 HIW HSW
        go_wp2_with fail
        refine (sameStr _ _ Ua _ HV.out HV2.out (by omega)).mono ?_
        rintro e we ⟨rfl, hbe⟩
        have ke : Below w.heap.size w we := kd.trans (hbe.mono kd.size)
        clear hbe
        go_wp2
        go_returns
        exact ⟨rfl, ke⟩
set_option maxRecDepth 100000 in
theorem walk (v0 : Value) (n0 : Nat) (h0 : n0 ≤ 140737488351232) (v1 : Value) (n1 : Nat) (h1 : n1 ≤ 140737488351232) (w : World) (hb0 : ByteRow w v0 n0) (hb1 : ByteRow w v1 n1) :
    Calls Try.prog 3 #[v0, v1] w fun e w' => e = .returned (.bool true) ∧ Below w.heap.size w w' := by
  by_cases hn : n0 + n1 ≤ 1048576
  · exact walk0 v0 n0 v1 n1 w (hb0.code (by omega)) (hb1.code (by omega)) hn
  · obtain ⟨ad0, c0, rfl, _⟩ := hb0
    obtain ⟨ad1, c1, rfl, _⟩ := hb1
    have hbig : (1048576 : Int) < (n0 : Int) + (n1 : Int) := by omega
    go_enter Try.func3, Try.ntmps3
    go_wp2
    go_returns
    exact ⟨rfl, by go_grown⟩


theorem own : ownKnob Try.prog.godebug = none := by kernel_rfl
theorem laidOut : laidOutB Try.prog = true := by kernel_rfl
set_option maxRecDepth 100000 in
theorem lifted (os : Os) (started : os.Started) (H : Type) (enc : TypeId × Value → H) :
    ReturnsInHanded {} Try.checked os 3 .any (Rows.fnWordsSpec.pre6 enc Try.prog Try.f3 Rows.fnWordsRow.domain false) (Rows.fnWordsSpec.post enc Try.prog Try.f3 false true false false) := by
  refine returnsInHanded_of_change_sized (C := Try.checked) own started (by kernel_rfl) Try.func3
    (ChangeSpec.witness6 (enc := enc) (C := Try.checked) false ⟨#[], #[.slice none 0 0, .slice none 0 0], []⟩ 8 (by kernel_rfl) (by kernel_rfl) (by kernel_rfl) (by kernel_rfl)) ?_
  intro W base args ds gs before hval0 hW hcnd hsz0 _
  have hsz : (DataW.weightsEach Try.prog (Try.f3.params.toList ++ (OpenSpec.ofChange Rows.fnWordsSpec).bare.plain.varTypes Try.prog) (ds ++ gs)).all (· ≤ reachBytes) = true := hsz0
  have hval : ∀ (j : Nat) t v, Try.f3.params[j]? = some t → args[j]? = some v → Value.okWide Try.prog W .any base t v := hval0
  have hW' := hW
  obtain ⟨p, q, hA0, hV, rfl, hfz, hnd⟩ := hW
  have hA : DataW.TrodAll enc Try.prog W 0 (fun _ => true) true Try.f3.params.toList args.toList ds p := hA0
  rw [Try.params3] at hA hval
  obtain ⟨v0, vs0, d0, ds0, p0, q0, hargs, rfl, rfl, h0, r0⟩ := trodAll_cons hA
  obtain ⟨v1, vs1, d1, ds1, p1, q1, rfl, rfl, rfl, h1, r1⟩ := trodAll_cons r0
  obtain ⟨rfl, rfl, rfl⟩ := trodAll_nil r1
  obtain rfl : args = #[v0, v1] := by cases args; simp_all
  obtain ⟨rfl, rfl⟩ := trodVars_none hV
  obtain ⟨ad0, len0, cap0, rfl⟩ := okWide_slice Try.underlying22 (hval 0 22 v0 rfl rfl)
  have kk0 := h0
  have lt0 : ∀ x ∈ p0, x.block < W.heap.size := by obtain ⟨m, hm⟩ := kk0; exact DataW.trod_lt m _ _ _ hm
  obtain ⟨hbr0, hbn0⟩ := bytes_of h0 hsz (j := 0) (by rw [Try.params3]; rfl) rfl
  obtain ⟨ad1, len1, cap1, rfl⟩ := okWide_slice Try.underlying22 (hval 1 22 v1 rfl rfl)
  have kk1 := h1
  have lt1 : ∀ x ∈ p1, x.block < W.heap.size := by obtain ⟨m, hm⟩ := kk1; exact DataW.trod_lt m _ _ _ hm
  obtain ⟨hbr1, hbn1⟩ := bytes_of h1 hsz (j := 1) (by rw [Try.params3]; rfl) rfl
  clear hA0 hval0
  refine (walk _ len0 hbn0 _ len1 hbn1 W hbr0 hbr1).mono fun e W' ⟨he, bel⟩ => ?_
  subst he
  exact ⟨_, rfl, _, _, _, [], _, [], hW', trodAll_mk1 (shut_bool Try.underlying4 _), (trodAll_cons_mk (Below.trod laidOut (by kernel_rfl) (of_decide_eq_true (by kernel_rfl)) kk0 bel lt0) (trodAll_cons_mk (Below.trod laidOut (by kernel_rfl) (of_decide_eq_true (by kernel_rfl)) kk1 bel lt1) trodAll_mk0)), rfl, bel.frame _, fun h => by cases h⟩

theorem over : Rows.fnWordsRow.holds Try.pinned (OpenSpec.ofChange Rows.fnWordsSpec) :=
  OpenClaim.holds_of_wide 3 Try.f3 rfl rfl rfl rfl rfl rfl rfl ⟨rfl, rfl, rfl, rfl, rfl⟩ rfl rfl rfl rfl rfl (by kernel_rfl) Try.func3 (by kernel_rfl)
    (of_decide_eq_true (by kernel_rfl)) (by unfold Func.isWrapper; first | (rw [if_pos (by decide +kernel)]; kernel_rfl) | (rw [if_neg (by decide +kernel)]; exact ⟨rfl, rfl⟩))
    (fun os started H enc _ => lifted os started H enc)
end Go.Proofs.Ytkkmnegmghllpaa.fnWords
namespace Go.Proofs.Ytkkmnegmghllpaa
theorem fnWords_holds : Rows.FnWordsSaid := fnWords.over
#print axioms fnWords_holds
end Go.Proofs.Ytkkmnegmghllpaa
