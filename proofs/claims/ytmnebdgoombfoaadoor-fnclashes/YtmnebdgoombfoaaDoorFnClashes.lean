/- At every two lists of bytes the function FnClashes returns true and leaves its arguments as they were. The table of weights lies as the program's text lays it (the card ties that). No other condition. -/
import Derived.Test.YtmnebdgoombfoaaDoorBothC
import Derived.Deep.RegionWith
import Derived.Deep.DeepCutAuto
import Derived.Deep.DrawnRows
namespace Go.Proofs.YtmnebdgoombfoaaDoor.fnClashes
open Go.ChangeShapes Go.WideShapes Go.ChangeAt Go.RowKit Go.Joins
open Go.ChangeMaps (open_string shut_string)
set_option linter.unusedVariables false
attribute [local go_sem ↓] Go.wp_at_zero Go.wp_at_succ

set_option maxRecDepth 100000 in
set_option maxHeartbeats 6400000 in
theorem walk0 (v0 : Value) (n0 : Nat) (v1 : Value) (n1 : Nat) (w : World) (ht : Table w) (hc0 : CodeAt w v0 n0) (hc1 : CodeAt w v1 n1) (hn : n0 + n1 ≤ 1048576) :
    Calls Tryd.prog 4 #[v0, v1] w fun e w' => e = .returned (.bool true) ∧ Below w.heap.size w w' := by
  obtain ⟨ad0, c0, rfl⟩ : ∃ ad c, v0 = .slice ad n0 c := by
    obtain ⟨ad, c, e, _⟩ := hc0
    exact ⟨ad, c, e⟩
  obtain ⟨ad1, c1, rfl⟩ : ∃ ad c, v1 = .slice ad n1 c := by
    obtain ⟨ad, c, e, _⟩ := hc1
    exact ⟨ad, c, e⟩
  have HT := hide ht
  have HC0 := hide hc0
  have HC1 := hide hc1
  clear ht hc0 hc1
  have hbig : ¬ (1048576 : Int) < (n0 : Int) + (n1 : Int) := by omega
  have HK0 : Hid (Below w.heap.size w w) := Below.refl _ _
  have HF := drawDigest _ n0 w HC0.out
  go_enter Tryd.func4, Tryd.ntmps4
  go_wp2_with fail
  refine (HF).mono ?_
  rintro e w1 ⟨k, s, rfl, hk0, hk1, hs, hb1⟩
  have HK1 : Hid (Below w.heap.size w w1) := HK0.out.trans (hb1.mono HK0.out.size)
  clear hb1 HK0 HF
  obtain ⟨D, O, HDI, HDS, HDY⟩ := digestBoth k s (by unfold maxLen; omega)
  have HDYh := hide HDY
  clear HDY
  go_wp2_with fail
  refine (HDI _ (HT.out.below HK1.out)).mono ?_
  rintro e w2 ⟨rfl, hb2⟩
  have HK2 : Hid (Below w.heap.size w w2) := HK1.out.trans (hb2.mono HK1.out.size)
  clear hb2 HK1 HDI
  go_wp2_with fail
  refine (HDS _).mono ?_
  rintro e w3 ⟨rfl, hb3⟩
  have HK3 : Hid (Below w.heap.size w w3) := HK2.out.trans (hb3.mono HK2.out.size)
  clear hb3 HK2 HDS
  cases O
  · clear HDYh
    have HDC := drawClash _ n1 _ (HC1.out.below HK3.out)
    go_wp2_with fail
    refine (HDC).mono ?_
    rintro e w4 ⟨q, ca, cb, rfl, hq0, hq1, hca, hcb, hb4⟩
    have HK4 : Hid (Below w.heap.size w w4) := HK3.out.trans (hb4.mono HK3.out.size)
    clear hb4 HK3 HDC
    obtain ⟨C, O2, HCI, HCS, HCY⟩ := clashBoth q ca cb (by unfold maxLen; omega) (by unfold maxLen; omega)
    have HCYh := hide HCY
    clear HCY
    go_wp2_with fail
    refine (HCI _ (HT.out.below HK4.out)).mono ?_
    rintro e w5 ⟨rfl, hb5⟩
    have HK5 : Hid (Below w.heap.size w w5) := HK4.out.trans (hb5.mono HK4.out.size)
    clear hb5 HK4 HCI
    go_wp2_with fail
    refine (HCS _).mono ?_
    rintro e w6 ⟨rfl, hb6⟩
    have HK6 : Hid (Below w.heap.size w w6) := HK5.out.trans (hb6.mono HK5.out.size)
    clear hb6 HK5 HCS
    cases O2
    · clear HCYh
      have HDL := drawList _ n1 _ (HC1.out.below HK6.out)
      go_wp2_with fail
      refine HDL.mono ?_
      rintro e w7 ⟨lk, lx, ss, rfl, lk0, lk1, hss, hls, hal, hb7⟩
      have HK7 : Hid (Below w.heap.size w w7) := HK6.out.trans (hb7.mono HK6.out.size)
      clear hb7 HK6 HDL
      obtain ⟨LD, LO, HLI, HLS⟩ := listBoth lk lx ss hls hal
      clear hal
      have HSS := hide hss
      clear hss
      go_wp2_with fail
      refine (HLI _ HSS.out (HT.out.below HK7.out)).mono ?_
      rintro e w8 ⟨rfl, hb8⟩
      have HK8 : Hid (Below w.heap.size w w8) := HK7.out.trans (hb8.mono HK7.out.size)
      have HSS2 := hide (HSS.out.below hb8)
      clear hb8 HK7 HLI HSS
      go_wp2_with fail
      refine (HLS _ HSS2.out).mono ?_
      rintro e w9 ⟨rfl, hb9⟩
      have HK9 : Hid (Below w.heap.size w w9) := HK8.out.trans (hb9.mono HK8.out.size)
      clear hb9 HK8 HLS HSS2
      have kfin := HK9.out
      go_wp2
      go_returns
      exact ⟨rfl, kfin⟩
    · obtain ⟨hq2, hq3, hca2, hcb2, hC⟩ := HCYh.out rfl
      clear HCYh
      cases C
      · clear hC
        have HDL := drawList _ n1 _ (HC1.out.below HK6.out)
        go_wp2_with fail
        refine HDL.mono ?_
        rintro e w7 ⟨lk, lx, ss, rfl, lk0, lk1, hss, hls, hal, hb7⟩
        have HK7 : Hid (Below w.heap.size w w7) := HK6.out.trans (hb7.mono HK6.out.size)
        clear hb7 HK6 HDL
        obtain ⟨LD, LO, HLI, HLS⟩ := listBoth lk lx ss hls hal
        clear hal
        have HSS := hide hss
        clear hss
        go_wp2_with fail
        refine (HLI _ HSS.out (HT.out.below HK7.out)).mono ?_
        rintro e w8 ⟨rfl, hb8⟩
        have HK8 : Hid (Below w.heap.size w w8) := HK7.out.trans (hb8.mono HK7.out.size)
        have HSS2 := hide (HSS.out.below hb8)
        clear hb8 HK7 HLI HSS
        go_wp2_with fail
        refine (HLS _ HSS2.out).mono ?_
        rintro e w9 ⟨rfl, hb9⟩
        have HK9 : Hid (Below w.heap.size w w9) := HK8.out.trans (hb9.mono HK8.out.size)
        clear hb9 HK8 HLS HSS2
        have kfin := HK9.out
        go_wp2
        go_returns
        exact ⟨rfl, kfin⟩
      · obtain ⟨hne, hdd⟩ := clash_true hC.symm
        clear hC
        have HI1 := fun (W : World) (hT : Table W) => implDigestYes q ca W hq2 hq3 hca2 hT
        have HI2 := fun (W : World) (hT : Table W) => implDigestYes q cb W hq2 hq3 hcb2 hT
        generalize digestB q ca = d1 at *
        generalize digestB q cb = d2 at *
        go_wp2_with fail
        refine (HI1 _ (HT.out.below HK6.out)).mono ?_
        rintro e w7 ⟨rfl, hb7⟩
        have HK7 : Hid (Below w.heap.size w w7) := HK6.out.trans (hb7.mono HK6.out.size)
        clear hb7 HK6 HI1
        go_wp2_with fail
        refine (HI2 _ (HT.out.below HK7.out)).mono ?_
        rintro e w8 ⟨rfl, hb8⟩
        have HK8 : Hid (Below w.heap.size w w8) := HK7.out.trans (hb8.mono HK7.out.size)
        clear hb8 HK7 HI2
        have HDL := drawList _ n1 _ (HC1.out.below HK8.out)
        go_wp2_with fail
        refine HDL.mono ?_
        rintro e w9 ⟨lk, lx, ss, rfl, lk0, lk1, hss, hls, hal, hb9⟩
        have HK9 : Hid (Below w.heap.size w w9) := HK8.out.trans (hb9.mono HK8.out.size)
        clear hb9 HK8 HDL
        obtain ⟨LD, LO, HLI, HLS⟩ := listBoth lk lx ss hls hal
        clear hal
        have HSS := hide hss
        clear hss
        go_wp2_with fail
        refine (HLI _ HSS.out (HT.out.below HK9.out)).mono ?_
        rintro e w10 ⟨rfl, hb10⟩
        have HK10 : Hid (Below w.heap.size w w10) := HK9.out.trans (hb10.mono HK9.out.size)
        have HSS2 := hide (HSS.out.below hb10)
        clear hb10 HK9 HLI HSS
        go_wp2_with fail
        refine (HLS _ HSS2.out).mono ?_
        rintro e w11 ⟨rfl, hb11⟩
        have HK11 : Hid (Below w.heap.size w w11) := HK10.out.trans (hb11.mono HK10.out.size)
        clear hb11 HK10 HLS HSS2
        have kfin := HK11.out
        go_wp2
        go_returns
        exact ⟨rfl, kfin⟩
  · obtain ⟨hk2, hk3, hs2⟩ := HDYh.out rfl
    clear HDYh
    by_cases h600 : s.size + 3 ≤ 600
    · have h6i : (s.size : Int) + 3 ≤ 600 := by omega
      have HNum := numberIn _ n1 _ (HC1.out.below HK3.out)
      go_wp2_with fail
      refine HNum.mono ?_
      rintro e w6 ⟨num, rfl, hnum0, hnum1, hw6⟩
      subst hw6
      clear HNum
      have hsz1 : (0 : Int) < (s.size : Int) + 1 := by omega
      have hmlo := mod_lo num ((s.size : Int) + 1) hnum0 hsz1
      have hmhi := mod_hi num ((s.size : Int) + 1) hnum0 hsz1
      go_upto_region 10 with fail
      generalize num % ((s.size : Int) + 1) = kk at *
      obtain ⟨K, rfl⟩ := Int.eq_ofNat_of_zero_le hmlo
      have hKs : K ≤ s.size := by omega
      have hKi0 : (0 : Int) ≤ (K : Int) := by omega
      have hKi1 : (K : Int) ≤ (s.size : Int) := by omega
      have z0 : (s.extract 0 K).size = K := by simp; omega
      have z1 : (s.extract K s.size).size = s.size - K := by simp
      have za : (⟨#[97, 99, 97]⟩ : ByteArray).size = 3 := rfl
      have zb : (⟨#[98, 97, 98]⟩ : ByteArray).size = 3 := rfl
      have za1 : (s.extract 0 K ++ ⟨#[97, 99, 97]⟩).size = K + 3 := by rw [ByteArray.size_append, z0, za]
      have zb1 : (s.extract 0 K ++ ⟨#[98, 97, 98]⟩).size = K + 3 := by rw [ByteArray.size_append, z0, zb]
      have zs1 : (s.extract 0 K ++ ⟨#[97, 99, 97]⟩ ++ s.extract K s.size).size ≤ 600 := by rw [ByteArray.size_append, za1, z1]; omega
      have zs2 : (s.extract 0 K ++ ⟨#[98, 97, 98]⟩ ++ s.extract K s.size).size ≤ 600 := by rw [ByteArray.size_append, zb1, z1]; omega
      have HI1 := fun (W : World) (hT : Table W) => clashAca k (s.extract 0 K) (s.extract K s.size) W hk2 hk3 zs1 zs2 hT
      have HI2 := fun (W : World) (hT : Table W) => clashSelf k s W hk2 hk3 hs2 hT
      clear zs1 zs2
      go_cut [12, 13] (fun c one wc => c = .bool true ∧ one = .bool true ∧ Below w.heap.size w wc)
      case first =>
        go_region_with ((go_at_call 27; refine (HI1 _ (HT.out.below (Below.trans HK3.out (Below.drew (Below.refl _ _))))).mono ?_; rintro e w7 ⟨rfl, hb7⟩))
        all_goals
          have hk7 : Below w.heap.size w w7 := (Below.trans HK3.out (Below.drew (Below.refl _ _))).trans (hb7.mono HK3.out.size)
          clear hb7
          go_wp2_with fail
          go_meet
          exact ⟨rfl, rfl, hk7⟩
      case rest =>
        rename World => w7
        obtain ⟨rfl, rfl, hk7⟩ := hcut
        have HK7 := hide hk7
        clear hk7 HK3 HI1 z0 z1 za zb za1 zb1
        go_wp2_with fail
        refine (HI2 _ (HT.out.below HK7.out)).mono ?_
        rintro e w8 ⟨rfl, hb8⟩
        have HK8 : Hid (Below w.heap.size w w8) := HK7.out.trans (hb8.mono HK7.out.size)
        clear hb8 HK7 HI2
        have HDC := drawClash _ n1 _ (HC1.out.below HK8.out)
        go_wp2_with fail
        refine (HDC).mono ?_
        rintro e w9 ⟨q, ca, cb, rfl, hq0, hq1, hca, hcb, hb9⟩
        have HK9 : Hid (Below w.heap.size w w9) := HK8.out.trans (hb9.mono HK8.out.size)
        clear hb9 HK8 HDC
        obtain ⟨C, O2, HCI, HCS, HCY⟩ := clashBoth q ca cb (by unfold maxLen; omega) (by unfold maxLen; omega)
        have HCYh := hide HCY
        clear HCY
        go_wp2_with fail
        refine (HCI _ (HT.out.below HK9.out)).mono ?_
        rintro e w10 ⟨rfl, hb10⟩
        have HK10 : Hid (Below w.heap.size w w10) := HK9.out.trans (hb10.mono HK9.out.size)
        clear hb10 HK9 HCI
        go_wp2_with fail
        refine (HCS _).mono ?_
        rintro e w11 ⟨rfl, hb11⟩
        have HK11 : Hid (Below w.heap.size w w11) := HK10.out.trans (hb11.mono HK10.out.size)
        clear hb11 HK10 HCS
        cases O2
        · clear HCYh
          have HDL := drawList _ n1 _ (HC1.out.below HK11.out)
          go_wp2_with fail
          refine HDL.mono ?_
          rintro e w12 ⟨lk, lx, ss, rfl, lk0, lk1, hss, hls, hal, hb12⟩
          have HK12 : Hid (Below w.heap.size w w12) := HK11.out.trans (hb12.mono HK11.out.size)
          clear hb12 HK11 HDL
          obtain ⟨LD, LO, HLI, HLS⟩ := listBoth lk lx ss hls hal
          clear hal
          have HSS := hide hss
          clear hss
          go_wp2_with fail
          refine (HLI _ HSS.out (HT.out.below HK12.out)).mono ?_
          rintro e w13 ⟨rfl, hb13⟩
          have HK13 : Hid (Below w.heap.size w w13) := HK12.out.trans (hb13.mono HK12.out.size)
          have HSS2 := hide (HSS.out.below hb13)
          clear hb13 HK12 HLI HSS
          go_wp2_with fail
          refine (HLS _ HSS2.out).mono ?_
          rintro e w14 ⟨rfl, hb14⟩
          have HK14 : Hid (Below w.heap.size w w14) := HK13.out.trans (hb14.mono HK13.out.size)
          clear hb14 HK13 HLS HSS2
          have kfin := HK14.out
          go_wp2
          go_returns
          exact ⟨rfl, kfin⟩
        · obtain ⟨hq2, hq3, hca2, hcb2, hC⟩ := HCYh.out rfl
          clear HCYh
          cases C
          · clear hC
            have HDL := drawList _ n1 _ (HC1.out.below HK11.out)
            go_wp2_with fail
            refine HDL.mono ?_
            rintro e w12 ⟨lk, lx, ss, rfl, lk0, lk1, hss, hls, hal, hb12⟩
            have HK12 : Hid (Below w.heap.size w w12) := HK11.out.trans (hb12.mono HK11.out.size)
            clear hb12 HK11 HDL
            obtain ⟨LD, LO, HLI, HLS⟩ := listBoth lk lx ss hls hal
            clear hal
            have HSS := hide hss
            clear hss
            go_wp2_with fail
            refine (HLI _ HSS.out (HT.out.below HK12.out)).mono ?_
            rintro e w13 ⟨rfl, hb13⟩
            have HK13 : Hid (Below w.heap.size w w13) := HK12.out.trans (hb13.mono HK12.out.size)
            have HSS2 := hide (HSS.out.below hb13)
            clear hb13 HK12 HLI HSS
            go_wp2_with fail
            refine (HLS _ HSS2.out).mono ?_
            rintro e w14 ⟨rfl, hb14⟩
            have HK14 : Hid (Below w.heap.size w w14) := HK13.out.trans (hb14.mono HK13.out.size)
            clear hb14 HK13 HLS HSS2
            have kfin := HK14.out
            go_wp2
            go_returns
            exact ⟨rfl, kfin⟩
          · obtain ⟨hne, hdd⟩ := clash_true hC.symm
            clear hC
            have HI1 := fun (W : World) (hT : Table W) => implDigestYes q ca W hq2 hq3 hca2 hT
            have HI2 := fun (W : World) (hT : Table W) => implDigestYes q cb W hq2 hq3 hcb2 hT
            generalize digestB q ca = d1 at *
            generalize digestB q cb = d2 at *
            go_wp2_with fail
            refine (HI1 _ (HT.out.below HK11.out)).mono ?_
            rintro e w12 ⟨rfl, hb12⟩
            have HK12 : Hid (Below w.heap.size w w12) := HK11.out.trans (hb12.mono HK11.out.size)
            clear hb12 HK11 HI1
            go_wp2_with fail
            refine (HI2 _ (HT.out.below HK12.out)).mono ?_
            rintro e w13 ⟨rfl, hb13⟩
            have HK13 : Hid (Below w.heap.size w w13) := HK12.out.trans (hb13.mono HK12.out.size)
            clear hb13 HK12 HI2
            have HDL := drawList _ n1 _ (HC1.out.below HK13.out)
            go_wp2_with fail
            refine HDL.mono ?_
            rintro e w14 ⟨lk, lx, ss, rfl, lk0, lk1, hss, hls, hal, hb14⟩
            have HK14 : Hid (Below w.heap.size w w14) := HK13.out.trans (hb14.mono HK13.out.size)
            clear hb14 HK13 HDL
            obtain ⟨LD, LO, HLI, HLS⟩ := listBoth lk lx ss hls hal
            clear hal
            have HSS := hide hss
            clear hss
            go_wp2_with fail
            refine (HLI _ HSS.out (HT.out.below HK14.out)).mono ?_
            rintro e w15 ⟨rfl, hb15⟩
            have HK15 : Hid (Below w.heap.size w w15) := HK14.out.trans (hb15.mono HK14.out.size)
            have HSS2 := hide (HSS.out.below hb15)
            clear hb15 HK14 HLI HSS
            go_wp2_with fail
            refine (HLS _ HSS2.out).mono ?_
            rintro e w16 ⟨rfl, hb16⟩
            have HK16 : Hid (Below w.heap.size w w16) := HK15.out.trans (hb16.mono HK15.out.size)
            clear hb16 HK15 HLS HSS2
            have kfin := HK16.out
            go_wp2
            go_returns
            exact ⟨rfl, kfin⟩
    · have h6i : ¬ (s.size : Int) + 3 ≤ 600 := by omega
      have HDC := drawClash _ n1 _ (HC1.out.below HK3.out)
      go_wp2_with fail
      refine (HDC).mono ?_
      rintro e w4 ⟨q, ca, cb, rfl, hq0, hq1, hca, hcb, hb4⟩
      have HK4 : Hid (Below w.heap.size w w4) := HK3.out.trans (hb4.mono HK3.out.size)
      clear hb4 HK3 HDC
      obtain ⟨C, O2, HCI, HCS, HCY⟩ := clashBoth q ca cb (by unfold maxLen; omega) (by unfold maxLen; omega)
      have HCYh := hide HCY
      clear HCY
      go_wp2_with fail
      refine (HCI _ (HT.out.below HK4.out)).mono ?_
      rintro e w5 ⟨rfl, hb5⟩
      have HK5 : Hid (Below w.heap.size w w5) := HK4.out.trans (hb5.mono HK4.out.size)
      clear hb5 HK4 HCI
      go_wp2_with fail
      refine (HCS _).mono ?_
      rintro e w6 ⟨rfl, hb6⟩
      have HK6 : Hid (Below w.heap.size w w6) := HK5.out.trans (hb6.mono HK5.out.size)
      clear hb6 HK5 HCS
      cases O2
      · clear HCYh
        have HDL := drawList _ n1 _ (HC1.out.below HK6.out)
        go_wp2_with fail
        refine HDL.mono ?_
        rintro e w7 ⟨lk, lx, ss, rfl, lk0, lk1, hss, hls, hal, hb7⟩
        have HK7 : Hid (Below w.heap.size w w7) := HK6.out.trans (hb7.mono HK6.out.size)
        clear hb7 HK6 HDL
        obtain ⟨LD, LO, HLI, HLS⟩ := listBoth lk lx ss hls hal
        clear hal
        have HSS := hide hss
        clear hss
        go_wp2_with fail
        refine (HLI _ HSS.out (HT.out.below HK7.out)).mono ?_
        rintro e w8 ⟨rfl, hb8⟩
        have HK8 : Hid (Below w.heap.size w w8) := HK7.out.trans (hb8.mono HK7.out.size)
        have HSS2 := hide (HSS.out.below hb8)
        clear hb8 HK7 HLI HSS
        go_wp2_with fail
        refine (HLS _ HSS2.out).mono ?_
        rintro e w9 ⟨rfl, hb9⟩
        have HK9 : Hid (Below w.heap.size w w9) := HK8.out.trans (hb9.mono HK8.out.size)
        clear hb9 HK8 HLS HSS2
        have kfin := HK9.out
        go_wp2
        go_returns
        exact ⟨rfl, kfin⟩
      · obtain ⟨hq2, hq3, hca2, hcb2, hC⟩ := HCYh.out rfl
        clear HCYh
        cases C
        · clear hC
          have HDL := drawList _ n1 _ (HC1.out.below HK6.out)
          go_wp2_with fail
          refine HDL.mono ?_
          rintro e w7 ⟨lk, lx, ss, rfl, lk0, lk1, hss, hls, hal, hb7⟩
          have HK7 : Hid (Below w.heap.size w w7) := HK6.out.trans (hb7.mono HK6.out.size)
          clear hb7 HK6 HDL
          obtain ⟨LD, LO, HLI, HLS⟩ := listBoth lk lx ss hls hal
          clear hal
          have HSS := hide hss
          clear hss
          go_wp2_with fail
          refine (HLI _ HSS.out (HT.out.below HK7.out)).mono ?_
          rintro e w8 ⟨rfl, hb8⟩
          have HK8 : Hid (Below w.heap.size w w8) := HK7.out.trans (hb8.mono HK7.out.size)
          have HSS2 := hide (HSS.out.below hb8)
          clear hb8 HK7 HLI HSS
          go_wp2_with fail
          refine (HLS _ HSS2.out).mono ?_
          rintro e w9 ⟨rfl, hb9⟩
          have HK9 : Hid (Below w.heap.size w w9) := HK8.out.trans (hb9.mono HK8.out.size)
          clear hb9 HK8 HLS HSS2
          have kfin := HK9.out
          go_wp2
          go_returns
          exact ⟨rfl, kfin⟩
        · obtain ⟨hne, hdd⟩ := clash_true hC.symm
          clear hC
          have HI1 := fun (W : World) (hT : Table W) => implDigestYes q ca W hq2 hq3 hca2 hT
          have HI2 := fun (W : World) (hT : Table W) => implDigestYes q cb W hq2 hq3 hcb2 hT
          generalize digestB q ca = d1 at *
          generalize digestB q cb = d2 at *
          go_wp2_with fail
          refine (HI1 _ (HT.out.below HK6.out)).mono ?_
          rintro e w7 ⟨rfl, hb7⟩
          have HK7 : Hid (Below w.heap.size w w7) := HK6.out.trans (hb7.mono HK6.out.size)
          clear hb7 HK6 HI1
          go_wp2_with fail
          refine (HI2 _ (HT.out.below HK7.out)).mono ?_
          rintro e w8 ⟨rfl, hb8⟩
          have HK8 : Hid (Below w.heap.size w w8) := HK7.out.trans (hb8.mono HK7.out.size)
          clear hb8 HK7 HI2
          have HDL := drawList _ n1 _ (HC1.out.below HK8.out)
          go_wp2_with fail
          refine HDL.mono ?_
          rintro e w9 ⟨lk, lx, ss, rfl, lk0, lk1, hss, hls, hal, hb9⟩
          have HK9 : Hid (Below w.heap.size w w9) := HK8.out.trans (hb9.mono HK8.out.size)
          clear hb9 HK8 HDL
          obtain ⟨LD, LO, HLI, HLS⟩ := listBoth lk lx ss hls hal
          clear hal
          have HSS := hide hss
          clear hss
          go_wp2_with fail
          refine (HLI _ HSS.out (HT.out.below HK9.out)).mono ?_
          rintro e w10 ⟨rfl, hb10⟩
          have HK10 : Hid (Below w.heap.size w w10) := HK9.out.trans (hb10.mono HK9.out.size)
          have HSS2 := hide (HSS.out.below hb10)
          clear hb10 HK9 HLI HSS
          go_wp2_with fail
          refine (HLS _ HSS2.out).mono ?_
          rintro e w11 ⟨rfl, hb11⟩
          have HK11 : Hid (Below w.heap.size w w11) := HK10.out.trans (hb11.mono HK10.out.size)
          clear hb11 HK10 HLS HSS2
          have kfin := HK11.out
          go_wp2
          go_returns
          exact ⟨rfl, kfin⟩

set_option maxRecDepth 100000 in
set_option maxHeartbeats 800000 in
theorem walk (v0 : Value) (n0 : Nat) (h0 : n0 ≤ 140737488351232) (v1 : Value) (n1 : Nat) (h1 : n1 ≤ 140737488351232) (w : World) (ht : Table w) (hb0 : ByteRow w v0 n0) (hb1 : ByteRow w v1 n1) :
    Calls Tryd.prog 4 #[v0, v1] w fun e w' => e = .returned (.bool true) ∧ Below w.heap.size w w' := by
  by_cases hn : n0 + n1 ≤ 1048576
  · exact walk0 v0 n0 v1 n1 w ht (hb0.code (by omega)) (hb1.code (by omega)) hn
  · obtain ⟨ad0, c0, rfl, _⟩ := hb0
    obtain ⟨ad1, c1, rfl, _⟩ := hb1
    have hbig : (1048576 : Int) < (n0 : Int) + (n1 : Int) := by omega
    go_enter Tryd.func4, Tryd.ntmps4
    go_wp2
    go_returns
    exact ⟨rfl, by go_grown⟩

theorem own : ownKnob Tryd.prog.godebug = none := by kernel_rfl
theorem laidOut : laidOutB Tryd.prog = true := by kernel_rfl
theorem contract (H : Type) (enc : TypeId × Value → H) (W : World) (base : Nat) (args : Array Value) (ds gs : List (DataW H)) (before : List MemPlace)
    (hval : ∀ (j : Nat) t v, Tryd.f4.params[j]? = some t → args[j]? = some v → Value.okWide Tryd.prog W .any base t v)
    (hW : DataW.Whole enc Tryd.prog Tryd.f4.params.toList Rows.fnClashesSpec.vars false W args.toList ds gs before) (hL : laidMetH Tryd.prog Rows.fnClashesRow.laid W) (hsz : (DataW.weightsEach Tryd.prog (Tryd.f4.params.toList ++ (OpenSpec.ofChange Rows.fnClashesSpec).bare.plain.varTypes Tryd.prog) (ds ++ gs)).all (· ≤ reachBytes) = true) :
    Calls Tryd.prog 4 args W fun e W' => ∃ v, e = .returned v ∧ Rows.fnClashesSpec.post enc Tryd.prog Tryd.f4 false true false false W args v W' := by
  have tab := table_of hL
  have hW' := hW
  obtain ⟨p, q, hA0, hV, rfl, hfz, hnd⟩ := hW
  have hA : DataW.TrodAll enc Tryd.prog W 0 (fun _ => true) true Tryd.f4.params.toList args.toList ds p := hA0
  rw [Tryd.params4] at hA hval
  obtain ⟨v0, vs0, d0, ds0, p0, q0, hargs, rfl, rfl, h0, r0⟩ := trodAll_cons hA
  obtain ⟨v1, vs1, d1, ds1, p1, q1, rfl, rfl, rfl, h1, r1⟩ := trodAll_cons r0
  obtain ⟨rfl, rfl, rfl⟩ := trodAll_nil r1
  obtain rfl : args = #[v0, v1] := by cases args; simp_all
  obtain ⟨g, t, cs, fuel, d, pv, rfl, hg, hty, hv, htr, rfl⟩ := trodVars_one hV
  obtain rfl := Option.some.inj (gTab.symm.trans hg)
  obtain rfl := Option.some.inj (gTabType.symm.trans hty)
  have kv : DataW.Trod enc Tryd.prog W 0 (fun _ => true) true 81 (.agg cs) d pv := ⟨fuel, htr⟩
  have ltv : ∀ x ∈ pv, x.block < W.heap.size := DataW.trod_lt fuel _ _ _ htr
  obtain ⟨ad0, len0, cap0, rfl⟩ := okWide_slice Tryd.underlying22 (hval 0 22 v0 rfl rfl)
  have kk0 := h0
  have lt0 : ∀ x ∈ p0, x.block < W.heap.size := by obtain ⟨m, hm⟩ := kk0; exact DataW.trod_lt m _ _ _ hm
  obtain ⟨hbr0, hbn0⟩ := bytes_of h0 hsz (j := 0) (by rw [Tryd.params4]; rfl) rfl
  obtain ⟨ad1, len1, cap1, rfl⟩ := okWide_slice Tryd.underlying22 (hval 1 22 v1 rfl rfl)
  have kk1 := h1
  have lt1 : ∀ x ∈ p1, x.block < W.heap.size := by obtain ⟨m, hm⟩ := kk1; exact DataW.trod_lt m _ _ _ hm
  obtain ⟨hbr1, hbn1⟩ := bytes_of h1 hsz (j := 1) (by rw [Tryd.params4]; rfl) rfl
  clear hA0
  refine (walk _ len0 hbn0 _ len1 hbn1 W tab hbr0 hbr1).mono fun e W' ⟨he, bel⟩ => ?_
  subst he
  obtain ⟨f2, hf2⟩ := Below.trod laidOut (by kernel_rfl) (of_decide_eq_true (by kernel_rfl)) kv bel ltv
  exact ⟨_, rfl, _, _, _, [], _, _, hW', trodAll_mk1 (shut_bool Tryd.underlying4 _), (trodAll_cons_mk (Below.trod laidOut (by kernel_rfl) (of_decide_eq_true (by kernel_rfl)) kk0 bel lt0) (trodAll_cons_mk (Below.trod laidOut (by kernel_rfl) (of_decide_eq_true (by kernel_rfl)) kk1 bel lt1) trodAll_mk0)), ⟨0, 81, cs, f2, pv, [], gTab, gTabType, var?_below bel gTab tab.1 hv, hf2, rfl, rfl⟩, bel.frame _, fun h => by cases h⟩

theorem reads (os : Os) {H : Type} (enc : TypeId × Value → H) : ∃ places, DataW.whole enc Tryd.prog (({ World.holding Tryd.prog os ⟨#[], #[], []⟩ with heap := (World.holding Tryd.prog os ⟨#[], #[], []⟩).heap.modify 0 layTab } : World).forCall (fun _ _ => 0) ⟨#[], #[.slice none 0 0, .slice none 0 0], []⟩).memory Tryd.f4.params.toList Rows.fnClashesSpec.vars false (#[.slice none 0 0, .slice none 0 0] : Array Value).toList 16 = some ([.nil, .nil], [Rows.laid_loop_example_g00537_impl_pieceWeights], places) :=
  ⟨MemPlace.row ⟨0, 0, none⟩ 8, by kernel_rfl⟩
theorem laid_met (os : Os) : laidMet Tryd.prog Rows.fnClashesRow.laid (({ World.holding Tryd.prog os ⟨#[], #[], []⟩ with heap := (World.holding Tryd.prog os ⟨#[], #[], []⟩).heap.modify 0 layTab } : World).forCall (fun _ _ => 0) ⟨#[], #[.slice none 0 0, .slice none 0 0], []⟩).memory :=
  laidMet_of_run' 16 (by kernel_rfl) (by kernel_rfl)
set_option maxRecDepth 100000 in
theorem lifted (os : Os) (started : os.Started) (H : Type) (enc : TypeId × Value → H) (F : Stop.Interp) :
    ReturnsInHanded {} Tryd.checked os 4 .any ((OpenSpec.ofChange Rows.fnClashesSpec).preRow enc Tryd.prog Tryd.f4 Rows.fnClashesRow.domain false Rows.fnClashesRow.laid) (((OpenSpec.ofChange Rows.fnClashesSpec).at F).post enc Tryd.prog Tryd.f4 false true false false) := by
  obtain ⟨places, hx⟩ := reads os enc
  refine returnsInHanded_of_row (C := Tryd.checked) (s := OpenSpec.ofChange Rows.fnClashesSpec) own started (by kernel_rfl) Tryd.func4
    (witness_row_at (enc := enc) (C := Tryd.checked) false ({ World.holding Tryd.prog os ⟨#[], #[], []⟩ with heap := (World.holding Tryd.prog os ⟨#[], #[], []⟩).heap.modify 0 layTab } : World) #[.slice none 0 0, .slice none 0 0] rfl (by kernel_rfl) (by kernel_rfl) (by kernel_rfl)
      (OpenSpec.preRow_of_cond 16 hx (by kernel_rfl) (fun k hk => by cases hk) (by kernel_rfl) (laid_met os))) ?_
  intro W base args ds gs before hval hW _ _ hsz hL _ _
  exact contract H enc W base args ds gs before hval hW hL hsz
theorem said : Rows.FnClashesSaid :=
  OpenClaim.holds_of_cond 4 Tryd.f4 rfl rfl rfl rfl rfl rfl rfl ⟨rfl, rfl, rfl, rfl, rfl⟩ rfl rfl rfl rfl rfl (by kernel_rfl) Tryd.func4 (by kernel_rfl)
    (of_decide_eq_true (by kernel_rfl)) (by unfold Func.isWrapper; first | (rw [if_pos (by decide +kernel)]; kernel_rfl) | (rw [if_neg (by decide +kernel)]; exact ⟨rfl, rfl⟩))
    (fun os started H enc _ F => by rw [OpenClaim.pre_eq_preRow]; exact lifted os started H enc F)
theorem plain (f : FuncId) (fn : Func) (hf : Tryd.pinned.checked.prog.funcNamed Rows.fnClashesRow.func = some f) (hfn : Tryd.pinned.checked.prog.funcs[f]? = some fn) :
    false = Tryd.pinned.checked.prog.looks [] ∧ ∀ (j : Nat) t, fn.params[j]? = some t → Tryd.pinned.checked.prog.wantsStandIn t = false := by
  obtain rfl : f = 4 := Option.some.inj ((show Tryd.prog.funcNamed Rows.fnClashesRow.func = some 4 by kernel_rfl).symm.trans hf) |>.symm
  obtain rfl : fn = Tryd.f4 := (Option.some.inj (Tryd.func4.symm.trans hfn)).symm
  refine ⟨by kernel_rfl, fun j t ht => ?_⟩
  rw [Tryd.params4] at ht
  have hm : t ∈ [22, 22] := by simpa using Array.mem_of_getElem? ht
  have hall : ([22, 22].all fun u => !Tryd.prog.wantsStandIn u) = true := by kernel_rfl
  exact (show Tryd.prog.wantsStandIn t = false by simpa using List.all_eq_true.1 hall t hm)
theorem card : Rows.FnClashesCardSaid :=
  Claim7.holds_tied_plain_at .later [] _ _ _ _ said (fun _ h => by cases h) (by kernel_rfl) (fun _ h => by cases h) fnClashes_row_tie rfl ⟨rfl, rfl⟩ (by kernel_rfl) rfl plain (by kernel_rfl)
end Go.Proofs.YtmnebdgoombfoaaDoor.fnClashes
namespace Go.Proofs.YtmnebdgoombfoaaDoor
theorem fnClashes_card_holds : Rows.FnClashesCardSaid := fnClashes.card
#print axioms fnClashes_card_holds
end Go.Proofs.YtmnebdgoombfoaaDoor
