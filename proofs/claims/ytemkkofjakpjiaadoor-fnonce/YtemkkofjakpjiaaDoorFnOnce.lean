/- At every two lists of bytes the function FnOnce returns true and leaves its arguments as they were: what was signed with a key for one use is held to be so by its public part. The table of weights lies as the program's text lays it (the card ties that). No other condition. -/
import Derived.Test.YtemkkofjakpjiaaDoorDoor
import Derived.Test.YtemkkofjakpjiaaDoorBothO
import Derived.Deep.RegionHeld3
import Derived.Deep.DeepCutAuto
import Derived.Deep.DrawnRows
namespace Go.Proofs.YtemkkofjakpjiaaDoor.fnOnce
open Go.ChangeShapes Go.WideShapes Go.ChangeAt Go.RowKit Go.Joins
open Go.ChangeMaps (open_string shut_string)
set_option linter.unusedVariables false
attribute [local go_sem ↓] Go.wp_at_zero Go.wp_at_succ

set_option maxRecDepth 100000 in
set_option maxHeartbeats 12800000 in
theorem walk0 (v0 : Value) (n0 : Nat) (v1 : Value) (n1 : Nat) (w : World) (ht : Table w) (hc0 : CodeAt w v0 n0) (hc1 : CodeAt w v1 n1) (hn : n0 + n1 ≤ 1048576) :
    Calls Tryd.prog 3 #[v0, v1] w fun e w' => e = .returned (.bool true) ∧ Below w.heap.size w w' := by
  obtain ⟨ad0, c0, rfl⟩ : ∃ ad c, v0 = .slice ad n0 c := by
    obtain ⟨ad, c, e, _⟩ := hc0
    exact ⟨ad, c, e⟩
  obtain ⟨ad1, c1, rfl⟩ : ∃ ad c, v1 = .slice ad n1 c := by
    obtain ⟨ad, c, e, _⟩ := hc1
    exact ⟨ad, c, e⟩
  have hbig : ¬ (1048576 : Int) < (n0 : Int) + (n1 : Int) := by omega
  have HD := drawSign _ n0 w hc0
  have HT := hide ht
  have HC := hide hc1
  have HK : Hid (Below w.heap.size w w) := Below.refl _ _
  clear ht hc0 hc1
  go_enter Tryd.func3, Tryd.ntmps3
  go_wp2_with fail
  refine HD.mono ?_
  rintro e w1 ⟨s, t, rfl, hs, htt, hb⟩
  clear HD
  replace HT := hide ((unhide HT).below hb)
  replace HC := hide ((unhide HC).below hb)
  replace HK := hide ((unhide HK).trans (hb.mono (unhide HK).size))
  clear hb
  have hsm : s.size ≤ maxLen := by unfold maxLen; omega
  have htm : t.size ≤ maxLen := by unfold maxLen; omega
  by_cases hyes : (1 ≤ s.size ∧ s.size ≤ 16) ∧ t.size ≤ 200
  · obtain ⟨⟨hs0, hs1⟩, ht0⟩ := hyes
    go_wp2_with fail
    refine (implSignYes s t _ hs0 hs1 ht0 (unhide HT)).mono ?_
    rintro e w2 ⟨g2, cap2, rfl, ho2, hb⟩
    replace HT := hide ((unhide HT).below hb)
    replace HC := hide ((unhide HC).below hb)
    replace HK := hide ((unhide HK).trans (hb.mono (unhide HK).size))
    have HO2 := hide ho2
    have HS2 := hide (rowStrs (cap := cap2) (signB_len s t) ho2)
    clear ho2
    clear hb
    go_wp2_with fail
    refine (specSignYes s t _ hs0 hs1 ht0).mono ?_
    rintro e w3 ⟨g3, cap3, rfl, ho3, hb⟩
    replace HT := hide ((unhide HT).below hb)
    replace HC := hide ((unhide HC).below hb)
    replace HO2 := hide ((unhide HO2).below hb)
    replace HS2 := hide ((unhide HS2).below hb)
    replace HK := hide ((unhide HK).trans (hb.mono (unhide HK).size))
    have HS3 := hide (rowStrs (cap := cap3) (signB_len s t) ho3)
    clear ho3
    clear hb
    go_wp2_with fail
    refine (implPubYes s _ hs0 hs1 (unhide HT)).mono ?_
    rintro e w4 ⟨rfl, hb⟩
    replace HT := hide ((unhide HT).below hb)
    replace HC := hide ((unhide HC).below hb)
    replace HO2 := hide ((unhide HO2).below hb)
    replace HS2 := hide ((unhide HS2).below hb)
    replace HS3 := hide ((unhide HS3).below hb)
    replace HK := hide ((unhide HK).trans (hb.mono (unhide HK).size))
    clear hb
    go_wp2_with fail
    refine (specPubYes s _ hs0 hs1).mono ?_
    rintro e w5 ⟨rfl, hb⟩
    replace HT := hide ((unhide HT).below hb)
    replace HC := hide ((unhide HC).below hb)
    replace HO2 := hide ((unhide HO2).below hb)
    replace HS2 := hide ((unhide HS2).below hb)
    replace HS3 := hide ((unhide HS3).below hb)
    replace HK := hide ((unhide HK).trans (hb.mono (unhide HK).size))
    clear hb
    go_wp2_with fail
    refine (implKeysYes s _ hs0 hs1 (unhide HT)).mono ?_
    rintro e w6 ⟨g6, cap6, rfl, ho6, hb⟩
    replace HT := hide ((unhide HT).below hb)
    replace HC := hide ((unhide HC).below hb)
    replace HO2 := hide ((unhide HO2).below hb)
    replace HS2 := hide ((unhide HS2).below hb)
    replace HS3 := hide ((unhide HS3).below hb)
    replace HK := hide ((unhide HK).trans (hb.mono (unhide HK).size))
    have HO6 := hide ho6
    have HS6 := hide (rowStrs (cap := cap6) (keysB_len s) ho6)
    clear ho6
    clear hb
    go_wp2_with fail
    refine (specKeysYes s _ hs0 hs1).mono ?_
    rintro e w7 ⟨g7, cap7, rfl, ho7, hb⟩
    replace HT := hide ((unhide HT).below hb)
    replace HC := hide ((unhide HC).below hb)
    replace HO2 := hide ((unhide HO2).below hb)
    replace HS2 := hide ((unhide HS2).below hb)
    replace HS3 := hide ((unhide HS3).below hb)
    replace HO6 := hide ((unhide HO6).below hb)
    replace HS6 := hide ((unhide HS6).below hb)
    replace HK := hide ((unhide HK).trans (hb.mono (unhide HK).size))
    have HS7 := hide (rowStrs (cap := cap7) (keysB_len s) ho7)
    clear ho7
    clear hb
    go_wp2_with fail
    refine (sameStr _ _ (signB s t) _ (unhide HS2) (unhide HS3) (by rw [signB_len]; omega)).mono ?_
    rintro e w8 ⟨rfl, hb⟩
    replace HT := hide ((unhide HT).below hb)
    replace HC := hide ((unhide HC).below hb)
    replace HO2 := hide ((unhide HO2).below hb)
    replace HS2 := hide ((unhide HS2).below hb)
    replace HO6 := hide ((unhide HO6).below hb)
    replace HS6 := hide ((unhide HS6).below hb)
    replace HS7 := hide ((unhide HS7).below hb)
    replace HK := hide ((unhide HK).trans (hb.mono (unhide HK).size))
    clear HS3
    clear hb
    go_wp2_with fail
    refine (sameStr _ _ (keysB s) _ (unhide HS6) (unhide HS7) (by rw [keysB_len]; omega)).mono ?_
    rintro e w9 ⟨rfl, hb⟩
    replace HT := hide ((unhide HT).below hb)
    replace HC := hide ((unhide HC).below hb)
    replace HO2 := hide ((unhide HO2).below hb)
    replace HS2 := hide ((unhide HS2).below hb)
    replace HO6 := hide ((unhide HO6).below hb)
    replace HK := hide ((unhide HK).trans (hb.mono (unhide HK).size))
    clear HS6 HS7
    clear hb
    go_wp2_with fail
    refine (checkOwn s t _ ht0 _ (unhide HS2) (unhide HT)).mono ?_
    rintro e w20 ⟨rfl, hb⟩
    replace HT := hide ((unhide HT).below hb)
    replace HC := hide ((unhide HC).below hb)
    replace HO2 := hide ((unhide HO2).below hb)
    replace HS2 := hide ((unhide HS2).below hb)
    replace HO6 := hide ((unhide HO6).below hb)
    replace HK := hide ((unhide HK).trans (hb.mono (unhide HK).size))
    clear hb
    go_wp2_with fail
    refine (fromOwn s t _ ht0 _ (unhide HS2) (unhide HT)).mono ?_
    rintro e w21 ⟨rfl, hb⟩
    replace HT := hide ((unhide HT).below hb)
    replace HC := hide ((unhide HC).below hb)
    replace HO2 := hide ((unhide HO2).below hb)
    replace HO6 := hide ((unhide HO6).below hb)
    replace HK := hide ((unhide HK).trans (hb.mono (unhide HK).size))
    clear HS2
    clear hb
    go_wp2_with fail
    refine (implDigitsYes t _ ht0 (unhide HT)).mono ?_
    rintro e w22 ⟨g22, cap22, rfl, ho22, hb⟩
    replace HT := hide ((unhide HT).below hb)
    replace HC := hide ((unhide HC).below hb)
    replace HO2 := hide ((unhide HO2).below hb)
    replace HO6 := hide ((unhide HO6).below hb)
    replace HK := hide ((unhide HK).trans (hb.mono (unhide HK).size))
    have HO22 := hide ho22
    clear ho22
    clear hb
    go_wp2_with fail
    go_loopw [25, 26, 27, 169] (fun x y z i wr => ∃ k : Nat, k ≤ 11 ∧ i = .int .i64 k ∧ Below w22.heap.size w22 wr) (fun _ _ _ i _ => 11 - (intOf i).toNat)
    case atStart => exact ⟨0, Nat.zero_le _, rfl, by go_grown⟩
    case round =>
      obtain ⟨k, hk, rfl, kb⟩ := hrel
      have kl := kb.size
      by_cases hlt : k < 11
      · have hki : (k : Int) < 11 := by omega
        have hk0 : (0 : Int) ≤ (k : Int) := by omega
        have hcs : wr.cell? ⟨g2, k, none⟩ = some (.string (chainB (keyB s k) 0 ((digs t).getD k 0).toNat)) := by
          have h : wr.cell? ⟨g2, k, none⟩ = some (.string ((signB s t).getD k ByteArray.empty)) := ((unhide HO2).below kb).2.2.1 k hlt
          rwa [signB_at s t k hlt] at h
        have hck : wr.cell? ⟨g6, k, none⟩ = some (.string (keyB s k)) := by
          have h : wr.cell? ⟨g6, k, none⟩ = some (.string ((keysB s).getD k ByteArray.empty)) := ((unhide HO6).below kb).2.2.1 k hlt
          rwa [keysB_at s k hlt] at h
        have hcd : wr.cell? ⟨g22, k, none⟩ = some (.int .i64 ((digs t).getD k 0)) := ((unhide HO22).below kb).2.2.1 k hlt
        have hgs : g2 < wr.heap.size := ((unhide HO2).below kb).2.1
        obtain ⟨hd0, hd1⟩ := digs_at t k hlt
        obtain ⟨D, hD⟩ := Int.eq_ofNat_of_zero_le hd0
        rw [hD] at hcd hd1 hcs
        have hD15 : D ≤ 15 := by omega
        clear hD hd0
        have hDn : ((D : Int)).toNat = D := by omega
        rw [hDn] at hcs
        have HU := fun W => chainUp (keyB s k) D W (keyB_size s k) hD15
        have HTw := hide ((unhide HT).below kb)
        generalize chainB (keyB s k) 0 D = r at *
        generalize keyB s k = q at *
        clear hDn
        go_upto_region 21 with fail
        have hg6 : g6 < wr.heap.size := ((unhide HO6).below kb).2.1
        have hg22 : g22 < wr.heap.size := ((unhide HO22).below kb).2.1
        go_region_held3 (fun w' => w'.cell? ⟨g6, k, none⟩ = some (.string q) ∧ w'.cell? ⟨g22, k, none⟩ = some (.int .i64 (D : Int))) (go_keep)
          (first
            | (go_at_call 25; refine (HU _ ((unhide HTw).below (by go_grown))).mono ?_; rintro e w30 ⟨rfl, hb30⟩; have hp30 := kept hb30 g2 (by go_size); have hp31 := kept hb30 g6 (by go_size); have hp32 := kept hb30 g22 (by go_size); have k30 : Below w22.heap.size w22 w30 := (by exact Below.trans (by go_grown) (hb30.mono (by go_size))); clear hb30))
        all_goals go_wp2_with fail
        all_goals exact ⟨⟨k + 1, by omega, by go_num, k30⟩, by simp [intOf]; omega⟩
      · have hke : k = 11 := by omega
        have hki : ¬ (k : Int) < 11 := by omega
        replace HT := hide ((unhide HT).below kb)
        replace HC := hide ((unhide HC).below kb)
        replace HK := hide ((unhide HK).trans (kb.mono (unhide HK).size))
        clear kb HO2 HO6 HO22
        go_wp2_with fail
        refine (drawCheck _ n1 _ (unhide HC)).mono ?_
        rintro e w10 ⟨q, t2, v10, ss10, rfl, hq, ht2, hss10, hsl10, hb⟩
        replace HT := hide ((unhide HT).below hb)
        replace HC := hide ((unhide HC).below hb)
        replace HK := hide ((unhide HK).trans (hb.mono (unhide HK).size))
        have HS10 := hide hss10
        clear hss10
        clear hb
        have hqm : q.size ≤ maxLen := by unfold maxLen; omega
        have ht2m : t2.size ≤ maxLen := by unfold maxLen; omega
        obtain ⟨o1, o2, HCI, HCS⟩ := checkBoth q t2 v10 ss10 hqm ht2m (by omega)
        go_wp2_with fail
        refine (HCI _ (unhide HS10) (unhide HT)).mono ?_
        rintro e w11 ⟨rfl, hb⟩
        replace HT := hide ((unhide HT).below hb)
        replace HC := hide ((unhide HC).below hb)
        replace HS10 := hide ((unhide HS10).below hb)
        replace HK := hide ((unhide HK).trans (hb.mono (unhide HK).size))
        clear hb
        go_wp2_with fail
        refine (HCS _ (unhide HS10)).mono ?_
        rintro e w12 ⟨rfl, hb⟩
        replace HT := hide ((unhide HT).below hb)
        replace HC := hide ((unhide HC).below hb)
        replace HK := hide ((unhide HK).trans (hb.mono (unhide HK).size))
        clear HCI HCS HS10
        clear hb
        go_wp2_with fail
        refine (drawFrom _ n1 _ (unhide HC)).mono ?_
        rintro e w13 ⟨u, v13, ss13, rfl, hu, hss13, hsl13, hb⟩
        replace HT := hide ((unhide HT).below hb)
        replace HK := hide ((unhide HK).trans (hb.mono (unhide HK).size))
        have HS13 := hide hss13
        clear hss13 HC
        clear hb
        have hum : u.size ≤ maxLen := by unfold maxLen; omega
        obtain ⟨F, o3, HFI, HFS⟩ := fromBoth u v13 ss13 hum (by omega)
        go_wp2_with fail
        refine (HFI _ (unhide HS13) (unhide HT)).mono ?_
        rintro e w14 ⟨rfl, hb⟩
        replace HT := hide ((unhide HT).below hb)
        replace HS13 := hide ((unhide HS13).below hb)
        replace HK := hide ((unhide HK).trans (hb.mono (unhide HK).size))
        clear hb
        go_wp2_with fail
        refine (HFS _ (unhide HS13)).mono ?_
        rintro e w15 ⟨rfl, hb⟩
        replace HK := hide ((unhide HK).trans (hb.mono (unhide HK).size))
        clear HFI HFS HS13 HT
        clear hb
        have hfin := unhide HK
        go_wp2
        go_returns
        exact ⟨rfl, hfin⟩
  · have hno : ¬ ((1 ≤ s.size ∧ s.size ≤ 16) ∧ t.size ≤ 200) := hyes
    obtain ⟨P, O, HPI, HPS⟩ := pubBoth s hsm
    obtain ⟨ks, O2, hks, HKI, HKS⟩ := keysBoth s hsm
    go_wp2_with fail
    refine (implSignNo s t _ hsm htm hno (unhide HT)).mono ?_
    rintro e w2 ⟨rfl, hb⟩
    replace HT := hide ((unhide HT).below hb)
    replace HC := hide ((unhide HC).below hb)
    replace HK := hide ((unhide HK).trans (hb.mono (unhide HK).size))
    clear hb
    go_wp2_with fail
    refine (specSignNo s t _ hsm htm hno).mono ?_
    rintro e w3 ⟨rfl, hb⟩
    replace HT := hide ((unhide HT).below hb)
    replace HC := hide ((unhide HC).below hb)
    replace HK := hide ((unhide HK).trans (hb.mono (unhide HK).size))
    clear hb
    go_wp2_with fail
    refine (HPI _ (unhide HT)).mono ?_
    rintro e w4 ⟨rfl, hb⟩
    replace HT := hide ((unhide HT).below hb)
    replace HC := hide ((unhide HC).below hb)
    replace HK := hide ((unhide HK).trans (hb.mono (unhide HK).size))
    clear hb
    go_wp2_with fail
    refine (HPS _).mono ?_
    rintro e w5 ⟨rfl, hb⟩
    replace HT := hide ((unhide HT).below hb)
    replace HC := hide ((unhide HC).below hb)
    replace HK := hide ((unhide HK).trans (hb.mono (unhide HK).size))
    clear HPI HPS
    clear hb
    go_wp2_with fail
    refine (HKI _ (unhide HT)).mono ?_
    rintro e w6 ⟨v6, rfl, hs6, hb⟩
    replace HT := hide ((unhide HT).below hb)
    replace HC := hide ((unhide HC).below hb)
    replace HK := hide ((unhide HK).trans (hb.mono (unhide HK).size))
    have HS6 := hide hs6
    clear hs6
    clear hb
    go_wp2_with fail
    refine (HKS _).mono ?_
    rintro e w7 ⟨v7, rfl, hs7, hb⟩
    replace HT := hide ((unhide HT).below hb)
    replace HC := hide ((unhide HC).below hb)
    replace HS6 := hide ((unhide HS6).below hb)
    replace HK := hide ((unhide HK).trans (hb.mono (unhide HK).size))
    have HS7 := hide hs7
    clear hs7 HKI HKS
    clear hb
    go_wp2_with fail
    refine (sameStr _ _ [] _ (.inl ⟨_, _, rfl, rfl⟩) (.inl ⟨_, _, rfl, rfl⟩) (by simp)).mono ?_
    rintro e w8 ⟨rfl, hb⟩
    replace HT := hide ((unhide HT).below hb)
    replace HC := hide ((unhide HC).below hb)
    replace HS6 := hide ((unhide HS6).below hb)
    replace HS7 := hide ((unhide HS7).below hb)
    replace HK := hide ((unhide HK).trans (hb.mono (unhide HK).size))
    clear hb
    go_wp2_with fail
    refine (sameStr _ _ ks _ (unhide HS6) (unhide HS7) (by omega)).mono ?_
    rintro e w9 ⟨rfl, hb⟩
    replace HT := hide ((unhide HT).below hb)
    replace HC := hide ((unhide HC).below hb)
    replace HK := hide ((unhide HK).trans (hb.mono (unhide HK).size))
    clear HS6 HS7
    clear hb
    go_wp2_with fail
    refine (drawCheck _ n1 _ (unhide HC)).mono ?_
    rintro e w10 ⟨q, t2, v10, ss10, rfl, hq, ht2, hss10, hsl10, hb⟩
    replace HT := hide ((unhide HT).below hb)
    replace HC := hide ((unhide HC).below hb)
    replace HK := hide ((unhide HK).trans (hb.mono (unhide HK).size))
    have HS10 := hide hss10
    clear hss10
    clear hb
    have hqm : q.size ≤ maxLen := by unfold maxLen; omega
    have ht2m : t2.size ≤ maxLen := by unfold maxLen; omega
    obtain ⟨o1, o2, HCI, HCS⟩ := checkBoth q t2 v10 ss10 hqm ht2m (by omega)
    go_wp2_with fail
    refine (HCI _ (unhide HS10) (unhide HT)).mono ?_
    rintro e w11 ⟨rfl, hb⟩
    replace HT := hide ((unhide HT).below hb)
    replace HC := hide ((unhide HC).below hb)
    replace HS10 := hide ((unhide HS10).below hb)
    replace HK := hide ((unhide HK).trans (hb.mono (unhide HK).size))
    clear hb
    go_wp2_with fail
    refine (HCS _ (unhide HS10)).mono ?_
    rintro e w12 ⟨rfl, hb⟩
    replace HT := hide ((unhide HT).below hb)
    replace HC := hide ((unhide HC).below hb)
    replace HK := hide ((unhide HK).trans (hb.mono (unhide HK).size))
    clear HCI HCS HS10
    clear hb
    go_wp2_with fail
    refine (drawFrom _ n1 _ (unhide HC)).mono ?_
    rintro e w13 ⟨u, v13, ss13, rfl, hu, hss13, hsl13, hb⟩
    replace HT := hide ((unhide HT).below hb)
    replace HK := hide ((unhide HK).trans (hb.mono (unhide HK).size))
    have HS13 := hide hss13
    clear hss13 HC
    clear hb
    have hum : u.size ≤ maxLen := by unfold maxLen; omega
    obtain ⟨F, o3, HFI, HFS⟩ := fromBoth u v13 ss13 hum (by omega)
    go_wp2_with fail
    refine (HFI _ (unhide HS13) (unhide HT)).mono ?_
    rintro e w14 ⟨rfl, hb⟩
    replace HT := hide ((unhide HT).below hb)
    replace HS13 := hide ((unhide HS13).below hb)
    replace HK := hide ((unhide HK).trans (hb.mono (unhide HK).size))
    clear hb
    go_wp2_with fail
    refine (HFS _ (unhide HS13)).mono ?_
    rintro e w15 ⟨rfl, hb⟩
    replace HK := hide ((unhide HK).trans (hb.mono (unhide HK).size))
    clear HFI HFS HS13 HT
    clear hb
    have hfin := unhide HK
    go_wp2
    go_returns
    exact ⟨rfl, hfin⟩

set_option maxRecDepth 100000 in
set_option maxHeartbeats 800000 in
theorem walk (v0 : Value) (n0 : Nat) (h0 : n0 ≤ 140737488351232) (v1 : Value) (n1 : Nat) (h1 : n1 ≤ 140737488351232) (w : World) (ht : Table w) (hb0 : ByteRow w v0 n0) (hb1 : ByteRow w v1 n1) :
    Calls Tryd.prog 3 #[v0, v1] w fun e w' => e = .returned (.bool true) ∧ Below w.heap.size w w' := by
  by_cases hn : n0 + n1 ≤ 1048576
  · exact walk0 v0 n0 v1 n1 w ht (hb0.code (by omega)) (hb1.code (by omega)) hn
  · obtain ⟨ad0, c0, rfl, _⟩ := hb0
    obtain ⟨ad1, c1, rfl, _⟩ := hb1
    have hbig : (1048576 : Int) < (n0 : Int) + (n1 : Int) := by omega
    go_enter Tryd.func3, Tryd.ntmps3
    go_wp2
    go_returns
    exact ⟨rfl, by go_grown⟩

theorem own : ownKnob Tryd.prog.godebug = none := by kernel_rfl
theorem laidOut : laidOutB Tryd.prog = true := by kernel_rfl
set_option maxRecDepth 100000 in
theorem contract (H : Type) (enc : TypeId × Value → H) (W : World) (base : Nat) (args : Array Value) (ds gs : List (DataW H)) (before : List MemPlace)
    (hval : ∀ (j : Nat) t v, Tryd.f3.params[j]? = some t → args[j]? = some v → Value.okWide Tryd.prog W .any base t v)
    (hW : DataW.Whole enc Tryd.prog Tryd.f3.params.toList Rows.fnOnceSpec.vars false W args.toList ds gs before) (hL : laidMetH Tryd.prog Rows.fnOnceRow.laid W) (hsz : (DataW.weightsEach Tryd.prog (Tryd.f3.params.toList ++ (OpenSpec.ofChange Rows.fnOnceSpec).bare.plain.varTypes Tryd.prog) (ds ++ gs)).all (· ≤ reachBytes) = true) :
    Calls Tryd.prog 3 args W fun e W' => ∃ v, e = .returned v ∧ Rows.fnOnceSpec.post enc Tryd.prog Tryd.f3 false true false false W args v W' := by
  have tab := table_of hL
  have hW' := hW
  obtain ⟨p, q, hA0, hV, rfl, hfz, hnd⟩ := hW
  have hA : DataW.TrodAll enc Tryd.prog W 0 (fun _ => true) true Tryd.f3.params.toList args.toList ds p := hA0
  rw [Tryd.params3] at hA hval
  obtain ⟨v0, vs0, d0, ds0, p0, q0, hargs, rfl, rfl, h0, r0⟩ := trodAll_cons hA
  obtain ⟨v1, vs1, d1, ds1, p1, q1, rfl, rfl, rfl, h1, r1⟩ := trodAll_cons r0
  obtain ⟨rfl, rfl, rfl⟩ := trodAll_nil r1
  obtain rfl : args = #[v0, v1] := by cases args; simp_all
  obtain ⟨g, t, cs, fuel, d, pv, rfl, hg, hty, hv, htr, rfl⟩ := trodVars_one hV
  obtain rfl := Option.some.inj (gTab.symm.trans hg)
  obtain rfl := Option.some.inj (gTabType.symm.trans hty)
  have kv : DataW.Trod enc Tryd.prog W 0 (fun _ => true) true 148 (.agg cs) d pv := ⟨fuel, htr⟩
  have ltv : ∀ x ∈ pv, x.block < W.heap.size := DataW.trod_lt fuel _ _ _ htr
  obtain ⟨ad0, len0, cap0, rfl⟩ := okWide_slice Tryd.underlying22 (hval 0 22 v0 rfl rfl)
  have kk0 := h0
  have lt0 : ∀ x ∈ p0, x.block < W.heap.size := by obtain ⟨m, hm⟩ := kk0; exact DataW.trod_lt m _ _ _ hm
  obtain ⟨hbr0, hbn0⟩ := bytes_of h0 hsz (j := 0) (by rw [Tryd.params3]; rfl) rfl
  obtain ⟨ad1, len1, cap1, rfl⟩ := okWide_slice Tryd.underlying22 (hval 1 22 v1 rfl rfl)
  have kk1 := h1
  have lt1 : ∀ x ∈ p1, x.block < W.heap.size := by obtain ⟨m, hm⟩ := kk1; exact DataW.trod_lt m _ _ _ hm
  obtain ⟨hbr1, hbn1⟩ := bytes_of h1 hsz (j := 1) (by rw [Tryd.params3]; rfl) rfl
  clear hA0
  refine (walk _ len0 hbn0 _ len1 hbn1 W tab hbr0 hbr1).mono fun e W' ⟨he, bel⟩ => ?_
  subst he
  obtain ⟨f2, hf2⟩ := Below.trod laidOut (by kernel_rfl) (of_decide_eq_true (by kernel_rfl)) kv bel ltv
  exact ⟨_, rfl, _, _, _, [], _, _, hW', trodAll_mk1 (shut_bool Tryd.underlying4 _), (trodAll_cons_mk (Below.trod laidOut (by kernel_rfl) (of_decide_eq_true (by kernel_rfl)) kk0 bel lt0) (trodAll_cons_mk (Below.trod laidOut (by kernel_rfl) (of_decide_eq_true (by kernel_rfl)) kk1 bel lt1) trodAll_mk0)), ⟨0, 148, cs, f2, pv, [], gTab, gTabType, var?_below bel gTab tab.1 hv, hf2, rfl, rfl⟩, bel.frame _, fun h => by cases h⟩

theorem reads (os : Os) {H : Type} (enc : TypeId × Value → H) : ∃ places, DataW.whole enc Tryd.prog (({ World.holding Tryd.prog os ⟨#[], #[], []⟩ with heap := (World.holding Tryd.prog os ⟨#[], #[], []⟩).heap.modify 0 layTab } : World).forCall (fun _ _ => 0) ⟨#[], #[.slice none 0 0, .slice none 0 0], []⟩).memory Tryd.f3.params.toList Rows.fnOnceSpec.vars false (#[.slice none 0 0, .slice none 0 0] : Array Value).toList 16 = some ([.nil, .nil], [Rows.laid_loop_example_g00537_impl_pieceWeights], places) :=
  ⟨MemPlace.row ⟨0, 0, none⟩ 8, by kernel_rfl⟩
theorem laid_met (os : Os) : laidMet Tryd.prog Rows.fnOnceRow.laid (({ World.holding Tryd.prog os ⟨#[], #[], []⟩ with heap := (World.holding Tryd.prog os ⟨#[], #[], []⟩).heap.modify 0 layTab } : World).forCall (fun _ _ => 0) ⟨#[], #[.slice none 0 0, .slice none 0 0], []⟩).memory :=
  laidMet_of_run' 16 (by kernel_rfl) (by kernel_rfl)
set_option maxRecDepth 100000 in
theorem lifted (os : Os) (started : os.Started) (H : Type) (enc : TypeId × Value → H) (F : Stop.Interp) :
    ReturnsInHanded {} Tryd.checked os 3 .any ((OpenSpec.ofChange Rows.fnOnceSpec).preRow enc Tryd.prog Tryd.f3 Rows.fnOnceRow.domain false Rows.fnOnceRow.laid) (((OpenSpec.ofChange Rows.fnOnceSpec).at F).post enc Tryd.prog Tryd.f3 false true false false) := by
  obtain ⟨places, hx⟩ := reads os enc
  refine returnsInHanded_of_row (C := Tryd.checked) (s := OpenSpec.ofChange Rows.fnOnceSpec) own started (by kernel_rfl) Tryd.func3
    (witness_row_at (enc := enc) (C := Tryd.checked) false ({ World.holding Tryd.prog os ⟨#[], #[], []⟩ with heap := (World.holding Tryd.prog os ⟨#[], #[], []⟩).heap.modify 0 layTab } : World) #[.slice none 0 0, .slice none 0 0] rfl (by kernel_rfl) (by kernel_rfl) (by kernel_rfl)
      (OpenSpec.preRow_of_cond 16 hx (by kernel_rfl) (fun k hk => by cases hk) (by kernel_rfl) (laid_met os))) ?_
  intro W base args ds gs before hval hW _ _ hsz hL _ _
  exact contract H enc W base args ds gs before hval hW hL hsz
theorem said : Rows.FnOnceSaid :=
  OpenClaim.holds_of_cond 3 Tryd.f3 rfl rfl rfl rfl rfl rfl rfl ⟨rfl, rfl, rfl, rfl, rfl⟩ rfl rfl rfl rfl rfl (by kernel_rfl) Tryd.func3 (by kernel_rfl)
    (of_decide_eq_true (by kernel_rfl)) (by unfold Func.isWrapper; first | (rw [if_pos (by decide +kernel)]; kernel_rfl) | (rw [if_neg (by decide +kernel)]; exact ⟨rfl, rfl⟩))
    (fun os started H enc _ F => by rw [OpenClaim.pre_eq_preRow]; exact lifted os started H enc F)
theorem plain (f : FuncId) (fn : Func) (hf : Tryd.pinned.checked.prog.funcNamed Rows.fnOnceRow.func = some f) (hfn : Tryd.pinned.checked.prog.funcs[f]? = some fn) :
    false = Tryd.pinned.checked.prog.looks [] ∧ ∀ (j : Nat) t, fn.params[j]? = some t → Tryd.pinned.checked.prog.wantsStandIn t = false := by
  obtain rfl : f = 3 := Option.some.inj ((show Tryd.prog.funcNamed Rows.fnOnceRow.func = some 3 by kernel_rfl).symm.trans hf) |>.symm
  obtain rfl : fn = Tryd.f3 := (Option.some.inj (Tryd.func3.symm.trans hfn)).symm
  refine ⟨by kernel_rfl, fun j t ht => ?_⟩
  rw [Tryd.params3] at ht
  have hm : t ∈ [22, 22] := by simpa using Array.mem_of_getElem? ht
  have hall : ([22, 22].all fun u => !Tryd.prog.wantsStandIn u) = true := by kernel_rfl
  exact (show Tryd.prog.wantsStandIn t = false by simpa using List.all_eq_true.1 hall t hm)
theorem card : Rows.FnOnceCardSaid :=
  Claim7.holds_tied_plain_at .later [] _ _ _ _ said (fun _ h => by cases h) (by kernel_rfl) (fun _ h => by cases h) fnOnce_row_tie rfl ⟨rfl, rfl⟩ (by kernel_rfl) rfl plain (by kernel_rfl)
end Go.Proofs.YtemkkofjakpjiaaDoor.fnOnce
namespace Go.Proofs.YtemkkofjakpjiaaDoor
theorem fnOnce_card_holds : Rows.FnOnceCardSaid := fnOnce.card
#print axioms fnOnce_card_holds
end Go.Proofs.YtemkkofjakpjiaaDoor
