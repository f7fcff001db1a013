/- At every two lists of bytes the function FnSeals returns true and leaves its arguments as they were: a signer seals as many texts as it has keys, each with another one, and each is held by its top. The table of weights lies as the program's text lays it (the card ties that). No other condition. -/
import Derived.Test.YtemkkofjakpjiaaDoorDoor
import Derived.Test.YtemkkofjakpjiaaDoorBothS
namespace Go.Proofs.YtemkkofjakpjiaaDoor.fnSeals
open Go.ChangeShapes Go.WideShapes Go.ChangeAt Go.RowKit Go.Joins
open Go.ChangeMaps (open_string shut_string)
set_option linter.unusedVariables false

theorem signer_next {s : ByteArray} {N : Nat} (h : SignerOk s N) (hn : (N : Int) ≠ 8) : SignerOk s ((N : Int) + 1) := ⟨h.1, by have := h.2; omega, by have := h.2; omega⟩
set_option maxRecDepth 100000 in
set_option maxHeartbeats 12800000 in
theorem walk0 (v0 : Value) (n0 : Nat) (v1 : Value) (n1 : Nat) (w : World) (ht : Table w) (hc0 : CodeAt w v0 n0) (hc1 : CodeAt w v1 n1) (hn : n0 + n1 ≤ 1048576) :
    Calls Tryd.prog 4 #[v0, v1] w fun e w' => e = .returned (.bool true) ∧ Below w.heap.size w w' := by
  obtain ⟨ad0, c0, rfl⟩ : ∃ ad c, v0 = .slice ad n0 c := by
    obtain ⟨ad, c, e, _⟩ := hc0
    exact ⟨ad, c, e⟩
  obtain ⟨ad1, c1, rfl⟩ : ∃ ad c, v1 = .slice ad n1 c := by
    obtain ⟨ad, c, e, _⟩ := hc1
    exact ⟨ad, c, e⟩
  have hbig : ¬ (1048576 : Int) < (n0 : Int) + (n1 : Int) := by omega
  have HD := drawSealText _ n0 w hc0
  have HT := hide ht
  have HC := hide hc1
  have HK : Hid (Below w.heap.size w w) := Below.refl _ _
  clear ht hc0 hc1
  go_enter Tryd.func4, Tryd.ntmps4
  go_wp2_with fail
  refine (HD).mono ?_
  rintro e w1 ⟨s, u, t, rfl, hs, hu, htt, hx1⟩
  have hb1 : Below w.heap.size w w1 := Below.trans (by go_grown) (hx1.mono (by go_size))
  replace HT := hide ((unhide HT).below hb1)
  replace HC := hide ((unhide HC).below hb1)
  replace HK := hide ((unhide HK).trans (hb1.mono (unhide HK).size))
  have hsm : s.size ≤ maxLen := by unfold maxLen; omega
  have htm : t.size ≤ maxLen := by unfold maxLen; omega
  clear HD hx1 hb1
  by_cases hyes : SealYes s u t
  · have hn0 := hyes.1.2.1
    obtain ⟨N, rfl⟩ := Int.eq_ofNat_of_zero_le hn0
    have hN : N < 8 := by have := hyes.1.2; have := hyes.2.2; omega
    have HSP := fun W => specTextYes s t N W hsm hyes
    have HIM := fun W hT => implTextSYes s t N W hsm hyes hT
    have HLI := fun W => implLeftYes s N W hsm hyes.1
    have HLS := fun W => specLeftYes s N W hsm hyes.1
    have HGI := fun W => implSigner s N W hsm
    rw [signerB_true hyes.1] at HGI
    have hnx := signer_next hyes.1 hyes.2.2
    have HL2 := fun W => implLeftYes s ((N : Int) + 1) W hsm hnx
    simp only [show (8 : Int) - ((N : Int) + 1) = 8 - (N : Int) - 1 from by omega] at HL2
    have hn80 : ¬ (8 : Int) - (N : Int) = 0 := by omega
    have hn81 : IntKind.i64.wrap ((8 : Int) - (N : Int) - 1) = 8 - (N : Int) - 1 := by rw [IntKind.wrap_i64]; omega
    have HG2 := fun W => implSigner s ((N : Int) + 1) W hsm
    rw [signerB_true hnx] at HG2
    have HTI := fun W hT => implTopYes s W hyes.1.1.1 hyes.1.1.2 hT
    have HCO := fun v1 v2 W h1 hw hT => checkSealOwn s t N v1 v2 hN hyes.2.1 W h1 hw hT
    have hL4 := signB_len (leafSeed s N) t
    have hL5 := wayB_len s N
    clear hyes hnx
    generalize signB (leafSeed s N) t = L4 at *
    generalize wayB s N = L5 at *
    generalize topB s = TB at *
    go_wp2_with fail
    refine (HIM _ ((unhide HT).below (by go_grown))).mono ?_
    rintro e w2 ⟨g4, c4, g5, c5, rfl, o4, o5, hne, hx2⟩
    have hb2 : Below w1.heap.size w1 w2 := Below.trans (by go_grown) (hx2.mono (by go_size))
    replace HT := hide ((unhide HT).below hb2)
    replace HC := hide ((unhide HC).below hb2)
    replace HK := hide ((unhide HK).trans (hb2.mono (unhide HK).size))
    have qBX := boxOf1 hx2
    have BX := hide qBX
    clear qBX
    have BXz := (unhide BX).1
    have BXc0 := (unhide BX).2.1 0 _ rfl
    have BXc1 := (unhide BX).2.1 1 _ rfl
    have HS4 := hide (row11 (cap := c4) hL4 o4)
    have HS5 := hide (row3 (cap := c5) hL5 o5)
    clear o4 o5
    go_wp2_with fail
    refine (HSP _).mono ?_
    rintro e w3 ⟨q4, d4, q5, d5, rfl, o4, o5, hnq, hx3⟩
    have hb3 : Below w2.heap.size w2 w3 := Below.trans (by go_grown) (hx3.mono (by go_size))
    replace HT := hide ((unhide HT).below hb3)
    replace HC := hide ((unhide HC).below hb3)
    (try clear BXz BXc0 BXc1)
    replace BX := hide ((unhide BX).below hb3)
    have BXz := (unhide BX).1
    have BXc0 := (unhide BX).2.1 0 _ rfl
    have BXc1 := (unhide BX).2.1 1 _ rfl
    replace HS4 := hide ((unhide HS4).below hb3)
    replace HS5 := hide ((unhide HS5).below hb3)
    replace HK := hide ((unhide HK).trans (hb3.mono (unhide HK).size))
    obtain ⟨qBP, qBQ⟩ := boxOf2 hx3
    have BP := hide qBP
    clear qBP
    have BPz := (unhide BP).1
    have BPc0 := (unhide BP).2.1 0 _ rfl
    have BPc1 := (unhide BP).2.1 1 _ rfl
    have BQ := hide qBQ
    clear qBQ
    have BQz := (unhide BQ).1
    have BQc0 := (unhide BQ).2.1 0 _ rfl
    have BQc1 := (unhide BQ).2.1 1 _ rfl
    have BQc2 := (unhide BQ).2.1 2 _ rfl
    have HQ4 := hide (row11 (cap := d4) hL4 o4)
    have HQ5 := hide (row3 (cap := d5) hL5 o5)
    clear o4 o5 hx2 hb2
    go_wp2_with fail
    refine (HLI _).mono ?_
    rintro e w4 ⟨rfl, hx4⟩
    have hb4 : Below w3.heap.size w3 w4 := Below.trans (by go_grown) (hx4.mono (by go_size))
    replace HT := hide ((unhide HT).below hb4)
    replace HC := hide ((unhide HC).below hb4)
    (try clear BXz BXc0 BXc1)
    replace BX := hide ((unhide BX).below hb4)
    have BXz := (unhide BX).1
    have BXc0 := (unhide BX).2.1 0 _ rfl
    have BXc1 := (unhide BX).2.1 1 _ rfl
    replace HS4 := hide ((unhide HS4).below hb4)
    replace HS5 := hide ((unhide HS5).below hb4)
    (try clear BPz BPc0 BPc1)
    replace BP := hide ((unhide BP).below hb4)
    have BPz := (unhide BP).1
    have BPc0 := (unhide BP).2.1 0 _ rfl
    have BPc1 := (unhide BP).2.1 1 _ rfl
    (try clear BQz BQc0 BQc1 BQc2)
    replace BQ := hide ((unhide BQ).below hb4)
    have BQz := (unhide BQ).1
    have BQc0 := (unhide BQ).2.1 0 _ rfl
    have BQc1 := (unhide BQ).2.1 1 _ rfl
    have BQc2 := (unhide BQ).2.1 2 _ rfl
    replace HQ4 := hide ((unhide HQ4).below hb4)
    replace HQ5 := hide ((unhide HQ5).below hb4)
    replace HK := hide ((unhide HK).trans (hb4.mono (unhide HK).size))
    obtain ⟨qBR, qBS⟩ := boxOf2 hx4
    have BR := hide qBR
    clear qBR
    have BRz := (unhide BR).1
    have BRc0 := (unhide BR).2.1 0 _ rfl
    have BRc1 := (unhide BR).2.1 1 _ rfl
    have BS := hide qBS
    clear qBS
    have BSz := (unhide BS).1
    have BSc0 := (unhide BS).2.1 0 _ rfl
    have BSc1 := (unhide BS).2.1 1 _ rfl
    have BSc2 := (unhide BS).2.1 2 _ rfl
    clear hx3 hb3
    go_wp2_with fail
    refine (HLS _).mono ?_
    rintro e w5 ⟨rfl, hx5⟩
    have hb5 : Below w4.heap.size w4 w5 := Below.trans (by go_grown) (hx5.mono (by go_size))
    replace HT := hide ((unhide HT).below hb5)
    replace HC := hide ((unhide HC).below hb5)
    (try clear BXz BXc0 BXc1)
    replace BX := hide ((unhide BX).below hb5)
    have BXz := (unhide BX).1
    have BXc0 := (unhide BX).2.1 0 _ rfl
    have BXc1 := (unhide BX).2.1 1 _ rfl
    replace HS4 := hide ((unhide HS4).below hb5)
    replace HS5 := hide ((unhide HS5).below hb5)
    (try clear BPz BPc0 BPc1)
    replace BP := hide ((unhide BP).below hb5)
    have BPz := (unhide BP).1
    have BPc0 := (unhide BP).2.1 0 _ rfl
    have BPc1 := (unhide BP).2.1 1 _ rfl
    (try clear BQz BQc0 BQc1 BQc2)
    replace BQ := hide ((unhide BQ).below hb5)
    have BQz := (unhide BQ).1
    have BQc0 := (unhide BQ).2.1 0 _ rfl
    have BQc1 := (unhide BQ).2.1 1 _ rfl
    have BQc2 := (unhide BQ).2.1 2 _ rfl
    replace HQ4 := hide ((unhide HQ4).below hb5)
    replace HQ5 := hide ((unhide HQ5).below hb5)
    (try clear BRz BRc0 BRc1)
    replace BR := hide ((unhide BR).below hb5)
    have BRz := (unhide BR).1
    have BRc0 := (unhide BR).2.1 0 _ rfl
    have BRc1 := (unhide BR).2.1 1 _ rfl
    (try clear BSz BSc0 BSc1 BSc2)
    replace BS := hide ((unhide BS).below hb5)
    have BSz := (unhide BS).1
    have BSc0 := (unhide BS).2.1 0 _ rfl
    have BSc1 := (unhide BS).2.1 1 _ rfl
    have BSc2 := (unhide BS).2.1 2 _ rfl
    replace HK := hide ((unhide HK).trans (hb5.mono (unhide HK).size))
    clear hx4 hb4
    go_wp2_with fail
    refine (sameSeal N _ _ _ _ L4 L5 _ (unhide HS4) (unhide HS5) (unhide HQ4) (unhide HQ5) (by omega) (by omega)).mono ?_
    rintro e w6 ⟨rfl, hx6⟩
    have hb6 : Below w5.heap.size w5 w6 := Below.trans (by go_grown) (hx6.mono (by go_size))
    replace HT := hide ((unhide HT).below hb6)
    replace HC := hide ((unhide HC).below hb6)
    (try clear BXz BXc0 BXc1)
    replace BX := hide ((unhide BX).below hb6)
    have BXz := (unhide BX).1
    have BXc0 := (unhide BX).2.1 0 _ rfl
    have BXc1 := (unhide BX).2.1 1 _ rfl
    replace HS4 := hide ((unhide HS4).below hb6)
    replace HS5 := hide ((unhide HS5).below hb6)
    (try clear BPz BPc0 BPc1)
    replace BP := hide ((unhide BP).below hb6)
    have BPz := (unhide BP).1
    have BPc0 := (unhide BP).2.1 0 _ rfl
    have BPc1 := (unhide BP).2.1 1 _ rfl
    (try clear BQz BQc0 BQc1 BQc2)
    replace BQ := hide ((unhide BQ).below hb6)
    have BQz := (unhide BQ).1
    have BQc0 := (unhide BQ).2.1 0 _ rfl
    have BQc1 := (unhide BQ).2.1 1 _ rfl
    have BQc2 := (unhide BQ).2.1 2 _ rfl
    replace HK := hide ((unhide HK).trans (hb6.mono (unhide HK).size))
    clear hx5 hb5 BR BS BRz BSz BRc0 BRc1 BSc0 BSc1 BSc2 HQ4 HQ5
    go_wp2_with fail
    refine (HGI _).mono ?_
    rintro e w7 ⟨rfl, hx7⟩
    have hb7 : Below w6.heap.size w6 w7 := Below.trans (by go_grown) (hx7.mono (by go_size))
    replace HT := hide ((unhide HT).below hb7)
    replace HC := hide ((unhide HC).below hb7)
    (try clear BXz BXc0 BXc1)
    replace BX := hide ((unhide BX).below hb7)
    have BXz := (unhide BX).1
    have BXc0 := (unhide BX).2.1 0 _ rfl
    have BXc1 := (unhide BX).2.1 1 _ rfl
    replace HS4 := hide ((unhide HS4).below hb7)
    replace HS5 := hide ((unhide HS5).below hb7)
    (try clear BPz BPc0 BPc1)
    replace BP := hide ((unhide BP).below hb7)
    have BPz := (unhide BP).1
    have BPc0 := (unhide BP).2.1 0 _ rfl
    have BPc1 := (unhide BP).2.1 1 _ rfl
    (try clear BQz BQc0 BQc1 BQc2)
    replace BQ := hide ((unhide BQ).below hb7)
    have BQz := (unhide BQ).1
    have BQc0 := (unhide BQ).2.1 0 _ rfl
    have BQc1 := (unhide BQ).2.1 1 _ rfl
    have BQc2 := (unhide BQ).2.1 2 _ rfl
    replace HK := hide ((unhide HK).trans (hb7.mono (unhide HK).size))
    clear hx6 hb6
    go_wp2_with fail
    refine (HTI _ (unhide HT)).mono ?_
    rintro e w8 ⟨rfl, hx8⟩
    have hb8 : Below w7.heap.size w7 w8 := Below.trans (by go_grown) (hx8.mono (by go_size))
    replace HT := hide ((unhide HT).below hb8)
    replace HC := hide ((unhide HC).below hb8)
    (try clear BXz BXc0 BXc1)
    replace BX := hide ((unhide BX).below hb8)
    have BXz := (unhide BX).1
    have BXc0 := (unhide BX).2.1 0 _ rfl
    have BXc1 := (unhide BX).2.1 1 _ rfl
    replace HS4 := hide ((unhide HS4).below hb8)
    replace HS5 := hide ((unhide HS5).below hb8)
    (try clear BPz BPc0 BPc1)
    replace BP := hide ((unhide BP).below hb8)
    have BPz := (unhide BP).1
    have BPc0 := (unhide BP).2.1 0 _ rfl
    have BPc1 := (unhide BP).2.1 1 _ rfl
    (try clear BQz BQc0 BQc1 BQc2)
    replace BQ := hide ((unhide BQ).below hb8)
    have BQz := (unhide BQ).1
    have BQc0 := (unhide BQ).2.1 0 _ rfl
    have BQc1 := (unhide BQ).2.1 1 _ rfl
    have BQc2 := (unhide BQ).2.1 2 _ rfl
    replace HK := hide ((unhide HK).trans (hb8.mono (unhide HK).size))
    clear hx7 hb7
    go_wp2_with fail
    refine (HCO _ _ _ (unhide HS4) (unhide HS5) (unhide HT)).mono ?_
    rintro e w9 ⟨rfl, hx9⟩
    have hb9 : Below w8.heap.size w8 w9 := Below.trans (by go_grown) (hx9.mono (by go_size))
    replace HT := hide ((unhide HT).below hb9)
    replace HC := hide ((unhide HC).below hb9)
    (try clear BXz BXc0 BXc1)
    replace BX := hide ((unhide BX).below hb9)
    have BXz := (unhide BX).1
    have BXc0 := (unhide BX).2.1 0 _ rfl
    have BXc1 := (unhide BX).2.1 1 _ rfl
    (try clear BPz BPc0 BPc1)
    replace BP := hide ((unhide BP).below hb9)
    have BPz := (unhide BP).1
    have BPc0 := (unhide BP).2.1 0 _ rfl
    have BPc1 := (unhide BP).2.1 1 _ rfl
    (try clear BQz BQc0 BQc1 BQc2)
    replace BQ := hide ((unhide BQ).below hb9)
    have BQz := (unhide BQ).1
    have BQc0 := (unhide BQ).2.1 0 _ rfl
    have BQc1 := (unhide BQ).2.1 1 _ rfl
    have BQc2 := (unhide BQ).2.1 2 _ rfl
    replace HK := hide ((unhide HK).trans (hb9.mono (unhide HK).size))
    clear hx8 hb8
    go_wp2_with fail
    refine (HL2 _).mono ?_
    rintro e w10 ⟨rfl, hx10⟩
    have hb10 : Below w9.heap.size w9 w10 := Below.trans (by go_grown) (hx10.mono (by go_size))
    replace HT := hide ((unhide HT).below hb10)
    replace HC := hide ((unhide HC).below hb10)
    (try clear BXz BXc0 BXc1)
    replace BX := hide ((unhide BX).below hb10)
    have BXz := (unhide BX).1
    have BXc0 := (unhide BX).2.1 0 _ rfl
    have BXc1 := (unhide BX).2.1 1 _ rfl
    (try clear BPz BPc0 BPc1)
    replace BP := hide ((unhide BP).below hb10)
    have BPz := (unhide BP).1
    have BPc0 := (unhide BP).2.1 0 _ rfl
    have BPc1 := (unhide BP).2.1 1 _ rfl
    (try clear BQz BQc0 BQc1 BQc2)
    replace BQ := hide ((unhide BQ).below hb10)
    have BQz := (unhide BQ).1
    have BQc0 := (unhide BQ).2.1 0 _ rfl
    have BQc1 := (unhide BQ).2.1 1 _ rfl
    have BQc2 := (unhide BQ).2.1 2 _ rfl
    replace HK := hide ((unhide HK).trans (hb10.mono (unhide HK).size))
    clear hx9 hb9
    go_wp2_with fail
    refine (HG2 _).mono ?_
    rintro e w11 ⟨rfl, hx11⟩
    have hb11 : Below w10.heap.size w10 w11 := Below.trans (by go_grown) (hx11.mono (by go_size))
    replace HT := hide ((unhide HT).below hb11)
    replace HC := hide ((unhide HC).below hb11)
    replace HK := hide ((unhide HK).trans (hb11.mono (unhide HK).size))
    clear hx10 hb10 BX BP BQ BXz BXc0 BXc1 BPz BPc0 BPc1 BQz BQc0 BQc1 BQc2 HS4 HS5 HL2 HG2 HGI HLI HLS HSP HIM HTI HCO
    go_wp2_with fail
    refine (drawCheckSeal _ n1 _ (unhide HC)).mono ?_
    rintro e w12 ⟨top, q, k, y1, y2, ss, ws, rfl, htop, hq, hy1, hy2, hl1, hl2, hx12⟩
    have hb12 : Below w11.heap.size w11 w12 := Below.trans (by go_grown) (hx12.mono (by go_size))
    replace HT := hide ((unhide HT).below hb12)
    replace HK := hide ((unhide HK).trans (hb12.mono (unhide HK).size))
    have hpm : top.size ≤ maxLen := by unfold maxLen; omega
    have hqm : q.size ≤ maxLen := by unfold maxLen; omega
    obtain ⟨a1, b1, r1, rfl⟩ := strs_slice hy1
    obtain ⟨a2, b2, r2, rfl⟩ := strs_slice hy2
    have HY1 := hide hy1
    have HY2 := hide hy2
    clear hx12 hb12 hy1 hy2
    obtain ⟨o1, o2, HI, HP⟩ := checkTBoth top q k ss ws hpm hqm (by omega) (by omega)
    go_wp2_with fail
    refine (HI _ _ _ ((unhide HY1).below (by go_grown)) ((unhide HY2).below (by go_grown)) ((unhide HT).below (by go_grown))).mono ?_
    rintro e w13 ⟨rfl, hx13⟩
    have hb13 : Below w12.heap.size w12 w13 := Below.trans (by go_grown) (hx13.mono (by go_size))
    replace HT := hide ((unhide HT).below hb13)
    replace HY1 := hide ((unhide HY1).below hb13)
    replace HY2 := hide ((unhide HY2).below hb13)
    replace HK := hide ((unhide HK).trans (hb13.mono (unhide HK).size))
    have qBY := boxOf1 hx13
    have BY := hide qBY
    clear qBY
    have BYz := (unhide BY).1
    have BYc0 := (unhide BY).2.1 0 _ rfl
    have BYc1 := (unhide BY).2.1 1 _ rfl
    have BYc2 := (unhide BY).2.1 2 _ rfl
    go_wp2_with fail
    refine (HP _ _ _ (unhide HY1) (unhide HY2)).mono ?_
    rintro e w14 ⟨rfl, hx14⟩
    have hb14 : Below w13.heap.size w13 w14 := Below.trans (by go_grown) (hx14.mono (by go_size))
    replace HT := hide ((unhide HT).below hb14)
    replace HK := hide ((unhide HK).trans (hb14.mono (unhide HK).size))
    have hfin := unhide HK
    clear hx13 hb13 hx14 hb14
    go_wp2
    go_returns
    exact ⟨rfl, hfin⟩
  · have HSP := fun W => specTextNo s t u W hsm htm hyes
    have HIM := fun W hT => implTextSNo s t u W hsm htm hyes hT
    have HGI := fun W => implSigner s u W hsm
    clear hyes
    by_cases hok : SignerOk s u
    · rw [signerB_true hok] at HGI
      have HLI := fun W => implLeftYes s u W hsm hok
      have HLS := fun W => specLeftYes s u W hsm hok
      clear hok
      by_cases h8 : (8 : Int) - u = 0
      · rw [h8] at HLI HLS
        clear h8
        go_wp2_with fail
        refine (HIM _ ((unhide HT).below (by go_grown))).mono ?_
        rintro e w2 ⟨rfl, hx2⟩
        have hb2 : Below w1.heap.size w1 w2 := Below.trans (by go_grown) (hx2.mono (by go_size))
        replace HT := hide ((unhide HT).below hb2)
        replace HC := hide ((unhide HC).below hb2)
        replace HK := hide ((unhide HK).trans (hb2.mono (unhide HK).size))
        have qBX := boxOf1 hx2
        have BX := hide qBX
        clear qBX
        have BXz := (unhide BX).1
        have BXc0 := (unhide BX).2.1 0 _ rfl
        have BXc1 := (unhide BX).2.1 1 _ rfl
        go_wp2_with fail
        refine (HSP _).mono ?_
        rintro e w3 ⟨rfl, hx3⟩
        have hb3 : Below w2.heap.size w2 w3 := Below.trans (by go_grown) (hx3.mono (by go_size))
        replace HT := hide ((unhide HT).below hb3)
        replace HC := hide ((unhide HC).below hb3)
        (try clear BXz BXc0 BXc1)
        replace BX := hide ((unhide BX).below hb3)
        have BXz := (unhide BX).1
        have BXc0 := (unhide BX).2.1 0 _ rfl
        have BXc1 := (unhide BX).2.1 1 _ rfl
        replace HK := hide ((unhide HK).trans (hb3.mono (unhide HK).size))
        obtain ⟨qBP, qBQ⟩ := boxOf2 hx3
        have BP := hide qBP
        clear qBP
        have BPz := (unhide BP).1
        have BPc0 := (unhide BP).2.1 0 _ rfl
        have BPc1 := (unhide BP).2.1 1 _ rfl
        have BQ := hide qBQ
        clear qBQ
        have BQz := (unhide BQ).1
        have BQc0 := (unhide BQ).2.1 0 _ rfl
        have BQc1 := (unhide BQ).2.1 1 _ rfl
        have BQc2 := (unhide BQ).2.1 2 _ rfl
        clear hx2 hb2
        go_wp2_with fail
        refine (HLI _).mono ?_
        rintro e w4 ⟨rfl, hx4⟩
        have hb4 : Below w3.heap.size w3 w4 := Below.trans (by go_grown) (hx4.mono (by go_size))
        replace HT := hide ((unhide HT).below hb4)
        replace HC := hide ((unhide HC).below hb4)
        (try clear BXz BXc0 BXc1)
        replace BX := hide ((unhide BX).below hb4)
        have BXz := (unhide BX).1
        have BXc0 := (unhide BX).2.1 0 _ rfl
        have BXc1 := (unhide BX).2.1 1 _ rfl
        (try clear BPz BPc0 BPc1)
        replace BP := hide ((unhide BP).below hb4)
        have BPz := (unhide BP).1
        have BPc0 := (unhide BP).2.1 0 _ rfl
        have BPc1 := (unhide BP).2.1 1 _ rfl
        (try clear BQz BQc0 BQc1 BQc2)
        replace BQ := hide ((unhide BQ).below hb4)
        have BQz := (unhide BQ).1
        have BQc0 := (unhide BQ).2.1 0 _ rfl
        have BQc1 := (unhide BQ).2.1 1 _ rfl
        have BQc2 := (unhide BQ).2.1 2 _ rfl
        replace HK := hide ((unhide HK).trans (hb4.mono (unhide HK).size))
        obtain ⟨qBR, qBS⟩ := boxOf2 hx4
        have BR := hide qBR
        clear qBR
        have BRz := (unhide BR).1
        have BRc0 := (unhide BR).2.1 0 _ rfl
        have BRc1 := (unhide BR).2.1 1 _ rfl
        have BS := hide qBS
        clear qBS
        have BSz := (unhide BS).1
        have BSc0 := (unhide BS).2.1 0 _ rfl
        have BSc1 := (unhide BS).2.1 1 _ rfl
        have BSc2 := (unhide BS).2.1 2 _ rfl
        clear hx3 hb3
        go_wp2_with fail
        refine (HLS _).mono ?_
        rintro e w5 ⟨rfl, hx5⟩
        have hb5 : Below w4.heap.size w4 w5 := Below.trans (by go_grown) (hx5.mono (by go_size))
        replace HT := hide ((unhide HT).below hb5)
        replace HC := hide ((unhide HC).below hb5)
        (try clear BXz BXc0 BXc1)
        replace BX := hide ((unhide BX).below hb5)
        have BXz := (unhide BX).1
        have BXc0 := (unhide BX).2.1 0 _ rfl
        have BXc1 := (unhide BX).2.1 1 _ rfl
        (try clear BPz BPc0 BPc1)
        replace BP := hide ((unhide BP).below hb5)
        have BPz := (unhide BP).1
        have BPc0 := (unhide BP).2.1 0 _ rfl
        have BPc1 := (unhide BP).2.1 1 _ rfl
        (try clear BQz BQc0 BQc1 BQc2)
        replace BQ := hide ((unhide BQ).below hb5)
        have BQz := (unhide BQ).1
        have BQc0 := (unhide BQ).2.1 0 _ rfl
        have BQc1 := (unhide BQ).2.1 1 _ rfl
        have BQc2 := (unhide BQ).2.1 2 _ rfl
        (try clear BRz BRc0 BRc1)
        replace BR := hide ((unhide BR).below hb5)
        have BRz := (unhide BR).1
        have BRc0 := (unhide BR).2.1 0 _ rfl
        have BRc1 := (unhide BR).2.1 1 _ rfl
        (try clear BSz BSc0 BSc1 BSc2)
        replace BS := hide ((unhide BS).below hb5)
        have BSz := (unhide BS).1
        have BSc0 := (unhide BS).2.1 0 _ rfl
        have BSc1 := (unhide BS).2.1 1 _ rfl
        have BSc2 := (unhide BS).2.1 2 _ rfl
        replace HK := hide ((unhide HK).trans (hb5.mono (unhide HK).size))
        clear hx4 hb4
        go_wp2_with fail
        refine (sameSeal 0 _ _ _ _ [] [] _ (.inl ⟨_, _, rfl, rfl⟩) (.inl ⟨_, _, rfl, rfl⟩) (.inl ⟨_, _, rfl, rfl⟩) (.inl ⟨_, _, rfl, rfl⟩) (by simp) (by simp)).mono ?_
        rintro e w6 ⟨rfl, hx6⟩
        have hb6 : Below w5.heap.size w5 w6 := Below.trans (by go_grown) (hx6.mono (by go_size))
        replace HT := hide ((unhide HT).below hb6)
        replace HC := hide ((unhide HC).below hb6)
        (try clear BXz BXc0 BXc1)
        replace BX := hide ((unhide BX).below hb6)
        have BXz := (unhide BX).1
        have BXc0 := (unhide BX).2.1 0 _ rfl
        have BXc1 := (unhide BX).2.1 1 _ rfl
        replace HK := hide ((unhide HK).trans (hb6.mono (unhide HK).size))
        clear hx5 hb5 BP BQ BR BS BPz BQz BRz BSz BPc0 BPc1 BQc0 BQc1 BQc2 BRc0 BRc1 BSc0 BSc1 BSc2
        go_wp2_with fail
        refine (HGI _).mono ?_
        rintro e w7 ⟨rfl, hx7⟩
        have hb7 : Below w6.heap.size w6 w7 := Below.trans (by go_grown) (hx7.mono (by go_size))
        replace HT := hide ((unhide HT).below hb7)
        replace HC := hide ((unhide HC).below hb7)
        replace HK := hide ((unhide HK).trans (hb7.mono (unhide HK).size))
        clear hx6 hb6 BX BXz BXc0 BXc1 HLI HLS HGI HSP HIM
        go_wp2_with fail
        refine (drawCheckSeal _ n1 _ (unhide HC)).mono ?_
        rintro e w12 ⟨top, q, k, y1, y2, ss, ws, rfl, htop, hq, hy1, hy2, hl1, hl2, hx12⟩
        have hb12 : Below w7.heap.size w7 w12 := Below.trans (by go_grown) (hx12.mono (by go_size))
        replace HT := hide ((unhide HT).below hb12)
        replace HK := hide ((unhide HK).trans (hb12.mono (unhide HK).size))
        have hpm : top.size ≤ maxLen := by unfold maxLen; omega
        have hqm : q.size ≤ maxLen := by unfold maxLen; omega
        obtain ⟨a1, b1, r1, rfl⟩ := strs_slice hy1
        obtain ⟨a2, b2, r2, rfl⟩ := strs_slice hy2
        have HY1 := hide hy1
        have HY2 := hide hy2
        clear hx12 hb12 hy1 hy2
        obtain ⟨o1, o2, HI, HP⟩ := checkTBoth top q k ss ws hpm hqm (by omega) (by omega)
        go_wp2_with fail
        refine (HI _ _ _ ((unhide HY1).below (by go_grown)) ((unhide HY2).below (by go_grown)) ((unhide HT).below (by go_grown))).mono ?_
        rintro e w13 ⟨rfl, hx13⟩
        have hb13 : Below w12.heap.size w12 w13 := Below.trans (by go_grown) (hx13.mono (by go_size))
        replace HT := hide ((unhide HT).below hb13)
        replace HY1 := hide ((unhide HY1).below hb13)
        replace HY2 := hide ((unhide HY2).below hb13)
        replace HK := hide ((unhide HK).trans (hb13.mono (unhide HK).size))
        have qBY := boxOf1 hx13
        have BY := hide qBY
        clear qBY
        have BYz := (unhide BY).1
        have BYc0 := (unhide BY).2.1 0 _ rfl
        have BYc1 := (unhide BY).2.1 1 _ rfl
        have BYc2 := (unhide BY).2.1 2 _ rfl
        go_wp2_with fail
        refine (HP _ _ _ (unhide HY1) (unhide HY2)).mono ?_
        rintro e w14 ⟨rfl, hx14⟩
        have hb14 : Below w13.heap.size w13 w14 := Below.trans (by go_grown) (hx14.mono (by go_size))
        replace HT := hide ((unhide HT).below hb14)
        replace HK := hide ((unhide HK).trans (hb14.mono (unhide HK).size))
        have hfin := unhide HK
        clear hx13 hb13 hx14 hb14
        go_wp2
        go_returns
        exact ⟨rfl, hfin⟩
      · generalize (8 : Int) - u = d at *
        go_wp2_with fail
        refine (HIM _ ((unhide HT).below (by go_grown))).mono ?_
        rintro e w2 ⟨rfl, hx2⟩
        have hb2 : Below w1.heap.size w1 w2 := Below.trans (by go_grown) (hx2.mono (by go_size))
        replace HT := hide ((unhide HT).below hb2)
        replace HC := hide ((unhide HC).below hb2)
        replace HK := hide ((unhide HK).trans (hb2.mono (unhide HK).size))
        have qBX := boxOf1 hx2
        have BX := hide qBX
        clear qBX
        have BXz := (unhide BX).1
        have BXc0 := (unhide BX).2.1 0 _ rfl
        have BXc1 := (unhide BX).2.1 1 _ rfl
        go_wp2_with fail
        refine (HSP _).mono ?_
        rintro e w3 ⟨rfl, hx3⟩
        have hb3 : Below w2.heap.size w2 w3 := Below.trans (by go_grown) (hx3.mono (by go_size))
        replace HT := hide ((unhide HT).below hb3)
        replace HC := hide ((unhide HC).below hb3)
        (try clear BXz BXc0 BXc1)
        replace BX := hide ((unhide BX).below hb3)
        have BXz := (unhide BX).1
        have BXc0 := (unhide BX).2.1 0 _ rfl
        have BXc1 := (unhide BX).2.1 1 _ rfl
        replace HK := hide ((unhide HK).trans (hb3.mono (unhide HK).size))
        obtain ⟨qBP, qBQ⟩ := boxOf2 hx3
        have BP := hide qBP
        clear qBP
        have BPz := (unhide BP).1
        have BPc0 := (unhide BP).2.1 0 _ rfl
        have BPc1 := (unhide BP).2.1 1 _ rfl
        have BQ := hide qBQ
        clear qBQ
        have BQz := (unhide BQ).1
        have BQc0 := (unhide BQ).2.1 0 _ rfl
        have BQc1 := (unhide BQ).2.1 1 _ rfl
        have BQc2 := (unhide BQ).2.1 2 _ rfl
        clear hx2 hb2
        go_wp2_with fail
        refine (HLI _).mono ?_
        rintro e w4 ⟨rfl, hx4⟩
        have hb4 : Below w3.heap.size w3 w4 := Below.trans (by go_grown) (hx4.mono (by go_size))
        replace HT := hide ((unhide HT).below hb4)
        replace HC := hide ((unhide HC).below hb4)
        (try clear BXz BXc0 BXc1)
        replace BX := hide ((unhide BX).below hb4)
        have BXz := (unhide BX).1
        have BXc0 := (unhide BX).2.1 0 _ rfl
        have BXc1 := (unhide BX).2.1 1 _ rfl
        (try clear BPz BPc0 BPc1)
        replace BP := hide ((unhide BP).below hb4)
        have BPz := (unhide BP).1
        have BPc0 := (unhide BP).2.1 0 _ rfl
        have BPc1 := (unhide BP).2.1 1 _ rfl
        (try clear BQz BQc0 BQc1 BQc2)
        replace BQ := hide ((unhide BQ).below hb4)
        have BQz := (unhide BQ).1
        have BQc0 := (unhide BQ).2.1 0 _ rfl
        have BQc1 := (unhide BQ).2.1 1 _ rfl
        have BQc2 := (unhide BQ).2.1 2 _ rfl
        replace HK := hide ((unhide HK).trans (hb4.mono (unhide HK).size))
        obtain ⟨qBR, qBS⟩ := boxOf2 hx4
        have BR := hide qBR
        clear qBR
        have BRz := (unhide BR).1
        have BRc0 := (unhide BR).2.1 0 _ rfl
        have BRc1 := (unhide BR).2.1 1 _ rfl
        have BS := hide qBS
        clear qBS
        have BSz := (unhide BS).1
        have BSc0 := (unhide BS).2.1 0 _ rfl
        have BSc1 := (unhide BS).2.1 1 _ rfl
        have BSc2 := (unhide BS).2.1 2 _ rfl
        clear hx3 hb3
        go_wp2_with fail
        refine (HLS _).mono ?_
        rintro e w5 ⟨rfl, hx5⟩
        have hb5 : Below w4.heap.size w4 w5 := Below.trans (by go_grown) (hx5.mono (by go_size))
        replace HT := hide ((unhide HT).below hb5)
        replace HC := hide ((unhide HC).below hb5)
        (try clear BXz BXc0 BXc1)
        replace BX := hide ((unhide BX).below hb5)
        have BXz := (unhide BX).1
        have BXc0 := (unhide BX).2.1 0 _ rfl
        have BXc1 := (unhide BX).2.1 1 _ rfl
        (try clear BPz BPc0 BPc1)
        replace BP := hide ((unhide BP).below hb5)
        have BPz := (unhide BP).1
        have BPc0 := (unhide BP).2.1 0 _ rfl
        have BPc1 := (unhide BP).2.1 1 _ rfl
        (try clear BQz BQc0 BQc1 BQc2)
        replace BQ := hide ((unhide BQ).below hb5)
        have BQz := (unhide BQ).1
        have BQc0 := (unhide BQ).2.1 0 _ rfl
        have BQc1 := (unhide BQ).2.1 1 _ rfl
        have BQc2 := (unhide BQ).2.1 2 _ rfl
        (try clear BRz BRc0 BRc1)
        replace BR := hide ((unhide BR).below hb5)
        have BRz := (unhide BR).1
        have BRc0 := (unhide BR).2.1 0 _ rfl
        have BRc1 := (unhide BR).2.1 1 _ rfl
        (try clear BSz BSc0 BSc1 BSc2)
        replace BS := hide ((unhide BS).below hb5)
        have BSz := (unhide BS).1
        have BSc0 := (unhide BS).2.1 0 _ rfl
        have BSc1 := (unhide BS).2.1 1 _ rfl
        have BSc2 := (unhide BS).2.1 2 _ rfl
        replace HK := hide ((unhide HK).trans (hb5.mono (unhide HK).size))
        clear hx4 hb4
        go_wp2_with fail
        refine (sameSeal 0 _ _ _ _ [] [] _ (.inl ⟨_, _, rfl, rfl⟩) (.inl ⟨_, _, rfl, rfl⟩) (.inl ⟨_, _, rfl, rfl⟩) (.inl ⟨_, _, rfl, rfl⟩) (by simp) (by simp)).mono ?_
        rintro e w6 ⟨rfl, hx6⟩
        have hb6 : Below w5.heap.size w5 w6 := Below.trans (by go_grown) (hx6.mono (by go_size))
        replace HT := hide ((unhide HT).below hb6)
        replace HC := hide ((unhide HC).below hb6)
        (try clear BXz BXc0 BXc1)
        replace BX := hide ((unhide BX).below hb6)
        have BXz := (unhide BX).1
        have BXc0 := (unhide BX).2.1 0 _ rfl
        have BXc1 := (unhide BX).2.1 1 _ rfl
        replace HK := hide ((unhide HK).trans (hb6.mono (unhide HK).size))
        clear hx5 hb5 BP BQ BR BS BPz BQz BRz BSz BPc0 BPc1 BQc0 BQc1 BQc2 BRc0 BRc1 BSc0 BSc1 BSc2
        go_wp2_with fail
        refine (HGI _).mono ?_
        rintro e w7 ⟨rfl, hx7⟩
        have hb7 : Below w6.heap.size w6 w7 := Below.trans (by go_grown) (hx7.mono (by go_size))
        replace HT := hide ((unhide HT).below hb7)
        replace HC := hide ((unhide HC).below hb7)
        replace HK := hide ((unhide HK).trans (hb7.mono (unhide HK).size))
        clear hx6 hb6 BX BXz BXc0 BXc1 HLI HLS HGI HSP HIM
        go_wp2_with fail
        refine (drawCheckSeal _ n1 _ (unhide HC)).mono ?_
        rintro e w12 ⟨top, q, k, y1, y2, ss, ws, rfl, htop, hq, hy1, hy2, hl1, hl2, hx12⟩
        have hb12 : Below w7.heap.size w7 w12 := Below.trans (by go_grown) (hx12.mono (by go_size))
        replace HT := hide ((unhide HT).below hb12)
        replace HK := hide ((unhide HK).trans (hb12.mono (unhide HK).size))
        have hpm : top.size ≤ maxLen := by unfold maxLen; omega
        have hqm : q.size ≤ maxLen := by unfold maxLen; omega
        obtain ⟨a1, b1, r1, rfl⟩ := strs_slice hy1
        obtain ⟨a2, b2, r2, rfl⟩ := strs_slice hy2
        have HY1 := hide hy1
        have HY2 := hide hy2
        clear hx12 hb12 hy1 hy2
        obtain ⟨o1, o2, HI, HP⟩ := checkTBoth top q k ss ws hpm hqm (by omega) (by omega)
        go_wp2_with fail
        refine (HI _ _ _ ((unhide HY1).below (by go_grown)) ((unhide HY2).below (by go_grown)) ((unhide HT).below (by go_grown))).mono ?_
        rintro e w13 ⟨rfl, hx13⟩
        have hb13 : Below w12.heap.size w12 w13 := Below.trans (by go_grown) (hx13.mono (by go_size))
        replace HT := hide ((unhide HT).below hb13)
        replace HY1 := hide ((unhide HY1).below hb13)
        replace HY2 := hide ((unhide HY2).below hb13)
        replace HK := hide ((unhide HK).trans (hb13.mono (unhide HK).size))
        have qBY := boxOf1 hx13
        have BY := hide qBY
        clear qBY
        have BYz := (unhide BY).1
        have BYc0 := (unhide BY).2.1 0 _ rfl
        have BYc1 := (unhide BY).2.1 1 _ rfl
        have BYc2 := (unhide BY).2.1 2 _ rfl
        go_wp2_with fail
        refine (HP _ _ _ (unhide HY1) (unhide HY2)).mono ?_
        rintro e w14 ⟨rfl, hx14⟩
        have hb14 : Below w13.heap.size w13 w14 := Below.trans (by go_grown) (hx14.mono (by go_size))
        replace HT := hide ((unhide HT).below hb14)
        replace HK := hide ((unhide HK).trans (hb14.mono (unhide HK).size))
        have hfin := unhide HK
        clear hx13 hb13 hx14 hb14
        go_wp2
        go_returns
        exact ⟨rfl, hfin⟩
    · rw [signerB_false hok] at HGI
      have HLI := fun W => implLeftNo s u W hsm hok
      have HLS := fun W => specLeftNo s u W hsm hok
      clear hok
      go_wp2_with fail
      refine (HIM _ ((unhide HT).below (by go_grown))).mono ?_
      rintro e w2 ⟨rfl, hx2⟩
      have hb2 : Below w1.heap.size w1 w2 := Below.trans (by go_grown) (hx2.mono (by go_size))
      replace HT := hide ((unhide HT).below hb2)
      replace HC := hide ((unhide HC).below hb2)
      replace HK := hide ((unhide HK).trans (hb2.mono (unhide HK).size))
      have qBX := boxOf1 hx2
      have BX := hide qBX
      clear qBX
      have BXz := (unhide BX).1
      have BXc0 := (unhide BX).2.1 0 _ rfl
      have BXc1 := (unhide BX).2.1 1 _ rfl
      go_wp2_with fail
      refine (HSP _).mono ?_
      rintro e w3 ⟨rfl, hx3⟩
      have hb3 : Below w2.heap.size w2 w3 := Below.trans (by go_grown) (hx3.mono (by go_size))
      replace HT := hide ((unhide HT).below hb3)
      replace HC := hide ((unhide HC).below hb3)
      (try clear BXz BXc0 BXc1)
      replace BX := hide ((unhide BX).below hb3)
      have BXz := (unhide BX).1
      have BXc0 := (unhide BX).2.1 0 _ rfl
      have BXc1 := (unhide BX).2.1 1 _ rfl
      replace HK := hide ((unhide HK).trans (hb3.mono (unhide HK).size))
      obtain ⟨qBP, qBQ⟩ := boxOf2 hx3
      have BP := hide qBP
      clear qBP
      have BPz := (unhide BP).1
      have BPc0 := (unhide BP).2.1 0 _ rfl
      have BPc1 := (unhide BP).2.1 1 _ rfl
      have BQ := hide qBQ
      clear qBQ
      have BQz := (unhide BQ).1
      have BQc0 := (unhide BQ).2.1 0 _ rfl
      have BQc1 := (unhide BQ).2.1 1 _ rfl
      have BQc2 := (unhide BQ).2.1 2 _ rfl
      clear hx2 hb2
      go_wp2_with fail
      refine (HLI _).mono ?_
      rintro e w4 ⟨rfl, hx4⟩
      have hb4 : Below w3.heap.size w3 w4 := Below.trans (by go_grown) (hx4.mono (by go_size))
      replace HT := hide ((unhide HT).below hb4)
      replace HC := hide ((unhide HC).below hb4)
      (try clear BXz BXc0 BXc1)
      replace BX := hide ((unhide BX).below hb4)
      have BXz := (unhide BX).1
      have BXc0 := (unhide BX).2.1 0 _ rfl
      have BXc1 := (unhide BX).2.1 1 _ rfl
      (try clear BPz BPc0 BPc1)
      replace BP := hide ((unhide BP).below hb4)
      have BPz := (unhide BP).1
      have BPc0 := (unhide BP).2.1 0 _ rfl
      have BPc1 := (unhide BP).2.1 1 _ rfl
      (try clear BQz BQc0 BQc1 BQc2)
      replace BQ := hide ((unhide BQ).below hb4)
      have BQz := (unhide BQ).1
      have BQc0 := (unhide BQ).2.1 0 _ rfl
      have BQc1 := (unhide BQ).2.1 1 _ rfl
      have BQc2 := (unhide BQ).2.1 2 _ rfl
      replace HK := hide ((unhide HK).trans (hb4.mono (unhide HK).size))
      obtain ⟨qBR, qBS⟩ := boxOf2 hx4
      have BR := hide qBR
      clear qBR
      have BRz := (unhide BR).1
      have BRc0 := (unhide BR).2.1 0 _ rfl
      have BRc1 := (unhide BR).2.1 1 _ rfl
      have BS := hide qBS
      clear qBS
      have BSz := (unhide BS).1
      have BSc0 := (unhide BS).2.1 0 _ rfl
      have BSc1 := (unhide BS).2.1 1 _ rfl
      have BSc2 := (unhide BS).2.1 2 _ rfl
      clear hx3 hb3
      go_wp2_with fail
      refine (HLS _).mono ?_
      rintro e w5 ⟨rfl, hx5⟩
      have hb5 : Below w4.heap.size w4 w5 := Below.trans (by go_grown) (hx5.mono (by go_size))
      replace HT := hide ((unhide HT).below hb5)
      replace HC := hide ((unhide HC).below hb5)
      (try clear BXz BXc0 BXc1)
      replace BX := hide ((unhide BX).below hb5)
      have BXz := (unhide BX).1
      have BXc0 := (unhide BX).2.1 0 _ rfl
      have BXc1 := (unhide BX).2.1 1 _ rfl
      (try clear BPz BPc0 BPc1)
      replace BP := hide ((unhide BP).below hb5)
      have BPz := (unhide BP).1
      have BPc0 := (unhide BP).2.1 0 _ rfl
      have BPc1 := (unhide BP).2.1 1 _ rfl
      (try clear BQz BQc0 BQc1 BQc2)
      replace BQ := hide ((unhide BQ).below hb5)
      have BQz := (unhide BQ).1
      have BQc0 := (unhide BQ).2.1 0 _ rfl
      have BQc1 := (unhide BQ).2.1 1 _ rfl
      have BQc2 := (unhide BQ).2.1 2 _ rfl
      (try clear BRz BRc0 BRc1)
      replace BR := hide ((unhide BR).below hb5)
      have BRz := (unhide BR).1
      have BRc0 := (unhide BR).2.1 0 _ rfl
      have BRc1 := (unhide BR).2.1 1 _ rfl
      (try clear BSz BSc0 BSc1 BSc2)
      replace BS := hide ((unhide BS).below hb5)
      have BSz := (unhide BS).1
      have BSc0 := (unhide BS).2.1 0 _ rfl
      have BSc1 := (unhide BS).2.1 1 _ rfl
      have BSc2 := (unhide BS).2.1 2 _ rfl
      replace HK := hide ((unhide HK).trans (hb5.mono (unhide HK).size))
      clear hx4 hb4
      go_wp2_with fail
      refine (sameSeal 0 _ _ _ _ [] [] _ (.inl ⟨_, _, rfl, rfl⟩) (.inl ⟨_, _, rfl, rfl⟩) (.inl ⟨_, _, rfl, rfl⟩) (.inl ⟨_, _, rfl, rfl⟩) (by simp) (by simp)).mono ?_
      rintro e w6 ⟨rfl, hx6⟩
      have hb6 : Below w5.heap.size w5 w6 := Below.trans (by go_grown) (hx6.mono (by go_size))
      replace HT := hide ((unhide HT).below hb6)
      replace HC := hide ((unhide HC).below hb6)
      (try clear BXz BXc0 BXc1)
      replace BX := hide ((unhide BX).below hb6)
      have BXz := (unhide BX).1
      have BXc0 := (unhide BX).2.1 0 _ rfl
      have BXc1 := (unhide BX).2.1 1 _ rfl
      replace HK := hide ((unhide HK).trans (hb6.mono (unhide HK).size))
      clear hx5 hb5 BP BQ BR BS BPz BQz BRz BSz BPc0 BPc1 BQc0 BQc1 BQc2 BRc0 BRc1 BSc0 BSc1 BSc2
      go_wp2_with fail
      refine (HGI _).mono ?_
      rintro e w7 ⟨rfl, hx7⟩
      have hb7 : Below w6.heap.size w6 w7 := Below.trans (by go_grown) (hx7.mono (by go_size))
      replace HT := hide ((unhide HT).below hb7)
      replace HC := hide ((unhide HC).below hb7)
      replace HK := hide ((unhide HK).trans (hb7.mono (unhide HK).size))
      clear hx6 hb6 BX BXz BXc0 BXc1 HLI HLS HGI HSP HIM
      go_wp2_with fail
      refine (drawCheckSeal _ n1 _ (unhide HC)).mono ?_
      rintro e w12 ⟨top, q, k, y1, y2, ss, ws, rfl, htop, hq, hy1, hy2, hl1, hl2, hx12⟩
      have hb12 : Below w7.heap.size w7 w12 := Below.trans (by go_grown) (hx12.mono (by go_size))
      replace HT := hide ((unhide HT).below hb12)
      replace HK := hide ((unhide HK).trans (hb12.mono (unhide HK).size))
      have hpm : top.size ≤ maxLen := by unfold maxLen; omega
      have hqm : q.size ≤ maxLen := by unfold maxLen; omega
      obtain ⟨a1, b1, r1, rfl⟩ := strs_slice hy1
      obtain ⟨a2, b2, r2, rfl⟩ := strs_slice hy2
      have HY1 := hide hy1
      have HY2 := hide hy2
      clear hx12 hb12 hy1 hy2
      obtain ⟨o1, o2, HI, HP⟩ := checkTBoth top q k ss ws hpm hqm (by omega) (by omega)
      go_wp2_with fail
      refine (HI _ _ _ ((unhide HY1).below (by go_grown)) ((unhide HY2).below (by go_grown)) ((unhide HT).below (by go_grown))).mono ?_
      rintro e w13 ⟨rfl, hx13⟩
      have hb13 : Below w12.heap.size w12 w13 := Below.trans (by go_grown) (hx13.mono (by go_size))
      replace HT := hide ((unhide HT).below hb13)
      replace HY1 := hide ((unhide HY1).below hb13)
      replace HY2 := hide ((unhide HY2).below hb13)
      replace HK := hide ((unhide HK).trans (hb13.mono (unhide HK).size))
      have qBY := boxOf1 hx13
      have BY := hide qBY
      clear qBY
      have BYz := (unhide BY).1
      have BYc0 := (unhide BY).2.1 0 _ rfl
      have BYc1 := (unhide BY).2.1 1 _ rfl
      have BYc2 := (unhide BY).2.1 2 _ rfl
      go_wp2_with fail
      refine (HP _ _ _ (unhide HY1) (unhide HY2)).mono ?_
      rintro e w14 ⟨rfl, hx14⟩
      have hb14 : Below w13.heap.size w13 w14 := Below.trans (by go_grown) (hx14.mono (by go_size))
      replace HT := hide ((unhide HT).below hb14)
      replace HK := hide ((unhide HK).trans (hb14.mono (unhide HK).size))
      have hfin := unhide HK
      clear hx13 hb13 hx14 hb14
      go_wp2
      go_returns
      exact ⟨rfl, hfin⟩

set_option maxRecDepth 100000 in
set_option maxHeartbeats 800000 in
theorem walk (v0 : Value) (n0 : Nat) (h0 : n0 ≤ 140737488351232) (v1 : Value) (n1 : Nat) (h1 : n1 ≤ 140737488351232) (w : World) (ht : Table w) (hb0 : ByteRow w v0 n0) (hb1 : ByteRow w v1 n1) :
    Calls Tryd.prog 4 #[v0, v1] w fun e w' => e = .returned (.bool true) ∧ Below w.heap.size w w' := by
  by_cases hn : n0 + n1 ≤ 1048576
  · exact walk0 v0 n0 v1 n1 w ht (hb0.code (by omega)) (hb1.code (by omega)) hn
  · obtain ⟨ad0, c0, rfl, _⟩ := hb0
    obtain ⟨ad1, c1, rfl, _⟩ := hb1
    have hbig : (1048576 : Int) < (n0 : Int) + (n1 : Int) := by omega
    go_enter Tryd.func4, Tryd.ntmps4
    go_wp2
    go_returns
    exact ⟨rfl, by go_grown⟩

theorem own : ownKnob Tryd.prog.godebug = none := by kernel_rfl
theorem laidOut : laidOutB Tryd.prog = true := by kernel_rfl
set_option maxRecDepth 100000 in
theorem contract (H : Type) (enc : TypeId × Value → H) (W : World) (base : Nat) (args : Array Value) (ds gs : List (DataW H)) (before : List MemPlace)
    (hval : ∀ (j : Nat) t v, Tryd.f4.params[j]? = some t → args[j]? = some v → Value.okWide Tryd.prog W .any base t v)
    (hW : DataW.Whole enc Tryd.prog Tryd.f4.params.toList Rows.fnSealsSpec.vars false W args.toList ds gs before) (hL : laidMetH Tryd.prog Rows.fnSealsRow.laid W) (hsz : (DataW.weightsEach Tryd.prog (Tryd.f4.params.toList ++ (OpenSpec.ofChange Rows.fnSealsSpec).bare.plain.varTypes Tryd.prog) (ds ++ gs)).all (· ≤ reachBytes) = true) :
    Calls Tryd.prog 4 args W fun e W' => ∃ v, e = .returned v ∧ Rows.fnSealsSpec.post enc Tryd.prog Tryd.f4 false true false false W args v W' := by
  have tab := table_of hL
  have hW' := hW
  obtain ⟨p, q, hA0, hV, rfl, hfz, hnd⟩ := hW
  have hA : DataW.TrodAll enc Tryd.prog W 0 (fun _ => true) true Tryd.f4.params.toList args.toList ds p := hA0
  rw [Tryd.params4] at hA hval
  obtain ⟨v0, vs0, d0, ds0, p0, q0, hargs, rfl, rfl, h0, r0⟩ := trodAll_cons hA
  obtain ⟨v1, vs1, d1, ds1, p1, q1, rfl, rfl, rfl, h1, r1⟩ := trodAll_cons r0
  obtain ⟨rfl, rfl, rfl⟩ := trodAll_nil r1
  obtain rfl : args = #[v0, v1] := by cases args; simp_all
  obtain ⟨g, t, cs, fuel, d, pv, rfl, hg, hty, hv, htr, rfl⟩ := trodVars_one hV
  obtain rfl := Option.some.inj (gTab.symm.trans hg)
  obtain rfl := Option.some.inj (gTabType.symm.trans hty)
  have kv : DataW.Trod enc Tryd.prog W 0 (fun _ => true) true 148 (.agg cs) d pv := ⟨fuel, htr⟩
  have ltv : ∀ x ∈ pv, x.block < W.heap.size := DataW.trod_lt fuel _ _ _ htr
  obtain ⟨ad0, len0, cap0, rfl⟩ := okWide_slice Tryd.underlying22 (hval 0 22 v0 rfl rfl)
  have kk0 := h0
  have lt0 : ∀ x ∈ p0, x.block < W.heap.size := by obtain ⟨m, hm⟩ := kk0; exact DataW.trod_lt m _ _ _ hm
  obtain ⟨hbr0, hbn0⟩ := bytes_of h0 hsz (j := 0) (by rw [Tryd.params4]; rfl) rfl
  obtain ⟨ad1, len1, cap1, rfl⟩ := okWide_slice Tryd.underlying22 (hval 1 22 v1 rfl rfl)
  have kk1 := h1
  have lt1 : ∀ x ∈ p1, x.block < W.heap.size := by obtain ⟨m, hm⟩ := kk1; exact DataW.trod_lt m _ _ _ hm
  obtain ⟨hbr1, hbn1⟩ := bytes_of h1 hsz (j := 1) (by rw [Tryd.params4]; rfl) rfl
  clear hA0
  refine (walk _ len0 hbn0 _ len1 hbn1 W tab hbr0 hbr1).mono fun e W' ⟨he, bel⟩ => ?_
  subst he
  obtain ⟨f2, hf2⟩ := Below.trod laidOut (by kernel_rfl) (of_decide_eq_true (by kernel_rfl)) kv bel ltv
  exact ⟨_, rfl, _, _, _, [], _, _, hW', trodAll_mk1 (shut_bool Tryd.underlying4 _), (trodAll_cons_mk (Below.trod laidOut (by kernel_rfl) (of_decide_eq_true (by kernel_rfl)) kk0 bel lt0) (trodAll_cons_mk (Below.trod laidOut (by kernel_rfl) (of_decide_eq_true (by kernel_rfl)) kk1 bel lt1) trodAll_mk0)), ⟨0, 148, cs, f2, pv, [], gTab, gTabType, var?_below bel gTab tab.1 hv, hf2, rfl, rfl⟩, bel.frame _, fun h => by cases h⟩

theorem reads (os : Os) {H : Type} (enc : TypeId × Value → H) : ∃ places, DataW.whole enc Tryd.prog (({ World.holding Tryd.prog os ⟨#[], #[], []⟩ with heap := (World.holding Tryd.prog os ⟨#[], #[], []⟩).heap.modify 0 layTab } : World).forCall (fun _ _ => 0) ⟨#[], #[.slice none 0 0, .slice none 0 0], []⟩).memory Tryd.f4.params.toList Rows.fnSealsSpec.vars false (#[.slice none 0 0, .slice none 0 0] : Array Value).toList 16 = some ([.nil, .nil], [Rows.laid_loop_example_g00537_impl_pieceWeights], places) :=
  ⟨MemPlace.row ⟨0, 0, none⟩ 8, by kernel_rfl⟩
theorem laid_met (os : Os) : laidMet Tryd.prog Rows.fnSealsRow.laid (({ World.holding Tryd.prog os ⟨#[], #[], []⟩ with heap := (World.holding Tryd.prog os ⟨#[], #[], []⟩).heap.modify 0 layTab } : World).forCall (fun _ _ => 0) ⟨#[], #[.slice none 0 0, .slice none 0 0], []⟩).memory :=
  laidMet_of_run' 16 (by kernel_rfl) (by kernel_rfl)
set_option maxRecDepth 100000 in
theorem lifted (os : Os) (started : os.Started) (H : Type) (enc : TypeId × Value → H) (F : Stop.Interp) :
    ReturnsInHanded {} Tryd.checked os 4 .any ((OpenSpec.ofChange Rows.fnSealsSpec).preRow enc Tryd.prog Tryd.f4 Rows.fnSealsRow.domain false Rows.fnSealsRow.laid) (((OpenSpec.ofChange Rows.fnSealsSpec).at F).post enc Tryd.prog Tryd.f4 false true false false) := by
  obtain ⟨places, hx⟩ := reads os enc
  refine returnsInHanded_of_row (C := Tryd.checked) (s := OpenSpec.ofChange Rows.fnSealsSpec) own started (by kernel_rfl) Tryd.func4
    (witness_row_at (enc := enc) (C := Tryd.checked) false ({ World.holding Tryd.prog os ⟨#[], #[], []⟩ with heap := (World.holding Tryd.prog os ⟨#[], #[], []⟩).heap.modify 0 layTab } : World) #[.slice none 0 0, .slice none 0 0] rfl (by kernel_rfl) (by kernel_rfl) (by kernel_rfl)
      (OpenSpec.preRow_of_cond 16 hx (by kernel_rfl) (fun k hk => by cases hk) (by kernel_rfl) (laid_met os))) ?_
  intro W base args ds gs before hval hW _ _ hsz hL _ _
  exact contract H enc W base args ds gs before hval hW hL hsz
theorem said : Rows.FnSealsSaid :=
  OpenClaim.holds_of_cond 4 Tryd.f4 rfl rfl rfl rfl rfl rfl rfl ⟨rfl, rfl, rfl, rfl, rfl⟩ rfl rfl rfl rfl rfl (by kernel_rfl) Tryd.func4 (by kernel_rfl)
    (of_decide_eq_true (by kernel_rfl)) (by unfold Func.isWrapper; first | (rw [if_pos (by decide +kernel)]; kernel_rfl) | (rw [if_neg (by decide +kernel)]; exact ⟨rfl, rfl⟩))
    (fun os started H enc _ F => by rw [OpenClaim.pre_eq_preRow]; exact lifted os started H enc F)
theorem plain (f : FuncId) (fn : Func) (hf : Tryd.pinned.checked.prog.funcNamed Rows.fnSealsRow.func = some f) (hfn : Tryd.pinned.checked.prog.funcs[f]? = some fn) :
    false = Tryd.pinned.checked.prog.looks [] ∧ ∀ (j : Nat) t, fn.params[j]? = some t → Tryd.pinned.checked.prog.wantsStandIn t = false := by
  obtain rfl : f = 4 := Option.some.inj ((show Tryd.prog.funcNamed Rows.fnSealsRow.func = some 4 by kernel_rfl).symm.trans hf) |>.symm
  obtain rfl : fn = Tryd.f4 := (Option.some.inj (Tryd.func4.symm.trans hfn)).symm
  refine ⟨by kernel_rfl, fun j t ht => ?_⟩
  rw [Tryd.params4] at ht
  have hm : t ∈ [22, 22] := by simpa using Array.mem_of_getElem? ht
  have hall : ([22, 22].all fun u => !Tryd.prog.wantsStandIn u) = true := by kernel_rfl
  exact (show Tryd.prog.wantsStandIn t = false by simpa using List.all_eq_true.1 hall t hm)
theorem card : Rows.FnSealsCardSaid :=
  Claim7.holds_tied_plain_at .later [] _ _ _ _ said (fun _ h => by cases h) (by kernel_rfl) (fun _ h => by cases h) fnSeals_row_tie rfl ⟨rfl, rfl⟩ (by kernel_rfl) rfl plain (by kernel_rfl)
end Go.Proofs.YtemkkofjakpjiaaDoor.fnSeals
namespace Go.Proofs.YtemkkofjakpjiaaDoor
theorem fnSeals_card_holds : Rows.FnSealsCardSaid := fnSeals.card
#print axioms fnSeals_card_holds
end Go.Proofs.YtemkkofjakpjiaaDoor
