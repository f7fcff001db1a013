/- At every argument the function FnExactSealText returns true and leaves its arguments as they were: SealText answers as its model does, and its answer owns its memory. The table of weights lies as the program's text lays it (the card ties that). No other condition. -/
import Derived.Test.YtemkkofjakpjiaaDoorDoor
import Derived.Test.YtemkkofjakpjiaaDoorLaw3
import Derived.Test.YtemkkofjakpjiaaDoorImplText
import Derived.Deep.RegionHeld3
import Derived.Deep.DeepCutAuto
import Derived.Deep.DrawnRows
namespace Go.Proofs.YtemkkofjakpjiaaDoor.fnExactSealText
open Go.ChangeShapes Go.WideShapes Go.ChangeAt Go.RowKit Go.Joins
open Go.ChangeMaps (open_string shut_string)
set_option linter.unusedVariables false
attribute [local go_sem ↓] Go.wp_at_zero Go.wp_at_succ
theorem hide {p : Prop} (h : p) : Hid p := h
theorem unhide {p : Prop} (h : Hid p) : p := h

set_option maxRecDepth 100000 in
set_option maxHeartbeats 12800000 in
theorem walk (s : ByteArray) (hm : s.size ≤ maxLen) (u : Int) (wu : (Lit.int .i64 u).wf = true) (t : ByteArray) (hmt : t.size ≤ maxLen) (w : World) (ht : Table w) :
    Calls Tryd.prog 10 #[.agg #[.string s, .int .i64 u], .string t] w fun e w' => e = .returned (.bool true) ∧ Below w.heap.size w w' := by
  have hmt2 := hmt
  unfold maxLen at hmt2
  by_cases hbigt : 1048576 < t.size
  · have hb1 : (1048576 : Int) < (t.size : Int) := by omega
    go_enter Tryd.func10, Tryd.ntmps10
    go_wp2
    go_returns
    exact ⟨rfl, by go_grown⟩
  have hbt : ¬ (1048576 : Int) < (t.size : Int) := by omega
  by_cases hbig : 1048576 < s.size
  · have HZ := fun W => szSignerNo s u 1048576 W hm (by omega) hbig
    simp only [show ((1048576 : Nat) : Int) = 1048576 from rfl] at HZ
    go_enter Tryd.func10, Tryd.ntmps10
    go_wp2_with fail
    refine (HZ _).mono ?_
    rintro e w1 ⟨rfl, hb1⟩
    obtain ⟨hc1, hf1⟩ := bcell hb1
    have hz1 := hb1.size
    try simp only [World.size_drew] at hz1
    try simp only [World.size_setCell] at hz1
    try simp only [World.size_alloc] at hz1
    have hz1_0 : w.heap.size < w1.heap.size := by omega
    clear hz1
    have k1 : Below w.heap.size w w1 := by
      refine Below.trans ?_ (hb1.mono ?_)
      · go_grown
      · go_size
    have hl1 : w.heap.size ≤ w1.heap.size := k1.size
    clear hb1
    go_wp2
    go_returns
    exact ⟨rfl, by go_grown⟩
  have HZ := fun W => szSignerYes s u 1048576 W (by omega) (by omega)
  simp only [show ((1048576 : Nat) : Int) = 1048576 from rfl] at HZ
  have hz : ¬ (1048576 : Int) - (s.size : Int) < 0 := by omega
  generalize (1048576 : Int) - (s.size : Int) = z at *
  have HT := hide ht
  have HK : Hid (Below w.heap.size w w) := Below.refl _ _
  clear ht
  by_cases hyes : SealYes s u t
  · have hn0 := hyes.1.2.1
    obtain ⟨N, rfl⟩ := Int.eq_ofNat_of_zero_le hn0
    have HSP := fun W => specTextYes s t N W hm hyes
    have HIM := fun W hT => implTextSYes s t N W hm hyes hT
    have hL4 := signB_len (leafSeed s N) t
    have hL5 := wayB_len s N
    clear hyes
    generalize signB (leafSeed s N) t = L4 at *
    generalize wayB s N = L5 at *
    go_enter Tryd.func10, Tryd.ntmps10
    go_wp2_with fail
    refine (HZ _).mono ?_
    rintro e w1 ⟨rfl, hx1⟩
    have hb1 : Below w.heap.size w w1 := Below.trans (by go_grown) (hx1.mono (by go_size))
    replace HT := hide ((unhide HT).below hb1)
    replace HK := hide ((unhide HK).trans (hb1.mono (unhide HK).size))
    have qBX := boxOf1 hx1
    have BX := hide qBX
    clear qBX
    have BXz := (unhide BX).1
    have BXc0 := (unhide BX).2.1 0 _ rfl
    have BXc1 := (unhide BX).2.1 1 _ rfl
    go_wp2_with fail
    refine (toSigner s N _).mono ?_
    rintro e w2 ⟨rfl, hx2⟩
    have hb2 : Below w1.heap.size w1 w2 := Below.trans (by go_grown) (hx2.mono (by go_size))
    replace HT := hide ((unhide HT).below hb2)
    (try clear BXz BXc0 BXc1)
    replace BX := hide ((unhide BX).below hb2)
    have BXz := (unhide BX).1
    have BXc0 := (unhide BX).2.1 0 _ rfl
    have BXc1 := (unhide BX).2.1 1 _ rfl
    replace HK := hide ((unhide HK).trans (hb2.mono (unhide HK).size))
    clear hx1 hb1
    go_wp2_with fail
    refine (HSP _).mono ?_
    rintro e w3 ⟨g4, c4, g5, c5, rfl, o4, o5, hne, hx3⟩
    have hb3 : Below w2.heap.size w2 w3 := Below.trans (by go_grown) (hx3.mono (by go_size))
    replace HT := hide ((unhide HT).below hb3)
    (try clear BXz BXc0 BXc1)
    replace BX := hide ((unhide BX).below hb3)
    have BXz := (unhide BX).1
    have BXc0 := (unhide BX).2.1 0 _ rfl
    have BXc1 := (unhide BX).2.1 1 _ rfl
    replace HK := hide ((unhide HK).trans (hb3.mono (unhide HK).size))
    have HS4 := hide (row11 (cap := c4) hL4 o4)
    have HS5 := hide (row3 (cap := c5) hL5 o5)
    clear o4 o5 hx2 hb2
    go_wp2_with fail
    refine (toSigner s N _).mono ?_
    rintro e w4 ⟨rfl, hx4⟩
    have hb4 : Below w3.heap.size w3 w4 := Below.trans (by go_grown) (hx4.mono (by go_size))
    replace HT := hide ((unhide HT).below hb4)
    replace HS4 := hide ((unhide HS4).below hb4)
    replace HS5 := hide ((unhide HS5).below hb4)
    (try clear BXz BXc0 BXc1)
    replace BX := hide ((unhide BX).below hb4)
    have BXz := (unhide BX).1
    have BXc0 := (unhide BX).2.1 0 _ rfl
    have BXc1 := (unhide BX).2.1 1 _ rfl
    replace HK := hide ((unhide HK).trans (hb4.mono (unhide HK).size))
    obtain ⟨qBP, qBQ⟩ := boxOf2 hx4
    have BP := hide qBP
    clear qBP
    have BPz := (unhide BP).1
    have BPc0 := (unhide BP).2.1 0 _ rfl
    have BPc1 := (unhide BP).2.1 1 _ rfl
    have BQ := hide qBQ
    clear qBQ
    have BQz := (unhide BQ).1
    have BQc0 := (unhide BQ).2.1 0 _ rfl
    have BQc1 := (unhide BQ).2.1 1 _ rfl
    have BQc2 := (unhide BQ).2.1 2 _ rfl
    clear hx3 hb3
    have HT0 := HT
    have HS40 := HS4
    have HS50 := HS5
    have BX0 := BX
    have BP0 := BP
    have BQ0 := BQ
    have HK0 := HK
    go_wp2_with fail
    refine (HIM _ (unhide HT)).mono ?_
    rintro e w5 ⟨q4, d4, q5, d5, rfl, o4, o5, hnq, hx5⟩
    have hb5 : Below w4.heap.size w4 w5 := Below.trans (by go_grown) (hx5.mono (by go_size))
    replace HT := hide ((unhide HT).below hb5)
    replace HS4 := hide ((unhide HS4).below hb5)
    replace HS5 := hide ((unhide HS5).below hb5)
    (try clear BXz BXc0 BXc1)
    replace BX := hide ((unhide BX).below hb5)
    have BXz := (unhide BX).1
    have BXc0 := (unhide BX).2.1 0 _ rfl
    have BXc1 := (unhide BX).2.1 1 _ rfl
    (try clear BPz BPc0 BPc1)
    replace BP := hide ((unhide BP).below hb5)
    have BPz := (unhide BP).1
    have BPc0 := (unhide BP).2.1 0 _ rfl
    have BPc1 := (unhide BP).2.1 1 _ rfl
    (try clear BQz BQc0 BQc1 BQc2)
    replace BQ := hide ((unhide BQ).below hb5)
    have BQz := (unhide BQ).1
    have BQc0 := (unhide BQ).2.1 0 _ rfl
    have BQc1 := (unhide BQ).2.1 1 _ rfl
    have BQc2 := (unhide BQ).2.1 2 _ rfl
    replace HK := hide ((unhide HK).trans (hb5.mono (unhide HK).size))
    have HO4 := hide o4
    have HO5 := hide o5
    have HB5 := hide hb5
    have l4 := o4.2.1
    have l5 := o5.2.1
    have p4 := o4.1
    have p5 := o5.1
    clear hx4 hb4 o4 o5
    go_wp2_with fail
    refine (eqSigner s ((N : Int) + 1) _).mono ?_
    rintro e w6 ⟨rfl, hx6⟩
    have hb6 : Below w5.heap.size w5 w6 := Below.trans (by go_grown) (hx6.mono (by go_size))
    replace HT := hide ((unhide HT).below hb6)
    replace HS4 := hide ((unhide HS4).below hb6)
    replace HS5 := hide ((unhide HS5).below hb6)
    (try clear BXz BXc0 BXc1)
    replace BX := hide ((unhide BX).below hb6)
    have BXz := (unhide BX).1
    have BXc0 := (unhide BX).2.1 0 _ rfl
    have BXc1 := (unhide BX).2.1 1 _ rfl
    (try clear BPz BPc0 BPc1)
    replace BP := hide ((unhide BP).below hb6)
    have BPz := (unhide BP).1
    have BPc0 := (unhide BP).2.1 0 _ rfl
    have BPc1 := (unhide BP).2.1 1 _ rfl
    (try clear BQz BQc0 BQc1 BQc2)
    replace BQ := hide ((unhide BQ).below hb6)
    have BQz := (unhide BQ).1
    have BQc0 := (unhide BQ).2.1 0 _ rfl
    have BQc1 := (unhide BQ).2.1 1 _ rfl
    have BQc2 := (unhide BQ).2.1 2 _ rfl
    replace HO4 := hide ((unhide HO4).below hb6)
    replace HO5 := hide ((unhide HO5).below hb6)
    replace HK := hide ((unhide HK).trans (hb6.mono (unhide HK).size))
    obtain ⟨qBR, qBS⟩ := boxOf2 hx6
    have BR := hide qBR
    clear qBR
    have BRz := (unhide BR).1
    have BRc0 := (unhide BR).2.1 0 _ rfl
    have BRc1 := (unhide BR).2.1 1 _ rfl
    have BS := hide qBS
    clear qBS
    have BSz := (unhide BS).1
    have BSc0 := (unhide BS).2.1 0 _ rfl
    have BSc1 := (unhide BS).2.1 1 _ rfl
    have BSc2 := (unhide BS).2.1 2 _ rfl
    replace HB5 := hide ((unhide HB5).trans (hb6.mono (unhide HB5).size))
    clear hx5 hb5
    go_wp2_with fail
    refine (eqSeal N _ _ _ _ L4 L5 _ (row11 (cap := d4) hL4 (unhide HO4)) (row3 (cap := d5) hL5 (unhide HO5)) (unhide HS4) (unhide HS5) (by omega) (by omega)).mono ?_
    rintro e w7 ⟨rfl, hx7⟩
    have hb7 : Below w6.heap.size w6 w7 := Below.trans (by go_grown) (hx7.mono (by go_size))
    replace HT := hide ((unhide HT).below hb7)
    replace HS4 := hide ((unhide HS4).below hb7)
    replace HS5 := hide ((unhide HS5).below hb7)
    (try clear BXz BXc0 BXc1)
    replace BX := hide ((unhide BX).below hb7)
    have BXz := (unhide BX).1
    have BXc0 := (unhide BX).2.1 0 _ rfl
    have BXc1 := (unhide BX).2.1 1 _ rfl
    (try clear BPz BPc0 BPc1)
    replace BP := hide ((unhide BP).below hb7)
    have BPz := (unhide BP).1
    have BPc0 := (unhide BP).2.1 0 _ rfl
    have BPc1 := (unhide BP).2.1 1 _ rfl
    (try clear BQz BQc0 BQc1 BQc2)
    replace BQ := hide ((unhide BQ).below hb7)
    have BQz := (unhide BQ).1
    have BQc0 := (unhide BQ).2.1 0 _ rfl
    have BQc1 := (unhide BQ).2.1 1 _ rfl
    have BQc2 := (unhide BQ).2.1 2 _ rfl
    replace HO4 := hide ((unhide HO4).below hb7)
    replace HO5 := hide ((unhide HO5).below hb7)
    (try clear BRz BRc0 BRc1)
    replace BR := hide ((unhide BR).below hb7)
    have BRz := (unhide BR).1
    have BRc0 := (unhide BR).2.1 0 _ rfl
    have BRc1 := (unhide BR).2.1 1 _ rfl
    (try clear BSz BSc0 BSc1 BSc2)
    replace BS := hide ((unhide BS).below hb7)
    have BSz := (unhide BS).1
    have BSc0 := (unhide BS).2.1 0 _ rfl
    have BSc1 := (unhide BS).2.1 1 _ rfl
    have BSc2 := (unhide BS).2.1 2 _ rfl
    replace HK := hide ((unhide HK).trans (hb7.mono (unhide HK).size))
    replace HB5 := hide ((unhide HB5).trans (hb7.mono (unhide HB5).size))
    clear hx6 hb6
    go_wp2_with fail
    refine (markSeal N w4.heap.size q4 q5 d4 d5 _ _ _ (unhide HO4) (unhide HO5) hnq (fun i _ => ⟨_, rfl⟩) (fun i _ => ⟨_, rfl⟩)).mono ?_
    rintro e w8 ⟨rfl, o4, o5, X, Y, hX, hY, hZ⟩
    have s7 := (unhide HB5).size
    have sX : w4.heap.size ≤ X.heap.size := Nat.le_trans s7 hX.size
    have sY : w4.heap.size ≤ Y.heap.size := Nat.le_trans sX hY.size
    have hb48 : Below w4.heap.size w4 w8 := (((unhide HB5).trans (hX.mono s7)).trans (bel_gb hY p4 sX)).trans (bel_gb hZ p5 sY)
    have BS8 := hide ((((unhide BS).below hX).otherBy hY (by omega)).otherBy hZ (by omega))
    clear HT HS4 HS5 BX BXz BXc0 BXc1 BP BPz BPc0 BPc1 BQ BQz BQc0 BQc1 BQc2 BR BRz BRc0 BRc1 BS BSz BSc0 BSc1 BSc2 HO4 HO5 HK
    have HT := hide ((unhide HT0).below hb48)
    have HS4 := hide ((unhide HS40).below hb48)
    have HS5 := hide ((unhide HS50).below hb48)
    have BX := hide ((unhide BX0).below hb48)
    have BP := hide ((unhide BP0).below hb48)
    have BQ := hide ((unhide BQ0).below hb48)
    have HK := hide ((unhide HK0).trans (hb48.mono (unhide HK0).size))
    have HO4 := hide o4
    have HO5 := hide o5
    clear HT0 HS40 HS50 BX0 BP0 BQ0 HK0 hX hY hZ hb48 HB5 hb7 hx7 o4 o5 s7 sX sY
    have BXz := (unhide BX).1
    have BXc0 := (unhide BX).2.1 0 _ rfl
    have BXc1 := (unhide BX).2.1 1 _ rfl
    have BSc0 := (unhide BS8).2.1 0 _ rfl
    have BSc1 := (unhide BS8).2.1 1 _ rfl
    have BSc2 := (unhide BS8).2.1 2 _ rfl
    have BPc0 := (unhide BP).2.1 0 _ rfl
    have BPc1 := (unhide BP).2.1 1 _ rfl
    have BQc0 := (unhide BQ).2.1 0 _ rfl
    have BQc1 := (unhide BQ).2.1 1 _ rfl
    have BQc2 := (unhide BQ).2.1 2 _ rfl
    have BS8c0 := BSc0
    have BS8c1 := BSc1
    have BS8c2 := BSc2
    clear BSc0 BSc1 BSc2
    go_wp2_with fail
    refine (heldSeal N w4.heap.size w4.heap.size q4 q5 d4 d5 _ (unhide HO4) (unhide HO5)).mono ?_
    rintro e w9 ⟨rfl, hx9⟩
    have hb9 : Below w8.heap.size w8 w9 := Below.trans (by go_grown) (hx9.mono (by go_size))
    replace HT := hide ((unhide HT).below hb9)
    replace HS4 := hide ((unhide HS4).below hb9)
    replace HS5 := hide ((unhide HS5).below hb9)
    (try clear BXz BXc0 BXc1)
    replace BX := hide ((unhide BX).below hb9)
    have BXz := (unhide BX).1
    have BXc0 := (unhide BX).2.1 0 _ rfl
    have BXc1 := (unhide BX).2.1 1 _ rfl
    (try clear BPz BPc0 BPc1)
    replace BP := hide ((unhide BP).below hb9)
    have BPz := (unhide BP).1
    have BPc0 := (unhide BP).2.1 0 _ rfl
    have BPc1 := (unhide BP).2.1 1 _ rfl
    (try clear BQz BQc0 BQc1 BQc2)
    replace BQ := hide ((unhide BQ).below hb9)
    have BQz := (unhide BQ).1
    have BQc0 := (unhide BQ).2.1 0 _ rfl
    have BQc1 := (unhide BQ).2.1 1 _ rfl
    have BQc2 := (unhide BQ).2.1 2 _ rfl
    (try clear BS8z BS8c0 BS8c1 BS8c2)
    replace BS8 := hide ((unhide BS8).below hb9)
    have BS8z := (unhide BS8).1
    have BS8c0 := (unhide BS8).2.1 0 _ rfl
    have BS8c1 := (unhide BS8).2.1 1 _ rfl
    have BS8c2 := (unhide BS8).2.1 2 _ rfl
    replace HO4 := hide ((unhide HO4).below hb9)
    replace HO5 := hide ((unhide HO5).below hb9)
    replace HK := hide ((unhide HK).trans (hb9.mono (unhide HK).size))
    go_wp2_with fail
    refine (toSigner s N _).mono ?_
    rintro e w10 ⟨rfl, hx10⟩
    have hb10 : Below w9.heap.size w9 w10 := Below.trans (by go_grown) (hx10.mono (by go_size))
    replace HT := hide ((unhide HT).below hb10)
    replace HS4 := hide ((unhide HS4).below hb10)
    replace HS5 := hide ((unhide HS5).below hb10)
    (try clear BXz BXc0 BXc1)
    replace BX := hide ((unhide BX).below hb10)
    have BXz := (unhide BX).1
    have BXc0 := (unhide BX).2.1 0 _ rfl
    have BXc1 := (unhide BX).2.1 1 _ rfl
    (try clear BPz BPc0 BPc1)
    replace BP := hide ((unhide BP).below hb10)
    have BPz := (unhide BP).1
    have BPc0 := (unhide BP).2.1 0 _ rfl
    have BPc1 := (unhide BP).2.1 1 _ rfl
    (try clear BQz BQc0 BQc1 BQc2)
    replace BQ := hide ((unhide BQ).below hb10)
    have BQz := (unhide BQ).1
    have BQc0 := (unhide BQ).2.1 0 _ rfl
    have BQc1 := (unhide BQ).2.1 1 _ rfl
    have BQc2 := (unhide BQ).2.1 2 _ rfl
    (try clear BS8z BS8c0 BS8c1 BS8c2)
    replace BS8 := hide ((unhide BS8).below hb10)
    have BS8z := (unhide BS8).1
    have BS8c0 := (unhide BS8).2.1 0 _ rfl
    have BS8c1 := (unhide BS8).2.1 1 _ rfl
    have BS8c2 := (unhide BS8).2.1 2 _ rfl
    replace HO4 := hide ((unhide HO4).below hb10)
    replace HO5 := hide ((unhide HO5).below hb10)
    replace HK := hide ((unhide HK).trans (hb10.mono (unhide HK).size))
    clear hx9 hb9
    go_wp2_with fail
    refine (HIM _ (unhide HT)).mono ?_
    rintro e w11 ⟨r4, b4, r5, b5, rfl, o4, o5, hnr, hx11⟩
    have hb11 : Below w10.heap.size w10 w11 := Below.trans (by go_grown) (hx11.mono (by go_size))
    replace HT := hide ((unhide HT).below hb11)
    replace HS4 := hide ((unhide HS4).below hb11)
    replace HS5 := hide ((unhide HS5).below hb11)
    (try clear BXz BXc0 BXc1)
    replace BX := hide ((unhide BX).below hb11)
    have BXz := (unhide BX).1
    have BXc0 := (unhide BX).2.1 0 _ rfl
    have BXc1 := (unhide BX).2.1 1 _ rfl
    (try clear BPz BPc0 BPc1)
    replace BP := hide ((unhide BP).below hb11)
    have BPz := (unhide BP).1
    have BPc0 := (unhide BP).2.1 0 _ rfl
    have BPc1 := (unhide BP).2.1 1 _ rfl
    (try clear BQz BQc0 BQc1 BQc2)
    replace BQ := hide ((unhide BQ).below hb11)
    have BQz := (unhide BQ).1
    have BQc0 := (unhide BQ).2.1 0 _ rfl
    have BQc1 := (unhide BQ).2.1 1 _ rfl
    have BQc2 := (unhide BQ).2.1 2 _ rfl
    (try clear BS8z BS8c0 BS8c1 BS8c2)
    replace BS8 := hide ((unhide BS8).below hb11)
    have BS8z := (unhide BS8).1
    have BS8c0 := (unhide BS8).2.1 0 _ rfl
    have BS8c1 := (unhide BS8).2.1 1 _ rfl
    have BS8c2 := (unhide BS8).2.1 2 _ rfl
    replace HO4 := hide ((unhide HO4).below hb11)
    replace HO5 := hide ((unhide HO5).below hb11)
    replace HK := hide ((unhide HK).trans (hb11.mono (unhide HK).size))
    have HR4 := hide o4
    have HR5 := hide o5
    clear hx10 hb10 o4 o5
    go_wp2_with fail
    refine (eqSigner s ((N : Int) + 1) _).mono ?_
    rintro e w12 ⟨rfl, hx12⟩
    have hb12 : Below w11.heap.size w11 w12 := Below.trans (by go_grown) (hx12.mono (by go_size))
    replace HT := hide ((unhide HT).below hb12)
    replace HS4 := hide ((unhide HS4).below hb12)
    replace HS5 := hide ((unhide HS5).below hb12)
    (try clear BXz BXc0 BXc1)
    replace BX := hide ((unhide BX).below hb12)
    have BXz := (unhide BX).1
    have BXc0 := (unhide BX).2.1 0 _ rfl
    have BXc1 := (unhide BX).2.1 1 _ rfl
    (try clear BPz BPc0 BPc1)
    replace BP := hide ((unhide BP).below hb12)
    have BPz := (unhide BP).1
    have BPc0 := (unhide BP).2.1 0 _ rfl
    have BPc1 := (unhide BP).2.1 1 _ rfl
    (try clear BQz BQc0 BQc1 BQc2)
    replace BQ := hide ((unhide BQ).below hb12)
    have BQz := (unhide BQ).1
    have BQc0 := (unhide BQ).2.1 0 _ rfl
    have BQc1 := (unhide BQ).2.1 1 _ rfl
    have BQc2 := (unhide BQ).2.1 2 _ rfl
    (try clear BS8z BS8c0 BS8c1 BS8c2)
    replace BS8 := hide ((unhide BS8).below hb12)
    have BS8z := (unhide BS8).1
    have BS8c0 := (unhide BS8).2.1 0 _ rfl
    have BS8c1 := (unhide BS8).2.1 1 _ rfl
    have BS8c2 := (unhide BS8).2.1 2 _ rfl
    replace HO4 := hide ((unhide HO4).below hb12)
    replace HO5 := hide ((unhide HO5).below hb12)
    replace HR4 := hide ((unhide HR4).below hb12)
    replace HR5 := hide ((unhide HR5).below hb12)
    replace HK := hide ((unhide HK).trans (hb12.mono (unhide HK).size))
    obtain ⟨qBT, qBU⟩ := boxOf2 hx12
    have BT := hide qBT
    clear qBT
    have BTz := (unhide BT).1
    have BTc0 := (unhide BT).2.1 0 _ rfl
    have BTc1 := (unhide BT).2.1 1 _ rfl
    have BU := hide qBU
    clear qBU
    have BUz := (unhide BU).1
    have BUc0 := (unhide BU).2.1 0 _ rfl
    have BUc1 := (unhide BU).2.1 1 _ rfl
    have BUc2 := (unhide BU).2.1 2 _ rfl
    clear hx11 hb11
    go_wp2_with fail
    refine (eqSeal N _ _ _ _ L4 L5 _ (row11 (cap := b4) hL4 (unhide HR4)) (row3 (cap := b5) hL5 (unhide HR5)) (unhide HS4) (unhide HS5) (by omega) (by omega)).mono ?_
    rintro e w13 ⟨rfl, hx13⟩
    have hb13 : Below w12.heap.size w12 w13 := Below.trans (by go_grown) (hx13.mono (by go_size))
    (try clear BS8z BS8c0 BS8c1 BS8c2)
    replace BS8 := hide ((unhide BS8).below hb13)
    have BS8z := (unhide BS8).1
    have BS8c0 := (unhide BS8).2.1 0 _ rfl
    have BS8c1 := (unhide BS8).2.1 1 _ rfl
    have BS8c2 := (unhide BS8).2.1 2 _ rfl
    replace HO4 := hide ((unhide HO4).below hb13)
    replace HO5 := hide ((unhide HO5).below hb13)
    replace HK := hide ((unhide HK).trans (hb13.mono (unhide HK).size))
    clear hx12 hb12
    go_wp2_with fail
    refine (heldSeal N w4.heap.size w4.heap.size q4 q5 d4 d5 _ (unhide HO4) (unhide HO5)).mono ?_
    rintro e w14 ⟨rfl, hx14⟩
    have hb14 : Below w13.heap.size w13 w14 := Below.trans (by go_grown) (hx14.mono (by go_size))
    replace HO4 := hide ((unhide HO4).below hb14)
    replace HK := hide ((unhide HK).trans (hb14.mono (unhide HK).size))
    have hfin := unhide HK
    clear hx13 hb13 hx14 hb14
    go_wp2
    go_returns
    exact ⟨rfl, hfin⟩
  · have HSP := fun W => specTextNo s t u W hm hmt hyes
    have HIM := fun W hT => implTextSNo s t u W hm hmt hyes hT
    clear hyes
    go_enter Tryd.func10, Tryd.ntmps10
    go_wp2_with fail
    refine (HZ _).mono ?_
    rintro e w1 ⟨rfl, hx1⟩
    have hb1 : Below w.heap.size w w1 := Below.trans (by go_grown) (hx1.mono (by go_size))
    replace HT := hide ((unhide HT).below hb1)
    replace HK := hide ((unhide HK).trans (hb1.mono (unhide HK).size))
    have qBX := boxOf1 hx1
    have BX := hide qBX
    clear qBX
    have BXz := (unhide BX).1
    have BXc0 := (unhide BX).2.1 0 _ rfl
    have BXc1 := (unhide BX).2.1 1 _ rfl
    go_wp2_with fail
    refine (toSigner s u _).mono ?_
    rintro e w2 ⟨rfl, hx2⟩
    have hb2 : Below w1.heap.size w1 w2 := Below.trans (by go_grown) (hx2.mono (by go_size))
    replace HT := hide ((unhide HT).below hb2)
    (try clear BXz BXc0 BXc1)
    replace BX := hide ((unhide BX).below hb2)
    have BXz := (unhide BX).1
    have BXc0 := (unhide BX).2.1 0 _ rfl
    have BXc1 := (unhide BX).2.1 1 _ rfl
    replace HK := hide ((unhide HK).trans (hb2.mono (unhide HK).size))
    clear hx1 hb1
    go_wp2_with fail
    refine (HSP _).mono ?_
    rintro e w3 ⟨rfl, hx3⟩
    have hb3 : Below w2.heap.size w2 w3 := Below.trans (by go_grown) (hx3.mono (by go_size))
    replace HT := hide ((unhide HT).below hb3)
    (try clear BXz BXc0 BXc1)
    replace BX := hide ((unhide BX).below hb3)
    have BXz := (unhide BX).1
    have BXc0 := (unhide BX).2.1 0 _ rfl
    have BXc1 := (unhide BX).2.1 1 _ rfl
    replace HK := hide ((unhide HK).trans (hb3.mono (unhide HK).size))
    clear hx2 hb2
    go_wp2_with fail
    refine (toSigner s u _).mono ?_
    rintro e w4 ⟨rfl, hx4⟩
    have hb4 : Below w3.heap.size w3 w4 := Below.trans (by go_grown) (hx4.mono (by go_size))
    replace HT := hide ((unhide HT).below hb4)
    (try clear BXz BXc0 BXc1)
    replace BX := hide ((unhide BX).below hb4)
    have BXz := (unhide BX).1
    have BXc0 := (unhide BX).2.1 0 _ rfl
    have BXc1 := (unhide BX).2.1 1 _ rfl
    replace HK := hide ((unhide HK).trans (hb4.mono (unhide HK).size))
    obtain ⟨qBP, qBQ⟩ := boxOf2 hx4
    have BP := hide qBP
    clear qBP
    have BPz := (unhide BP).1
    have BPc0 := (unhide BP).2.1 0 _ rfl
    have BPc1 := (unhide BP).2.1 1 _ rfl
    have BQ := hide qBQ
    clear qBQ
    have BQz := (unhide BQ).1
    have BQc0 := (unhide BQ).2.1 0 _ rfl
    have BQc1 := (unhide BQ).2.1 1 _ rfl
    have BQc2 := (unhide BQ).2.1 2 _ rfl
    clear hx3 hb3
    go_wp2_with fail
    refine (HIM _ (unhide HT)).mono ?_
    rintro e w5 ⟨rfl, hx5⟩
    have hb5 : Below w4.heap.size w4 w5 := Below.trans (by go_grown) (hx5.mono (by go_size))
    replace HT := hide ((unhide HT).below hb5)
    (try clear BXz BXc0 BXc1)
    replace BX := hide ((unhide BX).below hb5)
    have BXz := (unhide BX).1
    have BXc0 := (unhide BX).2.1 0 _ rfl
    have BXc1 := (unhide BX).2.1 1 _ rfl
    (try clear BPz BPc0 BPc1)
    replace BP := hide ((unhide BP).below hb5)
    have BPz := (unhide BP).1
    have BPc0 := (unhide BP).2.1 0 _ rfl
    have BPc1 := (unhide BP).2.1 1 _ rfl
    (try clear BQz BQc0 BQc1 BQc2)
    replace BQ := hide ((unhide BQ).below hb5)
    have BQz := (unhide BQ).1
    have BQc0 := (unhide BQ).2.1 0 _ rfl
    have BQc1 := (unhide BQ).2.1 1 _ rfl
    have BQc2 := (unhide BQ).2.1 2 _ rfl
    replace HK := hide ((unhide HK).trans (hb5.mono (unhide HK).size))
    clear hx4 hb4
    go_wp2_with fail
    refine (eqSigner _ 0 _).mono ?_
    rintro e w6 ⟨rfl, hx6⟩
    have hb6 : Below w5.heap.size w5 w6 := Below.trans (by go_grown) (hx6.mono (by go_size))
    replace HT := hide ((unhide HT).below hb6)
    (try clear BXz BXc0 BXc1)
    replace BX := hide ((unhide BX).below hb6)
    have BXz := (unhide BX).1
    have BXc0 := (unhide BX).2.1 0 _ rfl
    have BXc1 := (unhide BX).2.1 1 _ rfl
    (try clear BPz BPc0 BPc1)
    replace BP := hide ((unhide BP).below hb6)
    have BPz := (unhide BP).1
    have BPc0 := (unhide BP).2.1 0 _ rfl
    have BPc1 := (unhide BP).2.1 1 _ rfl
    (try clear BQz BQc0 BQc1 BQc2)
    replace BQ := hide ((unhide BQ).below hb6)
    have BQz := (unhide BQ).1
    have BQc0 := (unhide BQ).2.1 0 _ rfl
    have BQc1 := (unhide BQ).2.1 1 _ rfl
    have BQc2 := (unhide BQ).2.1 2 _ rfl
    replace HK := hide ((unhide HK).trans (hb6.mono (unhide HK).size))
    obtain ⟨qBR, qBS⟩ := boxOf2 hx6
    have BR := hide qBR
    clear qBR
    have BRz := (unhide BR).1
    have BRc0 := (unhide BR).2.1 0 _ rfl
    have BRc1 := (unhide BR).2.1 1 _ rfl
    have BS := hide qBS
    clear qBS
    have BSz := (unhide BS).1
    have BSc0 := (unhide BS).2.1 0 _ rfl
    have BSc1 := (unhide BS).2.1 1 _ rfl
    have BSc2 := (unhide BS).2.1 2 _ rfl
    clear hx5 hb5
    go_wp2_with fail
    refine (eqSeal 0 _ _ _ _ [] [] _ (.inl ⟨_, _, rfl, rfl⟩) (.inl ⟨_, _, rfl, rfl⟩) (.inl ⟨_, _, rfl, rfl⟩) (.inl ⟨_, _, rfl, rfl⟩) (by simp) (by simp)).mono ?_
    rintro e w7 ⟨rfl, hx7⟩
    have hb7 : Below w6.heap.size w6 w7 := Below.trans (by go_grown) (hx7.mono (by go_size))
    replace HT := hide ((unhide HT).below hb7)
    (try clear BXz BXc0 BXc1)
    replace BX := hide ((unhide BX).below hb7)
    have BXz := (unhide BX).1
    have BXc0 := (unhide BX).2.1 0 _ rfl
    have BXc1 := (unhide BX).2.1 1 _ rfl
    (try clear BPz BPc0 BPc1)
    replace BP := hide ((unhide BP).below hb7)
    have BPz := (unhide BP).1
    have BPc0 := (unhide BP).2.1 0 _ rfl
    have BPc1 := (unhide BP).2.1 1 _ rfl
    (try clear BQz BQc0 BQc1 BQc2)
    replace BQ := hide ((unhide BQ).below hb7)
    have BQz := (unhide BQ).1
    have BQc0 := (unhide BQ).2.1 0 _ rfl
    have BQc1 := (unhide BQ).2.1 1 _ rfl
    have BQc2 := (unhide BQ).2.1 2 _ rfl
    (try clear BRz BRc0 BRc1)
    replace BR := hide ((unhide BR).below hb7)
    have BRz := (unhide BR).1
    have BRc0 := (unhide BR).2.1 0 _ rfl
    have BRc1 := (unhide BR).2.1 1 _ rfl
    (try clear BSz BSc0 BSc1 BSc2)
    replace BS := hide ((unhide BS).below hb7)
    have BSz := (unhide BS).1
    have BSc0 := (unhide BS).2.1 0 _ rfl
    have BSc1 := (unhide BS).2.1 1 _ rfl
    have BSc2 := (unhide BS).2.1 2 _ rfl
    replace HK := hide ((unhide HK).trans (hb7.mono (unhide HK).size))
    clear hx6 hb6
    go_wp2_with fail
    refine (markSealNil 0 _ _ _ _ _).mono ?_
    rintro e w8 ⟨rfl, hx8⟩
    have hb8 : Below w7.heap.size w7 w8 := Below.trans (by go_grown) (hx8.mono (by go_size))
    replace HT := hide ((unhide HT).below hb8)
    (try clear BXz BXc0 BXc1)
    replace BX := hide ((unhide BX).below hb8)
    have BXz := (unhide BX).1
    have BXc0 := (unhide BX).2.1 0 _ rfl
    have BXc1 := (unhide BX).2.1 1 _ rfl
    (try clear BPz BPc0 BPc1)
    replace BP := hide ((unhide BP).below hb8)
    have BPz := (unhide BP).1
    have BPc0 := (unhide BP).2.1 0 _ rfl
    have BPc1 := (unhide BP).2.1 1 _ rfl
    (try clear BQz BQc0 BQc1 BQc2)
    replace BQ := hide ((unhide BQ).below hb8)
    have BQz := (unhide BQ).1
    have BQc0 := (unhide BQ).2.1 0 _ rfl
    have BQc1 := (unhide BQ).2.1 1 _ rfl
    have BQc2 := (unhide BQ).2.1 2 _ rfl
    (try clear BRz BRc0 BRc1)
    replace BR := hide ((unhide BR).below hb8)
    have BRz := (unhide BR).1
    have BRc0 := (unhide BR).2.1 0 _ rfl
    have BRc1 := (unhide BR).2.1 1 _ rfl
    (try clear BSz BSc0 BSc1 BSc2)
    replace BS := hide ((unhide BS).below hb8)
    have BSz := (unhide BS).1
    have BSc0 := (unhide BS).2.1 0 _ rfl
    have BSc1 := (unhide BS).2.1 1 _ rfl
    have BSc2 := (unhide BS).2.1 2 _ rfl
    replace HK := hide ((unhide HK).trans (hb8.mono (unhide HK).size))
    clear hx7 hb7
    go_wp2_with fail
    refine (heldSealNil 0 _ _ _ _ _).mono ?_
    rintro e w9 ⟨rfl, hx9⟩
    have hb9 : Below w8.heap.size w8 w9 := Below.trans (by go_grown) (hx9.mono (by go_size))
    replace HT := hide ((unhide HT).below hb9)
    (try clear BXz BXc0 BXc1)
    replace BX := hide ((unhide BX).below hb9)
    have BXz := (unhide BX).1
    have BXc0 := (unhide BX).2.1 0 _ rfl
    have BXc1 := (unhide BX).2.1 1 _ rfl
    (try clear BPz BPc0 BPc1)
    replace BP := hide ((unhide BP).below hb9)
    have BPz := (unhide BP).1
    have BPc0 := (unhide BP).2.1 0 _ rfl
    have BPc1 := (unhide BP).2.1 1 _ rfl
    (try clear BQz BQc0 BQc1 BQc2)
    replace BQ := hide ((unhide BQ).below hb9)
    have BQz := (unhide BQ).1
    have BQc0 := (unhide BQ).2.1 0 _ rfl
    have BQc1 := (unhide BQ).2.1 1 _ rfl
    have BQc2 := (unhide BQ).2.1 2 _ rfl
    (try clear BRz BRc0 BRc1)
    replace BR := hide ((unhide BR).below hb9)
    have BRz := (unhide BR).1
    have BRc0 := (unhide BR).2.1 0 _ rfl
    have BRc1 := (unhide BR).2.1 1 _ rfl
    (try clear BSz BSc0 BSc1 BSc2)
    replace BS := hide ((unhide BS).below hb9)
    have BSz := (unhide BS).1
    have BSc0 := (unhide BS).2.1 0 _ rfl
    have BSc1 := (unhide BS).2.1 1 _ rfl
    have BSc2 := (unhide BS).2.1 2 _ rfl
    replace HK := hide ((unhide HK).trans (hb9.mono (unhide HK).size))
    clear hx8 hb8
    go_wp2_with fail
    refine (toSigner s u _).mono ?_
    rintro e w10 ⟨rfl, hx10⟩
    have hb10 : Below w9.heap.size w9 w10 := Below.trans (by go_grown) (hx10.mono (by go_size))
    replace HT := hide ((unhide HT).below hb10)
    (try clear BXz BXc0 BXc1)
    replace BX := hide ((unhide BX).below hb10)
    have BXz := (unhide BX).1
    have BXc0 := (unhide BX).2.1 0 _ rfl
    have BXc1 := (unhide BX).2.1 1 _ rfl
    (try clear BPz BPc0 BPc1)
    replace BP := hide ((unhide BP).below hb10)
    have BPz := (unhide BP).1
    have BPc0 := (unhide BP).2.1 0 _ rfl
    have BPc1 := (unhide BP).2.1 1 _ rfl
    (try clear BQz BQc0 BQc1 BQc2)
    replace BQ := hide ((unhide BQ).below hb10)
    have BQz := (unhide BQ).1
    have BQc0 := (unhide BQ).2.1 0 _ rfl
    have BQc1 := (unhide BQ).2.1 1 _ rfl
    have BQc2 := (unhide BQ).2.1 2 _ rfl
    (try clear BRz BRc0 BRc1)
    replace BR := hide ((unhide BR).below hb10)
    have BRz := (unhide BR).1
    have BRc0 := (unhide BR).2.1 0 _ rfl
    have BRc1 := (unhide BR).2.1 1 _ rfl
    (try clear BSz BSc0 BSc1 BSc2)
    replace BS := hide ((unhide BS).below hb10)
    have BSz := (unhide BS).1
    have BSc0 := (unhide BS).2.1 0 _ rfl
    have BSc1 := (unhide BS).2.1 1 _ rfl
    have BSc2 := (unhide BS).2.1 2 _ rfl
    replace HK := hide ((unhide HK).trans (hb10.mono (unhide HK).size))
    clear hx9 hb9
    go_wp2_with fail
    refine (HIM _ (unhide HT)).mono ?_
    rintro e w11 ⟨rfl, hx11⟩
    have hb11 : Below w10.heap.size w10 w11 := Below.trans (by go_grown) (hx11.mono (by go_size))
    replace HT := hide ((unhide HT).below hb11)
    (try clear BXz BXc0 BXc1)
    replace BX := hide ((unhide BX).below hb11)
    have BXz := (unhide BX).1
    have BXc0 := (unhide BX).2.1 0 _ rfl
    have BXc1 := (unhide BX).2.1 1 _ rfl
    (try clear BPz BPc0 BPc1)
    replace BP := hide ((unhide BP).below hb11)
    have BPz := (unhide BP).1
    have BPc0 := (unhide BP).2.1 0 _ rfl
    have BPc1 := (unhide BP).2.1 1 _ rfl
    (try clear BQz BQc0 BQc1 BQc2)
    replace BQ := hide ((unhide BQ).below hb11)
    have BQz := (unhide BQ).1
    have BQc0 := (unhide BQ).2.1 0 _ rfl
    have BQc1 := (unhide BQ).2.1 1 _ rfl
    have BQc2 := (unhide BQ).2.1 2 _ rfl
    (try clear BRz BRc0 BRc1)
    replace BR := hide ((unhide BR).below hb11)
    have BRz := (unhide BR).1
    have BRc0 := (unhide BR).2.1 0 _ rfl
    have BRc1 := (unhide BR).2.1 1 _ rfl
    (try clear BSz BSc0 BSc1 BSc2)
    replace BS := hide ((unhide BS).below hb11)
    have BSz := (unhide BS).1
    have BSc0 := (unhide BS).2.1 0 _ rfl
    have BSc1 := (unhide BS).2.1 1 _ rfl
    have BSc2 := (unhide BS).2.1 2 _ rfl
    replace HK := hide ((unhide HK).trans (hb11.mono (unhide HK).size))
    clear hx10 hb10
    go_wp2_with fail
    refine (eqSigner _ 0 _).mono ?_
    rintro e w12 ⟨rfl, hx12⟩
    have hb12 : Below w11.heap.size w11 w12 := Below.trans (by go_grown) (hx12.mono (by go_size))
    replace HT := hide ((unhide HT).below hb12)
    (try clear BXz BXc0 BXc1)
    replace BX := hide ((unhide BX).below hb12)
    have BXz := (unhide BX).1
    have BXc0 := (unhide BX).2.1 0 _ rfl
    have BXc1 := (unhide BX).2.1 1 _ rfl
    (try clear BPz BPc0 BPc1)
    replace BP := hide ((unhide BP).below hb12)
    have BPz := (unhide BP).1
    have BPc0 := (unhide BP).2.1 0 _ rfl
    have BPc1 := (unhide BP).2.1 1 _ rfl
    (try clear BQz BQc0 BQc1 BQc2)
    replace BQ := hide ((unhide BQ).below hb12)
    have BQz := (unhide BQ).1
    have BQc0 := (unhide BQ).2.1 0 _ rfl
    have BQc1 := (unhide BQ).2.1 1 _ rfl
    have BQc2 := (unhide BQ).2.1 2 _ rfl
    (try clear BRz BRc0 BRc1)
    replace BR := hide ((unhide BR).below hb12)
    have BRz := (unhide BR).1
    have BRc0 := (unhide BR).2.1 0 _ rfl
    have BRc1 := (unhide BR).2.1 1 _ rfl
    (try clear BSz BSc0 BSc1 BSc2)
    replace BS := hide ((unhide BS).below hb12)
    have BSz := (unhide BS).1
    have BSc0 := (unhide BS).2.1 0 _ rfl
    have BSc1 := (unhide BS).2.1 1 _ rfl
    have BSc2 := (unhide BS).2.1 2 _ rfl
    replace HK := hide ((unhide HK).trans (hb12.mono (unhide HK).size))
    obtain ⟨qBT, qBU⟩ := boxOf2 hx12
    have BT := hide qBT
    clear qBT
    have BTz := (unhide BT).1
    have BTc0 := (unhide BT).2.1 0 _ rfl
    have BTc1 := (unhide BT).2.1 1 _ rfl
    have BU := hide qBU
    clear qBU
    have BUz := (unhide BU).1
    have BUc0 := (unhide BU).2.1 0 _ rfl
    have BUc1 := (unhide BU).2.1 1 _ rfl
    have BUc2 := (unhide BU).2.1 2 _ rfl
    clear hx11 hb11
    go_wp2_with fail
    refine (eqSeal 0 _ _ _ _ [] [] _ (.inl ⟨_, _, rfl, rfl⟩) (.inl ⟨_, _, rfl, rfl⟩) (.inl ⟨_, _, rfl, rfl⟩) (.inl ⟨_, _, rfl, rfl⟩) (by simp) (by simp)).mono ?_
    rintro e w13 ⟨rfl, hx13⟩
    have hb13 : Below w12.heap.size w12 w13 := Below.trans (by go_grown) (hx13.mono (by go_size))
    replace HT := hide ((unhide HT).below hb13)
    (try clear BSz BSc0 BSc1 BSc2)
    replace BS := hide ((unhide BS).below hb13)
    have BSz := (unhide BS).1
    have BSc0 := (unhide BS).2.1 0 _ rfl
    have BSc1 := (unhide BS).2.1 1 _ rfl
    have BSc2 := (unhide BS).2.1 2 _ rfl
    replace HK := hide ((unhide HK).trans (hb13.mono (unhide HK).size))
    clear hx12 hb12
    go_wp2_with fail
    refine (heldSealNil 0 _ _ _ _ _).mono ?_
    rintro e w14 ⟨rfl, hx14⟩
    have hb14 : Below w13.heap.size w13 w14 := Below.trans (by go_grown) (hx14.mono (by go_size))
    replace HT := hide ((unhide HT).below hb14)
    replace HK := hide ((unhide HK).trans (hb14.mono (unhide HK).size))
    have hfin := unhide HK
    clear hx13 hb13 hx14 hb14
    go_wp2
    go_returns
    exact ⟨rfl, hfin⟩

theorem own : ownKnob Tryd.prog.godebug = none := by kernel_rfl
theorem laidOut : laidOutB Tryd.prog = true := by kernel_rfl
theorem cellsSigner : Tryd.prog.cellsOf 73 = 2 := by kernel_rfl
set_option maxRecDepth 100000 in
theorem contract (H : Type) (enc : TypeId × Value → H) (W : World) (base : Nat) (args : Array Value) (ds gs : List (DataW H)) (before : List MemPlace)
    (hval : ∀ (j : Nat) t v, Tryd.f10.params[j]? = some t → args[j]? = some v → Value.okWide Tryd.prog W .any base t v)
    (hW : DataW.Whole enc Tryd.prog Tryd.f10.params.toList Rows.fnExactSealTextSpec.vars false W args.toList ds gs before) (hL : laidMetH Tryd.prog Rows.fnExactSealTextRow.laid W) :
    Calls Tryd.prog 10 args W fun e W' => ∃ v, e = .returned v ∧ Rows.fnExactSealTextSpec.post enc Tryd.prog Tryd.f10 false true false false W args v W' := by
  have tab := table_of hL
  have hW' := hW
  obtain ⟨p, q, hA0, hV, rfl, hfz, hnd⟩ := hW
  have hA : DataW.TrodAll enc Tryd.prog W 0 (fun _ => true) true Tryd.f10.params.toList args.toList ds p := hA0
  rw [Tryd.params10] at hA hval
  obtain ⟨v0, vs0, d0, ds0, p0, q0, hargs, rfl, rfl, h0, r0⟩ := trodAll_cons hA
  obtain ⟨v1, vs1, d1, ds1, p1, q1, rfl, rfl, rfl, h1, r1⟩ := trodAll_cons r0
  obtain ⟨rfl, rfl, rfl⟩ := trodAll_nil r1
  obtain rfl : args = #[v0, v1] := by cases args; simp_all
  obtain ⟨g, t, cs, fuel, d, pv, rfl, hg, hty, hv, htr, rfl⟩ := trodVars_one hV
  obtain rfl := Option.some.inj (gTab.symm.trans hg)
  obtain rfl := Option.some.inj (gTabType.symm.trans hty)
  have kv : DataW.Trod enc Tryd.prog W 0 (fun _ => true) true 148 (.agg cs) d pv := ⟨fuel, htr⟩
  have ltv : ∀ x ∈ pv, x.block < W.heap.size := DataW.trod_lt fuel _ _ _ htr
  have kk0 := h0
  have lt0 : ∀ x ∈ p0, x.block < W.heap.size := by obtain ⟨m, hm⟩ := kk0; exact DataW.trod_lt m _ _ _ hm
  obtain ⟨c0, c1, y0, y1, m0, rfl, rfl, rfl, hy0, hy1⟩ := open_agg2 Tryd.underlying73 (by kernel_rfl) cellsSigner (hval 0 73 v0 rfl rfl) h0
  obtain ⟨s0, e0, x0, hs0⟩ := DataW.trod_string Tryd.underlying9 hy0
  obtain ⟨a0, e1, x1, wa0⟩ := DataW.trod_int Tryd.underlying3 hy1
  simp at e0 e1
  subst e0 e1
  obtain ⟨s1, rfl, rfl, rfl, hs1⟩ := open_string Tryd.underlying9 (hval 1 9 v1 rfl rfl) h1
  clear hA0
  refine (walk s0 hs0 a0 wa0 s1 hs1 W tab).mono fun e W' ⟨he, bel⟩ => ?_
  subst he
  obtain ⟨f2, hf2⟩ := Below.trod laidOut (by kernel_rfl) (of_decide_eq_true (by kernel_rfl)) kv bel ltv
  exact ⟨_, rfl, _, _, _, [], _, _, hW', trodAll_mk1 (shut_bool Tryd.underlying4 _), (trodAll_cons_mk (Below.trod laidOut (by kernel_rfl) (of_decide_eq_true (by kernel_rfl)) kk0 bel lt0) (trodAll_cons_mk (shut_string Tryd.underlying9 hs1) trodAll_mk0)), ⟨0, 148, cs, f2, pv, [], gTab, gTabType, var?_below bel gTab tab.1 hv, hf2, rfl, rfl⟩, bel.frame _, fun h => by cases h⟩

theorem reads (os : Os) {H : Type} (enc : TypeId × Value → H) : ∃ places, DataW.whole enc Tryd.prog (({ World.holding Tryd.prog os ⟨#[], #[], []⟩ with heap := (World.holding Tryd.prog os ⟨#[], #[], []⟩).heap.modify 0 layTab } : World).forCall (fun _ _ => 0) ⟨#[], #[.agg #[.string ByteArray.empty, .int .i64 0], .string ByteArray.empty], []⟩).memory Tryd.f10.params.toList Rows.fnExactSealTextSpec.vars false (#[.agg #[.string ByteArray.empty, .int .i64 0], .string ByteArray.empty] : Array Value).toList 16 = some ([.agg [.lit (.string []), .lit (.int .i64 0)], .lit (.string [])], [Rows.laid_loop_example_g00537_impl_pieceWeights], places) :=
  ⟨MemPlace.row ⟨0, 0, none⟩ 8, by kernel_rfl⟩
theorem laid_met (os : Os) : laidMet Tryd.prog Rows.fnExactSealTextRow.laid (({ World.holding Tryd.prog os ⟨#[], #[], []⟩ with heap := (World.holding Tryd.prog os ⟨#[], #[], []⟩).heap.modify 0 layTab } : World).forCall (fun _ _ => 0) ⟨#[], #[.agg #[.string ByteArray.empty, .int .i64 0], .string ByteArray.empty], []⟩).memory :=
  laidMet_of_run' 16 (by kernel_rfl) (by kernel_rfl)
set_option maxRecDepth 100000 in
theorem lifted (os : Os) (started : os.Started) (H : Type) (enc : TypeId × Value → H) (F : Stop.Interp) :
    ReturnsInHanded {} Tryd.checked os 10 .any ((OpenSpec.ofChange Rows.fnExactSealTextSpec).preRow enc Tryd.prog Tryd.f10 Rows.fnExactSealTextRow.domain false Rows.fnExactSealTextRow.laid) (((OpenSpec.ofChange Rows.fnExactSealTextSpec).at F).post enc Tryd.prog Tryd.f10 false true false false) := by
  obtain ⟨places, hx⟩ := reads os enc
  refine returnsInHanded_of_row (C := Tryd.checked) (s := OpenSpec.ofChange Rows.fnExactSealTextSpec) own started (by kernel_rfl) Tryd.func10
    (witness_row_at (enc := enc) (C := Tryd.checked) false ({ World.holding Tryd.prog os ⟨#[], #[], []⟩ with heap := (World.holding Tryd.prog os ⟨#[], #[], []⟩).heap.modify 0 layTab } : World) #[.agg #[.string ByteArray.empty, .int .i64 0], .string ByteArray.empty] rfl (by kernel_rfl) (by kernel_rfl) (by kernel_rfl)
      (OpenSpec.preRow_of_cond 16 hx (by kernel_rfl) (fun k hk => by cases hk) (by kernel_rfl) (laid_met os))) ?_
  intro W base args ds gs before hval hW _ _ _ hL _ _
  exact contract H enc W base args ds gs before hval hW hL
theorem said : Rows.FnExactSealTextSaid :=
  OpenClaim.holds_of_cond 10 Tryd.f10 rfl rfl rfl rfl rfl rfl rfl ⟨rfl, rfl, rfl, rfl, rfl⟩ rfl rfl rfl rfl rfl (by kernel_rfl) Tryd.func10 (by kernel_rfl)
    (of_decide_eq_true (by kernel_rfl)) (by unfold Func.isWrapper; first | (rw [if_pos (by decide +kernel)]; kernel_rfl) | (rw [if_neg (by decide +kernel)]; exact ⟨rfl, rfl⟩))
    (fun os started H enc _ F => by rw [OpenClaim.pre_eq_preRow]; exact lifted os started H enc F)
theorem plain (f : FuncId) (fn : Func) (hf : Tryd.pinned.checked.prog.funcNamed Rows.fnExactSealTextRow.func = some f) (hfn : Tryd.pinned.checked.prog.funcs[f]? = some fn) :
    false = Tryd.pinned.checked.prog.looks [] ∧ ∀ (j : Nat) t, fn.params[j]? = some t → Tryd.pinned.checked.prog.wantsStandIn t = false := by
  obtain rfl : f = 10 := Option.some.inj ((show Tryd.prog.funcNamed Rows.fnExactSealTextRow.func = some 10 by kernel_rfl).symm.trans hf) |>.symm
  obtain rfl : fn = Tryd.f10 := (Option.some.inj (Tryd.func10.symm.trans hfn)).symm
  refine ⟨by kernel_rfl, fun j t ht => ?_⟩
  rw [Tryd.params10] at ht
  have hm : t ∈ [73, 9] := by simpa using Array.mem_of_getElem? ht
  have hall : ([73, 9].all fun u => !Tryd.prog.wantsStandIn u) = true := by kernel_rfl
  exact (show Tryd.prog.wantsStandIn t = false by simpa using List.all_eq_true.1 hall t hm)
theorem card : Rows.FnExactSealTextCardSaid :=
  Claim7.holds_tied_plain_at .later [] _ _ _ _ said (fun _ h => by cases h) (by kernel_rfl) (fun _ h => by cases h) fnExactSealText_row_tie rfl ⟨rfl, rfl⟩ (by kernel_rfl) rfl plain (by kernel_rfl)
end Go.Proofs.YtemkkofjakpjiaaDoor.fnExactSealText
namespace Go.Proofs.YtemkkofjakpjiaaDoor
theorem fnExactSealText_card_holds : Rows.FnExactSealTextCardSaid := fnExactSealText.card
#print axioms fnExactSealText_card_holds
end Go.Proofs.YtemkkofjakpjiaaDoor
