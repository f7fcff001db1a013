/- HeapPop: the model. Condition: the list lies in memory. -/
import Derived.Test.YthdodlbhkpoadaaPopX
import Derived.Test.YthdodlbhkpoadaaPushS
namespace Go.Proofs.Ythdodlbhkpoadaa
open Go.ChangeShapes Go.WideShapes Go.ChangeAt Go.RowKit Go.Deep
set_option linter.unusedVariables false
attribute [local go_sem ↓] Go.wp_at_zero Go.wp_at_succ

/-- The best of k and the first j below it. -/
def bestJ (l : List Sc) (k : Nat) : Nat → Nat
  | 0 => k
  | 1 => best1 l k
  | _ + 2 => bestAt l k
theorem bestJ_1 (l : List Sc) (k : Nat) : bestJ l k 1 = if 2 * k + 1 < l.length ∧ bet (gd l (2 * k + 1)) (gd l (bestJ l k 0)) = true then 2 * k + 1 else bestJ l k 0 := rfl
theorem bestJ_2 (l : List Sc) (k : Nat) : bestJ l k 2 = if 2 * k + 2 < l.length ∧ bet (gd l (2 * k + 2)) (gd l (bestJ l k 1)) = true then 2 * k + 2 else bestJ l k 1 := rfl
theorem best1_lt {l : List Sc} {k : Nat} (h : k < l.length) : best1 l k < l.length := by unfold best1; split <;> omega
theorem bestJ_lt {l : List Sc} {k : Nat} (h : k < l.length) : ∀ j, bestJ l k j < l.length
  | 0 => h
  | 1 => best1_lt h
  | _ + 2 => by show bestAt l k < l.length; unfold bestAt; split; omega; exact best1_lt h
theorem take_sw (l : List Sc) (m : Nat) : (sw l 0 m).take m = (l.set 0 (gd l m)).take m := by unfold sw; rw [List.take_set_of_le (Nat.le_refl m)]
set_option maxHeartbeats 12800000 in
set_option maxRecDepth 100000 in
theorem specHPop (v : Value) (l : List Sc) (B : Bool) (hB : B = true ↔ PopOk l) (w : World) (h : RdS w v l) (hl : l.length ≤ 1048576) :
    Calls Try.prog 34 #[v] w fun e w' => ∃ qa qc, e = .returned (.tuple #[.slice qa (popAns B l).length qc, .agg #[.int .i64 (popOne B l).1, .int .i64 (popOne B l).2], .bool B]) ∧ OwnH w.heap.size w' (.slice qa (popAns B l).length qc) (popAns B l) ∧ Below w.heap.size w w' := by
  obtain ⟨W1, hW1⟩ : ∃ W1, W1 = w.alloc (.cells #[.int .i64 0, .int .i64 0] 33) := ⟨_, rfl⟩
  have k1 : Below w.heap.size w W1 := by rw [hW1]; exact al_ _ _
  have bX : BoxAt W1 w.heap.size [.int .i64 0, .int .i64 0] := by rw [hW1]; exact boxNew w _ _
  obtain ⟨rb, hrb⟩ : ∃ rb, rb = w.heap.size := ⟨_, rfl⟩
  have hrw : w.heap.size ≤ rb := by omega
  rw [← hrb] at bX
  have HRB := hid hrb
  have HW1 := hid hW1
  have HB := hid hB
  have HR := hid (h.below k1)
  obtain ⟨Bg, hBg⟩ := bool_of (GoodH l)
  obtain ⟨Bo, hBo⟩ := bool_of (IsH l)
  obtain ⟨va, vc, rfl⟩ := h.slice
  have HSC := fun va vc W hW => specHeapB (.slice va l.length vc) l Bg hBg W hW (by omega)
  have HOR := fun va vc W hW => specIsB (.slice va l.length vc) l Bo hBo W hW hl
  have HPO : Hid (B = true ↔ Bg = true ∧ Bo = true ∧ l.length ≠ 0) := by
    show _ ↔ _
    rw [HB.out, hBg, hBo]
    rfl
  have H60 : Hid (Bg = true → l.length ≤ 60) := fun hg => (hBg.1 hg).1
  have HBX := hid bX
  have HK1 := hid k1
  have hrl := bX.1
  clear h hB hBg hBo hW1 hrb k1 bX
  cases Bg with
  | false =>
    have HF : Hid (B = false) := bool_no HPO.out (fun hh => by cases hh.1)
    go_enter Try.func34, Try.ntmps34
    go_upto_region 1 with fail
    rw [← HW1.out, ← HRB.out]
    go_wp2_with fail
    refine (HSC _ _ _ HR.out.at).mono ?_
    rintro e w2 ⟨rfl, hb2⟩
    have HB2 := hid (HBX.out.below hb2)
    have HK2 := hid (HK1.out.trans (hb2.mono HK1.out.size))
    clear hb2 HSC HOR
    have r0 := HB2.out.2.1 0 _ rfl
    have r1 := HB2.out.2.1 1 _ rfl
    have rf0 := HB2.out.2.2 0 (by simp)
    have rf1 := HB2.out.2.2 1 (by simp)
    have rl := HB2.out.1
    have y0 := (HB2.out.set 0 (.int .i64 0)).2.1 0 _ rfl
    have y1 := ((HB2.out.set 0 (.int .i64 0)).set 1 (.int .i64 0)).2.1 1 _ rfl
    have HFK : Hid (Below w.heap.size w ((w2.setCell ⟨rb, 0, none⟩ (.int .i64 0)).setCell ⟨rb, 1, none⟩ (.int .i64 0))) := bel_set2 HK2.out hrw _ _
    have HPA : Hid (popAns B l = [] ∧ popOne B l = (0, 0)) := ⟨by rw [HF.out]; rfl, by rw [HF.out]; rfl⟩
    go_wp2_with fail
    (try simp only [Exit.inBlock, Exit.then])
    refine bodyPost_ret (v := .tuple #[.slice none 0 0, .agg #[.int .i64 0, .int .i64 0], .bool false]) ?r rfl ?_
    case r => simp [y0, y1, results, Try.results34, go_sem]; try rfl
    refine ⟨none, 0, ?_, ?_, HFK.out⟩
    · rw [HPA.out.1, HPA.out.2, HF.out]; rfl
    · rw [HPA.out.1]; exact OwnH.nil _ _
  | true =>
    have hl60 := H60.out rfl
    cases Bo with
    | false =>
      have HF : Hid (B = false) := bool_no HPO.out (fun hh => by cases hh.2.1)
      go_enter Try.func34, Try.ntmps34
      go_upto_region 1 with fail
      rw [← HW1.out, ← HRB.out]
      go_wp2_with fail
      refine (HSC _ _ _ HR.out.at).mono ?_
      rintro e w2 ⟨rfl, hb2⟩
      have mw2 := hb2
      have HB2 := hid (HBX.out.below hb2)
      have HK2 := hid (HK1.out.trans (hb2.mono HK1.out.size))
      have HR2 := hid (HR.out.below hb2)
      clear hb2 HSC
      go_wp2_with fail
      refine (HOR _ _ _ HR2.out.at).mono ?_
      rintro e w3 ⟨rfl, hb3⟩
      have mw3 := mw2.trans (hb3.mono mw2.size)
      have HB3 := hid (HB2.out.below hb3)
      have HK3 := hid (HK2.out.trans (hb3.mono HK2.out.size))
      have HR3 := hid (HR2.out.below hb3)
      clear hb3 HOR HB2 HK2 HR2 HR HBX mw2
      have r0 := HB3.out.2.1 0 _ rfl
      have r1 := HB3.out.2.1 1 _ rfl
      have rf0 := HB3.out.2.2 0 (by simp)
      have rf1 := HB3.out.2.2 1 (by simp)
      have rl := HB3.out.1
      have y0 := (HB3.out.set 0 (.int .i64 0)).2.1 0 _ rfl
      have y1 := ((HB3.out.set 0 (.int .i64 0)).set 1 (.int .i64 0)).2.1 1 _ rfl
      have HFK : Hid (Below w.heap.size w ((w3.setCell ⟨rb, 0, none⟩ (.int .i64 0)).setCell ⟨rb, 1, none⟩ (.int .i64 0))) := bel_set2 HK3.out hrw _ _
      have HPA : Hid (popAns B l = [] ∧ popOne B l = (0, 0)) := ⟨by rw [HF.out]; rfl, by rw [HF.out]; rfl⟩
      go_wp2_with fail
      (try simp only [Exit.inBlock, Exit.then])
      refine bodyPost_ret (v := .tuple #[.slice none 0 0, .agg #[.int .i64 0, .int .i64 0], .bool false]) ?r rfl ?_
      case r => simp [y0, y1, results, Try.results34, go_sem]; try rfl
      refine ⟨none, 0, ?_, ?_, HFK.out⟩
      · rw [HPA.out.1, HPA.out.2, HF.out]; rfl
      · rw [HPA.out.1]; exact OwnH.nil _ _
    | true =>
      by_cases hl0 : l.length = 0
      · have HF : Hid (B = false) := bool_no HPO.out (fun hh => hh.2.2 hl0)
        have hle0 : (l.length : Int) = 0 := by omega
        have hle : ((l.length : Int) == 0) = true := by rw [hle0]; rfl
        clear hle0 hl0
        go_enter Try.func34, Try.ntmps34
        go_upto_region 1 with fail
        rw [← HW1.out, ← HRB.out]
        go_wp2_with fail
        refine (HSC _ _ _ HR.out.at).mono ?_
        rintro e w2 ⟨rfl, hb2⟩
        have mw2 := hb2
        have HB2 := hid (HBX.out.below hb2)
        have HK2 := hid (HK1.out.trans (hb2.mono HK1.out.size))
        have HR2 := hid (HR.out.below hb2)
        clear hb2 HSC
        go_wp2_with fail
        refine (HOR _ _ _ HR2.out.at).mono ?_
        rintro e w3 ⟨rfl, hb3⟩
        have mw3 := mw2.trans (hb3.mono mw2.size)
        have HB3 := hid (HB2.out.below hb3)
        have HK3 := hid (HK2.out.trans (hb3.mono HK2.out.size))
        have HR3 := hid (HR2.out.below hb3)
        clear hb3 HOR HB2 HK2 HR2 HR HBX mw2
        have r0 := HB3.out.2.1 0 _ rfl
        have r1 := HB3.out.2.1 1 _ rfl
        have rf0 := HB3.out.2.2 0 (by simp)
        have rf1 := HB3.out.2.2 1 (by simp)
        have rl := HB3.out.1
        have y0 := (HB3.out.set 0 (.int .i64 0)).2.1 0 _ rfl
        have y1 := ((HB3.out.set 0 (.int .i64 0)).set 1 (.int .i64 0)).2.1 1 _ rfl
        have HFK : Hid (Below w.heap.size w ((w3.setCell ⟨rb, 0, none⟩ (.int .i64 0)).setCell ⟨rb, 1, none⟩ (.int .i64 0))) := bel_set2 HK3.out hrw _ _
        have HPA : Hid (popAns B l = [] ∧ popOne B l = (0, 0)) := ⟨by rw [HF.out]; rfl, by rw [HF.out]; rfl⟩
        go_wp2_with fail
        (try simp only [Exit.inBlock, Exit.then])
        refine bodyPost_ret (v := .tuple #[.slice none 0 0, .agg #[.int .i64 0, .int .i64 0], .bool false]) ?r rfl ?_
        case r => simp [y0, y1, results, Try.results34, go_sem]; try rfl
        refine ⟨none, 0, ?_, ?_, HFK.out⟩
        · rw [HPA.out.1, HPA.out.2, HF.out]; rfl
        · rw [HPA.out.1]; exact OwnH.nil _ _
      · have hle : ((l.length : Int) == 0) = false := beq_false_of_ne (by omega)
        have HT : Hid (B = true) := HPO.out.2 ⟨rfl, rfl, hl0⟩
        have HPA : Hid (popAns B l = popL l ∧ popOne B l = gd l 0 ∧ (popL l).length = l.length - 1) := ⟨by rw [HT.out]; rfl, by rw [HT.out]; rfl, pop_len l⟩
        obtain ⟨m, hm⟩ : ∃ m, l.length = m + 1 := ⟨l.length - 1, by omega⟩
        have HPL : Hid (popL l = sinkL ((l.set 0 (gd l m)).take m) 0) := by show _ = _; rw [← take_sw, show m = l.length - 1 by omega]; rfl
        rcases HR.out.at with ⟨_, _, _, e⟩ | ⟨b, off, cap, hve, hb, hc⟩
        · rw [e] at hm; cases hm
        cases hve
        have hbW : b < W1.heap.size := hb
        obtain ⟨p0, p1⟩ := hc 0 (by omega)
        simp only [Nat.zero_mul, Nat.add_zero] at p0 p1
        obtain ⟨u, hu⟩ : ∃ u, u = gd l 0 := ⟨_, rfl⟩
        obtain ⟨z, hz⟩ : ∃ z, z = gd l m := ⟨_, rfl⟩
        rw [← hu] at p0 p1 HPA
        rw [← hz] at HPL
        have HZ := hid hz
        have h0l : (0 : Int) < (l.length : Int) := by omega
        have hml : (l.length : Int) - 1 = (m : Int) := by omega
        have hmlt : (m : Int) < (l.length : Int) := by omega
        have hm0 : (0 : Int) ≤ (m : Int) := by omega
        have hmw : IntKind.i64.wrap (m : Int) = (m : Int) := by rw [IntKind.wrap_i64]; omega
        have HM := hid hm
        clear hc hu hz hb hm hl0
        go_enter Try.func34, Try.ntmps34
        go_upto_region 1 with fail
        rw [← HW1.out, ← HRB.out]
        go_wp2_with fail
        refine (HSC _ _ _ HR.out.at).mono ?_
        rintro e w2 ⟨rfl, hb2⟩
        have mw2 := hb2
        have HB2 := hid (HBX.out.below hb2)
        have HK2 := hid (HK1.out.trans (hb2.mono HK1.out.size))
        have HR2 := hid (HR.out.below hb2)
        clear hb2 HSC
        go_wp2_with fail
        refine (HOR _ _ _ HR2.out.at).mono ?_
        rintro e w3 ⟨rfl, hb3⟩
        have mw3 := mw2.trans (hb3.mono mw2.size)
        have HB3 := hid (HB2.out.below hb3)
        have HK3 := hid (HK2.out.trans (hb3.mono HK2.out.size))
        have HR3 := hid (HR2.out.below hb3)
        clear hb3 HOR HB2 HK2 HR2 HR HBX mw2
        have q0 := (mw3.cell (p := ⟨b, off, none⟩) hbW).trans p0
        have q1 := (mw3.cell (p := ⟨b, off + 1, none⟩) hbW).trans p1
        clear p0 p1
        obtain ⟨W4, hW4⟩ : ∃ W4, W4 = w3.alloc (.cells #[.int .i64 u.1, .int .i64 u.2] 33) := ⟨_, rfl⟩
        have k4 : Below w3.heap.size w3 W4 := by rw [hW4]; exact al_ _ _
        have bF : BoxAt W4 w3.heap.size [.int .i64 u.1, .int .i64 u.2] := by rw [hW4]; exact boxNew w3 _ _
        obtain ⟨fb, hfb⟩ : ∃ fb, fb = w3.heap.size := ⟨_, rfl⟩
        rw [← hfb] at bF
        have HFB := hid hfb
        have HW4 := hid hW4
        have HBF := hid bF
        have HB4 := hid (HB3.out.below k4)
        have HK4 := hid (HK3.out.trans (k4.mono HK3.out.size))
        have HR4 := hid (HR3.out.below k4)
        have hfl : fb < W4.heap.size := bF.1
        have hrl4 : rb < W4.heap.size := HB4.out.1
        have hfr : fb ≠ rb := by have := HB3.out.1; omega
        have h4w : w.heap.size ≤ W4.heap.size := HK4.out.size
        clear hW4 hfb bF k4 HB3 HK3 HR3 mw3
        go_upto_region 4 with fail
        rw [← HW4.out, ← HFB.out]
        clear HW4 HFB q0 q1
        have HE := hid (own0 W4 W4.heap.size (Nat.le_refl _))
        have HRE := hid (HR4.out.below (al_ W4 (.cells #[] 33)))
        go_wp2_with (first | (at_builtin; refine wplH rfl _ _ 26 Try.underlying26 rfl W4.heap.size _ [] HE.out _ l l.length rfl HRE.out (by simp; omega) (by simp) rfl rfl ?_) | fail)
        intro qa qc w5 ho5 hf5 hg5
        have k5 : Below W4.heap.size W4 w5 := (al_ W4 (.cells #[] 33)).trans (hf5.below (by simp) (fun g hg => by simp [hbl, Value.ownBlock] at hg; omega))
        have HO5 := hid ho5
        have HB5 := hid (HB4.out.below k5)
        have HF5 := hid (HBF.out.below k5)
        have HK5 := hid (HK4.out.trans (k5.mono h4w))
        clear ho5 hf5 hg5 k5 HE HRE HB4 HBF HK4 HR4
        obtain ⟨g1, cap1, hge, hg10, hg11⟩ := HO5.out.lies (by omega)
        cases hge
        have hcap1 : l.length ≤ qc := capH HO5.out
        have hmc : (m : Int) ≤ (qc : Int) := by omega
        have c0 : w5.cell? ⟨g1, m * 2, none⟩ = some (.int .i64 z.1) := by rw [HZ.out]; exact HO5.out.c0 (by have := HM.out; omega)
        have c1 : w5.cell? ⟨g1, m * 2 + 1, none⟩ = some (.int .i64 z.2) := by rw [HZ.out]; exact HO5.out.c1 (by have := HM.out; omega)
        have d0 := HO5.out.c0 (k := 0) (by have := HM.out; omega)
        have d1 := HO5.out.c1 (k := 0) (by have := HM.out; omega)
        have f0 := HO5.out.fz 0
        have f1 := HO5.out.fz 1
        have HPN := hid (HO5.out.put 0 z)
        have HPO6 := hid (putC_off w5 g1 0 z)
        unfold putC at HPN HPO6
        simp only [Nat.zero_mul, Nat.zero_add] at d0 d1 HPN HPO6
        generalize gd l 0 = u0 at d0 d1
        obtain ⟨W6, hW6⟩ : ∃ W6, W6 = (w5.setCell ⟨g1, 0, none⟩ (.int .i64 z.1)).setCell ⟨g1, 1, none⟩ (.int .i64 z.2) := ⟨_, rfl⟩
        rw [← hW6] at HPN HPO6
        have HW6 := hid hW6
        have HB6 := hid (HB5.out.off HPO6.out (by simp; omega))
        have HF6 := hid (HF5.out.off HPO6.out (by simp; omega))
        have HK6 : Hid (Below w.heap.size w W6) := HK5.out.trans (HPO6.out.below HK5.out.size (fun x hx => by simp at hx; omega))
        have h64 : W4.heap.size ≤ W6.heap.size := Nat.le_trans (by omega) HPO6.out.size
        clear hW6 HB5 HF5 HK5 HO5 HPO6
        go_upto_region 6 with fail
        rw [← HW6.out]
        clear HW6 c0 c1 d0 d1 f0 f1
        have HE := hid (own0 W6 W4.heap.size h64)
        have HRE : Hid (RdS (W6.alloc (.cells #[] 33)) (.slice (some ⟨g1, 0, none⟩) m qc) ((l.set 0 z).take m)) := (HPN.out.rd.take (by simp) (by have := HM.out; omega)).below (al_ _ _)
        have htl : ((l.set 0 z).take m).length = m := by simp; have := HM.out; omega
        obtain ⟨L0, hL0⟩ : ∃ L0, L0 = (l.set 0 z).take m := ⟨_, rfl⟩
        rw [← hL0] at HRE HPL htl
        clear hL0 HPN
        go_wp2_with (first | (at_builtin; refine wplH rfl _ _ 26 Try.underlying26 rfl W4.heap.size _ [] HE.out _ L0 m htl HRE.out (by simp; omega) (by simp; omega) rfl rfl ?_) | fail)
        intro qa qd w7 ho7 hf7 hg7
        have k7 : Below W6.heap.size W6 w7 := (al_ W6 (.cells #[] 33)).trans (hf7.below (by simp) (fun g hg => by simp [hbl, Value.ownBlock] at hg; omega))
        have HO7 := hid ho7
        have HB7 := hid (HB6.out.below k7)
        have HF7 := hid (HF6.out.below k7)
        have HK7 := hid (HK6.out.trans (k7.mono HK6.out.size))
        have hm60 : m ≤ 60 := by have := HM.out; omega
        have HLM : Hid (l.length - 1 = m) := by show _ = _; have := HM.out; omega
        clear ho7 hf7 hg7 k7 HE HRE HB6 HF6 HK6 h64 hml hmlt hmc hcap1 hg10 hg11
        rcases Nat.eq_zero_or_pos m with hm0z | hmp
        · subst hm0z
          have hL0e : L0 = [] := List.eq_nil_of_length_eq_zero htl
          subst hL0e
          have HPE : Hid (popL l = []) := by show _ = _; rw [HPL.out]; rfl
          have hcw1 : (2 : Int) * 0 + 1 = 1 := by omega
          clear HPL
          go_wp2
          go_loopw [7] (fun kk wr => kk = .int .i64 0 ∧ Hid (OwnH W4.heap.size wr (.slice qa 0 qd) []) ∧ Hid (BoxAt wr rb [.int .i64 0, .int .i64 0]) ∧ Hid (BoxAt wr fb [.int .i64 u.1, .int .i64 u.2]) ∧ Hid (Below w.heap.size w wr)) (fun _ _ => 0)
          case atStart => exact ⟨rfl, HO7.out, HB7.out, HF7.out, HK7.out⟩
          case round =>
            obtain ⟨rfl, HL, HB, HF, HKR⟩ := hrel
            clear HO7 HB7 HF7 HK7
            generalize wr = wo at *
            obtain ⟨W8, hW8⟩ : ∃ W8, W8 = wo.alloc (.cells #[.int .i64 1, .int .i64 2] 3) := ⟨_, rfl⟩
            have k8 : Below wo.heap.size wo W8 := by rw [hW8]; exact al_ _ _
            have bC : BoxAt W8 wo.heap.size [.int .i64 1, .int .i64 2] := by rw [hW8]; exact boxNew wo _ _
            obtain ⟨cb, hcb⟩ : ∃ cb, cb = wo.heap.size := ⟨_, rfl⟩
            rw [← hcb] at bC
            have HW8 := hid hW8
            have HCB := hid hcb
            have e0 := bC.2.1 0 _ rfl
            have e1 := bC.2.1 1 _ rfl
            have cl := bC.1
            have HL8 := hid (HL.out.below k8)
            have HB8 := hid (HB.out.below k8)
            have HF8 := hid (HF.out.below k8)
            have HK8 := hid (HKR.out.trans (k8.mono HKR.out.size))
            have h8w : w.heap.size ≤ W8.heap.size := HK8.out.size
            clear hW8 hcb k8 bC HL HB HF HKR
            go_wp2
            rw [← HW8.out, ← HCB.out]
            clear HW8 HCB
            go_loopw [8, 56] (fun bb i wr => ∃ j : Nat, j ≤ 2 ∧ i = .int .i64 j ∧ bb = .int .i64 0 ∧ Below W8.heap.size W8 wr) (fun _ i _ => 2 - (intOf i).toNat)
            case atStart => exact ⟨0, by omega, rfl, rfl, Below.refl _ _⟩
            case round =>
              obtain ⟨j, hj, rfl, rfl, kb⟩ := hrel
              have kl := kb.size
              have hclw : cb < wr.heap.size := by omega
              have e0w := (kb.cell (p := ⟨cb, 0, none⟩) cl).trans e0
              have e1w := (kb.cell (p := ⟨cb, 1, none⟩) cl).trans e1
              by_cases hj0 : j = 0
              · subst hj0
                go_upto_region 12 with fail
                have HSK : Hid (∀ W, Below wr.heap.size wr W → (fun w' : World => True) W) := fun W hW => trivial
                have kd : Below wr.heap.size wr wr.drew := Below.drew (Below.refl _ _)
                have hHeld := HSK.out wr.drew kd
                refine wp_region_heldL (n := 15) (S := fun w' : World => True) (by kernel_rfl) rfl ?_
                refine takeL (i := 0) (v := ?_) rfl (by kernel_rfl) (by kernel_rfl) (by kernel_rfl) (fun _ _ _ h => h) rfl ?_ (by assumption) ?_
                rotate_left
                · intro w hSw; (try dsimp only at hSw); go_simp; (try with_reducible rfl)
                (try simp only [Act.put, List.setIfInBounds_toArray, List.set_cons_zero, List.set_cons_succ])
                refine takeL (i := 1) (v := ?_) rfl (by kernel_rfl) (by kernel_rfl) (by kernel_rfl) (fun _ _ _ h => h) rfl ?_ (by assumption) ?_
                rotate_left
                · intro w hSw; (try dsimp only at hSw); go_simp; (try with_reducible rfl)
                (try simp only [Act.put, List.setIfInBounds_toArray, List.set_cons_zero, List.set_cons_succ])
                refine takeL (i := 2) (v := ?_) rfl (by kernel_rfl) (by kernel_rfl) (by kernel_rfl) (fun _ _ _ h => h) rfl ?_ (by assumption) ?_
                rotate_left
                · intro w hSw; (try dsimp only at hSw); go_simp; (try with_reducible rfl)
                (try simp only [Act.put, List.setIfInBounds_toArray, List.set_cons_zero, List.set_cons_succ])
                refine takeL (i := 3) (v := ?_) rfl (by kernel_rfl) (by kernel_rfl) (by kernel_rfl) (fun _ _ _ h => h) rfl ?_ (by assumption) ?_
                rotate_left
                · intro w hSw; (try dsimp only at hSw); go_simp; (try with_reducible rfl)
                (try simp only [Act.put, List.setIfInBounds_toArray, List.set_cons_zero, List.set_cons_succ])
                refine takeL (i := 4) (v := ?_) rfl (by kernel_rfl) (by kernel_rfl) (by kernel_rfl) (fun _ _ _ h => h) rfl ?_ (by assumption) ?_
                rotate_left
                · intro w hSw; (try dsimp only at hSw); go_simp; (try with_reducible rfl)
                (try simp only [Act.put, List.setIfInBounds_toArray, List.set_cons_zero, List.set_cons_succ])
                refine skipL (i := 5) rfl (by kernel_rfl) (by kernel_rfl) (by kernel_rfl) (fun _ _ _ h => h) (by kernel_rfl) (by assumption) ?_
                (try simp only [Act.put, List.setIfInBounds_toArray, List.set_cons_zero, List.set_cons_succ])
                refine skipL (i := 6) rfl (by kernel_rfl) (by kernel_rfl) (by kernel_rfl) (fun _ _ _ h => h) (by kernel_rfl) (by assumption) ?_
                (try simp only [Act.put, List.setIfInBounds_toArray, List.set_cons_zero, List.set_cons_succ])
                refine skipL (i := 7) rfl (by kernel_rfl) (by kernel_rfl) (by kernel_rfl) (fun _ _ _ h => h) (by kernel_rfl) (by assumption) ?_
                (try simp only [Act.put, List.setIfInBounds_toArray, List.set_cons_zero, List.set_cons_succ])
                refine skipL (i := 8) rfl (by kernel_rfl) (by kernel_rfl) (by kernel_rfl) (fun _ _ _ h => h) (by kernel_rfl) (by assumption) ?_
                (try simp only [Act.put, List.setIfInBounds_toArray, List.set_cons_zero, List.set_cons_succ])
                refine skipL (i := 9) rfl (by kernel_rfl) (by kernel_rfl) (by kernel_rfl) (fun _ _ _ h => h) (by kernel_rfl) (by assumption) ?_
                (try simp only [Act.put, List.setIfInBounds_toArray, List.set_cons_zero, List.set_cons_succ])
                refine skipL (i := 10) rfl (by kernel_rfl) (by kernel_rfl) (by kernel_rfl) (fun _ _ _ h => h) (by kernel_rfl) (by assumption) ?_
                (try simp only [Act.put, List.setIfInBounds_toArray, List.set_cons_zero, List.set_cons_succ])
                refine skipL (i := 11) rfl (by kernel_rfl) (by kernel_rfl) (by kernel_rfl) (fun _ _ _ h => h) (by kernel_rfl) (by assumption) ?_
                (try simp only [Act.put, List.setIfInBounds_toArray, List.set_cons_zero, List.set_cons_succ])
                refine skipL (i := 12) rfl (by kernel_rfl) (by kernel_rfl) (by kernel_rfl) (fun _ _ _ h => h) (by kernel_rfl) (by assumption) ?_
                (try simp only [Act.put, List.setIfInBounds_toArray, List.set_cons_zero, List.set_cons_succ])
                refine skipL (i := 13) rfl (by kernel_rfl) (by kernel_rfl) (by kernel_rfl) (fun _ _ _ h => h) (by kernel_rfl) (by assumption) ?_
                (try simp only [Act.put, List.setIfInBounds_toArray, List.set_cons_zero, List.set_cons_succ])
                refine takeL (i := 14) (v := ?_) rfl (by kernel_rfl) (by kernel_rfl) (by kernel_rfl) (fun _ _ _ h => h) rfl ?_ (by assumption) ?_
                rotate_left
                · intro w hSw; (try dsimp only at hSw); go_simp; (try with_reducible rfl)
                (try simp only [Act.put, List.setIfInBounds_toArray, List.set_cons_zero, List.set_cons_succ])
                refine wpAnyH_done (by kernel_rfl) ?_ _
                clear hHeld kd HSK
                all_goals
                  go_wp2_with fail
                  exact ⟨⟨1, by omega, by go_num, rfl, kb.drew⟩, by simp [intOf]⟩
              · by_cases hj1 : j = 1
                · subst hj1
                  go_upto_region 12 with fail
                  have HSK : Hid (∀ W, Below wr.heap.size wr W → (fun w' : World => True) W) := fun W hW => trivial
                  have kd : Below wr.heap.size wr wr.drew := Below.drew (Below.refl _ _)
                  have hHeld := HSK.out wr.drew kd
                  refine wp_region_heldL (n := 15) (S := fun w' : World => True) (by kernel_rfl) rfl ?_
                  refine takeL (i := 0) (v := ?_) rfl (by kernel_rfl) (by kernel_rfl) (by kernel_rfl) (fun _ _ _ h => h) rfl ?_ (by assumption) ?_
                  rotate_left
                  · intro w hSw; (try dsimp only at hSw); go_simp; (try with_reducible rfl)
                  (try simp only [Act.put, List.setIfInBounds_toArray, List.set_cons_zero, List.set_cons_succ])
                  refine takeL (i := 1) (v := ?_) rfl (by kernel_rfl) (by kernel_rfl) (by kernel_rfl) (fun _ _ _ h => h) rfl ?_ (by assumption) ?_
                  rotate_left
                  · intro w hSw; (try dsimp only at hSw); go_simp; (try with_reducible rfl)
                  (try simp only [Act.put, List.setIfInBounds_toArray, List.set_cons_zero, List.set_cons_succ])
                  refine takeL (i := 2) (v := ?_) rfl (by kernel_rfl) (by kernel_rfl) (by kernel_rfl) (fun _ _ _ h => h) rfl ?_ (by assumption) ?_
                  rotate_left
                  · intro w hSw; (try dsimp only at hSw); go_simp; (try with_reducible rfl)
                  (try simp only [Act.put, List.setIfInBounds_toArray, List.set_cons_zero, List.set_cons_succ])
                  refine takeL (i := 3) (v := ?_) rfl (by kernel_rfl) (by kernel_rfl) (by kernel_rfl) (fun _ _ _ h => h) rfl ?_ (by assumption) ?_
                  rotate_left
                  · intro w hSw; (try dsimp only at hSw); go_simp; (try with_reducible rfl)
                  (try simp only [Act.put, List.setIfInBounds_toArray, List.set_cons_zero, List.set_cons_succ])
                  refine takeL (i := 4) (v := ?_) rfl (by kernel_rfl) (by kernel_rfl) (by kernel_rfl) (fun _ _ _ h => h) rfl ?_ (by assumption) ?_
                  rotate_left
                  · intro w hSw; (try dsimp only at hSw); go_simp; (try with_reducible rfl)
                  (try simp only [Act.put, List.setIfInBounds_toArray, List.set_cons_zero, List.set_cons_succ])
                  refine skipL (i := 5) rfl (by kernel_rfl) (by kernel_rfl) (by kernel_rfl) (fun _ _ _ h => h) (by kernel_rfl) (by assumption) ?_
                  (try simp only [Act.put, List.setIfInBounds_toArray, List.set_cons_zero, List.set_cons_succ])
                  refine skipL (i := 6) rfl (by kernel_rfl) (by kernel_rfl) (by kernel_rfl) (fun _ _ _ h => h) (by kernel_rfl) (by assumption) ?_
                  (try simp only [Act.put, List.setIfInBounds_toArray, List.set_cons_zero, List.set_cons_succ])
                  refine skipL (i := 7) rfl (by kernel_rfl) (by kernel_rfl) (by kernel_rfl) (fun _ _ _ h => h) (by kernel_rfl) (by assumption) ?_
                  (try simp only [Act.put, List.setIfInBounds_toArray, List.set_cons_zero, List.set_cons_succ])
                  refine skipL (i := 8) rfl (by kernel_rfl) (by kernel_rfl) (by kernel_rfl) (fun _ _ _ h => h) (by kernel_rfl) (by assumption) ?_
                  (try simp only [Act.put, List.setIfInBounds_toArray, List.set_cons_zero, List.set_cons_succ])
                  refine skipL (i := 9) rfl (by kernel_rfl) (by kernel_rfl) (by kernel_rfl) (fun _ _ _ h => h) (by kernel_rfl) (by assumption) ?_
                  (try simp only [Act.put, List.setIfInBounds_toArray, List.set_cons_zero, List.set_cons_succ])
                  refine skipL (i := 10) rfl (by kernel_rfl) (by kernel_rfl) (by kernel_rfl) (fun _ _ _ h => h) (by kernel_rfl) (by assumption) ?_
                  (try simp only [Act.put, List.setIfInBounds_toArray, List.set_cons_zero, List.set_cons_succ])
                  refine skipL (i := 11) rfl (by kernel_rfl) (by kernel_rfl) (by kernel_rfl) (fun _ _ _ h => h) (by kernel_rfl) (by assumption) ?_
                  (try simp only [Act.put, List.setIfInBounds_toArray, List.set_cons_zero, List.set_cons_succ])
                  refine skipL (i := 12) rfl (by kernel_rfl) (by kernel_rfl) (by kernel_rfl) (fun _ _ _ h => h) (by kernel_rfl) (by assumption) ?_
                  (try simp only [Act.put, List.setIfInBounds_toArray, List.set_cons_zero, List.set_cons_succ])
                  refine skipL (i := 13) rfl (by kernel_rfl) (by kernel_rfl) (by kernel_rfl) (fun _ _ _ h => h) (by kernel_rfl) (by assumption) ?_
                  (try simp only [Act.put, List.setIfInBounds_toArray, List.set_cons_zero, List.set_cons_succ])
                  refine takeL (i := 14) (v := ?_) rfl (by kernel_rfl) (by kernel_rfl) (by kernel_rfl) (fun _ _ _ h => h) rfl ?_ (by assumption) ?_
                  rotate_left
                  · intro w hSw; (try dsimp only at hSw); go_simp; (try with_reducible rfl)
                  (try simp only [Act.put, List.setIfInBounds_toArray, List.set_cons_zero, List.set_cons_succ])
                  refine wpAnyH_done (by kernel_rfl) ?_ _
                  clear hHeld kd HSK
                  all_goals
                    go_wp2_with fail
                    exact ⟨⟨2, by omega, by go_num, rfl, kb.drew⟩, by simp [intOf]⟩
                · have hj2 : j = 2 := by omega
                  subst hj2
                  have HLF := hid (HL8.out.below kb)
                  have HBF := hid (HB8.out.below kb)
                  have HFF := hid (HF8.out.below kb)
                  have HKF := hid (HK8.out.trans (kb.mono h8w))
                  have HPF : Hid (popL l = []) := HPE.out
                  clear e0w e1w HL8 HB8 HF8 HK8 kb
                  have r0 := HBF.out.2.1 0 _ rfl
                  have r1 := HBF.out.2.1 1 _ rfl
                  have rf0 := HBF.out.2.2 0 (by simp)
                  have rf1 := HBF.out.2.2 1 (by simp)
                  have rl := HBF.out.1
                  have x0 := HFF.out.2.1 0 _ rfl
                  have x1 := HFF.out.2.1 1 _ rfl
                  have xl := HFF.out.1
                  have y0 := (HBF.out.set 0 (.int .i64 u.1)).2.1 0 _ rfl
                  have y1 := ((HBF.out.set 0 (.int .i64 u.1)).set 1 (.int .i64 u.2)).2.1 1 _ rfl
                  have HFO : Hid (OwnH w.heap.size ((wr.setCell ⟨rb, 0, none⟩ (.int .i64 u.1)).setCell ⟨rb, 1, none⟩ (.int .i64 u.2)) (.slice qa 0 qd) []) :=
                    (HLF.out.mono h4w).off ((off1 _ rb 0 _).trans (off1 _ rb 1 _)) (fun q hq hm => by have h9 := HLF.out.lt q hq; simp at hm; omega)
                  have HFK : Hid (Below w.heap.size w ((wr.setCell ⟨rb, 0, none⟩ (.int .i64 u.1)).setCell ⟨rb, 1, none⟩ (.int .i64 u.2))) := bel_set2 HKF.out hrw _ _
                  clear HBF HFF HLF HKF
                  go_upto_region 16 with fail
                  go_region
                  all_goals
                    go_wp2_with fail
                    (try simp only [Exit.inBlock, Exit.then])
                    refine bodyPost_ret (v := .tuple #[.slice qa 0 qd, .agg #[.int .i64 u.1, .int .i64 u.2], .bool true]) ?r rfl ?_
                    case r => simp [y0, y1, results, Try.results34, go_sem]; try rfl
                    refine ⟨qa, qd, ?_, ?_, HFK.out.trans (((Below.refl _ _).drew).mono HFK.out.size)⟩
                    · rw [HPA.out.1, HPA.out.2.1, HPA.out.2.2, HT.out, HLM.out]
                    · rw [HPA.out.1, HPA.out.2.2, HLM.out, HPF.out]; exact HFO.out.below ((Below.refl _ _).drew)
        · obtain ⟨g, cap, hge, hg0, hg1⟩ := HO7.out.lies (by omega)
          rw [htl] at hge
          cases hge
          have hgr : g ≠ rb := by omega
          have hgf : g ≠ fb := by omega
          go_wp2
          go_loopw [7] (fun kk wr => ∃ (K : Nat) (L : List Sc), kk = .int .i64 K ∧ K < m ∧ L.length = m ∧ Hid (OwnH W4.heap.size wr (.slice (some ⟨g, 0, none⟩) m qd) L) ∧ Hid (BoxAt wr rb [.int .i64 0, .int .i64 0]) ∧ Hid (BoxAt wr fb [.int .i64 u.1, .int .i64 u.2]) ∧ Hid (Below w.heap.size w wr) ∧ Hid (sinkL L K = popL l)) (fun kk _ => m - (intOf kk).toNat)
          case atStart => exact ⟨0, L0, rfl, hmp, htl, HO7.out, HB7.out, HF7.out, HK7.out, HPL.out.symm⟩
          case round =>
            obtain ⟨K, L, rfl, hK, hLl, HL, HB, HF, HKR, HSK0⟩ := hrel
            clear HO7 HB7 HF7 HK7 HPL
            generalize wr = wo at *
            obtain ⟨C1, hC1⟩ : ∃ C : Nat, 2 * (K : Int) + 1 = (C : Int) := ⟨2 * K + 1, by omega⟩
            obtain ⟨C2, hC2⟩ : ∃ C : Nat, 2 * (K : Int) + 2 = (C : Int) := ⟨2 * K + 2, by omega⟩
            have HC1 : Hid (C1 = 2 * K + 1) := by show _ = _; omega
            have HC2 : Hid (C2 = 2 * K + 2) := by show _ = _; omega
            have hC1b : C1 ≤ 200 := by omega
            have hC2b : C2 ≤ 200 := by omega
            have HJ1 : Hid (bestJ L K 1 = if C1 < m ∧ bet (gd L C1) (gd L (bestJ L K 0)) = true then C1 else bestJ L K 0) := by show _ = _; rw [bestJ_1, HC1.out, hLl]
            have HJ2 : Hid (bestJ L K 2 = if C2 < m ∧ bet (gd L C2) (gd L (bestJ L K 1)) = true then C2 else bestJ L K 1) := by show _ = _; rw [bestJ_2, HC2.out, hLl]
            have HJL : Hid (∀ j, bestJ L K j < m) := fun j => by have := bestJ_lt (l := L) (k := K) (by omega) j; omega
            obtain ⟨W8, hW8⟩ : ∃ W8, W8 = wo.alloc (.cells #[.int .i64 (C1 : Int), .int .i64 (C2 : Int)] 3) := ⟨_, rfl⟩
            have k8 : Below wo.heap.size wo W8 := by rw [hW8]; exact al_ _ _
            have bC : BoxAt W8 wo.heap.size [.int .i64 (C1 : Int), .int .i64 (C2 : Int)] := by rw [hW8]; exact boxNew wo _ _
            obtain ⟨cb, hcb⟩ : ∃ cb, cb = wo.heap.size := ⟨_, rfl⟩
            rw [← hcb] at bC
            have HW8 := hid hW8
            have HCB := hid hcb
            have e0 := bC.2.1 0 _ rfl
            have e1 := bC.2.1 1 _ rfl
            have cl := bC.1
            have HL8 := hid (HL.out.below k8)
            have HB8 := hid (HB.out.below k8)
            have HF8 := hid (HF.out.below k8)
            have HK8 := hid (HKR.out.trans (k8.mono HKR.out.size))
            have h8w : w.heap.size ≤ W8.heap.size := HK8.out.size
            clear hW8 hcb k8 bC HL HB HF HKR
            go_wp2
            rw [← HW8.out, ← HCB.out]
            clear HW8 HCB hC1 hC2
            go_loopw [8, 56] (fun bb i wr => ∃ j : Nat, j ≤ 2 ∧ i = .int .i64 j ∧ bb = .int .i64 (bestJ L K j : Nat) ∧ Below W8.heap.size W8 wr) (fun _ i _ => 2 - (intOf i).toNat)
            case atStart => exact ⟨0, by omega, rfl, rfl, Below.refl _ _⟩
            case round =>
              obtain ⟨j, hj, rfl, rfl, kb⟩ := hrel
              have kl := kb.size
              have hclw : cb < wr.heap.size := by omega
              have e0w := (kb.cell (p := ⟨cb, 0, none⟩) cl).trans e0
              have e1w := (kb.cell (p := ⟨cb, 1, none⟩) cl).trans e1
              have HLW := hid (HL8.out.below kb)
              have hgl := HLW.out.lt1.2
              have hMl := HJL.out j
              by_cases hj0 : j = 0
              · subst hj0
                generalize hM : bestJ L K 0 = M at *
                have hMi : (M : Int) < (m : Int) := by omega
                have hM0 : (0 : Int) ≤ (M : Int) := by omega
                by_cases hc : C1 < m
                · have hci : (C1 : Int) < (m : Int) := by omega
                  have hc0 : (0 : Int) ≤ (C1 : Int) := by omega
                  have c0 := HLW.out.c0 (k := C1) (by omega)
                  have c1 := HLW.out.c1 (k := C1) (by omega)
                  have d0 := HLW.out.c0 (k := M) (by omega)
                  have d1 := HLW.out.c1 (k := M) (by omega)
                  have HBE := fun W => specBet (gd L C1) (gd L M) W
                  obtain ⟨G, hG⟩ : ∃ G, G = bet (gd L C1) (gd L M) := ⟨_, rfl⟩
                  rw [← hG] at HBE
                  have HYS : Hid (G = true → bestJ L K 1 = C1) := fun hh => by rw [HJ1.out, if_pos ⟨hc, by rw [← hG]; exact hh⟩]
                  have HNO : Hid (G = false → bestJ L K 1 = M) := fun hh => by rw [HJ1.out, if_neg (fun h2 => by rw [← hG, hh] at h2; exact absurd h2.2 (by simp))]
                  clear hG
                  generalize gd L C1 = x at *
                  generalize gd L M = y at *
                  go_upto_region 12 with fail
                  have HSK : Hid (∀ W, Below wr.heap.size wr W → (fun w' : World => (w'.cell? ⟨g, C1 * 2, none⟩ = some (.int .i64 x.1) ∧ w'.cell? ⟨g, C1 * 2 + 1, none⟩ = some (.int .i64 x.2)) ∧ w'.cell? ⟨g, M * 2, none⟩ = some (.int .i64 y.1) ∧ w'.cell? ⟨g, M * 2 + 1, none⟩ = some (.int .i64 y.2)) W) := fun W hW => ⟨⟨(hW.cell hgl).trans c0, (hW.cell hgl).trans c1⟩, (hW.cell hgl).trans d0, (hW.cell hgl).trans d1⟩
                  have kd : Below wr.heap.size wr wr.drew := Below.drew (Below.refl _ _)
                  have hHeld := HSK.out wr.drew kd
                  refine wp_region_heldL (n := 15) (S := fun w' : World => (w'.cell? ⟨g, C1 * 2, none⟩ = some (.int .i64 x.1) ∧ w'.cell? ⟨g, C1 * 2 + 1, none⟩ = some (.int .i64 x.2)) ∧ w'.cell? ⟨g, M * 2, none⟩ = some (.int .i64 y.1) ∧ w'.cell? ⟨g, M * 2 + 1, none⟩ = some (.int .i64 y.2)) (by kernel_rfl) rfl ?_
                  refine takeL (i := 0) (v := ?_) rfl (by kernel_rfl) (by kernel_rfl) (by kernel_rfl) (fun _ _ _ h => h) rfl ?_ (by assumption) ?_
                  rotate_left
                  · intro w hSw; (try dsimp only at hSw); go_simp; (try with_reducible rfl)
                  (try simp only [Act.put, List.setIfInBounds_toArray, List.set_cons_zero, List.set_cons_succ])
                  refine takeL (i := 1) (v := ?_) rfl (by kernel_rfl) (by kernel_rfl) (by kernel_rfl) (fun _ _ _ h => h) rfl ?_ (by assumption) ?_
                  rotate_left
                  · intro w hSw; (try dsimp only at hSw); go_simp; (try with_reducible rfl)
                  (try simp only [Act.put, List.setIfInBounds_toArray, List.set_cons_zero, List.set_cons_succ])
                  refine takeL (i := 2) (v := ?_) rfl (by kernel_rfl) (by kernel_rfl) (by kernel_rfl) (fun _ _ _ h => h) rfl ?_ (by assumption) ?_
                  rotate_left
                  · intro w hSw; (try dsimp only at hSw); go_simp; (try with_reducible rfl)
                  (try simp only [Act.put, List.setIfInBounds_toArray, List.set_cons_zero, List.set_cons_succ])
                  refine takeL (i := 3) (v := ?_) rfl (by kernel_rfl) (by kernel_rfl) (by kernel_rfl) (fun _ _ _ h => h) rfl ?_ (by assumption) ?_
                  rotate_left
                  · intro w hSw; (try dsimp only at hSw); go_simp; (try with_reducible rfl)
                  (try simp only [Act.put, List.setIfInBounds_toArray, List.set_cons_zero, List.set_cons_succ])
                  refine takeL (i := 4) (v := ?_) rfl (by kernel_rfl) (by kernel_rfl) (by kernel_rfl) (fun _ _ _ h => h) rfl ?_ (by assumption) ?_
                  rotate_left
                  · intro w hSw; (try dsimp only at hSw); go_simp; (try with_reducible rfl)
                  (try simp only [Act.put, List.setIfInBounds_toArray, List.set_cons_zero, List.set_cons_succ])
                  refine takeW (i := 5) (v := ?_) rfl (by kernel_rfl) (by kernel_rfl) (by kernel_rfl) (fun _ _ _ h => h) (by kernel_rfl) ?_ (by assumption) ?_
                  rotate_left
                  · intro w hSw; (try dsimp only at hSw); go_simp; (try with_reducible rfl)
                  (try simp only [Act.put, List.setIfInBounds_toArray, List.set_cons_zero, List.set_cons_succ])
                  refine takeW (i := 6) (v := ?_) rfl (by kernel_rfl) (by kernel_rfl) (by kernel_rfl) (fun _ _ _ h => h) (by kernel_rfl) ?_ (by assumption) ?_
                  rotate_left
                  · intro w hSw; (try dsimp only at hSw); go_simp; (try with_reducible rfl)
                  (try simp only [Act.put, List.setIfInBounds_toArray, List.set_cons_zero, List.set_cons_succ])
                  refine takeW (i := 7) (v := ?_) rfl (by kernel_rfl) (by kernel_rfl) (by kernel_rfl) (fun _ _ _ h => h) (by kernel_rfl) ?_ (by assumption) ?_
                  rotate_left
                  · intro w hSw; (try dsimp only at hSw); go_simp; (try with_reducible rfl)
                  (try simp only [Act.put, List.setIfInBounds_toArray, List.set_cons_zero, List.set_cons_succ])
                  refine takeW (i := 8) (v := ?_) rfl (by kernel_rfl) (by kernel_rfl) (by kernel_rfl) (fun _ _ _ h => h) (by kernel_rfl) ?_ (by assumption) ?_
                  rotate_left
                  · intro w hSw; (try dsimp only at hSw); go_simp; (try with_reducible rfl)
                  (try simp only [Act.put, List.setIfInBounds_toArray, List.set_cons_zero, List.set_cons_succ])
                  refine takeW (i := 9) (v := ?_) rfl (by kernel_rfl) (by kernel_rfl) (by kernel_rfl) (fun _ _ _ h => h) (by kernel_rfl) ?_ (by assumption) ?_
                  rotate_left
                  · intro w hSw; (try dsimp only at hSw); go_simp; (try with_reducible rfl)
                  (try simp only [Act.put, List.setIfInBounds_toArray, List.set_cons_zero, List.set_cons_succ])
                  refine takeW (i := 10) (v := ?_) rfl (by kernel_rfl) (by kernel_rfl) (by kernel_rfl) (fun _ _ _ h => h) (by kernel_rfl) ?_ (by assumption) ?_
                  rotate_left
                  · intro w hSw; (try dsimp only at hSw); go_simp; (try with_reducible rfl)
                  (try simp only [Act.put, List.setIfInBounds_toArray, List.set_cons_zero, List.set_cons_succ])
                  refine takeW (i := 11) (v := ?_) rfl (by kernel_rfl) (by kernel_rfl) (by kernel_rfl) (fun _ _ _ h => h) (by kernel_rfl) ?_ (by assumption) ?_
                  rotate_left
                  · intro w hSw; (try dsimp only at hSw); go_simp; (try with_reducible rfl)
                  (try simp only [Act.put, List.setIfInBounds_toArray, List.set_cons_zero, List.set_cons_succ])
                  refine takeW (i := 12) (v := ?_) rfl (by kernel_rfl) (by kernel_rfl) (by kernel_rfl) (fun _ _ _ h => h) (by kernel_rfl) ?_ (by assumption) ?_
                  rotate_left
                  · intro w hSw; (try dsimp only at hSw); go_simp; (try with_reducible rfl)
                  (try simp only [Act.put, List.setIfInBounds_toArray, List.set_cons_zero, List.set_cons_succ])
                  refine comesW (i := 13) rfl (by kernel_rfl) (by kernel_rfl) (fun K hK => ?_)
                  go_simp
                  refine (HBE _).mono ?_
                  rintro e w5 ⟨rfl, hx⟩
                  have mw5 : Below wr.heap.size wr w5 := kd.trans (hx.mono kd.size)
                  clear hx
                  (try dsimp only)
                  refine hK.out _ _ (HSK.out w5 mw5) (fun hH2 => ?_)
                  clear hK K
                  replace hHeld := hH2
                  clear hH2
                  (try simp only [Act.put, List.setIfInBounds_toArray, List.set_cons_zero, List.set_cons_succ])
                  refine takeL (i := 14) (v := ?_) rfl (by kernel_rfl) (by kernel_rfl) (by kernel_rfl) (fun _ _ _ h => h) rfl ?_ (by assumption) ?_
                  rotate_left
                  · intro w hSw; (try dsimp only at hSw); go_simp; (try with_reducible rfl)
                  (try simp only [Act.put, List.setIfInBounds_toArray, List.set_cons_zero, List.set_cons_succ])
                  refine wpAnyH_done (by kernel_rfl) ?_ _
                  clear hHeld kd HSK
                  all_goals
                    have k5 := kb.trans (mw5.mono kl)
                    cases G with
                    | true =>
                      have HN := hid (HYS.out rfl)
                      go_wp2_with fail
                      exact ⟨⟨1, by omega, by go_num, by rw [HN.out], k5⟩, by simp [intOf]⟩
                    | false =>
                      have HN := hid (HNO.out rfl)
                      go_wp2_with fail
                      exact ⟨⟨1, by omega, by go_num, by rw [HN.out], k5⟩, by simp [intOf]⟩
                · have hci : ¬ (C1 : Int) < (m : Int) := by omega
                  have hci2 : decide ((C1 : Int) < (m : Int)) = false := decide_eq_false hci
                  have HN : Hid (bestJ L K 1 = M) := by show _ = _; rw [HJ1.out, if_neg (fun h2 => hc h2.1)]
                  go_upto_region 12 with fail
                  have HSK : Hid (∀ W, Below wr.heap.size wr W → (fun w' : World => True) W) := fun W hW => trivial
                  have kd : Below wr.heap.size wr wr.drew := Below.drew (Below.refl _ _)
                  have hHeld := HSK.out wr.drew kd
                  refine wp_region_heldL (n := 15) (S := fun w' : World => True) (by kernel_rfl) rfl ?_
                  refine takeL (i := 0) (v := ?_) rfl (by kernel_rfl) (by kernel_rfl) (by kernel_rfl) (fun _ _ _ h => h) rfl ?_ (by assumption) ?_
                  rotate_left
                  · intro w hSw; (try dsimp only at hSw); go_simp; (try with_reducible rfl)
                  (try simp only [Act.put, List.setIfInBounds_toArray, List.set_cons_zero, List.set_cons_succ])
                  refine takeL (i := 1) (v := ?_) rfl (by kernel_rfl) (by kernel_rfl) (by kernel_rfl) (fun _ _ _ h => h) rfl ?_ (by assumption) ?_
                  rotate_left
                  · intro w hSw; (try dsimp only at hSw); go_simp; (try with_reducible rfl)
                  (try simp only [Act.put, List.setIfInBounds_toArray, List.set_cons_zero, List.set_cons_succ])
                  refine takeL (i := 2) (v := ?_) rfl (by kernel_rfl) (by kernel_rfl) (by kernel_rfl) (fun _ _ _ h => h) rfl ?_ (by assumption) ?_
                  rotate_left
                  · intro w hSw; (try dsimp only at hSw); go_simp; (try with_reducible rfl)
                  (try simp only [Act.put, List.setIfInBounds_toArray, List.set_cons_zero, List.set_cons_succ])
                  refine takeL (i := 3) (v := ?_) rfl (by kernel_rfl) (by kernel_rfl) (by kernel_rfl) (fun _ _ _ h => h) rfl ?_ (by assumption) ?_
                  rotate_left
                  · intro w hSw; (try dsimp only at hSw); go_simp; (try with_reducible rfl)
                  (try simp only [Act.put, List.setIfInBounds_toArray, List.set_cons_zero, List.set_cons_succ])
                  refine takeL (i := 4) (v := ?_) rfl (by kernel_rfl) (by kernel_rfl) (by kernel_rfl) (fun _ _ _ h => h) rfl ?_ (by assumption) ?_
                  rotate_left
                  · intro w hSw; (try dsimp only at hSw); go_simp; (try with_reducible rfl)
                  (try simp only [Act.put, List.setIfInBounds_toArray, List.set_cons_zero, List.set_cons_succ])
                  refine skipL (i := 5) rfl (by kernel_rfl) (by kernel_rfl) (by kernel_rfl) (fun _ _ _ h => h) (by kernel_rfl) (by assumption) ?_
                  (try simp only [Act.put, List.setIfInBounds_toArray, List.set_cons_zero, List.set_cons_succ])
                  refine skipL (i := 6) rfl (by kernel_rfl) (by kernel_rfl) (by kernel_rfl) (fun _ _ _ h => h) (by kernel_rfl) (by assumption) ?_
                  (try simp only [Act.put, List.setIfInBounds_toArray, List.set_cons_zero, List.set_cons_succ])
                  refine skipL (i := 7) rfl (by kernel_rfl) (by kernel_rfl) (by kernel_rfl) (fun _ _ _ h => h) (by kernel_rfl) (by assumption) ?_
                  (try simp only [Act.put, List.setIfInBounds_toArray, List.set_cons_zero, List.set_cons_succ])
                  refine skipL (i := 8) rfl (by kernel_rfl) (by kernel_rfl) (by kernel_rfl) (fun _ _ _ h => h) (by kernel_rfl) (by assumption) ?_
                  (try simp only [Act.put, List.setIfInBounds_toArray, List.set_cons_zero, List.set_cons_succ])
                  refine skipL (i := 9) rfl (by kernel_rfl) (by kernel_rfl) (by kernel_rfl) (fun _ _ _ h => h) (by kernel_rfl) (by assumption) ?_
                  (try simp only [Act.put, List.setIfInBounds_toArray, List.set_cons_zero, List.set_cons_succ])
                  refine skipL (i := 10) rfl (by kernel_rfl) (by kernel_rfl) (by kernel_rfl) (fun _ _ _ h => h) (by kernel_rfl) (by assumption) ?_
                  (try simp only [Act.put, List.setIfInBounds_toArray, List.set_cons_zero, List.set_cons_succ])
                  refine skipL (i := 11) rfl (by kernel_rfl) (by kernel_rfl) (by kernel_rfl) (fun _ _ _ h => h) (by kernel_rfl) (by assumption) ?_
                  (try simp only [Act.put, List.setIfInBounds_toArray, List.set_cons_zero, List.set_cons_succ])
                  refine skipL (i := 12) rfl (by kernel_rfl) (by kernel_rfl) (by kernel_rfl) (fun _ _ _ h => h) (by kernel_rfl) (by assumption) ?_
                  (try simp only [Act.put, List.setIfInBounds_toArray, List.set_cons_zero, List.set_cons_succ])
                  refine skipL (i := 13) rfl (by kernel_rfl) (by kernel_rfl) (by kernel_rfl) (fun _ _ _ h => h) (by kernel_rfl) (by assumption) ?_
                  (try simp only [Act.put, List.setIfInBounds_toArray, List.set_cons_zero, List.set_cons_succ])
                  refine takeL (i := 14) (v := ?_) rfl (by kernel_rfl) (by kernel_rfl) (by kernel_rfl) (fun _ _ _ h => h) rfl ?_ (by assumption) ?_
                  rotate_left
                  · intro w hSw; (try dsimp only at hSw); go_simp; (try with_reducible rfl)
                  (try simp only [Act.put, List.setIfInBounds_toArray, List.set_cons_zero, List.set_cons_succ])
                  refine wpAnyH_done (by kernel_rfl) ?_ _
                  clear hHeld kd HSK
                  all_goals
                    go_wp2_with fail
                    exact ⟨⟨1, by omega, by go_num, by rw [HN.out], kb.drew⟩, by simp [intOf]⟩
              · by_cases hj1 : j = 1
                · subst hj1
                  generalize hM : bestJ L K 1 = M at *
                  have hMi : (M : Int) < (m : Int) := by omega
                  have hM0 : (0 : Int) ≤ (M : Int) := by omega
                  by_cases hc : C2 < m
                  · have hci : (C2 : Int) < (m : Int) := by omega
                    have hc0 : (0 : Int) ≤ (C2 : Int) := by omega
                    have c0 := HLW.out.c0 (k := C2) (by omega)
                    have c1 := HLW.out.c1 (k := C2) (by omega)
                    have d0 := HLW.out.c0 (k := M) (by omega)
                    have d1 := HLW.out.c1 (k := M) (by omega)
                    have HBE := fun W => specBet (gd L C2) (gd L M) W
                    obtain ⟨G, hG⟩ : ∃ G, G = bet (gd L C2) (gd L M) := ⟨_, rfl⟩
                    rw [← hG] at HBE
                    have HYS : Hid (G = true → bestJ L K 2 = C2) := fun hh => by rw [HJ2.out, if_pos ⟨hc, by rw [← hG]; exact hh⟩]
                    have HNO : Hid (G = false → bestJ L K 2 = M) := fun hh => by rw [HJ2.out, if_neg (fun h2 => by rw [← hG, hh] at h2; exact absurd h2.2 (by simp))]
                    clear hG
                    generalize gd L C2 = x at *
                    generalize gd L M = y at *
                    go_upto_region 12 with fail
                    have HSK : Hid (∀ W, Below wr.heap.size wr W → (fun w' : World => (w'.cell? ⟨g, C2 * 2, none⟩ = some (.int .i64 x.1) ∧ w'.cell? ⟨g, C2 * 2 + 1, none⟩ = some (.int .i64 x.2)) ∧ w'.cell? ⟨g, M * 2, none⟩ = some (.int .i64 y.1) ∧ w'.cell? ⟨g, M * 2 + 1, none⟩ = some (.int .i64 y.2)) W) := fun W hW => ⟨⟨(hW.cell hgl).trans c0, (hW.cell hgl).trans c1⟩, (hW.cell hgl).trans d0, (hW.cell hgl).trans d1⟩
                    have kd : Below wr.heap.size wr wr.drew := Below.drew (Below.refl _ _)
                    have hHeld := HSK.out wr.drew kd
                    refine wp_region_heldL (n := 15) (S := fun w' : World => (w'.cell? ⟨g, C2 * 2, none⟩ = some (.int .i64 x.1) ∧ w'.cell? ⟨g, C2 * 2 + 1, none⟩ = some (.int .i64 x.2)) ∧ w'.cell? ⟨g, M * 2, none⟩ = some (.int .i64 y.1) ∧ w'.cell? ⟨g, M * 2 + 1, none⟩ = some (.int .i64 y.2)) (by kernel_rfl) rfl ?_
                    refine takeL (i := 0) (v := ?_) rfl (by kernel_rfl) (by kernel_rfl) (by kernel_rfl) (fun _ _ _ h => h) rfl ?_ (by assumption) ?_
                    rotate_left
                    · intro w hSw; (try dsimp only at hSw); go_simp; (try with_reducible rfl)
                    (try simp only [Act.put, List.setIfInBounds_toArray, List.set_cons_zero, List.set_cons_succ])
                    refine takeL (i := 1) (v := ?_) rfl (by kernel_rfl) (by kernel_rfl) (by kernel_rfl) (fun _ _ _ h => h) rfl ?_ (by assumption) ?_
                    rotate_left
                    · intro w hSw; (try dsimp only at hSw); go_simp; (try with_reducible rfl)
                    (try simp only [Act.put, List.setIfInBounds_toArray, List.set_cons_zero, List.set_cons_succ])
                    refine takeL (i := 2) (v := ?_) rfl (by kernel_rfl) (by kernel_rfl) (by kernel_rfl) (fun _ _ _ h => h) rfl ?_ (by assumption) ?_
                    rotate_left
                    · intro w hSw; (try dsimp only at hSw); go_simp; (try with_reducible rfl)
                    (try simp only [Act.put, List.setIfInBounds_toArray, List.set_cons_zero, List.set_cons_succ])
                    refine takeL (i := 3) (v := ?_) rfl (by kernel_rfl) (by kernel_rfl) (by kernel_rfl) (fun _ _ _ h => h) rfl ?_ (by assumption) ?_
                    rotate_left
                    · intro w hSw; (try dsimp only at hSw); go_simp; (try with_reducible rfl)
                    (try simp only [Act.put, List.setIfInBounds_toArray, List.set_cons_zero, List.set_cons_succ])
                    refine takeL (i := 4) (v := ?_) rfl (by kernel_rfl) (by kernel_rfl) (by kernel_rfl) (fun _ _ _ h => h) rfl ?_ (by assumption) ?_
                    rotate_left
                    · intro w hSw; (try dsimp only at hSw); go_simp; (try with_reducible rfl)
                    (try simp only [Act.put, List.setIfInBounds_toArray, List.set_cons_zero, List.set_cons_succ])
                    refine takeW (i := 5) (v := ?_) rfl (by kernel_rfl) (by kernel_rfl) (by kernel_rfl) (fun _ _ _ h => h) (by kernel_rfl) ?_ (by assumption) ?_
                    rotate_left
                    · intro w hSw; (try dsimp only at hSw); go_simp; (try with_reducible rfl)
                    (try simp only [Act.put, List.setIfInBounds_toArray, List.set_cons_zero, List.set_cons_succ])
                    refine takeW (i := 6) (v := ?_) rfl (by kernel_rfl) (by kernel_rfl) (by kernel_rfl) (fun _ _ _ h => h) (by kernel_rfl) ?_ (by assumption) ?_
                    rotate_left
                    · intro w hSw; (try dsimp only at hSw); go_simp; (try with_reducible rfl)
                    (try simp only [Act.put, List.setIfInBounds_toArray, List.set_cons_zero, List.set_cons_succ])
                    refine takeW (i := 7) (v := ?_) rfl (by kernel_rfl) (by kernel_rfl) (by kernel_rfl) (fun _ _ _ h => h) (by kernel_rfl) ?_ (by assumption) ?_
                    rotate_left
                    · intro w hSw; (try dsimp only at hSw); go_simp; (try with_reducible rfl)
                    (try simp only [Act.put, List.setIfInBounds_toArray, List.set_cons_zero, List.set_cons_succ])
                    refine takeW (i := 8) (v := ?_) rfl (by kernel_rfl) (by kernel_rfl) (by kernel_rfl) (fun _ _ _ h => h) (by kernel_rfl) ?_ (by assumption) ?_
                    rotate_left
                    · intro w hSw; (try dsimp only at hSw); go_simp; (try with_reducible rfl)
                    (try simp only [Act.put, List.setIfInBounds_toArray, List.set_cons_zero, List.set_cons_succ])
                    refine takeW (i := 9) (v := ?_) rfl (by kernel_rfl) (by kernel_rfl) (by kernel_rfl) (fun _ _ _ h => h) (by kernel_rfl) ?_ (by assumption) ?_
                    rotate_left
                    · intro w hSw; (try dsimp only at hSw); go_simp; (try with_reducible rfl)
                    (try simp only [Act.put, List.setIfInBounds_toArray, List.set_cons_zero, List.set_cons_succ])
                    refine takeW (i := 10) (v := ?_) rfl (by kernel_rfl) (by kernel_rfl) (by kernel_rfl) (fun _ _ _ h => h) (by kernel_rfl) ?_ (by assumption) ?_
                    rotate_left
                    · intro w hSw; (try dsimp only at hSw); go_simp; (try with_reducible rfl)
                    (try simp only [Act.put, List.setIfInBounds_toArray, List.set_cons_zero, List.set_cons_succ])
                    refine takeW (i := 11) (v := ?_) rfl (by kernel_rfl) (by kernel_rfl) (by kernel_rfl) (fun _ _ _ h => h) (by kernel_rfl) ?_ (by assumption) ?_
                    rotate_left
                    · intro w hSw; (try dsimp only at hSw); go_simp; (try with_reducible rfl)
                    (try simp only [Act.put, List.setIfInBounds_toArray, List.set_cons_zero, List.set_cons_succ])
                    refine takeW (i := 12) (v := ?_) rfl (by kernel_rfl) (by kernel_rfl) (by kernel_rfl) (fun _ _ _ h => h) (by kernel_rfl) ?_ (by assumption) ?_
                    rotate_left
                    · intro w hSw; (try dsimp only at hSw); go_simp; (try with_reducible rfl)
                    (try simp only [Act.put, List.setIfInBounds_toArray, List.set_cons_zero, List.set_cons_succ])
                    refine comesW (i := 13) rfl (by kernel_rfl) (by kernel_rfl) (fun K hK => ?_)
                    go_simp
                    refine (HBE _).mono ?_
                    rintro e w5 ⟨rfl, hx⟩
                    have mw5 : Below wr.heap.size wr w5 := kd.trans (hx.mono kd.size)
                    clear hx
                    (try dsimp only)
                    refine hK.out _ _ (HSK.out w5 mw5) (fun hH2 => ?_)
                    clear hK K
                    replace hHeld := hH2
                    clear hH2
                    (try simp only [Act.put, List.setIfInBounds_toArray, List.set_cons_zero, List.set_cons_succ])
                    refine takeL (i := 14) (v := ?_) rfl (by kernel_rfl) (by kernel_rfl) (by kernel_rfl) (fun _ _ _ h => h) rfl ?_ (by assumption) ?_
                    rotate_left
                    · intro w hSw; (try dsimp only at hSw); go_simp; (try with_reducible rfl)
                    (try simp only [Act.put, List.setIfInBounds_toArray, List.set_cons_zero, List.set_cons_succ])
                    refine wpAnyH_done (by kernel_rfl) ?_ _
                    clear hHeld kd HSK
                    all_goals
                      have k5 := kb.trans (mw5.mono kl)
                      cases G with
                      | true =>
                        have HN := hid (HYS.out rfl)
                        go_wp2_with fail
                        exact ⟨⟨2, by omega, by go_num, by rw [HN.out], k5⟩, by simp [intOf]⟩
                      | false =>
                        have HN := hid (HNO.out rfl)
                        go_wp2_with fail
                        exact ⟨⟨2, by omega, by go_num, by rw [HN.out], k5⟩, by simp [intOf]⟩
                  · have hci : ¬ (C2 : Int) < (m : Int) := by omega
                    have hci2 : decide ((C2 : Int) < (m : Int)) = false := decide_eq_false hci
                    have HN : Hid (bestJ L K 2 = M) := by show _ = _; rw [HJ2.out, if_neg (fun h2 => hc h2.1)]
                    go_upto_region 12 with fail
                    have HSK : Hid (∀ W, Below wr.heap.size wr W → (fun w' : World => True) W) := fun W hW => trivial
                    have kd : Below wr.heap.size wr wr.drew := Below.drew (Below.refl _ _)
                    have hHeld := HSK.out wr.drew kd
                    refine wp_region_heldL (n := 15) (S := fun w' : World => True) (by kernel_rfl) rfl ?_
                    refine takeL (i := 0) (v := ?_) rfl (by kernel_rfl) (by kernel_rfl) (by kernel_rfl) (fun _ _ _ h => h) rfl ?_ (by assumption) ?_
                    rotate_left
                    · intro w hSw; (try dsimp only at hSw); go_simp; (try with_reducible rfl)
                    (try simp only [Act.put, List.setIfInBounds_toArray, List.set_cons_zero, List.set_cons_succ])
                    refine takeL (i := 1) (v := ?_) rfl (by kernel_rfl) (by kernel_rfl) (by kernel_rfl) (fun _ _ _ h => h) rfl ?_ (by assumption) ?_
                    rotate_left
                    · intro w hSw; (try dsimp only at hSw); go_simp; (try with_reducible rfl)
                    (try simp only [Act.put, List.setIfInBounds_toArray, List.set_cons_zero, List.set_cons_succ])
                    refine takeL (i := 2) (v := ?_) rfl (by kernel_rfl) (by kernel_rfl) (by kernel_rfl) (fun _ _ _ h => h) rfl ?_ (by assumption) ?_
                    rotate_left
                    · intro w hSw; (try dsimp only at hSw); go_simp; (try with_reducible rfl)
                    (try simp only [Act.put, List.setIfInBounds_toArray, List.set_cons_zero, List.set_cons_succ])
                    refine takeL (i := 3) (v := ?_) rfl (by kernel_rfl) (by kernel_rfl) (by kernel_rfl) (fun _ _ _ h => h) rfl ?_ (by assumption) ?_
                    rotate_left
                    · intro w hSw; (try dsimp only at hSw); go_simp; (try with_reducible rfl)
                    (try simp only [Act.put, List.setIfInBounds_toArray, List.set_cons_zero, List.set_cons_succ])
                    refine takeL (i := 4) (v := ?_) rfl (by kernel_rfl) (by kernel_rfl) (by kernel_rfl) (fun _ _ _ h => h) rfl ?_ (by assumption) ?_
                    rotate_left
                    · intro w hSw; (try dsimp only at hSw); go_simp; (try with_reducible rfl)
                    (try simp only [Act.put, List.setIfInBounds_toArray, List.set_cons_zero, List.set_cons_succ])
                    refine skipL (i := 5) rfl (by kernel_rfl) (by kernel_rfl) (by kernel_rfl) (fun _ _ _ h => h) (by kernel_rfl) (by assumption) ?_
                    (try simp only [Act.put, List.setIfInBounds_toArray, List.set_cons_zero, List.set_cons_succ])
                    refine skipL (i := 6) rfl (by kernel_rfl) (by kernel_rfl) (by kernel_rfl) (fun _ _ _ h => h) (by kernel_rfl) (by assumption) ?_
                    (try simp only [Act.put, List.setIfInBounds_toArray, List.set_cons_zero, List.set_cons_succ])
                    refine skipL (i := 7) rfl (by kernel_rfl) (by kernel_rfl) (by kernel_rfl) (fun _ _ _ h => h) (by kernel_rfl) (by assumption) ?_
                    (try simp only [Act.put, List.setIfInBounds_toArray, List.set_cons_zero, List.set_cons_succ])
                    refine skipL (i := 8) rfl (by kernel_rfl) (by kernel_rfl) (by kernel_rfl) (fun _ _ _ h => h) (by kernel_rfl) (by assumption) ?_
                    (try simp only [Act.put, List.setIfInBounds_toArray, List.set_cons_zero, List.set_cons_succ])
                    refine skipL (i := 9) rfl (by kernel_rfl) (by kernel_rfl) (by kernel_rfl) (fun _ _ _ h => h) (by kernel_rfl) (by assumption) ?_
                    (try simp only [Act.put, List.setIfInBounds_toArray, List.set_cons_zero, List.set_cons_succ])
                    refine skipL (i := 10) rfl (by kernel_rfl) (by kernel_rfl) (by kernel_rfl) (fun _ _ _ h => h) (by kernel_rfl) (by assumption) ?_
                    (try simp only [Act.put, List.setIfInBounds_toArray, List.set_cons_zero, List.set_cons_succ])
                    refine skipL (i := 11) rfl (by kernel_rfl) (by kernel_rfl) (by kernel_rfl) (fun _ _ _ h => h) (by kernel_rfl) (by assumption) ?_
                    (try simp only [Act.put, List.setIfInBounds_toArray, List.set_cons_zero, List.set_cons_succ])
                    refine skipL (i := 12) rfl (by kernel_rfl) (by kernel_rfl) (by kernel_rfl) (fun _ _ _ h => h) (by kernel_rfl) (by assumption) ?_
                    (try simp only [Act.put, List.setIfInBounds_toArray, List.set_cons_zero, List.set_cons_succ])
                    refine skipL (i := 13) rfl (by kernel_rfl) (by kernel_rfl) (by kernel_rfl) (fun _ _ _ h => h) (by kernel_rfl) (by assumption) ?_
                    (try simp only [Act.put, List.setIfInBounds_toArray, List.set_cons_zero, List.set_cons_succ])
                    refine takeL (i := 14) (v := ?_) rfl (by kernel_rfl) (by kernel_rfl) (by kernel_rfl) (fun _ _ _ h => h) rfl ?_ (by assumption) ?_
                    rotate_left
                    · intro w hSw; (try dsimp only at hSw); go_simp; (try with_reducible rfl)
                    (try simp only [Act.put, List.setIfInBounds_toArray, List.set_cons_zero, List.set_cons_succ])
                    refine wpAnyH_done (by kernel_rfl) ?_ _
                    clear hHeld kd HSK
                    all_goals
                      go_wp2_with fail
                      exact ⟨⟨2, by omega, by go_num, by rw [HN.out], kb.drew⟩, by simp [intOf]⟩
                · have hj2 : j = 2 := by omega
                  subst hj2
                  have HBT : Hid (bestJ L K 2 = bestAt L K) := rfl
                  generalize bestJ L K 2 = M at *
                  have HB9 := hid (HB8.out.below kb)
                  have HF9 := hid (HF8.out.below kb)
                  have HK9 := hid (HK8.out.trans (kb.mono h8w))
                  clear e0w e1w HL8 HB8 HF8 HK8 kb HJ1 HJ2
                  by_cases hMK : M = K
                  · have HPF : Hid (popL l = L) := by show _ = _; rw [← HSK0.out]; exact sink_no (by rw [← HBT.out]; exact hMK)
                    have hmk : ((M : Int) == (K : Int)) = true := by rw [hMK]; simp
                    have HLF := HLW
                    have HBF := HB9
                    have HFF := HF9
                    have HKF := HK9
                    clear hMK HBT
                    have r0 := HBF.out.2.1 0 _ rfl
                    have r1 := HBF.out.2.1 1 _ rfl
                    have rf0 := HBF.out.2.2 0 (by simp)
                    have rf1 := HBF.out.2.2 1 (by simp)
                    have rl := HBF.out.1
                    have x0 := HFF.out.2.1 0 _ rfl
                    have x1 := HFF.out.2.1 1 _ rfl
                    have xl := HFF.out.1
                    have y0 := (HBF.out.set 0 (.int .i64 u.1)).2.1 0 _ rfl
                    have y1 := ((HBF.out.set 0 (.int .i64 u.1)).set 1 (.int .i64 u.2)).2.1 1 _ rfl
                    have HFO : Hid (OwnH w.heap.size ((wr.setCell ⟨rb, 0, none⟩ (.int .i64 u.1)).setCell ⟨rb, 1, none⟩ (.int .i64 u.2)) (.slice (some ⟨g, 0, none⟩) m qd) L) :=
                      (HLF.out.mono h4w).off ((off1 _ rb 0 _).trans (off1 _ rb 1 _)) (fun q hq hm => by have h9 := HLF.out.lt q hq; simp at hm; omega)
                    have HFK : Hid (Below w.heap.size w ((wr.setCell ⟨rb, 0, none⟩ (.int .i64 u.1)).setCell ⟨rb, 1, none⟩ (.int .i64 u.2))) := bel_set2 HKF.out hrw _ _
                    clear HBF HFF HLF HKF
                    go_upto_region 16 with fail
                    go_region
                    all_goals
                      go_wp2_with fail
                      (try simp only [Exit.inBlock, Exit.then])
                      refine bodyPost_ret (v := .tuple #[.slice (some ⟨g, 0, none⟩) m qd, .agg #[.int .i64 u.1, .int .i64 u.2], .bool true]) ?r rfl ?_
                      case r => simp [y0, y1, results, Try.results34, go_sem]; try rfl
                      refine ⟨some ⟨g, 0, none⟩, qd, ?_, ?_, HFK.out.trans (((Below.refl _ _).drew).mono HFK.out.size)⟩
                      · rw [HPA.out.1, HPA.out.2.1, HPA.out.2.2, HT.out, HLM.out]
                      · rw [HPA.out.1, HPA.out.2.2, HLM.out, HPF.out]; exact HFO.out.below ((Below.refl _ _).drew)
                  · have hmk : ((M : Int) == (K : Int)) = false := beq_false_of_ne (by omega)
                    have hne : bestAt L K ≠ K := by rw [← HBT.out]; exact hMK
                    have hlt := bestAt_lt hne
                    have HSN : Hid (sinkL L K = sinkL (sw L K M) M) := by show _ = _; rw [sink_yes hne, ← HBT.out]
                    rw [← HBT.out] at hlt
                    obtain ⟨hKM, hMm⟩ := hlt
                    have c0 := HLW.out.c0 (k := K) (by omega)
                    have c1 := HLW.out.c1 (k := K) (by omega)
                    have d0 := HLW.out.c0 (k := M) (by omega)
                    have d1 := HLW.out.c1 (k := M) (by omega)
                    have f0 := HLW.out.fz (K * 2)
                    have f1 := HLW.out.fz (K * 2 + 1)
                    have f2 := HLW.out.fz (M * 2)
                    have f3 := HLW.out.fz (M * 2 + 1)
                    have HFIN := hid ((HLW.out.put K (gd L M)).put M (gd L K))
                    have HOF := hid ((putC_off wr g K (gd L M)).trans (putC_off _ g M (gd L K)))
                    have hKi : (K : Int) < (m : Int) := by omega
                    have hMi : (M : Int) < (m : Int) := by omega
                    have hK0 : (0 : Int) ≤ (K : Int) := by omega
                    have hM0 : (0 : Int) ≤ (M : Int) := by omega
                    have HBN := hid (HB9.out.off HOF.out (by simp; omega))
                    have HFN := hid (HF9.out.off HOF.out (by simp; omega))
                    have hgw : w.heap.size ≤ g := by omega
                    have HKN := hid (HK9.out.trans (HOF.out.below HK9.out.size (fun x hx => by simp at hx; omega)))
                    have HSW : Hid (((L.set K (gd L M)).set M (gd L K)) = sw L K M) := rfl
                    obtain ⟨x, hx⟩ : ∃ x, x = gd L K := ⟨_, rfl⟩
                    obtain ⟨y, hy⟩ : ∃ y, y = gd L M := ⟨_, rfl⟩
                    rw [← hx] at c0 c1 HFIN HOF HBN HFN HKN HSW
                    rw [← hy] at d0 d1 HFIN HOF HBN HFN HKN HSW
                    rw [HSW.out] at HFIN
                    unfold putC at HFIN HOF HBN HFN HKN
                    have hn1 : M * 2 ≠ K * 2 := by omega
                    have hn2 : M * 2 ≠ K * 2 + 1 := by omega
                    have hn3 : M * 2 + 1 ≠ K * 2 := by omega
                    have hn4 : M * 2 + 1 ≠ K * 2 + 1 := by omega
                    clear hx hy HLW HB9 HF9 HK9 HOF HSW HBT hne hMK
                    go_wp2_with fail
                    refine ⟨⟨M, sw L K M, rfl, by omega, by rw [sw_len]; exact hLl, HFIN.out.below (al_ _ _), HBN.out.below (al_ _ _), HFN.out.below (al_ _ _), HKN.out.trans ((al_ _ _).mono HKN.out.size), by rw [← HSN.out]; exact HSK0.out⟩, by simp [intOf]; omega⟩

end Go.Proofs.Ythdodlbhkpoadaa
