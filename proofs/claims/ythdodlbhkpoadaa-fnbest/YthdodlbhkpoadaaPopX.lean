/- HeapPop: the program. Condition: the list lies in memory. -/
import Derived.Test.YthdodlbhkpoadaaCloneH
import Derived.Test.YthdodlbhkpoadaaHeapB
namespace Go.Proofs.Ythdodlbhkpoadaa
open Go.ChangeShapes Go.WideShapes Go.ChangeAt Go.RowKit Go.Deep
set_option linter.unusedVariables false
attribute [local go_sem ↓] Go.wp_at_zero Go.wp_at_succ

def PopOk (l : List Sc) : Prop := GoodH l ∧ IsH l ∧ l.length ≠ 0
def popAns (B : Bool) (l : List Sc) : List Sc := if B = true then popL l else []
def popOne (B : Bool) (l : List Sc) : Sc := if B = true then gd l 0 else (0, 0)
theorem bel_set2 {a b : World} {B g : Nat} (h : Below B a b) (hg : B ≤ g) (u v : Value) : Below B a ((b.setCell ⟨g, 0, none⟩ u).setCell ⟨g, 1, none⟩ v) := bel_set (bel_set h hg 0 u) hg 1 v
set_option maxHeartbeats 6400000 in
set_option maxRecDepth 100000 in
theorem implHPop (v : Value) (l : List Sc) (B : Bool) (hB : B = true ↔ PopOk l) (w : World) (h : RdS w v l) (hl : l.length ≤ 1048576) :
    Calls Try.prog 32 #[v] w fun e w' => ∃ qa qc, e = .returned (.tuple #[.slice qa (popAns B l).length qc, .agg #[.int .i64 (popOne B l).1, .int .i64 (popOne B l).2], .bool B]) ∧ OwnH w.heap.size w' (.slice qa (popAns B l).length qc) (popAns B l) ∧ Below w.heap.size w w' := by
  obtain ⟨W1, hW1⟩ : ∃ W1, W1 = w.alloc (.cells #[.int .i64 0, .int .i64 0] 33) := ⟨_, rfl⟩
  have k1 : Below w.heap.size w W1 := by rw [hW1]; exact al_ _ _
  have bX : BoxAt W1 w.heap.size [.int .i64 0, .int .i64 0] := by rw [hW1]; exact boxNew w _ _
  obtain ⟨rb, hrb⟩ : ∃ rb, rb = w.heap.size := ⟨_, rfl⟩
  have hrw : w.heap.size ≤ rb := by omega
  rw [← hrb] at bX
  have HRB := hid hrb
  have HW1 := hid hW1
  have HB := hid hB
  have HR := hid (h.below k1)
  obtain ⟨Bg, hBg⟩ := bool_of (GoodH l)
  obtain ⟨Bo, hBo⟩ := bool_of (IsH l)
  obtain ⟨va, vc, rfl⟩ := h.slice
  have HSC := fun W hW => implScores (.slice va l.length vc) l Bg hBg W hW hl
  have HOR := fun W hW => implOrder (.slice va l.length vc) l Bo hBo W hW hl
  have HPO : Hid (B = true ↔ Bg = true ∧ Bo = true ∧ l.length ≠ 0) := by
    show _ ↔ _
    rw [HB.out, hBg, hBo]
    rfl
  have HBX := hid bX
  have HK1 := hid k1
  clear h hB hBg hBo hW1 hrb k1 bX
  cases Bg with
  | false =>
    have HF : Hid (B = false) := bool_no HPO.out (fun hh => by cases hh.1)
    go_enter Try.func32, Try.ntmps32
    go_upto_region 1 with fail
    rw [← HW1.out, ← HRB.out]
    go_wp2_with fail
    refine (HSC _ HR.out.at).mono ?_
    rintro e w2 ⟨rfl, hb2⟩
    have HB2 := hid (HBX.out.below hb2)
    have HK2 := hid (HK1.out.trans (hb2.mono HK1.out.size))
    clear hb2 HSC
    have r0 := HB2.out.2.1 0 _ rfl
    have r1 := HB2.out.2.1 1 _ rfl
    have rf0 := HB2.out.2.2 0 (by simp)
    have rf1 := HB2.out.2.2 1 (by simp)
    have rl := HB2.out.1
    have y0 := (HB2.out.set 0 (.int .i64 0)).2.1 0 _ rfl
    have y1 := ((HB2.out.set 0 (.int .i64 0)).set 1 (.int .i64 0)).2.1 1 _ rfl
    have HFK : Hid (Below w.heap.size w ((w2.setCell ⟨rb, 0, none⟩ (.int .i64 0)).setCell ⟨rb, 1, none⟩ (.int .i64 0))) := bel_set2 HK2.out hrw _ _
    have HPA : Hid (popAns B l = [] ∧ popOne B l = (0, 0)) := ⟨by rw [HF.out]; rfl, by rw [HF.out]; rfl⟩
    go_wp2_with fail
    (try simp only [Exit.inBlock, Exit.then])
    refine bodyPost_ret (v := .tuple #[.slice none 0 0, .agg #[.int .i64 0, .int .i64 0], .bool false]) ?r rfl ?_
    case r => simp [y0, y1, results, Try.results32, go_sem]; try rfl
    refine ⟨none, 0, ?_, ?_, HFK.out⟩
    · rw [HPA.out.1, HPA.out.2, HF.out]; rfl
    · rw [HPA.out.1]; exact OwnH.nil _ _
  | true =>
    cases Bo with
    | false =>
      have HF : Hid (B = false) := bool_no HPO.out (fun hh => by cases hh.2.1)
      go_enter Try.func32, Try.ntmps32
      go_upto_region 1 with fail
      rw [← HW1.out, ← HRB.out]
      go_wp2_with fail
      refine (HSC _ HR.out.at).mono ?_
      rintro e w2 ⟨rfl, hb2⟩
      have HB2 := hid (HBX.out.below hb2)
      have HK2 := hid (HK1.out.trans (hb2.mono HK1.out.size))
      have HR2 := hid (HR.out.below hb2)
      clear hb2 HSC
      go_wp2_with fail
      refine (HOR _ HR2.out.at).mono ?_
      rintro e w3 ⟨rfl, hb3⟩
      have HB3 := hid (HB2.out.below hb3)
      have HK3 := hid (HK2.out.trans (hb3.mono HK2.out.size))
      clear hb3 HOR
      have r0 := HB3.out.2.1 0 _ rfl
      have r1 := HB3.out.2.1 1 _ rfl
      have rf0 := HB3.out.2.2 0 (by simp)
      have rf1 := HB3.out.2.2 1 (by simp)
      have rl := HB3.out.1
      have y0 := (HB3.out.set 0 (.int .i64 0)).2.1 0 _ rfl
      have y1 := ((HB3.out.set 0 (.int .i64 0)).set 1 (.int .i64 0)).2.1 1 _ rfl
      have HFK : Hid (Below w.heap.size w ((w3.setCell ⟨rb, 0, none⟩ (.int .i64 0)).setCell ⟨rb, 1, none⟩ (.int .i64 0))) := bel_set2 HK3.out hrw _ _
      have HPA : Hid (popAns B l = [] ∧ popOne B l = (0, 0)) := ⟨by rw [HF.out]; rfl, by rw [HF.out]; rfl⟩
      go_wp2_with fail
      (try simp only [Exit.inBlock, Exit.then])
      refine bodyPost_ret (v := .tuple #[.slice none 0 0, .agg #[.int .i64 0, .int .i64 0], .bool false]) ?r rfl ?_
      case r => simp [y0, y1, results, Try.results32, go_sem]; try rfl
      refine ⟨none, 0, ?_, ?_, HFK.out⟩
      · rw [HPA.out.1, HPA.out.2, HF.out]; rfl
      · rw [HPA.out.1]; exact OwnH.nil _ _
    | true =>
      by_cases hl0 : l.length = 0
      · have HF : Hid (B = false) := bool_no HPO.out (fun hh => hh.2.2 hl0)
        have hle0 : (l.length : Int) = 0 := by omega
        have hle : ((l.length : Int) == 0) = true := by rw [hle0]; rfl
        clear hle0
        clear hl0
        go_enter Try.func32, Try.ntmps32
        go_upto_region 1 with fail
        rw [← HW1.out, ← HRB.out]
        go_wp2_with fail
        refine (HSC _ HR.out.at).mono ?_
        rintro e w2 ⟨rfl, hb2⟩
        have HB2 := hid (HBX.out.below hb2)
        have HK2 := hid (HK1.out.trans (hb2.mono HK1.out.size))
        have HR2 := hid (HR.out.below hb2)
        clear hb2 HSC
        go_wp2_with fail
        refine (HOR _ HR2.out.at).mono ?_
        rintro e w3 ⟨rfl, hb3⟩
        have HB3 := hid (HB2.out.below hb3)
        have HK3 := hid (HK2.out.trans (hb3.mono HK2.out.size))
        clear hb3 HOR
        have r0 := HB3.out.2.1 0 _ rfl
        have r1 := HB3.out.2.1 1 _ rfl
        have rf0 := HB3.out.2.2 0 (by simp)
        have rf1 := HB3.out.2.2 1 (by simp)
        have rl := HB3.out.1
        have y0 := (HB3.out.set 0 (.int .i64 0)).2.1 0 _ rfl
        have y1 := ((HB3.out.set 0 (.int .i64 0)).set 1 (.int .i64 0)).2.1 1 _ rfl
        have HFK : Hid (Below w.heap.size w ((w3.setCell ⟨rb, 0, none⟩ (.int .i64 0)).setCell ⟨rb, 1, none⟩ (.int .i64 0))) := bel_set2 HK3.out hrw _ _
        have HPA : Hid (popAns B l = [] ∧ popOne B l = (0, 0)) := ⟨by rw [HF.out]; rfl, by rw [HF.out]; rfl⟩
        go_wp2_with fail
        (try simp only [Exit.inBlock, Exit.then])
        refine bodyPost_ret (v := .tuple #[.slice none 0 0, .agg #[.int .i64 0, .int .i64 0], .bool false]) ?r rfl ?_
        case r => simp [y0, y1, results, Try.results32, go_sem]; try rfl
        refine ⟨none, 0, ?_, ?_, HFK.out⟩
        · rw [HPA.out.1, HPA.out.2, HF.out]; rfl
        · rw [HPA.out.1]; exact OwnH.nil _ _
      · have hle : ((l.length : Int) == 0) = false := beq_false_of_ne (by omega)
        have HT : Hid (B = true) := HPO.out.2 ⟨rfl, rfl, hl0⟩
        have HPA : Hid (popAns B l = popL l ∧ popOne B l = gd l 0 ∧ (popL l).length = l.length - 1) := ⟨by rw [HT.out]; rfl, by rw [HT.out]; rfl, pop_len l⟩
        have HPPa := fun w3 g qc w4 ho4 hs => implPopped w3 g l.length qc l w4 ho4 rfl (by omega) hl hs
        obtain ⟨u, hu⟩ : ∃ u, u = gd l 0 := ⟨_, rfl⟩
        rw [← hu] at HPA HPPa
        clear hu
        go_enter Try.func32, Try.ntmps32
        go_upto_region 1 with fail
        rw [← HW1.out, ← HRB.out]
        go_wp2_with fail
        refine (HSC _ HR.out.at).mono ?_
        rintro e w2 ⟨rfl, hb2⟩
        have HB2 := hid (HBX.out.below hb2)
        have HK2 := hid (HK1.out.trans (hb2.mono HK1.out.size))
        have HR2 := hid (HR.out.below hb2)
        clear hb2 HSC
        go_wp2_with fail
        refine (HOR _ HR2.out.at).mono ?_
        rintro e w3 ⟨rfl, hb3⟩
        have HB3 := hid (HB2.out.below hb3)
        have HK3 := hid (HK2.out.trans (hb3.mono HK2.out.size))
        have HR3 := hid (HR2.out.below hb3)
        clear hb3 HOR
        go_wp2_with fail
        refine (implCloneA _ l _ HR3.out hl).mono ?_
        rintro e w4 ⟨qa, qc, rfl, ho4, hb4⟩
        have HB4 := hid (HB3.out.below hb4)
        have HK4 := hid (HK3.out.trans (hb4.mono HK3.out.size))
        obtain ⟨g, cap, hge, hg0, hg1⟩ := ho4.lies (by omega)
        cases hge
        have HPP := HPPa w3.heap.size g qc w4 ho4 hb4.size
        have hrg : rb ≠ g := by have := HB3.out.1; omega
        have hgw : w.heap.size ≤ g := by have := HK3.out.size; omega
        have h3w : w.heap.size ≤ w3.heap.size := HK3.out.size
        clear hb4 ho4
        go_wp2_with fail
        refine HPP.mono ?_
        rintro e w5 ⟨rfl, ho5, hf5⟩
        have HB5 := hid ((HB4.out.off hf5 (by simpa using hrg)).below (al_ w5 (.cells #[.int .i64 u.1, .int .i64 u.2] 33)))
        have HO5 := hid (ho5.below (al_ w5 (.cells #[.int .i64 u.1, .int .i64 u.2] 33)))
        have HX5 := hid (boxNew w5 #[.int .i64 u.1, .int .i64 u.2] 33)
        have HK5 : Hid (Below w.heap.size w (w5.alloc (.cells #[.int .i64 u.1, .int .i64 u.2] 33))) := (HK4.out.trans (hf5.below HK4.out.size (fun y hy => by simp at hy; omega))).alloc (by have := hf5.size; have := HK4.out.size; omega) _
        have hxr : w5.heap.size ≠ rb := by have := (HB4.out.off hf5 (by simpa using hrg)).1; omega
        clear ho5 hf5 HPP HB4 HK4
        obtain ⟨W6, hW6⟩ : ∃ W6, W6 = w5.alloc (.cells #[.int .i64 u.1, .int .i64 u.2] 33) := ⟨_, rfl⟩
        obtain ⟨xb, hxb⟩ : ∃ xb, xb = w5.heap.size := ⟨_, rfl⟩
        rw [← hW6] at HB5 HO5 HX5 HK5
        rw [← hxb] at HX5 hxr
        have HW6 := hid hW6
        have HXB := hid hxb
        clear hW6 hxb
        go_upto_region 4 with fail
        rw [← HW6.out, ← HXB.out]
        clear HW6 HXB
        have r0 := HB5.out.2.1 0 _ rfl
        have r1 := HB5.out.2.1 1 _ rfl
        have rf0 := HB5.out.2.2 0 (by simp)
        have rf1 := HB5.out.2.2 1 (by simp)
        have rl := HB5.out.1
        have x0 := HX5.out.2.1 0 _ rfl
        have x1 := HX5.out.2.1 1 _ rfl
        have xl := HX5.out.1
        have y0 := (HB5.out.set 0 (.int .i64 u.1)).2.1 0 _ rfl
        have y1 := ((HB5.out.set 0 (.int .i64 u.1)).set 1 (.int .i64 u.2)).2.1 1 _ rfl
        have HFO : Hid (OwnH w.heap.size ((W6.setCell ⟨rb, 0, none⟩ (.int .i64 u.1)).setCell ⟨rb, 1, none⟩ (.int .i64 u.2)) (.slice (some ⟨g, 0, none⟩) (l.length - 1) qc) (popL l)) :=
          (HO5.out.mono h3w).off ((off1 _ rb 0 _).trans (off1 _ rb 1 _)) (fun q hq hm => by simp [hbl, Value.ownBlock] at hq; simp at hm; omega)
        have HFK : Hid (Below w.heap.size w ((W6.setCell ⟨rb, 0, none⟩ (.int .i64 u.1)).setCell ⟨rb, 1, none⟩ (.int .i64 u.2))) := bel_set2 HK5.out hrw _ _
        clear HB5 HX5 HO5 HK5
        go_region
        all_goals
          go_wp2_with fail
          (try simp only [Exit.inBlock, Exit.then])
          refine bodyPost_ret (v := .tuple #[.slice (some ⟨g, 0, none⟩) (l.length - 1) qc, .agg #[.int .i64 u.1, .int .i64 u.2], .bool true]) ?r rfl ?_
          case r => simp [y0, y1, results, Try.results32, go_sem]; try rfl
          refine ⟨some ⟨g, 0, none⟩, qc, ?_, ?_, HFK.out.trans (((Below.refl _ _).drew).mono HFK.out.size)⟩
          · rw [HPA.out.1, HPA.out.2.1, HPA.out.2.2, HT.out]
          · rw [HPA.out.1, HPA.out.2.2]; exact HFO.out.below ((Below.refl _ _).drew)
end Go.Proofs.Ythdodlbhkpoadaa
