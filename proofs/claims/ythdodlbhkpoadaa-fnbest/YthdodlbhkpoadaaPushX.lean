/- HeapPush: program and model. Condition: the list lies in memory. -/
import Derived.Test.YthdodlbhkpoadaaCloneH
import Derived.Test.YthdodlbhkpoadaaHeapB
namespace Go.Proofs.Ythdodlbhkpoadaa
open Go.ChangeShapes Go.WideShapes Go.ChangeAt Go.RowKit Go.Deep
set_option linter.unusedVariables false
attribute [local go_sem ↓] Go.wp_at_zero Go.wp_at_succ

/-- What HeapPush asks. -/
def PushOk (l : List Sc) (x : Sc) : Prop := GoodH l ∧ IsH l ∧ l.length ≠ 60 ∧ okSc x 0 10000 = true
def pushAns (B : Bool) (l : List Sc) (x : Sc) : List Sc := if B = true then pushL l x else []
set_option maxHeartbeats 6400000 in
set_option maxRecDepth 100000 in
theorem implHPush (v : Value) (l : List Sc) (x : Sc) (B : Bool) (hB : B = true ↔ PushOk l x) (w : World) (h : RdS w v l) (hl : l.length ≤ 1048576) :
    Calls Try.prog 29 #[v, .agg #[.int .i64 x.1, .int .i64 x.2]] w fun e w' => ∃ qa qc, e = .returned (.tuple #[.slice qa (pushAns B l x).length qc, .bool B]) ∧ OwnH w.heap.size w' (.slice qa (pushAns B l x).length qc) (pushAns B l x) ∧ Below w.heap.size w w' := by
  obtain ⟨W1, hW1⟩ : ∃ W1, W1 = w.alloc (.cells #[.int .i64 x.1, .int .i64 x.2] 33) := ⟨_, rfl⟩
  have k1 : Below w.heap.size w W1 := by rw [hW1]; exact al_ _ _
  have bX : BoxAt W1 w.heap.size [.int .i64 x.1, .int .i64 x.2] := by rw [hW1]; exact boxNew w _ _
  obtain ⟨xb, hxb⟩ : ∃ xb, xb = w.heap.size := ⟨_, rfl⟩
  rw [← hxb] at bX
  have HXB := hid hxb
  have HW1 := hid hW1
  have HB := hid hB
  have HR := hid (h.below k1)
  obtain ⟨Bg, hBg⟩ := bool_of (GoodH l)
  obtain ⟨Bo, hBo⟩ := bool_of (IsH l)
  obtain ⟨Bx, hBx⟩ : ∃ Bx, Bx = okSc x 0 10000 := ⟨_, rfl⟩
  obtain ⟨va, vc, rfl⟩ := h.slice
  have HSC := fun W hW => implScores (.slice va l.length vc) l Bg hBg W hW hl
  have HOR := fun W hW => implOrder (.slice va l.length vc) l Bo hBo W hW hl
  have HGX := fun W => implGSc x 0 10000 W
  rw [← hBx] at HGX
  have HPO : Hid (B = true ↔ Bg = true ∧ Bo = true ∧ l.length ≠ 60 ∧ Bx = true) := by
    show _ ↔ _
    rw [HB.out, hBg, hBo, hBx]
    rfl
  have h60 : Hid (Bg = true → l.length ≤ 60) := fun hg => (hBg.1 hg).1
  have HBX := hid bX
  have HK1 := hid k1
  clear h hB hBg hBo hBx hW1 hxb k1 bX
  have x0 := HBX.out.2.1 0 _ rfl
  have x1 := HBX.out.2.1 1 _ rfl
  have xl := HBX.out.1
  cases Bg with
  | false =>
    have HF : Hid (B = false) := bool_no HPO.out (fun hh => by cases hh.1)
    rw [HF.out]
    simp only [pushAns, Bool.false_eq_true, if_false, List.length_nil]
    go_enter Try.func29, Try.ntmps29
    go_upto_region 1 with fail
    rw [← HW1.out, ← HXB.out]
    go_wp2_with fail
    refine (HSC _ HR.out.at).mono ?_
    rintro e w2 ⟨rfl, hb2⟩
    have k2 := HK1.out.trans (hb2.mono HK1.out.size)
    clear hb2 HSC x0 x1 xl
    go_wp2
    go_returns
    exact ⟨_, _, rfl, OwnH.nil _ _, k2⟩
  | true =>
    have hl60 := h60.out rfl
    cases Bo with
    | false =>
      have HF : Hid (B = false) := bool_no HPO.out (fun hh => by cases hh.2.1)
      rw [HF.out]
      simp only [pushAns, Bool.false_eq_true, if_false, List.length_nil]
      go_enter Try.func29, Try.ntmps29
      go_upto_region 1 with fail
      rw [← HW1.out, ← HXB.out]
      go_wp2_with fail
      refine (HSC _ HR.out.at).mono ?_
      rintro e w2 ⟨rfl, hb2⟩
      have k2 := HK1.out.trans (hb2.mono HK1.out.size)
      have HR2 := hid (HR.out.below hb2)
      clear hb2 HSC x0 x1 xl
      go_wp2_with fail
      refine (HOR _ HR2.out.at).mono ?_
      rintro e w3 ⟨rfl, hb3⟩
      have k3 := k2.trans (hb3.mono k2.size)
      clear hb3 HOR
      go_wp2
      go_returns
      exact ⟨_, _, rfl, OwnH.nil _ _, k3⟩
    | true =>
      by_cases hl0 : l.length = 60
      · have HF : Hid (B = false) := bool_no HPO.out (fun hh => hh.2.2.1 hl0)
        rw [HF.out]
        simp only [pushAns, Bool.false_eq_true, if_false, List.length_nil]
        have hle : ((l.length : Int) == 60) = true := by simp; omega
        clear hl0
        go_enter Try.func29, Try.ntmps29
        go_upto_region 1 with fail
        rw [← HW1.out, ← HXB.out]
        go_wp2_with fail
        refine (HSC _ HR.out.at).mono ?_
        rintro e w2 ⟨rfl, hb2⟩
        have k2 := HK1.out.trans (hb2.mono HK1.out.size)
        have HR2 := hid (HR.out.below hb2)
        clear hb2 HSC x0 x1 xl
        go_wp2_with fail
        refine (HOR _ HR2.out.at).mono ?_
        rintro e w3 ⟨rfl, hb3⟩
        have k3 := k2.trans (hb3.mono k2.size)
        clear hb3 HOR
        go_wp2
        go_returns
        exact ⟨_, _, rfl, OwnH.nil _ _, k3⟩
      · have hle : ((l.length : Int) == 60) = false := by simp; omega
        cases Bx with
        | false =>
          have HF : Hid (B = false) := bool_no HPO.out (fun hh => by cases hh.2.2.2)
          rw [HF.out]
          simp only [pushAns, Bool.false_eq_true, if_false, List.length_nil]
          go_enter Try.func29, Try.ntmps29
          go_upto_region 1 with fail
          rw [← HW1.out, ← HXB.out]
          go_wp2_with fail
          refine (HSC _ HR.out.at).mono ?_
          rintro e w2 ⟨rfl, hb2⟩
          have k2 := HK1.out.trans (hb2.mono HK1.out.size)
          have HR2 := hid (HR.out.below hb2)
          have HBX2 := hid (HBX.out.below hb2)
          clear hb2 HSC x0 x1 xl
          go_wp2_with fail
          refine (HOR _ HR2.out.at).mono ?_
          rintro e w3 ⟨rfl, hb3⟩
          have k3 := k2.trans (hb3.mono k2.size)
          have HBX3 := hid (HBX2.out.below hb3)
          have x0 := HBX3.out.2.1 0 _ rfl
          have x1 := HBX3.out.2.1 1 _ rfl
          have xl := HBX3.out.1
          clear hb3 HOR
          go_wp2_with fail
          refine (HGX _).mono ?_
          rintro e w4 ⟨rfl, hb4⟩
          have k4 := k3.trans (hb4.mono k3.size)
          clear hb4 HGX x0 x1 xl
          go_wp2
          go_returns
          exact ⟨_, _, rfl, OwnH.nil _ _, k4⟩
        | true =>
          have HT : Hid (B = true) := HPO.out.2 ⟨rfl, rfl, hl0, rfl⟩
          rw [HT.out]
          simp only [pushAns, if_true]
          rw [push_len]
          go_enter Try.func29, Try.ntmps29
          go_upto_region 1 with fail
          rw [← HW1.out, ← HXB.out]
          go_wp2_with fail
          refine (HSC _ HR.out.at).mono ?_
          rintro e w2 ⟨rfl, hb2⟩
          have k2 := HK1.out.trans (hb2.mono HK1.out.size)
          have HR2 := hid (HR.out.below hb2)
          have HBX2 := hid (HBX.out.below hb2)
          clear hb2 HSC x0 x1 xl
          go_wp2_with fail
          refine (HOR _ HR2.out.at).mono ?_
          rintro e w3 ⟨rfl, hb3⟩
          have k3 := k2.trans (hb3.mono k2.size)
          have HR3 := hid (HR2.out.below hb3)
          have HBX3 := hid (HBX2.out.below hb3)
          have x0 := HBX3.out.2.1 0 _ rfl
          have x1 := HBX3.out.2.1 1 _ rfl
          have xl := HBX3.out.1
          clear hb3 HOR
          go_wp2_with fail
          refine (HGX _).mono ?_
          rintro e w4 ⟨rfl, hb4⟩
          have k4 := k3.trans (hb4.mono k3.size)
          have HR4 := hid (HR3.out.below hb4)
          have HBX4 := hid (HBX3.out.below hb4)
          have HK4 := hid k4
          clear hb4 HGX x0 x1 xl k2 k3 k4
          have b0 := HBX4.out.2.1 0 _ rfl
          have b1 := HBX4.out.2.1 1 _ rfl
          have bl := HBX4.out.1
          go_upto_region 3 with fail
          have HSK : Hid (∀ W, Below w4.heap.size w4 W → (fun w' : World => w'.cell? ⟨xb, 0, none⟩ = some (.int .i64 x.1) ∧ w'.cell? ⟨xb, 1, none⟩ = some (.int .i64 x.2)) W) := fun W hW => ⟨(hW.cell bl).trans b0, (hW.cell bl).trans b1⟩
          have kd : Below w4.heap.size w4 w4.drew := Below.drew (Below.refl _ _)
          have hHeld := HSK.out w4.drew kd
          refine wp_region_heldL (n := 6) (S := fun w' : World => w'.cell? ⟨xb, 0, none⟩ = some (.int .i64 x.1) ∧ w'.cell? ⟨xb, 1, none⟩ = some (.int .i64 x.2)) (by kernel_rfl) rfl ?_
          refine takeL (i := 0) (v := ?_) rfl (by kernel_rfl) (by kernel_rfl) (by kernel_rfl) (fun _ _ _ h => h) rfl ?_ (by assumption) ?_
          rotate_left
          · intro w hSw; (try dsimp only at hSw); go_simp; (try with_reducible rfl)
          (try simp only [Act.put, List.setIfInBounds_toArray, List.set_cons_zero, List.set_cons_succ])
          refine takeL (i := 2) (v := ?_) rfl (by kernel_rfl) (by kernel_rfl) (by kernel_rfl) (fun _ _ _ h => h) rfl ?_ (by assumption) ?_
          rotate_left
          · intro w hSw; (try dsimp only at hSw); go_simp; (try with_reducible rfl)
          (try simp only [Act.put, List.setIfInBounds_toArray, List.set_cons_zero, List.set_cons_succ])
          refine comesL (i := 1) rfl rfl (by kernel_rfl) (fun K hK => ?_)
          go_simp
          refine (implCloneA _ l _ (HR4.out.below kd) hl).mono ?_
          rintro e w5 ⟨qa, qc, rfl, ho, hx⟩
          have mw5 : Below w4.heap.size w4 w5 := kd.trans (hx.mono kd.size)
          have HO5 := hid (ho.mono (show w4.heap.size ≤ w4.drew.heap.size from kd.size))
          clear ho hx
          (try dsimp only)
          refine hK.out _ _ (HSK.out w5 mw5) (fun hH2 => ?_)
          clear hK K
          replace hHeld := hH2
          clear hH2
          (try simp only [Act.put, List.setIfInBounds_toArray, List.set_cons_zero, List.set_cons_succ])
          refine comesL (i := 3) rfl rfl (by kernel_rfl) (fun K hK => ?_)
          go_simp
          refine (implPushed w4.heap.size _ l x _ HO5.out (by omega) mw5.size).mono ?_
          rintro e w6 ⟨ra, rc, rfl, ho, hf, hg⟩
          have HF : Hid (OwnH w.heap.size w6 (.slice ra (l.length + 1) rc) (pushL l x)) := ho.mono HK4.out.size
          have mw6 : Below w4.heap.size w4 w6 := mw5.trans (hf.below mw5.size (fun g hg => (HO5.out.lt g hg).1))
          have HKF : Hid (Below w.heap.size w w6) := HK4.out.trans (mw6.mono HK4.out.size)
          clear ho hf hg
          (try dsimp only)
          refine hK.out _ _ (HSK.out w6 mw6) (fun hH2 => ?_)
          clear hK K
          replace hHeld := hH2
          clear hH2
          (try simp only [Act.put, List.setIfInBounds_toArray, List.set_cons_zero, List.set_cons_succ])
          refine takeL (i := 4) (v := ?_) rfl (by kernel_rfl) (by kernel_rfl) (by kernel_rfl) (fun _ _ _ h => h) rfl ?_ (by assumption) ?_
          rotate_left
          · intro w hSw; (try dsimp only at hSw); go_simp; (try with_reducible rfl)
          (try simp only [Act.put, List.setIfInBounds_toArray, List.set_cons_zero, List.set_cons_succ])
          refine takeL (i := 5) (v := ?_) rfl (by kernel_rfl) (by kernel_rfl) (by kernel_rfl) (fun _ _ _ h => h) rfl ?_ (by assumption) ?_
          rotate_left
          · intro w hSw; (try dsimp only at hSw); go_simp; (try with_reducible rfl)
          (try simp only [Act.put, List.setIfInBounds_toArray, List.set_cons_zero, List.set_cons_succ])
          refine wpAnyH_done (by kernel_rfl) ?_ _
          clear hHeld kd HSK
          all_goals
            go_wp2_with fail
            go_returns
            exact ⟨_, _, rfl, HF.out, HKF.out⟩
end Go.Proofs.Ythdodlbhkpoadaa
