/- HeapPush: the model. Condition: the list lies in memory. -/
import Derived.Test.YthdodlbhkpoadaaPushX
namespace Go.Proofs.Ythdodlbhkpoadaa
open Go.ChangeShapes Go.WideShapes Go.ChangeAt Go.RowKit Go.Deep
set_option linter.unusedVariables false
attribute [local go_sem ↓] Go.wp_at_zero Go.wp_at_succ

theorem rdBox {W : World} {b : Nat} {x : Sc} (h : BoxAt W b [.int .i64 x.1, .int .i64 x.2]) : RdS W (.slice (some ⟨b, 0, none⟩) 1 1) [x] := by
  refine ⟨rfl, _, 1, rfl, Nat.le_refl _, (fun e => by cases e), .inr ⟨b, 0, rfl, h.1, fun j u hj => ?_⟩⟩
  match j, hj with
  | 0, hj => simp [flS] at hj; subst hj; exact h.2.1 0 _ rfl
  | 1, hj => simp [flS] at hj; subst hj; exact h.2.1 1 _ rfl
  | j + 2, hj => simp [flS] at hj
theorem goodH_snoc {l : List Sc} {x : Sc} : GoodH (l ++ [x]) ↔ GoodH l ∧ l.length ≠ 60 ∧ okSc x 0 10000 = true := by
  have e1 : gd (l ++ [x]) l.length = x := by simp [gd, List.getD]
  constructor
  · rintro ⟨h1, h2⟩
    simp at h1
    refine ⟨⟨by omega, fun i hi => ?_⟩, by omega, ?_⟩
    · have := h2 i (by simp; omega)
      rwa [gd_app _ _ _ hi] at this
    · have := h2 l.length (by simp)
      rwa [e1] at this
  · rintro ⟨⟨h1, h2⟩, h3, h4⟩
    refine ⟨by simp; omega, fun i hi => ?_⟩
    simp at hi
    by_cases e : i = l.length
    · rw [e, e1]; exact h4
    · rw [gd_app _ _ _ (by omega)]; exact h2 i (by omega)
set_option maxHeartbeats 6400000 in
set_option maxRecDepth 100000 in
theorem specHPush (v : Value) (l : List Sc) (x : Sc) (B : Bool) (hB : B = true ↔ PushOk l x) (w : World) (h : RdS w v l) (hl : l.length ≤ 1048576) :
    Calls Try.prog 30 #[v, .agg #[.int .i64 x.1, .int .i64 x.2]] w fun e w' => ∃ qa qc, e = .returned (.tuple #[.slice qa (pushAns B l x).length qc, .bool B]) ∧ OwnH w.heap.size w' (.slice qa (pushAns B l x).length qc) (pushAns B l x) ∧ Below w.heap.size w w' := by
  obtain ⟨W1, hW1⟩ : ∃ W1, W1 = w.alloc (.cells #[.int .i64 x.1, .int .i64 x.2] 33) := ⟨_, rfl⟩
  have k1 : Below w.heap.size w W1 := by rw [hW1]; exact al_ _ _
  have bX : BoxAt W1 w.heap.size [.int .i64 x.1, .int .i64 x.2] := by rw [hW1]; exact boxNew w _ _
  obtain ⟨xb, hxb⟩ : ∃ xb, xb = w.heap.size := ⟨_, rfl⟩
  rw [← hxb] at bX
  have HXB := hid hxb
  have HW1 := hid hW1
  have HB := hid hB
  have HR := hid (h.below k1)
  obtain ⟨Bg, hBg⟩ := bool_of (GoodH (l ++ [x]))
  obtain ⟨Bo, hBo⟩ := bool_of (IsH l)
  obtain ⟨va, vc, rfl⟩ := h.slice
  have HSC := fun v W hW => specHeapB v (l ++ [x]) Bg hBg W hW (by simp; omega)
  have HOR := fun W hW => specIsB (.slice va l.length vc) l Bo hBo W hW (by omega)
  have HPO : Hid (B = true ↔ Bg = true ∧ Bo = true) := by
    show _ ↔ _
    rw [HB.out, hBg, hBo, goodH_snoc]
    exact ⟨fun ⟨a, b, c, d⟩ => ⟨⟨a, c, d⟩, b⟩, fun ⟨⟨a, c, d⟩, b⟩ => ⟨a, b, c, d⟩⟩
  have HK1 := hid k1
  have hlw : xb < W1.heap.size := bX.1
  have b0 := bX.2.1 0 _ rfl
  have b1 := bX.2.1 1 _ rfl
  have bl := bX.1
  have hws : w.heap.size ≤ W1.heap.size := k1.size
  clear h hB hBg hBo hW1 hxb k1 bX
  go_enter Try.func30, Try.ntmps30
  go_upto_region 1 with fail
  rw [← HW1.out, ← HXB.out]
  go_cut [6] (fun t wc => ∃ qa qc, t = .slice qa (l.length + 1) qc ∧ Hid (OwnH W1.heap.size wc (.slice qa (l.length + 1) qc) (l ++ [x])) ∧ Below W1.heap.size W1 wc)
  case first =>
    have HSK : Hid (∀ W, Below W1.heap.size W1 W → (fun w' : World => w'.cell? ⟨xb, 0, none⟩ = some (.int .i64 x.1) ∧ w'.cell? ⟨xb, 1, none⟩ = some (.int .i64 x.2)) W) := fun W hW => ⟨(hW.cell bl).trans b0, (hW.cell bl).trans b1⟩
    have kd : Below W1.heap.size W1 W1.drew := Below.drew (Below.refl _ _)
    have hHeld := HSK.out W1.drew kd
    clear b0 b1
    refine wp_region_heldL (n := 7) (S := fun w' : World => w'.cell? ⟨xb, 0, none⟩ = some (.int .i64 x.1) ∧ w'.cell? ⟨xb, 1, none⟩ = some (.int .i64 x.2)) (by kernel_rfl) rfl ?_
    refine takeL (i := 1) (v := ?_) rfl (by kernel_rfl) (by kernel_rfl) (by kernel_rfl) (fun _ _ _ h => h) rfl ?_ (by assumption) ?_
    rotate_left
    · intro w hSw; (try dsimp only at hSw); go_simp; (try with_reducible rfl)
    (try simp only [Act.put, List.setIfInBounds_toArray, List.set_cons_zero, List.set_cons_succ])
    refine takeL (i := 3) (v := ?_) rfl (by kernel_rfl) (by kernel_rfl) (by kernel_rfl) (fun _ _ _ h => h) rfl ?_ (by assumption) ?_
    rotate_left
    · intro w hSw; (try dsimp only at hSw); go_simp; (try with_reducible rfl)
    (try simp only [Act.put, List.setIfInBounds_toArray, List.set_cons_zero, List.set_cons_succ])
    refine comes2L (i := 0) (j := 4) rfl rfl rfl rfl (by kernel_rfl) (fun K hK => ?_) (fun K hK => ?_)
    · skip
      go_simp
      obtain ⟨eb, heb⟩ : ∃ g, g = W1.heap.size := ⟨_, rfl⟩
      obtain ⟨w1, hw1⟩ : ∃ q, q = (W1.alloc (.cells #[] 33)).drew := ⟨_, rfl⟩
      have bs1 : Below W1.heap.size W1 w1 := by rw [hw1]; exact Below.drew (al_ _ _)
      have k1 : Below W1.heap.size W1 w1 := bs1
      have E1 : Hid (OwnH W1.heap.size w1 (.slice (some ⟨eb, 0, none⟩) 0 0) []) := by rw [hw1, heb]; exact (own0 W1 _ (Nat.le_refl _)).below ((Below.refl _ _).drew)
      rw [← hw1, ← heb]
      clear hw1 heb
      (try dsimp only)
      refine hK.out _ _ (HSK.out w1 k1) (fun hH2 => ?_)
      clear hK K
      replace hHeld := hH2
      clear hH2
      (try simp only [Act.put, List.setIfInBounds_toArray, List.set_cons_zero, List.set_cons_succ])
      refine comes2L (i := 2) (j := 4) rfl rfl rfl rfl (by kernel_rfl) (fun K hK => ?_) (fun K hK => ?_)
      · skip
        refine wpH (.tmp 9) (.tmp 10) 26 Try.underlying26 rfl W1.heap.size _ [] E1.out _ l l.length rfl (HR.out.below k1) (by simp; omega) k1.size rfl rfl ?_
        intro qa qc w2 ho2 hf2 hg2
        simp only [List.length_nil, Nat.zero_add, List.nil_append] at ho2 hg2 ⊢
        have k2 : Below W1.heap.size W1 w2 := k1.trans (hf2.below k1.size (fun g hg => (E1.out.lt g hg).1))
        have A2 := hid ho2
        clear ho2 hf2 hg2
        (try dsimp only)
        refine hK.out _ _ (HSK.out w2 k2) (fun hH2 => ?_)
        clear hK K
        replace hHeld := hH2
        clear hH2
        (try simp only [Act.put, List.setIfInBounds_toArray, List.set_cons_zero, List.set_cons_succ])
        refine comesL (i := 4) rfl rfl (by kernel_rfl) (fun K hK => ?_)
        go_simp
        obtain ⟨nb, hnb⟩ : ∃ g, g = w2.heap.size := ⟨_, rfl⟩
        obtain ⟨w3, hw3⟩ : ∃ q, q = w2.alloc (.cells #[.int .i64 x.1, .int .i64 x.2] 33) := ⟨_, rfl⟩
        have bs3 : Below w2.heap.size w2 w3 := by rw [hw3]; exact al_ _ _
        have k3 : Below W1.heap.size W1 w3 := k2.trans (bs3.mono k2.size)
        have A3 := hid (A2.out.below bs3)
        have N3 : Hid (BoxAt w3 nb [.int .i64 x.1, .int .i64 x.2]) := by rw [hw3, hnb]; exact boxNew w2 _ _
        have hna : nb ∉ hbl (.slice qa l.length qc) := fun hm => by have := (A2.out.lt nb hm).2; omega
        rw [← hw3, ← hnb]
        clear hw3 hnb
        (try dsimp only)
        refine hK.out _ _ (HSK.out w3 k3) (fun hH2 => ?_)
        clear hK K
        replace hHeld := hH2
        clear hH2
        (try simp only [Act.put, List.setIfInBounds_toArray, List.set_cons_zero, List.set_cons_succ])
        refine comesL (i := 5) rfl rfl (by kernel_rfl) (fun K hK => ?_)
        refine wpH (.tmp 11) (.tmp 13) 26 Try.underlying26 rfl W1.heap.size _ l A3.out _ [x] 1 rfl (rdBox N3.out) (by omega) k3.size rfl rfl ?_
        intro qa2 qc2 w4 ho4 hf4 hg4
        have k4 : Below W1.heap.size W1 w4 := k3.trans (hf4.below k3.size (fun g hg => (A3.out.lt g hg).1))
        have Z := hid ho4
        clear ho4 hf4 hg4
        (try dsimp only)
        refine hK.out _ _ (HSK.out w4 k4) (fun hH2 => ?_)
        clear hK K
        replace hHeld := hH2
        clear hH2
        (try simp only [Act.put, List.setIfInBounds_toArray, List.set_cons_zero, List.set_cons_succ])
        refine takeL (i := 6) (v := ?_) rfl (by kernel_rfl) (by kernel_rfl) (by kernel_rfl) (fun _ _ _ h => h) rfl ?_ (by assumption) ?_
        rotate_left
        · intro w hSw; (try dsimp only at hSw); go_simp; (try with_reducible rfl)
        (try simp only [Act.put, List.setIfInBounds_toArray, List.set_cons_zero, List.set_cons_succ])
        refine wpAnyH_done (by kernel_rfl) ?_ _
        clear hHeld HSK
        go_wp2_with fail
        go_meet
        exact ⟨_, _, rfl, Z.out, k4⟩
      · skip
        go_simp
        obtain ⟨nb, hnb⟩ : ∃ g, g = w1.heap.size := ⟨_, rfl⟩
        obtain ⟨w5, hw5⟩ : ∃ q, q = w1.alloc (.cells #[.int .i64 x.1, .int .i64 x.2] 33) := ⟨_, rfl⟩
        have bs5 : Below w1.heap.size w1 w5 := by rw [hw5]; exact al_ _ _
        have k5 : Below W1.heap.size W1 w5 := k1.trans (bs5.mono k1.size)
        have E5 := hid (E1.out.below bs5)
        have N5 : Hid (BoxAt w5 nb [.int .i64 x.1, .int .i64 x.2]) := by rw [hw5, hnb]; exact boxNew w1 _ _
        have hne : nb ≠ eb := by have := (E1.out.lt eb (by simp [hbl, Value.ownBlock])).2; omega
        rw [← hw5, ← hnb]
        clear hw5 hnb
        (try dsimp only)
        refine hK.out _ _ (HSK.out w5 k5) (fun hH2 => ?_)
        clear hK K
        replace hHeld := hH2
        clear hH2
        (try simp only [Act.put, List.setIfInBounds_toArray, List.set_cons_zero, List.set_cons_succ])
        refine comesL (i := 2) rfl rfl (by kernel_rfl) (fun K hK => ?_)
        refine wpH (.tmp 9) (.tmp 10) 26 Try.underlying26 rfl W1.heap.size _ [] E5.out _ l l.length rfl (HR.out.below k5) (by simp; omega) k5.size rfl rfl ?_
        intro qa qc w6 ho6 hf6 hg6
        simp only [List.length_nil, Nat.zero_add, List.nil_append] at ho6 hg6 ⊢
        have k6 : Below W1.heap.size W1 w6 := k5.trans (hf6.below k5.size (fun g hg => (E5.out.lt g hg).1))
        have A6 := hid ho6
        have N6 := hid (N5.out.off hf6 (by simp [hbl, Value.ownBlock]; exact hne))
        have hna : nb ∉ hbl (.slice qa l.length qc) := fun hm => by rcases hg6 nb hm with h9 | h9; (simp [hbl, Value.ownBlock] at h9; exact hne h9); (have := N5.out.1; omega)
        clear ho6 hf6 hg6
        (try dsimp only)
        refine hK.out _ _ (HSK.out w6 k6) (fun hH2 => ?_)
        clear hK K
        replace hHeld := hH2
        clear hH2
        (try simp only [Act.put, List.setIfInBounds_toArray, List.set_cons_zero, List.set_cons_succ])
        refine comesL (i := 5) rfl rfl (by kernel_rfl) (fun K hK => ?_)
        refine wpH (.tmp 11) (.tmp 13) 26 Try.underlying26 rfl W1.heap.size _ l A6.out _ [x] 1 rfl (rdBox N6.out) (by omega) k6.size rfl rfl ?_
        intro qa2 qc2 w7 ho7 hf7 hg7
        have k7 : Below W1.heap.size W1 w7 := k6.trans (hf7.below k6.size (fun g hg => (A6.out.lt g hg).1))
        have Z := hid ho7
        clear ho7 hf7 hg7
        (try dsimp only)
        refine hK.out _ _ (HSK.out w7 k7) (fun hH2 => ?_)
        clear hK K
        replace hHeld := hH2
        clear hH2
        (try simp only [Act.put, List.setIfInBounds_toArray, List.set_cons_zero, List.set_cons_succ])
        refine takeL (i := 6) (v := ?_) rfl (by kernel_rfl) (by kernel_rfl) (by kernel_rfl) (fun _ _ _ h => h) rfl ?_ (by assumption) ?_
        rotate_left
        · intro w hSw; (try dsimp only at hSw); go_simp; (try with_reducible rfl)
        (try simp only [Act.put, List.setIfInBounds_toArray, List.set_cons_zero, List.set_cons_succ])
        refine wpAnyH_done (by kernel_rfl) ?_ _
        clear hHeld HSK
        go_wp2_with fail
        go_meet
        exact ⟨_, _, rfl, Z.out, k7⟩
    · skip
      go_simp
      obtain ⟨nb, hnb⟩ : ∃ g, g = W1.heap.size := ⟨_, rfl⟩
      obtain ⟨w8, hw8⟩ : ∃ q, q = (W1.alloc (.cells #[.int .i64 x.1, .int .i64 x.2] 33)).drew := ⟨_, rfl⟩
      have bs8 : Below W1.heap.size W1 w8 := by rw [hw8]; exact Below.drew (al_ _ _)
      have k8 : Below W1.heap.size W1 w8 := bs8
      have N8 : Hid (BoxAt w8 nb [.int .i64 x.1, .int .i64 x.2]) := by rw [hw8, hnb]; exact (boxNew W1 _ _).below ((Below.refl _ _).drew)
      rw [← hw8, ← hnb]
      clear hw8 hnb
      (try dsimp only)
      refine hK.out _ _ (HSK.out w8 k8) (fun hH2 => ?_)
      clear hK K
      replace hHeld := hH2
      clear hH2
      (try simp only [Act.put, List.setIfInBounds_toArray, List.set_cons_zero, List.set_cons_succ])
      refine comesL (i := 0) rfl rfl (by kernel_rfl) (fun K hK => ?_)
      go_simp
      obtain ⟨eb, heb⟩ : ∃ g, g = w8.heap.size := ⟨_, rfl⟩
      obtain ⟨w9, hw9⟩ : ∃ q, q = w8.alloc (.cells #[] 33) := ⟨_, rfl⟩
      have bs9 : Below w8.heap.size w8 w9 := by rw [hw9]; exact al_ _ _
      have k9 : Below W1.heap.size W1 w9 := k8.trans (bs9.mono k8.size)
      have N9 := hid (N8.out.below bs9)
      have E9 : Hid (OwnH W1.heap.size w9 (.slice (some ⟨eb, 0, none⟩) 0 0) []) := by rw [hw9, heb]; exact own0 w8 _ k8.size
      have hne : nb ≠ eb := by have := N8.out.1; omega
      rw [← hw9, ← heb]
      clear hw9 heb
      (try dsimp only)
      refine hK.out _ _ (HSK.out w9 k9) (fun hH2 => ?_)
      clear hK K
      replace hHeld := hH2
      clear hH2
      (try simp only [Act.put, List.setIfInBounds_toArray, List.set_cons_zero, List.set_cons_succ])
      refine comesL (i := 2) rfl rfl (by kernel_rfl) (fun K hK => ?_)
      refine wpH (.tmp 9) (.tmp 10) 26 Try.underlying26 rfl W1.heap.size _ [] E9.out _ l l.length rfl (HR.out.below k9) (by simp; omega) k9.size rfl rfl ?_
      intro qa qc w10 ho10 hf10 hg10
      simp only [List.length_nil, Nat.zero_add, List.nil_append] at ho10 hg10 ⊢
      have k10 : Below W1.heap.size W1 w10 := k9.trans (hf10.below k9.size (fun g hg => (E9.out.lt g hg).1))
      have A10 := hid ho10
      have N10 := hid (N9.out.off hf10 (by simp [hbl, Value.ownBlock]; exact hne))
      have hna : nb ∉ hbl (.slice qa l.length qc) := fun hm => by rcases hg10 nb hm with h9 | h9; (simp [hbl, Value.ownBlock] at h9; exact hne h9); (have := N9.out.1; omega)
      clear ho10 hf10 hg10
      (try dsimp only)
      refine hK.out _ _ (HSK.out w10 k10) (fun hH2 => ?_)
      clear hK K
      replace hHeld := hH2
      clear hH2
      (try simp only [Act.put, List.setIfInBounds_toArray, List.set_cons_zero, List.set_cons_succ])
      refine comesL (i := 5) rfl rfl (by kernel_rfl) (fun K hK => ?_)
      refine wpH (.tmp 11) (.tmp 13) 26 Try.underlying26 rfl W1.heap.size _ l A10.out _ [x] 1 rfl (rdBox N10.out) (by omega) k10.size rfl rfl ?_
      intro qa2 qc2 w11 ho11 hf11 hg11
      have k11 : Below W1.heap.size W1 w11 := k10.trans (hf11.below k10.size (fun g hg => (A10.out.lt g hg).1))
      have Z := hid ho11
      clear ho11 hf11 hg11
      (try dsimp only)
      refine hK.out _ _ (HSK.out w11 k11) (fun hH2 => ?_)
      clear hK K
      replace hHeld := hH2
      clear hH2
      (try simp only [Act.put, List.setIfInBounds_toArray, List.set_cons_zero, List.set_cons_succ])
      refine takeL (i := 6) (v := ?_) rfl (by kernel_rfl) (by kernel_rfl) (by kernel_rfl) (fun _ _ _ h => h) rfl ?_ (by assumption) ?_
      rotate_left
      · intro w hSw; (try dsimp only at hSw); go_simp; (try with_reducible rfl)
      (try simp only [Act.put, List.setIfInBounds_toArray, List.set_cons_zero, List.set_cons_succ])
      refine wpAnyH_done (by kernel_rfl) ?_ _
      clear hHeld HSK
      go_wp2_with fail
      go_meet
      exact ⟨_, _, rfl, Z.out, k11⟩
  case rest =>
    obtain ⟨qa, qc, rfl, HO, kc⟩ := hcut
    have HRC := hid (HR.out.below kc)
    have HKC : Hid (Below w.heap.size w wc) := HK1.out.trans (kc.mono hws)
    have hbs : W1.heap.size ≤ wc.heap.size := kc.size
    clear kc HR b0 b1 bl
    go_wp2_with fail
    refine (HSC _ _ HO.out.at).mono ?_
    rintro e w2 ⟨rfl, hb2⟩
    have HO2 := hid (HO.out.below hb2)
    have HR2 := hid (HRC.out.below hb2)
    have HK2 := hid (HKC.out.trans (hb2.mono HKC.out.size))
    clear hb2 HO HRC HKC HSC
    cases Bg with
    | false =>
      have HF : Hid (B = false) := bool_no HPO.out (fun hh => by cases hh.1)
      have HPA : Hid (pushAns B l x = []) := by show _ = _; rw [HF.out]; rfl
      go_wp2
      go_returns
      refine ⟨none, 0, ?_, ?_, HK2.out⟩
      · rw [HPA.out, HF.out]; rfl
      · rw [HPA.out]; exact OwnH.nil _ _
    | true =>
      go_wp2_with fail
      refine (HOR _ HR2.out.at).mono ?_
      rintro e w3 ⟨rfl, hb3⟩
      have HO3 := hid (HO2.out.below hb3)
      have HK3 := hid (HK2.out.trans (hb3.mono HK2.out.size))
      clear hb3 HO2 HR2 HK2 HOR
      cases Bo with
      | false =>
        have HF : Hid (B = false) := bool_no HPO.out (fun hh => by cases hh.2)
        have HPA : Hid (pushAns B l x = []) := by show _ = _; rw [HF.out]; rfl
        go_wp2
        go_returns
        refine ⟨none, 0, ?_, ?_, HK3.out⟩
        · rw [HPA.out, HF.out]; rfl
        · rw [HPA.out]; exact OwnH.nil _ _
      | true =>
        have HT : Hid (B = true) := HPO.out.2 (by first | exact ⟨rfl, rfl⟩ | trivial | simp)
        have HPA : Hid (pushAns B l x = pushL l x) := by show _ = _; rw [HT.out]; rfl
        obtain ⟨g, cap, hge, hg0, hg1⟩ := HO3.out.lies (by simp)
        rw [show (l ++ [x]).length = l.length + 1 by simp] at hge
        cases hge
        have hn1 : ((l.length : Int) + 1) - 1 = (l.length : Int) := by omega
        go_wp2
        go_loopw [7] (fun kk wr => ∃ (K : Nat) (L : List Sc), kk = .int .i64 K ∧ K < l.length + 1 ∧ L.length = l.length + 1 ∧ Hid (OwnH W1.heap.size wr (.slice (some ⟨g, 0, none⟩) (l.length + 1) qc) L) ∧ Hid (Below w.heap.size w wr) ∧ Hid (riseL L K = pushL l x)) (fun kk _ => (intOf kk).toNat)
        case atStart => exact ⟨l.length, l ++ [x], rfl, by omega, by simp, HO3.out, HK3.out, rfl⟩
        case round =>
          obtain ⟨K, L, rfl, hK, hLl, HL, HKR, HRI⟩ := hrel
          clear HO3 HK3
          have hgl := HL.out.lt1.2
          have hgw := HL.out.lt1.1
          have hgww : w.heap.size ≤ g := by omega
          by_cases hk0 : 0 < K
          · have hki : (0 : Int) < (K : Int) := by omega
            have hkd : decide ((0 : Int) < (K : Int)) = true := decide_eq_true hki
            have hkd2 : decide (0 < K) = true := decide_eq_true hk0
            obtain ⟨J, hJ⟩ : ∃ J, J = (K - 1) / 2 := ⟨_, rfl⟩
            have hJK : J < K := by omega
            have c0 := HL.out.c0 (k := K) (by omega)
            have c1 := HL.out.c1 (k := K) (by omega)
            have d0 := HL.out.c0 (k := J) (by omega)
            have d1 := HL.out.c1 (k := J) (by omega)
            have hKl : (K : Int) < (l.length : Int) + 1 := by omega
            have hKl2 : (K : Int) < ((l.length + 1 : Nat) : Int) := by omega
            have hK0 : (0 : Int) ≤ (K : Int) := by omega
            have hJl : (J : Int) < (l.length : Int) + 1 := by omega
            have hJl2 : (J : Int) < ((l.length + 1 : Nat) : Int) := by omega
            have hJ0 : (0 : Int) ≤ (J : Int) := by omega
            have hdd : ((K : Int) - 1) / 2 = (J : Int) := by omega
            have hd2 : Int.tdiv ((K : Int) - 1) 2 = (J : Int) := by rw [Int.tdiv_eq_ediv_of_nonneg (by omega)]; omega
            have hkm : (0 : Int) ≤ (K : Int) - 1 := by omega
            have hkw1 : IntKind.i64.wrap ((K : Int) - 1) = (K : Int) - 1 := by rw [IntKind.wrap_i64]; omega
            have hkw2 : IntKind.i64.wrap (J : Int) = (J : Int) := by rw [IntKind.wrap_i64]; omega
            have HBT := fun W => specBet (gd L K) (gd L J) W
            obtain ⟨C, hC⟩ : ∃ C, C = bet (gd L K) (gd L J) := ⟨_, rfl⟩
            rw [← hC] at HBT
            have HNO : Hid (C = false → riseL L K = L) := fun hb => rise_no (fun hh => by rw [← hJ, ← hC, hb] at hh; exact absurd hh.2 (by simp))
            have HYS : Hid (C = true → riseL L K = riseL (sw L K J) J) := fun hb => by
              rw [hJ]
              exact rise_yes hk0 (by rw [← hJ, ← hC]; exact hb)
            have HSW : Hid (∀ W, OwnH W1.heap.size W (.slice (some ⟨g, 0, none⟩) (l.length + 1) qc) L → OwnH W1.heap.size (putC (putC W g K (gd L J)) g J (gd L K)) (.slice (some ⟨g, 0, none⟩) (l.length + 1) qc) (sw L K J)) := fun W hW => (hW.put K (gd L J)).put J (gd L K)
            have HLP : Hid (∀ W, OwnH W1.heap.size W (.slice (some ⟨g, 0, none⟩) (l.length + 1) qc) L → OwnH W1.heap.size (putC W g K (gd L J)) (.slice (some ⟨g, 0, none⟩) (l.length + 1) qc) (L.set K (gd L J))) := fun W hW => hW.put K (gd L J)
            clear hC hJ
            obtain ⟨u, hu⟩ : ∃ u, u = gd L K := ⟨_, rfl⟩
            obtain ⟨y, hy⟩ : ∃ y, y = gd L J := ⟨_, rfl⟩
            rw [← hu] at c0 c1 HBT HSW
            rw [← hy] at d0 d1 HBT HSW HLP
            have HU := hid hu
            have HY := hid hy
            clear hu hy
            go_upto_region 5 with fail
            have HSK : Hid (∀ W, Below wr.heap.size wr W → (fun w' : World => (w'.cell? ⟨g, K * 2, none⟩ = some (.int .i64 u.1) ∧ w'.cell? ⟨g, K * 2 + 1, none⟩ = some (.int .i64 u.2)) ∧ w'.cell? ⟨g, J * 2, none⟩ = some (.int .i64 y.1) ∧ w'.cell? ⟨g, J * 2 + 1, none⟩ = some (.int .i64 y.2)) W) := fun W hW => ⟨⟨(hW.cell hgl).trans c0, (hW.cell hgl).trans c1⟩, (hW.cell hgl).trans d0, (hW.cell hgl).trans d1⟩
            have kd : Below wr.heap.size wr wr.drew := Below.drew (Below.refl _ _)
            have hHeld := HSK.out wr.drew kd
            refine wp_region_heldL (n := 15) (S := fun w' : World => (w'.cell? ⟨g, K * 2, none⟩ = some (.int .i64 u.1) ∧ w'.cell? ⟨g, K * 2 + 1, none⟩ = some (.int .i64 u.2)) ∧ w'.cell? ⟨g, J * 2, none⟩ = some (.int .i64 y.1) ∧ w'.cell? ⟨g, J * 2 + 1, none⟩ = some (.int .i64 y.2)) (by kernel_rfl) rfl ?_
            refine takeL (i := 0) (v := ?_) rfl (by kernel_rfl) (by kernel_rfl) (by kernel_rfl) (fun _ _ _ h => h) rfl ?_ (by assumption) ?_
            rotate_left
            · intro w hSw; (try dsimp only at hSw); go_simp; (try with_reducible rfl)
            (try simp only [Act.put, List.setIfInBounds_toArray, List.set_cons_zero, List.set_cons_succ])
            refine takeL (i := 1) (v := ?_) rfl (by kernel_rfl) (by kernel_rfl) (by kernel_rfl) (fun _ _ _ h => h) rfl ?_ (by assumption) ?_
            rotate_left
            · intro w hSw; (try dsimp only at hSw); go_simp; (try with_reducible rfl)
            (try simp only [Act.put, List.setIfInBounds_toArray, List.set_cons_zero, List.set_cons_succ])
            refine takeL (i := 2) (v := ?_) rfl (by kernel_rfl) (by kernel_rfl) (by kernel_rfl) (fun _ _ _ h => h) rfl ?_ (by assumption) ?_
            rotate_left
            · intro w hSw; (try dsimp only at hSw); go_simp; (try with_reducible rfl)
            (try simp only [Act.put, List.setIfInBounds_toArray, List.set_cons_zero, List.set_cons_succ])
            refine takeW (i := 3) (v := ?_) rfl (by kernel_rfl) (by kernel_rfl) (by kernel_rfl) (fun _ _ _ h => h) (by kernel_rfl) ?_ (by assumption) ?_
            rotate_left
            · intro w hSw; (try dsimp only at hSw); go_simp; (try with_reducible rfl)
            (try simp only [Act.put, List.setIfInBounds_toArray, List.set_cons_zero, List.set_cons_succ])
            refine takeW (i := 4) (v := ?_) rfl (by kernel_rfl) (by kernel_rfl) (by kernel_rfl) (fun _ _ _ h => h) (by kernel_rfl) ?_ (by assumption) ?_
            rotate_left
            · intro w hSw; (try dsimp only at hSw); go_simp; (try with_reducible rfl)
            (try simp only [Act.put, List.setIfInBounds_toArray, List.set_cons_zero, List.set_cons_succ])
            refine takeW (i := 5) (v := ?_) rfl (by kernel_rfl) (by kernel_rfl) (by kernel_rfl) (fun _ _ _ h => h) (by kernel_rfl) ?_ (by assumption) ?_
            rotate_left
            · intro w hSw; (try dsimp only at hSw); go_simp; (try with_reducible rfl)
            (try simp only [Act.put, List.setIfInBounds_toArray, List.set_cons_zero, List.set_cons_succ])
            refine takeW (i := 6) (v := ?_) rfl (by kernel_rfl) (by kernel_rfl) (by kernel_rfl) (fun _ _ _ h => h) (by kernel_rfl) ?_ (by assumption) ?_
            rotate_left
            · intro w hSw; (try dsimp only at hSw); go_simp; (try with_reducible rfl)
            (try simp only [Act.put, List.setIfInBounds_toArray, List.set_cons_zero, List.set_cons_succ])
            refine takeW (i := 7) (v := ?_) rfl (by kernel_rfl) (by kernel_rfl) (by kernel_rfl) (fun _ _ _ h => h) (by kernel_rfl) ?_ (by assumption) ?_
            rotate_left
            · intro w hSw; (try dsimp only at hSw); go_simp; (try with_reducible rfl)
            (try simp only [Act.put, List.setIfInBounds_toArray, List.set_cons_zero, List.set_cons_succ])
            refine takeW (i := 8) (v := ?_) rfl (by kernel_rfl) (by kernel_rfl) (by kernel_rfl) (fun _ _ _ h => h) (by kernel_rfl) ?_ (by assumption) ?_
            rotate_left
            · intro w hSw; (try dsimp only at hSw); go_simp; (try with_reducible rfl)
            (try simp only [Act.put, List.setIfInBounds_toArray, List.set_cons_zero, List.set_cons_succ])
            refine takeW (i := 9) (v := ?_) rfl (by kernel_rfl) (by kernel_rfl) (by kernel_rfl) (fun _ _ _ h => h) (by kernel_rfl) ?_ (by assumption) ?_
            rotate_left
            · intro w hSw; (try dsimp only at hSw); go_simp; (try with_reducible rfl)
            (try simp only [Act.put, List.setIfInBounds_toArray, List.set_cons_zero, List.set_cons_succ])
            refine takeW (i := 10) (v := ?_) rfl (by kernel_rfl) (by kernel_rfl) (by kernel_rfl) (fun _ _ _ h => h) (by kernel_rfl) ?_ (by assumption) ?_
            rotate_left
            · intro w hSw; (try dsimp only at hSw); go_simp; (try with_reducible rfl)
            (try simp only [Act.put, List.setIfInBounds_toArray, List.set_cons_zero, List.set_cons_succ])
            refine takeW (i := 11) (v := ?_) rfl (by kernel_rfl) (by kernel_rfl) (by kernel_rfl) (fun _ _ _ h => h) (by kernel_rfl) ?_ (by assumption) ?_
            rotate_left
            · intro w hSw; (try dsimp only at hSw); go_simp; (try with_reducible rfl)
            (try simp only [Act.put, List.setIfInBounds_toArray, List.set_cons_zero, List.set_cons_succ])
            refine takeW (i := 12) (v := ?_) rfl (by kernel_rfl) (by kernel_rfl) (by kernel_rfl) (fun _ _ _ h => h) (by kernel_rfl) ?_ (by assumption) ?_
            rotate_left
            · intro w hSw; (try dsimp only at hSw); go_simp; (try with_reducible rfl)
            (try simp only [Act.put, List.setIfInBounds_toArray, List.set_cons_zero, List.set_cons_succ])
            refine comesW (i := 13) rfl (by kernel_rfl) (by kernel_rfl) (fun K hK => ?_)
            go_simp
            refine (HBT _).mono ?_
            rintro e w5 ⟨rfl, hx⟩
            have mw5 : Below wr.heap.size wr w5 := kd.trans (hx.mono kd.size)
            clear hx
            (try dsimp only)
            refine hK.out _ _ (HSK.out w5 mw5) (fun hH2 => ?_)
            clear hK K
            replace hHeld := hH2
            clear hH2
            (try simp only [Act.put, List.setIfInBounds_toArray, List.set_cons_zero, List.set_cons_succ])
            refine takeL (i := 14) (v := ?_) rfl (by kernel_rfl) (by kernel_rfl) (by kernel_rfl) (fun _ _ _ h => h) rfl ?_ (by assumption) ?_
            rotate_left
            · intro w hSw; (try dsimp only at hSw); go_simp; (try with_reducible rfl)
            (try simp only [Act.put, List.setIfInBounds_toArray, List.set_cons_zero, List.set_cons_succ])
            refine wpAnyH_done (by kernel_rfl) ?_ _
            clear hHeld kd HSK
            all_goals
              have HL5 := hid (HL.out.below mw5)
              have HK5 := hid (HKR.out.trans (mw5.mono HKR.out.size))
              clear c0 c1 d0 d1 mw5 HL HKR
              cases C with
              | false =>
                have HF := hid (HNO.out rfl)
                have HFIN : Hid (OwnH w.heap.size w5 (.slice (some ⟨g, 0, none⟩) (l.length + 1) qc) (pushL l x)) := by
                  show OwnH _ _ _ _
                  rw [← HRI.out, HF.out]
                  exact HL5.out.mono hws
                go_wp2_with fail
                go_returns
                refine ⟨some ⟨g, 0, none⟩, qc, ?_, ?_, HK5.out⟩
                · rw [HPA.out, HT.out, push_len]; rfl
                · rw [HPA.out, push_len]; exact HFIN.out
              | true =>
                have HF := hid (HYS.out rfl)
                have hgl5 := HL5.out.lt1.2
                have c0 : w5.cell? ⟨g, K * 2, none⟩ = some (.int .i64 u.1) := by rw [HU.out]; exact HL5.out.c0 (by omega)
                have c1 : w5.cell? ⟨g, K * 2 + 1, none⟩ = some (.int .i64 u.2) := by rw [HU.out]; exact HL5.out.c1 (by omega)
                have d0 : w5.cell? ⟨g, J * 2, none⟩ = some (.int .i64 y.1) := by rw [HY.out]; exact HL5.out.c0 (by omega)
                have d1 : w5.cell? ⟨g, J * 2 + 1, none⟩ = some (.int .i64 y.2) := by rw [HY.out]; exact HL5.out.c1 (by omega)
                have f0 := HL5.out.fz (K * 2)
                have f1 := HL5.out.fz (K * 2 + 1)
                have f2 := HL5.out.fz (J * 2)
                have f3 := HL5.out.fz (J * 2 + 1)
                have HFIN := hid (HSW.out _ HL5.out)
                have HLP5 := HLP.out _ HL5.out
                have z0 := HLP5.c0 (k := J) (by simp; omega)
                have z1 := HLP5.c1 (k := J) (by simp; omega)
                have HKF : Hid (Below w.heap.size w (putC (putC w5 g K y) g J u)) := HK5.out.trans (((putC_off w5 g K y).trans (putC_off _ g J u)).below HK5.out.size (fun q hq => by simp at hq; omega))
                generalize gd (L.set K (gd L J)) J = ww at z0 z1
                unfold putC at HFIN HKF z0 z1
                have hnJK : J * 2 ≠ K * 2 := by omega
                have hnJK1 : J * 2 ≠ K * 2 + 1 := by omega
                have hnJK2 : J * 2 + 1 ≠ K * 2 := by omega
                have hnJK3 : J * 2 + 1 ≠ K * 2 + 1 := by omega
                clear HLP5 HL5 HK5 z0 z1
                go_wp2_with fail
                refine ⟨⟨J, sw L K J, rfl, by omega, by rw [sw_len]; exact hLl, HFIN.out.below (by go_grown), HKF.out.trans ((al_ _ _).mono HKF.out.size), by rw [← HF.out]; exact HRI.out⟩, by simp [intOf]; omega⟩
          · have hk1 : K = 0 := by omega
            subst hk1
            have HFIN : Hid (OwnH w.heap.size wr (.slice (some ⟨g, 0, none⟩) (l.length + 1) qc) (pushL l x)) := by
              show OwnH _ _ _ _
              rw [← HRI.out, rise_no (fun hh => by omega)]
              exact HL.out.mono hws
            have hX : True := trivial
            go_upto_region 5 with fail
            have HSK : Hid (∀ W, Below wr.heap.size wr W → (fun w' : World => True) W) := fun W hW => trivial
            have kd : Below wr.heap.size wr wr.drew := Below.drew (Below.refl _ _)
            have hHeld := HSK.out wr.drew kd
            refine wp_region_heldL (n := 15) (S := fun w' : World => True) (by kernel_rfl) rfl ?_
            refine takeL (i := 0) (v := ?_) rfl (by kernel_rfl) (by kernel_rfl) (by kernel_rfl) (fun _ _ _ h => h) rfl ?_ (by assumption) ?_
            rotate_left
            · intro w hSw; (try dsimp only at hSw); go_simp; (try with_reducible rfl)
            (try simp only [Act.put, List.setIfInBounds_toArray, List.set_cons_zero, List.set_cons_succ])
            refine takeL (i := 1) (v := ?_) rfl (by kernel_rfl) (by kernel_rfl) (by kernel_rfl) (fun _ _ _ h => h) rfl ?_ (by assumption) ?_
            rotate_left
            · intro w hSw; (try dsimp only at hSw); go_simp; (try with_reducible rfl)
            (try simp only [Act.put, List.setIfInBounds_toArray, List.set_cons_zero, List.set_cons_succ])
            refine takeL (i := 2) (v := ?_) rfl (by kernel_rfl) (by kernel_rfl) (by kernel_rfl) (fun _ _ _ h => h) rfl ?_ (by assumption) ?_
            rotate_left
            · intro w hSw; (try dsimp only at hSw); go_simp; (try with_reducible rfl)
            (try simp only [Act.put, List.setIfInBounds_toArray, List.set_cons_zero, List.set_cons_succ])
            refine skipL (i := 3) rfl (by kernel_rfl) (by kernel_rfl) (by kernel_rfl) (fun _ _ _ h => h) (by kernel_rfl) (by assumption) ?_
            (try simp only [Act.put, List.setIfInBounds_toArray, List.set_cons_zero, List.set_cons_succ])
            refine skipL (i := 4) rfl (by kernel_rfl) (by kernel_rfl) (by kernel_rfl) (fun _ _ _ h => h) (by kernel_rfl) (by assumption) ?_
            (try simp only [Act.put, List.setIfInBounds_toArray, List.set_cons_zero, List.set_cons_succ])
            refine skipL (i := 5) rfl (by kernel_rfl) (by kernel_rfl) (by kernel_rfl) (fun _ _ _ h => h) (by kernel_rfl) (by assumption) ?_
            (try simp only [Act.put, List.setIfInBounds_toArray, List.set_cons_zero, List.set_cons_succ])
            refine skipL (i := 6) rfl (by kernel_rfl) (by kernel_rfl) (by kernel_rfl) (fun _ _ _ h => h) (by kernel_rfl) (by assumption) ?_
            (try simp only [Act.put, List.setIfInBounds_toArray, List.set_cons_zero, List.set_cons_succ])
            refine skipL (i := 7) rfl (by kernel_rfl) (by kernel_rfl) (by kernel_rfl) (fun _ _ _ h => h) (by kernel_rfl) (by assumption) ?_
            (try simp only [Act.put, List.setIfInBounds_toArray, List.set_cons_zero, List.set_cons_succ])
            refine skipL (i := 8) rfl (by kernel_rfl) (by kernel_rfl) (by kernel_rfl) (fun _ _ _ h => h) (by kernel_rfl) (by assumption) ?_
            (try simp only [Act.put, List.setIfInBounds_toArray, List.set_cons_zero, List.set_cons_succ])
            refine skipL (i := 9) rfl (by kernel_rfl) (by kernel_rfl) (by kernel_rfl) (fun _ _ _ h => h) (by kernel_rfl) (by assumption) ?_
            (try simp only [Act.put, List.setIfInBounds_toArray, List.set_cons_zero, List.set_cons_succ])
            refine skipL (i := 10) rfl (by kernel_rfl) (by kernel_rfl) (by kernel_rfl) (fun _ _ _ h => h) (by kernel_rfl) (by assumption) ?_
            (try simp only [Act.put, List.setIfInBounds_toArray, List.set_cons_zero, List.set_cons_succ])
            refine skipL (i := 11) rfl (by kernel_rfl) (by kernel_rfl) (by kernel_rfl) (fun _ _ _ h => h) (by kernel_rfl) (by assumption) ?_
            (try simp only [Act.put, List.setIfInBounds_toArray, List.set_cons_zero, List.set_cons_succ])
            refine skipL (i := 12) rfl (by kernel_rfl) (by kernel_rfl) (by kernel_rfl) (fun _ _ _ h => h) (by kernel_rfl) (by assumption) ?_
            (try simp only [Act.put, List.setIfInBounds_toArray, List.set_cons_zero, List.set_cons_succ])
            refine skipL (i := 13) rfl (by kernel_rfl) (by kernel_rfl) (by kernel_rfl) (fun _ _ _ h => h) (by kernel_rfl) (by assumption) ?_
            (try simp only [Act.put, List.setIfInBounds_toArray, List.set_cons_zero, List.set_cons_succ])
            refine takeL (i := 14) (v := ?_) rfl (by kernel_rfl) (by kernel_rfl) (by kernel_rfl) (fun _ _ _ h => h) rfl ?_ (by assumption) ?_
            rotate_left
            · intro w hSw; (try dsimp only at hSw); go_simp; (try with_reducible rfl)
            (try simp only [Act.put, List.setIfInBounds_toArray, List.set_cons_zero, List.set_cons_succ])
            refine wpAnyH_done (by kernel_rfl) ?_ _
            clear hHeld kd HSK
            all_goals
              go_wp2_with fail
              go_returns
              refine ⟨some ⟨g, 0, none⟩, qc, ?_, ?_, HKR.out.trans (((Below.refl _ _).drew).mono HKR.out.size)⟩
              · rw [HPA.out, HT.out, push_len]; rfl
              · rw [HPA.out, push_len]; exact HFIN.out.below ((Below.refl _ _).drew)
end Go.Proofs.Ythdodlbhkpoadaa
