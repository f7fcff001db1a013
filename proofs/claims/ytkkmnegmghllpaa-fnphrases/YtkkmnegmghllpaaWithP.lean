/- Contract of the program's method that takes one place more. Condition: the posts are the call's own, within small bounds. -/
import Derived.Test.YtkkmnegmghllpaaGrX
namespace Go.Proofs.Ytkkmnegmghllpaa
open Go.ChangeShapes Go.WideShapes Go.ChangeAt Go.RowKit Go.Deep
set_option linter.unusedVariables false
attribute [local go_sem ↓] Go.wp_at_zero Go.wp_at_succ

set_option maxHeartbeats 12800000 in
set_option maxRecDepth 100000 in
theorem withOld (base d t p : Nat) (v pv : Value) (qs : List Po) (us : List Value) (l : List Int) (w : World) (h : GrP base w v (qs ++ [((d : Int), l)]) (us ++ [pv])) (hb : base ≤ w.heap.size)
    (h1 : qs.length ≤ 1000) (h2 : l.length ≤ 1000) (h3 : t ≤ 1000000) (h4 : p ≤ 1000) (h5 : d ≤ 1000) :
    Calls Try.prog 81 #[.agg #[v, .int .i64 (t : Int)], .int .i64 (d : Int), .int .i64 (p : Int)] w fun e w' =>
      (∃ v' vs', e = .returned (.agg #[v', .int .i64 ((t : Int) + 1)]) ∧ GrP base w' v' (qs ++ [((d : Int), l ++ [(p : Int)])]) vs' ∧ ∀ x ∈ fpG v' vs', x ∈ fpG v (us ++ [pv]) ∨ w.heap.size ≤ x) ∧ Off (fpG v (us ++ [pv])) w w' := by
  obtain ⟨i0, hi, hzz⟩ := Option.map_eq_some_iff.1 infoIn2
  simp only [Prod.mk.injEq] at hzz
  obtain ⟨hz0, hz1, hz2⟩ := hzz
  obtain ⟨FP, hFPe⟩ : ∃ FP, FP = fpG v (us ++ [pv]) := ⟨_, rfl⟩
  rw [← hFPe]
  obtain ⟨W2, hW2⟩ : ∃ W2, W2 = (w.alloc (.cells #[v, .int .i64 (t : Int)] 77)).alloc (.cells #[.slice none 0 0, .int .i64 0] 77) := ⟨_, rfl⟩
  have kb0 : Below w.heap.size w W2 := by rw [hW2]; exact ((Below.refl _ _).alloc (Nat.le_refl _) _).alloc (by simp) _
  have bx : BoxAt W2 w.heap.size [v, .int .i64 (t : Int)] ∧ BoxAt W2 (w.heap.size + 1) [.slice none 0 0, .int .i64 0] := by rw [hW2]; exact boxOf2 (Below.refl _ _)
  obtain ⟨wb, hwb⟩ : ∃ wb, wb = w.heap.size := ⟨_, rfl⟩
  obtain ⟨rb, hrb⟩ : ∃ rb, rb = wb + 1 := ⟨_, rfl⟩
  have hwr : wb ≠ rb := by omega
  have HB1 : Hid (BoxAt W2 wb [v, .int .i64 (t : Int)]) := by rw [hwb]; exact bx.1
  have HB2 : Hid (BoxAt W2 rb [.slice none 0 0, .int .i64 0]) := by rw [hrb, hwb]; exact bx.2
  have GT : Hid (GrP base W2 v (qs ++ [((d : Int), l)]) (us ++ [pv])) := h.below kb0
  have HNE : Hid (∀ y ∈ fpG v (us ++ [pv]), y ≠ wb ∧ y ≠ rb) := fun y hy => by have := (h.lt y hy).2; omega
  have HFP : Hid (∀ y ∈ fpG v (us ++ [pv]), y ∈ FP ∨ w.heap.size ≤ y) := fun y hy => .inl (by rw [hFPe]; exact hy)
  have HOF : Hid (Off FP w W2) := Off.of kb0
  have HWR : Hid (w.heap.size ≤ wb ∧ w.heap.size ≤ rb) := by show _ ∧ _; omega
  obtain ⟨g, cap, hve, hgl, c0, c1, z0, z1⟩ := GT.out.last
  subst hve
  have bw0 := HB1.out.2.1 0 _ rfl
  have bwl := HB1.out.1
  have hqw : IntKind.i64.wrap ((qs.length : Int)) = (qs.length : Int) := by rw [IntKind.wrap_i64]; omega
  have hqs : (qs.length : Int) + 1 - 1 = (qs.length : Int) := by omega
  have hq0 : (0 : Int) ≤ (qs.length : Int) := by omega
  have hn0 : (((qs.length : Int) + 1) == 0) = false := by simp; omega
  have hdd : ((d : Int) != (d : Int)) = false := by simp
  clear h bx kb0 hFPe
  go_enter Try.func81, Try.ntmps81
  go_upto_region 1 with fail
  rw [← hW2, ← hwb, ← hrb]
  clear hW2 hwb hrb
  go_upto_region 3 with fail
  clear c0 c1 z0 z1 bw0 bwl hqw hqs hq0 hn0 hdd hgl
  -- GT: the list with its last post; HB1, HB2: the boxes; HOF: all but FP as it was; HNE, HFP: where its blocks lie
  obtain ⟨g', cap', hve, hgl, c0, c1, z0, z1⟩ := GT.out.last
  simp only [Value.slice.injEq, Option.some.injEq, Addr.mk.injEq, and_true, true_and] at hve
  obtain ⟨rfl, rfl⟩ := hve
  have bw0 := HB1.out.2.1 0 _ rfl
  have bw1 := HB1.out.2.1 1 _ rfl
  have bwl := HB1.out.1
  have hqw : IntKind.i64.wrap ((qs.length : Int)) = (qs.length : Int) := by rw [IntKind.wrap_i64]; omega
  have hqs : (qs.length : Int) + 1 - 1 = (qs.length : Int) := by omega
  have hq0 : (0 : Int) ≤ (qs.length : Int) := by omega
  have HOP := hid GT.out.lastOwn
  obtain ⟨pa, pc, hpe⟩ := (rows_of_ownS HOP.out).slice
  subst hpe
  have how := HOP.out
  have HML := hid GT.out.lastMem
  have hbW : base ≤ W2.heap.size := Nat.le_trans hb HOF.out.size
  have hWB : wb < W2.heap.size ∧ rb < W2.heap.size := ⟨HB1.out.1, HB2.out.1⟩
  go_wp2_with (first | (at_builtin; refine wplS rfl _ _ 37 rfl base 3 i0 (.int .i64 0) 8 Try.underlying37 hi hz0 hz1 hz2 rfl _ _ _ rfl (how.alloc _) _ 1 [.int .i64 (p : Int)] rfl (news1 _ _ _) ?c1 ?c2 ?c3 ?c4 ?_) | fail)
  case c1 => first | rfl | (intro u hu; simp at hu; subst hu; rfl)
  case c2 => unfold maxLen; omega
  case c3 => omega
  case c4 => first | omega | (simp; omega)
  intro x1 w4 ho1 hg1 he1
  have hWa : Below W2.heap.size W2 (W2.alloc (.cells #[.int .i64 (p : Int)] 3)) := (Below.refl _ _).alloc (Nat.le_refl _) _
  have hWas : (W2.alloc (.cells #[.int .i64 (p : Int)] 3)).heap.size = W2.heap.size + 1 := by simp
  have ho2 : OwnS w4 base 3 x1 (l ++ [(p : Int)]).length (intsV (l ++ [(p : Int)])) := by simpa [intsV] using ho1
  have GF := GrP.setLast GT.out hWa ho2 hg1 (fun y hy => by simpa using he1 y hy)
  have HB3 := (HB1.out.below hWa).offG hg1 (fun hm => (HNE.out _ (HML.out _ hm)).1 rfl)
  have HB4 := (HB2.out.below hWa).offG hg1 (fun hm => (HNE.out _ (HML.out _ hm)).2 rfl)
  obtain ⟨e0, y0, ge0⟩ := GT.out.lastKeep hWa hg1
  have hgw : g ≠ wb ∧ g ≠ rb := HNE.out g (mem_fpG.2 (.inl rfl))
  have HB5 := HB3.offG (offset1 w4 g (qs.length * 2 + 1) x1) (by simp; exact fun e => hgw.1 e.symm)
  have HB6 := HB4.offG (offset1 w4 g (qs.length * 2 + 1) x1) (by simp; exact fun e => hgw.2 e.symm)
  have hmem : ∀ y ∈ fpG (.slice (some ⟨g, 0, none⟩) (qs.length + 1) cap) (us ++ [x1]), y ∈ fpG (.slice (some ⟨g, 0, none⟩) (qs.length + 1) cap) (us ++ [.slice pa l.length pc]) ∨ W2.heap.size + 1 ≤ y := fun y hy => by
    rcases mem_fpG.1 hy with h1 | ⟨i, hi, h1⟩
    · exact .inl (mem_fpG.2 (.inl h1))
    · rw [getD_snocV] at h1
      split at h1
      · rcases he1 y h1 with h2 | h2
        · exact .inl (HML.out y h2)
        · exact .inr (by simpa using h2)
      · rename_i hne
        split at h1
        · rename_i hlt
          exact .inl (mem_fpG.2 (.inr ⟨i, by simp; omega, by rw [getD_snocV, if_neg hne, if_pos hlt]; exact h1⟩))
        · cases h1
  have HNE2 : ∀ y ∈ fpG (.slice (some ⟨g, 0, none⟩) (qs.length + 1) cap) (us ++ [x1]), y ≠ wb ∧ y ≠ rb := fun y hy => by
    rcases hmem y hy with h1 | h1
    · exact HNE.out y h1
    · omega
  have HFP2 := hid (fun y (hy : y ∈ fpG (.slice (some ⟨g, 0, none⟩) (qs.length + 1) cap) (us ++ [x1])) => (show y ∈ FP ∨ w.heap.size ≤ y by
    rcases hmem y hy with h1 | h1
    · exact HFP.out y h1
    · have := HOF.out.size; exact .inr (by omega)))
  have hsz2 := HOF.out.size
  have hof4 : Off (FP ++ obl (.slice pa l.length pc) ++ [g]) w (w4.setCell ⟨g, qs.length * 2 + 1, none⟩ x1) :=
    (((off_below HOF.out hWa).mono (fun y hy => .inl (by simp [hy]))).trans (hg1.mono (fun y hy => .inl (by simp [hy])))).trans ((offset1 _ _ _ _).mono (fun y hy => .inl (by simp at hy; simp [hy])))
  have HOF5 : Hid (Off FP w (w4.setCell ⟨g, qs.length * 2 + 1, none⟩ x1)) := hof4.mono (fun y hy => by
    simp only [List.mem_append, List.mem_singleton] at hy
    rcases hy with (h1 | h1) | h1
    · exact .inl h1
    · exact HFP.out y (HML.out y h1)
    · rw [h1]; exact HFP.out g (mem_fpG.2 (.inl rfl)))
  obtain ⟨xa, xc, hxe⟩ := (rows_of_ownS ho1).slice
  subst hxe
  have HGF := hid GF
  have HN3 := hid HNE2
  clear ho1 hg1 he1 how ho2 GF hmem hof4 HB3 HB4 hWa hWas bw0 bw1 bwl c0 c1 z0 z1 hgl HNE2 HNE HFP HOP HML hgw
  go_upto_region 5 with fail
  generalize w4.setCell ⟨g, qs.length * 2 + 1, none⟩ (.slice xa (l.length + 1) xc) = W5 at *
  clear e0 y0 ge0
  have bw1 := HB5.2.1 1 _ rfl
  have bz1 := HB5.2.2 1 (by simp)
  have bwl := HB5.1
  have htw : IntKind.i64.wrap ((t : Int) + 1) = (t : Int) + 1 := by rw [IntKind.wrap_i64]; omega
  have HB7 := HB5.set (i := 1) (by simp) (.int .i64 ((t : Int) + 1))
  have HB8 := HB6.other (i := 1) hwr (.int .i64 ((t : Int) + 1))
  have HG6 := hid (HGF.out.off (offset1 W5 wb 1 (.int .i64 ((t : Int) + 1))) (fun y hy hm => by simp at hm; exact (HN3.out y hy).1 hm))
  have HOF6 : Hid (Off FP w (W5.setCell ⟨wb, 1, none⟩ (.int .i64 ((t : Int) + 1)))) := ((HOF5.out.mono (T := FP ++ [wb]) (fun y hy => .inl (by simp [hy]))).trans ((offset1 W5 wb 1 (.int .i64 ((t : Int) + 1))).mono (fun y hy => .inl (by simp at hy; simp [hy])))).mono (fun y hy => by
    simp only [List.mem_append, List.mem_singleton] at hy
    rcases hy with h1 | h1
    · exact .inl h1
    · rw [h1]; exact .inr HWR.out.1)
  go_upto_region 6 with fail
  generalize W5.setCell ⟨wb, 1, none⟩ (.int .i64 ((t : Int) + 1)) = W6 at *
  clear bw1 bz1 bwl HB5 HB6 htw
  have o0 := HB7.2.1 0 _ rfl
  have o1 := HB7.2.1 1 _ rfl
  have hO := HB7.1
  have r0 := HB8.2.1 0 _ rfl
  have r1 := HB8.2.1 1 _ rfl
  have y0 := HB8.2.2 0 (by simp)
  have y1 := HB8.2.2 1 (by simp)
  have hR := HB8.1
  have c1 := ((HB8.set (i := 0) (by simp) (.slice (some ⟨g, 0, none⟩) (qs.length + 1) cap)).set (i := 1) (by simp) (.int .i64 ((t : Int) + 1)))
  have x0 := c1.2.1 0 _ rfl
  have x1 := c1.2.1 1 _ rfl
  have hof2 : Off [rb] W6 ((W6.setCell ⟨rb, 0, none⟩ (.slice (some ⟨g, 0, none⟩) (qs.length + 1) cap)).setCell ⟨rb, 1, none⟩ (.int .i64 ((t : Int) + 1))) := (offset1 _ _ _ _).trans (offset1 _ _ _ _)
  have HG7 := hid (HG6.out.off hof2 (fun y hy hm => by simp at hm; exact (HN3.out y hy).2 hm))
  have HOF7 := hid (((HOF6.out.mono (T := FP ++ [rb]) (fun y hy => .inl (by simp [hy]))).trans (hof2.mono (fun y hy => .inl (by simp at hy; simp [hy])))).mono (T := FP) (fun y hy => by
    simp only [List.mem_append, List.mem_singleton] at hy
    rcases hy with h1 | h1
    · exact .inl h1
    · rw [h1]; exact .inr HWR.out.2))
  clear HB7 HB8 c1 hof2
  go_wp2_with fail
  (try simp only [Exit.inBlock, Exit.then])
  refine bodyPost_ret (v := .agg #[.slice (some ⟨g, 0, none⟩) (qs.length + 1) cap, .int .i64 ((t : Int) + 1)]) ?r rfl ?_
  case r => simp [x0, x1, results, Try.results81, go_sem]; try rfl
  exact ⟨⟨_, _, rfl, HG7.out, HFP2.out⟩, HOF7.out⟩

set_option maxHeartbeats 12800000 in
set_option maxRecDepth 100000 in
theorem withNew (base d t p : Nat) (v : Value) (qs : List Po) (us : List Value) (w : World) (h : GrP base w v qs us) (hb : base ≤ w.heap.size) (hlast : ∀ m, qs.length = m + 1 → (qs.getD m default).1 ≠ (d : Int))
    (h1 : qs.length ≤ 1000) (h3 : t ≤ 1000000) (h4 : p ≤ 1000) (h5 : d ≤ 1000) :
    Calls Try.prog 81 #[.agg #[v, .int .i64 (t : Int)], .int .i64 (d : Int), .int .i64 (p : Int)] w fun e w' =>
      (∃ v' vs', e = .returned (.agg #[v', .int .i64 ((t : Int) + 1)]) ∧ GrP base w' v' (qs ++ [((d : Int), [(p : Int)])]) vs' ∧ ∀ x ∈ fpG v' vs', x ∈ fpG v us ∨ w.heap.size ≤ x) ∧ Off (fpG v us) w w' := by
  obtain ⟨i0, hi, hzz⟩ := Option.map_eq_some_iff.1 infoIn2
  simp only [Prod.mk.injEq] at hzz
  obtain ⟨hz0, hz1, hz2⟩ := hzz
  obtain ⟨j0, hj, hyy⟩ := Option.map_eq_some_iff.1 infoPo2
  simp only [Prod.mk.injEq] at hyy
  obtain ⟨hy0, hy1, hy2⟩ := hyy
  obtain ⟨FP, hFPe⟩ : ∃ FP, FP = fpG v us := ⟨_, rfl⟩
  rw [← hFPe]
  obtain ⟨W2, hW2⟩ : ∃ W2, W2 = (w.alloc (.cells #[v, .int .i64 (t : Int)] 77)).alloc (.cells #[.slice none 0 0, .int .i64 0] 77) := ⟨_, rfl⟩
  have kb0 : Below w.heap.size w W2 := by rw [hW2]; exact ((Below.refl _ _).alloc (Nat.le_refl _) _).alloc (by simp) _
  have bx : BoxAt W2 w.heap.size [v, .int .i64 (t : Int)] ∧ BoxAt W2 (w.heap.size + 1) [.slice none 0 0, .int .i64 0] := by rw [hW2]; exact boxOf2 (Below.refl _ _)
  obtain ⟨wb, hwb⟩ : ∃ wb, wb = w.heap.size := ⟨_, rfl⟩
  obtain ⟨rb, hrb⟩ : ∃ rb, rb = wb + 1 := ⟨_, rfl⟩
  have hwr : wb ≠ rb := by omega
  have HB1 : Hid (BoxAt W2 wb [v, .int .i64 (t : Int)]) := by rw [hwb]; exact bx.1
  have HB2 : Hid (BoxAt W2 rb [.slice none 0 0, .int .i64 0]) := by rw [hrb, hwb]; exact bx.2
  have GP : Hid (GrP base W2 v qs us) := h.below kb0
  have HNE : Hid (∀ y ∈ fpG v us, y ≠ wb ∧ y ≠ rb) := fun y hy => by have := (h.lt y hy).2; omega
  have HFP : Hid (∀ y ∈ fpG v us, y ∈ FP) := fun y hy => by rw [hFPe]; exact hy
  have HOF : Hid (Off FP w W2) := Off.of kb0
  have HWR : Hid (w.heap.size ≤ wb ∧ w.heap.size ≤ rb) := by show _ ∧ _; omega
  have HWBW : Hid ((wb < W2.heap.size ∧ rb < W2.heap.size) ∧ w.heap.size ≤ W2.heap.size) := ⟨⟨HB1.out.1, HB2.out.1⟩, kb0.size⟩
  have HLS := hid hlast
  obtain ⟨va, vc, hve⟩ := GP.out.slice
  subst hve
  have bw0 := HB1.out.2.1 0 _ rfl
  have bwl := HB1.out.1
  clear h bx kb0 hFPe hlast
  by_cases hq : qs.length = 0
  · have hn0 : ((qs.length : Int) == 0) = true := by rw [hq]; rfl
    clear hq
    go_enter Try.func81, Try.ntmps81
    go_upto_region 1 with fail
    rw [← hW2, ← hwb, ← hrb]
    clear hW2 hwb hrb
    go_upto_region 2 with fail
    clear hn0
    have how := GP.out.row
    have hwbW := HWBW.out.1
    have hszW := HWBW.out.2
    have hbW0 : base ≤ W2.heap.size := by omega
    go_wp2_with (first | (at_builtin; refine wplOwn rfl _ _ 26 rfl base 39 j0 (.agg #[.int .i64 0, .slice none 0 0]) 2 32 Try.underlying26 hj hy0 hy1 hy2 rfl (by decide) _ _ _ rfl (how.alloc _) _ 1 [.int .i64 (d : Int), .slice none 0 0] rfl (news2 _ _ _ _) ?c1 ?c2 ?c3 ?c4 ?_) | fail)
    case c1 => first | rfl | exact ⟨rfl, rfl⟩ | (intro u hu; simp at hu; rcases hu with rfl | rfl <;> rfl)
    case c2 => unfold maxLen; omega
    case c3 => omega
    case c4 => first | omega | (simp; omega)
    intro v1 w4 ho1 hg1 he1
    have hWa : Below W2.heap.size W2 (W2.alloc (.cells #[.int .i64 (d : Int), .slice none 0 0] 39)) := (Below.refl _ _).alloc (Nat.le_refl _) _
    have hG4 : GrP base w4 v1 (qs ++ [((d : Int), [])]) (us ++ [.slice none 0 0]) := GrP.snoc (GP.out.below hWa) (OwnS.nil _ _ _) (by simp [obl]) ho1 hg1 (by simpa using he1)
    have HB3 := (HB1.out.below hWa).otherBy' hg1 (fun e => (HNE.out _ (mem_fpG.2 (.inl e))).1 rfl)
    have HB4 := (HB2.out.below hWa).otherBy' hg1 (fun e => (HNE.out _ (mem_fpG.2 (.inl e))).2 rfl)
    have hmem : ∀ y ∈ fpG v1 (us ++ [.slice none 0 0]), y ∈ fpG (Value.slice va qs.length vc) us ∨ W2.heap.size + 1 ≤ y := fun y hy => by
      rcases mem_fpG.1 hy with h1 | ⟨i, hi, h1⟩
      · rcases he1 with h2 | h2
        · rw [h2] at h1; exact .inl (mem_fpG.2 (.inl h1))
        · rw [h2] at h1; simp at h1; exact .inr (by omega)
      · rw [getD_snocV] at h1
        split at h1
        · simp [obl] at h1
        · split at h1
          · rename_i h2; exact .inl (mem_fpG.2 (.inr ⟨i, h2, h1⟩))
          · cases h1
    have hNE : ∀ y ∈ fpG v1 (us ++ [.slice none 0 0]), y ≠ wb ∧ y ≠ rb := fun y hy => by
      rcases hmem y hy with h1 | h1
      · exact HNE.out y h1
      · omega
    have HFPN : Hid (∀ y ∈ fpG v1 (us ++ [.slice none 0 0]), y ∈ FP ∨ w.heap.size ≤ y) := fun y hy => by
      rcases hmem y hy with h1 | h1
      · exact .inl (HFP.out y h1)
      · exact .inr (by omega)
    have GT0 := hid (hG4.off (offset1 w4 wb 0 v1) (fun y hy hm => by simp at hm; exact (hNE y hy).1 hm))
    have HB5 := hid (HB3.set (i := 0) (by simp) v1)
    have HB6 := hid (HB4.other (i := 0) hwr v1)
    have hofg : Off (Value.slice va qs.length vc).ownBlock.toList (W2.alloc (.cells #[.int .i64 (d : Int), .slice none 0 0] 39)) w4 := ⟨hg1.os, hg1.tape, hg1.output, hg1.size, fun k hk hn => hg1.block k hk (fun e => hn (by rw [← e]; simp))⟩
    have HOFN : Hid (Off FP w (w4.setCell ⟨wb, 0, none⟩ v1)) := ((((off_below HOF.out hWa).mono (T := FP ++ [wb]) (fun y hy => .inl (by simp [hy]))).trans (hofg.mono (fun y hy => .inl (by simp at hy; have := HFP.out y (mem_fpG.2 (.inl hy)); simp [this])))).trans ((offset1 _ _ _ _).mono (fun y hy => .inl (by simp at hy; simp [hy])))).mono (fun y hy => by
      simp only [List.mem_append, List.mem_singleton] at hy
      rcases hy with h1 | h1
      · exact .inl h1
      · rw [h1]; exact .inr HWR.out.1)
    have HNEN := hid hNE
    have b30 := HB3.2.1 0 _ rfl
    have z30 := HB3.2.2 0 (by simp)
    have l30 := HB3.1
    obtain ⟨l, hl⟩ : ∃ l : List Int, l = [] := ⟨_, rfl⟩
    obtain ⟨pv, hpv⟩ : ∃ pv : Value, pv = .slice none 0 0 := ⟨_, rfl⟩
    have HLN : Hid (l ++ [(p : Int)] = [(p : Int)]) := by show _ = _; rw [hl]; rfl
    rw [← hl, ← hpv] at GT0
    rw [← hpv] at HNEN HFPN
    have h2 : l.length ≤ 1000 := by rw [hl]; simp
    obtain ⟨v1a, v1c, hv1⟩ := hG4.slice
    have hv1n : (qs ++ [((d : Int), ([] : List Int))]).length = qs.length + 1 := by simp
    rw [hv1n] at hv1
    subst hv1
    clear ho1 hg1 he1 how hWa hG4 HB3 HB4 hmem hNE hofg hl hpv GP HB1 HB2 HNE HFP HOF hwbW hszW hbW0 hv1n bw0 bwl HLS
    go_upto_region 3 with fail
    generalize w4.setCell ⟨wb, 0, none⟩ (.slice v1a (qs.length + 1) v1c) = W2 at *
    clear b30 z30 l30
    have HB1 := HB5
    have HB2 := HB6
    have GT := GT0
    have HNE := HNEN
    have HFP := HFPN
    have HOF := HOFN
    clear HB5 HB6 GT0 HNEN HFPN HOFN
    -- GT: the list with its last post; HB1, HB2: the boxes; HOF: all but FP as it was; HNE, HFP: where its blocks lie
    obtain ⟨g, cap, hve, hgl, c0, c1, z0, z1⟩ := GT.out.last
    have hve2 := hve
    simp only [Value.slice.injEq] at hve2
    obtain ⟨hva1, _, hvc1⟩ := hve2
    subst hva1
    subst hvc1
    clear hve
    have bw0 := HB1.out.2.1 0 _ rfl
    have bw1 := HB1.out.2.1 1 _ rfl
    have bwl := HB1.out.1
    have hqw : IntKind.i64.wrap ((qs.length : Int)) = (qs.length : Int) := by rw [IntKind.wrap_i64]; omega
    have hqs : (qs.length : Int) + 1 - 1 = (qs.length : Int) := by omega
    have hq0 : (0 : Int) ≤ (qs.length : Int) := by omega
    have HOP := hid GT.out.lastOwn
    obtain ⟨pa, pc, hpe⟩ := (rows_of_ownS HOP.out).slice
    subst hpe
    have how := HOP.out
    have HML := hid GT.out.lastMem
    have hbW : base ≤ W2.heap.size := Nat.le_trans hb HOF.out.size
    have hWB : wb < W2.heap.size ∧ rb < W2.heap.size := ⟨HB1.out.1, HB2.out.1⟩
    go_wp2_with (first | (at_builtin; refine wplS rfl _ _ 37 rfl base 3 i0 (.int .i64 0) 8 Try.underlying37 hi hz0 hz1 hz2 rfl _ _ _ rfl (how.alloc _) _ 1 [.int .i64 (p : Int)] rfl (news1 _ _ _) ?c1 ?c2 ?c3 ?c4 ?_) | fail)
    case c1 => first | rfl | (intro u hu; simp at hu; subst hu; rfl)
    case c2 => unfold maxLen; omega
    case c3 => omega
    case c4 => first | omega | (simp; omega)
    intro x1 w4 ho1 hg1 he1
    have hWa : Below W2.heap.size W2 (W2.alloc (.cells #[.int .i64 (p : Int)] 3)) := (Below.refl _ _).alloc (Nat.le_refl _) _
    have hWas : (W2.alloc (.cells #[.int .i64 (p : Int)] 3)).heap.size = W2.heap.size + 1 := by simp
    have ho2 : OwnS w4 base 3 x1 (l ++ [(p : Int)]).length (intsV (l ++ [(p : Int)])) := by simpa [intsV] using ho1
    have GF := GrP.setLast GT.out hWa ho2 hg1 (fun y hy => by simpa using he1 y hy)
    have HB3 := (HB1.out.below hWa).offG hg1 (fun hm => (HNE.out _ (HML.out _ hm)).1 rfl)
    have HB4 := (HB2.out.below hWa).offG hg1 (fun hm => (HNE.out _ (HML.out _ hm)).2 rfl)
    obtain ⟨e0, y0, ge0⟩ := GT.out.lastKeep hWa hg1
    have hgw : g ≠ wb ∧ g ≠ rb := HNE.out g (mem_fpG.2 (.inl rfl))
    have HB5 := HB3.offG (offset1 w4 g (qs.length * 2 + 1) x1) (by simp; exact fun e => hgw.1 e.symm)
    have HB6 := HB4.offG (offset1 w4 g (qs.length * 2 + 1) x1) (by simp; exact fun e => hgw.2 e.symm)
    have hmem : ∀ y ∈ fpG (.slice (some ⟨g, 0, none⟩) (qs.length + 1) v1c) (us ++ [x1]), y ∈ fpG (.slice (some ⟨g, 0, none⟩) (qs.length + 1) v1c) (us ++ [.slice pa l.length pc]) ∨ W2.heap.size + 1 ≤ y := fun y hy => by
      rcases mem_fpG.1 hy with h1 | ⟨i, hi, h1⟩
      · exact .inl (mem_fpG.2 (.inl h1))
      · rw [getD_snocV] at h1
        split at h1
        · rcases he1 y h1 with h2 | h2
          · exact .inl (HML.out y h2)
          · exact .inr (by simpa using h2)
        · rename_i hne
          split at h1
          · rename_i hlt
            exact .inl (mem_fpG.2 (.inr ⟨i, by simp; omega, by rw [getD_snocV, if_neg hne, if_pos hlt]; exact h1⟩))
          · cases h1
    have HNE2 : ∀ y ∈ fpG (.slice (some ⟨g, 0, none⟩) (qs.length + 1) v1c) (us ++ [x1]), y ≠ wb ∧ y ≠ rb := fun y hy => by
      rcases hmem y hy with h1 | h1
      · exact HNE.out y h1
      · omega
    have HFP2 := hid (fun y (hy : y ∈ fpG (.slice (some ⟨g, 0, none⟩) (qs.length + 1) v1c) (us ++ [x1])) => (show y ∈ FP ∨ w.heap.size ≤ y by
      rcases hmem y hy with h1 | h1
      · exact HFP.out y h1
      · have := HOF.out.size; exact .inr (by omega)))
    have hsz2 := HOF.out.size
    have hof4 : Off (FP ++ obl (.slice pa l.length pc) ++ [g]) w (w4.setCell ⟨g, qs.length * 2 + 1, none⟩ x1) :=
      (((off_below HOF.out hWa).mono (fun y hy => .inl (by simp [hy]))).trans (hg1.mono (fun y hy => .inl (by simp [hy])))).trans ((offset1 _ _ _ _).mono (fun y hy => .inl (by simp at hy; simp [hy])))
    have HOF5 : Hid (Off FP w (w4.setCell ⟨g, qs.length * 2 + 1, none⟩ x1)) := hof4.mono (fun y hy => by
      simp only [List.mem_append, List.mem_singleton] at hy
      rcases hy with (h1 | h1) | h1
      · exact .inl h1
      · exact HFP.out y (HML.out y h1)
      · rw [h1]; exact HFP.out g (mem_fpG.2 (.inl rfl)))
    obtain ⟨xa, xc, hxe⟩ := (rows_of_ownS ho1).slice
    subst hxe
    have HGF := hid GF
    have HN3 := hid HNE2
    clear ho1 hg1 he1 how ho2 GF hmem hof4 HB3 HB4 hWa hWas bw0 bw1 bwl c0 c1 z0 z1 hgl HNE2 HNE HFP HOP HML hgw
    go_upto_region 5 with fail
    generalize w4.setCell ⟨g, qs.length * 2 + 1, none⟩ (.slice xa (l.length + 1) xc) = W5 at *
    clear e0 y0 ge0
    have bw1 := HB5.2.1 1 _ rfl
    have bz1 := HB5.2.2 1 (by simp)
    have bwl := HB5.1
    have htw : IntKind.i64.wrap ((t : Int) + 1) = (t : Int) + 1 := by rw [IntKind.wrap_i64]; omega
    have HB7 := HB5.set (i := 1) (by simp) (.int .i64 ((t : Int) + 1))
    have HB8 := HB6.other (i := 1) hwr (.int .i64 ((t : Int) + 1))
    have HG6 := hid (HGF.out.off (offset1 W5 wb 1 (.int .i64 ((t : Int) + 1))) (fun y hy hm => by simp at hm; exact (HN3.out y hy).1 hm))
    have HOF6 : Hid (Off FP w (W5.setCell ⟨wb, 1, none⟩ (.int .i64 ((t : Int) + 1)))) := ((HOF5.out.mono (T := FP ++ [wb]) (fun y hy => .inl (by simp [hy]))).trans ((offset1 W5 wb 1 (.int .i64 ((t : Int) + 1))).mono (fun y hy => .inl (by simp at hy; simp [hy])))).mono (fun y hy => by
      simp only [List.mem_append, List.mem_singleton] at hy
      rcases hy with h1 | h1
      · exact .inl h1
      · rw [h1]; exact .inr HWR.out.1)
    go_upto_region 6 with fail
    generalize W5.setCell ⟨wb, 1, none⟩ (.int .i64 ((t : Int) + 1)) = W6 at *
    clear bw1 bz1 bwl HB5 HB6 htw
    have o0 := HB7.2.1 0 _ rfl
    have o1 := HB7.2.1 1 _ rfl
    have hO := HB7.1
    have r0 := HB8.2.1 0 _ rfl
    have r1 := HB8.2.1 1 _ rfl
    have y0 := HB8.2.2 0 (by simp)
    have y1 := HB8.2.2 1 (by simp)
    have hR := HB8.1
    have c1 := ((HB8.set (i := 0) (by simp) (.slice (some ⟨g, 0, none⟩) (qs.length + 1) v1c)).set (i := 1) (by simp) (.int .i64 ((t : Int) + 1)))
    have x0 := c1.2.1 0 _ rfl
    have x1 := c1.2.1 1 _ rfl
    have hof2 : Off [rb] W6 ((W6.setCell ⟨rb, 0, none⟩ (.slice (some ⟨g, 0, none⟩) (qs.length + 1) v1c)).setCell ⟨rb, 1, none⟩ (.int .i64 ((t : Int) + 1))) := (offset1 _ _ _ _).trans (offset1 _ _ _ _)
    have HG7 := hid (HG6.out.off hof2 (fun y hy hm => by simp at hm; exact (HN3.out y hy).2 hm))
    have HOF7 := hid (((HOF6.out.mono (T := FP ++ [rb]) (fun y hy => .inl (by simp [hy]))).trans (hof2.mono (fun y hy => .inl (by simp at hy; simp [hy])))).mono (T := FP) (fun y hy => by
      simp only [List.mem_append, List.mem_singleton] at hy
      rcases hy with h1 | h1
      · exact .inl h1
      · rw [h1]; exact .inr HWR.out.2))
    clear HB7 HB8 c1 hof2
    go_wp2_with fail
    (try simp only [Exit.inBlock, Exit.then])
    refine bodyPost_ret (v := .agg #[.slice (some ⟨g, 0, none⟩) (qs.length + 1) v1c, .int .i64 ((t : Int) + 1)]) ?r rfl ?_
    case r => simp [x0, x1, results, Try.results81, go_sem]; try rfl
    have hGF := HG7.out
    rw [HLN.out] at hGF
    exact ⟨⟨_, _, rfl, hGF, HFP2.out⟩, HOF7.out⟩
  · obtain ⟨m, hm⟩ : ∃ m, qs.length = m + 1 := ⟨qs.length - 1, by omega⟩
    have hld := HLS.out m hm
    obtain ⟨g0, off0, cap0, hve, hgl0, pv0, c00, _, _⟩ := GP.out.at.rows (i := m) (by omega)
    have hve2 := hve
    simp only [Value.slice.injEq] at hve2
    obtain ⟨hva, _, hvc⟩ := hve2
    have hn0 : ((qs.length : Int) == 0) = false := by rw [beq_eq_false_iff_ne]; omega
    have hmw : IntKind.i64.wrap ((qs.length : Int) - 1) = (m : Int) := by rw [IntKind.wrap_i64]; omega
    have hm0 : (0 : Int) ≤ (m : Int) := by omega
    have hml : (m : Int) < (qs.length : Int) := by omega
    have hdd : ((qs.getD m default).1 != (d : Int)) = true := by simp only [bne_iff_ne, ne_eq]; exact hld
    generalize (qs.getD m default).1 = dm at *
    subst hva
    clear hq hm hld hve hvc
    go_enter Try.func81, Try.ntmps81
    go_upto_region 1 with fail
    rw [← hW2, ← hwb, ← hrb]
    clear hW2 hwb hrb
    go_upto_region 2 with fail
    clear hn0 hmw hm0 hml hdd c00 hgl0
    have how := GP.out.row
    have hwbW := HWBW.out.1
    have hszW := HWBW.out.2
    have hbW0 : base ≤ W2.heap.size := by omega
    go_wp2_with (first | (at_builtin; refine wplOwn rfl _ _ 26 rfl base 39 j0 (.agg #[.int .i64 0, .slice none 0 0]) 2 32 Try.underlying26 hj hy0 hy1 hy2 rfl (by decide) _ _ _ rfl (how.alloc _) _ 1 [.int .i64 (d : Int), .slice none 0 0] rfl (news2 _ _ _ _) ?c1 ?c2 ?c3 ?c4 ?_) | fail)
    case c1 => first | rfl | exact ⟨rfl, rfl⟩ | (intro u hu; simp at hu; rcases hu with rfl | rfl <;> rfl)
    case c2 => unfold maxLen; omega
    case c3 => omega
    case c4 => first | omega | (simp; omega)
    intro v1 w4 ho1 hg1 he1
    have hWa : Below W2.heap.size W2 (W2.alloc (.cells #[.int .i64 (d : Int), .slice none 0 0] 39)) := (Below.refl _ _).alloc (Nat.le_refl _) _
    have hG4 : GrP base w4 v1 (qs ++ [((d : Int), [])]) (us ++ [.slice none 0 0]) := GrP.snoc (GP.out.below hWa) (OwnS.nil _ _ _) (by simp [obl]) ho1 hg1 (by simpa using he1)
    have HB3 := (HB1.out.below hWa).otherBy' hg1 (fun e => (HNE.out _ (mem_fpG.2 (.inl e))).1 rfl)
    have HB4 := (HB2.out.below hWa).otherBy' hg1 (fun e => (HNE.out _ (mem_fpG.2 (.inl e))).2 rfl)
    have hmem : ∀ y ∈ fpG v1 (us ++ [.slice none 0 0]), y ∈ fpG (Value.slice (some ⟨g0, off0, none⟩) qs.length vc) us ∨ W2.heap.size + 1 ≤ y := fun y hy => by
      rcases mem_fpG.1 hy with h1 | ⟨i, hi, h1⟩
      · rcases he1 with h2 | h2
        · rw [h2] at h1; exact .inl (mem_fpG.2 (.inl h1))
        · rw [h2] at h1; simp at h1; exact .inr (by omega)
      · rw [getD_snocV] at h1
        split at h1
        · simp [obl] at h1
        · split at h1
          · rename_i h2; exact .inl (mem_fpG.2 (.inr ⟨i, h2, h1⟩))
          · cases h1
    have hNE : ∀ y ∈ fpG v1 (us ++ [.slice none 0 0]), y ≠ wb ∧ y ≠ rb := fun y hy => by
      rcases hmem y hy with h1 | h1
      · exact HNE.out y h1
      · omega
    have HFPN : Hid (∀ y ∈ fpG v1 (us ++ [.slice none 0 0]), y ∈ FP ∨ w.heap.size ≤ y) := fun y hy => by
      rcases hmem y hy with h1 | h1
      · exact .inl (HFP.out y h1)
      · exact .inr (by omega)
    have GT0 := hid (hG4.off (offset1 w4 wb 0 v1) (fun y hy hm => by simp at hm; exact (hNE y hy).1 hm))
    have HB5 := hid (HB3.set (i := 0) (by simp) v1)
    have HB6 := hid (HB4.other (i := 0) hwr v1)
    have hofg : Off (Value.slice (some ⟨g0, off0, none⟩) qs.length vc).ownBlock.toList (W2.alloc (.cells #[.int .i64 (d : Int), .slice none 0 0] 39)) w4 := ⟨hg1.os, hg1.tape, hg1.output, hg1.size, fun k hk hn => hg1.block k hk (fun e => hn (by rw [← e]; simp))⟩
    have HOFN : Hid (Off FP w (w4.setCell ⟨wb, 0, none⟩ v1)) := ((((off_below HOF.out hWa).mono (T := FP ++ [wb]) (fun y hy => .inl (by simp [hy]))).trans (hofg.mono (fun y hy => .inl (by simp at hy; have := HFP.out y (mem_fpG.2 (.inl hy)); simp [this])))).trans ((offset1 _ _ _ _).mono (fun y hy => .inl (by simp at hy; simp [hy])))).mono (fun y hy => by
      simp only [List.mem_append, List.mem_singleton] at hy
      rcases hy with h1 | h1
      · exact .inl h1
      · rw [h1]; exact .inr HWR.out.1)
    have HNEN := hid hNE
    have b30 := HB3.2.1 0 _ rfl
    have z30 := HB3.2.2 0 (by simp)
    have l30 := HB3.1
    obtain ⟨l, hl⟩ : ∃ l : List Int, l = [] := ⟨_, rfl⟩
    obtain ⟨pv, hpv⟩ : ∃ pv : Value, pv = .slice none 0 0 := ⟨_, rfl⟩
    have HLN : Hid (l ++ [(p : Int)] = [(p : Int)]) := by show _ = _; rw [hl]; rfl
    rw [← hl, ← hpv] at GT0
    rw [← hpv] at HNEN HFPN
    have h2 : l.length ≤ 1000 := by rw [hl]; simp
    obtain ⟨v1a, v1c, hv1⟩ := hG4.slice
    have hv1n : (qs ++ [((d : Int), ([] : List Int))]).length = qs.length + 1 := by simp
    rw [hv1n] at hv1
    subst hv1
    clear ho1 hg1 he1 how hWa hG4 HB3 HB4 hmem hNE hofg hl hpv GP HB1 HB2 HNE HFP HOF hwbW hszW hbW0 hv1n bw0 bwl HLS
    go_upto_region 3 with fail
    generalize w4.setCell ⟨wb, 0, none⟩ (.slice v1a (qs.length + 1) v1c) = W2 at *
    clear b30 z30 l30
    have HB1 := HB5
    have HB2 := HB6
    have GT := GT0
    have HNE := HNEN
    have HFP := HFPN
    have HOF := HOFN
    clear HB5 HB6 GT0 HNEN HFPN HOFN
    -- GT: the list with its last post; HB1, HB2: the boxes; HOF: all but FP as it was; HNE, HFP: where its blocks lie
    obtain ⟨g, cap, hve, hgl, c0, c1, z0, z1⟩ := GT.out.last
    have hve2 := hve
    simp only [Value.slice.injEq] at hve2
    obtain ⟨hva1, _, hvc1⟩ := hve2
    subst hva1
    subst hvc1
    clear hve
    have bw0 := HB1.out.2.1 0 _ rfl
    have bw1 := HB1.out.2.1 1 _ rfl
    have bwl := HB1.out.1
    have hqw : IntKind.i64.wrap ((qs.length : Int)) = (qs.length : Int) := by rw [IntKind.wrap_i64]; omega
    have hqs : (qs.length : Int) + 1 - 1 = (qs.length : Int) := by omega
    have hq0 : (0 : Int) ≤ (qs.length : Int) := by omega
    have HOP := hid GT.out.lastOwn
    obtain ⟨pa, pc, hpe⟩ := (rows_of_ownS HOP.out).slice
    subst hpe
    have how := HOP.out
    have HML := hid GT.out.lastMem
    have hbW : base ≤ W2.heap.size := Nat.le_trans hb HOF.out.size
    have hWB : wb < W2.heap.size ∧ rb < W2.heap.size := ⟨HB1.out.1, HB2.out.1⟩
    go_wp2_with (first | (at_builtin; refine wplS rfl _ _ 37 rfl base 3 i0 (.int .i64 0) 8 Try.underlying37 hi hz0 hz1 hz2 rfl _ _ _ rfl (how.alloc _) _ 1 [.int .i64 (p : Int)] rfl (news1 _ _ _) ?c1 ?c2 ?c3 ?c4 ?_) | fail)
    case c1 => first | rfl | (intro u hu; simp at hu; subst hu; rfl)
    case c2 => unfold maxLen; omega
    case c3 => omega
    case c4 => first | omega | (simp; omega)
    intro x1 w4 ho1 hg1 he1
    have hWa : Below W2.heap.size W2 (W2.alloc (.cells #[.int .i64 (p : Int)] 3)) := (Below.refl _ _).alloc (Nat.le_refl _) _
    have hWas : (W2.alloc (.cells #[.int .i64 (p : Int)] 3)).heap.size = W2.heap.size + 1 := by simp
    have ho2 : OwnS w4 base 3 x1 (l ++ [(p : Int)]).length (intsV (l ++ [(p : Int)])) := by simpa [intsV] using ho1
    have GF := GrP.setLast GT.out hWa ho2 hg1 (fun y hy => by simpa using he1 y hy)
    have HB3 := (HB1.out.below hWa).offG hg1 (fun hm => (HNE.out _ (HML.out _ hm)).1 rfl)
    have HB4 := (HB2.out.below hWa).offG hg1 (fun hm => (HNE.out _ (HML.out _ hm)).2 rfl)
    obtain ⟨e0, y0, ge0⟩ := GT.out.lastKeep hWa hg1
    have hgw : g ≠ wb ∧ g ≠ rb := HNE.out g (mem_fpG.2 (.inl rfl))
    have HB5 := HB3.offG (offset1 w4 g (qs.length * 2 + 1) x1) (by simp; exact fun e => hgw.1 e.symm)
    have HB6 := HB4.offG (offset1 w4 g (qs.length * 2 + 1) x1) (by simp; exact fun e => hgw.2 e.symm)
    have hmem : ∀ y ∈ fpG (.slice (some ⟨g, 0, none⟩) (qs.length + 1) v1c) (us ++ [x1]), y ∈ fpG (.slice (some ⟨g, 0, none⟩) (qs.length + 1) v1c) (us ++ [.slice pa l.length pc]) ∨ W2.heap.size + 1 ≤ y := fun y hy => by
      rcases mem_fpG.1 hy with h1 | ⟨i, hi, h1⟩
      · exact .inl (mem_fpG.2 (.inl h1))
      · rw [getD_snocV] at h1
        split at h1
        · rcases he1 y h1 with h2 | h2
          · exact .inl (HML.out y h2)
          · exact .inr (by simpa using h2)
        · rename_i hne
          split at h1
          · rename_i hlt
            exact .inl (mem_fpG.2 (.inr ⟨i, by simp; omega, by rw [getD_snocV, if_neg hne, if_pos hlt]; exact h1⟩))
          · cases h1
    have HNE2 : ∀ y ∈ fpG (.slice (some ⟨g, 0, none⟩) (qs.length + 1) v1c) (us ++ [x1]), y ≠ wb ∧ y ≠ rb := fun y hy => by
      rcases hmem y hy with h1 | h1
      · exact HNE.out y h1
      · omega
    have HFP2 := hid (fun y (hy : y ∈ fpG (.slice (some ⟨g, 0, none⟩) (qs.length + 1) v1c) (us ++ [x1])) => (show y ∈ FP ∨ w.heap.size ≤ y by
      rcases hmem y hy with h1 | h1
      · exact HFP.out y h1
      · have := HOF.out.size; exact .inr (by omega)))
    have hsz2 := HOF.out.size
    have hof4 : Off (FP ++ obl (.slice pa l.length pc) ++ [g]) w (w4.setCell ⟨g, qs.length * 2 + 1, none⟩ x1) :=
      (((off_below HOF.out hWa).mono (fun y hy => .inl (by simp [hy]))).trans (hg1.mono (fun y hy => .inl (by simp [hy])))).trans ((offset1 _ _ _ _).mono (fun y hy => .inl (by simp at hy; simp [hy])))
    have HOF5 : Hid (Off FP w (w4.setCell ⟨g, qs.length * 2 + 1, none⟩ x1)) := hof4.mono (fun y hy => by
      simp only [List.mem_append, List.mem_singleton] at hy
      rcases hy with (h1 | h1) | h1
      · exact .inl h1
      · exact HFP.out y (HML.out y h1)
      · rw [h1]; exact HFP.out g (mem_fpG.2 (.inl rfl)))
    obtain ⟨xa, xc, hxe⟩ := (rows_of_ownS ho1).slice
    subst hxe
    have HGF := hid GF
    have HN3 := hid HNE2
    clear ho1 hg1 he1 how ho2 GF hmem hof4 HB3 HB4 hWa hWas bw0 bw1 bwl c0 c1 z0 z1 hgl HNE2 HNE HFP HOP HML hgw
    go_upto_region 5 with fail
    generalize w4.setCell ⟨g, qs.length * 2 + 1, none⟩ (.slice xa (l.length + 1) xc) = W5 at *
    clear e0 y0 ge0
    have bw1 := HB5.2.1 1 _ rfl
    have bz1 := HB5.2.2 1 (by simp)
    have bwl := HB5.1
    have htw : IntKind.i64.wrap ((t : Int) + 1) = (t : Int) + 1 := by rw [IntKind.wrap_i64]; omega
    have HB7 := HB5.set (i := 1) (by simp) (.int .i64 ((t : Int) + 1))
    have HB8 := HB6.other (i := 1) hwr (.int .i64 ((t : Int) + 1))
    have HG6 := hid (HGF.out.off (offset1 W5 wb 1 (.int .i64 ((t : Int) + 1))) (fun y hy hm => by simp at hm; exact (HN3.out y hy).1 hm))
    have HOF6 : Hid (Off FP w (W5.setCell ⟨wb, 1, none⟩ (.int .i64 ((t : Int) + 1)))) := ((HOF5.out.mono (T := FP ++ [wb]) (fun y hy => .inl (by simp [hy]))).trans ((offset1 W5 wb 1 (.int .i64 ((t : Int) + 1))).mono (fun y hy => .inl (by simp at hy; simp [hy])))).mono (fun y hy => by
      simp only [List.mem_append, List.mem_singleton] at hy
      rcases hy with h1 | h1
      · exact .inl h1
      · rw [h1]; exact .inr HWR.out.1)
    go_upto_region 6 with fail
    generalize W5.setCell ⟨wb, 1, none⟩ (.int .i64 ((t : Int) + 1)) = W6 at *
    clear bw1 bz1 bwl HB5 HB6 htw
    have o0 := HB7.2.1 0 _ rfl
    have o1 := HB7.2.1 1 _ rfl
    have hO := HB7.1
    have r0 := HB8.2.1 0 _ rfl
    have r1 := HB8.2.1 1 _ rfl
    have y0 := HB8.2.2 0 (by simp)
    have y1 := HB8.2.2 1 (by simp)
    have hR := HB8.1
    have c1 := ((HB8.set (i := 0) (by simp) (.slice (some ⟨g, 0, none⟩) (qs.length + 1) v1c)).set (i := 1) (by simp) (.int .i64 ((t : Int) + 1)))
    have x0 := c1.2.1 0 _ rfl
    have x1 := c1.2.1 1 _ rfl
    have hof2 : Off [rb] W6 ((W6.setCell ⟨rb, 0, none⟩ (.slice (some ⟨g, 0, none⟩) (qs.length + 1) v1c)).setCell ⟨rb, 1, none⟩ (.int .i64 ((t : Int) + 1))) := (offset1 _ _ _ _).trans (offset1 _ _ _ _)
    have HG7 := hid (HG6.out.off hof2 (fun y hy hm => by simp at hm; exact (HN3.out y hy).2 hm))
    have HOF7 := hid (((HOF6.out.mono (T := FP ++ [rb]) (fun y hy => .inl (by simp [hy]))).trans (hof2.mono (fun y hy => .inl (by simp at hy; simp [hy])))).mono (T := FP) (fun y hy => by
      simp only [List.mem_append, List.mem_singleton] at hy
      rcases hy with h1 | h1
      · exact .inl h1
      · rw [h1]; exact .inr HWR.out.2))
    clear HB7 HB8 c1 hof2
    go_wp2_with fail
    (try simp only [Exit.inBlock, Exit.then])
    refine bodyPost_ret (v := .agg #[.slice (some ⟨g, 0, none⟩) (qs.length + 1) v1c, .int .i64 ((t : Int) + 1)]) ?r rfl ?_
    case r => simp [x0, x1, results, Try.results81, go_sem]; try rfl
    have hGF := HG7.out
    rw [HLN.out] at hGF
    exact ⟨⟨_, _, rfl, hGF, HFP2.out⟩, HOF7.out⟩
end Go.Proofs.Ytkkmnegmghllpaa
