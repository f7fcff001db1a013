/- Contract of MeetPacked, of the program. Condition: both packed lists' rows lie in memory. -/
import Derived.Test.YtaafdcghafbfhaaListW
namespace Go.Proofs.Ytaafdcghafbfhaa
open Go.ChangeShapes Go.WideShapes Go.ChangeAt Go.RowKit Go.Deep
set_option linter.unusedVariables false
attribute [local go_sem ↓] Go.wp_at_zero Go.wp_at_succ

theorem meet_yes {A C : List Int} {k : Nat} (hk : k < A.length) (h : decide (A.getD k 0 ∈ C) = true) : meetL (A.take (k + 1)) C = meetL (A.take k) C ++ [A.getD k 0] := by
  rw [take_sn A k hk]
  unfold meetL
  rw [List.filter_append, List.filter_cons_of_pos (by simpa using h), List.filter_nil]
theorem meet_no {A C : List Int} {k : Nat} (hk : k < A.length) (h : decide (A.getD k 0 ∈ C) = false) : meetL (A.take (k + 1)) C = meetL (A.take k) C := by
  rw [take_sn A k hk]
  unfold meetL
  rw [List.filter_append, List.filter_cons_of_neg (by simpa using h), List.filter_nil, List.append_nil]
theorem meet_len (A C : List Int) : (meetL A C).length ≤ A.length := List.length_filter_le _ _
set_option maxHeartbeats 3200000 in
set_option maxRecDepth 100000 in
theorem implMeet (p q : Pk) (B D : Bool) (A C : List Int) (hA : AnsL p B A) (hC : AnsL q D C) (la ha lb hb : Value) (w : World) (h : PkAt w la ha p) (g : PkAt w lb hb q) (l1 : p.lows.length ≤ 1048576) (l2 : p.high.length ≤ 1048576) (l3 : q.lows.length ≤ 1048576) (l4 : q.high.length ≤ 1048576) :
    Calls Try.prog 32 #[.agg #[.int .i64 p.many, .int .i64 p.low, la, ha], .agg #[.int .i64 q.many, .int .i64 q.low, lb, hb]] w fun e w' => ListPost (B && D) (meetL A C) w.heap.size e w' ∧ Below w.heap.size w w' := by
  obtain ⟨i0, hi, hzz⟩ := Option.map_eq_some_iff.1 infoI
  simp only [Prod.mk.injEq] at hzz
  obtain ⟨hz0, hz1, hz2⟩ := hzz
  have HS := hid h
  have HT := hid g
  obtain ⟨xa, xc, rfl⟩ := h.1.slice
  obtain ⟨ya, yc, rfl⟩ := h.2.slice
  obtain ⟨za, zc, rfl⟩ := g.1.slice
  obtain ⟨ua, uc, rfl⟩ := g.2.slice
  have HL := fun W hW => implListOf p B A hA (.slice xa p.lows.length xc) (.slice ya p.high.length yc) W hW l1 l2
  have HM := fun W hW => implListOf q D C hC (.slice za q.lows.length zc) (.slice ua q.high.length uc) W hW l3 l4
  have h60 := hA.len
  have c60 := hC.len
  have HSE := hid (fun n x W hW => searchIs C n x W hW hC.good)
  have HAN : Hid (B = false → A = []) := fun hb => by
    rcases hA with ⟨h, _⟩ | ⟨_, h, _⟩
    · rw [hb] at h; cases h
    · exact h
  have HCN : Hid (D = false → C = []) := fun hb => by
    rcases hC with ⟨h, _⟩ | ⟨_, h, _⟩
    · rw [hb] at h; cases h
    · exact h
  obtain ⟨M, hMm⟩ : ∃ M, M = p.many := ⟨_, rfl⟩
  obtain ⟨L, hL⟩ : ∃ L, L = p.low := ⟨_, rfl⟩
  obtain ⟨M2, hM2⟩ : ∃ M, M = q.many := ⟨_, rfl⟩
  obtain ⟨L2, hL2⟩ : ∃ L, L = q.low := ⟨_, rfl⟩
  rw [← hMm, ← hL] at HL
  rw [← hM2, ← hL2] at HM
  rw [← hMm, ← hL, ← hM2, ← hL2]
  clear h g hMm hL hM2 hL2 hA hC
  go_enter Try.func32, Try.ntmps32
  go_wp2_with fail
  refine (HL _ (HS.out.below (by go_grown))).mono ?_
  rintro e w1 ⟨⟨lv, rfl, ho⟩, hb1⟩
  have HK1 : Hid (Below w.heap.size w w1) := by
    refine Below.trans ?_ (hb1.mono ?_)
    · go_grown
    · go_size
  have bx := boxOf2 hb1
  have HB2 := hid bx.2
  have HO1 := hid (own_mono (base' := w.heap.size) ho (by simp; omega))
  obtain ⟨qa, qc, hqe⟩ := (rows_of_ownS ho).slice
  subst hqe
  clear ho hb1 HL bx
  cases B with
  | false =>
    have HE : Hid (meetL A C = []) := by show _ = _; rw [HAN.out rfl]; rfl
    have hfin := HK1.out
    clear HAN HCN HSE HM
    go_wp2
    go_returns
    exact ⟨⟨_, rfl, by rw [HE.out]; exact OwnS.nil _ _ _⟩, hfin⟩
  | true =>
    have c0 := HB2.out.2.1 0 _ rfl
    have c1 := HB2.out.2.1 1 _ rfl
    have c2 := HB2.out.2.1 2 _ rfl
    have c3 := HB2.out.2.1 3 _ rfl
    have hbl := HB2.out.1
    go_wp2_with fail
    refine (HM _ (HT.out.below HK1.out)).mono ?_
    rintro e w2 ⟨⟨lv, rfl, ho⟩, hb2⟩
    have HK2 := hid (HK1.out.trans (hb2.mono HK1.out.size))
    have HO2 := hid (HO1.out.below hb2)
    have HOC := hid (own_mono (base' := w.heap.size) ho HK1.out.size)
    obtain ⟨ra, rc, hre⟩ := (rows_of_ownS ho).slice
    subst hre
    clear ho hb2 HM c0 c1 c2 c3 hbl HO1 HB2
    cases D with
    | false =>
      have HE : Hid (meetL A C = []) := by show _ = _; rw [HCN.out rfl]; unfold meetL; simp
      have hfin := HK2.out
      clear HAN HCN HSE
      go_wp2
      go_returns
      exact ⟨⟨_, rfl, by rw [HE.out]; exact OwnS.nil _ _ _⟩, hfin⟩
    | true =>
      clear HAN HCN
      have HAI := hid (OwnA.ofInts HO2.out).1.ints
      have HCI := hid (OwnA.ofInts HOC.out).1.ints
      clear HO2 HOC
      go_wp2
      go_loopw [9, 30] (fun x i wr => ∃ k : Nat, k ≤ A.length ∧ i = .int .i64 k ∧ Hid (OwnS wr w2.heap.size 3 x (meetL (A.take k) C).length (intsV (meetL (A.take k) C))) ∧ Hid (w2.heap.size ≤ wr.heap.size) ∧ Below w2.heap.size w2 wr) (fun _ i _ => A.length - (intOf i).toNat)
      case atStart => exact ⟨0, Nat.zero_le _, rfl, OwnS.nil _ _ _, Nat.le_refl _, by go_grown⟩
      case round =>
        obtain ⟨k, hk, rfl, hO, hSZ, kb⟩ := hrel
        obtain ⟨sa, sc, hse⟩ := (rows_of_ownS hO.out).slice
        subst hse
        by_cases hlt : k < A.length
        · have hki : (k : Int) < (A.length : Int) := by omega
          obtain ⟨b, off, cap, hce, hb, hcell⟩ : ∃ b off cap, Value.slice qa A.length qc = .slice (some ⟨b, off, none⟩) A.length cap ∧ b < w2.heap.size ∧ w2.cell? ⟨b, off + k, none⟩ = some (.int .i64 (A.getD k 0)) := by
            rcases HAI.out with ⟨_, _, _, e⟩ | ⟨b, off, cap, e, hb, hcell⟩
            · rw [e] at hlt; simp at hlt
            · exact ⟨b, off, cap, e, hb, hcell k hlt⟩
          cases hce
          have hcw : wr.cell? ⟨b, off + k, none⟩ = some (.int .i64 (A.getD k 0)) := (kb.cell (p := ⟨b, off + k, none⟩) hb).trans hcell
          have HY := hid (fun h => meet_yes (C := C) hlt h)
          have HN := hid (fun h => meet_no (C := C) hlt h)
          have HSN := HSE.out (A.getD k 0) _ wr (HCI.out.below kb)
          have hml := meet_len (A.take k) C
          have hmk : (A.take k).length ≤ k := by simp; omega
          have HKB := hid kb
          clear hcell kb
          obtain ⟨E, hE⟩ : ∃ E, E = decide (A.getD k 0 ∈ C) := ⟨_, rfl⟩
          rw [← hE] at HY HN HSN
          clear hE
          generalize A.getD k 0 = t at *
          generalize hMk : meetL (A.take k) C = Mk at *
          cases E with
          | false =>
            have HE := hid (HN.out rfl)
            clear HN HY
            go_wp2_with fail
            refine HSN.mono ?_
            rintro e w9 ⟨rfl, rfl⟩
            clear HSN
            go_wp2
            refine ⟨?_, by simp [intOf]; omega⟩
            first | exact ⟨k + 1, hlt, by go_num, by rw [HE.out]; exact hO, hSZ, HKB.out⟩ | ((repeat apply Exists.intro); exact ⟨⟨k + 1, hlt, by go_num, by rw [HE.out]; exact hO, hSZ, HKB.out⟩, rfl⟩)
          | true =>
            have HE := hid (HY.out rfl)
            have how := hO.out
            have hSZ1 := hSZ.out
            clear HN HY
            go_wp2_with fail
            refine HSN.mono ?_
            rintro e w9 ⟨rfl, rfl⟩
            clear HSN
            go_wp2_with (first | (at_builtin; refine wplS rfl _ _ 23 rfl w2.heap.size 3 i0 (.int .i64 0) 8 Try.underlying23 hi hz0 hz1 hz2 rfl _ _ _ rfl (how.alloc _) _ 1 [.int .i64 t] rfl (news1 _ _ _) ?c1 ?c2 ?c3 ?c4 ?_) | fail)
            case c1 => first | rfl | (intro u hu; simp at hu; subst hu; rfl)
            case c2 => unfold maxLen; omega
            case c3 => omega
            case c4 => first | omega | (simp; omega)
            intro x1 w4 ho1 hg1 he1
            obtain ⟨va, vc, hve⟩ := (rows_of_ownS ho1).slice
            subst hve
            have HO4 : Hid (OwnS w4 w2.heap.size 3 (.slice va (Mk.length + 1) vc) (meetL (A.take (k + 1)) C).length (intsV (meetL (A.take (k + 1)) C))) := by
              show OwnS _ _ _ _ _ _
              rw [HE.out]
              simpa [intsV] using ho1
            have HK4 : Hid (Below w2.heap.size w2 w4) := (HKB.out.alloc HKB.out.size _).trans (below_own (how.alloc _) (by simp; omega) hg1)
            have HS4 : Hid (w2.heap.size ≤ w4.heap.size) := HK4.out.size
            clear ho1 hg1 he1 how
            go_wp2
            refine ⟨?_, by simp [intOf]; omega⟩
            first | exact ⟨k + 1, hlt, by go_num, HO4.out, HS4.out, HK4.out⟩ | ((repeat apply Exists.intro); exact ⟨⟨k + 1, hlt, by go_num, HO4.out, HS4.out, HK4.out⟩, rfl⟩)
        · have hke : k = A.length := by omega
          have hki : ¬ (k : Int) < (A.length : Int) := by omega
          have hO2 := hO.out
          rw [hke, List.take_length] at hO2
          have HF := hid (own_mono (base' := w.heap.size) hO2 HK2.out.size)
          have hfin : Below w.heap.size w wr := HK2.out.trans (kb.mono HK2.out.size)
          clear hO hO2
          rw [hke]
          go_wp2
          go_returns
          exact ⟨⟨_, by first | rfl | (rw [List.take_length]; rfl), HF.out⟩, hfin⟩
end Go.Proofs.Ytaafdcghafbfhaa
