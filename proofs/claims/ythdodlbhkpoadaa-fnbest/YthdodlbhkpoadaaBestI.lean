/- The first few out of a copy of a heap. Condition: the heap lies in memory. -/
import Derived.Test.YthdodlbhkpoadaaCloneH
namespace Go.Proofs.Ythdodlbhkpoadaa
open Go.ChangeShapes Go.WideShapes Go.ChangeAt Go.RowKit Go.Deep
set_option linter.unusedVariables false
attribute [local go_sem ↓] Go.wp_at_zero Go.wp_at_succ

theorem pops_nil {l : List Sc} (h : l.length = 0) : ∀ m, popsL l m = []
  | 0 => rfl
  | m + 1 => by simp [popsL, h]
theorem pops_cons {l : List Sc} (h : 0 < l.length) (m : Nat) : popsL l (m + 1) = gd l 0 :: popsL (popL l) m := by
  simp only [popsL]; rw [if_neg (by omega)]
theorem pops_len : ∀ (m : Nat) (l : List Sc), (popsL l m).length ≤ m
  | 0, _ => by simp [popsL]
  | m + 1, l => by
    simp only [popsL]
    split
    · simp
    · have := pops_len m (popL l); simp; omega
set_option maxHeartbeats 6400000 in
set_option maxRecDepth 100000 in
theorem implBestOf (x : Value) (l : List Sc) (m : Nat) (w : World) (h : RdS w x l) (hl : l.length ≤ 1000) (hm : m ≤ 1000) :
    Calls Try.prog 53 #[x, .int .i64 m] w fun e w' => ∃ qa qc, e = .returned (.slice qa (popsL l m).length qc) ∧ OwnH w.heap.size w' (.slice qa (popsL l m).length qc) (popsL l m) ∧ Below w.heap.size w w' := by
  have HC := implCloneH x l w h (by omega)
  obtain ⟨xa, xc, rfl⟩ := h.slice
  clear h
  go_enter Try.func53, Try.ntmps53
  go_wp2_with fail
  refine HC.mono ?_
  rintro e w1 ⟨qa, qc, rfl, ho1, hb1⟩
  have HO1 := hid ho1
  have HK1 := hid hb1
  clear ho1 hb1 HC
  go_wp2
  go_loopw [0, 5] (fun hv bv wr => ∃ (L P : List Sc) (a c a2 c2 : _), hv = .slice a L.length c ∧ bv = .slice a2 P.length c2 ∧ L.length + P.length = l.length ∧ P.length ≤ m ∧ Hid (OwnH w.heap.size wr (.slice a L.length c) L) ∧ Hid (OwnH w.heap.size wr (.slice a2 P.length c2) P) ∧
    Hid (∀ g ∈ hbl (.slice a L.length c), g ∉ hbl (.slice a2 P.length c2)) ∧ Hid (Below w.heap.size w wr) ∧ Hid (P ++ popsL L (m - P.length) = popsL l m)) (fun hv _ _ => match hv with | .slice _ n _ => n | _ => 0)
  case atStart => exact ⟨l, [], qa, qc, none, 0, rfl, rfl, by simp, by simp, HO1.out, OwnH.nil _ _, fun g hg hm => by simp [hbl, Value.ownBlock] at hm, HK1.out, by show _ = _; simp⟩
  case round =>
    obtain ⟨L, P, a, c, a2, c2, rfl, rfl, hLP, hPm, HL, HP, HD, HK, HR⟩ := hrel
    clear HO1 HK1
    have hkw : w.heap.size ≤ wr.heap.size := HK.out.size
    by_cases hL0 : 0 < L.length
    · have hLi : (0 : Int) < (L.length : Int) := by omega
      by_cases hP0 : P.length < m
      · have hPi : (P.length : Int) < (m : Int) := by omega
        obtain ⟨g, cap, hge, hg0, hg1⟩ := HL.out.lies hL0
        cases hge
        obtain ⟨W1, hW1⟩ : ∃ W1, W1 = wr.alloc (.cells #[.int .i64 0, .int .i64 0] 33) := ⟨_, rfl⟩
        have k1 : Below wr.heap.size wr W1 := by rw [hW1]; exact al_ _ _
        have bX : BoxAt W1 wr.heap.size [.int .i64 0, .int .i64 0] := by rw [hW1]; exact boxNew wr _ _
        obtain ⟨xb, hxb⟩ : ∃ xb, xb = wr.heap.size := ⟨_, rfl⟩
        rw [← hxb] at bX
        have HXB := hid hxb
        have HW1 := hid hW1
        have HL1 := HL.out.below k1
        have HP1 := hid (HP.out.below k1)
        have HPP := implPopped w.heap.size g L.length c L W1 HL1 rfl hL0 (by omega) (by have := k1.size; omega)
        have hgx : g ≠ xb := by omega
        have hgP : g ∉ hbl (.slice a2 P.length c2) := HD.out g (by simp [hbl, Value.ownBlock])
        have hxP : xb ∉ hbl (.slice a2 P.length c2) := fun hm => by have := (HP.out.lt xb hm).2; omega
        have HBX := hid bX
        have HK1 := hid (HK.out.trans (k1.mono hkw))
        have HPOP := hid (pops_cons hL0 (m - P.length - 1))
        have hpl := pop_len L
        obtain ⟨Q, hQ⟩ : ∃ Q, Q = popL L := ⟨_, rfl⟩
        obtain ⟨u, hu⟩ : ∃ u, u = gd L 0 := ⟨_, rfl⟩
        rw [← hQ] at HPP HPOP hpl
        rw [← hu] at HPP HPOP
        rw [← hpl] at HPP
        have HQL := hid hpl
        clear hW1 hxb bX k1 HL1 HL HP hQ hu hpl
        go_upto_region 5 with fail
        rw [← HW1.out, ← HXB.out]
        clear HW1
        go_wp2_with fail
        refine HPP.mono ?_
        rintro e w2 ⟨rfl, ho2, hf2⟩
        have HBX2 := hid (HBX.out.off hf2 (by simp; omega))
        have HP2 := hid (HP1.out.off hf2 (fun q hq hm => by simp at hm; subst hm; exact hgP hq))
        have HK2 := hid (HK1.out.trans (hf2.below HK1.out.size (fun q hq => by simp at hq; omega)))
        have r0 := HBX2.out.2.1 0 _ rfl
        have r1 := HBX2.out.2.1 1 _ rfl
        have rf0 := HBX2.out.2.2 0 (by simp)
        have rf1 := HBX2.out.2.2 1 (by simp)
        have rl := HBX2.out.1
        obtain ⟨W3, hW3⟩ : ∃ W3, W3 = (w2.setCell ⟨xb, 0, none⟩ (.int .i64 u.1)).setCell ⟨xb, 1, none⟩ (.int .i64 u.2) := ⟨_, rfl⟩
        have ofx : Off [xb] w2 W3 := by rw [hW3]; exact (off1 _ xb 0 _).trans (off1 _ xb 1 _)
        have HB3 : Hid (BoxAt W3 xb [.int .i64 u.1, .int .i64 u.2]) := by rw [hW3]; exact (HBX2.out.set 0 _).set 1 _
        have HO3 := hid (ho2.off ofx (fun q hq hm => by simp [hbl, Value.ownBlock] at hq; simp at hm; omega))
        have HP3 := hid (HP2.out.off ofx (fun q hq hm => by simp at hm; subst hm; exact hxP hq))
        have hxw : w.heap.size ≤ xb := by have := HXB.out; omega
        have HK3 := hid (HK2.out.trans (ofx.below HK2.out.size (fun q hq => by simp at hq; omega)))
        have HW3 := hid hW3
        clear hW3 ofx ho2 hf2 HPP HBX HBX2 HP1 HP2 HK1 HK2
        go_upto_region 6 with fail
        rw [← HW3.out]
        clear HW3 r0 r1 rf0 rf1 rl
        have x0 := HB3.out.2.1 0 _ rfl
        have x1 := HB3.out.2.1 1 _ rfl
        have xl := HB3.out.1
        have hk3 : w.heap.size ≤ W3.heap.size := HK3.out.size
        have HPN := hid (HP3.out.below (al_ W3 (.cells #[.int .i64 u.1, .int .i64 u.2] 33)))
        have HON := hid (HO3.out.below (al_ W3 (.cells #[.int .i64 u.1, .int .i64 u.2] 33)))
        go_wp2_with (first | (at_builtin; refine wplH rfl _ _ 26 Try.underlying26 rfl w.heap.size _ P HPN.out _ [u] 1 rfl (rd1 W3 u _) (by omega) ?cB rfl rfl ?_) | fail)
        case cB => exact Nat.le_trans hk3 (al_ _ _).size
        intro ra rc w4 ho4 hf4 hg4
        have HP4 := hid ho4
        have HO4 := hid (HON.out.off hf4 (fun q hq => by simp [hbl, Value.ownBlock] at hq; subst hq; exact hgP))
        have HK4 : Hid (Below w.heap.size w w4) := HK3.out.trans (((al_ W3 (.cells #[.int .i64 u.1, .int .i64 u.2] 33)).mono hk3).trans (hf4.below (by simp; omega) (fun q hq => (HPN.out.lt q hq).1)))
        have HD4 : Hid (∀ q ∈ hbl (.slice (some ⟨g, 0, none⟩) Q.length c), q ∉ hbl (.slice ra (P.length + 1) rc)) := fun q hq hm => by
          simp [hbl, Value.ownBlock] at hq
          subst hq
          rcases hg4 q hm with h9 | h9
          · exact hgP h9
          · have h8 := HO3.out.lt1.2; have h7 := (al_ W3 (.cells #[.int .i64 u.1, .int .i64 u.2] 33)).size; omega
        have HR4 : Hid ((P ++ [u]) ++ popsL Q (m - (P.length + 1)) = popsL l m) := by
          show _ = _
          rw [← HR.out, List.append_assoc, show m - P.length = m - P.length - 1 + 1 by omega, HPOP.out, show m - (P.length + 1) = m - P.length - 1 by omega]
          rfl
        have hPl : (P ++ [u]).length = P.length + 1 := by simp
        clear ho4 hf4 hg4 HPN HON HP3 HO3 HB3 x0 x1 xl HK3
        go_wp2
        refine ⟨?_, by have := HQL.out; simp; omega⟩
        first | exact ⟨Q, P ++ [u], _, _, _, _, rfl, by rw [hPl], by have := HQL.out; omega, by omega, HO4.out, by rw [hPl]; exact HP4.out, by rw [hPl]; exact HD4.out, HK4.out, by rw [hPl]; exact HR4.out⟩ | done
      · have hPi : ¬ (P.length : Int) < (m : Int) := by omega
        have HE : Hid (popsL l m = P) := by show _ = _; rw [← HR.out, show m - P.length = 0 by omega]; simp [popsL]
        go_wp2
        go_returns
        refine ⟨a2, c2, ?_, ?_, HK.out⟩
        · rw [HE.out]; rfl
        · rw [HE.out]; exact HP.out
    · have hLi : ¬ (0 : Int) < (L.length : Int) := by omega
      have HE : Hid (popsL l m = P) := by show _ = _; rw [← HR.out, pops_nil (by omega)]; simp
      go_wp2
      go_returns
      refine ⟨a2, c2, ?_, ?_, HK.out⟩
      · rw [HE.out]; rfl
      · rw [HE.out]; exact HP.out
end Go.Proofs.Ythdodlbhkpoadaa
