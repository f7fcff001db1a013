/- What puts to a heap and what takes from it. Condition: the heap is the call's own. -/
import Derived.Test.YthdodlbhkpoadaaHeapU
namespace Go.Proofs.Ythdodlbhkpoadaa
open Go.ChangeShapes Go.WideShapes Go.ChangeAt Go.RowKit Go.Deep
set_option linter.unusedVariables false
attribute [local go_sem ↓] Go.wp_at_zero Go.wp_at_succ

set_option maxHeartbeats 3200000 in
set_option maxRecDepth 100000 in
theorem implPushed (base : Nat) (v : Value) (l : List Sc) (x : Sc) (w : World) (h : OwnH base w v l) (hl : l.length + 1 ≤ 1048576) (hbs : base ≤ w.heap.size) :
    Calls Try.prog 73 #[v, .agg #[.int .i64 x.1, .int .i64 x.2]] w fun e w' => ∃ qa qc, e = .returned (.slice qa (l.length + 1) qc) ∧ OwnH base w' (.slice qa (l.length + 1) qc) (pushL l x) ∧ Off (hbl v) w w' ∧ (∀ g ∈ hbl (.slice qa (l.length + 1) qc), g ∈ hbl v ∨ w.heap.size ≤ g) := by
  obtain ⟨W1, hW1⟩ : ∃ W1, W1 = (w.alloc (.cells #[v] 63)).alloc (.cells #[.int .i64 x.1, .int .i64 x.2] 33) := ⟨_, rfl⟩
  have k1 : Below w.heap.size w W1 := by rw [hW1]; exact (al_ w _).trans ((al_ _ _).mono (by simp))
  have bb : BoxAt W1 w.heap.size [v] ∧ BoxAt W1 (w.heap.size + 1) [.int .i64 x.1, .int .i64 x.2] := by rw [hW1]; exact boxOf2 (Below.refl _ _)
  have hz1 : W1.heap.size = w.heap.size + 2 := by rw [hW1]; simp
  have hne : w.heap.size ∉ hbl v := fun hm => by have := (h.lt _ hm).2; omega
  have HP := implPush base w.heap.size v l x W1 (h.below k1) bb.1 hne hl (Nat.le_trans hbs k1.size)
  obtain ⟨va, vc, hv⟩ := h.slice
  subst hv
  obtain ⟨hb, hhb⟩ : ∃ hb, hb = w.heap.size := ⟨_, rfl⟩
  have HHB := hid hhb
  have bX := bb.2
  have x0 := bX.2.1 0 _ rfl
  have x1 := bX.2.1 1 _ rfl
  have xl := bX.1
  rw [← hhb] at HP x0 x1 xl hne
  have HNE := hid hne
  have HW1 := hid hW1
  have HZ1 := hid hz1
  have HBX := hid bb.1
  clear hW1 bb bX h hz1 hne hhb
  go_enter Try.func73, Try.ntmps73
  go_upto_region 1 with fail
  rw [← HW1.out, ← HHB.out]
  go_wp2_with fail
  refine HP.mono ?_
  rintro e w2 ⟨qa, qc, rfl, ho2, hb2, hn2, hf2, hg2⟩
  obtain ⟨g, cap, hge, hg0, hg1⟩ := ho2.lies (by simp)
  rw [show (l ++ [x]).length = l.length + 1 by simp] at hge
  cases hge
  have HRI := implRise base g (l.length + 1) qc (l ++ [x]) w2 ho2 (by simp) (by simp) (by simp; omega)
  rw [show (l ++ [x]).length - 1 = l.length by simp] at HRI
  have hnb : hb ≠ g := fun e => hn2 (by rw [e]; simp [hbl, Value.ownBlock])
  have HB2 := hid hb2
  have HF2 := hid hf2
  have HG2 := hid hg2
  have c0 := hb2.2.1 0 _ rfl
  have cl := hb2.1
  clear ho2 hn2 hf2 hg2 hb2 x0 x1 xl HP
  go_wp2_with fail
  refine HRI.mono ?_
  rintro e w3 ⟨rfl, ho3, hf3⟩
  have hb3 := HB2.out.off hf3 (by simpa using hnb)
  have d0 := hb3.2.1 0 _ rfl
  have dl := hb3.1
  have HO3 := hid ho3
  have HFF : Hid (Off (hbl (.slice va l.length vc)) w w3) := by
    have h1 : Off (g :: hb :: hbl (.slice va l.length vc)) w w2 := ((Off.of k1).trans HF2.out).mono (fun y hy => .inl (List.mem_cons_of_mem _ hy))
    have h2 : Off (g :: hb :: hbl (.slice va l.length vc)) w w3 := h1.trans (hf3.mono (fun y hy => .inl (by simp at hy; simp [hy])))
    refine h2.mono (fun y hy => ?_)
    rcases List.mem_cons.1 hy with e | hy
    · subst e
      rcases HG2.out y (by simp [hbl, Value.ownBlock]) with h9 | h9
      · exact .inl h9
      · right; have := HZ1.out; omega
    · rcases List.mem_cons.1 hy with e | e
      · right; have := HHB.out; omega
      · exact .inl e
  have HGG : Hid (∀ y ∈ hbl (.slice (some ⟨g, 0, none⟩) (l.length + 1) qc), y ∈ hbl (.slice va l.length vc) ∨ w.heap.size ≤ y) := fun y hy => by
    rcases HG2.out y hy with h9 | h9
    · exact .inl h9
    · right; have := HZ1.out; omega
  clear ho3 hf3 hb3 c0 cl HRI
  go_wp2
  go_returns
  exact ⟨_, _, rfl, HO3.out, HFF.out, HGG.out⟩
theorem gd_last (l : List Sc) (h : 0 < l.length) : gd (sw l 0 (l.length - 1)) (l.length - 1) = gd l 0 := by
  rw [gd_sw _ _ _ _ h (by omega)]
  split
  · rename_i e; rw [e]
  · rw [if_pos rfl]
set_option maxHeartbeats 3200000 in
set_option maxRecDepth 100000 in
theorem implPopped (base g n cap : Nat) (l : List Sc) (w : World) (h : OwnH base w (.slice (some ⟨g, 0, none⟩) n cap) l) (hn : n = l.length) (h0 : 0 < l.length) (hl : l.length ≤ 1048576) (hbs : base ≤ w.heap.size) :
    Calls Try.prog 77 #[.slice (some ⟨g, 0, none⟩) n cap] w fun e w' => e = .returned (.tuple #[.slice (some ⟨g, 0, none⟩) (l.length - 1) cap, .agg #[.int .i64 (gd l 0).1, .int .i64 (gd l 0).2]]) ∧ OwnH base w' (.slice (some ⟨g, 0, none⟩) (l.length - 1) cap) (popL l) ∧ Off [g] w w' := by
  subst hn
  obtain ⟨W1, hW1⟩ : ∃ W1, W1 = (w.alloc (.cells #[.slice (some ⟨g, 0, none⟩) l.length cap] 63)).alloc (.cells #[.int .i64 0, .int .i64 0] 33) := ⟨_, rfl⟩
  have k1 : Below w.heap.size w W1 := by rw [hW1]; exact (al_ w _).trans ((al_ _ _).mono (by simp))
  have bb : BoxAt W1 w.heap.size [.slice (some ⟨g, 0, none⟩) l.length cap] ∧ BoxAt W1 (w.heap.size + 1) [.int .i64 0, .int .i64 0] := by rw [hW1]; exact boxOf2 (Below.refl _ _)
  have hz1 : W1.heap.size = w.heap.size + 2 := by rw [hW1]; simp
  have hgl := h.lt1
  obtain ⟨m, hm⟩ : ∃ m, l.length = m + 1 := ⟨l.length - 1, by omega⟩
  have hm1 : l.length - 1 = m := by omega
  have HSW := fun W hW => implSwap base g l.length cap l 0 m W hW rfl h0 (by omega) hl
  rw [show (((0 : Nat)) : Int) = 0 from rfl] at HSW
  have HPO := fun hb W hW hx hne hbs => implPop base hb g l.length cap (sw l 0 m) W hW (by rw [sw_len]) hx hne (by rw [sw_len]; omega) (by rw [sw_len]; omega) hbs
  have HSI := fun W hW => implSink base g m cap ((sw l 0 m).take m) W hW (by simp [sw_len]; omega) (by simp [sw_len]; omega)
  have hgm : gd (sw l 0 m) m = gd l 0 := by rw [← hm1]; exact gd_last l h0
  rw [sw_len, hm1, hgm] at HPO
  have HPL : Hid (popL l = sinkL ((sw l 0 m).take m) 0) := by show _ = _; rw [← hm1]; rfl
  rw [hm1]
  have hi1 : ((m + 1 : Nat) : Int) - 1 = (m : Int) := by omega
  have hmb : m < 1048576 := by omega
  obtain ⟨hb, hhb⟩ : ∃ hb, hb = w.heap.size := ⟨_, rfl⟩
  have HHB := hid hhb
  obtain ⟨rb, hrb⟩ : ∃ rb, rb = hb + 1 := ⟨_, rfl⟩
  have HRB := hid hrb
  rw [← hhb, ← hrb] at bb
  have hbg : hb ≠ g := by omega
  have hrg : rb ≠ g := by omega
  have hrh : rb ≠ hb := by omega
  have HOW := hid (h.below k1)
  have c0 := bb.1.2.1 0 _ rfl
  have cl := bb.1.1
  have HBX := hid bb.1
  have HBR := hid bb.2
  have HW1 := hid hW1
  have HZ1 := hid hz1
  have HK1 := hid k1
  have HLM := hid hm
  rw [hm] at HSW HPO HOW c0 HBX HW1 ⊢
  generalize gd l 0 = u at *
  clear hW1 bb h hz1 hhb hrb hgm k1 hm hm1 hl h0
  go_enter Try.func77, Try.ntmps77
  go_upto_region 1 with fail
  rw [← HW1.out, ← HHB.out, ← HRB.out]
  go_wp2_with fail
  refine (HSW _ HOW.out).mono ?_
  rintro e w2 ⟨rfl, ho2, hf2⟩
  have HB2 := hid (HBX.out.off hf2 (by simpa using hbg))
  have HR2 := hid (HBR.out.off hf2 (by simpa using hrg))
  have hbs2 : base ≤ w2.heap.size := by have := hf2.size; have := HK1.out.size; omega
  have HP2 := HPO hb w2 ho2 HB2.out hbg hbs2
  have HF2 := hid hf2
  clear ho2 hf2 HSW c0 cl HBX HBR HPO
  go_wp2_with fail
  refine HP2.mono ?_
  rintro e w3 ⟨rfl, ho3, hx3, hf3⟩
  have HR3 := hid (HR2.out.off hf3 (by simp; omega))
  have HOA := hid (ho3.below (al_ w3 (.cells #[.int .i64 u.1, .int .i64 u.2] 33)))
  have HBA := hid (hx3.below (al_ w3 (.cells #[.int .i64 u.1, .int .i64 u.2] 33)))
  have HRA := hid (HR3.out.below (al_ w3 (.cells #[.int .i64 u.1, .int .i64 u.2] 33)))
  have HXA := hid (boxNew w3 #[.int .i64 u.1, .int .i64 u.2] 33)
  have HF3 := hid (hf3.trans (Off.of (al_ w3 (.cells #[.int .i64 u.1, .int .i64 u.2] 33))))
  have c0 := hx3.2.1 0 _ rfl
  have cl := hx3.1
  have hgl3 := ho3.lt1.2
  have hf3s : Hid (rb < w3.heap.size) := HR3.out.1
  clear ho3 hx3 hf3 HB2 HR2 HP2 HR3
  go_wp2_with fail
  refine (HSI _ HOA.out).mono ?_
  rintro e w4 ⟨rfl, ho4, hf4⟩
  obtain ⟨xb, hxb⟩ : ∃ xb, xb = w3.heap.size := ⟨_, rfl⟩
  rw [← hxb] at HXA ⊢
  have HXB := hid hxb
  have hb4 := HBA.out.off hf4 (by simpa using hbg)
  have hr4 := HRA.out.off hf4 (by simpa using hrg)
  have hx4 := HXA.out.off hf4 (by simp; omega)
  have b0 := hb4.2.1 0 _ rfl
  have bl := hb4.1
  have r0 := hr4.2.1 0 _ rfl
  have r1 := hr4.2.1 1 _ rfl
  have rf0 := hr4.2.2 0 (by simp)
  have rf1 := hr4.2.2 1 (by simp)
  have rl := hr4.1
  have x0 := hx4.2.1 0 _ rfl
  have x1 := hx4.2.1 1 _ rfl
  have xl := hx4.1
  have HO4 := hid ho4
  have hxr : xb ≠ rb := by have h1 := hf3s.out; omega
  clear hxb
  have HFF : Hid (Off [g] w w4) := by
    have h1 : Off [hb, g] w w2 := (Off.of HK1.out).trans (HF2.out.mono (fun y hy => .inl (by simp at hy; simp [hy])))
    have h2 : Off [hb, g] w w4 := (h1.trans HF3.out).trans (hf4.mono (fun y hy => .inl (by simp at hy; simp [hy])))
    refine h2.mono (fun y hy => ?_)
    simp at hy
    rcases hy with e | e
    · right; have := HHB.out; omega
    · left; simp [e]
  have y0 := (hr4.set 0 (.int .i64 u.1)).2.1 0 _ rfl
  have y1 := ((hr4.set 0 (.int .i64 u.1)).set 1 (.int .i64 u.2)).2.1 1 _ rfl
  have HO5 : Hid (OwnH base ((w4.setCell ⟨rb, 0, none⟩ (.int .i64 u.1)).setCell ⟨rb, 1, none⟩ (.int .i64 u.2)) (.slice (some ⟨g, 0, none⟩) m cap) (popL l)) := by
    show OwnH _ _ _ _
    rw [HPL.out]
    exact ho4.off ((off1 _ rb 0 _).trans (off1 _ rb 1 _)) (fun x hx hm => by simp [hbl, Value.ownBlock] at hx; simp at hm; omega)
  have HF5 : Hid (Off [g] w ((w4.setCell ⟨rb, 0, none⟩ (.int .i64 u.1)).setCell ⟨rb, 1, none⟩ (.int .i64 u.2))) := by
    have h1 : Off [rb, g] w w4 := HFF.out.mono (fun y hy => .inl (by simp at hy; simp [hy]))
    have h2 : Off [rb, g] w ((w4.setCell ⟨rb, 0, none⟩ (.int .i64 u.1)).setCell ⟨rb, 1, none⟩ (.int .i64 u.2)) := h1.trans (((off1 _ rb 0 _).trans (off1 _ rb 1 _)).mono (fun y hy => .inl (by simp at hy; simp [hy])))
    refine h2.mono (fun y hy => ?_)
    simp at hy
    rcases hy with e | e
    · right; have := HHB.out; have := HRB.out; omega
    · left; simp [e]
  clear ho4 hf4 hb4 hr4 hx4 HSI c0 cl HBA HRA HXA
  go_upto_region 5 with fail
  go_region
  all_goals
    go_wp2_with fail
    (try simp only [Exit.inBlock, Exit.then])
    refine bodyPost_ret (v := .tuple #[.slice (some ⟨g, 0, none⟩) m cap, .agg #[.int .i64 u.1, .int .i64 u.2]]) ?r rfl ?_
    case r => simp [y0, y1, results, Try.results77, go_sem]; try rfl
    exact ⟨rfl, HO5.out.below ((Below.refl _ _).drew), HF5.out.trans (Off.of ((Below.refl _ _).drew))⟩
end Go.Proofs.Ythdodlbhkpoadaa
