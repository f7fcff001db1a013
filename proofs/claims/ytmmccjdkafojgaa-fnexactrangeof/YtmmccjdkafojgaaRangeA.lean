/- Contracts of the program's pairs in a range. Condition: the pairs lie in memory. -/
import Derived.Test.YtmmccjdkafojgaaImplAl
import Derived.Test.YtmmccjdkafojgaaImplT
import Derived.Test.YtmmccjdkafojgaaNeedK
namespace Go.Proofs.Ytmmccjdkafojgaa
open Go.ChangeShapes Go.WideShapes Go.ChangeAt Go.RowKit Go.Deep
set_option linter.unusedVariables false
attribute [local go_sem ↓] Go.wp_at_zero Go.wp_at_succ

/-- Whether a key is in the range. -/
def inB (f t k : ByteArray) : Bool := !lessB k f && lessB k t
def selP (f t : ByteArray) (p : List Pr) : List Pr := p.filter fun q => inB f t q.1
theorem leq_less (f k : ByteArray) : (Go.Op.bytesLess f.toList k.toList || f.toList == k.toList) = !Go.Op.bytesLess k.toList f.toList := by
  rw [← gt_less f k]; simp
theorem selP_take {f t : ByteArray} {p : List Pr} {k : Nat} (h : k < p.length) : selP f t (p.take (k + 1)) = selP f t (p.take k) ++ (if inB f t (p.getD k default).1 = true then [p.getD k default] else []) := by
  have e1 : p.take (k + 1) = p.take k ++ [p.getD k default] := by rw [List.take_succ_eq_append_getElem h]; simp [List.getD, h]
  unfold selP
  rw [e1, List.filter_append]
  generalize p.getD k default = q
  by_cases hb : inB f t q.1 = true
  · simp [hb]
  · simp [hb]
theorem selP_le (f t : ByteArray) (p : List Pr) : (selP f t p).length ≤ p.length := List.length_filter_le _ _
theorem selP_take_le (f t : ByteArray) (p : List Pr) (k : Nat) : (selP f t (p.take k)).length ≤ p.length := Nat.le_trans (selP_le _ _ _) (by simp; omega)
theorem implKeyIn (f t : ByteArray) (w : World) : Calls Try.prog 131 #[.string f, .string t] w fun e w' => ∃ b1 b2, e = .returned (.func (.func 158) #[] #[.pointer (some ⟨b1, 0, none⟩), .pointer (some ⟨b2, 0, none⟩)]) ∧ w'.cell? ⟨b1, 0, none⟩ = some (.string f) ∧ w'.cell? ⟨b2, 0, none⟩ = some (.string t) ∧ b1 < w'.heap.size ∧ b2 < w'.heap.size ∧ Below w.heap.size w w' := by
  go_enter Try.func131, Try.ntmps131
  go_wp2
  go_returns
  exact ⟨_, _, rfl, by simp [go_sem], by simp [go_sem], by simp; omega, by simp, by go_grown⟩
theorem implKeyIn1 (f t k : ByteArray) (w : World) (b1 b2 : Nat) (h1 : w.cell? ⟨b1, 0, none⟩ = some (.string f)) (h2 : w.cell? ⟨b2, 0, none⟩ = some (.string t)) :
    Calls Try.prog 158 #[.string k, .pointer (some ⟨b1, 0, none⟩), .pointer (some ⟨b2, 0, none⟩)] w fun e w' => e = .returned (.bool (inB f t k)) ∧ w' = w := by
  have hle := leq_less f k
  cases hg : Go.Op.bytesLess k.toList f.toList with
  | true =>
    have HB : Hid (inB f t k = false) := by show _ = _; unfold inB lessB; rw [hg]; rfl
    rw [hg] at hle
    have HLE : Hid ((Go.Op.bytesLess f.toList k.toList || f.toList == k.toList) = false) := hle
    have hl1 : Go.Op.bytesLess f.toList k.toList = false := by cases h : Go.Op.bytesLess f.toList k.toList <;> simp_all
    have hl2 : (f.toList == k.toList) = false := by cases h : (f.toList == k.toList) <;> simp_all
    clear hle hg
    go_enter Try.func158, Try.ntmps158
    go_wp2
    go_ret
    exact ⟨by rw [HB.out]; rfl, rfl⟩
  | false =>
    rw [hg] at hle
    have HB : Hid (inB f t k = Go.Op.bytesLess k.toList t.toList) := by show _ = _; unfold inB lessB; rw [hg]; rfl
    cases hl1 : Go.Op.bytesLess f.toList k.toList with
    | true =>
      clear hle hg
      go_enter Try.func158, Try.ntmps158
      go_wp2
      go_ret
      exact ⟨by rw [HB.out]; rfl, rfl⟩
    | false =>
      have hl2 : (f.toList == k.toList) = true := by simpa [hl1] using hle
      clear hle hg
      go_enter Try.func158, Try.ntmps158
      go_wp2
      go_ret
      exact ⟨by rw [HB.out]; rfl, rfl⟩
theorem offA (W : World) (g o : Nat) (u : Value) : Off [g] W (W.setCell ⟨g, o, none⟩ u) := ⟨rfl, rfl, rfl, by simp [World.setCell], fun k hk hn => setCell_other _ _ _ _ _ (by simpa using hn)⟩
set_option maxHeartbeats 12800000 in
set_option maxRecDepth 100000 in
theorem implOnly (p : List Pr) (f t : ByteArray) (kv vv : Value) (w : World) (b1 b2 : Nat) (hp : PrsAt w kv vv p) (h1 : w.cell? ⟨b1, 0, none⟩ = some (.string f)) (h2 : w.cell? ⟨b2, 0, none⟩ = some (.string t)) (hb1 : b1 < w.heap.size) (hb2 : b2 < w.heap.size) (h40 : p.length ≤ 40) :
    Calls Try.prog 130 #[.agg #[kv, vv], .func (.func 158) #[] #[.pointer (some ⟨b1, 0, none⟩), .pointer (some ⟨b2, 0, none⟩)]] w fun e w' => ∃ ku vu, e = .returned (.agg #[ku, vu]) ∧ PrsAt w' ku vu (selP f t p) ∧ Below w.heap.size w w' := by
  obtain ⟨a1, k1, rfl⟩ := hp.1.slice
  obtain ⟨a2, k2, rfl⟩ := hp.2.slice
  have HPR := hid hp
  have HC1 := hid h1
  have HC2 := hid h2
  obtain ⟨W0, hW0⟩ : ∃ W0, W0 = ((w.alloc (.cells #[.slice a1 p.length k1, .slice a2 p.length k2] 88)).alloc (.cells #[.slice none 0 0, .slice none 0 0] 88)).alloc (.cells #[.slice none 0 0, .slice none 0 0] 88) := ⟨_, rfl⟩
  have kb0 : Below w.heap.size w W0 := by rw [hW0]; exact (((Below.refl _ _).alloc (Nat.le_refl _) _).alloc (by simp) _).alloc (by simp; omega) _
  have bA : BoxAt W0 w.heap.size [.slice a1 p.length k1, .slice a2 p.length k2] := by rw [hW0]; exact ((boxNew w _ _).below (al1 _ _)).below (al1 _ _)
  have bR : BoxAt W0 (w.heap.size + 1) [.slice none 0 0, .slice none 0 0] := by
    rw [hW0]
    have := (boxNew (w.alloc (.cells #[.slice a1 p.length k1, .slice a2 p.length k2] 88)) #[.slice none 0 0, .slice none 0 0] 88).below (al1 _ (.cells #[.slice none 0 0, .slice none 0 0] 88))
    rwa [World.size_alloc] at this
  have bL : BoxAt W0 (w.heap.size + 1 + 1) [.slice none 0 0, .slice none 0 0] := by
    rw [hW0]
    have := boxNew ((w.alloc (.cells #[.slice a1 p.length k1, .slice a2 p.length k2] 88)).alloc (.cells #[.slice none 0 0, .slice none 0 0] 88)) #[.slice none 0 0, .slice none 0 0] 88
    rwa [World.size_alloc, World.size_alloc] at this
  have HBA := hid bA
  have HBR := hid bR
  obtain ⟨lb, hlb⟩ : ∃ lb, lb = w.heap.size + 1 + 1 := ⟨_, rfl⟩
  have x0 := bA.2.1 0 _ rfl
  have hal := bA.1
  clear bA bR hp h1 h2
  go_enter Try.func130, Try.ntmps130
  go_upto_region 2 with fail
  rw [← hW0]
  rw [← hlb] at bL ⊢
  have HLB : Hid (w.heap.size + 1 + 1 ≤ lb) := by show _ ≤ _; omega
  have HBL := hid bL
  have HKB0 := hid kb0
  have HZ : Hid (W0.heap.size = w.heap.size + 3) := by show _ = _; rw [hW0]; simp
  clear hW0 hlb bL kb0
  go_wp2_with fail
  go_loopw [6, 7, 11] (fun s4 s5 i wr => ∃ (k : Nat) (ku vu : Value), k ≤ p.length ∧ i = .int .i64 k ∧ BoxAt wr lb [ku, vu] ∧ PrsAt wr ku vu (selP f t (p.take k)) ∧ Off [lb] W0 wr ∧ Below w.heap.size w wr) (fun _ _ i _ => p.length - (intOf i).toNat)
  case atStart => exact ⟨0, _, _, Nat.zero_le _, rfl, HBL.out, ⟨RowsAt.nil _ _, RowsAt.nil _ _⟩, Off.refl _ _, HKB0.out⟩
  case round =>
    obtain ⟨k, ku, vu, hk, rfl, hbl, hpr, hfr, kbw⟩ := hrel
    obtain ⟨ua, uc, rfl⟩ := hpr.1.slice
    obtain ⟨ta, tc, rfl⟩ := hpr.2.slice
    have hlbn : lb ≠ w.heap.size := by have := HLB.out; omega
    have HBLr := hid hbl
    have HPRr := hid hpr
    have HFR := hid hfr
    have HKW := hid kbw
    have z0 := hbl.2.1 0 _ rfl
    have z1 := hbl.2.1 1 _ rfl
    have f0 := hbl.2.2 0 (by simp)
    have f1 := hbl.2.2 1 (by simp)
    have hll := hbl.1
    have bAr := HBA.out.off hfr (by simpa using Ne.symm hlbn)
    have y0 := bAr.2.1 0 _ rfl
    have y1 := bAr.2.1 1 _ rfl
    have halr := bAr.1
    have q1 := (kbw.cell (p := ⟨b1, 0, none⟩) hb1).trans HC1.out
    have q2 := (kbw.cell (p := ⟨b2, 0, none⟩) hb2).trans HC2.out
    have hq1 := Nat.lt_of_lt_of_le hb1 kbw.size
    have hq2 := Nat.lt_of_lt_of_le hb2 kbw.size
    clear hbl hpr hfr x0 bAr
    by_cases hlt : k < p.length
    · have hki : (k : Int) < (p.length : Int) := by omega
      have hk0 : (0 : Int) ≤ (k : Int) := by omega
      obtain ⟨g1, o1, d1, hce, hg1, hcl1⟩ := (HPR.out.1.below kbw).cell1 hlt
      cases hce
      obtain ⟨g2, o2, d2, hce, hg2, hcl2⟩ := (HPR.out.2.below kbw).cell1 hlt
      cases hce
      rw [keysV_get _ _ hlt] at hcl1
      rw [valsV_get _ _ hlt] at hcl2
      have hnx := selP_take (f := f) (t := t) hlt
      have hle := selP_take_le f t p k
      obtain ⟨⟨qk, qv⟩, hq⟩ : ∃ q, p.getD k default = q := ⟨_, rfl⟩
      rw [hq] at hcl1 hcl2 hnx
      simp only [] at hcl1 hcl2 hnx
      have HW := implKeyIn1 f t qk wr b1 b2 q1 q2
      obtain ⟨L, hL⟩ : ∃ L, selP f t (p.take k) = L := ⟨_, rfl⟩
      rw [hL] at hnx HPRr HBLr hle z0 z1
      clear hq hL q1 q2
      cases hin : inB f t qk with
      | false =>
        rw [hin] at HW
        have hnx2 : selP f t (p.take (k + 1)) = L := by rw [hnx, hin]; simp
        have HNX := hid hnx2
        clear hnx hnx2 hin
        go_wp2_with fail
        refine HW.mono ?_
        rintro e w9 ⟨rfl, hw9⟩
        subst w9
        clear HW
        go_wp2_with fail
        refine ⟨?_, by simp [intOf]; omega⟩
        exact ⟨k + 1, _, _, hlt, by go_num, HBLr.out, by rw [HNX.out]; exact HPRr.out, HFR.out, HKW.out⟩
      | true =>
        rw [hin] at HW
        have hnx2 : selP f t (p.take (k + 1)) = L ++ [(qk, qv)] := by rw [hnx, hin]; simp
        have HNX := hid hnx2
        have PW := fun W (hW : Below wr.heap.size wr W) => pairsWith L L.length qk qv (.slice ua L.length uc) (.slice ta L.length tc) W (HPRr.out.below hW) (Nat.le_refl _) (by omega)
        rw [List.take_length, List.drop_length, List.append_nil] at PW
        have PW0 := PW wr.drew (Below.drew (Below.refl _ _))
        obtain ⟨L2, hL2⟩ : ∃ L2, L ++ [(qk, qv)] = L2 := ⟨_, rfl⟩
        rw [hL2] at PW0 HNX
        have HSK : Hid (∀ W, Below wr.heap.size wr W → (fun w' : World => w'.cell? ⟨lb, 0, none⟩ = some (.slice ua L.length uc) ∧ w'.cell? ⟨lb, 1, none⟩ = some (.slice ta L.length tc) ∧ w'.cell? ⟨w.heap.size, 1, none⟩ = some (.slice (some ⟨g2, o2, none⟩) p.length k2) ∧ w'.cell? ⟨g2, o2 + k, none⟩ = some (.string qv)) W) := fun W hW =>
          ⟨(hW.cell hll).trans z0, (hW.cell hll).trans z1, (hW.cell halr).trans y1, (hW.cell hg2).trans hcl2⟩
        have hHeld := HSK.out wr.drew (Below.drew (Below.refl _ _))
        clear hnx hnx2 hin hL2 PW
        go_wp2_with fail
        refine HW.mono ?_
        rintro e w9 ⟨rfl, hw9⟩
        subst w9
        clear HW
        go_upto_region 6 with fail
        refine wp_region_swapL (m := 11) (S := fun w' : World => w'.cell? ⟨lb, 0, none⟩ = some (.slice ua L.length uc) ∧ w'.cell? ⟨lb, 1, none⟩ = some (.slice ta L.length tc) ∧ w'.cell? ⟨w.heap.size, 1, none⟩ = some (.slice (some ⟨g2, o2, none⟩) p.length k2) ∧ w'.cell? ⟨g2, o2 + k, none⟩ = some (.string qv)) (by kernel_rfl) rfl rfl rfl rfl (by kernel_rfl) (by kernel_rfl) ?_
        simp only [List.set_cons_zero, List.set_cons_succ]
        refine takeL (i := 0) (v := ?_) rfl (by kernel_rfl) (by kernel_rfl) (by kernel_rfl) (fun _ _ _ h => h) rfl ?_ (by assumption) ?_
        rotate_left
        · intro w hSw; (try dsimp only at hSw); go_simp; (try with_reducible rfl)
        (try simp only [Act.put, List.setIfInBounds_toArray, List.set_cons_zero, List.set_cons_succ])
        refine takeL (i := 1) (v := ?_) rfl (by kernel_rfl) (by kernel_rfl) (by kernel_rfl) (fun _ _ _ h => h) rfl ?_ (by assumption) ?_
        rotate_left
        · intro w hSw; (try dsimp only at hSw); go_simp; (try with_reducible rfl)
        (try simp only [Act.put, List.setIfInBounds_toArray, List.set_cons_zero, List.set_cons_succ])
        refine takeL (i := 2) (v := ?_) rfl (by kernel_rfl) (by kernel_rfl) (by kernel_rfl) (fun _ _ _ h => h) rfl ?_ (by assumption) ?_
        rotate_left
        · intro w hSw; (try dsimp only at hSw); go_simp; (try with_reducible rfl)
        (try simp only [Act.put, List.setIfInBounds_toArray, List.set_cons_zero, List.set_cons_succ])
        refine takeL (i := 3) (v := ?_) rfl (by kernel_rfl) (by kernel_rfl) (by kernel_rfl) (fun _ _ _ h => h) rfl ?_ (by assumption) ?_
        rotate_left
        · intro w hSw; (try dsimp only at hSw); go_simp; (try with_reducible rfl)
        (try simp only [Act.put, List.setIfInBounds_toArray, List.set_cons_zero, List.set_cons_succ])
        refine takeL (i := 4) (v := ?_) rfl (by kernel_rfl) (by kernel_rfl) (by kernel_rfl) (fun _ _ _ h => h) rfl ?_ (by assumption) ?_
        rotate_left
        · intro w hSw; (try dsimp only at hSw); go_simp; (try with_reducible rfl)
        (try simp only [Act.put, List.setIfInBounds_toArray, List.set_cons_zero, List.set_cons_succ])
        refine takeL (i := 5) (v := ?_) rfl (by kernel_rfl) (by kernel_rfl) (by kernel_rfl) (fun _ _ _ h => h) rfl ?_ (by assumption) ?_
        rotate_left
        · intro w hSw; (try dsimp only at hSw); go_simp; (try with_reducible rfl)
        (try simp only [Act.put, List.setIfInBounds_toArray, List.set_cons_zero, List.set_cons_succ])
        refine takeL (i := 6) (v := ?_) rfl (by kernel_rfl) (by kernel_rfl) (by kernel_rfl) (fun _ _ _ h => h) rfl ?_ (by assumption) ?_
        rotate_left
        · intro w hSw; (try dsimp only at hSw); go_simp; (try with_reducible rfl)
        (try simp only [Act.put, List.setIfInBounds_toArray, List.set_cons_zero, List.set_cons_succ])
        refine takeL (i := 7) (v := ?_) rfl (by kernel_rfl) (by kernel_rfl) (by kernel_rfl) (fun _ _ _ h => h) rfl ?_ (by assumption) ?_
        rotate_left
        · intro w hSw; (try dsimp only at hSw); go_simp; (try with_reducible rfl)
        (try simp only [Act.put, List.setIfInBounds_toArray, List.set_cons_zero, List.set_cons_succ])
        refine takeL (i := 8) (v := ?_) rfl (by kernel_rfl) (by kernel_rfl) (by kernel_rfl) (fun _ _ _ h => h) rfl ?_ (by assumption) ?_
        rotate_left
        · intro w hSw; (try dsimp only at hSw); go_simp; (try with_reducible rfl)
        (try simp only [Act.put, List.setIfInBounds_toArray, List.set_cons_zero, List.set_cons_succ])
        refine takeL (i := 9) (v := ?_) rfl (by kernel_rfl) (by kernel_rfl) (by kernel_rfl) (fun _ _ _ h => h) rfl ?_ (by assumption) ?_
        rotate_left
        · intro w hSw; (try dsimp only at hSw); go_simp; (try with_reducible rfl)
        (try simp only [Act.put, List.setIfInBounds_toArray, List.set_cons_zero, List.set_cons_succ])
        refine comesL (i := 10) rfl rfl (by kernel_rfl) (fun K hK => ?_)
        go_simp
        refine PW0.mono ?_
        rintro e wP ⟨pk, pv, rfl, hpP, bP⟩
        have kP : Below wr.heap.size wr wP := Below.trans (Below.drew (Below.refl _ _)) (bP.mono (by simp))
        obtain ⟨pa, pc, rfl⟩ := hpP.1.slice
        obtain ⟨ra, rc, rfl⟩ := hpP.2.slice
        have HPP := hid hpP
        have bLR := HBLr.out.below kP
        have n0 := bLR.2.1 0 _ rfl
        have n1 := bLR.2.1 1 _ rfl
        have o0 := bLR.2.2 0 (by simp)
        have o1' := bLR.2.2 1 (by simp)
        have hlr := bLR.1
        clear hpP bP PW0
        (try dsimp only)
        refine hK.out _ _ (HSK.out wP kP) (fun hHeld2 => ?_)
        clear hK K hHeld HSK
        (try simp only [Act.put, List.setIfInBounds_toArray, List.set_cons_zero, List.set_cons_succ])
        have hHeld := hHeld2
        clear hHeld2
        refine takeL (i := 11) (v := ?_) rfl (by kernel_rfl) (by kernel_rfl) (by kernel_rfl) (fun _ _ _ h => h) rfl ?_ (by assumption) ?_
        rotate_left
        · intro w hSw; (try dsimp only at hSw); go_simp; (try with_reducible rfl)
        (try simp only [Act.put])
        refine wpAnyH_done (by kernel_rfl) ?_ _
        simp only [LastQ]
        go_simp
        clear hHeld
        have HBX := hid ((bLR.set 0 (.slice pa L2.length pc)).set 1 (.slice ra L2.length rc))
        have HPX := hid ((HPP.out.set (v := .slice pa L2.length pc) bLR (i := 0) (by simp) (by simp)).set (v := .slice ra L2.length rc) (bLR.set 0 (.slice pa L2.length pc)) (i := 1) (by simp) (by simp))
        have HKX := hid (bel_set (bel_set (HKW.out.trans (kP.mono HKW.out.size)) (by have := HLB.out; omega : w.heap.size ≤ lb) 0 (.slice pa L2.length pc)) (by have := HLB.out; omega : w.heap.size ≤ lb) 1 (.slice ra L2.length rc))
        have HFX := hid (((HFR.out.trans (Off.of kP)).trans (offA _ lb 0 (.slice pa L2.length pc))).trans (offA _ lb 1 (.slice ra L2.length rc)))
        clear bLR n0 n1 o0 o1' kP
        go_wp2_with fail
        refine ⟨?_, by simp [intOf]; omega⟩
        first | exact ⟨k + 1, _, _, hlt, by go_num, HBX.out, by rw [HNX.out]; exact HPX.out, HFX.out, HKX.out⟩ | ((repeat apply Exists.intro); exact ⟨⟨k + 1, _, _, hlt, by go_num, HBX.out, by rw [HNX.out]; exact HPX.out, HFX.out, HKX.out⟩, rfl⟩)
    · have hke : k = p.length := by omega
      subst hke
      have hki : ¬ ((p.length : Int) < (p.length : Int)) := by omega
      rw [List.take_length] at HPRr z0 z1
      have hrne : w.heap.size + 1 ≠ lb := by have := HLB.out; omega
      have bRr := HBR.out.off HFR.out (by simpa using hrne)
      have r0 := bRr.2.1 0 _ rfl
      have r1 := bRr.2.1 1 _ rfl
      have s0 := bRr.2.2 0 (by simp)
      have s1 := bRr.2.2 1 (by simp)
      have hrl1 := bRr.1
      have HPS := hid HPRr.out
      obtain ⟨A, hA⟩ : ∃ A, selP f t p = A := ⟨_, rfl⟩
      rw [hA] at HPS z0 z1
      have HA := hid hA
      have c1 := bRr.set 0 (.slice ua A.length uc)
      have c2 := c1.set 1 (.slice ta A.length tc)
      have y7 := c2.2.1 0 _ rfl
      have y8 := c2.2.1 1 _ rfl
      have HP2 := hid ((HPS.out.set (v := .slice ua A.length uc) bRr (i := 0) (by simp) (by simp)).set (v := .slice ta A.length tc) c1 (i := 1) (by simp) (by simp))
      have HKB := hid (bel_set (bel_set HKW.out (by omega : w.heap.size ≤ w.heap.size + 1) 0 (.slice ua A.length uc)) (by omega : w.heap.size ≤ w.heap.size + 1) 1 (.slice ta A.length tc))
      clear c1 c2 bRr hA
      go_wp2_with fail
      (try simp only [Exit.inBlock, Exit.then])
      refine bodyPost_ret (v := .agg #[.slice ua A.length uc, .slice ta A.length tc]) ?r rfl ?_
      case r => simp [y7, y8, results, Try.results130, go_sem]; try rfl
      exact ⟨_, _, rfl, by rw [HA.out]; exact HP2.out, HKB.out⟩
end Go.Proofs.Ytmmccjdkafojgaa
