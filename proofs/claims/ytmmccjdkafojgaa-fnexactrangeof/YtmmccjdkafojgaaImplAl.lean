/- Contract of the program's list of all pairs of a node. Condition: the node lies in memory. -/
import Derived.Test.YtmmccjdkafojgaaPairsM
import Derived.Test.YtmmccjdkafojgaaSwap
namespace Go.Proofs.Ytmmccjdkafojgaa
open Go.ChangeShapes Go.WideShapes Go.ChangeAt Go.RowKit Go.Deep
set_option linter.unusedVariables false
attribute [local go_sem ↓] Go.wp_at_zero Go.wp_at_succ

theorem done_next (p : List Pr) (kids : List Nd) (k : Nat) (h1 : k < p.length) (h2 : kids.length = p.length + 1) : doneN p kids (k + 2) = doneN p kids (k + 1) ++ [p.getD k default] ++ allN (kids.getD (k + 1) default) := by
  show preN p kids (k + 1) ++ allN (kids.getD (k + 1) default) = (preN p kids k ++ allN (kids.getD k default)) ++ [p.getD k default] ++ allN (kids.getD (k + 1) default)
  rw [preN_succ p kids k h1 (by omega)]
theorem done_all (p : List Pr) (kids : List Nd) (h2 : kids.length = p.length + 1) : doneN p kids (p.length + 1) = allN (.mk p kids) := (allN_eq p kids h2).symm
theorem done_le (p : List Pr) (kids : List Nd) (h2 : kids.length = p.length + 1) : ∀ j k, j + k = p.length → (doneN p kids (k + 1)).length ≤ (allN (.mk p kids)).length
  | 0, k, h => by
    have : k = p.length := by omega
    subst this
    rw [done_all p kids h2]; exact Nat.le_refl _
  | j + 1, k, h => by
    have h3 := done_le p kids h2 j (k + 1) (by omega)
    rw [done_next p kids k (by omega) h2] at h3
    simp only [List.length_append] at h3
    omega
set_option maxHeartbeats 12800000 in
set_option maxRecDepth 100000 in
theorem implAll : ∀ (t : Nd), Shape t → (allN t).length ≤ 40 → ∀ (kv vv cv : Value) (w : World), NodeP (fun _ => True) w t kv vv cv →
    Calls Try.prog 79 #[.agg #[kv, vv, cv]] w fun e w' => ∃ ku vu, e = .returned (.agg #[ku, vu]) ∧ PrsAt w' ku vu (allN t) ∧ Below w.heap.size w w' := by
  intro t
  induction t using Nd.ind with
  | h p kids ih =>
    intro hsh h40 kv vv cv w hn
    obtain ⟨a1, k1, a2, k2, a3, k3, rfl, rfl, rfl⟩ := hn.slices
    have hk5 := (shape_kids hsh).1
    have hp4 := (shape_kids hsh).2
    simp only [Nd.prs, Nd.kids] at hn hk5 hp4 ⊢
    have HL := fun W => implLeaf a1 a2 a3 p.length p.length kids.length k1 k2 k3 W (by omega)
    have HN := hid hn
    have HPR : Hid (PrsAt w (.slice a1 p.length k1) (.slice a2 p.length k2) p) := ⟨hn.1.1, hn.2.1.1⟩
    obtain ⟨W0, hW0⟩ : ∃ W0, W0 = (w.alloc (.cells #[.slice a1 p.length k1, .slice a2 p.length k2, .slice a3 kids.length k3] 92)).alloc (.cells #[.slice none 0 0, .slice none 0 0] 88) := ⟨_, rfl⟩
    have kb0 : Below w.heap.size w W0 := by rw [hW0]; exact ((Below.refl _ _).alloc (Nat.le_refl _) _).alloc (by simp) _
    have hzs : W0.heap.size = w.heap.size + 1 + 1 := by rw [hW0]; simp
    have bA : BoxAt W0 w.heap.size [.slice a1 p.length k1, .slice a2 p.length k2, .slice a3 kids.length k3] := by rw [hW0]; exact (boxNew w _ _).below (al1 _ _)
    have bR : BoxAt W0 (w.heap.size + 1) [.slice none 0 0, .slice none 0 0] := by
      rw [hW0]
      have := boxNew (w.alloc (.cells #[.slice a1 p.length k1, .slice a2 p.length k2, .slice a3 kids.length k3] 92)) #[.slice none 0 0, .slice none 0 0] 88
      rwa [World.size_alloc] at this
    have HBA := hid bA
    have HBR := hid bR
    have x0 := bA.2.1 0 _ rfl
    have x1 := bA.2.1 1 _ rfl
    have x2 := bA.2.1 2 _ rfl
    have hal := bA.1
    have IH := hid ih
    clear bA bR hn ih
    by_cases h0 : kids.length = 0
    · have hkn : kids = [] := List.eq_nil_of_length_eq_zero h0
      have HAL : Hid (allN (.mk p kids) = p) := by show _ = _; rw [hkn]; exact allN_leaf p
      rw [decide_eq_true h0] at HL
      have HL0 := HL W0
      clear hkn h0
      go_enter Try.func79, Try.ntmps79
      go_upto_region 1 with fail
      rw [← hW0]
      clear hW0
      go_wp2_with fail
      refine HL0.mono ?_
      rintro e w1 ⟨rfl, hb1⟩
      have bA1 := HBA.out.below hb1
      have bR1 := HBR.out.below hb1
      have y0 := bA1.2.1 0 _ rfl
      have y1 := bA1.2.1 1 _ rfl
      have hal1 := bA1.1
      have r0 := bR1.2.1 0 _ rfl
      have r1 := bR1.2.1 1 _ rfl
      have s0 := bR1.2.2 0 (by simp)
      have s1 := bR1.2.2 1 (by simp)
      have hrl1 := bR1.1
      have kb1 : Below w.heap.size w w1 := kb0.trans (hb1.mono kb0.size)
      have c1 := bR1.set 0 (.slice a1 p.length k1)
      have c2 := c1.set 1 (.slice a2 p.length k2)
      have z0 := c2.2.1 0 _ rfl
      have z1 := c2.2.1 1 _ rfl
      have HP2 := hid (((HPR.out.below kb1).set (v := .slice a1 p.length k1) bR1 (i := 0) (by simp) (by simp)).set (v := .slice a2 p.length k2) c1 (i := 1) (by simp) (by simp))
      have HKB := hid (bel_set (bel_set kb1 (by omega : w.heap.size ≤ w.heap.size + 1) 0 (.slice a1 p.length k1)) (by omega : w.heap.size ≤ w.heap.size + 1) 1 (.slice a2 p.length k2))
      clear c1 c2 bA1 bR1 hb1 HL HL0
      go_wp2_with fail
      (try simp only [Exit.inBlock, Exit.then])
      refine bodyPost_ret (v := .agg #[.slice a1 p.length k1, .slice a2 p.length k2]) ?r rfl ?_
      case r => simp [z0, z1, results, Try.results79, go_sem]; try rfl
      exact ⟨_, _, rfl, by rw [HAL.out]; exact HP2.out, HKB.out⟩
    · have hkl : kids.length = p.length + 1 := by
        cases hsh with
        | mk _ _ _ hk _ =>
          rcases hk with rfl | hk
          · simp at h0
          · exact hk
      have hmem : ∀ i, i < kids.length → kids.getD i default ∈ kids := fun i hi => by simp [List.getD, hi]
      have hk40 : ∀ i, i < kids.length → (allN (kids.getD i default)).length ≤ 40 := fun i hi => by
        have h1 := (inter_kid kids p hkl _ (hmem i hi)).length_le
        rw [allN] at h40
        omega
      have HIH := hid (fun i (hi : i < kids.length) => IH.out (kids.getD i default) (hmem i hi) (shape_kid hsh hi) (hk40 i hi))
      have HDL := hid (fun k (hk : k ≤ p.length) => Nat.le_trans (done_le p kids hkl (p.length - k) k (by omega)) h40)
      have HK40 := hid hk40
      have HKL := hid hkl
      rw [decide_eq_false h0] at HL
      have HL0 := HL W0
      obtain ⟨b, off, c, x, y, z, hce, hb, c0, c1, c2, hnk⟩ := HN.out.kid (i := 0) (by omega)
      cases hce
      have HI00 := HIH.out 0 (by omega)
      obtain ⟨K0, hK0⟩ : ∃ K0, kids.getD 0 default = K0 := ⟨_, rfl⟩
      rw [hK0] at hnk HI00
      have HK0 := hid hK0
      clear hK0
      obtain ⟨q1, l1, q2, l2, q3, l3, rfl, rfl, rfl⟩ := hnk.slices
      have HNK := hid hnk
      simp only [Nat.zero_mul, Nat.add_zero] at c0 c1 c2
      have HC0 : Hid (w.cell? ⟨b, off, none⟩ = some _ ∧ w.cell? ⟨b, off + 1, none⟩ = some _ ∧ w.cell? ⟨b, off + 2, none⟩ = some _) := ⟨c0, c1, c2⟩
      clear hsh h40 hmem hk40 hnk IH c0 c1 c2 HL h0
      have hki0 : (0 : Int) < (kids.length : Int) := by omega
      clear hkl
      go_enter Try.func79, Try.ntmps79
      go_upto_region 1 with fail
      rw [← hW0]
      clear hW0
      go_wp2_with fail
      refine HL0.mono ?_
      rintro e w1 ⟨rfl, hb1⟩
      have kb1 : Below w.heap.size w w1 := kb0.trans (hb1.mono kb0.size)
      have bA1 := HBA.out.below hb1
      have bR1 := HBR.out.below hb1
      have y2 := bA1.2.1 2 _ rfl
      have hal1 := bA1.1
      have c0 := (kb1.cell (p := ⟨b, off, none⟩) hb).trans HC0.out.1
      have c1 := (kb1.cell (p := ⟨b, off + 1, none⟩) hb).trans HC0.out.2.1
      have c2 := (kb1.cell (p := ⟨b, off + 2, none⟩) hb).trans HC0.out.2.2
      have hb1' : b < w1.heap.size := Nat.lt_of_lt_of_le hb kb1.size
      have HI0 := HI00 _ _ _ w1 (HNK.out.below kb1)
      have HZ1 : Hid (W0.heap.size ≤ w1.heap.size) := hb1.size
      have HA1 := hid bA1
      have HR1 := hid bR1
      clear hb1 HL0 bA1 bR1 x0 x1 x2 hal
      go_wp2_with fail
      refine HI0.mono ?_
      rintro e w2 ⟨ku, vu, rfl, hp2, hb2⟩
      obtain ⟨ka, kc, rfl⟩ := hp2.1.slice
      obtain ⟨va, vc, rfl⟩ := hp2.2.slice
      have kb2 : Below w.heap.size w w2 := kb1.trans (hb2.mono kb1.size)
      have HA2 := hid (HA1.out.below hb2)
      have HR2 := hid (HR1.out.below hb2)
      have HP2 := hid hp2
      have HZ2 : Hid (W0.heap.size ≤ w2.heap.size) := Nat.le_trans HZ1.out hb2.size
      clear hb2 hp2 HI0 y2 c0 c1 c2 hal1 hb1' HA1 HR1
      have y0 := HA2.out.2.1 0 _ rfl
      have hal2 := HA2.out.1
      go_upto_region 4 with fail
      obtain ⟨lb, hlb⟩ : ∃ lb, lb = w2.heap.size := ⟨_, rfl⟩
      obtain ⟨W3, hW3⟩ : ∃ W3, W3 = w2.alloc (.cells #[.slice ka (allN K0).length kc, .slice va (allN K0).length vc] 88) := ⟨_, rfl⟩
      have bL : BoxAt W3 lb [.slice ka (allN K0).length kc, .slice va (allN K0).length vc] := by rw [hW3, hlb]; exact boxNew w2 _ _
      have kb3 : Below w2.heap.size w2 W3 := by rw [hW3]; exact al1 _ _
      rw [← hW3, ← hlb]
      have HLB : Hid (w2.heap.size ≤ lb) := by show _ ≤ _; omega
      have HD0 : Hid (PrsAt W3 (.slice ka (allN K0).length kc) (.slice va (allN K0).length vc) (doneN p kids (0 + 1))) := by
        have : doneN p kids (0 + 1) = allN K0 := by rw [← HK0.out]; simp [doneN, preN_zero]
        rw [this]; exact HP2.out.below kb3
      have HBL := hid bL
      have HKB3 := hid kb3
      have y0 := (HA2.out.below kb3).2.1 0 _ rfl
      have hal3 := (HA2.out.below kb3).1
      have HALN := hid hal2
      clear hW3 hlb bL kb3 hal2
      go_wp2_with fail
      go_loopw [4, 5, 19] (fun s4 s5 i wr => ∃ (k : Nat) (ku vu : Value), k ≤ p.length ∧ i = .int .i64 k ∧ BoxAt wr lb [ku, vu] ∧ PrsAt wr ku vu (doneN p kids (k + 1)) ∧ Below w2.heap.size w2 wr) (fun _ _ i _ => p.length - (intOf i).toNat)
      case atStart => exact ⟨0, _, _, Nat.zero_le _, rfl, HBL.out, HD0.out, HKB3.out⟩
      case round =>
        obtain ⟨k, ku, vu, hk, rfl, hbl, hpr, kb⟩ := hrel
        obtain ⟨ua, uc, rfl⟩ := hpr.1.slice
        obtain ⟨ta, tc, rfl⟩ := hpr.2.slice
        have HBLr := hid hbl
        have HPRr := hid hpr
        have HKr := hid kb
        have HAr := hid (HA2.out.below kb)
        have kbw : Below w.heap.size w wr := kb2.trans (kb.mono kb2.size)
        have z0 := hbl.2.1 0 _ rfl
        have z1 := hbl.2.1 1 _ rfl
        have f0 := hbl.2.2 0 (by simp)
        have f1 := hbl.2.2 1 (by simp)
        have hll := hbl.1
        clear hbl hpr y0 hal3
        have y0 := HAr.out.2.1 0 _ rfl
        have y1 := HAr.out.2.1 1 _ rfl
        have y2 := HAr.out.2.1 2 _ rfl
        have halr := HAr.out.1
        have hlbn : lb ≠ w.heap.size := by have := HLB.out; have := HALN.out; omega
        by_cases hlt : k < p.length
        · have hki : (k : Int) < (p.length : Int) := by omega
          have hk0 : (0 : Int) ≤ (k : Int) := by omega
          obtain ⟨b1, o1, d1, hce, hb1, hcl1⟩ := (HPR.out.1.below kbw).cell1 hlt
          cases hce
          obtain ⟨b2, o2, d2, hce, hb2, hcl2⟩ := (HPR.out.2.below kbw).cell1 hlt
          cases hce
          rw [keysV_get _ _ hlt] at hcl1
          rw [valsV_get _ _ hlt] at hcl2
          have hkk : k + 1 < kids.length := by have := HKL.out; omega
          have hnk2 := HN.out.kid hkk
          obtain ⟨b', off', c', nx, ny, nz, hce, hbw, d0, d1, d2, hnk⟩ := hnk2
          cases hce
          have HIk := HIH.out (k + 1) hkk
          have HNX := hid (done_next p kids k hlt HKL.out)
          have hdl := HDL.out k hk
          have hdl2 := HK40.out (k + 1) hkk
          obtain ⟨Kk, hKk⟩ : ∃ Kk, kids.getD (k + 1) default = Kk := ⟨_, rfl⟩
          rw [hKk] at HIk HNX hnk hdl2
          obtain ⟨⟨qk, qv⟩, hq⟩ : ∃ q, p.getD k default = q := ⟨_, rfl⟩
          rw [hq] at hcl1 hcl2 HNX
          simp only [] at hcl1 hcl2
          obtain ⟨g1, m1, g2, m2, g3, m3, rfl, rfl, rfl⟩ := hnk.slices
          obtain ⟨L, hL⟩ : ∃ L, doneN p kids (k + 1) = L := ⟨_, rfl⟩
          rw [hL] at HPRr HNX hdl z0 z1
          have e0 := (kbw.cell (p := ⟨b, off + (k + 1) * 3, none⟩) hbw).trans d0
          have e1 := (kbw.cell (p := ⟨b, off + (k + 1) * 3 + 1, none⟩) hbw).trans d1
          have e2 := (kbw.cell (p := ⟨b, off + (k + 1) * 3 + 2, none⟩) hbw).trans d2
          have hbr : b < wr.heap.size := Nat.lt_of_lt_of_le hbw kbw.size
          have hk1i : (k : Int) + 1 < (kids.length : Int) := by omega
          have hk1z : (0 : Int) ≤ (k : Int) + 1 := by omega
          have hk1w : IntKind.i64.wrap ((k : Int) + 1) = ((k + 1 : Nat) : Int) := by rw [IntKind.wrap_i64]; omega
          have hk1c : ((k + 1 : Nat) : Int) = (k : Int) + 1 := by omega
          have PW := fun W (hW : Below wr.heap.size wr W) => pairsWith L L.length qk qv (.slice ua L.length uc) (.slice ta L.length tc) W (HPRr.out.below hW) (Nat.le_refl _) (by omega)
          rw [List.take_length, List.drop_length, List.append_nil] at PW
          have PW0 := PW wr.drew (Below.drew (Below.refl _ _))
          have PI := fun W (hW : Below wr.heap.size wr W) => HIk _ _ _ W (hnk.below (kbw.trans (hW.mono kbw.size)))
          have PA := fun ku vu ku2 vu2 W h g => pairsAnd (L ++ [(qk, qv)]) (allN Kk) ku vu ku2 vu2 W h g (by simp; omega) (by omega)
          rw [← HNX.out] at PA
          obtain ⟨L2, hL2⟩ : ∃ L2, L ++ [(qk, qv)] = L2 := ⟨_, rfl⟩
          rw [hL2] at PA PW0
          clear hL2
          have HSZ := hid kb.size
          clear d0 d1 d2 hnk HIk hKk hq hL hkk hdl hdl2 PW
          go_upto_region 7 with fail
          have SK : ∀ W, Below wr.heap.size wr W → (fun w' : World => w'.cell? ⟨lb, 0, none⟩ = some (.slice ua L.length uc) ∧ w'.cell? ⟨lb, 1, none⟩ = some (.slice ta L.length tc) ∧ w'.cell? ⟨w.heap.size, 1, none⟩ = some (.slice (some ⟨b2, o2, none⟩) p.length k2) ∧ w'.cell? ⟨w.heap.size, 2, none⟩ = some (.slice (some ⟨b, off, none⟩) kids.length k3) ∧ w'.cell? ⟨b2, o2 + k, none⟩ = some (.string qv) ∧ w'.cell? ⟨b, off + (k + 1) * 3, none⟩ = some (.slice g1 Kk.prs.length m1) ∧ w'.cell? ⟨b, off + (k + 1) * 3 + 1, none⟩ = some (.slice g2 Kk.prs.length m2) ∧ w'.cell? ⟨b, off + (k + 1) * 3 + 2, none⟩ = some (.slice g3 Kk.kids.length m3)) W := fun W hW =>
            ⟨(hW.cell hll).trans z0, (hW.cell hll).trans z1, (hW.cell halr).trans y1, (hW.cell halr).trans y2, (hW.cell hb2).trans hcl2, (hW.cell hbr).trans e0, (hW.cell hbr).trans e1, (hW.cell hbr).trans e2⟩
          have HSK := hid SK
          have hHeld := SK wr.drew (Below.drew (Below.refl _ _))
          clear SK
          refine wp_region_swapL (m := 20) (S := fun w' : World => w'.cell? ⟨lb, 0, none⟩ = some (.slice ua L.length uc) ∧ w'.cell? ⟨lb, 1, none⟩ = some (.slice ta L.length tc) ∧ w'.cell? ⟨w.heap.size, 1, none⟩ = some (.slice (some ⟨b2, o2, none⟩) p.length k2) ∧ w'.cell? ⟨w.heap.size, 2, none⟩ = some (.slice (some ⟨b, off, none⟩) kids.length k3) ∧ w'.cell? ⟨b2, o2 + k, none⟩ = some (.string qv) ∧ w'.cell? ⟨b, off + (k + 1) * 3, none⟩ = some (.slice g1 Kk.prs.length m1) ∧ w'.cell? ⟨b, off + (k + 1) * 3 + 1, none⟩ = some (.slice g2 Kk.prs.length m2) ∧ w'.cell? ⟨b, off + (k + 1) * 3 + 2, none⟩ = some (.slice g3 Kk.kids.length m3)) (by kernel_rfl) rfl rfl rfl rfl (by kernel_rfl) (by kernel_rfl) ?_
          simp only [List.set_cons_zero, List.set_cons_succ]
          refine takeL (i := 0) (v := ?_) rfl (by kernel_rfl) (by kernel_rfl) (by kernel_rfl) (fun _ _ _ h => h) rfl ?_ (by assumption) ?_
          rotate_left
          · intro w hSw; (try dsimp only at hSw); go_simp; (try with_reducible rfl)
          (try simp only [Act.put, List.setIfInBounds_toArray, List.set_cons_zero, List.set_cons_succ])
          refine takeL (i := 1) (v := ?_) rfl (by kernel_rfl) (by kernel_rfl) (by kernel_rfl) (fun _ _ _ h => h) rfl ?_ (by assumption) ?_
          rotate_left
          · intro w hSw; (try dsimp only at hSw); go_simp; (try with_reducible rfl)
          (try simp only [Act.put, List.setIfInBounds_toArray, List.set_cons_zero, List.set_cons_succ])
          refine takeL (i := 2) (v := ?_) rfl (by kernel_rfl) (by kernel_rfl) (by kernel_rfl) (fun _ _ _ h => h) rfl ?_ (by assumption) ?_
          rotate_left
          · intro w hSw; (try dsimp only at hSw); go_simp; (try with_reducible rfl)
          (try simp only [Act.put, List.setIfInBounds_toArray, List.set_cons_zero, List.set_cons_succ])
          refine takeL (i := 3) (v := ?_) rfl (by kernel_rfl) (by kernel_rfl) (by kernel_rfl) (fun _ _ _ h => h) rfl ?_ (by assumption) ?_
          rotate_left
          · intro w hSw; (try dsimp only at hSw); go_simp; (try with_reducible rfl)
          (try simp only [Act.put, List.setIfInBounds_toArray, List.set_cons_zero, List.set_cons_succ])
          refine takeL (i := 4) (v := ?_) rfl (by kernel_rfl) (by kernel_rfl) (by kernel_rfl) (fun _ _ _ h => h) rfl ?_ (by assumption) ?_
          rotate_left
          · intro w hSw; (try dsimp only at hSw); go_simp; (try with_reducible rfl)
          (try simp only [Act.put, List.setIfInBounds_toArray, List.set_cons_zero, List.set_cons_succ])
          refine takeL (i := 5) (v := ?_) rfl (by kernel_rfl) (by kernel_rfl) (by kernel_rfl) (fun _ _ _ h => h) rfl ?_ (by assumption) ?_
          rotate_left
          · intro w hSw; (try dsimp only at hSw); go_simp; (try with_reducible rfl)
          (try simp only [Act.put, List.setIfInBounds_toArray, List.set_cons_zero, List.set_cons_succ])
          refine takeL (i := 6) (v := ?_) rfl (by kernel_rfl) (by kernel_rfl) (by kernel_rfl) (fun _ _ _ h => h) rfl ?_ (by assumption) ?_
          rotate_left
          · intro w hSw; (try dsimp only at hSw); go_simp; (try with_reducible rfl)
          (try simp only [Act.put, List.setIfInBounds_toArray, List.set_cons_zero, List.set_cons_succ])
          refine takeL (i := 7) (v := ?_) rfl (by kernel_rfl) (by kernel_rfl) (by kernel_rfl) (fun _ _ _ h => h) rfl ?_ (by assumption) ?_
          rotate_left
          · intro w hSw; (try dsimp only at hSw); go_simp; (try with_reducible rfl)
          (try simp only [Act.put, List.setIfInBounds_toArray, List.set_cons_zero, List.set_cons_succ])
          refine takeL (i := 8) (v := ?_) rfl (by kernel_rfl) (by kernel_rfl) (by kernel_rfl) (fun _ _ _ h => h) rfl ?_ (by assumption) ?_
          rotate_left
          · intro w hSw; (try dsimp only at hSw); go_simp; (try with_reducible rfl)
          (try simp only [Act.put, List.setIfInBounds_toArray, List.set_cons_zero, List.set_cons_succ])
          refine takeL (i := 9) (v := ?_) rfl (by kernel_rfl) (by kernel_rfl) (by kernel_rfl) (fun _ _ _ h => h) rfl ?_ (by assumption) ?_
          rotate_left
          · intro w hSw; (try dsimp only at hSw); go_simp; (try with_reducible rfl)
          (try simp only [Act.put, List.setIfInBounds_toArray, List.set_cons_zero, List.set_cons_succ])
          refine takeL (i := 10) (v := ?_) rfl (by kernel_rfl) (by kernel_rfl) (by kernel_rfl) (fun _ _ _ h => h) rfl ?_ (by assumption) ?_
          rotate_left
          · intro w hSw; (try dsimp only at hSw); go_simp; (try with_reducible rfl)
          (try simp only [Act.put, List.setIfInBounds_toArray, List.set_cons_zero, List.set_cons_succ])
          refine takeL (i := 12) (v := ?_) rfl (by kernel_rfl) (by kernel_rfl) (by kernel_rfl) (fun _ _ _ h => h) rfl ?_ (by assumption) ?_
          rotate_left
          · intro w hSw; (try dsimp only at hSw); go_simp; (try with_reducible rfl)
          (try simp only [Act.put, List.setIfInBounds_toArray, List.set_cons_zero, List.set_cons_succ])
          refine takeL (i := 13) (v := ?_) rfl (by kernel_rfl) (by kernel_rfl) (by kernel_rfl) (fun _ _ _ h => h) rfl ?_ (by assumption) ?_
          rotate_left
          · intro w hSw; (try dsimp only at hSw); go_simp; (try with_reducible rfl)
          (try simp only [Act.put, List.setIfInBounds_toArray, List.set_cons_zero, List.set_cons_succ])
          refine takeL (i := 14) (v := ?_) rfl (by kernel_rfl) (by kernel_rfl) (by kernel_rfl) (fun _ _ _ h => h) rfl ?_ (by assumption) ?_
          rotate_left
          · intro w hSw; (try dsimp only at hSw); go_simp; (try with_reducible rfl)
          (try simp only [Act.put, List.setIfInBounds_toArray, List.set_cons_zero, List.set_cons_succ])
          refine takeL (i := 15) (v := ?_) rfl (by kernel_rfl) (by kernel_rfl) (by kernel_rfl) (fun _ _ _ h => h) rfl ?_ (by assumption) ?_
          rotate_left
          · intro w hSw; (try dsimp only at hSw); go_simp; (try with_reducible rfl)
          (try simp only [Act.put, List.setIfInBounds_toArray, List.set_cons_zero, List.set_cons_succ])
          refine takeL (i := 16) (v := ?_) rfl (by kernel_rfl) (by kernel_rfl) (by kernel_rfl) (fun _ _ _ h => h) rfl ?_ (by assumption) ?_
          rotate_left
          · intro w hSw; (try dsimp only at hSw); go_simp; (try with_reducible rfl)
          (try simp only [Act.put, List.setIfInBounds_toArray, List.set_cons_zero, List.set_cons_succ])
          refine takeL (i := 17) (v := ?_) rfl (by kernel_rfl) (by kernel_rfl) (by kernel_rfl) (fun _ _ _ h => h) rfl ?_ (by assumption) ?_
          rotate_left
          · intro w hSw; (try dsimp only at hSw); go_simp; (try with_reducible rfl)
          (try simp only [Act.put, List.setIfInBounds_toArray, List.set_cons_zero, List.set_cons_succ])
          refine comesL (i := 11) rfl rfl (by kernel_rfl) (fun K hK => ?_)
          go_simp
          refine PW0.mono ?_
          rintro e wP ⟨pk, pv, rfl, hpP, bP⟩
          have kP : Below wr.heap.size wr wP := Below.trans (Below.drew (Below.refl _ _)) (bP.mono (by simp))
          obtain ⟨pa, pc, rfl⟩ := hpP.1.slice
          obtain ⟨ra, rc, rfl⟩ := hpP.2.slice
          have HPP := hid hpP
          have PI0 := PI wP kP
          clear hpP bP
          (try dsimp only)
          refine hK.out _ _ (HSK.out wP kP) (fun hHeld2 => ?_)
          clear hK K hHeld
          (try simp only [Act.put, List.setIfInBounds_toArray, List.set_cons_zero, List.set_cons_succ])
          refine comesL (i := 18) rfl rfl (by kernel_rfl) (fun K hK => ?_)
          go_simp
          refine PI0.mono ?_
          rintro e wQ ⟨sk, sv, rfl, hpQ, bQ⟩
          have kQ : Below wr.heap.size wr wQ := kP.trans (bQ.mono kP.size)
          obtain ⟨sa, sc, rfl⟩ := hpQ.1.slice
          obtain ⟨ta2, tc2, rfl⟩ := hpQ.2.slice
          have PA0 := PA _ _ _ _ wQ (HPP.out.below bQ) hpQ
          clear hpQ bQ
          (try dsimp only)
          refine hK.out _ _ (HSK.out wQ kQ) (fun hHeld3 => ?_)
          clear hK K hHeld2
          (try simp only [Act.put, List.setIfInBounds_toArray, List.set_cons_zero, List.set_cons_succ])
          refine comesL (i := 19) rfl rfl (by kernel_rfl) (fun K hK => ?_)
          go_simp
          refine PA0.mono ?_
          rintro e wR ⟨vk, vv3, rfl, hpR, bR⟩
          have kR : Below wr.heap.size wr wR := kQ.trans (bR.mono kQ.size)
          obtain ⟨va3, vc3, rfl⟩ := hpR.1.slice
          obtain ⟨va4, vc4, rfl⟩ := hpR.2.slice
          have HPR3 := hid hpR
          have bLR := HBLr.out.below kR
          have n0 := bLR.2.1 0 _ rfl
          have n1 := bLR.2.1 1 _ rfl
          have o0 := bLR.2.2 0 (by simp)
          have o1' := bLR.2.2 1 (by simp)
          have hlr := bLR.1
          clear hpR bR
          (try dsimp only)
          refine hK.out _ _ (HSK.out wR kR) (fun hHeld => ?_)
          clear hK K hHeld3 HSK
          (try simp only [Act.put, List.setIfInBounds_toArray, List.set_cons_zero, List.set_cons_succ])
          refine takeL (i := 20) (v := ?_) rfl (by kernel_rfl) (by kernel_rfl) (by kernel_rfl) (fun _ _ _ h => h) rfl ?_ (by assumption) ?_
          rotate_left
          · intro w hSw; (try dsimp only at hSw); go_simp; (try with_reducible rfl)
          (try simp only [Act.put])
          refine wpAnyH_done (by kernel_rfl) ?_ _
          simp only [LastQ]
          go_simp
          clear hHeld
          have HBX := hid ((bLR.set 0 (.slice va3 (doneN p kids (k + 2)).length vc3)).set 1 (.slice va4 (doneN p kids (k + 2)).length vc4))
          have HPX := hid ((HPR3.out.set (v := .slice va3 (doneN p kids (k + 2)).length vc3) bLR (i := 0) (by simp) (by simp)).set (v := .slice va4 (doneN p kids (k + 2)).length vc4) (bLR.set 0 (.slice va3 (doneN p kids (k + 2)).length vc3)) (i := 1) (by simp) (by simp))
          have HKX := hid (bel_set (bel_set (HKr.out.trans (kR.mono HKr.out.size)) HLB.out 0 (.slice va3 (doneN p kids (k + 2)).length vc3)) HLB.out 1 (.slice va4 (doneN p kids (k + 2)).length vc4))
          clear bLR n0 n1 o0 o1' PI PA kR kQ kP
          go_wp2_with fail
          refine ⟨?_, by simp [intOf]; omega⟩
          first | exact ⟨k + 1, _, _, hlt, by go_num, HBX.out, HPX.out, HKX.out⟩ | ((repeat apply Exists.intro); exact ⟨⟨k + 1, _, _, hlt, by go_num, HBX.out, HPX.out, HKX.out⟩, rfl⟩)
        · have hke : k = p.length := by omega
          subst hke
          have hki : ¬ ((p.length : Int) < (p.length : Int)) := by omega
          have hdn := done_all p kids HKL.out
          rw [hdn] at HPRr z0 z1
          have HPS := hid HPRr.out
          have bRr := (HR2.out.below HKr.out)
          have r0 := bRr.2.1 0 _ rfl
          have r1 := bRr.2.1 1 _ rfl
          have s0 := bRr.2.2 0 (by simp)
          have s1 := bRr.2.2 1 (by simp)
          have hrl1 := bRr.1
          obtain ⟨A, hA⟩ : ∃ A, allN (.mk p kids) = A := ⟨_, rfl⟩
          rw [hA] at HPS z0 z1
          have HA := hid hA
          have c1 := bRr.set 0 (.slice ua A.length uc)
          have c2 := c1.set 1 (.slice ta A.length tc)
          have y7 := c2.2.1 0 _ rfl
          have y8 := c2.2.1 1 _ rfl
          have HP2 := hid ((HPS.out.set (v := .slice ua A.length uc) bRr (i := 0) (by simp) (by simp)).set (v := .slice ta A.length tc) c1 (i := 1) (by simp) (by simp))
          have HKB := hid (bel_set (bel_set kbw (by omega : w.heap.size ≤ w.heap.size + 1) 0 (.slice ua A.length uc)) (by omega : w.heap.size ≤ w.heap.size + 1) 1 (.slice ta A.length tc))
          clear c1 c2 bRr hdn hA HDL HK40 HIH
          go_wp2_with fail
          (try simp only [Exit.inBlock, Exit.then])
          refine bodyPost_ret (v := .agg #[.slice ua A.length uc, .slice ta A.length tc]) ?r rfl ?_
          case r => simp [y7, y8, results, Try.results79, go_sem]; try rfl
          exact ⟨_, _, rfl, by rw [HA.out]; exact HP2.out, HKB.out⟩
end Go.Proofs.Ytmmccjdkafojgaa
