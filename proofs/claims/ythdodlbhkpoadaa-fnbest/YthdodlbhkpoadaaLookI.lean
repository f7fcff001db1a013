/- What is looked at at a depth, and when to stop: the program. Condition: the rows lie in memory and are good, the heap is the call's own. -/
import Derived.Test.YthdodlbhkpoadaaBestI
import Derived.Test.YthdodlbhkpoadaaTotX
namespace Go.Proofs.Ythdodlbhkpoadaa
open Go.ChangeShapes Go.WideShapes Go.ChangeAt Go.RowKit Go.Deep
set_option linter.unusedVariables false
attribute [local go_sem ↓] Go.wp_at_zero Go.wp_at_succ

theorem add_len (l : List Sc) (x : Sc) : (addL l x).length ≤ l.length + 1 := by
  unfold addL
  split
  · omega
  · rw [push_len]; omega
set_option maxHeartbeats 6400000 in
set_option maxRecDepth 100000 in
theorem implLook (B : Nat) (x : Value) (R : List (List Sc)) (n : Nat) (v : Value) (l : List Sc) (W0 w : World) (hx : RwsAt W0 x R) (kW : Below W0.heap.size W0 w) (hB0 : W0.heap.size ≤ B) (hBw : B ≤ w.heap.size) (hg : ∀ r ∈ R, GoodR r) (hR : R.length ≤ 4) (hn : n ≤ 100)
    (hv : OwnH B w v l) (hl : l.length ≤ 500) :
    Calls Try.prog 52 #[x, .int .i64 n, v] w fun e w' => ∃ qa qc, e = .returned (.slice qa (lookL R n l R).length qc) ∧ OwnH B w' (.slice qa (lookL R n l R).length qc) (lookL R n l R) ∧ (lookL R n l R).length ≤ l.length + R.length ∧ Below B w w' := by
  have HG := hid hg
  have HV := hid hv
  have HX := hid hx
  have HW := hid kW
  obtain ⟨va, vc, rfl⟩ := hv.slice
  clear hg hv kW
  rcases hx with ⟨a0, c0, rfl, rfl⟩ | ⟨b, off, cap, rfl, hb, hcell⟩
  · go_enter Try.func52, Try.ntmps52
    go_wp2
    go_loopw [2, 12] (fun hv i wr => hv = .slice va l.length vc ∧ i = .int .i64 0 ∧ wr = w) (fun _ _ _ => 0)
    case atStart => exact ⟨rfl, rfl, rfl⟩
    case round =>
      obtain ⟨rfl, rfl, hw⟩ := hrel
      subst wr
      go_wp2
      go_returns
      exact ⟨_, _, rfl, HV.out, by simp [lookL], Below.refl _ _⟩
  · have HC := hid hcell
    clear hcell
    go_enter Try.func52, Try.ntmps52
    go_wp2
    go_loopw [2, 12] (fun hv i wr => ∃ (k : Nat) (L : List Sc) (a c : _), k ≤ R.length ∧ i = .int .i64 k ∧ hv = .slice a L.length c ∧ L.length ≤ l.length + k ∧ Hid (L = lookL R n l (R.take k)) ∧ Hid (OwnH B wr (.slice a L.length c) L) ∧ Hid (Below B w wr)) (fun _ i _ => R.length - (intOf i).toNat)
    case atStart => exact ⟨0, l, va, vc, Nat.zero_le _, rfl, rfl, by omega, rfl, HV.out, Below.refl _ _⟩
    case round =>
      obtain ⟨k, L, a, c, hk, rfl, rfl, hLl, HE, HL, HK⟩ := hrel
      clear HV
      have kl := HK.out.size
      have HWr := hid (HW.out.trans (HK.out.mono (by have := HW.out.size; omega)))
      by_cases hlt : k < R.length
      · obtain ⟨rv, r0, hrs⟩ := HC.out k hlt
        have hbr : b < wr.heap.size := by have := HW.out.size; omega
        have r1 : wr.cell? ⟨b, off + k, none⟩ = some rv := (HWr.out.cell (p := ⟨b, off + k, none⟩) hb).trans r0
        have hgr := HG.out _ (gR_mem hlt)
        have HSN : Hid (lookL R n l (R.take (k + 1)) = stL R n (lookL R n l (R.take k)) (gR R k)) := by show _ = _; rw [takeR R k hlt, lookL_snoc]
        have hki : (k : Int) < (R.length : Int) := by omega
        have hk0 : (0 : Int) ≤ (k : Int) := by omega
        have hrb := hrs.below HWr.out
        obtain ⟨r, hr⟩ : ∃ r, r = gR R k := ⟨_, rfl⟩
        rw [← hr] at hgr HSN hrb
        have hrl := hgr.1
        clear r0 hrs hr hgr
        by_cases hnl : n < r.length
        · rcases hrb with ⟨_, _, _, rfl⟩ | ⟨rb, ro, rc, rfl, hrbl, hrc⟩
          · simp at hnl
          · obtain ⟨p0, p1⟩ := hrc n hnl
            have hni : (n : Int) < (r.length : Int) := by omega
            have hn0 : (0 : Int) ≤ (n : Int) := by omega
            have HHD := fun W (hW : ScsAt W (.slice a L.length c) L) => implHasDoc (.slice a L.length c) L (gd r n).1 W hW (by omega)
            have HTO := fun W hW => implTotal (.slice (some ⟨b, off, none⟩) R.length cap) R (gd r n).1 W hW HG.out hR
            have HPU := fun W hW hb => implPushed B (.slice a L.length c) L ((gd r n).1, tot R (gd r n).1) W hW (by omega) hb
            have HADD : Hid (stL R n L r = addL L ((gd r n).1, tot R (gd r n).1)) := by show _ = _; unfold stL; rw [if_pos hnl]
            obtain ⟨d, hd⟩ : ∃ d, d = (gd r n).1 := ⟨_, rfl⟩
            rw [← hd] at p0 HHD HTO HPU HADD
            generalize tot R d = t at *
            obtain ⟨G, hG⟩ : ∃ G, G = hasD L d := ⟨_, rfl⟩
            rw [← hG] at HHD
            have HGG := hid hG
            clear hd hG hrc
            go_wp2_with fail
            refine (HHD _ HL.out.at).mono ?_
            rintro e w1 ⟨rfl, hb1⟩
            have HL1 := hid (HL.out.below hb1)
            have HK1 := hid (HK.out.trans (hb1.mono (by omega)))
            have HW1 := hid (HWr.out.trans (hb1.mono (by have := HWr.out.size; omega)))
            have q0 := (hb1.cell (p := ⟨rb, ro + n * 2, none⟩) hrbl).trans p0
            have hrb1 : rb < w1.heap.size := by have := hb1.size; omega
            have h1B : B ≤ w1.heap.size := by have := hb1.size; omega
            clear hb1 HL HK HWr p0 p1 HHD
            cases G with
            | true =>
              have HN : Hid (L = lookL R n l (R.take (k + 1))) := by
                show _ = _
                rw [HSN.out, ← HE.out, HADD.out]
                unfold addL
                rw [if_pos HGG.out.symm]
              go_wp2
              refine ⟨?_, by simp [intOf]; omega⟩
              exact ⟨k + 1, L, _, _, by omega, by go_num, rfl, by omega, HN.out, HL1.out, HK1.out⟩
            | false =>
              have HN : Hid (pushL L (d, t) = lookL R n l (R.take (k + 1))) := by
                show _ = _
                rw [HSN.out, ← HE.out, HADD.out]
                unfold addL
                rw [if_neg (by rw [← HGG.out]; simp)]
              go_wp2_with fail
              refine (HTO _ (HX.out.below HW1.out)).mono ?_
              rintro e w2 ⟨rfl, hb2⟩
              have HL2 := hid (HL1.out.below hb2)
              have HK2 := hid (HK1.out.trans (hb2.mono h1B))
              have h2B : B ≤ w2.heap.size := by have := hb2.size; omega
              clear hb2 HL1 HK1 HW1 q0 HTO
              go_wp2_with fail
              refine (HPU _ HL2.out h2B).mono ?_
              rintro e w3 ⟨ra, rc2, rfl, ho3, hf3, hg3⟩
              have hpl := push_len L (d, t)
              have HO3 := hid ho3
              have HK3 := hid (HK2.out.trans (hf3.below h2B (fun q hq => (HL2.out.lt q hq).1)))
              rw [← hpl] at HO3 ⊢
              have hle : (pushL L (d, t)).length ≤ l.length + (k + 1) := by omega
              generalize pushL L (d, t) = Q at *
              clear ho3 hf3 hg3 HL2 HK2 HPU hpl
              go_wp2
              refine ⟨?_, by simp [intOf]; omega⟩
              exact ⟨k + 1, Q, _, _, by omega, by go_num, rfl, hle, HN.out, HO3.out, HK3.out⟩
        · have hni : ¬ (n : Int) < (r.length : Int) := by omega
          have HN : Hid (L = lookL R n l (R.take (k + 1))) := by
            show _ = _
            rw [HSN.out, ← HE.out]
            unfold stL
            rw [if_neg hnl]
          obtain ⟨ra, rc, rfl⟩ := hrb.slice
          clear hrb
          go_wp2
          refine ⟨?_, by simp [intOf]; omega⟩
          exact ⟨k + 1, L, _, _, by omega, by go_num, rfl, by omega, HN.out, HL.out, HK.out⟩
      · have hki : ¬ (k : Int) < (R.length : Int) := by omega
        have HN : Hid (lookL R n l R = L) := by show _ = _; rw [HE.out, List.take_of_length_le (by omega)]
        go_wp2
        go_returns
        refine ⟨a, c, ?_, ?_, ?_, HK.out⟩
        · rw [HN.out]; rfl
        · rw [HN.out]; exact HL.out
        · rw [HN.out]; omega
end Go.Proofs.Ythdodlbhkpoadaa
