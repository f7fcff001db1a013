/- Contracts of what the law of phrases draws: two lists of posts and a number. Condition: the bytes that are drawn from lie in memory. -/
import Derived.Test.YtkkmnegmghllpaaPhrM
namespace Go.Proofs.Ytkkmnegmghllpaa
open Go.ChangeShapes Go.WideShapes Go.ChangeAt Go.RowKit Go.Deep
set_option linter.unusedVariables false
attribute [local go_sem ↓] Go.wp_at_zero Go.wp_at_succ

/-- The first post's document written anew. -/
theorem GrP.doc0 {base : Nat} {w : World} {g n cap : Nat} {p : Po} {qs : List Po} {u : Value} {us : List Value} (h : GrP base w (.slice (some ⟨g, 0, none⟩) n cap) (p :: qs) (u :: us)) (d : Int) :
    GrP base (w.setCell ⟨g, 0, none⟩ (.int .i64 d)) (.slice (some ⟨g, 0, none⟩) n cap) ((d, p.2) :: qs) (u :: us) := by
  have e : ∀ i, i < (p :: qs).length → (((d, p.2) :: qs).getD i default).2 = ((p :: qs).getD i default).2 := fun i hi => by
    cases i with
    | zero => rfl
    | succ i => rfl
  refine ⟨h.len, ?_, fun i hi => ?_, h.apart, h.disj⟩
  · rcases h.row.2 with ⟨h0, _⟩ | ⟨g', cap', cur, hv, hb', hcur, hc, hm, hs, ht⟩
    · cases h0
    · simp only [Value.slice.injEq, Option.some.injEq, Addr.mk.injEq, and_true] at hv
      obtain ⟨rfl, hn, rfl⟩ := hv
      have hcs : (w.setCell ⟨g, 0, none⟩ (.int .i64 d)).heap[g]? = some (.cells (cur.setIfInBounds 0 (.int .i64 d)) 39 (0, 0)) := by
        unfold World.setCell
        simp only [Array.getElem?_modify, hcur]
        simp
      refine ⟨by have := h.row.1; simpa [flatP] using this, .inr ⟨g, cap, _, by rw [hn]; simp, hb', hcs, by simpa using hc, hm, by simp [hs], ?_⟩⟩
      rw [Array.toList_setIfInBounds, List.take_set]
      have hn1 : ((d, p.2) :: qs).length = (p :: qs).length := by simp
      rw [hn1, ht]
      rfl
  · have hi2 : i < (p :: qs).length := by simpa using hi
    rw [e i hi2]
    exact (h.own i hi2).off (offset1 _ _ _ _) (fun y hy hm => by
      simp at hm; subst hm
      exact h.apart i hi2 y hy rfl)
def w3Zs : List ByteArray := [⟨#[114, 101, 100]⟩, ⟨#[98, 108, 117, 101]⟩, ⟨#[115, 101, 97]⟩]
theorem w3_sz : ∀ x ∈ w3Zs, x.size ≤ 4 := by decide
theorem grp_drawn {w w1 : World} {g base : Nat} {v : Value} {n m : Nat} (h : Drawn w w1 g v n m) {x : Value} {ps : List Po} {vs : List Value} (hp : GrP base w x ps vs) (hg : g < base) : GrP base w1 x ps vs :=
  hp.off (drawn_off h) (fun y hy hm => by have := (hp.lt y hy).1; simp at hm; omega)
theorem poA_small (ds : List ByteArray) (s : ByteArray) : (poA ds s).length ≤ 12 ∧ ∀ p ∈ poA ds s, p.2.length ≤ 240 := ⟨(poA_len ds s).1, fun p hp => by have := sumL_mem hp; have := (poA_len ds s).2; omega⟩
set_option maxHeartbeats 6400000 in
set_option maxRecDepth 100000 in
theorem postsIn (g : Nat) (v : Value) (n m : Nat) (w : World) (hc : CurAt w g v m) (hb : BytesAt w g v n) (hm : m ≤ 1000000 - 600) :
    Calls Try.prog 74 #[.pointer (some ⟨g, 0, none⟩)] w fun e w' => ∃ (x : Value) (ps : List Po) (vs : List Value), e = .returned x ∧ GrP w.heap.size w' x ps vs ∧ ps.length ≤ 12 ∧ (∀ p ∈ ps, p.2.length ≤ 240) ∧ Drawn w w' g v n (m + 420) := by
  have hgl := hc.lt
  have HB := hide hb
  have HK := docsIn g v n m w hc hb (by omega)
  clear hc hb
  go_enter Try.func74, Try.ntmps74
  go_wp2_with fail
  refine HK.mono ?_
  rintro e w1 ⟨x, ds, rfl, ho, hl, hA, hd⟩
  have HD1 := hide (hd.below (al9 w1 (.cells #[.string ⟨#[114, 101, 100]⟩, .string ⟨#[98, 108, 117, 101]⟩, .string ⟨#[115, 101, 97]⟩] 9)))
  have hg1 : g < w1.heap.size := by have := hd.2.2.size; omega
  have HX := hide ((OwnA.ofStrs ho).1.strs.below (al9 w1 (.cells #[.string ⟨#[114, 101, 100]⟩, .string ⟨#[98, 108, 117, 101]⟩, .string ⟨#[115, 101, 97]⟩] 9)))
  have HXO := hide (ho.alloc (.cells #[.string ⟨#[114, 101, 100]⟩, .string ⟨#[98, 108, 117, 101]⟩, .string ⟨#[115, 101, 97]⟩] 9))
  have HSZ : Hid (∀ u ∈ ds, u.size ≤ 1048576) := fun u hu => by have := hA u hu; omega
  obtain ⟨xa, xc, hxe⟩ := (rows_of_ownS ho).slice
  subst hxe
  clear HK ho hA hd
  go_wp2_with fail
  refine (ofIn g v n (m + 400) w3Zs w1.heap.size 3 _ HD1.out.1 HD1.out.2.1 (by omega) (by decide) (by decide) (by omega) (by intro i hi; match i, hi with | 0, _ => simp [World.cell?_alloc_new, w3Zs] | 1, _ => simp [World.cell?_alloc_new, w3Zs] | 2, _ => simp [World.cell?_alloc_new, w3Zs])).mono ?_
  rintro e w2 ⟨s, rfl, hs, hd2⟩
  have hs4 := w3_sz s hs
  have HD2 := hide (HD1.out.trans hd2)
  have HX2 := hide (OwnA.ofStrs (own_drawn hd2 HXO.out hgl)).1.strs
  have kz2 := HD2.out.2.2.size
  clear hs hd2 HD1 HX HXO hg1
  obtain ⟨hp1, hp2⟩ := poA_small ds s
  have HSP := specPosts (.slice xa ds.length xc) ds s w2 HX2.out (by omega) HSZ.out (by omega)
  obtain ⟨B, hB⟩ : ∃ B, B = poB ds s := ⟨_, rfl⟩
  obtain ⟨A, hA⟩ : ∃ A, A = poA ds s := ⟨_, rfl⟩
  rw [← hB, ← hA] at HSP
  rw [← hA] at hp1 hp2
  have HP2 := hide hp2
  clear hB hA hp2
  go_wp2_with fail
  refine HSP.mono ?_
  rintro e w3 ⟨⟨v3, vs, rfl, hg⟩, hb3⟩
  have HD3 := hide (HD2.out.below hb3)
  have HG := hide (hg.mono kz2)
  obtain ⟨va, vc, hve⟩ := hg.slice
  subst hve
  clear HSP hg hb3 HD2 HX2 kz2
  have kz3 := HD3.out.2.2.size
  cases A with
  | nil =>
    have HDF := hide (HD3.out.mono8 (m' := m + 420) (by omega))
    clear HD3
    simp only [List.length_nil]
    go_wp2
    go_returns
    exact ⟨_, [], vs, rfl, HG.out, by simp, by simp, HDF.out⟩
  | cons p qs =>
    have hlen : (p :: qs).length = qs.length + 1 := rfl
    obtain ⟨ln, hln⟩ : ∃ ln, ln = (p :: qs).length := ⟨_, rfl⟩
    have HLN : Hid (ln = (p :: qs).length) := hln
    have hln0 : 0 < ln := by rw [hln]; simp
    have hlni : (0 : Int) < (ln : Int) := by omega
    rw [← hln] at hp1 ⊢
    rw [← hln] at HG
    clear hln hlen
    go_wp2_with fail
    refine (oneIn g v n (m + 402) 20 w3 HD3.out.1 HD3.out.2.1 (by omega) (by omega) (by omega)).mono ?_
    rintro e w4 ⟨o, rfl, hd4⟩
    have HD4 := hide (HD3.out.trans hd4)
    have HG4 := hide (grp_drawn hd4 HG.out hgl)
    clear hd4 HD3 HG
    cases o with
    | false =>
      go_wp2
      go_returns
      exact ⟨_, p :: qs, vs, rfl, HG4.out, by rw [← HLN.out]; exact hp1, HP2.out, HD4.out.mono8 (by omega)⟩
    | true =>
      have hg4 : g < w4.heap.size := by have := HD4.out.2.2.size; omega
      have HD4a := hide (HD4.out.below (al9 w4 (.cells #[.int .i64 (-1), .int .i64 5, .int .i64 11, .int .i64 12] 3)))
      have HG4a := hide (HG4.out.below (al9 w4 (.cells #[.int .i64 (-1), .int .i64 5, .int .i64 11, .int .i64 12] 3)))
      clear HD4 HG4
      go_wp2_with fail
      refine (amongIn g v n (m + 404) [-1, 5, 11, 12] w4.heap.size 4 _ HD4a.out.1 HD4a.out.2.1 (by omega) (by simp) (by simp) (by omega) (by intro i hi; match i, hi with | 0, _ => simp [World.cell?_alloc_new] | 1, _ => simp [World.cell?_alloc_new] | 2, _ => simp [World.cell?_alloc_new] | 3, _ => simp [World.cell?_alloc_new])).mono ?_
      rintro e w5 ⟨y, rfl, hy, hd5⟩
      have HD5 := hide (HD4a.out.trans hd5)
      have hG5 := grp_drawn hd5 HG4a.out hgl
      clear hd5 HD4a HG4a hy
      rcases hG5.row.2 with ⟨h0, _⟩ | ⟨gr, cap, cur, hv, hb', hcur, hc, hm', hs, ht⟩
      · simp only [Value.slice.injEq] at h0
        omega
      · simp only [Value.slice.injEq] at hv
        obtain ⟨rfl, _, rfl⟩ := hv
        obtain ⟨u0, us, rfl⟩ : ∃ u0 us, vs = u0 :: us := by
          have := hG5.len
          cases vs with
          | nil => simp at this
          | cons a b => exact ⟨a, b, rfl⟩
        have hcell : w5.cell? ⟨gr, 0, none⟩ = some (.int .i64 p.1) := by
          have hr := hG5.row
          rw [← HLN.out] at hr
          have h := hr.cellAt 0 (by first | omega | simp [flatP])
          simpa [flatP] using h
        have hfz : w5.frozen? ⟨gr, 0, none⟩ = false := by simp [World.frozen?, hcur]
        have hrl : gr < w5.heap.size := (Array.getElem?_eq_some_iff.1 hcur).1
        have HF := hide (hG5.doc0 y)
        have HF2 : Hid (GrP w.heap.size (w5.setCell ⟨gr, 0, none⟩ (.int .i64 y)) (.slice (some ⟨gr, 0, none⟩) (qs.length + 1) vc) ((y, p.2) :: qs) (u0 :: us)) := by
          have h := hG5.doc0 y
          rw [show ln = qs.length + 1 from HLN.out] at h
          exact h
        have HDF : Hid (Drawn w (w5.setCell ⟨gr, 0, none⟩ (.int .i64 y)) g v n (m + 420)) := (Drawn.offN HB.out hgl HD5.out (offset1 w5 gr 0 _) (fun k hk => by simp at hk; rw [hk]; exact hb')).mono8 (by omega)
        have HP3 : Hid (∀ q ∈ (y, p.2) :: qs, q.2.length ≤ 240) := fun q hq => by
          rcases List.mem_cons.1 hq with h | h
          · rw [h]; exact HP2.out p (by simp)
          · exact HP2.out q (by simp [h])
        clear hG5 HD5 hcur hs ht hc hm'
        go_wp2
        go_returns
        first | exact ⟨_, (y, p.2) :: qs, u0 :: us, rfl, HF2.out, by have := HLN.out; simp at this ⊢; omega, HP3.out, HDF.out⟩ | exact ⟨_, (y, p.2) :: qs, u0 :: us, rfl, HF.out, by have := HLN.out; simp at this ⊢; omega, HP3.out, HDF.out⟩
set_option maxHeartbeats 6400000 in
set_option maxRecDepth 100000 in
theorem drawMeet (v : Value) (n : Nat) (w : World) (h : CodeAt w v n) :
    Calls Try.prog 35 #[v] w fun e w' => ∃ (x z : Value) (ps qs : List Po) (y : Int), e = .returned (.tuple #[x, z, .int .i64 y]) ∧ PosAt w' x ps ∧ PosAt w' z qs ∧ ps.length ≤ 12 ∧ (∀ p ∈ ps, p.2.length ≤ 240) ∧ qs.length ≤ 12 ∧ (∀ p ∈ qs, p.2.length ≤ 240) ∧ -21 ≤ y ∧ y ≤ 21 ∧ Below w.heap.size w w' := by
  obtain ⟨ad, c, rfl⟩ : ∃ ad c, v = .slice ad n c := by
    obtain ⟨ad, c, e, _⟩ := h
    exact ⟨ad, c, e⟩
  have hbel := (Below.refl w.heap.size w).alloc (Nat.le_refl _) (.cells #[.slice ad n c, .int .i64 0, .int .u64 0] 70)
  obtain ⟨W0, hW0⟩ : ∃ W0, W0 = w.alloc (.cells #[.slice ad n c, .int .i64 0, .int .u64 0] 70) := ⟨_, rfl⟩
  have HK := postsIn w.heap.size (.slice ad n c) n 0 _ (cur_new w (.slice ad n c) 70) (h.bytes hbel (Nat.le_refl _)) (by omega)
  have hg0 : w.heap.size < W0.heap.size := by rw [hW0]; simp
  rw [← hW0] at HK hbel
  have HBE := hide hbel
  clear h hbel
  go_enter Try.func35, Try.ntmps35
  go_wp2_with fail
  rw [← hW0]
  clear hW0
  refine HK.mono ?_
  rintro e w1 ⟨x, ps, vs, rfl, hg, hl, hA, hd⟩
  clear HK
  have HG := hide hg
  have HA := hide hA
  have HD1 := hide hd
  obtain ⟨xa, xc, hxe⟩ := hg.slice
  subst hxe
  clear hd hg hA
  go_wp2_with fail
  refine (postsIn w.heap.size (.slice ad n c) n (0 + 420) w1 HD1.out.1 HD1.out.2.1 (by omega)).mono ?_
  rintro e w2 ⟨z, qs, us, rfl, hg2, hl2, hA2, hd2⟩
  have HD2 := hide (HD1.out.trans hd2)
  have kz1 := HD1.out.2.2.size
  replace HG := hide (grp_drawn hd2 HG.out hg0)
  have HG2 := hide (hg2.mono (base' := W0.heap.size) kz1)
  have HA2 := hide hA2
  obtain ⟨za, zc, hze⟩ := hg2.slice
  subst hze
  have hg3 : w.heap.size < w2.heap.size := by have := HD2.out.2.2.size; omega
  have HDa := hide (HD2.out.below (al9 w2 (.cells #[.int .i64 (-21), .int .i64 (-1), .int .i64 0, .int .i64 1, .int .i64 1, .int .i64 2, .int .i64 20, .int .i64 21] 3)))
  replace HG := hide (HG.out.below (al9 w2 (.cells #[.int .i64 (-21), .int .i64 (-1), .int .i64 0, .int .i64 1, .int .i64 1, .int .i64 2, .int .i64 20, .int .i64 21] 3)))
  replace HG2 := hide (HG2.out.below (al9 w2 (.cells #[.int .i64 (-21), .int .i64 (-1), .int .i64 0, .int .i64 1, .int .i64 1, .int .i64 2, .int .i64 20, .int .i64 21] 3)))
  clear hd2 HD1 HD2 hg2 hA2 kz1
  go_wp2_with fail
  refine (amongIn w.heap.size (.slice ad n c) n (0 + 420 + 420) [-21, -1, 0, 1, 1, 2, 20, 21] w2.heap.size 8 _ HDa.out.1 HDa.out.2.1 (by omega) (by simp) (by simp) (by omega) (by intro i hi; match i, hi with | 0, _ => simp [World.cell?_alloc_new] | 1, _ => simp [World.cell?_alloc_new] | 2, _ => simp [World.cell?_alloc_new] | 3, _ => simp [World.cell?_alloc_new] | 4, _ => simp [World.cell?_alloc_new] | 5, _ => simp [World.cell?_alloc_new] | 6, _ => simp [World.cell?_alloc_new] | 7, _ => simp [World.cell?_alloc_new])).mono ?_
  rintro e w4 ⟨y, rfl, hy, hd4⟩
  have hyb : -21 ≤ y ∧ y ≤ 21 := by simp at hy; omega
  have hbF := drawn_below HBE.out (HDa.out.trans hd4)
  have HF := hide (grp_drawn hd4 HG.out hg0).at
  have HF2 := hide (grp_drawn hd4 HG2.out hg0).at
  clear hd4 HDa HG HG2 hy
  go_wp2
  go_returns
  exact ⟨_, _, ps, qs, y, rfl, HF.out, HF2.out, hl, HA.out, hl2, HA2.out, hyb.1, hyb.2, hbF⟩
end Go.Proofs.Ytkkmnegmghllpaa
