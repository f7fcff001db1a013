/- Contract of the model's posts of a word. Condition: the documents are good ones. -/
import Derived.Test.YtkkmnegmghllpaaIxM
import Derived.Test.YtkkmnegmghllpaaSpecMe
namespace Go.Proofs.Ytkkmnegmghllpaa
open Go.ChangeShapes Go.WideShapes Go.ChangeAt Go.RowKit Go.Deep
set_option linter.unusedVariables false
attribute [local go_sem ↓] Go.wp_at_zero Go.wp_at_succ

set_option maxHeartbeats 25600000 in
set_option maxRecDepth 100000 in
theorem specL9 (x : Value) (ds : List ByteArray) (s : ByteArray) (w : World) (hx : StrsAt w x ds) (hd : docsB ds = true) (hs : s.size ≤ 1048576) :
    Calls Try.prog 57 #[x, .string s] w fun e w' => (∃ v vs, e = .returned v ∧ GrP w.heap.size w' v (psK ds s ds.length) vs) ∧ Below w.heap.size w w' := by
  obtain ⟨i0, hi, hzz⟩ := Option.map_eq_some_iff.1 infoIn2
  simp only [Prod.mk.injEq] at hzz
  obtain ⟨hz0, hz1, hz2⟩ := hzz
  obtain ⟨j0, hj, hyy⟩ := Option.map_eq_some_iff.1 infoPo2
  simp only [Prod.mk.injEq] at hyy
  obtain ⟨hy0, hy1, hy2⟩ := hyy
  have HX := hid hx
  obtain ⟨hd12, hdd⟩ := docs_yes hd
  have HDD := hid hdd
  obtain ⟨xa, xc, hxe⟩ := hx.slice
  subst hxe
  clear hx hd hdd
  go_enter Try.func57, Try.ntmps57
  go_wp2
  go_loopw [5, 13] (fun o i wr => ∃ (k : Nat) (vs : List Value) (N : List Po), k ≤ ds.length ∧ i = .int .i64 k ∧ Hid (N = psK ds s k) ∧ N.length ≤ k ∧ Hid (GrP w.heap.size wr o N vs) ∧ Below w.heap.size w wr) (fun _ i _ => ds.length - (intOf i).toNat)
  case atStart => exact ⟨0, [], [], Nat.zero_le _, rfl, rfl, by simp, GrP.nil _ _, by go_grown⟩
  case round =>
    obtain ⟨k, us, N, hk, rfl, hN, hNl, hG, kb⟩ := hrel
    have kl := kb.size
    obtain ⟨ob, od, hoe⟩ := hG.out.slice
    subst hoe
    by_cases hlt : k < ds.length
    · obtain ⟨g, off, cap, hve, hgl, hc⟩ := (HX.out.below kb).cellS hlt
      cases hve
      have hki : (k : Int) < (ds.length : Int) := by omega
      have hk0 : (0 : Int) ≤ (k : Int) := by omega
      obtain ⟨hdz, hdw⟩ := doc_yes (HDD.out k hlt)
      have HPS : Hid (psK ds s (k + 1) = psK ds s k ++ (if plK (docAt ds k) s (docAt ds k).length = [] then [] else [((k : Int), plK (docAt ds k) s (docAt ds k).length)])) := rfl
      have HW := fun W => specWords (ds.getD k ByteArray.empty) (by omega) W
      obtain ⟨L, hL⟩ : ∃ L, L = docAt ds k := ⟨_, rfl⟩
      have hL2 : wordsL (ds.getD k ByteArray.empty) = L := by rw [hL]; rfl
      rw [← hL] at HPS
      rw [hL2] at HW hdw
      clear hL hL2 hdz
      generalize ds.getD k ByteArray.empty = txt at *
      have hx0 := boxNew wr #[.int .i64 (k : Int), .slice none 0 0] 39
      have HFPL : Hid (∀ q ∈ fpG (.slice ob N.length od) us, q < wr.heap.size) := fun q hq => (hG.out.lt q hq).2
      go_upto_region 6 with fail
      obtain ⟨W1, hW1⟩ : ∃ W1, W1 = wr.alloc (.cells #[.int .i64 (k : Int), .slice none 0 0] 39) := ⟨_, rfl⟩
      rw [← hW1]
      rw [← hW1] at hx0
      have kW : Below wr.heap.size wr W1 := by rw [hW1]; exact (Below.refl _ _).alloc (Nat.le_refl _) _
      have k1 : Below w.heap.size w W1 := kb.trans (kW.mono kl)
      have HG1 := hid (hG.out.below kW)
      have HXB := hid hx0
      obtain ⟨xb, hxb⟩ : ∃ xb, xb = wr.heap.size := ⟨_, rfl⟩
      rw [← hxb] at HXB HFPL
      have HORD : Hid (w.heap.size ≤ xb ∧ xb < W1.heap.size) := by
        refine ⟨by rw [hxb]; exact kl, HXB.out.1⟩
      rw [show (Value.pointer (some ⟨wr.heap.size, 0, none⟩)) = Value.pointer (some ⟨xb, 0, none⟩) by rw [hxb]]
      clear hW1 hx0 kW hxb hG hc hgl kb kl
      go_wp2_with fail
      refine (HW _).mono ?_
      rintro e WI ⟨v, rfl, how, hb1⟩
      have HG3 := hid (HG1.out.below hb1)
      have HXB3 := hid (HXB.out.below hb1)
      have kWI : Below w.heap.size w WI := k1.trans (hb1.mono k1.size)
      have HOW := hid how
      have hsz1 := hb1.size
      obtain ⟨va, vc, hve⟩ := (rows_of_ownS how).slice
      subst hve
      have HORD2 : Hid (w.heap.size ≤ xb ∧ xb < W1.heap.size ∧ W1.heap.size ≤ WI.heap.size ∧ w.heap.size ≤ WI.heap.size) := ⟨HORD.out.1, HORD.out.2, hsz1, kWI.size⟩
      clear hb1 how hsz1 HW HXB HG1 k1 HORD
      go_wp2_with fail
      go_loopw [23] (fun i wr => ∃ (t : Nat) (S : List Int) (pvv : Value), t ≤ L.length ∧ i = .int .i64 t ∧ Hid (S = plK L s t) ∧ Hid (BoxAt wr xb [.int .i64 (k : Int), pvv]) ∧ Hid (OwnS wr WI.heap.size 3 pvv S.length (intsV S)) ∧ Hid (Off [xb] WI wr) ∧ Below w.heap.size w wr) (fun i _ => L.length - (intOf i).toNat)
      case atStart => exact ⟨0, [], _, Nat.zero_le _, rfl, rfl, HXB3.out, OwnS.nil _ _ _, Off.refl _ _, kWI⟩
      case round =>
        obtain ⟨t, S, pvv, htl, rfl, hS, hBX, hOS, hOF, kb3⟩ := hrel
        generalize wr = w3 at *
        have kl3 := kb3.size
        obtain ⟨sa, sc, hse⟩ := (rows_of_ownS hOS.out).slice
        subst hse
        have hx1 := hBX.out.2.1 1 _ rfl
        have hx0 := hBX.out.2.1 0 _ rfl
        have hxl := hBX.out.1
        by_cases htt : t < L.length
        · have hWS : StrsAt w3 (.slice va L.length vc) L := by
            have h9 : OwnS w3 W1.heap.size 9 (.slice va L.length vc) L.length (strsV L) := HOW.out.off hOF.out (fun q hq hm => by simp at hm; subst hm; have := (own_lt HOW.out q hq).1; have := HORD2.out.2.1; omega)
            exact (OwnA.ofStrs h9).1.strs
          obtain ⟨g3, off3, cap3, hve, hgl3, hc0⟩ := hWS.cellS htt
          cases hve
          have hti : (t : Int) < (L.length : Int) := by omega
          have ht0i : (0 : Int) ≤ (t : Int) := by omega
          have hKS : Hid (plK L s (t + 1) = S ++ (if L.getD t ByteArray.empty = s then [(t : Int)] else [])) := by
            show _ = _
            rw [plK, ← hS.out]
          have hSl : S.length ≤ t := by rw [hS.out]; exact plK_len L s t
          have hsq := sEq (L.getD t ByteArray.empty) s
          clear hWS
          generalize L.getD t ByteArray.empty = tw at *
          by_cases he : tw = s
          · rw [decide_eq_true he] at hsq
            have HKS2 : Hid (S ++ [(t : Int)] = plK L s (t + 1)) := by show _ = _; rw [hKS.out, if_pos he]
            have HO3 := hOS
            have HB3 := hBX
            have HF3 := hOF
            have how := hOS.out
            have hWl4 := hOF.out.size
            clear he hKS hBX hOS hOF
            go_wp2_with (first | (at_builtin; refine wplS rfl _ _ 37 rfl WI.heap.size 3 i0 (.int .i64 0) 8 Try.underlying37 hi hz0 hz1 hz2 rfl _ _ _ rfl (how.alloc _) _ 1 [.int .i64 (t : Int)] rfl (news1 _ _ _) ?c1 ?c2 ?c3 ?c4 ?_) | fail)
            case c1 => first | rfl | (intro u hu; simp at hu; subst hu; rfl)
            case c2 => unfold maxLen; omega
            case c3 => omega
            case c4 => first | omega | (simp; omega)
            intro x1 w5 ho1 hg1 he1
            obtain ⟨va2, vc2, hve⟩ := (rows_of_ownS ho1).slice
            subst hve
            have hob : ∀ g ∈ obl (.slice sa S.length sc), WI.heap.size ≤ g := fun g hg => (own_lt how g hg).1
            have HB5 := ((HB3.out.below ((Below.refl _ _).alloc (Nat.le_refl _) _)).offG hg1 (fun hm => by have := hob _ hm; have := HORD2.out; omega))
            have hx5 := HB5.2.1 1 _ rfl
            have hz5 := HB5.2.2 1 (by simp)
            have hl5 := HB5.1
            have HB6 : Hid (BoxAt (w5.setCell ⟨xb, 1, none⟩ (.slice va2 (S.length + 1) vc2)) xb [.int .i64 (k : Int), .slice va2 (S.length + 1) vc2]) := HB5.set (i := 1) (by simp) _
            have HO6 : Hid (OwnS (w5.setCell ⟨xb, 1, none⟩ (.slice va2 (S.length + 1) vc2)) WI.heap.size 3 (.slice va2 (S.length + 1) vc2) (S ++ [(t : Int)]).length (intsV (S ++ [(t : Int)]))) := by
              show OwnS _ _ _ _ _ _
              have h8 : OwnS w5 WI.heap.size 3 (.slice va2 (S.length + 1) vc2) (S ++ [(t : Int)]).length (intsV (S ++ [(t : Int)])) := by simpa [intsV] using ho1
              exact h8.off (offset1 _ _ _ _) (fun g hg hm => by simp at hm; subst hm; have := (own_lt h8 g hg).1; have := HORD2.out; omega)
            have hoffA : Off ([xb] ++ obl (.slice sa S.length sc)) WI (w5.setCell ⟨xb, 1, none⟩ (.slice va2 (S.length + 1) vc2)) :=
              (((off_below HF3.out ((Below.refl _ _).alloc (Nat.le_refl _) _)).mono (fun g hg => .inl (by simp at hg; simp [hg]))).trans (hg1.mono (fun g hg => .inl (by simp [hg])))).trans ((offset1 _ _ _ _).mono (fun g hg => .inl (by simp at hg; simp [hg])))
            have HF6 : Hid (Off [xb] WI (w5.setCell ⟨xb, 1, none⟩ (.slice va2 (S.length + 1) vc2))) := hoffA.mono (fun g hg => by
              rcases List.mem_append.1 hg with h | h
              · exact .inl h
              · exact .inr (hob g h))
            have kb6 : Below w.heap.size w (w5.setCell ⟨xb, 1, none⟩ (.slice va2 (S.length + 1) vc2)) := kWI.trans (HF6.out.below HORD2.out.2.2.2 (fun g hg => by simp at hg; subst hg; exact HORD2.out.1))
            clear ho1 hg1 he1 how hx1 hxl hob HB5 hoffA hWl4 hc0
            go_wp2
            refine ⟨?_, by simp [intOf]; omega⟩
            first | exact ⟨t + 1, S ++ [(t : Int)], _, by omega, by go_num, HKS2, HB6, HO6, HF6, kb6⟩ | ((repeat apply Exists.intro); exact ⟨⟨t + 1, S ++ [(t : Int)], _, by omega, by go_num, HKS2, HB6, HO6, HF6, kb6⟩, rfl⟩)
          · rw [decide_eq_false he] at hsq
            have HKS2 : Hid (S = plK L s (t + 1)) := by show _ = _; rw [hKS.out, if_neg he, List.append_nil]
            clear he hKS
            go_wp2_with fail
            refine ⟨?_, by simp [intOf]; omega⟩
            first | exact ⟨t + 1, S, _, by omega, by go_num, HKS2, hBX, hOS, hOF, kb3⟩ | ((repeat apply Exists.intro); exact ⟨⟨t + 1, S, _, by omega, by go_num, HKS2, hBX, hOS, hOF, kb3⟩, rfl⟩)
        · have htl2 : t = L.length := by omega
          subst htl2
          have hti : ¬ ((L.length : Int) < (L.length : Int)) := by omega
          have hS2 := hS.out
          have hSl : S.length ≤ 1000 := by
            rw [hS2]
            have := plK_len L s L.length
            omega
          have HG6 : Hid (GrP w.heap.size w3 (.slice ob N.length od) N us) := HG3.out.off hOF.out (fun x hx hm => by simp at hm; subst hm; have := HFPL.out _ hx; omega)
          by_cases hS0 : S = []
          · have HN3 : Hid (N = psK ds s (k + 1)) := by
              show _ = _
              rw [HPS.out, ← hS2, if_pos hS0, List.append_nil]; exact hN.out
            have hS0l : S.length = 0 := by rw [hS0]; rfl
            rw [hS0l] at hx1
            clear hS0 hS2 hS0l hS hOS
            go_wp2_with fail
            refine ⟨?_, by simp [intOf]; omega⟩
            first | exact ⟨k + 1, us, N, by omega, by go_num, HN3, by omega, HG6, kb3⟩ | ((repeat apply Exists.intro); exact ⟨⟨k + 1, us, N, by omega, by go_num, HN3, by omega, HG6, kb3⟩, rfl⟩)
          · have HN3 : Hid (N ++ [((k : Int), S)] = psK ds s (k + 1)) := by
              show _ = _
              rw [HPS.out, ← hS2, if_neg hS0, hN.out]
            have hSp : 0 < S.length := List.length_pos_iff.2 hS0
            have hS0l : decide ((0 : Int) < (S.length : Int)) = true := by
              simp; omega
            have how := HG6.out.row
            have hPD : Hid (∀ x ∈ obl (.slice sa S.length sc), x ∉ fpG (.slice ob N.length od) us) := fun x hx hm => by
              have h1 := (own_lt hOS.out x hx).1
              have h2 := HFPL.out x hm
              have := HORD2.out
              omega
            have HNL : Hid (∀ z : Po, (N ++ [z]).length ≤ k + 1) := fun z => by simp; omega
            clear hS0 hS2 hS
            go_wp2_with (first | (at_builtin; refine wplOwn rfl _ _ 26 rfl w.heap.size 39 j0 (.agg #[.int .i64 0, .slice none 0 0]) 2 32 Try.underlying26 hj hy0 hy1 hy2 rfl (by decide) _ _ _ rfl (how.alloc _) _ 1 [.int .i64 (k : Int), .slice sa S.length sc] rfl (news2 _ _ _ _) ?c1 ?c2 ?c3 ?c4 ?_) | fail)
            case c1 => first | rfl | exact ⟨rfl, rfl⟩ | (intro u hu; simp at hu; rcases hu with rfl | rfl <;> rfl)
            case c2 => unfold maxLen; omega
            case c3 => omega
            case c4 => first | omega | (simp; omega)
            intro x1 w4 ho1 hg1 he1
            have hown0 := hOS.out.alloc (.cells #[.int .i64 (k : Int), .slice sa S.length sc] 39)
            have HGF : Hid (GrP w.heap.size w4 x1 (N ++ [((k : Int), S)]) (us ++ [.slice sa S.length sc])) :=
              GrP.snoc (HG6.out.below ((Below.refl _ _).alloc (Nat.le_refl _) _)) (own_mono hown0 HORD2.out.2.2.2) hPD.out ho1 hg1 (by simpa using he1)
            obtain ⟨va2, vc2, hve⟩ := HGF.out.slice
            subst hve
            have HK4 : Below w.heap.size w w4 := Below.grown (kb3.alloc kl3 _) hg1 (by simp; omega) (fun q hq => (how.lt q hq).1)
            clear ho1 hg1 he1 how hown0
            go_wp2
            refine ⟨?_, by simp [intOf]; omega⟩
            first | exact ⟨k + 1, _, _, by omega, by go_num, HN3, HNL.out _, HGF, HK4⟩ | ((repeat apply Exists.intro); exact ⟨⟨k + 1, _, _, by omega, by go_num, HN3, HNL.out _, HGF, HK4⟩, rfl⟩)
    · have hki : ¬ (k : Int) < (ds.length : Int) := by omega
      have hke : k = ds.length := by omega
      subst hke
      have HG2 : Hid (GrP w.heap.size wr (.slice ob N.length od) (psK ds s ds.length) us) := by show GrP _ _ _ _ _; rw [← hN.out]; exact hG.out
      clear hG
      go_wp2
      go_ret
      exact ⟨⟨_, rfl, us, HG2.out⟩, kb⟩
/-- What PostsOf answers. -/
def poB (ds : List ByteArray) (s : ByteArray) : Bool := docsB ds && wdB s
def poA (ds : List ByteArray) (s : ByteArray) : List Po := if poB ds s then psK ds s ds.length else []
set_option maxHeartbeats 6400000 in
set_option maxRecDepth 100000 in
theorem specPosts (x : Value) (ds : List ByteArray) (s : ByteArray) (w : World) (hx : StrsAt w x ds) (hl : ds.length ≤ 1048576) (hz : ∀ s ∈ ds, s.size ≤ 1048576) (hs : s.size ≤ 1048576) :
    Calls Try.prog 15 #[x, .string s] w fun e w' => (∃ v vs, e = .returned (.tuple #[v, .bool (poB ds s)]) ∧ GrP w.heap.size w' v (poA ds s) vs) ∧ Below w.heap.size w w' := by
  have HX := hid hx
  have HD := fun W h => specDocs x ds W h hl hz
  have HW := fun W => specWord s hs W
  have HL := fun W h hd => specL9 x ds s W h hd hs
  obtain ⟨xa, xc, hxe⟩ := hx.slice
  subst hxe
  clear hx hl hz
  by_cases h1 : docsB ds = true
  · rw [h1] at HD
    by_cases h2 : wdB s = true
    · have hb : poB ds s = true := by unfold poB; rw [h1, h2]; rfl
      have ha : poA ds s = psK ds s ds.length := by unfold poA; rw [hb, if_pos rfl]
      rw [hb, ha]
      rw [h2] at HW
      have HL2 := fun W h => HL W h h1
      clear hb ha h1 h2 HL
      go_enter Try.func15, Try.ntmps15
      go_wp2_with fail
      refine (HD _ HX.out).mono ?_
      rintro e w1 ⟨rfl, hb1⟩
      go_wp2_with fail
      refine (HW _).mono ?_
      rintro e w9 ⟨rfl, hw9⟩
      subst w9
      go_wp2_with fail
      refine (HL2 _ (HX.out.below hb1)).mono ?_
      rintro e w2 ⟨⟨v, vs, rfl, hg⟩, hb2⟩
      have k2 : Below w.heap.size w w2 := hb1.trans (hb2.mono hb1.size)
      have HG := hid (hg.mono hb1.size)
      obtain ⟨va, vc, hve⟩ := hg.slice
      subst hve
      clear hg hb1 hb2 HL2 HD HW
      go_wp2
      go_returns
      exact ⟨⟨_, vs, rfl, HG.out⟩, k2⟩
    · rw [Bool.not_eq_true] at h2
      have hb : poB ds s = false := by unfold poB; rw [h1, h2]; rfl
      have ha : poA ds s = [] := by unfold poA; rw [hb]; rfl
      rw [hb, ha]
      rw [h2] at HW
      clear hb ha h1 h2 HL
      go_enter Try.func15, Try.ntmps15
      go_wp2_with fail
      refine (HD _ HX.out).mono ?_
      rintro e w1 ⟨rfl, hb1⟩
      go_wp2_with fail
      refine (HW _).mono ?_
      rintro e w9 ⟨rfl, hw9⟩
      subst w9
      go_wp2
      go_returns
      exact ⟨⟨_, [], rfl, GrP.nil _ _⟩, hb1⟩
  · rw [Bool.not_eq_true] at h1
    rw [h1] at HD
    have hb : poB ds s = false := by unfold poB; rw [h1]; rfl
    have ha : poA ds s = [] := by unfold poA; rw [hb]; rfl
    rw [hb, ha]
    clear hb ha h1 HL
    go_enter Try.func15, Try.ntmps15
    go_wp2_with fail
    refine (HD _ HX.out).mono ?_
    rintro e w1 ⟨rfl, hb1⟩
    go_wp2
    go_returns
    exact ⟨⟨_, [], rfl, GrP.nil _ _⟩, hb1⟩
theorem psK_sum {ds : List ByteArray} (h : docsB ds = true) (s : ByteArray) : ∀ d, d ≤ ds.length → sumL (psK ds s d) ≤ 20 * d
  | 0, _ => by simp [psK, sumL]
  | d + 1, hd => by
    have h1 := psK_sum h s d (by omega)
    have h2 := (doc_yes ((docs_yes h).2 d (by omega))).2
    have h3 := plK_len (docAt ds d) s (docAt ds d).length
    have h4 : (docAt ds d).length ≤ 20 := h2
    simp only [psK]
    split
    · rw [List.append_nil]; omega
    · rw [sumL_snoc]; simp only; omega
theorem poA_len (ds : List ByteArray) (s : ByteArray) : (poA ds s).length ≤ 12 ∧ sumL (poA ds s) ≤ 240 := by
  unfold poA
  split
  · rename_i h
    unfold poB at h
    rw [Bool.and_eq_true] at h
    have h1 := (docs_yes h.1).1
    have h2 := psK_len ds s ds.length
    have h3 := psK_sum h.1 s ds.length (Nat.le_refl _)
    omega
  · simp [sumL]
set_option maxHeartbeats 6400000 in
set_option maxRecDepth 100000 in
theorem specCount (x : Value) (ds : List ByteArray) (s : ByteArray) (w : World) (hx : StrsAt w x ds) (hl : ds.length ≤ 1048576) (hz : ∀ s ∈ ds, s.size ≤ 1048576) (hs : s.size ≤ 1048576) :
    Calls Try.prog 17 #[x, .string s] w fun e w' => e = .returned (.tuple #[.int .i64 ((poA ds s).length : Nat), .int .i64 (sumL (poA ds s) : Nat), .bool (poB ds s)]) ∧ Below w.heap.size w w' := by
  have HX := hid hx
  have HP := fun W h => specPosts x ds s W h hl hz hs
  obtain ⟨hal, has⟩ := poA_len ds s
  obtain ⟨xa, xc, hxe⟩ := hx.slice
  subst hxe
  clear hx hl hz hs
  have hA0 : poB ds s = false → poA ds s = [] := fun h => by unfold poA; rw [h]; rfl
  have HA0 := hid hA0
  generalize poA ds s = A at *
  generalize poB ds s = B at *
  clear hA0
  cases B with
  | false =>
    have ha := HA0.out rfl
    subst ha
    go_enter Try.func17, Try.ntmps17
    go_wp2_with fail
    refine (HP _ HX.out).mono ?_
    rintro e w1 ⟨⟨v, vs, rfl, hg⟩, hb1⟩
    obtain ⟨va, vc, hve⟩ := hg.slice
    subst hve
    clear hg HP
    go_wp2
    go_returns
    exact ⟨rfl, hb1⟩
  | true =>
    go_enter Try.func17, Try.ntmps17
    go_wp2_with fail
    refine (HP _ HX.out).mono ?_
    rintro e w1 ⟨⟨v, vs, rfl, hg⟩, hb1⟩
    have HP1 := hid hg.at
    obtain ⟨va, vc, hve⟩ := hg.slice
    subst hve
    have kz := hb1.size
    clear hg HP
    go_wp2_with fail
    go_loopw [9, 22] (fun n i wr => ∃ k : Nat, k ≤ A.length ∧ i = .int .i64 k ∧ n = .int .i64 (sumL (A.take k) : Nat) ∧ sumL (A.take k) ≤ 240 ∧ Below w1.heap.size w1 wr) (fun _ i _ => A.length - (intOf i).toNat)
    case atStart => exact ⟨0, Nat.zero_le _, rfl, by simp [sumL], by simp [sumL], Below.refl _ _⟩
    case round =>
      obtain ⟨k, hk, rfl, rfl, hsl, kb⟩ := hrel
      have kl := kb.size
      by_cases hlt : k < A.length
      · obtain ⟨g, off, cap, hve, hgl, pv, p0, p1, hlp⟩ := (HP1.out.below kb).rows hlt
        cases hve
        have hki : (k : Int) < (A.length : Int) := by omega
        have hk0 : (0 : Int) ≤ (k : Int) := by omega
        have hst := sumL_step A k hlt
        have hle := sumL_take A (k + 1)
        obtain ⟨pa, pc, hpe⟩ := hlp.slice
        subst hpe
        clear hlp
        obtain ⟨S2, hS2⟩ : ∃ S2, S2 = sumL (A.take (k + 1)) := ⟨_, rfl⟩
        have HS2 := hid hS2
        rw [← hS2] at hst hle
        clear hS2
        generalize sumL (A.take k) = S at *
        generalize (A.getD k default).1 = d at *
        generalize (A.getD k default).2 = l at *
        have hw : IntKind.i64.wrap ((S : Int) + (l.length : Int)) = (S2 : Int) := by rw [IntKind.wrap_i64]; omega
        clear hst
        go_wp2_with fail
        exact ⟨⟨k + 1, by omega, by go_num, by rw [HS2.out], by rw [← HS2.out]; omega, by go_grown⟩, by simp [intOf]; omega⟩
      · have hke : k = A.length := by omega
        subst hke
        have hki : ¬ (A.length : Int) < (A.length : Int) := by omega
        rw [List.take_length]
        have kf : Below w.heap.size w wr := hb1.trans (kb.mono kz)
        go_wp2
        go_returns
        exact ⟨rfl, kf⟩
end Go.Proofs.Ytkkmnegmghllpaa
