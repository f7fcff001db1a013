/- Contract of the program's NearIn. Condition: the documents lie in memory. -/
import Derived.Test.YtkkmnegmghllpaaNearM
namespace Go.Proofs.Ytkkmnegmghllpaa
open Go.ChangeShapes Go.WideShapes Go.ChangeAt Go.RowKit Go.Deep
set_option linter.unusedVariables false
attribute [local go_sem ↓] Go.wp_at_zero Go.wp_at_succ

theorem plcs_bd {d : Int} : ∀ {l : List Po}, (∀ p ∈ l, ∀ n ∈ p.2, 0 ≤ n ∧ n ≤ 1000) → ∀ n ∈ plcs l d, 0 ≤ n ∧ n ≤ 1000
  | [], _, n, hn => by simp [plcs] at hn
  | p :: l, h, n, hn => by
    unfold plcs at hn
    split at hn
    · exact h p (by simp) n hn
    · exact plcs_bd (fun q hq => h q (by simp [hq])) n hn
theorem strs_two (W : World) (s t : ByteArray) (tt : TypeId) : StrsAt (W.alloc (.cells #[.string s, .string t] tt)) (.slice (some ⟨W.heap.size, 0, none⟩) 2 2) [s, t] := by
  refine .inr ⟨W.heap.size, 0, 2, rfl, by simp, fun i hi => ?_⟩
  match i, hi with
  | 0, _ => simp [World.cell?_alloc_new]
  | 1, _ => simp [World.cell?_alloc_new]
theorem all_two (s t : ByteArray) : [s, t].all wdB = (wdB s && wdB t) := by simp
set_option maxHeartbeats 12800000 in
set_option maxRecDepth 100000 in
theorem implNearIn (x : Value) (ds : List ByteArray) (a b : ByteArray) (y : Int) (A : List Int) (hA : NeIs ds a b y A) (w : World) (hx : StrsAt w x ds) (hl : ds.length ≤ 1048576) (hs : ∀ s ∈ ds, s.size ≤ 1048576) (ha : a.size ≤ 1048576) (hb : b.size ≤ 1048576) :
    Calls Try.prog 32 #[x, .string a, .string b, .int .i64 y] w fun e w' => (∃ v, e = .returned (.tuple #[v, .bool (neB ds a b y)]) ∧ OwnS w' w.heap.size 3 v A.length (intsV A)) ∧ Below w.heap.size w w' := by
  obtain ⟨i0, hi, hzz⟩ := Option.map_eq_some_iff.1 infoIn2
  simp only [Prod.mk.injEq] at hzz
  obtain ⟨hz0, hz1, hz2⟩ := hzz
  have HX := hid hx
  have HAA := hid hA
  have HLK := fun z W h g => implLook x z ds [a, b] W h g hl hs (by simp) (fun s hs => by simp at hs; rcases hs with rfl | rfl <;> assumption)
  obtain ⟨xa, xc, hxe⟩ := hx.slice
  subst hxe
  have HNO : Hid (neB ds a b y = false → A = []) := fun h => by
    rcases hA with ⟨h1, _⟩ | ⟨_, h1⟩
    · rw [h] at h1; cases h1
    · exact h1
  clear hx hl hs ha hb hA
  by_cases hy : 1 ≤ y ∧ y ≤ 20
  · have i1 : decide (y < 1) = false := by simp; omega
    have i2 : decide (20 < y) = false := by simp; omega
    have HNB : Hid (neB ds a b y = (docsB ds && (wdB a && wdB b))) := by show _ = _; unfold neB; rw [decide_eq_true hy, Bool.and_true, Bool.and_assoc]
    have HY := hid hy
    clear hy
    go_enter Try.func32, Try.ntmps32
    go_wp2_with fail
    refine (HLK _ _ (HX.out.below (by go_grown)) (strs_two _ _ _ _)).mono ?_
    rintro e w1 ⟨hcs, hb1⟩
    have k1 : Below w.heap.size w w1 := by
      refine Below.trans ?_ (hb1.mono ?_)
      · go_grown
      · go_size
    have kl1 := k1.size
    clear hb1 HLK
    rcases hcs with ⟨hd, hw, lv, V, F, rfl, hr, hg⟩ | ⟨hd, rfl⟩
    · rw [all_two] at hw
      have HB : Hid (neB ds a b y = true) := by show _ = _; rw [HNB.out, hd, hw]; rfl
      have HNR : Hid (NrIs ds a b y ds.length A) := by
        rcases HAA.out with ⟨_, h1⟩ | ⟨h1, _⟩
        · exact h1
        · rw [HB.out] at h1; cases h1
      have HNQ := hid (HNR.out.posts (Nat.le_refl _))
      obtain ⟨f0, f1⟩ := flatW_0 ds V [a, b] 0 (by simp)
      obtain ⟨e0, e1⟩ := flatW_0 ds V [a, b] 1 (by simp)
      obtain ⟨g, off, c, hve, hgl, c0, c1⟩ := rows_two hr (i := 0) (by simp) f0 f1
      subst hve
      obtain ⟨g', off', c', hve, _, d0, d1⟩ := rows_two hr (i := 1) (by simp) e0 e1
      simp only [Value.slice.injEq, Option.some.injEq, Addr.mk.injEq, and_true, true_and] at hve
      obtain ⟨⟨rfl, rfl⟩, hcc⟩ := hve
      clear hcc
      simp only [Nat.zero_mul, Nat.add_zero, Nat.one_mul, List.getD_cons_zero, List.getD_cons_succ] at c0 c1 d0 d1
      have HPA := hid (hg a).at
      have HPB := hid (hg b).at
      have HSA := hid (psK_sm hd a)
      have HSB := hid (psK_sm hd b)
      obtain ⟨va, vc, hve⟩ := (hg a).slice
      rw [hve] at c0 HPA
      obtain ⟨vb, vd, hve2⟩ := (hg b).slice
      rw [hve2] at d0 HPB
      have hll : (psK ds a ds.length).length ≤ 1000 := HSA.out.1
      have hlb : (psK ds b ds.length).length ≤ 1000 := HSB.out.1
      generalize psK ds a ds.length = PA at *
      generalize psK ds b ds.length = PB at *
      clear hd hw hr hg f0 f1 e0 e1 hve hve2 c1 d1
      go_wp2_with fail
      go_loopw [12, 36] (fun o i wr => ∃ (k : Nat) (l : List Int), k ≤ PA.length ∧ i = .int .i64 k ∧ Hid (NqIs PB y (PA.take k) l) ∧ l.length ≤ k ∧ Hid (OwnS wr w1.heap.size 3 o l.length (intsV l)) ∧ Below w1.heap.size w1 wr) (fun _ i _ => PA.length - (intOf i).toNat)
      case atStart => exact ⟨0, [], Nat.zero_le _, rfl, .zero, by simp, OwnS.nil _ _ _, Below.refl _ _⟩
      case round =>
        obtain ⟨k, l, hk, rfl, hNq, hll2, hO, kb⟩ := hrel
        have kl := kb.size
        obtain ⟨oa, oc, hoe⟩ := (rows_of_ownS hO.out).slice
        subst hoe
        by_cases hlt : k < PA.length
        · obtain ⟨g2, off2, cap2, hve, hgl2, pv, p0, p1, hlp⟩ := (HPA.out.below kb).rows hlt
          cases hve
          have hki : (k : Int) < (PA.length : Int) := by omega
          have hk0 : (0 : Int) ≤ (k : Int) := by omega
          obtain ⟨Bk, hBk⟩ := nr_ex (PA.getD k default).2 (plcs PB (PA.getD k default).1) y
          have hsm := HSA.out.2 _ (getD_memL PA k hlt)
          have HTK : Hid (PA.take (k + 1) = PA.take k ++ [PA.getD k default]) := takeL2 PA k hlt
          have HYS : Hid (Bk = true → NqIs PB y (PA.take (k + 1)) (l ++ [(PA.getD k default).1])) := fun h => by rw [HTK.out]; exact .yes hNq.out (hBk.1 h)
          have HNS : Hid (Bk = false → NqIs PB y (PA.take (k + 1)) l) := fun h => by
            rw [HTK.out]
            exact .no hNq.out (fun hn => by rw [hBk.2 hn] at h; cases h)
          have hplb : ∀ n ∈ plcs PB (PA.getD k default).1, 0 ≤ n ∧ n ≤ 1000 := plcs_bd (fun p hp => (HSB.out.2 p hp).2)
          have HPL := fun W h => implPlaces (.slice vb PB.length vd) PB (PA.getD k default).1 W h (by omega)
          have HNE := fun z W h h2 => implNear pv z (PA.getD k default).2 (plcs PB (PA.getD k default).1) y Bk hBk W h h2 hsm.1 (plcs_len (fun p hp => (HSB.out.2 p hp).1)) hsm.2 hplb
          have HLP := hid hlp
          obtain ⟨pa, pc, hpe⟩ := hlp.slice
          subst hpe
          have c1 := (kb.cell (p := ⟨g, off + 2, none⟩) hgl).trans d0
          have hgw : g < wr.heap.size := by omega
          clear hBk hsm hplb HTK hlp hNq
          generalize (PA.getD k default).1 = d at *
          generalize (PA.getD k default).2 = pl at *
          generalize plcs PB d = PD at *
          obtain ⟨W1, hW1⟩ : ∃ W1, W1 = wr.alloc (.cells #[.int .i64 d, .slice pa pl.length pc] 39) := ⟨_, rfl⟩
          have hx0 := boxNew wr #[.int .i64 d, .slice pa pl.length pc] 39
          rw [← hW1] at hx0
          have kW : Below wr.heap.size wr W1 := by rw [hW1]; exact (Below.refl _ _).alloc (Nat.le_refl _) _
          obtain ⟨bx, hbx⟩ : ∃ bx, bx = wr.heap.size := ⟨_, rfl⟩
          go_upto_region 10 with fail
          rw [← hW1, ← hbx]
          rw [← hbx] at hx0
          have HBX := hid hx0
          have HPB1 := hid ((HPB.out.below kb).below kW)
          have HLP1 := hid (HLP.out.below kW)
          have HO1 := hid (hO.out.below kW)
          have kb1 : Below w1.heap.size w1 W1 := kb.trans (kW.mono kl)
          have c2 : W1.cell? ⟨g, off + 2, none⟩ = some (.slice vb PB.length vd) := (kW.cell (p := ⟨g, off + 2, none⟩) hgw).trans c1
          have hgW : g < W1.heap.size := Nat.lt_of_lt_of_le hgw kW.size
          have x0 := HBX.out.2.1 0 _ rfl
          have x1 := HBX.out.2.1 1 _ rfl
          have hbxW := HBX.out.1
          clear hW1 hbx kW hx0 p0 p1 c1 hgw HLP hO hgl2
          go_region_held3 (fun w' => (w'.cell? ⟨bx, 0, none⟩ = some (.int .i64 d) ∧ w'.cell? ⟨bx, 1, none⟩ = some (.slice pa pl.length pc)) ∧ w'.cell? ⟨g, off + 2, none⟩ = some (.slice vb PB.length vd)) (go_keep)
            (first
              | (go_at_call 73; refine (HPL _ (HPB1.out.below (by go_grown))).mono ?_; rintro e w3 ⟨⟨ov, rfl, hov⟩, hx3⟩; have hp3 := kept hx3 bx (by go_size); have hq3 := kept hx3 g (by go_size); have k3 : Below W1.heap.size W1 w3 := (by exact Below.trans (by go_grown) (hx3.mono (by go_size))); have kz3 := k3.size; have HOV := hid hov; obtain ⟨ova, ovc, hoe⟩ := hov.slice; subst hoe; clear hov hx3)
              | (go_at_call 72; refine (HNE _ _ (HLP1.out.below k3) HOV.out).mono ?_; rintro e w4 ⟨rfl, hx4⟩; have hp4 := kept hx4 bx (by omega); have hq4 := kept hx4 g (by omega); have k4 : Below W1.heap.size W1 w4 := (by exact k3.trans (hx4.mono (by omega))); have kz4 := k4.size; clear hx4))
          all_goals
            have kb4 : Below w1.heap.size w1 w4 := kb1.trans (k4.mono kb1.size)
            have HO4 := hid (HO1.out.below k4)
            have HBX4 := HBX.out.below k4
            have y0 := HBX4.2.1 0 _ rfl
            have hbx4 := HBX4.1
            have kl4 := kb4.size
            clear hp3 hq3 hp4 hq4 HBX4 k3 k4 kz3 kz4 kb1 HPL HNE c2 x0 x1 hgW hbxW
            cases Bk with
            | false =>
              have HS := hid (HNS.out rfl)
              clear HNS HYS
              go_wp2_with fail
              refine ⟨?_, by simp [intOf]; omega⟩
              first | exact ⟨k + 1, l, by omega, by go_num, HS, by omega, HO4, kb4⟩ | ((repeat apply Exists.intro); exact ⟨⟨k + 1, l, by omega, by go_num, HS, by omega, HO4, kb4⟩, rfl⟩)
            | true =>
              have HS := hid (HYS.out rfl)
              have how := HO4.out
              clear HNS HYS
              go_wp2_with (first | (at_builtin; refine wplS rfl _ _ 37 rfl w1.heap.size 3 i0 (.int .i64 0) 8 Try.underlying37 hi hz0 hz1 hz2 rfl _ _ _ rfl (how.alloc _) _ 1 [.int .i64 d] rfl (news1 _ _ _) ?c1 ?c2 ?c3 ?c4 ?_) | fail)
              case c1 => first | rfl | (intro u hu; simp at hu; subst hu; rfl)
              case c2 => unfold maxLen; omega
              case c3 => omega
              case c4 => first | omega | (simp; omega)
              intro xx w5 ho1 hg1 he1
              obtain ⟨va2, vc2, hve⟩ := (rows_of_ownS ho1).slice
              subst hve
              have HO5 : Hid (OwnS w5 w1.heap.size 3 (.slice va2 (l.length + 1) vc2) (l ++ [d]).length (intsV (l ++ [d]))) := by
                show OwnS _ _ _ _ _ _
                simpa [intsV] using ho1
              have HK5 : Below w1.heap.size w1 w5 := (kb4.alloc kb4.size _).trans (below_own (how.alloc _) (Nat.le_refl _) hg1 (by simp; omega))
              clear ho1 hg1 he1 how
              go_wp2_with fail
              refine ⟨?_, by simp [intOf]; omega⟩
              first | exact ⟨k + 1, l ++ [d], by omega, by go_num, HS, by simp; omega, HO5, HK5⟩ | ((repeat apply Exists.intro); exact ⟨⟨k + 1, l ++ [d], by omega, by go_num, HS, by simp; omega, HO5, HK5⟩, rfl⟩)
        · have hke : k = PA.length := by omega
          subst hke
          have hki : ¬ (PA.length : Int) < (PA.length : Int) := by omega
          have HLE : Hid (l = A) := by
            show _ = _
            have h9 := hNq.out
            rw [List.take_length] at h9
            exact h9.uniq HNQ.out rfl
          have HOF : Hid (OwnS wr w.heap.size 3 (.slice oa l.length oc) l.length (intsV l)) := own_mono hO.out kl1
          have kf : Below w.heap.size w wr := k1.trans (kb.mono kl1)
          clear hO
          go_wp2_with fail
          go_returns
          exact ⟨⟨_, by rw [HB.out]; rfl, by rw [← HLE.out]; exact HOF.out⟩, kf⟩
    · have HB : Hid (neB ds a b y = false) := by show _ = _; rw [HNB.out, ← all_two]; exact hd
      clear hd
      go_wp2_with fail
      go_returns
      exact ⟨⟨_, by rw [HB.out]; rfl, by rw [HNO.out HB.out]; exact OwnS.nil _ _ _⟩, k1⟩
  · have HB : Hid (neB ds a b y = false) := by show _ = _; unfold neB; rw [decide_eq_false hy, Bool.and_false]
    by_cases h1 : y < 1
    · have i1 : decide (y < 1) = true := decide_eq_true h1
      clear hy h1
      go_enter Try.func32, Try.ntmps32
      go_wp2
      go_returns
      exact ⟨⟨_, by rw [HB.out]; rfl, by rw [HNO.out HB.out]; exact OwnS.nil _ _ _⟩, Below.refl _ _⟩
    · have i1 : decide (y < 1) = false := decide_eq_false h1
      have i2 : decide (20 < y) = true := by simp; omega
      clear hy h1
      go_enter Try.func32, Try.ntmps32
      go_wp2
      go_returns
      exact ⟨⟨_, by rw [HB.out]; rfl, by rw [HNO.out HB.out]; exact OwnS.nil _ _ _⟩, Below.refl _ _⟩
end Go.Proofs.Ytkkmnegmghllpaa
