/- Contract of the model's reading of pages. Condition: the pages lie in memory. -/
import Derived.Test.YtgjcegmjhkehnaaDoorOwnU
import Derived.Test.YtgjcegmjhkehnaaDoorPgs
namespace Go.Proofs.YtgjcegmjhkehnaaDoor
open Go.ChangeShapes Go.WideShapes Go.ChangeAt Go.RowKit Go.Deep
set_option linter.unusedVariables false
attribute [local go_sem ↓] Go.wp_at_zero Go.wp_at_succ

def ReadPost (pages : List Pg) (f a base : Nat) (e : Ending) (w' : World) : Prop :=
  (∃ t n v F, readM pages f a = some (t, n) ∧ e = .returned (.tuple #[v, .int .i64 (n : Nat)]) ∧ OwnT w' base t v F) ∨ (readM pages f a = none ∧ e = .returned (.tuple #[.pointer none, .int .i64 (-1)]))
theorem one_strs (l : List ByteArray) : ∀ u ∈ strsV l, u.oneCell' = true := by
  intro u hu
  simp only [strsV, List.mem_map] at hu
  obtain ⟨s, _, rfl⟩ := hu
  rfl
theorem leS {a b : World} {n m : Nat} (h : Below n a b) (hm : m ≤ a.heap.size) : m ≤ b.heap.size := Nat.le_trans hm h.size
theorem belT {a b c : World} {n : Nat} (h : Below n a b) (g : Below b.heap.size b c) (hn : n ≤ b.heap.size) : Below n a c := h.trans (g.mono hn)
/-- 'append([]string{}, xs...)' as one step of a region that draws. -/
theorem stepE {P : Program} {ops : Array Oper} {o : Oper} {a : Act} {W : World} {K : Act → World → Prop} {Q : Exit → Act → World → Prop} {E : Prop} (W0 : World) (hW : Below W0.heap.size W0 W)
    (hg : o.guard = none) (s x : Operand) (t : TypeId) (ho : o.op = Op.call { callee := Callee.builtin Builtin.append, args := #[s, x], argTypes := #[t, t] })
    (base : Nat) (hbase : base ≤ W0.heap.size) (e : TypeId) (i : TypeInfo) (z : Value) (bytes : Nat) (ht : P.underlying t = some (.slice e)) (hi : P.info? e = some i) (hz : i.zero = some z)
    (hsize : i.size = 1) (hby : i.bytes = bytes) (hzs : z.cells.size = 1)
    (xv : Value) (m : Nat) (news : List Value) (hrow : RowsAt W0 1 xv m news) (h1 : ∀ u ∈ news, u.oneCell' = true)
    (h63 : 0 + m ≤ maxLen) (hbytes : (0 + m) * bytes ≤ 140737488355328)
    (g : Nat) (hs : a.eval s = .slice (some ⟨g, 0, none⟩) 0 0) (hx : a.eval x = xv)
    (hK : ∀ v' w', OwnS w' base e v' m news → Below W.heap.size W w' → Below W0.heap.size W0 w' → (∀ g ∈ obl v', W.heap.size ≤ g) → K (a.put o.dst v') w') :
    if Region.wanted o (yielded ops a.tmps) = true then Oper.wp P o a W K Q else E := by
  refine stepS hg s x t ho base e i z bytes ht hi hz hsize hby hzs _ 0 [] hs (.inr ⟨rfl, rfl, _, rfl⟩) xv m news hx (hrow.below hW) h1 h63 hbytes (Nat.le_trans hbase hW.size) ?_
  intro v' w' h2 h3 h4
  have hb : Below W.heap.size W w' := h3.below (Nat.le_refl _) (by simp [obl])
  refine hK v' w' (by simpa using h2) hb (hW.trans (hb.mono hW.size)) (fun g hg => ?_)
  rcases h4 g hg with h | h
  · simp [obl] at h
  · exact h
theorem bel_set {a b : World} {B g : Nat} (h : Below B a b) (hg : B ≤ g) (o : Nat) (v : Value) : Below B a (b.setCell ⟨g, o, none⟩ v) :=
  ⟨h.os, h.tape, h.output, Nat.le_trans h.size (by simp [World.setCell]), fun k hk => (setCell_other _ _ _ _ _ (by omega)).trans (h.block k hk)⟩
theorem infoP : (Tryd.prog.info? 106).map (fun i => (i.zero, i.size, i.bytes)) = some (some (.pointer none), 1, 8) := by kernel_rfl
set_option maxHeartbeats 12800000 in
set_option maxRecDepth 100000 in
theorem specRead (pages : List Pg) (hsm : Small pages) : ∀ (f a : Nat) (w : World) (x : Value) (d : Nat), PgsAt w x pages → d + f = 11 → a ≤ 1048577 →
    Calls Tryd.prog 118 #[.agg #[x], .int .i64 a, .int .i64 d] w fun e w' => ReadPost pages f a w.heap.size e w' ∧ Below w.heap.size w w' := by
  obtain ⟨i0, hi, hzz⟩ := Option.map_eq_some_iff.1 infoS
  simp only [Prod.mk.injEq] at hzz
  obtain ⟨hz0, hz1, hz2⟩ := hzz
  obtain ⟨ip, hip, hpp⟩ := Option.map_eq_some_iff.1 infoP
  simp only [Prod.mk.injEq] at hpp
  obtain ⟨hpz0, hpz1, hpz2⟩ := hpp
  intro f
  induction f with
  | zero =>
    intro a w x d hx hd ha
    obtain ⟨a0, c0, rfl⟩ := hx.slice
    have HP : Hid (readM pages 0 a = none) := rfl
    have h10 : (10 : Int) < (d : Int) := by omega
    have hd' : d = 11 := by omega
    subst hd'
    have hpl := hsm.1
    clear hsm hx hd
    by_cases hal : a < pages.length
    · have hai : ¬ ((pages.length : Int) ≤ (a : Int)) := by omega
      go_enter Tryd.func118, Tryd.ntmps118
      go_wp2_with fail
      go_returns
      exact ⟨.inr ⟨HP.out, rfl⟩, by go_grown⟩
    · have hai : (pages.length : Int) ≤ (a : Int) := by omega
      go_enter Tryd.func118, Tryd.ntmps118
      go_wp2_with fail
      go_returns
      exact ⟨.inr ⟨HP.out, rfl⟩, by go_grown⟩
  | succ f ih =>
    intro a w x d hx hd ha
    have h10 : ¬ ((10 : Int) < (d : Int)) := by omega
    have hpl := hsm.1
    by_cases hal : a < pages.length
    · obtain ⟨b, off, c, rfl, hb, kv, vv, cv, hk, hv, hc, rk, rv, rc⟩ := hx.page hal
      obtain ⟨hs1, hs2, hs3⟩ := hsm.at hal
      obtain ⟨pg, hpg⟩ : ∃ pg, pages.getD a default = pg := ⟨_, rfl⟩
      rw [hpg] at rk rv rc hs1 hs2 hs3
      have HPG := hid hpg
      clear hpg
      have hai : ¬ ((pages.length : Int) ≤ (a : Int)) := by omega
      have hai2 : (a : Int) < (pages.length : Int) := by omega
      have ha0 : (0 : Int) ≤ (a : Int) := by omega
      have HX := hid hx
      have HRK := hid rk
      have HRV := hid rv
      have HRC := hid rc
      have IH := hid ih
      have HSM := hid hsm
      have HD := hid hd
      obtain ⟨ka, kc, hkv⟩ := rk.slice
      obtain ⟨va, vc, hvv⟩ := rv.slice
      obtain ⟨ca, cc, hcv⟩ := rc.slice
      subst hkv
      subst hvv
      subst hcv
      clear hx rk rv rc ih hsm hd
      go_enter Tryd.func118, Tryd.ntmps118
      go_upto_region 4 with fail
      obtain ⟨W0, hW0⟩ : ∃ W0, W0 = ((w.alloc (.cells #[.slice (some ⟨b, off, none⟩) pages.length c] 44)).alloc (.cells #[.slice ka pg.keys.length kc, .slice va pg.vals.length vc, .slice ca pg.kids.length cc] 179)) := ⟨_, rfl⟩
      rw [← hW0]
      have hb0 : Below w.heap.size w W0 := by rw [hW0]; go_grown
      have p0 : W0.cell? ⟨w.heap.size + 1, 0, none⟩ = some (.slice ka pg.keys.length kc) := by rw [hW0]; simp
      have p1 : W0.cell? ⟨w.heap.size + 1, 1, none⟩ = some (.slice va pg.vals.length vc) := by rw [hW0]; simp
      have p2 : W0.cell? ⟨w.heap.size + 1, 2, none⟩ = some (.slice ca pg.kids.length cc) := by rw [hW0]; simp
      have q0 : W0.cell? ⟨w.heap.size, 0, none⟩ = some (.slice (some ⟨b, off, none⟩) pages.length c) := by rw [hW0]; simp
      have hsz : W0.heap.size = w.heap.size + 1 + 1 := by rw [hW0]; simp
      clear hW0
      go_cut [9] (fun p wc => ∃ g kv' vv', p = .pointer (some ⟨g, 0, none⟩) ∧ W0.heap.size ≤ g ∧ wc.heap[g]? = some (.cells #[kv', vv', .slice none 0 0] 178 (0, 0)) ∧
        OwnS wc W0.heap.size 9 kv' pg.keys.length (strsV pg.keys) ∧ OwnS wc W0.heap.size 9 vv' pg.vals.length (strsV pg.vals) ∧ (g :: (obl kv' ++ obl vv')).Nodup ∧ Below W0.heap.size W0 wc)
      case first =>
        have hrk := HRK.out.below hb0
        have hrv := HRV.out.below hb0
        have kb0 := Below.refl W0.heap.size W0
        have hsw : w.heap.size ≤ W0.heap.size := by omega
        have hl0 : w.heap.size + 1 < W0.heap.size := by omega
        go_region_held3 (fun w' => w'.cell? ⟨w.heap.size + 1, 0, none⟩ = some (.slice ka pg.keys.length kc) ∧ w'.cell? ⟨w.heap.size + 1, 1, none⟩ = some (.slice va pg.vals.length vc) ∧ Below W0.heap.size W0 w') ((refine ⟨?_, ?_, ?_⟩; (go_keep); (go_keep); (first | assumption | (exact Below.drew (Below.refl _ _)) | (exact Below.alloc (by assumption) (leS (by assumption) (Nat.le_refl _)) _) | (exact belT (by assumption) (by assumption) (by first | exact Nat.le_refl _ | (simp; done) | omega)) | go_grown)))
          (first | (refine stepE W0 (by first | assumption | (exact Below.drew (by assumption)) | (exact Below.drew (Below.refl _ _)) | (exact Below.drew (Below.alloc (Below.refl _ _) (Nat.le_refl _) _)) | go_grown) rfl (.tmp 29) (.tmp 31) 26 rfl W0.heap.size (Nat.le_refl _) 9 i0 (.string ByteArray.empty) 16 Tryd.underlying26 hi hz0 hz1 hz2 rfl (.slice ka pg.keys.length kc) pg.keys.length (strsV pg.keys) hrk (one_strs _) (by unfold maxLen; omega) (by omega) (W0.heap.size) ?e1 ?e2 ?_; (case e1 => (simp [Act.eval]; done)); (case e2 => (simp [Act.eval]; done)); intro vK wK hoK bK cK hgK; obtain ⟨aK, kK, hvK⟩ := (rows_of_ownS hoK).slice; subst hvK; have lK : w.heap.size + 1 < wK.heap.size := Nat.lt_of_lt_of_le hl0 cK.size; have nK : w.heap.size + 1 ≠ wK.heap.size := Nat.ne_of_lt lK; have dK0 := (cK.cell (p := ⟨w.heap.size + 1, 0, none⟩) hl0).trans p0; have dK1 := (cK.cell (p := ⟨w.heap.size + 1, 1, none⟩) hl0).trans p1) | (refine stepE W0 (by first | assumption | (exact Below.drew (by assumption)) | (exact Below.drew (Below.refl _ _)) | (exact Below.drew (Below.alloc (Below.refl _ _) (Nat.le_refl _) _)) | go_grown) rfl (.tmp 29) (.tmp 31) 26 rfl W0.heap.size (Nat.le_refl _) 9 i0 (.string ByteArray.empty) 16 Tryd.underlying26 hi hz0 hz1 hz2 rfl (.slice ka pg.keys.length kc) pg.keys.length (strsV pg.keys) hrk (one_strs _) (by unfold maxLen; omega) (by omega) (W0.heap.size + 1) ?e1 ?e2 ?_; (case e1 => (simp [Act.eval]; done)); (case e2 => (simp [Act.eval]; done)); intro vK wK hoK bK cK hgK; obtain ⟨aK, kK, hvK⟩ := (rows_of_ownS hoK).slice; subst hvK; have lK : w.heap.size + 1 < wK.heap.size := Nat.lt_of_lt_of_le hl0 cK.size; have nK : w.heap.size + 1 ≠ wK.heap.size := Nat.ne_of_lt lK; have dK0 := (cK.cell (p := ⟨w.heap.size + 1, 0, none⟩) hl0).trans p0; have dK1 := (cK.cell (p := ⟨w.heap.size + 1, 1, none⟩) hl0).trans p1) | (refine stepE W0 (by first | assumption | (exact Below.drew (by assumption)) | (exact Below.drew (Below.refl _ _)) | (exact Below.drew (Below.alloc (Below.refl _ _) (Nat.le_refl _) _)) | go_grown) rfl (.tmp 33) (.tmp 35) 26 rfl W0.heap.size (Nat.le_refl _) 9 i0 (.string ByteArray.empty) 16 Tryd.underlying26 hi hz0 hz1 hz2 rfl (.slice va pg.vals.length vc) pg.vals.length (strsV pg.vals) hrv (one_strs _) (by unfold maxLen; omega) (by omega) (W0.heap.size) ?e1 ?e2 ?_; (case e1 => (simp [Act.eval]; done)); (case e2 => (simp [Act.eval]; done)); intro vV wV hoV bV cV hgV; obtain ⟨aV, kV, hvV⟩ := (rows_of_ownS hoV).slice; subst hvV; have lV : w.heap.size + 1 < wV.heap.size := Nat.lt_of_lt_of_le hl0 cV.size; have nV : w.heap.size + 1 ≠ wV.heap.size := Nat.ne_of_lt lV; have dV0 := (cV.cell (p := ⟨w.heap.size + 1, 0, none⟩) hl0).trans p0; have dV1 := (cV.cell (p := ⟨w.heap.size + 1, 1, none⟩) hl0).trans p1) | (refine stepE W0 (by first | assumption | (exact Below.drew (by assumption)) | (exact Below.drew (Below.refl _ _)) | (exact Below.drew (Below.alloc (Below.refl _ _) (Nat.le_refl _) _)) | go_grown) rfl (.tmp 33) (.tmp 35) 26 rfl W0.heap.size (Nat.le_refl _) 9 i0 (.string ByteArray.empty) 16 Tryd.underlying26 hi hz0 hz1 hz2 rfl (.slice va pg.vals.length vc) pg.vals.length (strsV pg.vals) hrv (one_strs _) (by unfold maxLen; omega) (by omega) (W0.heap.size + 1) ?e1 ?e2 ?_; (case e1 => (simp [Act.eval]; done)); (case e2 => (simp [Act.eval]; done)); intro vV wV hoV bV cV hgV; obtain ⟨aV, kV, hvV⟩ := (rows_of_ownS hoV).slice; subst hvV; have lV : w.heap.size + 1 < wV.heap.size := Nat.lt_of_lt_of_le hl0 cV.size; have nV : w.heap.size + 1 ≠ wV.heap.size := Nat.ne_of_lt lV; have dV0 := (cV.cell (p := ⟨w.heap.size + 1, 0, none⟩) hl0).trans p0; have dV1 := (cV.cell (p := ⟨w.heap.size + 1, 1, none⟩) hl0).trans p1) | (refine stepE W0 (by first | assumption | (exact Below.drew (by assumption)) | (exact Below.drew (Below.refl _ _)) | (exact Below.drew (Below.alloc (Below.refl _ _) (Nat.le_refl _) _)) | go_grown) rfl (.tmp 33) (.tmp 35) 26 rfl W0.heap.size (Nat.le_refl _) 9 i0 (.string ByteArray.empty) 16 Tryd.underlying26 hi hz0 hz1 hz2 rfl (.slice va pg.vals.length vc) pg.vals.length (strsV pg.vals) hrv (one_strs _) (by unfold maxLen; omega) (by omega) (wK.heap.size) ?e1 ?e2 ?_; (case e1 => (simp [Act.eval]; done)); (case e2 => (simp [Act.eval]; done)); intro vV wV hoV bV cV hgV; obtain ⟨aV, kV, hvV⟩ := (rows_of_ownS hoV).slice; subst hvV; have lV : w.heap.size + 1 < wV.heap.size := Nat.lt_of_lt_of_le hl0 cV.size; have nV : w.heap.size + 1 ≠ wV.heap.size := Nat.ne_of_lt lV; have dV0 := (cV.cell (p := ⟨w.heap.size + 1, 0, none⟩) hl0).trans p0; have dV1 := (cV.cell (p := ⟨w.heap.size + 1, 1, none⟩) hl0).trans p1))
        all_goals
          have eKV : Below wK.heap.size wK wV := by
            refine belT ?_ bV ?_ <;> first | (exact Below.drew (Below.refl _ _)) | (exact Below.drew (Below.alloc (Below.refl _ _) (Nat.le_refl _) _)) | (exact Below.alloc (Below.refl _ _) (Nat.le_refl _) _) | (exact Below.refl _ _) | (simp; done)
          have sKV := eKV.size
          have hgV2 : ∀ g ∈ obl (.slice aV pg.vals.length kV), wK.heap.size ≤ g ∧ g < wV.heap.size := fun g hg => ⟨by have := hgV g hg; (try simp at this); omega, (own_lt hoV g hg).2⟩
          have HN := hid (nodup3 (fun g hg => (own_lt hoK g hg).2) hgV2 sKV)
          have HOK := hid ((hoK.below eKV).alloc (.cells #[Value.slice aK pg.keys.length kK, Value.slice aV pg.vals.length kV, Value.slice none 0 0] 178))
          have HOV := hid (hoV.alloc (.cells #[Value.slice aK pg.keys.length kK, Value.slice aV pg.vals.length kV, Value.slice none 0 0] 178))
          have hsV := cV.size
          have HCV := hid (cV.alloc (by omega) (.cells #[Value.slice aK pg.keys.length kK, Value.slice aV pg.vals.length kV, Value.slice none 0 0] 178))
          clear hgV2 hoK hoV bK bV cK hgK hgV
          go_wp2_with fail
          go_meet
          exact ⟨wV.heap.size, _, _, rfl, hsV, heap_alloc_new wV _, HOK.out, HOV.out, HN.out, HCV.out⟩
      case rest =>
        obtain ⟨g, kv', vv', rfl, hgb, hheap, hok, hov, hnd, kc1⟩ := hcut
        have HOK := hid hok
        have HOV := hid hov
        have HND := hid hnd
        have HH := hid hheap
        have kcl := kc1.size
        have r0 := (kc1.cell (p := ⟨w.heap.size + 1, 0, none⟩) (by simp; omega)).trans p0
        have r1 := (kc1.cell (p := ⟨w.heap.size + 1, 1, none⟩) (by simp; omega)).trans p1
        have r2 := (kc1.cell (p := ⟨w.heap.size + 1, 2, none⟩) (by simp; omega)).trans p2
        have s0 := (kc1.cell (p := ⟨w.heap.size, 0, none⟩) (by simp; omega)).trans q0
        have kcw : Below w.heap.size w wc := hb0.trans (kc1.mono (by omega))
        clear hok hov hnd hheap
        have HNO : Hid (¬ cntOk pg → readM pages (f + 1) a = none) := by
          intro h
          unfold readM
          rw [if_neg]
          rintro ⟨_, h2⟩
          rw [HPG.out] at h2
          exact h h2
        by_cases h1 : 4 < pg.keys.length
        · have HNM := hid (HNO.out (fun h => by have := h.1; omega))
          have h1i : (4 : Int) < (pg.keys.length : Int) := by omega
          go_wp2_with fail
          go_returns
          exact ⟨.inr ⟨HNM.out, rfl⟩, kcw⟩
        · have h1i : ¬ ((4 : Int) < (pg.keys.length : Int)) := by omega
          by_cases h2 : pg.vals.length = pg.keys.length
          · have h2i : (pg.vals.length : Int) = (pg.keys.length : Int) := by omega
            have h2b : ((pg.vals.length : Int) == (pg.keys.length : Int)) = true := by rw [h2i]; simp
            by_cases h3 : pg.kids.length = 0
            · have h3n : ((pg.kids.length : Int) != 0) = false := by rw [h3]; rfl
              have hco : cntOk pg := ⟨by omega, h2, .inl (List.eq_nil_of_length_eq_zero h3)⟩
              clear h3
              have HCO := hid hco
              have HPL : Hid (pg.prs.length = pg.keys.length) := Pg.prs_len hco
              rw [h2] at r1
              have HOT : Hid (∃ F, OwnT wc W0.heap.size (.mk pg.prs []) (.pointer (some ⟨g, 0, none⟩)) F) := by
                have hov := HOV.out
                rw [h2] at hov
                refine ⟨_, g, kv', vv', .slice none 0 0, [], [], rfl, hgb, HH.out, ?_, ?_, OwnS.nil _ _ _, ⟨rfl, rfl⟩, rfl, by simpa [obl] using HND.out⟩
                · rw [keysV_prs hco, HPL.out]; exact HOK.out
                · rw [valsV_prs hco, HPL.out]; exact hov
              have HKB := hid kc1
              clear h2i h2b h2 hco kc1 HOK HOV HND HH HNO
              go_wp2_with fail
              go_loopw [10, 12, 13, 14, 73] (fun nx s12 s13 s14 i wr => ∃ (j : Nat) (l : List Nd) (n : Nat), j ≤ pg.kids.length ∧ i = .int .i64 j ∧ nx = .int .i64 n ∧ readL (readM pages f) (pg.kids.take j) (a + 1) = some (l, n) ∧ (∃ F, OwnT wr W0.heap.size (.mk pg.prs l) (.pointer (some ⟨g, 0, none⟩)) F) ∧ Below W0.heap.size W0 wr) (fun _ _ _ _ i _ => pg.kids.length - (intOf i).toNat)
              case atStart => exact ⟨0, [], a + 1, Nat.zero_le _, rfl, by go_num, rfl, HOT.out, HKB.out⟩
              case round =>
                obtain ⟨j, l, n, hj, rfl, rfl, hread, hown, kb⟩ := hrel
                have HREAD := hid hread
                have HOWN := hid hown
                have hnle := readL_le (m := pages.length) (fun a t b h => readM_le h) hread
                clear hread hown HOT HKB
                have kl := kb.size
                have t2 := (kb.cell (p := ⟨w.heap.size + 1, 2, none⟩) (by simp; omega)).trans p2
                have t0 := (kb.cell (p := ⟨w.heap.size, 0, none⟩) (by simp; omega)).trans q0
                have kbw : Below w.heap.size w wr := hb0.trans (kb.mono (by omega))
                have HFAIL : Hid (∀ m, m ≤ pg.kids.length → readL (readM pages f) (pg.kids.take m) (a + 1) = none → readM pages (f + 1) a = none) := by
                  intro m hm hn
                  cases hr : readM pages (f + 1) a with
                  | none => rfl
                  | some x =>
                    obtain ⟨T, E⟩ := x
                    obtain ⟨g2, l2, hg2, _, _, h3, _⟩ := readM_some hr
                    have : g2 = f := by omega
                    subst this
                    rw [HPG.out] at h3
                    obtain ⟨e', he'⟩ := readL_take h3 m hm
                    rw [hn] at he'; simp at he'
                by_cases hlt : j < pg.kids.length
                · obtain ⟨b5, off5, c5, hce, hb5, hcell5⟩ := (HRC.out.below kbw).cell1 (i := j) hlt
                  cases hce
                  rw [intsV_get _ _ hlt] at hcell5
                  have HSN := hid (readL_snoc (rd := readM pages f) (pg.kids.take j) (pg.kids.getD j 0) (a + 1))
                  have HTK : Hid (pg.kids.take (j + 1) = pg.kids.take j ++ [pg.kids.getD j 0]) := by show _ = _; rw [List.take_succ_eq_append_getElem hlt]; simp [List.getD, hlt]
                  have hji : (j : Int) < (pg.kids.length : Int) := by omega
                  have hj0 : (0 : Int) ≤ (j : Int) := by omega
                  obtain ⟨k, hk⟩ : ∃ k, pg.kids.getD j 0 = k := ⟨_, rfl⟩
                  rw [hk] at hcell5 HSN HTK
                  clear hk
                  have HS2 : Hid (readL (readM pages f) (pg.kids.take (j + 1)) (a + 1) = if k = n then (match readM pages f n with | none => none | some (t, e') => some (l ++ [t], e')) else none) := by
                    show _ = _
                    rw [HTK.out, HSN.out, HREAD.out]
                    rfl
                  clear HSN HTK HREAD
                  by_cases hkn : k = n
                  · have HIH := IH.out n wr _ (d + 1) (HX.out.below kbw) (by have := HD.out; omega) (by omega)
                    have hbk : ((k : Int) != (n : Int)) = false := by rw [hkn]; simp
                    have hdi : ((d + 1 : Nat) : Int) = (d : Int) + 1 := by omega
                    rw [hdi] at HIH
                    clear hdi
                    go_wp2_with fail
                    refine HIH.mono ?_
                    rintro e w3 ⟨hpost, kb3⟩
                    have kl3 := kb3.size
                    rcases hpost with ⟨T, E, v', F', hrd, rfl, hot⟩ | ⟨hrd, rfl⟩
                    · have hEb := readM_le hrd
                      have hE0 : ¬ ((E : Int) < 0) := by omega
                      have HS3 : Hid (readL (readM pages f) (pg.kids.take (j + 1)) (a + 1) = some (l ++ [T], E)) := by
                        show _ = _
                        rw [HS2.out, if_pos hkn, hrd]
                      obtain ⟨F, g2, kv2, vv2, cv2, ps2, Fc2, he2, hb2, hh2, ho4, ho5, ho6, hts2, hF2, hnd2⟩ := HOWN.out
                      cases he2
                      have hFl : ∀ x ∈ F, x < wr.heap.size := fun x hx => (OwnT.lt (t := .mk pg.prs l) (v := .pointer (some ⟨g, 0, none⟩)) ⟨g, kv2, vv2, cv2, ps2, Fc2, rfl, hb2, hh2, ho4, ho5, ho6, hts2, hF2, hnd2⟩ x hx).2
                      subst hF2
                      have hgl : g < wr.heap.size := hFl g (by simp)
                      have hgl3 : g < w3.heap.size := by omega
                      have c2r : w3.cell? ⟨g, 2, none⟩ = some cv2 := by rw [(kb3.cell (p := ⟨g, 2, none⟩) hgl), cell_of_heap hh2]; rfl
                      have z2r : w3.frozen? ⟨g, 2, none⟩ = false := by rw [(kb3.frozen (p := ⟨g, 2, none⟩) hgl)]; simp [World.frozen?, hh2]
                      have ho63 := ho6.below kb3
                      have HSNOC := hid (fun (o : Obj) (w4 : World) (cv' : Value) h1 h2 h3 => own_snoc (w4 := w4) (cv' := cv') (v' := v') (t' := T) (o := o) hb2 ((kb3.block g hgl).trans hh2) (ho4.below kb3) (ho5.below kb3) (hts2.below kb3) hnd2 ho63 h1 h2 h3 (hot.mono (by omega)) hFl (fun x hx => (hot.lt x hx).1) hot.nodup)
                      have hl6 : l.length ≤ 1048576 := by have := ho6.elim (fun h => h.1) (fun h => by rw [h.2.1, h.1]; simp); have := hts2.len; have := readL_len (show readL (readM pages f) (pg.kids.take (j + 1)) (a + 1) = some (l ++ [T], E) from HS3.out); simp at this; omega
                      have HGC : Hid (g ∉ obl cv2) := fun h => by rw [List.nodup_cons] at hnd2; exact hnd2.1 (by simp [h])
                      have HOFL : Hid (∀ g ∈ obl cv2, W0.heap.size ≤ g) := fun x hx => (own_lt ho6 x hx).1
                      have kb03 : Below W0.heap.size W0 w3 := kb.trans (kb3.mono kl)
                      have kl03 := kb03.size
                      obtain ⟨ca2, cc2, hcv2⟩ := (rows_of_ownS ho6).slice
                      have hvp : ∃ q, v' = .pointer (some ⟨q, 0, none⟩) := by
                        cases T with
                        | mk pT kT => obtain ⟨q, _, _, _, _, _, h, _⟩ := hot; exact ⟨q, h⟩
                      obtain ⟨q, hvq⟩ := hvp
                      subst hvq
                      clear hot hFl hnd2 ho4 ho5 ho6 hts2 hh2 HS2 HOWN HIH kb3 hrd
                      subst hcv2
                      go_wp2_with (first | (at_builtin; refine wplS rfl _ _ 176 rfl W0.heap.size 106 ip (.pointer none) 8 Tryd.underlying176 hip hpz0 hpz1 hpz2 rfl _ _ _ rfl (ho63.alloc _) _ 1 [.pointer (some ⟨q, 0, none⟩)] rfl (news1 _ _ _) ?c1 ?c2 ?c3 ?c4 ?_) | fail)
                      case c1 => intro u hu; simp at hu; subst hu; rfl
                      case c2 => unfold maxLen; omega
                      case c3 => omega
                      case c4 => simp; omega
                      intro cv' w4 ho4 hf4 hg4
                      rw [← hsz] at ho4
                      have hs4 := hf4.size
                      simp only [World.size_alloc] at hs4
                      have hgl4 : g < w4.heap.size := by omega
                      have e4 := (hf4.block g (by simp; omega) HGC.out).trans (((Below.refl w3.heap.size w3).alloc (Nat.le_refl _) _).block g hgl3)
                      have c2r4 : w4.cell? ⟨g, 2, none⟩ = some (.slice ca2 l.length cc2) := by
                        simp only [World.cell?, e4]; exact c2r
                      have z2r4 : w4.frozen? ⟨g, 2, none⟩ = false := by
                        simp only [World.frozen?, e4]; exact z2r
                      have HOT2 := hid (HSNOC.out _ w4 cv' ho4 hf4 hg4)
                      have kb4 : Below W0.heap.size W0 w4 := (kb03.alloc (by omega) _).trans (hf4.below (by simp; omega) HOFL.out)
                      have HK5 := hid (bel_set kb4 hgb 2 cv')
                      obtain ⟨ca3, cc3, hcv3⟩ := (rows_of_ownS ho4).slice
                      subst hcv3
                      clear ho4 hf4 hg4 HSNOC e4 kb4 ho63 c2r z2r
                      go_wp2_with fail
                      refine ⟨?_, by simp [intOf]; omega⟩
                      first | exact ⟨j + 1, l ++ [T], E, by omega, by go_num, rfl, HS3.out, HOT2.out, HK5.out⟩ | ((repeat apply Exists.intro); exact ⟨⟨j + 1, l ++ [T], E, by omega, by go_num, rfl, HS3.out, HOT2.out, HK5.out⟩, rfl⟩)
                    · have HNM := hid (HFAIL.out (j + 1) (by omega) (by rw [HS2.out, if_pos hkn, hrd]))
                      have kbw3 : Below w.heap.size w w3 := kbw.trans (kb3.mono (by omega))
                      clear HS2 HFAIL HOWN HIH kb3 hrd
                      go_wp2_with fail
                      go_returns
                      exact ⟨.inr ⟨HNM.out, rfl⟩, kbw3⟩
                  · have HNM := hid (HFAIL.out (j + 1) (by omega) (by rw [HS2.out, if_neg hkn]))
                    have hbk : ((k : Int) != (n : Int)) = true := by rw [bne, beq_false_of_ne hkn]; rfl
                    clear HS2 HFAIL HOWN
                    go_wp2_with fail
                    go_returns
                    exact ⟨.inr ⟨HNM.out, rfl⟩, kbw⟩
                · have hje : j = pg.kids.length := by omega
                  subst hje
                  have HYES : Hid (readM pages (f + 1) a = some (.mk pg.prs l, n)) := by
                    have h1 := HREAD.out
                    rw [List.take_length] at h1
                    show _ = _
                    unfold readM
                    rw [HPG.out, if_pos ⟨hal, HCO.out⟩, h1]
                  have hji : ¬ ((pg.kids.length : Int) < (pg.kids.length : Int)) := by omega
                  clear HFAIL HREAD
                  go_wp2_with fail
                  go_returns
                  obtain ⟨F, hF⟩ := HOWN.out
                  exact ⟨.inl ⟨_, n, _, F, HYES.out, rfl, hF.mono (by omega)⟩, kbw⟩
            · have h3i : ¬ ((pg.kids.length : Int) = 0) := by omega
              have h3b : ((pg.kids.length : Int) == 0) = false := beq_false_of_ne h3i
              by_cases h4 : pg.kids.length = pg.keys.length + 1
              · have h3n : ((pg.kids.length : Int) != 0) = true := by rw [bne, h3b]; rfl
                have h4n : ((pg.kids.length : Int) != (pg.keys.length : Int) + 1) = false := by rw [h4]; simp
                have hco : cntOk pg := ⟨by omega, h2, .inr h4⟩
                clear h4 h3 h3b h3i
                have HCO := hid hco
                have HPL : Hid (pg.prs.length = pg.keys.length) := Pg.prs_len hco
                rw [h2] at r1
                have HOT : Hid (∃ F, OwnT wc W0.heap.size (.mk pg.prs []) (.pointer (some ⟨g, 0, none⟩)) F) := by
                  have hov := HOV.out
                  rw [h2] at hov
                  refine ⟨_, g, kv', vv', .slice none 0 0, [], [], rfl, hgb, HH.out, ?_, ?_, OwnS.nil _ _ _, ⟨rfl, rfl⟩, rfl, by simpa [obl] using HND.out⟩
                  · rw [keysV_prs hco, HPL.out]; exact HOK.out
                  · rw [valsV_prs hco, HPL.out]; exact hov
                have HKB := hid kc1
                clear h2i h2b h2 hco kc1 HOK HOV HND HH HNO
                go_wp2_with fail
                go_loopw [10, 12, 13, 14, 73] (fun nx s12 s13 s14 i wr => ∃ (j : Nat) (l : List Nd) (n : Nat), j ≤ pg.kids.length ∧ i = .int .i64 j ∧ nx = .int .i64 n ∧ readL (readM pages f) (pg.kids.take j) (a + 1) = some (l, n) ∧ (∃ F, OwnT wr W0.heap.size (.mk pg.prs l) (.pointer (some ⟨g, 0, none⟩)) F) ∧ Below W0.heap.size W0 wr) (fun _ _ _ _ i _ => pg.kids.length - (intOf i).toNat)
                case atStart => exact ⟨0, [], a + 1, Nat.zero_le _, rfl, by go_num, rfl, HOT.out, HKB.out⟩
                case round =>
                  obtain ⟨j, l, n, hj, rfl, rfl, hread, hown, kb⟩ := hrel
                  have HREAD := hid hread
                  have HOWN := hid hown
                  have hnle := readL_le (m := pages.length) (fun a t b h => readM_le h) hread
                  clear hread hown HOT HKB
                  have kl := kb.size
                  have t2 := (kb.cell (p := ⟨w.heap.size + 1, 2, none⟩) (by simp; omega)).trans p2
                  have t0 := (kb.cell (p := ⟨w.heap.size, 0, none⟩) (by simp; omega)).trans q0
                  have kbw : Below w.heap.size w wr := hb0.trans (kb.mono (by omega))
                  have HFAIL : Hid (∀ m, m ≤ pg.kids.length → readL (readM pages f) (pg.kids.take m) (a + 1) = none → readM pages (f + 1) a = none) := by
                    intro m hm hn
                    cases hr : readM pages (f + 1) a with
                    | none => rfl
                    | some x =>
                      obtain ⟨T, E⟩ := x
                      obtain ⟨g2, l2, hg2, _, _, h3, _⟩ := readM_some hr
                      have : g2 = f := by omega
                      subst this
                      rw [HPG.out] at h3
                      obtain ⟨e', he'⟩ := readL_take h3 m hm
                      rw [hn] at he'; simp at he'
                  by_cases hlt : j < pg.kids.length
                  · obtain ⟨b5, off5, c5, hce, hb5, hcell5⟩ := (HRC.out.below kbw).cell1 (i := j) hlt
                    cases hce
                    rw [intsV_get _ _ hlt] at hcell5
                    have HSN := hid (readL_snoc (rd := readM pages f) (pg.kids.take j) (pg.kids.getD j 0) (a + 1))
                    have HTK : Hid (pg.kids.take (j + 1) = pg.kids.take j ++ [pg.kids.getD j 0]) := by show _ = _; rw [List.take_succ_eq_append_getElem hlt]; simp [List.getD, hlt]
                    have hji : (j : Int) < (pg.kids.length : Int) := by omega
                    have hj0 : (0 : Int) ≤ (j : Int) := by omega
                    obtain ⟨k, hk⟩ : ∃ k, pg.kids.getD j 0 = k := ⟨_, rfl⟩
                    rw [hk] at hcell5 HSN HTK
                    clear hk
                    have HS2 : Hid (readL (readM pages f) (pg.kids.take (j + 1)) (a + 1) = if k = n then (match readM pages f n with | none => none | some (t, e') => some (l ++ [t], e')) else none) := by
                      show _ = _
                      rw [HTK.out, HSN.out, HREAD.out]
                      rfl
                    clear HSN HTK HREAD
                    by_cases hkn : k = n
                    · have HIH := IH.out n wr _ (d + 1) (HX.out.below kbw) (by have := HD.out; omega) (by omega)
                      have hbk : ((k : Int) != (n : Int)) = false := by rw [hkn]; simp
                      have hdi : ((d + 1 : Nat) : Int) = (d : Int) + 1 := by omega
                      rw [hdi] at HIH
                      clear hdi
                      go_wp2_with fail
                      refine HIH.mono ?_
                      rintro e w3 ⟨hpost, kb3⟩
                      have kl3 := kb3.size
                      rcases hpost with ⟨T, E, v', F', hrd, rfl, hot⟩ | ⟨hrd, rfl⟩
                      · have hEb := readM_le hrd
                        have hE0 : ¬ ((E : Int) < 0) := by omega
                        have HS3 : Hid (readL (readM pages f) (pg.kids.take (j + 1)) (a + 1) = some (l ++ [T], E)) := by
                          show _ = _
                          rw [HS2.out, if_pos hkn, hrd]
                        obtain ⟨F, g2, kv2, vv2, cv2, ps2, Fc2, he2, hb2, hh2, ho4, ho5, ho6, hts2, hF2, hnd2⟩ := HOWN.out
                        cases he2
                        have hFl : ∀ x ∈ F, x < wr.heap.size := fun x hx => (OwnT.lt (t := .mk pg.prs l) (v := .pointer (some ⟨g, 0, none⟩)) ⟨g, kv2, vv2, cv2, ps2, Fc2, rfl, hb2, hh2, ho4, ho5, ho6, hts2, hF2, hnd2⟩ x hx).2
                        subst hF2
                        have hgl : g < wr.heap.size := hFl g (by simp)
                        have hgl3 : g < w3.heap.size := by omega
                        have c2r : w3.cell? ⟨g, 2, none⟩ = some cv2 := by rw [(kb3.cell (p := ⟨g, 2, none⟩) hgl), cell_of_heap hh2]; rfl
                        have z2r : w3.frozen? ⟨g, 2, none⟩ = false := by rw [(kb3.frozen (p := ⟨g, 2, none⟩) hgl)]; simp [World.frozen?, hh2]
                        have ho63 := ho6.below kb3
                        have HSNOC := hid (fun (o : Obj) (w4 : World) (cv' : Value) h1 h2 h3 => own_snoc (w4 := w4) (cv' := cv') (v' := v') (t' := T) (o := o) hb2 ((kb3.block g hgl).trans hh2) (ho4.below kb3) (ho5.below kb3) (hts2.below kb3) hnd2 ho63 h1 h2 h3 (hot.mono (by omega)) hFl (fun x hx => (hot.lt x hx).1) hot.nodup)
                        have hl6 : l.length ≤ 1048576 := by have := ho6.elim (fun h => h.1) (fun h => by rw [h.2.1, h.1]; simp); have := hts2.len; have := readL_len (show readL (readM pages f) (pg.kids.take (j + 1)) (a + 1) = some (l ++ [T], E) from HS3.out); simp at this; omega
                        have HGC : Hid (g ∉ obl cv2) := fun h => by rw [List.nodup_cons] at hnd2; exact hnd2.1 (by simp [h])
                        have HOFL : Hid (∀ g ∈ obl cv2, W0.heap.size ≤ g) := fun x hx => (own_lt ho6 x hx).1
                        have kb03 : Below W0.heap.size W0 w3 := kb.trans (kb3.mono kl)
                        have kl03 := kb03.size
                        obtain ⟨ca2, cc2, hcv2⟩ := (rows_of_ownS ho6).slice
                        have hvp : ∃ q, v' = .pointer (some ⟨q, 0, none⟩) := by
                          cases T with
                          | mk pT kT => obtain ⟨q, _, _, _, _, _, h, _⟩ := hot; exact ⟨q, h⟩
                        obtain ⟨q, hvq⟩ := hvp
                        subst hvq
                        clear hot hFl hnd2 ho4 ho5 ho6 hts2 hh2 HS2 HOWN HIH kb3 hrd
                        subst hcv2
                        go_wp2_with (first | (at_builtin; refine wplS rfl _ _ 176 rfl W0.heap.size 106 ip (.pointer none) 8 Tryd.underlying176 hip hpz0 hpz1 hpz2 rfl _ _ _ rfl (ho63.alloc _) _ 1 [.pointer (some ⟨q, 0, none⟩)] rfl (news1 _ _ _) ?c1 ?c2 ?c3 ?c4 ?_) | fail)
                        case c1 => intro u hu; simp at hu; subst hu; rfl
                        case c2 => unfold maxLen; omega
                        case c3 => omega
                        case c4 => simp; omega
                        intro cv' w4 ho4 hf4 hg4
                        rw [← hsz] at ho4
                        have hs4 := hf4.size
                        simp only [World.size_alloc] at hs4
                        have hgl4 : g < w4.heap.size := by omega
                        have e4 := (hf4.block g (by simp; omega) HGC.out).trans (((Below.refl w3.heap.size w3).alloc (Nat.le_refl _) _).block g hgl3)
                        have c2r4 : w4.cell? ⟨g, 2, none⟩ = some (.slice ca2 l.length cc2) := by
                          simp only [World.cell?, e4]; exact c2r
                        have z2r4 : w4.frozen? ⟨g, 2, none⟩ = false := by
                          simp only [World.frozen?, e4]; exact z2r
                        have HOT2 := hid (HSNOC.out _ w4 cv' ho4 hf4 hg4)
                        have kb4 : Below W0.heap.size W0 w4 := (kb03.alloc (by omega) _).trans (hf4.below (by simp; omega) HOFL.out)
                        have HK5 := hid (bel_set kb4 hgb 2 cv')
                        obtain ⟨ca3, cc3, hcv3⟩ := (rows_of_ownS ho4).slice
                        subst hcv3
                        clear ho4 hf4 hg4 HSNOC e4 kb4 ho63 c2r z2r
                        go_wp2_with fail
                        refine ⟨?_, by simp [intOf]; omega⟩
                        first | exact ⟨j + 1, l ++ [T], E, by omega, by go_num, rfl, HS3.out, HOT2.out, HK5.out⟩ | ((repeat apply Exists.intro); exact ⟨⟨j + 1, l ++ [T], E, by omega, by go_num, rfl, HS3.out, HOT2.out, HK5.out⟩, rfl⟩)
                      · have HNM := hid (HFAIL.out (j + 1) (by omega) (by rw [HS2.out, if_pos hkn, hrd]))
                        have kbw3 : Below w.heap.size w w3 := kbw.trans (kb3.mono (by omega))
                        clear HS2 HFAIL HOWN HIH kb3 hrd
                        go_wp2_with fail
                        go_returns
                        exact ⟨.inr ⟨HNM.out, rfl⟩, kbw3⟩
                    · have HNM := hid (HFAIL.out (j + 1) (by omega) (by rw [HS2.out, if_neg hkn]))
                      have hbk : ((k : Int) != (n : Int)) = true := by rw [bne, beq_false_of_ne hkn]; rfl
                      clear HS2 HFAIL HOWN
                      go_wp2_with fail
                      go_returns
                      exact ⟨.inr ⟨HNM.out, rfl⟩, kbw⟩
                  · have hje : j = pg.kids.length := by omega
                    subst hje
                    have HYES : Hid (readM pages (f + 1) a = some (.mk pg.prs l, n)) := by
                      have h1 := HREAD.out
                      rw [List.take_length] at h1
                      show _ = _
                      unfold readM
                      rw [HPG.out, if_pos ⟨hal, HCO.out⟩, h1]
                    have hji : ¬ ((pg.kids.length : Int) < (pg.kids.length : Int)) := by omega
                    clear HFAIL HREAD
                    go_wp2_with fail
                    go_returns
                    obtain ⟨F, hF⟩ := HOWN.out
                    exact ⟨.inl ⟨_, n, _, F, HYES.out, rfl, hF.mono (by omega)⟩, kbw⟩
              · have HNM := hid (HNO.out (fun h => by rcases h.2.2 with h | h; (rw [h] at h3; simp at h3); exact h4 h))
                have h4i : ¬ ((pg.kids.length : Int) = (pg.keys.length : Int) + 1) := by omega
                have h4b : ((pg.kids.length : Int) != (pg.keys.length : Int) + 1) = true := by rw [bne, beq_false_of_ne h4i]; rfl
                have h3n : ((pg.kids.length : Int) != 0) = true := by rw [bne, h3b]; rfl
                rw [h2] at r1
                clear h2i h2b h2
                go_wp2_with fail
                go_returns
                exact ⟨.inr ⟨HNM.out, rfl⟩, kcw⟩
          · have HNM := hid (HNO.out (fun h => h2 h.2.1))
            have h2i : ¬ ((pg.vals.length : Int) = (pg.keys.length : Int)) := by omega
            have h2b : ((pg.vals.length : Int) == (pg.keys.length : Int)) = false := beq_false_of_ne h2i
            go_wp2_with fail
            go_returns
            exact ⟨.inr ⟨HNM.out, rfl⟩, kcw⟩
    · have HNM : Hid (readM pages (f + 1) a = none) := by
        show _ = _
        unfold readM
        rw [if_neg (fun h => hal h.1)]
      obtain ⟨a0, c0, rfl⟩ := hx.slice
      have hai : (pages.length : Int) ≤ (a : Int) := by omega
      clear hx ih hsm
      go_enter Tryd.func118, Tryd.ntmps118
      go_wp2_with fail
      go_returns
      exact ⟨.inr ⟨HNM.out, rfl⟩, by go_grown⟩
end Go.Proofs.YtgjcegmjhkehnaaDoor
