/- Contract of the program's reading of pages. Condition: the pages lie in memory. -/
import Derived.Test.YtgjcegmjhkehnaaDoorImplRm
namespace Go.Proofs.YtgjcegmjhkehnaaDoor
open Go.ChangeShapes Go.WideShapes Go.ChangeAt Go.RowKit Go.Deep
set_option linter.unusedVariables false
attribute [local go_sem ↓] Go.wp_at_zero Go.wp_at_succ

theorem cellSet {w : World} {g o b i : Nat} {u v : Value} (hne : b ≠ g) (h : w.cell? ⟨b, i, none⟩ = some v) : (w.setCell ⟨g, o, none⟩ u).cell? ⟨b, i, none⟩ = some v := by
  rw [World.cell?_setCell_other w ⟨g, o, none⟩ ⟨b, i, none⟩ _ (fun e => hne (by cases e; rfl))]
  exact h
set_option maxHeartbeats 12800000 in
set_option maxRecDepth 100000 in
theorem implRead (pages : List Pg) (hsm : Small pages) (htx : Texts pages) (rb r : Nat) (hrle : r ≤ rb) (x : Value) : ∀ (F d : Nat) (s : RS) (w : World), d + F = 42 → 1 ≤ d → d ≤ s.many + 1 → s.many ≤ 40 → s.next ≤ pages.length → s.leaf ≤ 1000 → BoxAt w rb (stV x s) → PgsR r w x pages →
    Calls Tryd.prog 123 #[.pointer (some ⟨rb, 0, none⟩), .int .i64 d] w fun e w' => RPost r w.heap.size pages rb x F d s e w' ∧ Off [rb] w w' := by
  obtain ⟨i0, hi, hzz⟩ := Option.map_eq_some_iff.1 infoN
  simp only [Prod.mk.injEq] at hzz
  obtain ⟨hz0, hz1, hz2⟩ := hzz
  intro F
  induction F with
  | zero => intro d s w h1 h2 h3 h4; omega
  | succ F ih =>
    intro d s w hdF hd1 hdm hm40 hnx hlf hbox hpg
    obtain ⟨nx, many, last, leaf⟩ := s
    simp only [] at hdm hm40 hnx hlf
    have hpl := hsm.1
    have c0 := hbox.2.1 0 _ rfl
    have c1 := hbox.2.1 1 _ rfl
    have c2 := hbox.2.1 2 _ rfl
    have c3 := hbox.2.1 3 _ rfl
    have c4 := hbox.2.1 4 _ rfl
    have z1 := hbox.2.2 1 (by simp [stV])
    have z2 := hbox.2.2 2 (by simp [stV])
    have hrl := hbox.1
    simp only [] at c1 c2 c3 c4
    have HB := hid hbox
    have HP := hid hpg
    have IH := hid ih
    have HDF := hid hdF
    by_cases hend : nx = pages.length
    · have HNO : Hid (∀ t nx' h, ¬ ReadIs pages (F + 1) d ⟨nx, many, last, leaf⟩ t nx' h) := by
        rintro t nx' h ⟨h1, _⟩
        have := (readM_le h1)
        simp only [] at this
        omega
      obtain ⟨a, c, rfl⟩ := hpg.slice
      have hbe : ((nx : Int) == (pages.length : Int)) = true := by rw [hend]; simp
      clear hpg ih hbox hdF hend
      go_enter Tryd.func123, Tryd.ntmps123
      go_wp2_with fail
      go_quiet (fail)
      go_wp2_with fail
      refine bodyPost_ret (by simp [*, results, Tryd.results123, go_sem]; try rfl) rfl ?_
      exact ⟨.inr ⟨HNO.out, rfl⟩, Off.of (bel_set (bel_set (bel_set (bel_ad _ _ _) (Nat.le_refl _) _ _) (Nat.le_refl _) _ _) (Nat.le_refl _) _ _)⟩
    · have hlt : nx < pages.length := by omega
      have hlt0 := hlt
      obtain ⟨b, off, c, kv, vv, cv, rfl, hb, hbr, hk, hv, hc, rk, rv, rc⟩ := hpg.page hlt
      obtain ⟨hs1, hs2, hs3⟩ := hsm.at hlt
      obtain ⟨pg, hpgd⟩ : ∃ pg, pages.getD nx default = pg := ⟨_, rfl⟩
      rw [hpgd] at rk rv rc hs1 hs2 hs3
      have HPG := hid hpgd
      have hnb : rb ≠ w.heap.size := by omega
      have hbe : ((nx : Int) == (pages.length : Int)) = false := beq_false_of_ne (by omega)
      have hni : (nx : Int) < (pages.length : Int) := by omega
      have hn0 : (0 : Int) ≤ (nx : Int) := by omega
      obtain ⟨ka, kc, hkv⟩ := rk.1.slice
      obtain ⟨va, vc, hvv⟩ := rv.1.slice
      obtain ⟨ca, cc, hcv⟩ := rc.1.slice
      subst hkv
      subst hvv
      subst hcv
      have HRK := hid rk
      have HRV := hid rv
      have HRC := hid rc
      clear hpg ih hbox hdF hend hpgd rk rv rc
      go_enter Tryd.func123, Tryd.ntmps123
      go_wp2_with fail
      go_quiet (fail)
      go_upto_region 3 with fail
      obtain ⟨W1, hW1⟩ : ∃ W1, W1 = ((w.alloc (.cells #[Value.slice none 0 0, Value.slice none 0 0, Value.slice none 0 0] 117)).drewN nq) := ⟨_, rfl⟩
      rw [← hW1]
      have kb1 : Below w.heap.size w W1 := by rw [hW1]; exact bel_ad _ _ _
      have hsz1 : W1.heap.size = w.heap.size + 1 := by rw [hW1]; simp
      have HR1 : Hid (BoxAt W1 w.heap.size [Value.slice none 0 0, Value.slice none 0 0, Value.slice none 0 0]) := by
        rw [hW1]
        have := boxNew w #[Value.slice none 0 0, Value.slice none 0 0, Value.slice none 0 0] 117
        exact ⟨this.1, this.2.1, this.2.2⟩
      clear hW1
      have HB1 := hid (HB.out.below kb1)
      have HP1 := hid (HP.out.off (Off.of (S := []) kb1) (by simp))
      have c0 := HB1.out.2.1 0 _ rfl
      have c1 := HB1.out.2.1 1 _ rfl
      simp only [] at c1
      have hk := (kb1.cell (p := ⟨b, off + nx * 3, none⟩) hb).trans hk
      have hv := (kb1.cell (p := ⟨b, off + nx * 3 + 1, none⟩) hb).trans hv
      have hc := (kb1.cell (p := ⟨b, off + nx * 3 + 2, none⟩) hb).trans hc
      have HS1 := hid hsz1
      clear c2 c3 c4 z1 z2 hsz1
      have hrl1 := HB1.out.1
      have hb1 : b < W1.heap.size := by have := HS1.out; omega
      have hne1 : rb ≠ W1.heap.size := by omega
      have hne2 : b ≠ W1.heap.size := by omega
      go_cut [6] (fun p wc => p = .pointer (some ⟨W1.heap.size, 0, none⟩) ∧ BoxAt wc W1.heap.size [.slice ka pg.keys.length kc, .slice va pg.vals.length vc, .slice ca pg.kids.length cc] ∧ Below W1.heap.size W1 wc)
      case first =>
        go_region_held3 (fun w' => w'.cell? ⟨rb, 0, none⟩ = some (.slice (some ⟨b, off, none⟩) pages.length c) ∧ w'.cell? ⟨rb, 1, none⟩ = some (.int .i64 nx) ∧ w'.cell? ⟨b, off + nx * 3, none⟩ = some (.slice ka pg.keys.length kc) ∧ w'.cell? ⟨b, off + nx * 3 + 1, none⟩ = some (.slice va pg.vals.length vc) ∧ w'.cell? ⟨b, off + nx * 3 + 2, none⟩ = some (.slice ca pg.kids.length cc)) (go_keep) (first | fail)
        have HBN : Hid (BoxAt ((W1.alloc (.cells #[Value.slice ka pg.keys.length kc, Value.slice va pg.vals.length vc, Value.slice ca pg.kids.length cc] 179)).drew) W1.heap.size [.slice ka pg.keys.length kc, .slice va pg.vals.length vc, .slice ca pg.kids.length cc]) := by
          have := boxNew W1 #[Value.slice ka pg.keys.length kc, Value.slice va pg.vals.length vc, Value.slice ca pg.kids.length cc] 179
          exact ⟨this.1, this.2.1, this.2.2⟩
        go_wp2_with fail
        go_meet
        exact ⟨rfl, HBN.out, Below.drew (Below.alloc (Below.refl _ _) (Nat.le_refl _) _)⟩
      case rest =>
        obtain ⟨rfl, hfb, kb2⟩ := hcut
        obtain ⟨fb, hfbe⟩ : ∃ fb, fb = W1.heap.size := ⟨_, rfl⟩
        rw [← hfbe] at hfb ⊢
        obtain ⟨rr, hrre⟩ : ∃ rr, rr = w.heap.size := ⟨_, rfl⟩
        rw [← hrre]
        have hrr1 : rr < W1.heap.size := by have := HS1.out; omega
        have HB2 := hid (HB1.out.below kb2)
        have HR2 := hid (show BoxAt wc rr _ from hrre ▸ (HR1.out.below kb2))
        have HP2 := hid (HP1.out.off (Off.of (S := []) kb2) (by simp))
        have HF2 := hid hfb
        have ko2 : Off [rb] w wc := (Off.of kb1).trans (Off.of kb2)
        have hd1 : rb ≠ rr := by omega
        have hd2 : rb ≠ fb := by omega
        have hd3 : rr ≠ fb := by omega
        have hrw : w.heap.size ≤ rr := by omega
        have hfw : w.heap.size ≤ fb := by omega
        have HRK2 := hid ((HRK.out.off (Off.of (S := []) kb1) (by simp)).off (Off.of (S := []) kb2) (by simp))
        have HRV2 := hid ((HRV.out.off (Off.of (S := []) kb1) (by simp)).off (Off.of (S := []) kb2) (by simp))
        have HRC2 := hid ((HRC.out.off (Off.of (S := []) kb1) (by simp)).off (Off.of (S := []) kb2) (by simp))
        clear hfb hfbe hrre HR1 HB1 HP1 HRK HRV HRC hk hv hc c0 c1 kb1 kb2 HS1 hrl1 hb1 hne1 hne2
        have m2 := HB2.out.2.1 2 _ rfl
        have y2 := HB2.out.2.2 2 (by simp [stV])
        have f0 := HF2.out.2.1 0 _ rfl
        simp only [] at m2
        have hl1 := HB2.out.1
        have hl2 := HF2.out.1
        have hwr : IntKind.i64.wrap ((many : Int) + (pg.keys.length : Int)) = (many : Int) + (pg.keys.length : Int) := by rw [IntKind.wrap_i64]; omega
        go_upto_region 4 with fail
        go_region
        obtain ⟨W3, hW3⟩ : ∃ W3, W3 = (wc.setCell ⟨rb, 2, none⟩ (Value.int IntKind.i64 ((many : Int) + (pg.keys.length : Int)))).drew := ⟨_, rfl⟩
        rw [← hW3]
        have hB3 : BoxAt W3 rb (stV (.slice (some ⟨b, off, none⟩) pages.length c) ⟨nx, many + pg.keys.length, last, leaf⟩) := by
          rw [hW3]
          have := HB2.out.set 2 (.int .i64 ((many : Int) + (pg.keys.length : Int)))
          have h2 : (stV (.slice (some ⟨b, off, none⟩) pages.length c) ⟨nx, many, last, leaf⟩).set 2 (.int .i64 ((many : Int) + (pg.keys.length : Int))) = stV (.slice (some ⟨b, off, none⟩) pages.length c) ⟨nx, many + pg.keys.length, last, leaf⟩ := by simp [stV]
          rw [h2] at this
          exact ⟨this.1, this.2.1, this.2.2⟩
        have hR3 : BoxAt W3 rr [Value.slice none 0 0, Value.slice none 0 0, Value.slice none 0 0] := by
          rw [hW3]
          have := HR2.out.setOther (g := rb) (o := 2) (u := .int .i64 ((many : Int) + (pg.keys.length : Int))) (Ne.symm hd1)
          exact ⟨this.1, this.2.1, this.2.2⟩
        have hF3 : BoxAt W3 fb [.slice ka pg.keys.length kc, .slice va pg.vals.length vc, .slice ca pg.kids.length cc] := by
          rw [hW3]
          have := HF2.out.setOther (g := rb) (o := 2) (u := .int .i64 ((many : Int) + (pg.keys.length : Int))) (Ne.symm hd2)
          exact ⟨this.1, this.2.1, this.2.2⟩
        have ko23 : Off [rb] wc W3 := by
          rw [hW3]
          exact ⟨rfl, rfl, rfl, by simp, fun k hk hn => setCell_other _ _ _ _ _ (by simpa using hn)⟩
        obtain ⟨M, hM⟩ : ∃ M, M = many + pg.keys.length := ⟨_, rfl⟩
        rw [← hM] at hB3
        have HM := hid hM
        have hM0 : many ≤ M := by omega
        clear hM
        have HB3 := hid hB3
        have HR3 := hid hR3
        have HF3 := hid hF3
        have HP3 := hid (HP2.out.off ko23 (by simpa using hrle))
        have hSr : ∀ g, g < r → g ∉ [rb] := fun g hg hm => by simp at hm; omega
        have HRK3 := hid (HRK2.out.off ko23 hSr)
        have HRV3 := hid (HRV2.out.off ko23 hSr)
        have HRC3 := hid (HRC2.out.off ko23 hSr)
        have ko3 : Off [rb] w W3 := ko2.trans ko23
        clear hW3 hB3 hR3 hF3 HB2 HR2 HF2 HP2 HRK2 HRV2 HRC2 ko2 ko23 m2 y2 f0 hl1 hl2 hwr
        have m1 := HB3.out.2.1 1 _ rfl
        have m2 := HB3.out.2.1 2 _ rfl
        simp only [] at m1 m2
        have f0 := HF3.out.2.1 0 _ rfl
        have f1 := HF3.out.2.1 1 _ rfl
        have f2 := HF3.out.2.1 2 _ rfl
        have hl1 := HB3.out.1
        have hl2 := HF3.out.1
        have hl3 := HR3.out.1
        have r0 := HR3.out.2.1 0 _ rfl
        have r1 := HR3.out.2.1 1 _ rfl
        have r2 := HR3.out.2.1 2 _ rfl
        have s0 := HR3.out.2.2 0 (by simp)
        have s1 := HR3.out.2.2 1 (by simp)
        have s2 := HR3.out.2.2 2 (by simp)
        have HSOME : Hid (∀ t nx' h, ReadIs pages (F + 1) d ⟨nx, many, last, leaf⟩ t nx' h → ∃ l, cntOk pg ∧ readL (readM pages F) pg.kids (nx + 1) = some (l, nx') ∧ t = .mk pg.prs l ∧ OkR (.mk pg.prs l) d ⟨nx, many, last, leaf⟩ h) := by
          rintro t nx' h ⟨h1, h2⟩
          obtain ⟨g, l, hg, h3, h4, h5, rfl⟩ := readM_some h1
          have : g = F := by omega
          subst this
          simp only [] at h4 h5 h2
          rw [HPG.out] at h4 h5 h2
          refine ⟨l, h4, h5, ?_, h2⟩
          simp only []
          rw [HPG.out]
        by_cases hm4 : M ≤ 40
        · have hmi : ¬ ((40 : Int) < (M : Int)) := by omega
          have GC := fun W => goodCountsIs ka va ca pg.keys.length pg.vals.length pg.kids.length kc vc cc ((nx : Int) == 0) W hs1 hs2 hs3
          by_cases hcw : cntW pg.keys.length pg.vals.length pg.kids.length ((nx : Int) == 0)
          · rw [decide_eq_true hcw] at GC
            have HCW := hid hcw
            have hco : cntOk pg := ⟨hcw.1, hcw.2.1, by rcases hcw.2.2.1 with h | h; exact .inl (List.eq_nil_of_length_eq_zero h); exact .inr h⟩
            have HCO := hid hco
            have HPL := hid (Pg.prs_len hco)
            have hk4 := hco.1
            have hvk := hco.2.1
            rw [hvk] at f1 HF3 GC
            clear hcw hco hvk
            go_upto_region 5 with fail
            go_cut [56] (fun q wd => q = .bool false ∧ Below W3.heap.size W3 wd)
            case first =>
              go_region_with ((go_at_call 151; refine (GC _).mono ?_; rintro e w5 ⟨rfl, hb5⟩))
              all_goals
                have hb6 := belD hb5
                clear hb5
                go_wp2_with fail
                go_meet
                exact ⟨rfl, hb6⟩
            case rest =>
              obtain ⟨rfl, kb5⟩ := hcut
              have ko5 : Off [rb] w wc := ko3.trans (Off.of kb5)
              have HB5 := hid (HB3.out.below kb5)
              have HR5 := hid (HR3.out.below kb5)
              have HF5 := hid (HF3.out.below kb5)
              have HP5 := hid (HP3.out.off (Off.of (S := []) kb5) (by simp))
              have HRK5 := hid (HRK3.out.off (Off.of (S := []) kb5) (by simp))
              have HRV5 := hid (HRV3.out.off (Off.of (S := []) kb5) (by simp))
              have HRC5 := hid (HRC3.out.off (Off.of (S := []) kb5) (by simp))
              have hl5 := kb5.size
              clear HB3 HR3 HF3 HP3 HRK3 HRV3 HRC3 kb5 ko3 m1 m2 f0 f1 f2 r0 r1 r2 s0 s1 s2 GC hmi
              have m1 := HB5.out.2.1 1 _ rfl
              have y1 := HB5.out.2.2 1 (by simp [stV])
              simp only [] at m1
              have f0 := HF5.out.2.1 0 _ rfl
              have f1 := HF5.out.2.1 1 _ rfl
              have f2 := HF5.out.2.1 2 _ rfl
              have hl1 := HB5.out.1
              have hl2 := HF5.out.1
              have hl3 := HR5.out.1
              have hrbf : rb ≠ wc.heap.size := by omega
              have hfbf : fb ≠ wc.heap.size := by omega
              go_upto_region 9 with fail
              obtain ⟨nb, hnbe⟩ : ∃ nb, nb = wc.heap.size := ⟨_, rfl⟩
              obtain ⟨W6, hW6⟩ : ∃ W6, W6 = ((wc.setCell ⟨rb, 1, none⟩ (Value.int IntKind.i64 ((nx : Int) + 1))).alloc (.cells #[Value.slice ka pg.keys.length kc, Value.slice va pg.keys.length vc, Value.slice none 0 0] 117)) := ⟨_, rfl⟩
              rw [← hW6, ← hnbe]
              have hsz6 : W6.heap.size = nb + 1 := by rw [hW6, hnbe]; simp
              have kA : Below (wc.setCell ⟨rb, 1, none⟩ (Value.int IntKind.i64 ((nx : Int) + 1))).heap.size (wc.setCell ⟨rb, 1, none⟩ (Value.int IntKind.i64 ((nx : Int) + 1))) W6 := by rw [hW6]; exact (Below.refl _ _).alloc (Nat.le_refl _) _
              have HB6 : Hid (BoxAt W6 rb (stV (.slice (some ⟨b, off, none⟩) pages.length c) ⟨nx + 1, M, last, leaf⟩)) := by
                have := (HB5.out.set 1 (.int .i64 ((nx : Int) + 1))).below kA
                have h2 : (stV (.slice (some ⟨b, off, none⟩) pages.length c) ⟨nx, M, last, leaf⟩).set 1 (.int .i64 ((nx : Int) + 1)) = stV (.slice (some ⟨b, off, none⟩) pages.length c) ⟨nx + 1, M, last, leaf⟩ := by simp [stV]
                rw [h2] at this
                exact this
              have HR6 := hid ((HR5.out.setOther (g := rb) (o := 1) (u := .int .i64 ((nx : Int) + 1)) (Ne.symm hd1)).below kA)
              have HF6 := hid ((HF5.out.setOther (g := rb) (o := 1) (u := .int .i64 ((nx : Int) + 1)) (Ne.symm hd2)).below kA)
              have HN6 : Hid (BoxAt W6 nb [.slice ka pg.keys.length kc, .slice va pg.keys.length vc, .slice none 0 0]) := by
                have := boxNew (wc.setCell ⟨rb, 1, none⟩ (Value.int IntKind.i64 ((nx : Int) + 1))) #[Value.slice ka pg.keys.length kc, Value.slice va pg.keys.length vc, Value.slice none 0 0] 117
                rw [hW6, hnbe]
                show BoxAt _ _ _
                simpa using this
              have ko56 : Off [rb] wc W6 := by
                refine Off.trans (b := wc.setCell ⟨rb, 1, none⟩ (Value.int IntKind.i64 ((nx : Int) + 1))) ?_ (Off.of kA)
                exact ⟨rfl, rfl, rfl, by simp, fun k hk hn => setCell_other _ _ _ _ _ (by simpa using hn)⟩
              have ko6 : Off [rb] w W6 := ko5.trans ko56
              have HP6 := hid (HP5.out.off ko56 (by simpa using hrle))
              have HRK6 := hid (HRK5.out.off ko56 hSr)
              have HRV6 := hid (HRV5.out.off ko56 hSr)
              have HRC6 := hid (HRC5.out.off ko56 hSr)
              have hwn : w.heap.size ≤ nb := by have := ko5.size; omega
              have hd4 : rb ≠ nb := by omega
              have hd5 : rr ≠ nb := by omega
              have hd6 : fb ≠ nb := by omega
              have hnl : nb < W6.heap.size := by omega
              have HS6 := hid hsz6
              clear hW6 hnbe kA hsz6 HB5 HR5 HF5 HP5 HRK5 HRV5 HRC5 ko5 ko56 m1 y1 f0 f1 f2 hl1 hl2 hl3 hrbf hfbf hl5
              have f2 := HF6.out.2.1 2 _ rfl
              have hl2 := HF6.out.1
              have hl3 := HR6.out.1
              have r0 := HR6.out.2.1 0 _ rfl
              have r1 := HR6.out.2.1 1 _ rfl
              have r2 := HR6.out.2.1 2 _ rfl
              have s0 := HR6.out.2.2 0 (by simp)
              have s1 := HR6.out.2.2 1 (by simp)
              have s2 := HR6.out.2.2 2 (by simp)
              by_cases hk0 : pg.kids.length = 0
              · have hki0 : ((pg.kids.length : Int) == 0) = true := by rw [hk0]; rfl
                have hkn : pg.kids = [] := List.eq_nil_of_length_eq_zero hk0
                have HKN := hid hkn
                clear hkn
                by_cases hbad : leaf ≠ 0 ∧ leaf ≠ d
                · have HNO : Hid (∀ t nx' h, ¬ ReadIs pages (F + 1) d ⟨nx, many, last, leaf⟩ t nx' h) := by
                    intro t nx' h hr
                    obtain ⟨l, h1, h2, rfl, h3⟩ := HSOME.out t nx' h hr
                    rw [HKN.out] at h2
                    simp [readL] at h2
                    obtain ⟨rfl, rfl⟩ := h2
                    have h4 : h = 1 := h3.2.1.one (by simp [Even, Nd.kids])
                    have h5 := h3.2.2.1
                    simp only [] at h5
                    omega
                  have SD := sameDepthOld rb _ _ _ _ d leaf W6 HB6.out hbad.1
                  rw [decide_eq_false hbad.2] at SD
                  clear HSOME hbad
                  go_upto_region 10 with (first | (go_at_call 152; refine SD.mono ?_; rintro e w9 ⟨rfl, hw9⟩; subst w9) | fail)
                  go_cut [5] (fun s5 wc => s5 = .bool false ∧ BoxAt wc rr [Value.slice none 0 0, Value.slice none 0 0, Value.slice none 0 0] ∧ Off [rb] w wc)
                  case first =>
                    go_wp2_with fail
                    go_meet
                    exact ⟨rfl, ((HR6.out.set 0 _).set 1 _).set 2 _, off_set (off_set (off_set ko6 hrw _ _) hrw _ _) hrw _ _⟩
                  case rest =>
                    obtain ⟨rfl, hbz, hoz⟩ := hcut
                    have r0 := hbz.2.1 0 _ rfl
                    have r1 := hbz.2.1 1 _ rfl
                    have r2 := hbz.2.1 2 _ rfl
                    have hl3 := hbz.1
                    refine ret_of (by assumption) (wp_ret ?_)
                    refine then_ret ?_
                    refine bodyPost_ret (v := .tuple #[zeroN, .bool false]) ?r rfl ?_
                    case r =>
                      simp [r0, r1, r2, results, zeroN, Tryd.results123, go_sem]
                      try rfl
                    exact ⟨.inr ⟨HNO.out, rfl⟩, hoz⟩
                · go_cut [80] (fun q wc => q = .bool false ∧ BoxAt wc rb (stV (.slice (some ⟨b, off, none⟩) pages.length c) ⟨nx + 1, M, last, d⟩) ∧ Off [rb] W6 wc)
                  case first =>
                    by_cases hl0 : leaf = 0
                    · subst hl0
                      have SD := sameDepthNew rb _ _ _ _ d W6 HB6.out
                      have HB7 : Hid (BoxAt (W6.setCell ⟨rb, 4, none⟩ (.int .i64 d)) rb (stV (.slice (some ⟨b, off, none⟩) pages.length c) ⟨nx + 1, M, last, d⟩)) := HB6.out.set 4 (.int .i64 d)
                      go_wp2_with (first | (go_at_call 152; refine SD.mono ?_; rintro e w9 ⟨rfl, hw9⟩; subst w9) | fail)
                      go_meet
                      exact ⟨rfl, HB7.out, ⟨rfl, rfl, rfl, by simp, fun k hk hn => setCell_other _ _ _ _ _ (by simpa using hn)⟩⟩
                    · have hld : leaf = d := Classical.byContradiction fun h => hbad ⟨hl0, h⟩
                      subst hld
                      have SD := sameDepthOld rb _ _ _ _ leaf leaf W6 HB6.out hl0
                      rw [decide_eq_true rfl] at SD
                      go_wp2_with (first | (go_at_call 152; refine SD.mono ?_; rintro e w9 ⟨rfl, hw9⟩; subst w9) | fail)
                      go_meet
                      exact ⟨rfl, HB6.out, Off.refl _ _⟩
                  case rest =>
                    obtain ⟨rfl, hB7, ko67⟩ := hcut
                    have HB7 := hid hB7
                    have HR7 := hid (HR6.out.off ko67 (by simp; omega))
                    have HF7 := hid (HF6.out.off ko67 (by simp; omega))
                    have HN7 := hid (HN6.out.off ko67 (by simp; omega))
                    have HRK7 := hid (HRK6.out.off ko67 hSr)
                    have HRV7 := hid (HRV6.out.off ko67 hSr)
                    have ko7 : Off [rb] w wc := ko6.trans ko67
                    have hl7 := ko67.size
                    clear hB7 ko67 HB6 HR6 HF6 HN6 HP6 HRK6 HRV6 HRC6 ko6 f2 r0 r1 r2 s0 s1 s2 hl2 hl3
                    have f0 := HF7.out.2.1 0 _ rfl
                    have hl2 := HF7.out.1
                    obtain ⟨P, hP⟩ : ∃ P, P = pg.prs := ⟨_, rfl⟩
                    have hPl : P.length = pg.keys.length := by rw [hP]; exact HPL.out
                    have HPP := hid hP
                    have HPE := hid hPl
                    rw [← hPl] at f0 HF7 HN7 HRK7
                    have hP4 : P.length ≤ 4 := by omega
                    have hKV : strsV pg.keys = keysV P := by rw [hP]; exact (keysV_prs HCO.out).symm
                    have hVV : strsV pg.vals = valsV P := by rw [hP]; exact (valsV_prs HCO.out).symm
                    have hvk := HCO.out.2.1
                    rw [hKV] at HRK7
                    rw [hVV, hvk, ← hPl] at HRV7
                    clear hP hKV hVV hvk hPl
                    go_wp2_with fail
                    go_loopw [8, 9, 10, 86] (fun s8 s9 s10 i wr => ∃ k : Nat, k ≤ P.length + 1 ∧ i = .int .i64 k ∧ BoxAt wr rb (stV (.slice (some ⟨b, off, none⟩) pages.length c) ⟨nx + 1, M, lastK last (P.take (k - 1)), d⟩) ∧ Rise last (P.take (k - 1)) ∧ Off [rb] wc wr) (fun _ _ _ i _ => P.length + 1 - (intOf i).toNat)
                    case atStart => exact ⟨0, Nat.zero_le _, rfl, by simpa [lastK_nil] using HB7.out, trivial, Off.refl _ _⟩
                    case round =>
                      obtain ⟨k, hk, rfl, hbr2, hri, kor⟩ := hrel
                      have HBR := hid hbr2
                      have HRI := hid hri
                      have HRr := hid (HR7.out.off kor (by simp; omega))
                      have HFr := hid (HF7.out.off kor (by simp; omega))
                      have HNr := hid (HN7.out.off kor (by simp; omega))
                      have HRKr := hid (HRK7.out.off kor hSr)
                      have HRVr := hid (HRV7.out.off kor hSr)
                      have kow : Off [rb] w wr := ko7.trans kor
                      clear hbr2 hri f0 hl2
                      have f0 := HFr.out.2.1 0 _ rfl
                      have f1 := HFr.out.2.1 1 _ rfl
                      have f2 := HFr.out.2.1 2 _ rfl
                      have hl1 := HBR.out.1
                      have hl2 := HFr.out.1
                      have hl3 := HRr.out.1
                      have hl4 := HNr.out.1
                      have r0 := HRr.out.2.1 0 _ rfl
                      have r1 := HRr.out.2.1 1 _ rfl
                      have r2 := HRr.out.2.1 2 _ rfl
                      have s0 := HRr.out.2.2 0 (by simp)
                      have s1 := HRr.out.2.2 1 (by simp)
                      have s2 := HRr.out.2.2 2 (by simp)
                      by_cases hlt : k < P.length + 1
                      · have hki : (k : Int) < (P.length : Int) + 1 := by omega
                        rcases Nat.eq_zero_or_pos k with h0 | h0
                        · have HB8 : Hid (BoxAt wr rb (stV (.slice (some ⟨b, off, none⟩) pages.length c) ⟨nx + 1, M, lastK last (P.take (0 + 1 - 1)), d⟩)) := by
                            have := HBR.out; rw [h0] at this; exact this
                          have HR8 : Hid (Rise last (P.take (0 + 1 - 1))) := trivial
                          subst h0
                          have hPl0 : (0 : Int) < (P.length : Int) + 1 := by omega
                          simp only [Int.natCast_zero] at hki ⊢
                          go_upto_region 14 with fail
                          go_cut [107] (fun q wc => q = .bool false ∧ ∃ n, wc = wr.drewN n)
                          case first =>
                            go_quiet (fail)
                            go_wp2_with fail
                            go_meet
                            exact ⟨rfl, _, rfl⟩
                          case rest =>
                            obtain ⟨rfl, n9, rfl⟩ := hcut
                            go_wp2_with fail
                            refine ⟨?_, by simp [intOf]⟩
                            have HO8 := hid (off_drew kor n9)
                            first | exact ⟨1, by omega, rfl, HB8.out, HR8.out, HO8.out⟩ | ((repeat apply Exists.intro); exact ⟨⟨1, by omega, rfl, HB8.out, HR8.out, HO8.out⟩, rfl⟩)
                        · have h0i : (0 : Int) < (k : Int) := by omega
                          obtain ⟨j, hkj⟩ : ∃ j, k = j + 1 := ⟨k - 1, by omega⟩
                          have hjP : j < P.length := by omega
                          have hkm : k - 1 = j := by omega
                          obtain ⟨b1, o1, e1, hce, hb1, hcl1⟩ := HRKr.out.1.cell1 (i := j) hjP
                          cases hce
                          obtain ⟨b2, o2, e2, hce, hb2, hcl2⟩ := HRVr.out.1.cell1 (i := j) hjP
                          cases hce
                          rw [keysV_get _ _ hjP] at hcl1
                          rw [valsV_get _ _ hjP] at hcl2
                          have hmem : P.getD j default ∈ pg.prs := by rw [← HPP.out]; simp [List.getD, hjP]
                          have htk : (P.getD j default).1.size ≤ maxLen ∧ (P.getD j default).2.size ≤ maxLen := by
                            have hmp : pages.getD nx default ∈ pages := by simp [List.getD, hlt0]
                            rw [HPG.out] at hmp
                            obtain ⟨g1, g2⟩ := htx pg hmp
                            exact ⟨g1 _ (by rw [← Pg.prs_keys HCO.out]; exact List.mem_map_of_mem hmem), g2 _ (by rw [← Pg.prs_vals HCO.out]; exact List.mem_map_of_mem hmem)⟩
                          have HTK : Hid (P.take (j + 1) = P.take j ++ [P.getD j default]) := getPr P j hjP
                          obtain ⟨⟨qk, qv⟩, hq⟩ : ∃ q, P.getD j default = q := ⟨_, rfl⟩
                          rw [hq] at hcl1 hcl2 htk HTK
                          simp only [] at hcl1 hcl2 htk
                          have hwk : IntKind.i64.wrap ((k : Int) - 1) = (j : Int) := by rw [IntKind.wrap_i64]; omega
                          have hkj2 : (k : Int) - 1 = (j : Int) := by omega
                          have hj0 : (0 : Int) ≤ (j : Int) := by omega
                          have hjl : (j : Int) < (P.length : Int) := by omega
                          have hBk := HBR.out
                          have hRk := HRI.out
                          rw [hkm] at hBk hRk
                          obtain ⟨lk, hlk⟩ : ∃ lk, lk = lastK last (P.take j) := ⟨_, rfl⟩
                          rw [← hlk] at hBk
                          have HLK := hid hlk
                          have HKJ := hid hkj
                          have HBK := hid hBk
                          have HRJ := hid hRk
                          clear hq hkj hkm hmem hBk hRk hlk HBR HRI h0
                          by_cases hg : goodP (qk, qv) ∧ ltT lk qk
                          · have PF := fun W (hW : BoxAt W rb (stV (.slice (some ⟨b, off, none⟩) pages.length c) ⟨nx + 1, M, lk, d⟩)) => pairFitsYes rb _ _ _ _ lk qk qv W hW hg.1 hg.2
                            have HR8 : Hid (Rise last (P.take (k + 1 - 1))) := by
                              have : k + 1 - 1 = j + 1 := by have := HKJ.out; omega
                              rw [this, HTK.out]
                              exact rise_append.2 ⟨HRJ.out, hg.1, HLK.out ▸ hg.2, trivial⟩
                            have HL8 : Hid (lastK last (P.take (k + 1 - 1)) = qk) := by
                              have : k + 1 - 1 = j + 1 := by have := HKJ.out; omega
                              rw [this, HTK.out]
                              exact lastK_snoc _ _ _
                            have HB8 : Hid (∀ W, BoxAt W rb (stV (.slice (some ⟨b, off, none⟩) pages.length c) ⟨nx + 1, M, lk, d⟩) → BoxAt (W.setCell ⟨rb, 3, none⟩ (.string qk)) rb (stV (.slice (some ⟨b, off, none⟩) pages.length c) ⟨nx + 1, M, qk, d⟩)) := fun W hW => hW.set 3 (.string qk)
                            clear hg
                            go_upto_region 14 with fail
                            go_cut [107] (fun q wc => q = .bool false ∧ BoxAt wc rb (stV (.slice (some ⟨b, off, none⟩) pages.length c) ⟨nx + 1, M, qk, d⟩) ∧ Off [rb] wr wc)
                            case first =>
                              have hq1 : b1 ≠ rb := by rcases HRKr.out.2 _ _ _ _ _ rfl with h | h <;> omega
                              have hq2 : b2 ≠ rb := by rcases HRVr.out.2 _ _ _ _ _ rfl with h | h <;> omega
                              have hq3 : fb ≠ rb := Ne.symm hd2
                              have h0n : 0 < k := by omega
                              have hwj : IntKind.i64.wrap (j : Int) = (j : Int) := by rw [IntKind.wrap_i64]; omega
                              have h0d : decide ((0 : Int) < (k : Int)) = true := decide_eq_true h0i
                              have h0e : decide (0 < k) = true := decide_eq_true h0n
                              go_region_held3 (fun w' => w'.cell? ⟨fb, 0, none⟩ = some (.slice (some ⟨b1, o1, none⟩) P.length kc) ∧ w'.cell? ⟨fb, 1, none⟩ = some (.slice (some ⟨b2, o2, none⟩) P.length vc) ∧ w'.cell? ⟨b1, o1 + j, none⟩ = some (.string qk) ∧ w'.cell? ⟨b2, o2 + j, none⟩ = some (.string qv)) (first | (exact ⟨g0, g1, g2, g3⟩) | go_keep) (first | (go_at_call 153; refine (PF wr.drew ⟨HBK.out.1, HBK.out.2.1, HBK.out.2.2⟩).mono ?_; rintro e w9 ⟨rfl, hw9⟩; subst w9; have g0 := cellSet (u := Value.string qk) (o := 3) hq3 (show wr.drew.cell? _ = _ from f0); have g1 := cellSet (u := Value.string qk) (o := 3) hq3 (show wr.drew.cell? _ = _ from f1); have g2 := cellSet (u := Value.string qk) (o := 3) hq1 (show wr.drew.cell? _ = _ from hcl1); have g3 := cellSet (u := Value.string qk) (o := 3) hq2 (show wr.drew.cell? _ = _ from hcl2)) | fail)
                              all_goals
                                go_wp2_with fail
                                go_meet
                                exact ⟨rfl, HB8.out _ ⟨HBK.out.1, HBK.out.2.1, HBK.out.2.2⟩, ⟨rfl, rfl, rfl, by simp, fun k hk hn => setCell_other _ _ _ _ _ (by simpa using hn)⟩⟩
                            case rest =>
                              obtain ⟨rfl, hB9, ko9⟩ := hcut
                              have HF9 := hid (HFr.out.off ko9 (by simp; omega))
                              have f2 := HF9.out.2.1 2 _ rfl
                              have hl2 := HF9.out.1
                              have HB9 := hid hB9
                              rw [← HL8.out] at HB9
                              have HO9 := hid (kor.trans ko9)
                              clear hB9 ko9
                              go_wp2_with fail
                              refine ⟨?_, by simp [intOf]; omega⟩
                              first | exact ⟨k + 1, by omega, by go_num, HB9.out, HR8.out, HO9.out⟩ | ((repeat apply Exists.intro); exact ⟨⟨k + 1, by omega, by go_num, HB9.out, HR8.out, HO9.out⟩, rfl⟩)
                          · have PF := fun W (hW : BoxAt W rb (stV (.slice (some ⟨b, off, none⟩) pages.length c) ⟨nx + 1, M, lk, d⟩)) => pairFitsNo rb _ _ _ _ lk qk qv W hW htk.1 htk.2 hg
                            have HNO : Hid (∀ t nx' h, ¬ ReadIs pages (F + 1) d ⟨nx, many, last, leaf⟩ t nx' h) := by
                              intro t nx' h hr
                              obtain ⟨l, h1, h2, rfl, h3⟩ := HSOME.out t nx' h hr
                              rw [HKN.out] at h2
                              simp [readL] at h2
                              obtain ⟨rfl, rfl⟩ := h2
                              have h5 := h3.2.2.2.1
                              simp only [] at h5
                              rw [allN_leaf, ← HPP.out] at h5
                              have h6 := rise_takeA h5 (j + 1)
                              rw [HTK.out, rise_append] at h6
                              exact hg ⟨h6.2.1, by rw [HLK.out]; exact h6.2.2.1⟩
                            clear HSOME hg
                            go_upto_region 14 with fail
                            go_cut [107] (fun q wc => q = .bool true ∧ Below wr.heap.size wr wc)
                            case first =>
                              have hq1 : b1 ≠ rb := by rcases HRKr.out.2 _ _ _ _ _ rfl with h | h <;> omega
                              have hq2 : b2 ≠ rb := by rcases HRVr.out.2 _ _ _ _ _ rfl with h | h <;> omega
                              have hq3 : fb ≠ rb := Ne.symm hd2
                              have h0n : 0 < k := by omega
                              have hwj : IntKind.i64.wrap (j : Int) = (j : Int) := by rw [IntKind.wrap_i64]; omega
                              have h0d : decide ((0 : Int) < (k : Int)) = true := decide_eq_true h0i
                              have h0e : decide (0 < k) = true := decide_eq_true h0n
                              go_region_held3 (fun w' => w'.cell? ⟨fb, 0, none⟩ = some (.slice (some ⟨b1, o1, none⟩) P.length kc) ∧ w'.cell? ⟨fb, 1, none⟩ = some (.slice (some ⟨b2, o2, none⟩) P.length vc) ∧ w'.cell? ⟨b1, o1 + j, none⟩ = some (.string qk) ∧ w'.cell? ⟨b2, o2 + j, none⟩ = some (.string qv)) (go_keep) (first | (go_at_call 153; refine (PF wr.drew ⟨HBK.out.1, HBK.out.2.1, HBK.out.2.2⟩).mono ?_; rintro e w9 ⟨rfl, hw9⟩; subst w9) | fail)
                              all_goals
                                go_wp2_with fail
                                go_meet
                                exact ⟨rfl, Below.drew (Below.refl _ _)⟩
                            case rest =>
                              obtain ⟨rfl, kb9⟩ := hcut
                              have HO9 : Hid (Off [rb] w wc) := kow.trans (Off.of kb9)
                              have HR9 := hid (HRr.out.below kb9)
                              have r0 := (kb9.cell (p := ⟨rr, 0, none⟩) hl3).trans r0
                              have r1 := (kb9.cell (p := ⟨rr, 1, none⟩) hl3).trans r1
                              have r2 := (kb9.cell (p := ⟨rr, 2, none⟩) hl3).trans r2
                              have s0 := (kb9.frozen (p := ⟨rr, 0, none⟩) hl3).trans s0
                              have s1 := (kb9.frozen (p := ⟨rr, 1, none⟩) hl3).trans s1
                              have s2 := (kb9.frozen (p := ⟨rr, 2, none⟩) hl3).trans s2
                              have hl3 : rr < wc.heap.size := Nat.lt_of_lt_of_le hl3 kb9.size
                              clear kb9 f0 f1 f2 hcl1 hcl2 hwk hkj2 hj0 hjl hb1 hb2 htk PF hki h0i hlt hjP c0 c1 hv hc hk0 hki0
                              go_upto_region 15 with fail
                              go_cut [5] (fun s5 wc => s5 = .bool false ∧ BoxAt wc rr [Value.slice none 0 0, Value.slice none 0 0, Value.slice none 0 0] ∧ Off [rb] w wc)
                              case first =>
                                go_wp2_with fail
                                go_meet
                                exact ⟨rfl, ((HR9.out.set 0 _).set 1 _).set 2 _, off_set (off_set (off_set HO9.out hrw _ _) hrw _ _) hrw _ _⟩
                              case rest =>
                                obtain ⟨rfl, hbz, hoz⟩ := hcut
                                have r0 := hbz.2.1 0 _ rfl
                                have r1 := hbz.2.1 1 _ rfl
                                have r2 := hbz.2.1 2 _ rfl
                                have hl3 := hbz.1
                                refine ret_of (by assumption) (wp_ret ?_)
                                refine then_ret (block_ret (then_ret ?_))
                                refine then_ret (block_ret (then_ret ?_))
                                refine bodyPost_ret (v := .tuple #[zeroN, .bool false]) ?r rfl ?_
                                case r =>
                                  simp [r0, r1, r2, results, zeroN, Tryd.results123, go_sem]
                                  try rfl
                                exact ⟨.inr ⟨HNO.out, rfl⟩, hoz⟩
                      · have hke : k = P.length + 1 := by omega
                        have hki : ¬ ((k : Int) < (P.length : Int) + 1) := by omega
                        have hBk := HBR.out
                        have hRk := HRI.out
                        rw [show P.take (k - 1) = P by rw [hke]; simp] at hBk hRk
                        have HBK := hid hBk
                        have n0 := HNr.out.2.1 0 _ rfl
                        have n1 := HNr.out.2.1 1 _ rfl
                        have n2 := HNr.out.2.1 2 _ rfl
                        have HYES : Hid (ReadIs pages (F + 1) d ⟨nx, many, last, leaf⟩ (.mk P []) (nx + 1) 1) := by
                          refine ⟨?_, ?_, by simp [Even, Nd.kids], ?_, by rw [allN_leaf]; exact hRk, ?_⟩
                          · simp only []
                            unfold readM
                            rw [HPG.out, if_pos ⟨hlt0, HCO.out⟩, HKN.out]
                            simp [readL, HPP.out]
                          · have h9 := HCW.out.2.2.2
                            show (if nx = 0 then (Nd.mk P []).kids = [] ∨ 1 ≤ P.length else 2 ≤ P.length)
                            split
                            · exact .inl rfl
                            · rename_i hnx0
                              rw [if_neg (by intro h; exact hnx0 (by simpa using h))] at h9
                              rw [HPE.out]; exact h9
                          · simp only []
                            have : ¬ (leaf ≠ 0 ∧ leaf ≠ d) := hbad
                            omega
                          · rw [allN_leaf]
                            simp only []
                            have := HM.out
                            have := HPE.out
                            omega
                        have HUPD : Hid (BoxAt wr rb (stV (.slice (some ⟨b, off, none⟩) pages.length c) (upd ⟨nx, many, last, leaf⟩ (nx + 1) (.mk P []) d 1))) := by
                          have e1 : many + P.length = M := by have := HM.out; have := HPE.out; omega
                          have e2 : upd ⟨nx, many, last, leaf⟩ (nx + 1) (.mk P []) d 1 = ⟨nx + 1, M, lastK last P, d⟩ := by
                            unfold upd
                            rw [allN_leaf, e1]
                            simp
                          rw [e2]; exact HBK.out
                        have HNODE : Hid (NodeP (fun g => g < r) wr (.mk P []) (.slice ka P.length kc) (.slice va P.length vc) (.slice none 0 0)) :=
                          ⟨HRKr.out, HRVr.out, [], ⟨RowsAt.nil _ _, fun b off sp n c e => by cases e⟩, rfl⟩
                        clear hke hBk hRk HSOME hsm htx hdm hm40 hnx hlf hpl hb hbr hs1 hs2 hs3 hnb hbe hni hn0 hrr1 hM0 hm4 hk4 hbad
                        go_upto_region 22 with fail
                        have HRS : Hid (BoxAt (((wr.setCell ⟨rr, 0, none⟩ (.slice ka P.length kc)).setCell ⟨rr, 1, none⟩ (.slice va P.length vc)).setCell ⟨rr, 2, none⟩ (.slice none 0 0)) rr [.slice ka P.length kc, .slice va P.length vc, .slice none 0 0]) := ((HRr.out.set 0 (.slice ka P.length kc)).set 1 (.slice va P.length vc)).set 2 (.slice none 0 0)
                        go_cut [5] (fun s5 wc => s5 = .bool true ∧ wc = (((wr.setCell ⟨rr, 0, none⟩ (.slice ka P.length kc)).setCell ⟨rr, 1, none⟩ (.slice va P.length vc)).setCell ⟨rr, 2, none⟩ (.slice none 0 0)))
                        case first =>
                          clear f0 f1 f2 c0 c1 hv hc hki hlt hlt0 hk0 hki0 hk hl1 hl2
                          go_wp2_with fail
                          go_meet
                          exact ⟨rfl, rfl⟩
                        case rest =>
                          obtain ⟨rfl, hwc⟩ := hcut
                          rw [← hwc] at HRS
                          have HWC := hid hwc
                          clear hwc r0 r1 r2 s0 s1 s2 n0 n1 n2 f0 f1 f2 hl3
                          have r0 := HRS.out.2.1 0 _ rfl
                          have r1 := HRS.out.2.1 1 _ rfl
                          have r2 := HRS.out.2.1 2 _ rfl
                          have hl3 := HRS.out.1
                          have ko8 : Off [rb] w wc := by rw [HWC.out]; exact off_set (off_set (off_set kow hrw _ _) hrw _ _) hrw _ _
                          have koW : Off [rr] wr wc := by rw [HWC.out]; exact off_self _ _ _ _ _
                          have HU9 := hid (HUPD.out.off koW (by simpa using hd1))
                          have HN9 := hid (NodeP.mono (Q := fun g => g < r ∨ w.heap.size ≤ g) (fun b hb _ => .inl hb) (HNODE.out.off koW (fun b hb hm => by simp at hm; omega)))
                          refine ret_of (by assumption) (wp_ret (bodyPost_ret (v := .tuple #[.agg #[.slice ka P.length kc, .slice va P.length vc, .slice none 0 0], .bool true]) ?r rfl ?_))
                          case r =>
                            simp [r0, r1, r2, results, Tryd.results123, go_sem]
                            try rfl
                          exact ⟨.inl ⟨_, _, _, _, _, _, HYES.out, rfl, HN9.out, HU9.out⟩, ko8⟩
              · have hki0 : ((pg.kids.length : Int) == 0) = false := beq_false_of_ne (by omega)
                have hkl : pg.kids.length = pg.keys.length + 1 := by rcases HCW.out.2.2.1 with h | h; exact absurd h hk0; exact h
                obtain ⟨P, hP⟩ : ∃ P, P = pg.prs := ⟨_, rfl⟩
                have hPl : P.length = pg.keys.length := by rw [hP]; exact HPL.out
                have HPP := hid hP
                have HPE := hid hPl
                have f0 := HF6.out.2.1 0 _ rfl
                rw [← hPl] at f0 HF6 HN6 HRK6
                have hP4 : P.length ≤ 4 := by omega
                have hP1 : 1 ≤ P.length := by
                  have h9 := HCW.out.2.2.2
                  split at h9
                  · omega
                  · omega
                have hKV : strsV pg.keys = keysV P := by rw [hP]; exact (keysV_prs HCO.out).symm
                have hVV : strsV pg.vals = valsV P := by rw [hP]; exact (valsV_prs HCO.out).symm
                have hvk := HCO.out.2.1
                rw [hKV] at HRK6
                rw [hVV, hvk, ← hPl] at HRV6
                have HKL : Hid (pg.kids.length = P.length + 1) := by show _ = _; omega
                have hkl1 : pg.kids.length ≤ 5 := by omega
                have hkl2 : P.length + 1 ≤ pg.kids.length := by omega
                clear hP hKV hVV hvk hPl hkl hk0
                go_wp2_with fail
                go_loopw [8, 9, 10, 86] (fun s8 s9 s10 i wr => ∃ (k : Nat) (l : List Nd) (n lf : Nat) (cv : Value) (xs : List Value), k ≤ P.length + 1 ∧ i = .int .i64 k ∧ readL (readM pages F) (pg.kids.take k) (nx + 1) = some (l, n) ∧
                    BoxAt wr rb (stV (.slice (some ⟨b, off, none⟩) pages.length c) ⟨n, many + (doneN P l k).length + (P.length - (k - 1)), lastK last (doneN P l k), lf⟩) ∧ GoodK P l k last leaf d lf ∧ many + (doneN P l k).length + (P.length - (k - 1)) ≤ 40 ∧
                    BoxAt wr nb [.slice ka P.length kc, .slice va P.length vc, cv] ∧ wr.ownsRow W6.heap.size 117 3 cv k xs ∧ NodesP (fun g => ((g < r ∨ w.heap.size ≤ g) ∧ g ≠ rr ∧ g ≠ rb) ∧ g ≠ nb ∧ g ∉ cv.ownBlock.toList) wr l xs ∧ Off [rb, nb] W6 wr) (fun _ _ _ i _ => P.length + 1 - (intOf i).toNat)
                case atStart =>
                  have e0 : many + P.length = M := by have := HM.out; have := HPE.out; omega
                  exact ⟨0, [], nx + 1, leaf, .slice none 0 0, [], Nat.zero_le _, rfl, rfl, by simpa [doneN, lastK_nil, e0] using HB6.out, ⟨trivial, by rw [if_pos rfl]⟩, by simpa [doneN, e0] using hm4, HN6.out, World.ownsRow_nil _ _ _ _, rfl, Off.refl _ _⟩
                case round =>
                  obtain ⟨k, l, n, lf, cv, xs, hk, rfl, hread, hbr2, hgk, hm40k, hnr, hor, hno, kor⟩ := hrel
                  have hnle := readL_le (m := pages.length) (fun a t b h => readM_le h) hread
                  have hll : l.length = k := by have h1 := readL_len hread; have := HKL.out; rw [List.length_take] at h1; omega
                  have HLL := hid hll
                  have HREAD := hid hread
                  have HBR := hid hbr2
                  have HGK := hid hgk
                  have HNR := hid hnr
                  have HOR := hid hor
                  have HNO0 := hid hno
                  have hsr2 : ∀ g, g < r → g ∉ [rb, nb] := fun g hg hm => by simp at hm; omega
                  have HRr := hid (HR6.out.off kor (by simp; omega))
                  have HFr := hid (HF6.out.off kor (by simp; omega))
                  have HRKr := hid (HRK6.out.off kor hsr2)
                  have HRVr := hid (HRV6.out.off kor hsr2)
                  have HRCr := hid (HRC6.out.off kor hsr2)
                  have HPr := hid (HP6.out.off kor (by simp; omega))
                  have kow : Off [rb] w wr := off_comb ko6 kor (fun g hg => by simp at hg; rcases hg with rfl | rfl; simp; exact .inr hwn)
                  have hsz6 := kor.size
                  obtain ⟨cnt, hcnt⟩ : ∃ cnt, cnt = many + (doneN P l k).length + (P.length - (k - 1)) := ⟨_, rfl⟩
                  rw [← hcnt] at HBR hm40k
                  have HCNT := hid hcnt
                  clear hread hbr2 hgk hnr hor hno hcnt f0 hsr2 hll
                  have f0 := HFr.out.2.1 0 _ rfl
                  have f1 := HFr.out.2.1 1 _ rfl
                  have f2 := HFr.out.2.1 2 _ rfl
                  have hl1 := HBR.out.1
                  have hl2 := HFr.out.1
                  have hl3 := HRr.out.1
                  have hl4 := HNR.out.1
                  have r0 := HRr.out.2.1 0 _ rfl
                  have r1 := HRr.out.2.1 1 _ rfl
                  have r2 := HRr.out.2.1 2 _ rfl
                  have s0 := HRr.out.2.2 0 (by simp)
                  have s1 := HRr.out.2.2 1 (by simp)
                  have s2 := HRr.out.2.2 2 (by simp)
                  by_cases hlt : k < P.length + 1
                  · have hki : (k : Int) < (P.length : Int) + 1 := by omega
                    have HWH : Hid (∀ t nx' h, ReadIs pages (F + 1) d ⟨nx, many, last, leaf⟩ t nx' h → ∃ L, L.length = P.length + 1 ∧ L.take k = l ∧ readL (readM pages F) pg.kids (nx + 1) = some (L, nx') ∧ OkR (.mk P L) d ⟨nx, many, last, leaf⟩ h) := by
                      intro t nx' h hr
                      obtain ⟨L, h1, h2, rfl, h3⟩ := HSOME.out t nx' h hr
                      have hL := readL_len h2
                      have := HKL.out
                      obtain ⟨e', he'⟩ := readL_take h2 k (by omega)
                      rw [HREAD.out] at he'
                      simp at he'
                      exact ⟨L, by omega, he'.1.symm, h2, by rw [HPP.out]; exact h3⟩
                    by_cases hpair : k ≠ 0 ∧ ¬ (goodP (P.getD (k - 1) default) ∧ ltT (lastK last (doneN P l k)) (P.getD (k - 1) default).1)
                    · have HDEVB := hid hpair
                      have HNZ : Hid (k ≠ 0) := hpair.1
                      obtain ⟨j, hkj⟩ : ∃ j, k = j + 1 := ⟨k - 1, by omega⟩
                      have hjP : j < P.length := by omega
                      have hkm : k - 1 = j := by omega
                      have h0i : (0 : Int) < (k : Int) := by omega
                      obtain ⟨b1, o1, e1, hce, hb1, hcl1⟩ := HRKr.out.1.cell1 (i := j) hjP
                      cases hce
                      obtain ⟨b2, o2, e2, hce, hb2, hcl2⟩ := HRVr.out.1.cell1 (i := j) hjP
                      cases hce
                      rw [keysV_get _ _ hjP] at hcl1
                      rw [valsV_get _ _ hjP] at hcl2
                      have hmem : P.getD j default ∈ pg.prs := by rw [← HPP.out]; simp [List.getD, hjP]
                      have htk : (P.getD j default).1.size ≤ maxLen ∧ (P.getD j default).2.size ≤ maxLen := by
                        have hmp : pages.getD nx default ∈ pages := by simp [List.getD, hlt0]
                        rw [HPG.out] at hmp
                        obtain ⟨g1, g2⟩ := htx pg hmp
                        exact ⟨g1 _ (by rw [← Pg.prs_keys HCO.out]; exact List.mem_map_of_mem hmem), g2 _ (by rw [← Pg.prs_vals HCO.out]; exact List.mem_map_of_mem hmem)⟩
                      have HPD : Hid (preN P l k = doneN P l k ++ [P.getD j default]) := by
                        show _ = _
                        rw [hkj]
                        exact pre_done P l j (by rw [HLL.out, hkj]) hjP
                      rw [hkm] at hpair
                      obtain ⟨⟨qk, qv⟩, hq⟩ : ∃ q, P.getD j default = q := ⟨_, rfl⟩
                      rw [hq] at hcl1 hcl2 htk HPD hpair
                      simp only [] at hcl1 hcl2 htk
                      have hwk : IntKind.i64.wrap ((k : Int) - 1) = (j : Int) := by rw [IntKind.wrap_i64]; omega
                      have hkj2 : (k : Int) - 1 = (j : Int) := by omega
                      have hj0 : (0 : Int) ≤ (j : Int) := by omega
                      have hjl : (j : Int) < (P.length : Int) := by omega
                      obtain ⟨lk, hlk⟩ : ∃ lk, lk = lastK last (doneN P l k) := ⟨_, rfl⟩
                      have hBk := HBR.out
                      rw [← hlk] at hBk hpair
                      have HLK := hid hlk
                      have HBK := hid hBk
                      clear hq hkj hkm hmem hBk hlk
                      have hg := hpair.2
                      have PF := fun W (hW : BoxAt W rb (stV (.slice (some ⟨b, off, none⟩) pages.length c) ⟨n, cnt, lk, lf⟩)) => pairFitsNo rb _ _ _ _ lk qk qv W hW htk.1 htk.2 hg
                      have HNO : Hid (∀ t nx' h, ¬ ReadIs pages (F + 1) d ⟨nx, many, last, leaf⟩ t nx' h) := by
                        intro t nx' h hr
                        obtain ⟨L, g1, g2, g3, g4⟩ := HWH.out t nx' h hr
                        have g5 := g4.2.2.2.1
                        obtain ⟨R, hR, _⟩ := all_split P L g1 k (by omega)
                        simp only [] at g5
                        rw [hR, rise_append, rise_append, preN_take, g2, HPD.out, rise_append] at g5
                        exact hg ⟨g5.1.1.2.1, by rw [HLK.out]; exact g5.1.1.2.2.1⟩
                      clear hg hpair HWH HSOME
                      go_upto_region 14 with fail
                      go_cut [107] (fun q wc => q = .bool true ∧ Below wr.heap.size wr wc)
                      case first =>
                        have hq1 : b1 ≠ rb := by rcases HRKr.out.2 _ _ _ _ _ rfl with h | h <;> omega
                        have hq2 : b2 ≠ rb := by rcases HRVr.out.2 _ _ _ _ _ rfl with h | h <;> omega
                        have hq3 : fb ≠ rb := Ne.symm hd2
                        have h0n : 0 < k := by omega
                        have hwj : IntKind.i64.wrap (j : Int) = (j : Int) := by rw [IntKind.wrap_i64]; omega
                        have h0d : decide ((0 : Int) < (k : Int)) = true := decide_eq_true h0i
                        have h0e : decide (0 < k) = true := decide_eq_true h0n
                        go_region_held3 (fun w' => w'.cell? ⟨fb, 0, none⟩ = some (.slice (some ⟨b1, o1, none⟩) P.length kc) ∧ w'.cell? ⟨fb, 1, none⟩ = some (.slice (some ⟨b2, o2, none⟩) P.length vc) ∧ w'.cell? ⟨b1, o1 + j, none⟩ = some (.string qk) ∧ w'.cell? ⟨b2, o2 + j, none⟩ = some (.string qv)) (go_keep) (first | (go_at_call 153; refine (PF wr.drew ⟨HBK.out.1, HBK.out.2.1, HBK.out.2.2⟩).mono ?_; rintro e w9 ⟨rfl, hw9⟩; subst w9) | fail)
                        all_goals
                          go_wp2_with fail
                          go_meet
                          exact ⟨rfl, Below.drew (Below.refl _ _)⟩
                      case rest =>
                        obtain ⟨rfl, kb9⟩ := hcut
                        have HO9 : Hid (Off [rb] w wc) := kow.trans (Off.of kb9)
                        have HR9 := hid (HRr.out.below kb9)
                        have r0 := (kb9.cell (p := ⟨rr, 0, none⟩) hl3).trans r0
                        have r1 := (kb9.cell (p := ⟨rr, 1, none⟩) hl3).trans r1
                        have r2 := (kb9.cell (p := ⟨rr, 2, none⟩) hl3).trans r2
                        have s0 := (kb9.frozen (p := ⟨rr, 0, none⟩) hl3).trans s0
                        have s1 := (kb9.frozen (p := ⟨rr, 1, none⟩) hl3).trans s1
                        have s2 := (kb9.frozen (p := ⟨rr, 2, none⟩) hl3).trans s2
                        have hl3 : rr < wc.heap.size := Nat.lt_of_lt_of_le hl3 kb9.size
                        clear kb9 f0 f1 f2 hcl1 hcl2 hwk hkj2 hj0 hjl hb1 hb2 htk PF hki h0i hlt hjP c0 c1 hv hc
                        go_upto_region 15 with fail
                        go_cut [5] (fun s5 wc => s5 = .bool false ∧ BoxAt wc rr [Value.slice none 0 0, Value.slice none 0 0, Value.slice none 0 0] ∧ Off [rb] w wc)
                        case first =>
                          go_wp2_with fail
                          go_meet
                          exact ⟨rfl, ((HR9.out.set 0 _).set 1 _).set 2 _, off_set (off_set (off_set HO9.out hrw _ _) hrw _ _) hrw _ _⟩
                        case rest =>
                          obtain ⟨rfl, hbz, hoz⟩ := hcut
                          have r0 := hbz.2.1 0 _ rfl
                          have r1 := hbz.2.1 1 _ rfl
                          have r2 := hbz.2.1 2 _ rfl
                          have hl3 := hbz.1
                          refine ret_of (by assumption) (wp_ret ?_)
                          refine then_ret (block_ret (then_ret ?_))
                          refine then_ret (block_ret (then_ret ?_))
                          refine bodyPost_ret (v := .tuple #[zeroN, .bool false]) ?r rfl ?_
                          case r =>
                            simp [r0, r1, r2, results, zeroN, Tryd.results123, go_sem]
                            try rfl
                          exact ⟨.inr ⟨HNO.out, rfl⟩, hoz⟩
                    · have HRP : Hid (Rise last (preN P l k)) := by
                        rcases Nat.eq_zero_or_pos k with e | e
                        · rw [e]; trivial
                        · obtain ⟨j, rfl⟩ : ∃ j, k = j + 1 := ⟨k - 1, by omega⟩
                          have hg : goodP (P.getD j default) ∧ ltT (lastK last (doneN P l (j + 1))) (P.getD j default).1 := Classical.byContradiction fun h => hpair ⟨by omega, h⟩
                          rw [pre_done P l j HLL.out (by omega), rise_append]
                          exact ⟨HGK.out.1, hg.1, hg.2, trivial⟩
                      go_upto_region 14 with fail
                      go_cut [107] (fun q wc => q = .bool false ∧ BoxAt wc rb (stV (.slice (some ⟨b, off, none⟩) pages.length c) ⟨n, cnt, lastK last (preN P l k), lf⟩) ∧ Off [rb] wr wc)
                      case first =>
                        rcases Nat.eq_zero_or_pos k with h0 | h0
                        · have HB8 : Hid (BoxAt wr rb (stV (.slice (some ⟨b, off, none⟩) pages.length c) ⟨n, cnt, lastK last (preN P l 0), lf⟩)) := by
                            have := HBR.out; rw [h0] at this; exact this
                          subst h0
                          simp only [Int.natCast_zero]
                          go_quiet (fail)
                          go_wp2_with fail
                          go_meet
                          exact ⟨rfl, ⟨HB8.out.1, HB8.out.2.1, HB8.out.2.2⟩, off_drew (Off.refl _ _) _⟩
                        · have hpair2 : ¬ (k ≠ 0 ∧ ¬ (goodP (P.getD (k - 1) default) ∧ ltT (lastK last (doneN P l k)) (P.getD (k - 1) default).1)) := hpair
                          clear hpair
                          have hpair := hpair2
                          clear hpair2
                          obtain ⟨j, hkj⟩ : ∃ j, k = j + 1 := ⟨k - 1, by omega⟩
                          have hjP : j < P.length := by omega
                          have hkm : k - 1 = j := by omega
                          have h0i : (0 : Int) < (k : Int) := by omega
                          obtain ⟨b1, o1, e1, hce, hb1, hcl1⟩ := HRKr.out.1.cell1 (i := j) hjP
                          cases hce
                          obtain ⟨b2, o2, e2, hce, hb2, hcl2⟩ := HRVr.out.1.cell1 (i := j) hjP
                          cases hce
                          rw [keysV_get _ _ hjP] at hcl1
                          rw [valsV_get _ _ hjP] at hcl2
                          have hmem : P.getD j default ∈ pg.prs := by rw [← HPP.out]; simp [List.getD, hjP]
                          have htk : (P.getD j default).1.size ≤ maxLen ∧ (P.getD j default).2.size ≤ maxLen := by
                            have hmp : pages.getD nx default ∈ pages := by simp [List.getD, hlt0]
                            rw [HPG.out] at hmp
                            obtain ⟨g1, g2⟩ := htx pg hmp
                            exact ⟨g1 _ (by rw [← Pg.prs_keys HCO.out]; exact List.mem_map_of_mem hmem), g2 _ (by rw [← Pg.prs_vals HCO.out]; exact List.mem_map_of_mem hmem)⟩
                          have HPD : Hid (preN P l k = doneN P l k ++ [P.getD j default]) := by
                            show _ = _
                            rw [hkj]
                            exact pre_done P l j (by rw [HLL.out, hkj]) hjP
                          rw [hkm] at hpair
                          obtain ⟨⟨qk, qv⟩, hq⟩ : ∃ q, P.getD j default = q := ⟨_, rfl⟩
                          rw [hq] at hcl1 hcl2 htk HPD hpair
                          simp only [] at hcl1 hcl2 htk
                          have hwk : IntKind.i64.wrap ((k : Int) - 1) = (j : Int) := by rw [IntKind.wrap_i64]; omega
                          have hkj2 : (k : Int) - 1 = (j : Int) := by omega
                          have hj0 : (0 : Int) ≤ (j : Int) := by omega
                          have hjl : (j : Int) < (P.length : Int) := by omega
                          obtain ⟨lk, hlk⟩ : ∃ lk, lk = lastK last (doneN P l k) := ⟨_, rfl⟩
                          have hBk := HBR.out
                          rw [← hlk] at hBk hpair
                          have HLK := hid hlk
                          have HBK := hid hBk
                          clear hq hkj hkm hmem hBk hlk
                          have hg : goodP (qk, qv) ∧ ltT lk qk := Classical.byContradiction fun h => hpair ⟨by omega, h⟩
                          have PF := fun W (hW : BoxAt W rb (stV (.slice (some ⟨b, off, none⟩) pages.length c) ⟨n, cnt, lk, lf⟩)) => pairFitsYes rb _ _ _ _ lk qk qv W hW hg.1 hg.2
                          have HL8 : Hid (lastK last (preN P l k) = qk) := by
                            show _ = _
                            rw [HPD.out]
                            exact lastK_snoc _ _ _
                          have HB8 : Hid (∀ W, BoxAt W rb (stV (.slice (some ⟨b, off, none⟩) pages.length c) ⟨n, cnt, lk, lf⟩) → BoxAt (W.setCell ⟨rb, 3, none⟩ (.string qk)) rb (stV (.slice (some ⟨b, off, none⟩) pages.length c) ⟨n, cnt, lastK last (preN P l k), lf⟩)) := fun W hW => by rw [HL8.out]; exact hW.set 3 (.string qk)
                          clear hg hpair HWH HSOME
                          have hq1 : b1 ≠ rb := by rcases HRKr.out.2 _ _ _ _ _ rfl with h | h <;> omega
                          have hq2 : b2 ≠ rb := by rcases HRVr.out.2 _ _ _ _ _ rfl with h | h <;> omega
                          have hq3 : fb ≠ rb := Ne.symm hd2
                          have h0n : 0 < k := by omega
                          have hwj : IntKind.i64.wrap (j : Int) = (j : Int) := by rw [IntKind.wrap_i64]; omega
                          have h0d : decide ((0 : Int) < (k : Int)) = true := decide_eq_true h0i
                          have h0e : decide (0 < k) = true := decide_eq_true h0n
                          go_region_held3 (fun w' => w'.cell? ⟨fb, 0, none⟩ = some (.slice (some ⟨b1, o1, none⟩) P.length kc) ∧ w'.cell? ⟨fb, 1, none⟩ = some (.slice (some ⟨b2, o2, none⟩) P.length vc) ∧ w'.cell? ⟨b1, o1 + j, none⟩ = some (.string qk) ∧ w'.cell? ⟨b2, o2 + j, none⟩ = some (.string qv)) (first | (exact ⟨g0, g1, g2, g3⟩) | go_keep) (first | (go_at_call 153; refine (PF wr.drew ⟨HBK.out.1, HBK.out.2.1, HBK.out.2.2⟩).mono ?_; rintro e w9 ⟨rfl, hw9⟩; subst w9; have g0 := cellSet (u := Value.string qk) (o := 3) hq3 (show wr.drew.cell? _ = _ from f0); have g1 := cellSet (u := Value.string qk) (o := 3) hq3 (show wr.drew.cell? _ = _ from f1); have g2 := cellSet (u := Value.string qk) (o := 3) hq1 (show wr.drew.cell? _ = _ from hcl1); have g3 := cellSet (u := Value.string qk) (o := 3) hq2 (show wr.drew.cell? _ = _ from hcl2)) | fail)
                          all_goals
                            go_wp2_with fail
                            go_meet
                            exact ⟨rfl, HB8.out _ ⟨HBK.out.1, HBK.out.2.1, HBK.out.2.2⟩, ⟨rfl, rfl, rfl, by simp, fun k hk hn => setCell_other _ _ _ _ _ (by simpa using hn)⟩⟩
                      case rest =>
                        obtain ⟨rfl, hB9, ko9⟩ := hcut
                        have HB9 := hid hB9
                        have HR9 := hid (HRr.out.off ko9 (by simp; omega))
                        have HF9 := hid (HFr.out.off ko9 (by simp; omega))
                        have HN9 := hid (HNR.out.off ko9 (by simp; omega))
                        have HRC9 := hid (HRCr.out.off ko9 hSr)
                        have HP9 := hid (HPr.out.off ko9 (by simpa using hrle))
                        have HNO9 := hid (HNO0.out.off ko9 (fun g hg hm => by simp at hm; exact hg.1.2.2 hm))
                        have HOR9 : Hid (wc.ownsRow W6.heap.size 117 3 cv k xs) := by
                          refine HOR.out.kept (row := some rb) ⟨ko9.os, ko9.tape, ko9.output, ko9.size, fun g hg hne => ko9.block g hg (by simpa using fun e => hne (by rw [e]))⟩ ?_
                          cases hob : cv.ownBlock with
                          | none => exact .inl rfl
                          | some g =>
                            right
                            intro e
                            cases e
                            have := (HOR.out.lt rb hob).1
                            omega
                        have ko9w : Off [rb] w wc := kow.trans ko9
                        have kor9 : Off [rb, nb] W6 wc := kor.trans (ko9.mono (by simp))
                        clear hB9 ko9 f0 f1 f2 r0 r1 r2 s0 s1 s2 hl1 hl2 hl3 hl4
                        have hk5 : k < pg.kids.length := by omega
                        obtain ⟨b5, off5, c5, hce, hb5, hcell5⟩ := HRC9.out.1.cell1 (i := k) hk5
                        cases hce
                        rw [intsV_get _ _ hk5] at hcell5
                        obtain ⟨no, hno⟩ : ∃ no, pg.kids.getD k 0 = no := ⟨_, rfl⟩
                        rw [hno] at hcell5
                        have HNUM := hid hno
                        have f2 := HF9.out.2.1 2 _ rfl
                        have hl2 := HF9.out.1
                        have hk5i : (k : Int) < (pg.kids.length : Int) := by omega
                        have hk0i : (0 : Int) ≤ (k : Int) := by omega
                        have hlf2 : lf ≤ 1000 := lf_le HREAD.out HLL.out HGK.out hlf (by have := HDF.out; omega)
                        have RK := implReadKid pages rb r hrle (.slice (some ⟨b, off, none⟩) pages.length c) F (d + 1) ⟨n, cnt, lastK last (preN P l k), lf⟩ no wc (by omega) (by simp only []; omega) HB9.out (fun W hW => IH.out (d + 1) ⟨n, cnt, lastK last (preN P l k), lf⟩ W (by have := HDF.out; omega) (by omega) (by simp only []; have := HCNT.out; omega) hm40k (by simp only []; omega) hlf2 (HB9.out.below hW) (HP9.out.off (Off.of (S := []) hW) (by simp)))
                        have hdd : ((d + 1 : Nat) : Int) = (d : Int) + 1 := by omega
                        rw [hdd] at RK
                        clear hno hdd
                        go_wp2_with fail
                        refine RK.mono ?_
                        rintro e w3 ⟨hpost, ko3k⟩
                        have ko3w : Off [rb] w w3 := ko9w.trans ko3k
                        have HR3 := hid (HR9.out.off ko3k (by simp; omega))
                        have hl33 := ko3k.size
                        have HKM : Hid (∀ t nx' h, ReadIs pages (F + 1) d ⟨nx, many, last, leaf⟩ t nx' h → no = n ∧ ∃ t2 e h0, ReadIs pages F (d + 1) ⟨n, cnt, lastK last (preN P l k), lf⟩ t2 e h0) := by
                          intro t nx' h hr
                          obtain ⟨L, g1, g2, g3, g4⟩ := HWH.out t nx' h hr
                          obtain ⟨q1, e, h0, q2⟩ := kid_must g1 HKL.out (by omega) HREAD.out g3 HNUM.out (by omega) g4 HGK.out (HCNT.out.trans (cnt_eq P l many k HLL.out (by omega)))
                          exact ⟨q1, _, e, h0, q2⟩
                        have hbad2 : (∃ t nx2 h kv2 vv2 cv2, no = n ∧ ReadIs pages F (d + 1) ⟨n, cnt, lastK last (preN P l k), lf⟩ t nx2 h ∧ e = .returned (.tuple #[.agg #[kv2, vv2, cv2], .bool true]) ∧ NodeP (fun g => g < r ∨ wc.heap.size ≤ g) w3 t kv2 vv2 cv2 ∧ BoxAt w3 rb (stV (.slice (some ⟨b, off, none⟩) pages.length c) (upd ⟨n, cnt, lastK last (preN P l k), lf⟩ nx2 t (d + 1) h))) ∨
                            ((∀ t nx' h, ¬ ReadIs pages (F + 1) d ⟨nx, many, last, leaf⟩ t nx' h) ∧ e = .returned (.tuple #[zeroN, .bool false])) := by
                          rcases hpost with ⟨q1, q2⟩ | ⟨q1, rfl⟩
                          · rcases q2 with ⟨t, nx2, h, kv2, vv2, cv2, q3, rfl, q4, q5⟩ | ⟨q3, rfl⟩
                            · exact .inl ⟨t, nx2, h, kv2, vv2, cv2, q1, q3, rfl, q4, q5⟩
                            · refine .inr ⟨fun t nx' h hr => ?_, rfl⟩
                              obtain ⟨_, t2, e, h0, q5⟩ := HKM.out t nx' h hr
                              exact q3 t2 e h0 q5
                          · exact .inr ⟨fun t nx' h hr => q1 (HKM.out t nx' h hr).1, rfl⟩
                        clear hpost HKM HWH HSOME RK
                        rcases hbad2 with ⟨t, nx2, h, kv2, vv2, cv2, q1, q2, rfl, q4, q5⟩ | ⟨hnone, rfl⟩
                        · have HN3 := hid (HN9.out.off ko3k (by simp; omega))
                          have HOR3 : Hid (w3.ownsRow W6.heap.size 117 3 cv k xs) := by
                            refine HOR9.out.kept (row := some rb) ⟨ko3k.os, ko3k.tape, ko3k.output, ko3k.size, fun g hg hne => ko3k.block g hg (by simpa using fun e => hne (by rw [e]))⟩ ?_
                            cases hob : cv.ownBlock with
                            | none => exact .inl rfl
                            | some g =>
                              right
                              intro e
                              cases e
                              have := (HOR9.out.lt rb hob).1
                              omega
                          have HNO3 := hid (HNO9.out.off ko3k (fun g hg hm => by simp at hm; exact hg.1.2.2 hm))
                          have HKID : Hid (NodeP (fun g => ((g < r ∨ w.heap.size ≤ g) ∧ g ≠ rr ∧ g ≠ rb) ∧ g ≠ nb ∧ g ∉ cv.ownBlock.toList) w3 t kv2 vv2 cv2) := by
                            refine NodeP.mono (fun g hg _ => ?_) q4
                            have hw9 := ko9w.size
                            have hs9 := kor9.size
                            refine ⟨⟨by omega, by omega, by omega⟩, by omega, fun hm => ?_⟩
                            have := HOR9.out.lt g (by simpa using hm)
                            omega
                          have kor3 : Off [rb, nb] W6 w3 := kor9.trans (ko3k.mono (by simp))
                          obtain ⟨a1, k1, a2, k2, a3, k3, hs1x, hs2x, hs3x⟩ := q4.slices
                          subst hs1x
                          subst hs2x
                          subst hs3x
                          have HREAD2 : Hid (readL (readM pages F) (pg.kids.take (k + 1)) (nx + 1) = some (l ++ [t], nx2)) := by
                            show _ = _
                            rw [show pg.kids.take (k + 1) = pg.kids.take k ++ [no] by rw [List.take_succ_eq_append_getElem hk5, ← HNUM.out]; simp [List.getD, hk5], readL_snoc, HREAD.out]
                            simp only []
                            rw [if_pos q1, q2.1]
                          have HGK2 := hid (goodK_next HLL.out (by omega : n ≠ 0) HRP.out HGK.out q2.2)
                          have hdn : doneN P (l ++ [t]) (k + 1) = preN P l k ++ allN t := doneN_succ P l t k HLL.out
                          have hce2 : cnt = many + (preN P l k).length + (P.length - k) := HCNT.out.trans (cnt_eq P l many k HLL.out (by omega))
                          have HB3x : Hid (BoxAt w3 rb (stV (.slice (some ⟨b, off, none⟩) pages.length c) ⟨nx2, many + (doneN P (l ++ [t]) (k + 1)).length + (P.length - (k + 1 - 1)), lastK last (doneN P (l ++ [t]) (k + 1)), d + h⟩)) := by
                            have e1 : upd ⟨n, cnt, lastK last (preN P l k), lf⟩ nx2 t (d + 1) h = ⟨nx2, many + (doneN P (l ++ [t]) (k + 1)).length + (P.length - (k + 1 - 1)), lastK last (doneN P (l ++ [t]) (k + 1)), d + h⟩ := by
                              unfold upd
                              simp only []
                              rw [hdn, lastK_append, hce2]
                              congr 1
                              · simp only [List.length_append, Nat.add_sub_cancel]; omega
                              · omega
                            rw [← e1]; exact q5
                          have HM2 : Hid (many + (doneN P (l ++ [t]) (k + 1)).length + (P.length - (k + 1 - 1)) ≤ 40) := by
                            have := q2.2.2.2.2.2
                            simp only [] at this
                            show _ ≤ 40
                            rw [hdn]
                            simp only [List.length_append, Nat.add_sub_cancel]
                            omega
                          clear q1 q2 q4 q5 hdn hce2 HNO9 HOR9 HN9 HB9 HF9 HRC9 HP9 HR3 hcell5
                          obtain ⟨ca2, cc2, hcv2⟩ := (rows_of_own HOR3.out).slice
                          subst hcv2
                          have n2 := HN3.out.2.1 2 _ rfl
                          have z2 := HN3.out.2.2 2 (by simp)
                          have hl4 := HN3.out.1
                          have hnn : nb ≠ w3.heap.size := by omega
                          have hs63 := kor3.size
                          have hown3 := HOR3.out
                          go_wp2_with (first | (at_builtin; refine wplOwn rfl _ _ 115 rfl W6.heap.size 117 i0 zeroN 3 72 Tryd.underlying115 hi hz0 hz1 hz2 rfl (by decide) _ _ _ rfl ((hown3.alloc _).alloc _) _ 1 [.slice a1 t.prs.length k1, .slice a2 t.prs.length k2, .slice a3 t.kids.length k3] rfl (news3g _ _ _ _ _ _ (by simp)) ?c1 ?c2 ?c3 ?c4 ?_) | fail)
                          case c1 => intro u hu; simp at hu; rcases hu with rfl | rfl | rfl <;> rfl
                          case c2 => unfold maxLen; omega
                          case c3 => omega
                          case c4 => simp; omega
                          intro cv' w6 ho6 hg6 he6
                          obtain ⟨ob, hob⟩ : ∃ ob, (Value.slice ca2 k cc2).ownBlock = ob := ⟨_, rfl⟩
                          have hobl : ∀ g, ob = some g → W6.heap.size ≤ g := fun g hg => (hown3.lt g (hob.trans hg)).1
                          have kb5 : Below w3.heap.size w3 ((w3.alloc (.cells #[.slice a1 t.prs.length k1, .slice a2 t.prs.length k2, .slice a3 t.kids.length k3] 117)).alloc (.cells #[.slice a1 t.prs.length k1, .slice a2 t.prs.length k2, .slice a3 t.kids.length k3] 117)) := ((Below.refl _ _).alloc (Nat.le_refl _) _).alloc (by simp) _
                          have ko36 : ∀ g, g < w3.heap.size → some g ≠ ob → w6.heap[g]? = w3.heap[g]? := fun g hg hn => (hg6.block g (by simp; omega) (by rw [hob]; exact hn)).trans (kb5.block g hg)
                          have hs6 : w3.heap.size ≤ w6.heap.size := Nat.le_trans kb5.size hg6.size
                          have hnob : some nb ≠ ob := fun e => by have := hobl nb e.symm; omega
                          have hrob : some rb ≠ ob := fun e => by have := hobl rb e.symm; omega
                          have off36 : Off ob.toList w3 w6 := ⟨hg6.os.trans kb5.os, hg6.tape.trans kb5.tape, hg6.output.trans kb5.output, hs6, fun g hg hn => ko36 g hg (fun e => hn (by rw [← e]; simp))⟩
                          have HN6x := hid (HN3.out.off off36 (fun hm => hnob (Option.mem_toList.1 hm).symm))
                          have HB6x := hid (HB3x.out.off off36 (fun hm => hrob (Option.mem_toList.1 hm).symm))
                          have HNO3b := HNO3.out
                          have HKIDb := HKID.out
                          have hg6b := hg6
                          have he6b := he6
                          rw [hob] at HNO3b HKIDb hg6b he6b
                          have HNX := hid (nodes_next (Q := fun g => (g < r ∨ w.heap.size ≤ g) ∧ g ≠ rr ∧ g ≠ rb) (nb := nb) (ob := ob) (ob' := cv'.ownBlock) (u := cv') (w3 := w3) (w6 := w6) (l := l) (t := t) (xs := xs) kb5 HNO3b HKIDb hg6b (by simp only [World.size_alloc]; exact he6b))
                          clear HNO3b HKIDb hg6b he6b
                          have HO7 : Hid (Off [rb, nb] W6 (w6.setCell ⟨nb, 2, none⟩ cv')) := off_comb (off_comb kor3 off36 (fun g hg => .inr (hobl g (Option.mem_toList.1 hg)))) (T := [nb]) ⟨rfl, rfl, rfl, by simp, fun k hk hn => setCell_other _ _ _ _ _ (by simpa using hn)⟩ (fun g hg => .inl (by simp at hg; simp [hg]))
                          obtain ⟨ca3, cc3, hcv3⟩ := (rows_of_own ho6).slice
                          subst hcv3
                          have HOW7 : Hid ((w6.setCell ⟨nb, 2, none⟩ (.slice ca3 (k + 1) cc3)).ownsRow W6.heap.size 117 3 (.slice ca3 (k + 1) cc3) (k + 1) (xs ++ [.slice a1 t.prs.length k1, .slice a2 t.prs.length k2, .slice a3 t.kids.length k3])) := by
                            refine ho6.kept (row := some nb) ⟨rfl, rfl, rfl, by simp, fun g hg hne => setCell_other _ _ _ _ _ (fun e => hne (by rw [e]))⟩ ?_
                            cases hob3 : (Value.slice ca3 (k + 1) cc3).ownBlock with
                            | none => exact .inl rfl
                            | some g =>
                              right
                              intro e
                              cases e
                              have := (ho6.lt nb hob3).1
                              omega
                          have HB7x := hid (HB6x.out.setOther (g := nb) (o := 2) (u := .slice ca3 (k + 1) cc3) (by omega))
                          have HN7x : Hid (BoxAt (w6.setCell ⟨nb, 2, none⟩ (.slice ca3 (k + 1) cc3)) nb [.slice ka P.length kc, .slice va P.length vc, .slice ca3 (k + 1) cc3]) := HN6x.out.set 2 _
                          have n2 := HN6x.out.2.1 2 _ rfl
                          have z2 := HN6x.out.2.2 2 (by simp)
                          have hl4 := HN6x.out.1
                          clear ho6 hg6 he6 hob hobl kb5 ko36 hnob hrob off36 hown3
                          go_wp2_with fail
                          refine ⟨?_, by simp [intOf]; omega⟩
                          first | exact ⟨k + 1, l ++ [t], nx2, d + h, _, _, by omega, by go_num, HREAD2.out, HB7x.out, HGK2.out, HM2.out, HN7x.out, HOW7.out, HNX.out, HO7.out⟩ | ((repeat apply Exists.intro); exact ⟨⟨k + 1, l ++ [t], nx2, d + h, _, _, by omega, by go_num, HREAD2.out, HB7x.out, HGK2.out, HM2.out, HN7x.out, HOW7.out, HNX.out, HO7.out⟩, rfl⟩)
                        · have HNO := hid hnone
                          clear hnone
                          have r0 := HR3.out.2.1 0 _ rfl
                          have r1 := HR3.out.2.1 1 _ rfl
                          have r2 := HR3.out.2.1 2 _ rfl
                          have s0 := HR3.out.2.2 0 (by simp)
                          have s1 := HR3.out.2.2 1 (by simp)
                          have s2 := HR3.out.2.2 2 (by simp)
                          have hl3 := HR3.out.1
                          have HR4 := hid (HR3.out.below ((Below.refl _ _).alloc (Nat.le_refl _) (.cells #[.slice none 0 0, .slice none 0 0, .slice none 0 0] 117)))
                          have HO4 : Hid (Off [rb] w (w3.alloc (.cells #[.slice none 0 0, .slice none 0 0, .slice none 0 0] 117))) := ko3w.trans (Off.of ((Below.refl _ _).alloc (Nat.le_refl _) _))
                          unfold zeroN
                          go_upto_region 19 with fail
                          go_cut [5] (fun s5 wc => s5 = .bool false ∧ BoxAt wc rr [Value.slice none 0 0, Value.slice none 0 0, Value.slice none 0 0] ∧ Off [rb] w wc)
                          case first =>
                            go_wp2_with fail
                            go_meet
                            exact ⟨rfl, (((HR3.out.set 0 _).set 1 _).set 2 _).below ((Below.refl _ _).alloc (Nat.le_refl _) _), (off_set (off_set (off_set ko3w hrw _ _) hrw _ _) hrw _ _).trans (Off.of ((Below.refl _ _).alloc (Nat.le_refl _) _))⟩
                          case rest =>
                            obtain ⟨rfl, hbz, hoz⟩ := hcut
                            have r0 := hbz.2.1 0 _ rfl
                            have r1 := hbz.2.1 1 _ rfl
                            have r2 := hbz.2.1 2 _ rfl
                            have hl3 := hbz.1
                            refine ret_of (by assumption) (wp_ret ?_)
                            refine then_ret (block_ret (then_ret ?_))
                            refine then_ret (block_ret (then_ret ?_))
                            refine bodyPost_ret (v := .tuple #[zeroN, .bool false]) ?r rfl ?_
                            case r =>
                              simp [r0, r1, r2, results, zeroN, Tryd.results123, go_sem]
                              try rfl
                            exact ⟨.inr ⟨HNO.out, rfl⟩, hoz⟩
                  · have hke : k = P.length + 1 := by omega
                    have hki : ¬ ((k : Int) < (P.length : Int) + 1) := by omega
                    have hlk2 : l.length = P.length + 1 := HLL.out.trans hke
                    have hgw := HGK.out
                    rw [hke] at hgw
                    have hmw : many + (doneN P l (P.length + 1)).length ≤ 40 := by
                      have := HCNT.out
                      rw [hke] at this
                      simp only [Nat.add_sub_cancel, Nat.sub_self, Nat.add_zero] at this
                      omega
                    have hpw : if nx = 0 then 1 ≤ P.length else 2 ≤ P.length := by
                      have h9 := HCW.out.2.2.2
                      split
                      · exact hP1
                      · rename_i hnx0
                        rw [if_neg (by intro h; exact hnx0 (by simpa using h))] at h9
                        rw [HPE.out]; exact h9
                    obtain ⟨h, w1x, w2x, w3x⟩ := wholeOk (nx := nx) (many := many) hlk2 hgw hpw hmw
                    have HYES : Hid (ReadIs pages (F + 1) d ⟨nx, many, last, leaf⟩ (.mk P l) n h) := by
                      refine ⟨?_, w1x⟩
                      have h1 := HREAD.out
                      rw [List.take_of_length_le (by have := HKL.out; omega)] at h1
                      simp only []
                      unfold readM
                      rw [HPG.out, if_pos ⟨hlt0, HCO.out⟩, h1, HPP.out]
                    have HUPD : Hid (BoxAt wr rb (stV (.slice (some ⟨b, off, none⟩) pages.length c) (upd ⟨nx, many, last, leaf⟩ n (.mk P l) d h))) := by
                      have e2 : upd ⟨nx, many, last, leaf⟩ n (.mk P l) d h = ⟨n, cnt, lastK last (doneN P l k), lf⟩ := by
                        have e3 : cnt = many + (allN (.mk P l)).length := by
                          have := HCNT.out
                          rw [hke, w2x] at this
                          simp only [Nat.add_sub_cancel, Nat.sub_self, Nat.add_zero] at this
                          exact this
                        unfold upd
                        rw [hke, w2x, e3, w3x]
                      rw [e2]; exact HBR.out
                    obtain ⟨ca2, cc2, hcv2⟩ := (rows_of_own HOR.out).slice
                    subst hcv2
                    have HNODE : Hid (NodeP (fun g => (g < r ∨ w.heap.size ≤ g) ∧ g ≠ rr) wr (.mk P l) (.slice ka P.length kc) (.slice va P.length vc) (.slice ca2 k cc2)) := by
                      refine ⟨HRKr.out.mono fun g hg _ => ⟨.inl hg, by omega⟩, HRVr.out.mono fun g hg _ => ⟨.inl hg, by omega⟩, xs, ⟨?_, fun g o sp m q e => .inr ?_⟩, NodesP.mono (fun g hg _ => ⟨hg.1.1, hg.1.2.1⟩) HNO0.out⟩
                      · rw [HLL.out]; exact rows_of_own HOR.out
                      · cases e
                        have := (HOR.out.lt g rfl).1
                        have hw6 := ko6.size
                        omega
                    have n0 := HNR.out.2.1 0 _ rfl
                    have n1 := HNR.out.2.1 1 _ rfl
                    have n2 := HNR.out.2.1 2 _ rfl
                    clear hke hgw hmw hpw w1x w2x w3x HSOME hsm htx hlk2
                    go_upto_region 22 with fail
                    have HRS : Hid (BoxAt (((wr.setCell ⟨rr, 0, none⟩ (.slice ka P.length kc)).setCell ⟨rr, 1, none⟩ (.slice va P.length vc)).setCell ⟨rr, 2, none⟩ (.slice ca2 k cc2)) rr [.slice ka P.length kc, .slice va P.length vc, .slice ca2 k cc2]) := ((HRr.out.set 0 (.slice ka P.length kc)).set 1 (.slice va P.length vc)).set 2 (.slice ca2 k cc2)
                    go_cut [5] (fun s5 wc => s5 = .bool true ∧ wc = (((wr.setCell ⟨rr, 0, none⟩ (.slice ka P.length kc)).setCell ⟨rr, 1, none⟩ (.slice va P.length vc)).setCell ⟨rr, 2, none⟩ (.slice ca2 k cc2)))
                    case first =>
                      clear f0 f1 f2
                      go_wp2_with fail
                      go_meet
                      exact ⟨rfl, rfl⟩
                    case rest =>
                      obtain ⟨rfl, hwc⟩ := hcut
                      rw [← hwc] at HRS
                      have HWC := hid hwc
                      clear hwc r0 r1 r2 s0 s1 s2 n0 n1 n2 f0 f1 f2 hl3
                      have r0 := HRS.out.2.1 0 _ rfl
                      have r1 := HRS.out.2.1 1 _ rfl
                      have r2 := HRS.out.2.1 2 _ rfl
                      have hl3 := HRS.out.1
                      have ko8 : Off [rb] w wc := by rw [HWC.out]; exact off_set (off_set (off_set kow hrw _ _) hrw _ _) hrw _ _
                      have koW : Off [rr] wr wc := by rw [HWC.out]; exact off_self _ _ _ _ _
                      have HU9 := hid (HUPD.out.off koW (by simpa using hd1))
                      have HN9 := hid (NodeP.mono (Q := fun g => g < r ∨ w.heap.size ≤ g) (fun g hg _ => hg.1) (HNODE.out.off koW (fun g hg hm => by simp at hm; exact hg.2 hm)))
                      refine ret_of (by assumption) (wp_ret (bodyPost_ret (v := .tuple #[.agg #[.slice ka P.length kc, .slice va P.length vc, .slice ca2 k cc2], .bool true]) ?r rfl ?_))
                      case r =>
                        simp [r0, r1, r2, results, Tryd.results123, go_sem]
                        try rfl
                      exact ⟨.inl ⟨_, _, _, _, _, _, HYES.out, rfl, HN9.out, HU9.out⟩, ko8⟩
          · rw [decide_eq_false hcw] at GC
            have HNO : Hid (∀ t nx' h, ¬ ReadIs pages (F + 1) d ⟨nx, many, last, leaf⟩ t nx' h) := by
              intro t nx' h hr
              obtain ⟨l, h1, h2, rfl, h3⟩ := HSOME.out t nx' h hr
              refine hcw ⟨h1.1, h1.2.1, ?_, ?_⟩
              · rcases h1.2.2 with h | h
                · left; rw [h]; rfl
                · exact .inr h
              · have h4 := h3.1
                have h5 := readL_len h2
                simp only [Nd.prs, Nd.kids] at h4
                rw [Pg.prs_len h1] at h4
                by_cases h0 : nx = 0
                · rw [if_pos h0] at h4
                  rw [if_pos (by rw [h0]; rfl)]
                  rcases h4 with h4 | h4
                  · right; rw [h4] at h5; simpa using h5.symm
                  · left; omega
                · rw [if_neg h0] at h4
                  rw [if_neg (by intro h; exact h0 (by simpa using h))]
                  exact h4
            clear HSOME hcw
            go_upto_region 5 with fail
            go_cut [56] (fun q wc => q = .bool true ∧ Below W3.heap.size W3 wc)
            case first =>
              go_region_with ((go_at_call 151; refine (GC _).mono ?_; rintro e w5 ⟨rfl, hb5⟩))
              all_goals
                have hb6 := belD hb5
                clear hb5
                go_wp2_with fail
                go_meet
                exact ⟨rfl, hb6⟩
            case rest =>
              obtain ⟨rfl, kb5⟩ := hcut
              have HR5 := hid (HR3.out.below kb5)
              have HO5 : Hid (Off [rb] w wc) := ko3.trans (Off.of kb5)
              have r0 := HR5.out.2.1 0 _ rfl
              have r1 := HR5.out.2.1 1 _ rfl
              have r2 := HR5.out.2.1 2 _ rfl
              have s0 := HR5.out.2.2 0 (by simp)
              have s1 := HR5.out.2.2 1 (by simp)
              have s2 := HR5.out.2.2 2 (by simp)
              have hl3 := HR5.out.1
              clear kb5 f0 f1 f2 m1 m2 GC
              go_upto_region 6 with fail
              go_cut [5] (fun s5 wc => s5 = .bool false ∧ BoxAt wc rr [Value.slice none 0 0, Value.slice none 0 0, Value.slice none 0 0] ∧ Off [rb] w wc)
              case first =>
                go_wp2_with fail
                go_meet
                exact ⟨rfl, ((HR5.out.set 0 _).set 1 _).set 2 _, off_set (off_set (off_set HO5.out hrw _ _) hrw _ _) hrw _ _⟩
              case rest =>
                obtain ⟨rfl, hbz, hoz⟩ := hcut
                have r0 := hbz.2.1 0 _ rfl
                have r1 := hbz.2.1 1 _ rfl
                have r2 := hbz.2.1 2 _ rfl
                have hl3 := hbz.1
                refine ret_of (by assumption) (wp_ret ?_)
                refine then_ret ?_
                refine bodyPost_ret (v := .tuple #[zeroN, .bool false]) ?r rfl ?_
                case r =>
                  simp [r0, r1, r2, results, zeroN, Tryd.results123, go_sem]
                  try rfl
                exact ⟨.inr ⟨HNO.out, rfl⟩, hoz⟩
        · have HNO : Hid (∀ t nx' h, ¬ ReadIs pages (F + 1) d ⟨nx, many, last, leaf⟩ t nx' h) := by
            intro t nx' h hr
            obtain ⟨l, h1, h2, rfl, h3⟩ := HSOME.out t nx' h hr
            have h4 := h3.2.2.2.2
            have h5 := all_ge (.mk pg.prs l) (readM_shape hr.1)
            simp only [Nd.prs] at h4 h5
            rw [Pg.prs_len h1] at h5
            have := HM.out
            omega
          have hmi : (40 : Int) < (M : Int) := by omega
          clear HSOME
          go_wp2_with fail
          go_quiet (fail)
          have HRD : Hid (BoxAt (W3.drewN nq) rr [Value.slice none 0 0, Value.slice none 0 0, Value.slice none 0 0]) := ⟨HR3.out.1, HR3.out.2.1, HR3.out.2.2⟩
          have HOD := hid (off_drew ko3 nq)
          go_upto_region 6 with fail
          go_cut [5] (fun s5 wc => s5 = .bool false ∧ BoxAt wc rr [Value.slice none 0 0, Value.slice none 0 0, Value.slice none 0 0] ∧ Off [rb] w wc)
          case first =>
            go_wp2_with fail
            go_meet
            exact ⟨rfl, ((HRD.out.set 0 _).set 1 _).set 2 _, off_set (off_set (off_set HOD.out hrw _ _) hrw _ _) hrw _ _⟩
          case rest =>
            obtain ⟨rfl, hbz, hoz⟩ := hcut
            have r0 := hbz.2.1 0 _ rfl
            have r1 := hbz.2.1 1 _ rfl
            have r2 := hbz.2.1 2 _ rfl
            have hl3 := hbz.1
            refine ret_of (by assumption) (wp_ret ?_)
            refine then_ret ?_
            refine bodyPost_ret (v := .tuple #[zeroN, .bool false]) ?r rfl ?_
            case r =>
              simp [r0, r1, r2, results, zeroN, Tryd.results123, go_sem]
              try rfl
            exact ⟨.inr ⟨HNO.out, rfl⟩, hoz⟩
end Go.Proofs.YtgjcegmjhkehnaaDoor
