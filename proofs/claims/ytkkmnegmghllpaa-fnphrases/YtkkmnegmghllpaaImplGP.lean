/- Contract of the program's GoodPosts. Condition: the posts lie in memory. -/
import Derived.Test.YtkkmnegmghllpaaSpecGP
import Derived.Test.YtkkmnegmghllpaaSpecWo
namespace Go.Proofs.Ytkkmnegmghllpaa
open Go.ChangeShapes Go.WideShapes Go.ChangeAt Go.RowKit Go.Deep
set_option linter.unusedVariables false
attribute [local go_sem ↓] Go.wp_at_zero Go.wp_at_succ

theorem infoIn : (Try.prog.info? 3).map (fun i => (i.zero, i.size, i.bytes)) = some (some (.int .i64 0), 1, 8) := by kernel_rfl
def docsL (ps : List Po) : List Int := ps.map (·.1)
theorem docsL_getD (ps : List Po) (i : Nat) : (docsL ps).getD i 0 = (ps.getD i default).1 := by
  simp only [docsL, List.getD_eq_getElem?_getD, List.getElem?_map]
  cases ps[i]? <;> rfl
def okPs (ps : List Po) (k : Nat) : Prop := ∀ i, i < k → (ps.getD i default).2.length ≠ 0 ∧ riseTo 19 (ps.getD i default).2 (ps.getD i default).2.length
theorem rise_ge {m : Int} {l : List Int} {k : Nat} (h : riseTo m l k) : ∀ i, i < k → (i : Int) ≤ l.getD i 0
  | 0, hi => (h.1 0 hi).1
  | i + 1, hi => by
    have h1 := rise_ge h i (by omega)
    have h2 := h.2 i hi
    omega
theorem good_iff {ps : List Po} (h : okPs ps ps.length) : GoodP ps ↔ riseTo 11 (docsL ps) (docsL ps).length := by
  have hl : (docsL ps).length = ps.length := by simp [docsL]
  rw [hl]
  constructor
  · rintro ⟨_, h1, h2⟩
    refine ⟨fun i hi => ?_, fun i hi => ?_⟩
    · rw [docsL_getD]; exact (h1 i hi).1
    · rw [docsL_getD, docsL_getD]; exact h2 i hi
  · intro hr
    refine ⟨?_, fun i hi => ?_, fun i hi => ?_⟩
    · rcases Nat.lt_or_ge 12 ps.length with hlt | hge
      · have h1 := rise_ge hr 12 hlt
        have h2 := (hr.1 12 hlt).2
        omega
      · exact hge
    · have := hr.1 i hi
      rw [docsL_getD] at this
      exact ⟨this, (h i hi).1, (h i hi).2⟩
    · have := hr.2 i hi
      rw [docsL_getD, docsL_getD] at this
      exact this
theorem good_ok {ps : List Po} (h : GoodP ps) : okPs ps ps.length := fun i hi => ⟨(h.2.1 i hi).2.1, (h.2.1 i hi).2.2⟩
theorem docs_take (ps : List Po) (k : Nat) (h : k < ps.length) : docsL (ps.take (k + 1)) = docsL (ps.take k) ++ [(ps.getD k default).1] := by
  rw [takeL2 ps k h]; simp [docsL]
set_option maxHeartbeats 12800000 in
set_option maxRecDepth 100000 in
theorem implGP (v : Value) (ps : List Po) (B : Bool) (hB : B = true ↔ GoodP ps) (w : World) (h : PosAt w v ps) (hl : ps.length ≤ 1048576) (hs : ∀ p ∈ ps, p.2.length ≤ 1048576) :
    Calls Try.prog 22 #[v] w fun e w' => e = .returned (.bool B) ∧ Below w.heap.size w w' := by
  have HBB := hid hB
  have HSM := hid hs
  clear hs hB
  have HRN := fun W => implRises 11 (.slice none 0 0) [] true ⟨fun _ => ⟨fun i hi => by simp at hi, fun i hi => by simp at hi⟩, fun _ => rfl⟩ W (.inl ⟨none, 0, rfl, rfl⟩) (by simp)
  obtain ⟨i0, hi, hzz⟩ := Option.map_eq_some_iff.1 infoIn
  simp only [Prod.mk.injEq] at hzz
  obtain ⟨hz0, hz1, hz2⟩ := hzz
  rcases h with ⟨a0, c0, rfl, rfl⟩ | ⟨b, off, cap, rfl, hb, hcell⟩
  · have HS : Hid (B = true) := HBB.out.2 ⟨by simp, fun i hi => by simp at hi, fun i hi => by simp at hi⟩
    go_enter Try.func22, Try.ntmps22
    go_wp2
    go_loopw [3, 8] (fun o i wr => o = .slice none 0 0 ∧ i = .int .i64 0 ∧ Below w.heap.size w wr) (fun _ _ _ => 0)
    case atStart => exact ⟨rfl, rfl, by go_grown⟩
    case round =>
      obtain ⟨rfl, rfl, kb⟩ := hrel
      have kl := kb.size
      go_wp2_with fail
      refine (HRN _).mono ?_
      rintro e w1 ⟨rfl, hb1⟩
      have k1 : Below w.heap.size w w1 := kb.trans (hb1.mono kl)
      clear hb1
      go_wp2
      go_returns
      exact ⟨by rw [HS.out]; rfl, k1⟩
  · have HC : Hid (∀ i, i < ps.length → PoAt w b (off + i * 2) (ps.getD i default)) := hcell
    clear hcell HRN
    go_enter Try.func22, Try.ntmps22
    go_wp2
    go_loopw [3, 8] (fun o i wr => ∃ k : Nat, k ≤ ps.length ∧ i = .int .i64 k ∧ Hid (okPs ps k) ∧ Hid (OwnS wr w.heap.size 3 o k (intsV (docsL (ps.take k)))) ∧ Below w.heap.size w wr) (fun _ i _ => ps.length - (intOf i).toNat)
    case atStart => exact ⟨0, Nat.zero_le _, rfl, fun i hi => by omega, OwnS.nil _ _ _, by go_grown⟩
    case round =>
      obtain ⟨k, hk, rfl, hg, hO, kb⟩ := hrel
      have kl := kb.size
      obtain ⟨oa, oc, hoe⟩ := (rows_of_ownS hO.out).slice
      subst hoe
      by_cases hlt : k < ps.length
      · obtain ⟨pv, p0, p1, hlp⟩ := (HC.out k hlt).below hb kb
        have hbr0 : b < wr.heap.size := by omega
        obtain ⟨Bk, hBk⟩ : ∃ Bk : Bool, Bk = true ↔ riseTo 19 (ps.getD k default).2 (ps.getD k default).2.length := by
          by_cases hq : riseTo 19 (ps.getD k default).2 (ps.getD k default).2.length
          · exact ⟨true, ⟨fun _ => hq, fun _ => rfl⟩⟩
          · exact ⟨false, ⟨fun h => (by cases h), fun h => absurd h hq⟩⟩
        have HR := fun W (hW : Below wr.heap.size wr W) => implRises 19 pv (ps.getD k default).2 Bk hBk W (hlp.below hW) (HSM.out _ (getD_memL ps k hlt))
        have hGd : ∀ q : Prop, (okPs ps ps.length → q) → ¬ q → B = false := fun q h1 h2 => by
          cases B
          · rfl
          · exact absurd (h1 (good_ok (HBB.out.1 rfl))) h2
        have HEM : Hid ((ps.getD k default).2.length = 0 → B = false) := fun h => hGd _ (fun h => (h k hlt).1) (by omega)
        have HRB : Hid (Bk = false → B = false) := fun h => hGd _ (fun h => (h k hlt).2) (fun hr => by rw [hBk.2 hr] at h; cases h)
        have HNX : Hid ((ps.getD k default).2.length ≠ 0 → Bk = true → okPs ps (k + 1)) := fun h1 h2 i hi => by
          by_cases e : i = k
          · subst e; exact ⟨h1, hBk.1 h2⟩
          · exact hg.out i (by omega)
        have HDT : Hid (docsL (ps.take (k + 1)) = docsL (ps.take k) ++ [(ps.getD k default).1]) := docs_take ps k hlt
        obtain ⟨pa, pc, rfl⟩ := hlp.slice
        have hki : (k : Int) < (ps.length : Int) := by omega
        have hk0i : (0 : Int) ≤ (k : Int) := by omega
        clear hlp hBk hGd hg
        generalize (ps.getD k default).1 = d at *
        generalize (ps.getD k default).2 = pl at *
        generalize hNN : pl.length = N at *
        clear hNN
        by_cases hN : N = 0
        · have HS : Hid (B = false) := HEM.out hN
          have hN3 : ((N : Int) == 0) = true := by simp; omega
          clear hN
          go_wp2_with fail
          go_returns
          exact ⟨by rw [HS.out]; rfl, by go_grown⟩
        · have hN3 : ((N : Int) == 0) = false := by simp; omega
          have HNE := hid hN
          clear hN
          have hx := boxNew wr #[.int .i64 d, .slice pa N pc] 39
          have x0 := hx.2.1 0 _ rfl
          have x1 := hx.2.1 1 _ rfl
          go_wp2_with fail
          refine (HR _ (by go_grown)).mono ?_
          rintro e w1 ⟨rfl, hb1⟩
          have k1 : Below w.heap.size w w1 := by
            refine Below.trans ?_ (hb1.mono ?_)
            · go_grown
            · go_size
          have hx1 := boxOf1 hb1
          have y0 := hx1.2.1 0 _ rfl
          have y1 := hx1.2.1 1 _ rfl
          have hy := hx1.1
          have HO1 : Hid (OwnS w1 w.heap.size 3 (.slice oa k oc) k (intsV (docsL (ps.take k)))) := hO.out.below (Below.trans (by go_grown) (hb1.mono (by go_size)))
          have kl1 := k1.size
          clear hb1 hx1 x0 x1 HR hO hx
          cases Bk with
          | false =>
            have HS : Hid (B = false) := HRB.out rfl
            go_wp2_with fail
            go_returns
            exact ⟨by rw [HS.out]; rfl, k1⟩
          | true =>
            have HS : Hid (okPs ps (k + 1)) := HNX.out HNE.out rfl
            have how := HO1.out
            go_wp2_with (first | (at_builtin; refine wplS rfl _ _ 37 rfl w.heap.size 3 i0 (.int .i64 0) 8 Try.underlying37 hi hz0 hz1 hz2 rfl _ _ _ rfl (how.alloc _) _ 1 [.int .i64 d] rfl (news1 _ _ _) ?c1 ?c2 ?c3 ?c4 ?_) | fail)
            case c1 => first | rfl | (intro u hu; simp at hu; subst hu; rfl)
            case c2 => unfold maxLen; omega
            case c3 => omega
            case c4 => first | omega | (simp; omega)
            intro x1 w4 ho1 hg1 he1
            obtain ⟨va2, vc2, hve⟩ := (rows_of_ownS ho1).slice
            subst hve
            have HO4 : Hid (OwnS w4 w.heap.size 3 (.slice va2 (k + 1) vc2) (k + 1) (intsV (docsL (ps.take (k + 1))))) := by
              show OwnS _ _ _ _ _ _
              rw [HDT.out]
              simpa [intsV] using ho1
            have HK4 : Below w.heap.size w w4 := (k1.alloc k1.size _).trans (below_own (how.alloc _) (Nat.le_refl _) hg1 (by simp; omega))
            clear ho1 hg1 he1 how
            go_wp2
            refine ⟨?_, by simp [intOf]; omega⟩
            first | exact ⟨k + 1, by omega, by go_num, HS, HO4, HK4⟩ | ((repeat apply Exists.intro); exact ⟨⟨k + 1, by omega, by go_num, HS, HO4, HK4⟩, rfl⟩)
      · have hke : k = ps.length := by omega
        subst hke
        have hO2 := hO.out
        rw [List.take_length] at hO2
        have hdl : (docsL ps).length = ps.length := by simp [docsL]
        have HI : Hid (IntsAt wr (.slice oa ps.length oc) (docsL ps)) := by
          have h9 := rows_of_ownS hO2
          have h8 : RowsAt wr 1 (.slice oa ps.length oc) (docsL ps).length ((docsL ps).map (Value.int .i64)) := by rw [hdl]; exact h9
          exact ints_of_rows h8
        have HG := fun W (hW : Below wr.heap.size wr W) => implRises 11 (.slice oa ps.length oc) (docsL ps) B (HBB.out.trans (good_iff hg.out)) W (HI.out.below hW) (by rw [hdl]; exact hl)
        clear hO hO2 hdl
        go_wp2_with fail
        refine (HG _ (Below.refl _ _)).mono ?_
        rintro e w1 ⟨rfl, hb1⟩
        have k1 : Below w.heap.size w w1 := kb.trans (hb1.mono kl)
        clear hb1
        go_wp2
        go_returns
        exact ⟨rfl, k1⟩
end Go.Proofs.Ytkkmnegmghllpaa
