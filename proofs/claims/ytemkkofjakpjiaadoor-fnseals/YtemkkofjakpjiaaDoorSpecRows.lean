/- The contract of the rows of the model's tree, from the leaves up. No condition but the seed's size. -/
import Derived.Test.YtemkkofjakpjiaaDoorSpecTree
import Derived.Deep.RegionHeld3
import Derived.Deep.DeepCutAuto
import Derived.Deep.DrawnRows
namespace Go.Proofs.YtemkkofjakpjiaaDoor
open Go.ChangeShapes Go.WideShapes Go.ChangeAt Go.RowKit Go.Deep
set_option linter.unusedVariables false
attribute [local go_sem ↓] Go.wp_at_zero Go.wp_at_succ

theorem infoRow : (Tryd.prog.info? 25).map (fun i => (i.zero, i.size, i.bytes)) = some (some (.slice none 0 0), 1, 24) := by kernel_rfl
/-- The values vs are the rows 0 .. h of the tree, none of them in block ob. -/
def RowsOk (s : ByteArray) (w : World) (ob : Option Nat) (vs : List Value) (h : Nat) : Prop :=
  vs.length = h + 1 ∧ ∀ j, j ≤ h → ∃ g c, vs.getD j default = .slice (some ⟨g, 0, none⟩) (2 ^ (3 - j)) c ∧ ob ≠ some g ∧ g < w.heap.size ∧ ∀ i, i < 2 ^ (3 - j) → w.cell? ⟨g, i, none⟩ = some (.string (lev s j i))
theorem RowsOk.below {s : ByteArray} {w w' : World} {ob : Option Nat} {vs : List Value} {h : Nat} (hr : RowsOk s w ob vs h) (hb : Below w.heap.size w w') : RowsOk s w' ob vs h :=
  ⟨hr.1, fun j hj => by
    obtain ⟨g, c, e, h1, h2, h3⟩ := hr.2 j hj
    exact ⟨g, c, e, h1, Nat.lt_of_lt_of_le h2 hb.size, fun i hi => (hb.cell (p := ⟨g, i, none⟩) h2).trans (h3 i hi)⟩⟩
/-- One row more, behind an append to the list that lies in block ob. -/
theorem RowsOk.more {s : ByteArray} {w w' : World} {ob : Option Nat} {vs : List Value} {h g c : Nat} {v' : Value} (hr : RowsOk s w ob vs h) (hg : w.grownBy w' ob) (hlt : g < w.heap.size) (hne : ob ≠ some g)
    (hc : ∀ i, i < 2 ^ (3 - (h + 1)) → w.cell? ⟨g, i, none⟩ = some (.string (lev s (h + 1) i))) (hob : ∀ b, v'.ownBlock = some b → ob = some b ∨ w.heap.size ≤ b) : RowsOk s w' v'.ownBlock (vs ++ [.slice (some ⟨g, 0, none⟩) (2 ^ (3 - (h + 1))) c]) (h + 1) := by
  refine ⟨by simp [hr.1], fun j hj => ?_⟩
  by_cases e : j ≤ h
  · obtain ⟨gj, cj, e1, h1, h2, h3⟩ := hr.2 j e
    refine ⟨gj, cj, ?_, fun hh => ?_, Nat.lt_of_lt_of_le h2 hg.size, fun i hi => hg.cell (h3 i hi) (fun hh => h1 hh.symm)⟩
    · rw [← e1]
      have : j < vs.length := by rw [hr.1]; omega
      simp [List.getD, List.getElem?_append, this]
    · rcases hob gj hh with h4 | h4
      · exact h1 h4
      · omega
  · have ej : j = h + 1 := by omega
    subst ej
    refine ⟨g, c, ?_, fun hh => ?_, Nat.lt_of_lt_of_le hlt hg.size, fun i hi => hg.cell (hc i hi) (fun hh => hne hh.symm)⟩
    · have := hr.1
      simp [List.getD, this]
    · rcases hob g hh with h4 | h4
      · exact hne h4
      · omega

def lenV : Value → Nat
  | .slice _ n _ => n
  | _ => 0
theorem half (h : Nat) (hh : h < 3) : ∃ m, 2 ^ (3 - h) = 2 * m ∧ m = 2 ^ (3 - (h + 1)) ∧ 1 ≤ m ∧ m ≤ 4 := by
  have : h = 0 ∨ h = 1 ∨ h = 2 := by omega
  rcases this with rfl | rfl | rfl <;> exact ⟨_, by decide, rfl, by decide, by decide⟩
set_option maxHeartbeats 12800000 in
set_option maxRecDepth 100000 in
theorem specRows (s : ByteArray) (w : World) (h0 : 1 ≤ s.size) (h1 : s.size ≤ 8) :
    Calls Tryd.prog 102 #[.string s] w fun e w' => ∃ g cap vs, e = .returned (.slice (some ⟨g, 0, none⟩) 4 cap) ∧ g < w'.heap.size ∧ (∀ i, i < 4 → w'.cell? ⟨g, i, none⟩ = some (vs.getD i default)) ∧ RowsOk s w' (some g) vs 3 ∧ Below w.heap.size w w' := by
  obtain ⟨i0, hi, hzz⟩ := Option.map_eq_some_iff.1 infoStr
  simp only [Prod.mk.injEq] at hzz
  obtain ⟨hz0, hz1, hz2⟩ := hzz
  obtain ⟨i1, hj, hyy⟩ := Option.map_eq_some_iff.1 infoRow
  simp only [Prod.mk.injEq] at hyy
  obtain ⟨hy0, hy1, hy2⟩ := hyy
  go_enter Tryd.func102, Tryd.ntmps102
  go_wp2_with fail
  go_loopw [3, 4] (fun v i wr => ∃ k : Nat, k ≤ 8 ∧ i = .int .i64 k ∧ wr.ownsRow w.heap.size 9 1 v k (strV ((rowT s 0 8).take k)) ∧ Below w.heap.size w wr) (fun _ i _ => 8 - (intOf i).toNat)
  case atStart => exact ⟨0, Nat.zero_le _, rfl, World.ownsRow_nil _ _ _ _, by go_grown⟩
  case round =>
    obtain ⟨k, hk, rfl, hown, kb⟩ := hrel
    have kl := kb.size
    by_cases hlt : k < 8
    · have HS : Hid (strV ((rowT s 0 8).take (k + 1)) = strV ((rowT s 0 8).take k) ++ [.string (pubB (leafSeed s k))]) := by
        show _ = _
        rw [rowT_take s 0 8 k hlt]; exact strV_snoc _ _
      generalize strV ((rowT s 0 8).take k) = R at *
      have hzz := leafSeed_size s k
      go_wp2_with fail
      refine (specOf s k _ h1 (by omega)).mono ?_
      rintro e w1 ⟨rfl, hb1⟩
      have kb1 : Below w.heap.size w w1 := kb.trans (hb1.mono kl)
      have kl1 := kb1.size
      have hown1 : w1.ownsRow w.heap.size 9 1 u3 k R := hown.kept (row := none) ⟨hb1.os, hb1.tape, hb1.output, hb1.size, fun k hk _ => hb1.block k hk⟩ (by cases h : u3.ownBlock <;> simp)
      clear hb1 hown
      generalize leafSeed s k = q at *
      go_wp2_with fail
      refine (specL2Public q _ (by omega) (by omega)).mono ?_
      rintro e w2 ⟨rfl, hb2⟩
      have kb2 : Below w.heap.size w w2 := kb1.trans (hb2.mono kl1)
      have kl2 := kb2.size
      have hown2 : w2.ownsRow w.heap.size 9 1 u3 k R := hown1.kept (row := none) ⟨hb2.os, hb2.tape, hb2.output, hb2.size, fun k hk _ => hb2.block k hk⟩ (by cases h : u3.ownBlock <;> simp)
      clear hb2 hown1
      generalize pubB q = t at *
      go_wp2_with (first
        | (at_builtin; refine wpList_append_own _ rfl _ _ 25 rfl w.heap.size 9 i0 (.string ByteArray.empty) 1 16 Tryd.underlying25 hi hz0 hz1 hz2 rfl (by decide) _ _ _ rfl (hown2.alloc _) ⟨w2.heap.size, 0, none⟩ 1 1 [.string t] rfl rfl ?c1 ?c2 ?c3 ?c4 ?c5 ?_)
        | fail)
      case c1 =>
        intro j u hj
        match j, hj with
        | 0, hj => simp at hj; subst hj; simp [Addr.add]
      case c2 => intro u hu; simp at hu; subst hu; rfl
      case c3 => unfold maxLen; omega
      case c4 => omega
      case c5 => simp; omega
      intro v3 w3 hown3 hg3 _
      have kb3 : Below w.heap.size w w3 := (kb2.alloc kl2 _).grown hg3 (by simp; omega) (fun r hr => (hown2.lt r hr).1)
      clear hg3
      go_wp2
      exact ⟨⟨k + 1, by omega, by go_num, by rw [HS.out]; exact hown3, kb3⟩, by simp [intOf]; omega⟩
    · have hke : k = 8 := by omega
      subst hke
      rw [List.take_of_length_le (by rw [rowT_len]; omega)] at hown
      obtain ⟨g0, cap0, hv, ho⟩ := ownRow_of hown (by omega)
      subst hv
      have HO : Hid (∀ i, i < 8 → wr.cell? ⟨g0, i, none⟩ = some (.string (lev s 0 i))) := fun i hi => by
        rw [ho.2.2.1 i hi]
        show some ((strV (rowT s 0 8)).getD i default) = _
        rw [strV_at _ _ (by rw [rowT_len]; exact hi), rowT_at s 0 8 i hi]
      have hg0 := ho.2.1
      clear hown ho
      rw [show ((8 : Nat) : Int) = 8 from rfl]
      go_wp2_with fail
      go_loopw [3, 5, 6, 7] (fun row out nx ii wr2 => ∃ (h n g c : Nat) (vs : List Value), h ≤ 3 ∧ n = 2 ^ (3 - h) ∧ row = .slice (some ⟨g, 0, none⟩) n c ∧ wr2.ownsRow w.heap.size 25 1 out (h + 1) vs ∧ vs.getD h default = .slice (some ⟨g, 0, none⟩) n c ∧ RowsOk s wr2 out.ownBlock vs h ∧ Below w.heap.size w wr2) (fun row _ _ _ _ => lenV row)
      case atStart =>
        refine ⟨0, 8, g0, cap0, [.slice (some ⟨g0, 0, none⟩) 8 cap0], by omega, rfl, rfl, ?_, rfl, ⟨rfl, fun j hj => ?_⟩, by go_grown⟩
        · exact ⟨by simp, .inr ⟨wr.heap.size, 1, #[.slice (some ⟨g0, 0, none⟩) 8 cap0], rfl, kl, heap_alloc_new wr _, by omega, by unfold maxLen; omega, by simp, by simp⟩⟩
        · have ej : j = 0 := by omega
          subst ej
          refine ⟨g0, cap0, rfl, ?_, ?_, fun i hi => ?_⟩
          · simp [Value.ownBlock]; omega
          · simp; omega
          · have := HO.out i (by simpa using hi)
            rw [((Below.refl wr.heap.size wr).alloc (Nat.le_refl _) _).cell (p := ⟨g0, i, none⟩) hg0]
            exact this
      case round =>
        generalize wr = wr2 at *
        obtain ⟨h, n, g, c, vs, hh, hn, hrow, hout, hlast, hrows, kb2⟩ := hrel
        subst hrow
        clear HO
        have kl2 := kb2.size
        by_cases hlt3 : h < 3
        · obtain ⟨m, hm1, hm2, hm3, hm4⟩ := half h hlt3
          have hnm : n = 2 * m := by omega
          have HM2 : Hid (m = 2 ^ (3 - (h + 1))) := hm2
          clear hn hm1 hm2
          subst hnm
          obtain ⟨gr, cr, er, hne, hgr, hcell⟩ := hrows.2 h (Nat.le_refl _)
          rw [hlast] at er
          simp only [Value.slice.injEq, Option.some.injEq, Addr.mk.injEq, and_true] at er
          obtain ⟨eg, en, ec⟩ := er
          subst eg
          subst ec
          rw [← en] at hcell
          have HCL : Hid (∀ i, i < 2 * m → wr2.cell? ⟨g, i, none⟩ = some (.string (lev s h i))) := hcell
          have HRW : Hid (RowsOk s wr2 u5.ownBlock vs h) := hrows
          have HOUT : Hid (wr2.ownsRow w.heap.size 25 1 u5 (h + 1) vs) := hout
          clear hcell hrows hout hlast en hne
          have hgt : (1 : Int) < 2 * (m : Int) := by omega
          go_wp2_with fail
          go_loopw [6, 7] (fun nx ii wr3 => ∃ k I : Nat, k ≤ m ∧ I = 2 * k ∧ ii = .int .i64 (I : Int) ∧ wr3.ownsRow wr2.heap.size 9 1 nx k (strV ((rowT s (h + 1) m).take k)) ∧ Below wr2.heap.size wr2 wr3) (fun _ ii _ => 2 * m - (intOf ii).toNat)
          case atStart => exact ⟨0, 0, Nat.zero_le _, rfl, rfl, World.ownsRow_nil _ _ _ _, by go_grown⟩
          case round =>
            generalize wr = wr3 at *
            obtain ⟨k, I, hk, hI, hii, hown, kb3⟩ := hrel
            subst hii
            have HI : Hid (I = 2 * k) := hI
            have kl3 := kb3.size
            by_cases hlt : k < m
            · have HS : Hid (strV ((rowT s (h + 1) m).take (k + 1)) = strV ((rowT s (h + 1) m).take k) ++ [.string (pairB (lev s h (2 * k)) (lev s h (2 * k + 1)))]) := by
                show _ = _
                rw [rowT_take s (h + 1) m k hlt]; exact strV_snoc _ _
              generalize strV ((rowT s (h + 1) m).take k) = R at *
              have ca : wr3.cell? ⟨g, I, none⟩ = some (.string (lev s h (2 * k))) := by rw [← hI]; exact (kb3.cell (p := ⟨g, I, none⟩) hgr).trans (HCL.out _ (by omega))
              have cb : wr3.cell? ⟨g, I + 1, none⟩ = some (.string (lev s h (2 * k + 1))) := by rw [← hI]; exact (kb3.cell (p := ⟨g, I + 1, none⟩) hgr).trans (HCL.out _ (by omega))
              have za := lev_size s h (2 * k)
              have zb := lev_size s h (2 * k + 1)
              have HP := fun W => specPair (lev s h (2 * k)) (lev s h (2 * k + 1)) W za zb
              generalize pairB (lev s h (2 * k)) (lev s h (2 * k + 1)) = r at *
              generalize lev s h (2 * k) = xa at *
              generalize lev s h (2 * k + 1) = xb at *
              have hg3 : g < wr3.heap.size := by omega
              have hk2 : (I : Int) < 2 * (m : Int) := by omega
              have hk3 : (I : Int) + 1 < 2 * (m : Int) := by omega
              have hk0 : (0 : Int) ≤ (I : Int) := by omega
              have hk1 : (0 : Int) ≤ (I : Int) + 1 := by omega
              have hI9 : I ≤ 8 := by omega
              have hw1 : IntKind.i64.wrap ((I : Int) + 1) = (I : Int) + 1 := by rw [IntKind.wrap_i64]; omega
              clear hI
              have hne6 : some g ≠ u6.ownBlock := by
                intro e
                have := (hown.lt g e.symm).1
                omega
              go_upto_region 12 with fail
              go_region_held3 (fun w' => w'.cell? ⟨g, I, none⟩ = some (.string xa) ∧ w'.cell? ⟨g, I + 1, none⟩ = some (.string xb)) (first | go_keep | trivial)
                (first
                  | (go_at_call 120; refine (HP _).mono ?_; rintro e w4 ⟨rfl, hb4⟩; have hp4 := kept hb4 g (by go_size); have q4a : w4.cell? ⟨g, I, none⟩ = some (.string xa) := (hp4 I).trans (by simpa using ca); have q4b : w4.cell? ⟨g, I + 1, none⟩ = some (.string xb) := (hp4 (I + 1)).trans (by simpa using cb); have hz4 := hb4.size; (try simp only [World.size_drew] at hz4); have hg4 : g < w4.heap.size := (by omega); have kb4 : Below wr2.heap.size wr2 w4 := (by exact Below.trans (by go_grown) (hb4.mono (by go_size))); have hown4 : w4.ownsRow wr2.heap.size 9 1 u6 k R := (hown.drew.kept (row := none) ⟨hb4.os, hb4.tape, hb4.output, hb4.size, fun k hk _ => hb4.block k hk⟩ (by cases h : u6.ownBlock <;> simp)); clear hb4)
                  | (refine step_append_lies _ (by rfl) _ _ _ (by rfl) wr2.heap.size 9 i0 _ 1 16 Tryd.underlying25 hi hz0 hz1 hz2 rfl (by omega) u6 k R (by rfl) ((hown4.alloc _).drew) ⟨w4.heap.size, 0, none⟩ 1 1 [.string r] (by rfl) (by rfl) (World.news_of_block (cs := #[.string r]) (t := 9) (fr := (0, 0)) (heap_alloc_new w4 _)) (by simp [Value.oneCell']) (by omega) (by unfold maxLen; omega) (by omega) (by simp; have := kb4.size; omega) (w4.heap.size + 1) (by simp) ?_; intro g5 cap5 w5 hown5 hgrow5 hat5 hlt5; have q5a : w5.cell? ⟨g, I, none⟩ = some (.string xa) := hgrow5.cell ((((Below.refl w4.heap.size w4).alloc (Nat.le_refl _) _).cell (p := ⟨g, I, none⟩) hg4).trans q4a) hne6; have q5b : w5.cell? ⟨g, I + 1, none⟩ = some (.string xb) := hgrow5.cell ((((Below.refl w4.heap.size w4).alloc (Nat.le_refl _) _).cell (p := ⟨g, I + 1, none⟩) hg4).trans q4b) hne6))
              all_goals
                have kb5 : Below wr2.heap.size wr2 w5 := (kb4.alloc kb4.size _).grown hgrow5 (by simp; have := kb4.size; omega) (fun r hr => (hown.lt r hr).1)
                clear hgrow5
                go_wp2_with fail
                exact ⟨⟨k + 1, I + 2, by omega, by have := HI.out; omega, by go_num, by rw [HS.out]; exact hown5, kb5⟩, by simp [intOf]; omega⟩
            · have hke : k = m := by omega
              subst hke
              have hkI : ¬ (I : Int) < 2 * (k : Int) := by omega
              rw [List.take_of_length_le (by rw [rowT_len]; omega)] at hown
              obtain ⟨g6, cap6, hv6, ho6⟩ := ownRow_of hown (by omega)
              subst hv6
              have hc6 : ∀ i, i < 2 ^ (3 - (h + 1)) → wr3.cell? ⟨g6, i, none⟩ = some (.string (lev s (h + 1) i)) := fun i hi => by
                rw [← HM2.out] at hi
                rw [ho6.2.2.1 i hi]
                show some ((strV (rowT s (h + 1) k)).getD i default) = _
                rw [strV_at _ _ (by rw [rowT_len]; exact hi), rowT_at s (h + 1) k i hi]
              have HC6 : Hid (∀ i, i < 2 ^ (3 - (h + 1)) → wr3.cell? ⟨g6, i, none⟩ = some (.string (lev s (h + 1) i))) := hc6
              have hg6 : g6 < wr3.heap.size := ho6.2.1
              have hg6b : wr2.heap.size ≤ g6 := ho6.1
              have HOUT3 : Hid (wr3.ownsRow w.heap.size 25 1 u5 (h + 1) vs) := HOUT.out.kept (row := none) ⟨kb3.os, kb3.tape, kb3.output, kb3.size, fun k hk _ => kb3.block k hk⟩ (by cases h : u5.ownBlock <;> simp)
              have HRW3 : Hid (RowsOk s wr3 u5.ownBlock vs h) := HRW.out.below kb3
              have hob : u5.ownBlock ≠ some g6 := by
                intro e
                have := (HOUT.out.lt g6 e).2
                omega
              have kbw3 : Below w.heap.size w wr3 := kb2.trans (kb3.mono kl2)
              clear hown ho6 hc6 HRW HOUT HCL hI
              go_wp2_with (first
                | (at_builtin; refine wpList_append_lies _ rfl _ _ _ rfl w.heap.size 25 i1 _ 1 24 Tryd.underlying115 hj hy0 hy1 hy2 rfl (by omega) _ (h + 1) _ rfl (HOUT3.out.alloc _) ⟨wr3.heap.size, 0, none⟩ 1 1 [.slice (some ⟨g6, 0, none⟩) k cap6] rfl rfl (World.news_of_block (cs := #[.slice (some ⟨g6, 0, none⟩) k cap6]) (t := 25) (fr := (0, 0)) (heap_alloc_new wr3 _)) (by simp [Value.oneCell']) (by omega) (by unfold maxLen; omega) (by omega) (by simp; omega) (wr3.heap.size + 1) (by simp) ?_)
                | fail)
              intro g7 cap7 w7 hown7 hgrow7 hat7 hlt7
              have kb7 : Below w.heap.size w w7 := (kbw3.alloc kbw3.size _).grown hgrow7 (by simp; omega) (fun r hr => (HOUT3.out.lt r hr).1)
              have hal := (Below.refl wr3.heap.size wr3).alloc (Nat.le_refl _) (.cells #[.slice (some ⟨g6, 0, none⟩) k cap6] 25)
              have HR7 : Hid (RowsOk s w7 (some g7) (vs ++ [.slice (some ⟨g6, 0, none⟩) (2 ^ (3 - (h + 1))) cap6]) (h + 1)) := by
                refine (HRW3.out.below hal).more (v' := .slice (some ⟨g7, 0, none⟩) 1 1) (c := cap6) hgrow7 (by simp; omega) hob (fun i hi => (hal.cell (p := ⟨g6, i, none⟩) hg6).trans (HC6.out i hi)) (fun b hb => ?_)
                simp [Value.ownBlock] at hb
                subst hb
                rcases hat7 with h7 | h7
                · exact .inl h7
                · right; simp; omega
              have HL7 : Hid ((vs ++ [Value.slice (some ⟨g6, 0, none⟩) k cap6]).getD (h + 1) default = .slice (some ⟨g6, 0, none⟩) k cap6) := by
                have := HRW3.out.1
                show _ = _
                simp [List.getD, this]
              clear hgrow7 hal
              go_wp2_with fail
              exact ⟨⟨h + 1, k, g6, cap6, _, by omega, HM2.out, rfl, hown7, HL7.out, (by have h7 := HR7.out; rw [← HM2.out] at h7; exact h7), kb7⟩, by simp [lenV]; omega⟩
        · have hh3 : h = 3 := by omega
          subst hh3
          have hn1 : n = 1 := hn
          subst hn1
          clear hn hlast
          have HRW : Hid (RowsOk s wr2 u5.ownBlock vs 3) := hrows
          obtain ⟨g9, cap9, hv9, ho9⟩ := ownRow_of hout (by omega)
          subst hv9
          have HO9 : Hid (OwnRow w.heap.size wr2 g9 (3 + 1) (fun i => vs.getD i default)) := ho9
          clear hout hrows ho9
          go_wp2
          go_returns
          exact ⟨g9, cap9, vs, rfl, HO9.out.2.1, fun i hi => HO9.out.2.2.1 i hi, HRW.out, kb2⟩
end Go.Proofs.YtemkkofjakpjiaaDoor
