/- The contract of what is drawn for IsBelow: two lists of numbers. Condition: the bytes lie in memory. -/
import Derived.Test.YtphbcndboegnfaaDoorDrawP
import Derived.Deep.RegionHeld3
import Derived.Deep.DeepCutAuto
import Derived.Deep.DrawnRows
namespace Go.Proofs.YtphbcndboegnfaaDoor
open Go.ChangeShapes Go.WideShapes Go.ChangeAt Go.RowKit Go.Deep
set_option linter.unusedVariables false
attribute [local go_sem ↓] Go.wp_at_zero Go.wp_at_succ

theorem leastIn (a b : Int) (w : World) : Calls Tryd.prog 71 #[.int .i64 a, .int .i64 b] w fun e w' => ∃ x : Int, e = .returned (.int .i64 x) ∧ w' = w := by
  by_cases h : a < b
  · go_enter Tryd.func71, Tryd.ntmps71
    go_wp2
    go_returns
    first | exact ⟨a, rfl, rfl⟩ | exact ⟨⟨a, rfl⟩, rfl⟩
  · go_enter Tryd.func71, Tryd.ntmps71
    go_wp2
    go_returns
    first | exact ⟨b, rfl, rfl⟩ | exact ⟨⟨b, rfl⟩, rfl⟩
/-- Block g, from base on, holds eleven numbers that may be written. -/
def Own11 (base : Nat) (w : World) (g : Nat) : Prop := ∃ f : Nat → Int, OwnRow base w g 11 (fun i => .int .i64 (f i))
theorem Own11.below {base : Nat} {w w' : World} {g : Nat} (h : Own11 base w g) (hb : Below w.heap.size w w') : Own11 base w' g := by
  obtain ⟨f, hf⟩ := h
  exact ⟨f, hf.below hb⟩
theorem Own11.otherBy {base : Nat} {w w' : World} {g r : Nat} (h : Own11 base w g) (hg : w.grownBy w' (some r)) (hne : r ≠ g) : Own11 base w' g := by
  obtain ⟨f, hf⟩ := h
  exact ⟨f, hf.otherBy hg hne⟩
theorem Own11.set {base : Nat} {w : World} {g k : Nat} (h : Own11 base w g) (hk : k < 11) (x : Int) : Own11 base (w.setCell ⟨g, k, none⟩ (.int .i64 x)) g := by
  obtain ⟨f, hf⟩ := h
  exact ⟨fun i => if i = k then x else f i, (hf.set hk (.int .i64 x)).congr (fun i _ => by by_cases e : i = k <;> simp [e])⟩
theorem Own11.setOther {base : Nat} {w : World} {g r k : Nat} (h : Own11 base w g) (hne : r ≠ g) (u : Value) : Own11 base (w.setCell ⟨r, k, none⟩ u) g := by
  obtain ⟨f, hf⟩ := h
  have hk := Below.heap_setCell w ⟨r, k, none⟩ u g (fun e => hne e.symm)
  exact ⟨f, hf.1, by simpa using hf.2.1, fun i hi => (World.cell?_of_block (a := ⟨g, i, none⟩) hk).trans (hf.2.2.1 i hi), fun i hi => (World.frozen?_of_block (a := ⟨g, i, none⟩) hk).trans (hf.2.2.2 i hi)⟩
theorem Own11.ints {base : Nat} {w : World} {g : Nat} (h : Own11 base w g) (cap : Nat) : ∃ zs : List Int, IntsAt w (.slice (some ⟨g, 0, none⟩) 11 cap) zs ∧ zs.length ≤ 11 := by
  obtain ⟨f, hf⟩ := h
  refine ⟨(List.range 11).map f, .inr ⟨g, 0, cap, by simp, hf.2.1, fun i hi => ?_⟩, by simp⟩
  have hi' : i < 11 := by simpa using hi
  rw [Nat.zero_add, hf.2.2.1 i hi', getD_range f _ 11 i hi']
theorem Own11.at {base : Nat} {w : World} {g k : Nat} (h : Own11 base w g) (hk : k < 11) : ∃ x : Int, w.cell? ⟨g, k, none⟩ = some (.int .i64 x) ∧ w.frozen? ⟨g, k, none⟩ = false := by
  obtain ⟨f, hf⟩ := h
  exact ⟨f k, hf.2.2.1 k hk, hf.2.2.2 k hk⟩
theorem drawnDrew {a b : World} {g : Nat} {v : Value} {n m : Nat} (h : Drawn a b g v n m) : Drawn a b.drew g v n m := ⟨h.1, h.2.1, gb_drew h.2.2⟩
def edges : List Int := [-1, 15, 16]
theorem edge_cells (w : World) (t : TypeId) : ∀ i, i < edges.length → (w.alloc (.cells #[.int .i64 (-1), .int .i64 15, .int .i64 16] t)).cell? ⟨w.heap.size, i, none⟩ = some (.int .i64 (edges.getD i 0)) := by
  intro i hi
  have h3 : i < 3 := hi
  match i, h3 with
  | 0, _ => simp [edges]
  | 1, _ => simp [edges]
  | 2, _ => simp [edges]

set_option maxHeartbeats 12800000 in
set_option maxRecDepth 100000 in
theorem drawBelow (v : Value) (n : Nat) (w : World) (h : CodeAt w v n) :
    Calls Tryd.prog 35 #[v] w fun e w' => ∃ (v1 v2 : Value) (zs ys : List Int), e = .returned (.tuple #[v1, v2]) ∧ IntsAt w' v1 zs ∧ IntsAt w' v2 ys ∧ zs.length ≤ 11 ∧ ys.length ≤ 11 ∧ Below w.heap.size w w' := by
  obtain ⟨ad, c, rfl⟩ : ∃ ad c, v = .slice ad n c := by
    obtain ⟨ad, c, e, _⟩ := h
    exact ⟨ad, c, e⟩
  have hbel := (Below.refl w.heap.size w).alloc (Nat.le_refl _) (.cells #[.slice ad n c, .int .i64 0, .int .u64 0] 63)
  have HM1 := messIn w.heap.size (.slice ad n c) n 0 _ (cur_new w (.slice ad n c) 63) (h.bytes hbel (Nat.le_refl _)) (by omega)
  have HB0 := hide (h.bytes hbel (Nat.le_refl _))
  have HBE := hide hbel
  clear h hbel
  go_enter Tryd.func35, Tryd.ntmps35
  go_wp2_with fail
  refine HM1.mono ?_
  rintro e w1 ⟨s, rfl, hs, hd⟩
  clear HM1
  have HD1 := hide hd
  have hg1 : w.heap.size < w1.heap.size := hd.1.lt
  clear hd
  have hsm : s.size ≤ maxLen := by unfold maxLen; omega
  by_cases hsa : s.size ≤ 200
  · go_wp2_with fail
    refine (specDigitsYes s _ hsa).mono ?_
    rintro e w2 ⟨ga, ca, rfl, ho2, hb2⟩
    have HD2 := hide ((unhide HD1).below hb2)
    have HA2 : Hid (Own11 w1.heap.size w2 ga) := ⟨_, ho2⟩
    have hnea : w.heap.size ≠ ga := by have := ho2.1; omega
    have hgea : w.heap.size < ga := by have := ho2.1; omega
    have hga2 : ga < w2.heap.size := ho2.2.1
    clear ho2 hb2 HD1
    go_wp2_with fail
    refine (messIn w.heap.size (.slice ad n c) n 4 _ (unhide HD2).1 (unhide HD2).2.1 (by omega)).mono ?_
    rintro e w3 ⟨t, rfl, htt, hd3⟩
    have HD3 := hide ((unhide HD2).trans hd3)
    have hg3 : w2.heap.size ≤ w3.heap.size := hd3.2.2.size
    have HA3 := hide ((unhide HA2).otherBy hd3.2.2 hnea)
    clear HA2
    clear hd3 HD2
    have htm : t.size ≤ maxLen := by unfold maxLen; omega
    by_cases hta : t.size ≤ 200
    · go_wp2_with fail
      refine (specDigitsYes t _ hta).mono ?_
      rintro e w4 ⟨gb, cb, rfl, ho4, hb4⟩
      have HD4 := hide ((unhide HD3).below hb4)
      have HA4 := hide ((unhide HA3).below hb4)
      have HB4 : Hid (Own11 w3.heap.size w4 gb) := ⟨_, ho4⟩
      have hneb : w.heap.size ≠ gb := by have := ho4.1; omega
      have hneab : ga ≠ gb := by have := ho4.1; omega
      clear ho4 hb4 HD3 HA3
      go_wp2_with fail
      refine (oneIn w.heap.size (.slice ad n c) n 8 3 _ (unhide HD4).1 (unhide HD4).2.1 (by omega) (by omega) (by omega)).mono ?_
      rintro e w5 ⟨o5, rfl, hd5⟩
      have HD5 := hide ((unhide HD4).trans hd5)
      have HA5 := hide ((unhide HA4).otherBy hd5.2.2 hnea)
      have HB5 := hide ((unhide HB4).otherBy hd5.2.2 hneb)
      clear hd5 HD4 HA4 HB4
      cases o5
      · have HDw := hide ((unhide HD5).mono (m' := 12) (by omega))
        have HAw := HA5
        have HBw := HB5
        clear HD5 HA5 HB5
        go_wp2_with fail
        refine (oneIn w.heap.size (.slice ad n c) n 12 12 _ (unhide HDw).1 (unhide HDw).2.1 (by omega) (by omega) (by omega)).mono ?_
        rintro e w7 ⟨o7, rfl, hd7⟩
        have HD7 := hide ((unhide HDw).trans hd7)
        have HA7 := hide ((unhide HAw).otherBy hd7.2.2 hnea)
        have HBo := hide ((unhide HBw).otherBy hd7.2.2 hneb)
        clear hd7 HDw HAw
        cases o7
        · have hbb : Below w.heap.size w w7 := (unhide HBE).trans (gb_below (unhide HD7).2.2 (Nat.le_refl _) (by simp))
          obtain ⟨zs, hz1, hz2⟩ := (unhide HA7).ints ca
          obtain ⟨ys, hy1, hy2⟩ := (unhide HBo).ints cb
          have HZ := hide hz1
          clear hz1
          have HY := hide hy1
          clear hy1
          go_wp2
          go_returns
          exact ⟨_, _, zs, ys, rfl, unhide HZ, unhide HY, hz2, hy2, hbb⟩
        · have hbel8 : Below w7.heap.size w7 (w7.alloc (.cells #[.int .i64 (-1), .int .i64 15, .int .i64 16] 3)) := (Below.refl _ w7).alloc (Nat.le_refl _) _
          have hd8 := (unhide HD7).below hbel8
          have hg7 : w.heap.size < w7.heap.size := (unhide HD7).1.lt
          have HE := amongIn w.heap.size (.slice ad n c) n 14 edges w7.heap.size 3 _ (hd8.1.mono (by omega)) hd8.2.1 (by omega) (by decide) (by decide) (by omega) (edge_cells w7 3)
          have HD8 := hide hd8
          have HBL8 := hide hbel8
          clear hd8 hbel8
          go_wp2_with fail
          refine HE.mono ?_
          rintro e w9 ⟨x9, rfl, _, hd9⟩
          clear HE
          have hbel8 := unhide HBL8
          have hd10 := (unhide HD8).trans hd9
          have HA9 := hide (((unhide HA7).below hbel8).otherBy hd9.2.2 hnea)
          have HB9 := hide (((unhide HBo).below hbel8).otherBy hd9.2.2 hneb)
          have hbb : Below w.heap.size w w9 := (unhide HBE).trans (gb_below hd10.2.2 (Nat.le_refl _) (by simp))
          have hga : ga < w9.heap.size := by
            obtain ⟨f, hf⟩ := unhide HA9
            exact hf.2.1
          clear hd9 hd10 HD8 HBL8 hbel8 HD7 HA7
          obtain ⟨x0, hx0, hf0⟩ := (unhide HA9).at (k := 0) (by omega)
          have HA10 := hide ((unhide HA9).set (k := 0) (by omega) x9)
          have HB10 := hide ((unhide HB9).setOther (r := ga) (k := 0) hneab (.int .i64 x9))
          obtain ⟨zs, hz1, hz2⟩ := (unhide HA10).ints ca
          obtain ⟨ys, hy1, hy2⟩ := (unhide HB10).ints cb
          have HY := hide hy1
          clear hy1
          have HZ := hide hz1
          clear hz1 HA9 HA10
          have hbb2 : Below w.heap.size w (w9.setCell ⟨ga, 0, none⟩ (.int .i64 x9)) := ⟨hbb.os, hbb.tape, hbb.output, by simpa using hbb.size, fun k hk => (Below.heap_setCell w9 ⟨ga, 0, none⟩ (.int .i64 x9) k (by simp only []; omega)).trans (hbb.block k hk)⟩
          go_wp2
          go_returns
          exact ⟨_, _, zs, ys, rfl, unhide HZ, unhide HY, hz2, hy2, hbb2⟩
      · go_wp2_with fail
        go_loopw [9, 41] (fun x i wr => ∃ k : Nat, k ≤ 11 ∧ i = .int .i64 k ∧ Own11 w1.heap.size wr ga ∧ Own11 w3.heap.size wr gb ∧ Drawn (w.alloc (.cells #[.slice ad n c, .int .i64 0, .int .u64 0] 63)) wr w.heap.size (.slice ad n c) n 10) (fun _ i _ => 11 - (intOf i).toNat)
        case atStart => exact ⟨0, Nat.zero_le _, rfl, unhide HA5, unhide HB5, unhide HD5⟩
        case round =>
          obtain ⟨k, hk, rfl, ha, hb, hd⟩ := hrel
          by_cases hlt : k < 11
          · have hki : (k : Int) < 11 := by omega
            have hk0 : (0 : Int) ≤ (k : Int) := by omega
            obtain ⟨xa, hca, hfa⟩ := ha.at hlt
            obtain ⟨xb, hcb, hfb⟩ := hb.at hlt
            have HAr := hide ha
            have HBr := hide hb
            have HDr := hide hd
            clear ha hb hd
            go_upto_region 8 with fail
            go_region_with ((go_at_call 71; refine (leastIn xa xb _).mono ?_; rintro e w30 ⟨x30, rfl, hw30⟩; subst hw30))
            all_goals go_wp2_with fail
            all_goals exact ⟨⟨k + 1, by omega, by go_num, (unhide HAr).set hlt x30, (unhide HBr).setOther hneab _, drawnDrew ((unhide HDr).set HB0.out ⟨ga, k, none⟩ (fun e => hnea e.symm) (by simp; omega) _)⟩, by simp [intOf]; omega⟩
          · have hki : ¬ (k : Int) < 11 := by omega
            have HDw := hide (hd.mono (m' := 12) (by omega))
            have HAw := hide ha
            have HBw := hide hb
            clear ha hb hd HA5 HB5 HD5
            go_wp2_with fail
            refine (oneIn w.heap.size (.slice ad n c) n 12 12 _ (unhide HDw).1 (unhide HDw).2.1 (by omega) (by omega) (by omega)).mono ?_
            rintro e w7 ⟨o7, rfl, hd7⟩
            have HD7 := hide ((unhide HDw).trans hd7)
            have HA7 := hide ((unhide HAw).otherBy hd7.2.2 hnea)
            have HBo := hide ((unhide HBw).otherBy hd7.2.2 hneb)
            clear hd7 HDw HAw
            cases o7
            · have hbb : Below w.heap.size w w7 := (unhide HBE).trans (gb_below (unhide HD7).2.2 (Nat.le_refl _) (by simp))
              obtain ⟨zs, hz1, hz2⟩ := (unhide HA7).ints ca
              obtain ⟨ys, hy1, hy2⟩ := (unhide HBo).ints cb
              have HZ := hide hz1
              clear hz1
              have HY := hide hy1
              clear hy1
              go_wp2
              go_returns
              exact ⟨_, _, zs, ys, rfl, unhide HZ, unhide HY, hz2, hy2, hbb⟩
            · have hbel8 : Below w7.heap.size w7 (w7.alloc (.cells #[.int .i64 (-1), .int .i64 15, .int .i64 16] 3)) := (Below.refl _ w7).alloc (Nat.le_refl _) _
              have hd8 := (unhide HD7).below hbel8
              have hg7 : w.heap.size < w7.heap.size := (unhide HD7).1.lt
              have HE := amongIn w.heap.size (.slice ad n c) n 14 edges w7.heap.size 3 _ (hd8.1.mono (by omega)) hd8.2.1 (by omega) (by decide) (by decide) (by omega) (edge_cells w7 3)
              have HD8 := hide hd8
              have HBL8 := hide hbel8
              clear hd8 hbel8
              go_wp2_with fail
              refine HE.mono ?_
              rintro e w9 ⟨x9, rfl, _, hd9⟩
              clear HE
              have hbel8 := unhide HBL8
              have hd10 := (unhide HD8).trans hd9
              have HA9 := hide (((unhide HA7).below hbel8).otherBy hd9.2.2 hnea)
              have HB9 := hide (((unhide HBo).below hbel8).otherBy hd9.2.2 hneb)
              have hbb : Below w.heap.size w w9 := (unhide HBE).trans (gb_below hd10.2.2 (Nat.le_refl _) (by simp))
              have hga : ga < w9.heap.size := by
                obtain ⟨f, hf⟩ := unhide HA9
                exact hf.2.1
              clear hd9 hd10 HD8 HBL8 hbel8 HD7 HA7
              obtain ⟨x0, hx0, hf0⟩ := (unhide HA9).at (k := 0) (by omega)
              have HA10 := hide ((unhide HA9).set (k := 0) (by omega) x9)
              have HB10 := hide ((unhide HB9).setOther (r := ga) (k := 0) hneab (.int .i64 x9))
              obtain ⟨zs, hz1, hz2⟩ := (unhide HA10).ints ca
              obtain ⟨ys, hy1, hy2⟩ := (unhide HB10).ints cb
              have HY := hide hy1
              clear hy1
              have HZ := hide hz1
              clear hz1 HA9 HA10
              have hbb2 : Below w.heap.size w (w9.setCell ⟨ga, 0, none⟩ (.int .i64 x9)) := ⟨hbb.os, hbb.tape, hbb.output, by simpa using hbb.size, fun k hk => (Below.heap_setCell w9 ⟨ga, 0, none⟩ (.int .i64 x9) k (by simp only []; omega)).trans (hbb.block k hk)⟩
              go_wp2
              go_returns
              exact ⟨_, _, zs, ys, rfl, unhide HZ, unhide HY, hz2, hy2, hbb2⟩
    · go_wp2_with fail
      refine (specDigitsNo t _ htm (by omega)).mono ?_
      rintro e w4 ⟨rfl, hb4⟩
      have HDw := hide (((unhide HD3).below hb4).mono (m' := 12) (by omega))
      have HAw := hide ((unhide HA3).below hb4)
      clear hb4 HD3 HA3
      go_wp2_with fail
      refine (oneIn w.heap.size (.slice ad n c) n 12 12 _ (unhide HDw).1 (unhide HDw).2.1 (by omega) (by omega) (by omega)).mono ?_
      rintro e w7 ⟨o7, rfl, hd7⟩
      have HD7 := hide ((unhide HDw).trans hd7)
      have HA7 := hide ((unhide HAw).otherBy hd7.2.2 hnea)
      clear hd7 HDw HAw
      cases o7
      · have hbb : Below w.heap.size w w7 := (unhide HBE).trans (gb_below (unhide HD7).2.2 (Nat.le_refl _) (by simp))
        obtain ⟨zs, hz1, hz2⟩ := (unhide HA7).ints ca
        have HZ := hide hz1
        clear hz1
        go_wp2
        go_returns
        exact ⟨_, _, zs, [], rfl, unhide HZ, .inl ⟨_, _, rfl, rfl⟩, hz2, by simp, hbb⟩
      · have hbel8 : Below w7.heap.size w7 (w7.alloc (.cells #[.int .i64 (-1), .int .i64 15, .int .i64 16] 3)) := (Below.refl _ w7).alloc (Nat.le_refl _) _
        have hd8 := (unhide HD7).below hbel8
        have hg7 : w.heap.size < w7.heap.size := (unhide HD7).1.lt
        have HE := amongIn w.heap.size (.slice ad n c) n 14 edges w7.heap.size 3 _ (hd8.1.mono (by omega)) hd8.2.1 (by omega) (by decide) (by decide) (by omega) (edge_cells w7 3)
        have HD8 := hide hd8
        have HBL8 := hide hbel8
        clear hd8 hbel8
        go_wp2_with fail
        refine HE.mono ?_
        rintro e w9 ⟨x9, rfl, _, hd9⟩
        clear HE
        have hbel8 := unhide HBL8
        have hd10 := (unhide HD8).trans hd9
        have HA9 := hide (((unhide HA7).below hbel8).otherBy hd9.2.2 hnea)
        have hbb : Below w.heap.size w w9 := (unhide HBE).trans (gb_below hd10.2.2 (Nat.le_refl _) (by simp))
        have hga : ga < w9.heap.size := by
          obtain ⟨f, hf⟩ := unhide HA9
          exact hf.2.1
        clear hd9 hd10 HD8 HBL8 hbel8 HD7 HA7
        obtain ⟨x0, hx0, hf0⟩ := (unhide HA9).at (k := 0) (by omega)
        have HA10 := hide ((unhide HA9).set (k := 0) (by omega) x9)
        obtain ⟨zs, hz1, hz2⟩ := (unhide HA10).ints ca
        have HZ := hide hz1
        clear hz1 HA9 HA10
        have hbb2 : Below w.heap.size w (w9.setCell ⟨ga, 0, none⟩ (.int .i64 x9)) := ⟨hbb.os, hbb.tape, hbb.output, by simpa using hbb.size, fun k hk => (Below.heap_setCell w9 ⟨ga, 0, none⟩ (.int .i64 x9) k (by simp only []; omega)).trans (hbb.block k hk)⟩
        go_wp2
        go_returns
        exact ⟨_, _, zs, [], rfl, unhide HZ, .inl ⟨_, _, rfl, rfl⟩, hz2, by simp, hbb2⟩
  · go_wp2_with fail
    refine (specDigitsNo s _ hsm (by omega)).mono ?_
    rintro e w2 ⟨rfl, hb2⟩
    have HD2 := hide ((unhide HD1).below hb2)
    clear hb2 HD1
    go_wp2_with fail
    refine (messIn w.heap.size (.slice ad n c) n 4 _ (unhide HD2).1 (unhide HD2).2.1 (by omega)).mono ?_
    rintro e w3 ⟨t, rfl, htt, hd3⟩
    have HD3 := hide ((unhide HD2).trans hd3)
    have hg3 : w2.heap.size ≤ w3.heap.size := hd3.2.2.size
    clear hd3 HD2
    have htm : t.size ≤ maxLen := by unfold maxLen; omega
    by_cases hta : t.size ≤ 200
    · go_wp2_with fail
      refine (specDigitsYes t _ hta).mono ?_
      rintro e w4 ⟨gb, cb, rfl, ho4, hb4⟩
      have hd4 := (unhide HD3).below hb4
      have hbb : Below w.heap.size w w4 := (unhide HBE).trans (gb_below hd4.2.2 (Nat.le_refl _) (by simp))
      have HB4 : Hid (Own11 w3.heap.size w4 gb) := ⟨_, ho4⟩
      obtain ⟨ys, hy1, hy2⟩ := (unhide HB4).ints cb
      have HY := hide hy1
      clear ho4 hb4 HD3 hd4 hy1 HB4
      go_wp2
      go_returns
      exact ⟨_, _, [], ys, rfl, .inl ⟨_, _, rfl, rfl⟩, unhide HY, by simp, hy2, hbb⟩
    · go_wp2_with fail
      refine (specDigitsNo t _ htm (by omega)).mono ?_
      rintro e w4 ⟨rfl, hb4⟩
      have hd4 := (unhide HD3).below hb4
      have hbb : Below w.heap.size w w4 := (unhide HBE).trans (gb_below hd4.2.2 (Nat.le_refl _) (by simp))
      clear hb4 HD3 hd4
      go_wp2
      go_returns
      exact ⟨_, _, [], [], rfl, .inl ⟨_, _, rfl, rfl⟩, .inl ⟨_, _, rfl, rfl⟩, by simp, by simp, hbb⟩
end Go.Proofs.YtphbcndboegnfaaDoor
