/- The contract of what is drawn for CheckSeal: a top, a text, a seal. Condition: the bytes lie in memory. -/
import Derived.Test.YtemkkofjakpjiaaDoorDrawS
import Derived.RegionTactic
namespace Go.Proofs.YtemkkofjakpjiaaDoor
open Go.ChangeShapes Go.WideShapes Go.ChangeAt Go.RowKit Go.Deep
set_option linter.unusedVariables false

theorem specTopAny (s : ByteArray) (hm : s.size ≤ maxLen) : ∃ (F : ByteArray) (o : Bool), F.size ≤ 4 ∧ ∀ W, Calls Tryd.prog 50 #[.string s] W fun e w' => e = .returned (.tuple #[.string F, .bool o]) ∧ Below W.heap.size W w' := by
  by_cases h : 1 ≤ s.size ∧ s.size ≤ 8
  · exact ⟨_, _, Nat.le_of_eq (lev_size s 3 0), fun W => specTopYes s W h.1 h.2⟩
  · exact ⟨_, _, by simp, fun W => specTopNo s W hm h⟩
/-- One answer for a seal's rows, drawn or not: two lists of texts. -/
theorem OwnRow.toStrs11 {base : Nat} {w : World} {g : Nat} {ss : List ByteArray} (h : OwnRow base w g 11 (fun i => .string (ss.getD i ByteArray.empty))) (cap : Nat) : ∃ L, StrsAt w (.slice (some ⟨g, 0, none⟩) 11 cap) L ∧ L.length ≤ 11 :=
  ⟨(List.range 11).map fun i => ss.getD i ByteArray.empty, .inr ⟨g, 0, cap, by simp, h.2.1, fun i hi => by
    have hi' : i < 11 := by simpa using hi
    rw [Nat.zero_add, h.2.2.1 i hi', getD_range _ _ 11 i hi']⟩, by simp⟩

theorem sealEnd {w W : World} {b4 b5 g4 g5 : Nat} {f4 f5 : Nat → ByteArray} (c4 c5 : Nat) (k a b : Value) (h4 : OwnRow b4 W g4 11 (fun i => .string (f4 i))) (h5 : OwnRow b5 W g5 3 (fun i => .string (f5 i))) (n4 : w.heap.size ≠ g4) (n5 : w.heap.size ≠ g5) (hB : Below w.heap.size w W) :
    ∃ ss ws, StrsAt (((W.setCell ⟨w.heap.size, 0, none⟩ k).setCell ⟨w.heap.size, 1, none⟩ a).setCell ⟨w.heap.size, 2, none⟩ b).drew (.slice (some ⟨g4, 0, none⟩) 11 c4) ss ∧ StrsAt (((W.setCell ⟨w.heap.size, 0, none⟩ k).setCell ⟨w.heap.size, 1, none⟩ a).setCell ⟨w.heap.size, 2, none⟩ b).drew (.slice (some ⟨g5, 0, none⟩) 3 c5) ws ∧ ss.length ≤ 11 ∧ ws.length ≤ 3 ∧
      Below w.heap.size w (((W.setCell ⟨w.heap.size, 0, none⟩ k).setCell ⟨w.heap.size, 1, none⟩ a).setCell ⟨w.heap.size, 2, none⟩ b).drew := by
  have q4 := ((((h4.setOff (b := w.heap.size) (o := 0) (v := k) n4).setOff (b := w.heap.size) (o := 1) (v := a) n4).setOff (b := w.heap.size) (o := 2) (v := b) n4).below (Below.drew (Below.refl _ _)))
  have q5 := ((((h5.setOff (b := w.heap.size) (o := 0) (v := k) n5).setOff (b := w.heap.size) (o := 1) (v := a) n5).setOff (b := w.heap.size) (o := 2) (v := b) n5).below (Below.drew (Below.refl _ _)))
  refine ⟨(List.range 11).map f4, (List.range 3).map f5, .inr ⟨g4, 0, c4, by simp, q4.2.1, fun i hi => ?_⟩, q5.strs3 c5, by simp, by simp, (((hB.setCell (p := ⟨w.heap.size, 0, none⟩) (Nat.le_refl _) _).setCell (p := ⟨w.heap.size, 1, none⟩) (Nat.le_refl _) _).setCell (p := ⟨w.heap.size, 2, none⟩) (Nat.le_refl _) _).drew⟩
  have hi' : i < 11 := by simpa using hi
  rw [Nat.zero_add, q4.2.2.1 i hi', getD_range f4 _ 11 i hi']

set_option maxHeartbeats 12800000 in
set_option maxRecDepth 100000 in
theorem drawCheckSeal (v : Value) (n : Nat) (w : World) (h : CodeAt w v n) :
    Calls Tryd.prog 39 #[v] w fun e w' => ∃ (top t : ByteArray) (k : Int) (v1 v2 : Value) (ss ws : List ByteArray), e = .returned (.tuple #[.string top, .string t, .agg #[.int .i64 k, v1, v2]]) ∧ top.size ≤ 4 ∧ t.size ≤ 202 ∧ StrsAt w' v1 ss ∧ StrsAt w' v2 ws ∧ ss.length ≤ 11 ∧ ws.length ≤ 3 ∧ Below w.heap.size w w' := by
  obtain ⟨ad, c, rfl⟩ : ∃ ad c, v = .slice ad n c := by
    obtain ⟨ad, c, e, _⟩ := h
    exact ⟨ad, c, e⟩
  have hbel0 := (Below.refl w.heap.size w).alloc (Nat.le_refl _) (.cells #[.int .i64 0, .slice none 0 0, .slice none 0 0] 49)
  have hbel := hbel0.alloc (by simp) (.cells #[.slice ad n c, .int .i64 0, .int .u64 0] 87)
  have hcn := cur_new (w.alloc (.cells #[.int .i64 0, .slice none 0 0, .slice none 0 0] 49)) (.slice ad n c) 87
  rw [World.size_alloc] at hcn
  have HK := signerIn (w.heap.size + 1) (.slice ad n c) n 0 _ hcn (h.bytes hbel (by omega)) (by omega)
  have BR := hide ((boxNew w #[.int .i64 0, .slice none 0 0, .slice none 0 0] 49).below ((Below.refl _ _).alloc (Nat.le_refl _) (.cells #[.slice ad n c, .int .i64 0, .int .u64 0] 87)))
  have HBE := hide hbel
  clear h hbel hbel0 hcn
  go_enter Tryd.func39, Tryd.ntmps39
  go_wp2_with fail
  refine HK.mono ?_
  rintro e w1 ⟨s, u, rfl, hs, hu0, hu1, hd⟩
  clear HK
  have hsm : s.size ≤ maxLen := by unfold maxLen; omega
  have BR1 := hide ((unhide BR).otherBy hd.2.2 (by omega))
  have HB1 : Hid (Below w.heap.size w w1) := (unhide HBE).trans (gb_below hd.2.2 (by omega) (by simp; omega))
  have HD1 := hide (show CurAt w1 (w.heap.size + 1) (.slice ad n c) 8 ∧ BytesAt w1 (w.heap.size + 1) (.slice ad n c) n from ⟨hd.1, hd.2.1⟩)
  have hl1 : w.heap.size + 1 < w1.heap.size := hd.1.lt
  clear hd BR HBE
  have hal : Below w1.heap.size w1 (w1.alloc (.cells #[.string s, .int .i64 u] 45)) := (Below.refl _ w1).alloc (Nat.le_refl _) _
  have BS1 := hide (boxNew w1 #[.string s, .int .i64 u] 45)
  replace BR1 := hide ((unhide BR1).below hal)
  replace HB1 := hide ((unhide HB1).trans (hal.mono (unhide HB1).size))
  replace HD1 := hide (show CurAt _ (w.heap.size + 1) (.slice ad n c) 8 ∧ BytesAt _ (w.heap.size + 1) (.slice ad n c) n from ⟨(unhide HD1).1.below hal, (unhide HD1).2.kept (gb_of_below hal)⟩)
  clear hal
  go_wp2_with fail
  refine (messIn (w.heap.size + 1) (.slice ad n c) n 8 _ (unhide HD1).1 (unhide HD1).2 (by omega)).mono ?_
  rintro e w2 ⟨t, rfl, htt, hd2⟩
  have htm : t.size ≤ maxLen := by unfold maxLen; omega
  have BR2 := hide ((unhide BR1).otherBy hd2.2.2 (by omega))
  have BS2 := hide ((unhide BS1).otherBy hd2.2.2 (by omega))
  have HB2 : Hid (Below w.heap.size w w2) := (unhide HB1).trans (gb_below hd2.2.2 (by omega) (unhide HB1).size)
  have HD2 := hide (show CurAt w2 (w.heap.size + 1) (.slice ad n c) 12 ∧ BytesAt w2 (w.heap.size + 1) (.slice ad n c) n from ⟨hd2.1, hd2.2.1⟩)
  have hl2 : w1.heap.size < w2.heap.size := (unhide BS2).1
  clear hd2 BR1 BS1 HB1 HD1
  obtain ⟨TF, o, hTF, HTP⟩ := specTopAny s hsm
  have bs0 := (unhide BS2).2.1 0 _ rfl
  have bs1 := (unhide BS2).2.1 1 _ rfl
  by_cases hyes : SealYes s u t
  · have hn0 := hyes.1.2.1
    obtain ⟨N, rfl⟩ := Int.eq_ofNat_of_zero_le hn0
    have HSP := fun W => specTextYes s t N W hsm hyes
    clear hyes
    generalize signB (leafSeed s N) t = L4 at *
    generalize wayB s N = L5 at *
    go_wp2_with fail
    refine (HSP _).mono ?_
    rintro e w3 ⟨g4, c4, g5, c5, rfl, o4, o5, hne, hb3⟩
    clear HSP bs0 bs1
    have l3 : w2.heap.size ≤ w3.heap.size := hb3.size
    have BX3 := hide ((boxNew (w3.alloc (.cells #[.string s, .int .i64 ((N : Int) + 1)] 45)) #[.int .i64 N, .slice (some ⟨g4, 0, none⟩) 11 c4, .slice (some ⟨g5, 0, none⟩) 3 c5] 49))
    rw [World.size_alloc] at BX3
    have hal : Below w3.heap.size w3 ((w3.alloc (.cells #[.string s, .int .i64 ((N : Int) + 1)] 45)).alloc (.cells #[.int .i64 N, .slice (some ⟨g4, 0, none⟩) 11 c4, .slice (some ⟨g5, 0, none⟩) 3 c5] 49)) := ((Below.refl _ w3).alloc (Nat.le_refl _) _).alloc (by simp) _
    have hb3a := hb3.trans (hal.mono l3)
    have BR3 := hide ((unhide BR2).below hb3a)
    have BS3 := hide ((unhide BS2).below hb3a)
    have HB3 := hide ((unhide HB2).trans (hb3a.mono (unhide HB2).size))
    have HD3 := hide (show CurAt _ (w.heap.size + 1) (.slice ad n c) 12 ∧ BytesAt _ (w.heap.size + 1) (.slice ad n c) n from ⟨(unhide HD2).1.below hb3a, (unhide HD2).2.kept (gb_of_below hb3a)⟩)
    have p4 := o4.1
    have p5 := o5.1
    have q4 := o4.2.1
    have q5 := o5.2.1
    have HO4 := hide (o4.below hal)
    have HO5 := hide (o5.below hal)
    clear hal hb3 hb3a o4 o5 BR2 BS2 HB2 HD2
    have bs0 := (unhide BS3).2.1 0 _ rfl
    have bsz := (unhide BS3).1
    go_wp2_with fail
    refine (HTP _).mono ?_
    rintro e w4 ⟨rfl, hb4⟩
    have l4 : w3.heap.size + 1 + 1 ≤ w4.heap.size := by have := hb4.size; simpa using this
    have BR4 := hide ((unhide BR3).below hb4)
    have BX4 := hide ((unhide BX3).below hb4)
    have HB4 := hide ((unhide HB3).trans (hb4.mono (unhide HB3).size))
    have HD4 := hide (show CurAt _ (w.heap.size + 1) (.slice ad n c) 12 ∧ BytesAt _ (w.heap.size + 1) (.slice ad n c) n from ⟨(unhide HD3).1.below hb4, (unhide HD3).2.kept (gb_of_below hb4)⟩)
    replace HO4 := hide ((unhide HO4).below hb4)
    replace HO5 := hide ((unhide HO5).below hb4)
    clear hb4 bs0 bsz BR3 BS3 BX3 HB3 HD3 HTP
    go_wp2_with fail
    refine (pickIn (w.heap.size + 1) (.slice ad n c) n 12 8 _ (unhide HD4).1 (unhide HD4).2 (by omega) (by omega) (by omega)).mono ?_
    rintro e w5 ⟨x, rfl, hx0, hx1, hd5⟩
    have l5 : w4.heap.size ≤ w5.heap.size := hd5.2.2.size
    have BR5 := hide ((unhide BR4).otherBy hd5.2.2 (by omega))
    have BX5 := hide ((unhide BX4).otherBy hd5.2.2 (by omega))
    have HB5 : Hid (Below w.heap.size w w5) := (unhide HB4).trans (gb_below hd5.2.2 (by omega) (unhide HB4).size)
    have HD5 := hide (show CurAt w5 (w.heap.size + 1) (.slice ad n c) 14 ∧ BytesAt w5 (w.heap.size + 1) (.slice ad n c) n from ⟨hd5.1, hd5.2.1⟩)
    replace HO4 := hide ((unhide HO4).otherBy hd5.2.2 (by omega))
    replace HO5 := hide ((unhide HO5).otherBy hd5.2.2 (by omega))
    clear hd5 BR4 BX4 HB4 HD4
    have r0 := (unhide BR5).2.1 0 _ rfl
    have r1 := (unhide BR5).2.1 1 _ rfl
    have r2 := (unhide BR5).2.1 2 _ rfl
    have rf0 := (unhide BR5).2.2 0 (by simp)
    have rf1 := (unhide BR5).2.2 1 (by simp)
    have rf2 := (unhide BR5).2.2 2 (by simp)
    have rz := (unhide BR5).1
    have x0 := (unhide BX5).2.1 0 _ rfl
    have x1 := (unhide BX5).2.1 1 _ rfl
    have x2 := (unhide BX5).2.1 2 _ rfl
    have xf0 := (unhide BX5).2.2 0 (by simp)
    have xz := (unhide BX5).1
    have y0 : w5.cell? ⟨g5, 0, none⟩ = some (.string (L5.getD 0 ByteArray.empty)) := (unhide HO5).2.2.1 0 (by omega)
    have yf0 := (unhide HO5).2.2.2 0 (by omega)
    have n1 : w.heap.size ≠ w3.heap.size + 1 := by omega
    have n2 : w3.heap.size + 1 ≠ w.heap.size := by omega
    have n3 : g5 ≠ w.heap.size := by omega
    have n4 : g5 ≠ w3.heap.size + 1 := by omega
    have n5 : g4 ≠ w.heap.size := by omega
    have n6 : g4 ≠ w3.heap.size + 1 := by omega
    have n7 : w.heap.size ≠ g5 := by omega
    have n8 : w3.heap.size + 1 ≠ g5 := by omega
    generalize L5.getD 0 ByteArray.empty = ww0 at y0
    have h33 : (⟨#[33]⟩ : ByteArray).size = 1 := rfl
    by_cases xa : x = 0
    · subst xa
      go_upto_region 14 with fail
      go_region
      all_goals go_wp2_with fail
      all_goals (try simp only [Exit.inBlock, Exit.then])
      all_goals refine bodyPost_ret (by simp [*, results, Tryd.results39, go_sem]; try rfl) rfl ?_
      all_goals
        obtain ⟨ss, ws, e1, e2, e3, e4, e5⟩ := sealEnd (w := w) c4 c5 (.int .i64 N) (.slice (some ⟨g4, 0, none⟩) 11 c4) (.slice (some ⟨g5, 0, none⟩) 3 c5) (unhide HO4) (unhide HO5) (Ne.symm n5) (Ne.symm n3) (unhide HB5)
        exact ⟨TF, t ++ ⟨#[33]⟩, N, _, _, ss, ws, rfl, hTF, by rw [ByteArray.size_append, h33]; omega, e1, e2, e3, e4, e5⟩
    · by_cases xb : x = 1
      · subst xb
        clear r0 r1 r2 rf0 rf1 rf2 rz x0 x1 x2 xf0 xz y0 yf0
        go_wp2_with fail
        refine (pickIn (w.heap.size + 1) (.slice ad n c) n 14 10 _ (unhide HD5).1 (unhide HD5).2 (by omega) (by omega) (by omega)).mono ?_
        rintro e w6 ⟨y, rfl, hy0, hy1, hd6⟩
        have BR6 := hide ((unhide BR5).otherBy hd6.2.2 (by omega))
        have BX6 := hide ((unhide BX5).otherBy hd6.2.2 (by omega))
        have HB6 : Hid (Below w.heap.size w w6) := (unhide HB5).trans (gb_below hd6.2.2 (by omega) (unhide HB5).size)
        replace HO4 := hide ((unhide HO4).otherBy hd6.2.2 (by omega))
        replace HO5 := hide ((unhide HO5).otherBy hd6.2.2 (by omega))
        clear hd6 HD5 HB5 BR5 BX5
        have r0 := (unhide BR6).2.1 0 _ rfl
        have r1 := (unhide BR6).2.1 1 _ rfl
        have r2 := (unhide BR6).2.1 2 _ rfl
        have rf0 := (unhide BR6).2.2 0 (by simp)
        have rf1 := (unhide BR6).2.2 1 (by simp)
        have rf2 := (unhide BR6).2.2 2 (by simp)
        have rz := (unhide BR6).1
        have x0 := (unhide BX6).2.1 0 _ rfl
        have x1 := (unhide BX6).2.1 1 _ rfl
        have x2 := (unhide BX6).2.1 2 _ rfl
        have xf0 := (unhide BX6).2.2 0 (by simp)
        have xz := (unhide BX6).1
        have hwr : IntKind.i64.wrap (y - 1) = y - 1 := by rw [IntKind.wrap_i64]; omega
        clear BR6 BX6
        go_upto_region 14 with fail
        go_region
        all_goals go_wp2_with fail
        all_goals (try simp only [Exit.inBlock, Exit.then])
        all_goals refine bodyPost_ret (by simp [*, results, Tryd.results39, go_sem]; try rfl) rfl ?_
        all_goals
          obtain ⟨ss, ws, e1, e2, e3, e4, e5⟩ := sealEnd (w := w) c4 c5 (.int .i64 (y - 1)) (.slice (some ⟨g4, 0, none⟩) 11 c4) (.slice (some ⟨g5, 0, none⟩) 3 c5) ((unhide HO4).setOff (Ne.symm n6)) ((unhide HO5).setOff n8) (Ne.symm n5) (Ne.symm n3) ((unhide HB6).setCell (p := ⟨w3.heap.size + 1, 0, none⟩) (by have := l3; show w.heap.size ≤ w3.heap.size + 1; omega) _)
          exact ⟨TF, t, (y - 1), _, _, ss, ws, rfl, hTF, by omega, e1, e2, e3, e4, e5⟩
      · by_cases xc : x = 2
        · subst xc
          obtain ⟨f5, hf5⟩ := (unhide HO5).setStr (k := 0) (by omega) ⟨#[97, 98, 99, 100]⟩
          have HO5' := hide hf5
          clear hf5 BR5 BX5
          go_upto_region 14 with fail
          go_region
          all_goals go_wp2_with fail
          all_goals (try simp only [Exit.inBlock, Exit.then])
          all_goals refine bodyPost_ret (by simp [*, results, Tryd.results39, go_sem]; try rfl) rfl ?_
          all_goals
            obtain ⟨ss, ws, e1, e2, e3, e4, e5⟩ := sealEnd (w := w) c4 c5 (.int .i64 N) (.slice (some ⟨g4, 0, none⟩) 11 c4) (.slice (some ⟨g5, 0, none⟩) 3 c5) ((unhide HO4).setOff (Ne.symm hne)) (unhide HO5') (Ne.symm n5) (Ne.symm n3) ((unhide HB5).setCell (p := ⟨g5, 0, none⟩) (by show w.heap.size ≤ g5; omega) _)
            exact ⟨TF, t, N, _, _, ss, ws, rfl, hTF, by omega, e1, e2, e3, e4, e5⟩
        · clear BR5 BX5
          go_upto_region 14 with fail
          go_region
          all_goals go_wp2_with fail
          all_goals (try simp only [Exit.inBlock, Exit.then])
          all_goals refine bodyPost_ret (by simp [*, results, Tryd.results39, go_sem]; try rfl) rfl ?_
          all_goals
            obtain ⟨ss, ws, e1, e2, e3, e4, e5⟩ := sealEnd (w := w) c4 c5 (.int .i64 N) (.slice (some ⟨g4, 0, none⟩) 11 c4) (.slice (some ⟨g5, 0, none⟩) 3 c5) (unhide HO4) (unhide HO5) (Ne.symm n5) (Ne.symm n3) (unhide HB5)
            exact ⟨TF, t, N, _, _, ss, ws, rfl, hTF, by omega, e1, e2, e3, e4, e5⟩
  · have HSP := fun W => specTextNo s t u W hsm htm hyes
    clear hyes
    go_wp2_with fail
    refine (HSP _).mono ?_
    rintro e w3 ⟨rfl, hb3⟩
    clear HSP bs0 bs1
    have l3 : w2.heap.size ≤ w3.heap.size := hb3.size
    have BX3 := hide ((boxNew (w3.alloc (.cells #[.string ⟨#[]⟩, .int .i64 0] 45)) #[.int .i64 0, .slice none 0 0, .slice none 0 0] 49))
    rw [World.size_alloc] at BX3
    have hal : Below w3.heap.size w3 ((w3.alloc (.cells #[.string ⟨#[]⟩, .int .i64 0] 45)).alloc (.cells #[.int .i64 0, .slice none 0 0, .slice none 0 0] 49)) := ((Below.refl _ w3).alloc (Nat.le_refl _) _).alloc (by simp) _
    have hb3a := hb3.trans (hal.mono l3)
    have BR3 := hide ((unhide BR2).below hb3a)
    have BS3 := hide ((unhide BS2).below hb3a)
    have HB3 := hide ((unhide HB2).trans (hb3a.mono (unhide HB2).size))
    have HD3 := hide (show CurAt _ (w.heap.size + 1) (.slice ad n c) 12 ∧ BytesAt _ (w.heap.size + 1) (.slice ad n c) n from ⟨(unhide HD2).1.below hb3a, (unhide HD2).2.kept (gb_of_below hb3a)⟩)
    clear hal hb3 hb3a BR2 BS2 HB2 HD2
    have bs0 := (unhide BS3).2.1 0 _ rfl
    have bsz := (unhide BS3).1
    go_wp2_with fail
    refine (HTP _).mono ?_
    rintro e w4 ⟨rfl, hb4⟩
    have l4 : w3.heap.size + 1 + 1 ≤ w4.heap.size := by have := hb4.size; simpa using this
    have BR4 := hide ((unhide BR3).below hb4)
    have BX4 := hide ((unhide BX3).below hb4)
    have HB4 := hide ((unhide HB3).trans (hb4.mono (unhide HB3).size))
    have HD4 := hide (show CurAt _ (w.heap.size + 1) (.slice ad n c) 12 ∧ BytesAt _ (w.heap.size + 1) (.slice ad n c) n from ⟨(unhide HD3).1.below hb4, (unhide HD3).2.kept (gb_of_below hb4)⟩)
    clear hb4 bs0 bsz BR3 BS3 BX3 HB3 HD3 HTP
    go_wp2_with fail
    refine (pickIn (w.heap.size + 1) (.slice ad n c) n 12 8 _ (unhide HD4).1 (unhide HD4).2 (by omega) (by omega) (by omega)).mono ?_
    rintro e w5 ⟨x, rfl, hx0, hx1, hd5⟩
    have l5 : w4.heap.size ≤ w5.heap.size := hd5.2.2.size
    have BR5 := hide ((unhide BR4).otherBy hd5.2.2 (by omega))
    have BX5 := hide ((unhide BX4).otherBy hd5.2.2 (by omega))
    have HB5 : Hid (Below w.heap.size w w5) := (unhide HB4).trans (gb_below hd5.2.2 (by omega) (unhide HB4).size)
    have HD5 := hide (show CurAt w5 (w.heap.size + 1) (.slice ad n c) 14 ∧ BytesAt w5 (w.heap.size + 1) (.slice ad n c) n from ⟨hd5.1, hd5.2.1⟩)
    clear hd5 BR4 BX4 HB4 HD4
    have n1 : w.heap.size ≠ w3.heap.size + 1 := by omega
    have n2 : w3.heap.size + 1 ≠ w.heap.size := by omega
    have h33 : (⟨#[33]⟩ : ByteArray).size = 1 := rfl
    have r0 := (unhide BR5).2.1 0 _ rfl
    have r1 := (unhide BR5).2.1 1 _ rfl
    have r2 := (unhide BR5).2.1 2 _ rfl
    have rf0 := (unhide BR5).2.2 0 (by simp)
    have rf1 := (unhide BR5).2.2 1 (by simp)
    have rf2 := (unhide BR5).2.2 2 (by simp)
    have rz := (unhide BR5).1
    have x0 := (unhide BX5).2.1 0 _ rfl
    have x1 := (unhide BX5).2.1 1 _ rfl
    have x2 := (unhide BX5).2.1 2 _ rfl
    have xf0 := (unhide BX5).2.2 0 (by simp)
    have xz := (unhide BX5).1
    by_cases xa : x = 0
    · subst xa
      clear BR5 BX5
      go_upto_region 14 with fail
      go_region
      all_goals go_wp2_with fail
      all_goals (try simp only [Exit.inBlock, Exit.then])
      all_goals refine bodyPost_ret (by simp [*, results, Tryd.results39, go_sem]; try rfl) rfl ?_
      all_goals exact ⟨TF, t ++ ⟨#[33]⟩, 0, _, _, [], [], rfl, hTF, by rw [ByteArray.size_append, h33]; omega, .inl ⟨_, _, rfl, rfl⟩, .inl ⟨_, _, rfl, rfl⟩, by simp, by simp, ((((unhide HB5).setCell (p := ⟨w.heap.size, 0, none⟩) (Nat.le_refl _) _).setCell (p := ⟨w.heap.size, 1, none⟩) (Nat.le_refl _) _).setCell (p := ⟨w.heap.size, 2, none⟩) (Nat.le_refl _) _).drew⟩
    · by_cases xb : x = 1
      · subst xb
        clear r0 r1 r2 rf0 rf1 rf2 rz x0 x1 x2 xf0 xz
        go_wp2_with fail
        refine (pickIn (w.heap.size + 1) (.slice ad n c) n 14 10 _ (unhide HD5).1 (unhide HD5).2 (by omega) (by omega) (by omega)).mono ?_
        rintro e w6 ⟨y, rfl, hy0, hy1, hd6⟩
        have BR6 := hide ((unhide BR5).otherBy hd6.2.2 (by omega))
        have BX6 := hide ((unhide BX5).otherBy hd6.2.2 (by omega))
        have HB6 : Hid (Below w.heap.size w w6) := (unhide HB5).trans (gb_below hd6.2.2 (by omega) (unhide HB5).size)
        clear hd6 HD5 HB5 BR5 BX5
        have r0 := (unhide BR6).2.1 0 _ rfl
        have r1 := (unhide BR6).2.1 1 _ rfl
        have r2 := (unhide BR6).2.1 2 _ rfl
        have rf0 := (unhide BR6).2.2 0 (by simp)
        have rf1 := (unhide BR6).2.2 1 (by simp)
        have rf2 := (unhide BR6).2.2 2 (by simp)
        have rz := (unhide BR6).1
        have x0 := (unhide BX6).2.1 0 _ rfl
        have x1 := (unhide BX6).2.1 1 _ rfl
        have x2 := (unhide BX6).2.1 2 _ rfl
        have xf0 := (unhide BX6).2.2 0 (by simp)
        have xz := (unhide BX6).1
        have hwr : IntKind.i64.wrap (y - 1) = y - 1 := by rw [IntKind.wrap_i64]; omega
        clear BR6 BX6
        go_upto_region 14 with fail
        go_region
        all_goals go_wp2_with fail
        all_goals (try simp only [Exit.inBlock, Exit.then])
        all_goals refine bodyPost_ret (by simp [*, results, Tryd.results39, go_sem]; try rfl) rfl ?_
        all_goals exact ⟨TF, t, (y - 1), _, _, [], [], rfl, hTF, by omega, .inl ⟨_, _, rfl, rfl⟩, .inl ⟨_, _, rfl, rfl⟩, by simp, by simp, (((((unhide HB6).setCell (p := ⟨w3.heap.size + 1, 0, none⟩) (by have := l3; show w.heap.size ≤ w3.heap.size + 1; omega) _).setCell (p := ⟨w.heap.size, 0, none⟩) (Nat.le_refl _) _).setCell (p := ⟨w.heap.size, 1, none⟩) (Nat.le_refl _) _).setCell (p := ⟨w.heap.size, 2, none⟩) (Nat.le_refl _) _).drew⟩
      · by_cases xc : x = 2
        · subst xc
          clear BR5 BX5
          go_upto_region 14 with fail
          go_region
          all_goals go_wp2_with fail
          all_goals (try simp only [Exit.inBlock, Exit.then])
          all_goals refine bodyPost_ret (by simp [*, results, Tryd.results39, go_sem]; try rfl) rfl ?_
          all_goals exact ⟨TF, t, 0, _, _, [], [], rfl, hTF, by omega, .inl ⟨_, _, rfl, rfl⟩, .inl ⟨_, _, rfl, rfl⟩, by simp, by simp, ((((unhide HB5).setCell (p := ⟨w.heap.size, 0, none⟩) (Nat.le_refl _) _).setCell (p := ⟨w.heap.size, 1, none⟩) (Nat.le_refl _) _).setCell (p := ⟨w.heap.size, 2, none⟩) (Nat.le_refl _) _).drew⟩
        · clear BR5 BX5
          go_upto_region 14 with fail
          go_region
          all_goals go_wp2_with fail
          all_goals (try simp only [Exit.inBlock, Exit.then])
          all_goals refine bodyPost_ret (by simp [*, results, Tryd.results39, go_sem]; try rfl) rfl ?_
          all_goals exact ⟨TF, t, 0, _, _, [], [], rfl, hTF, by omega, .inl ⟨_, _, rfl, rfl⟩, .inl ⟨_, _, rfl, rfl⟩, by simp, by simp, ((((unhide HB5).setCell (p := ⟨w.heap.size, 0, none⟩) (Nat.le_refl _) _).setCell (p := ⟨w.heap.size, 1, none⟩) (Nat.le_refl _) _).setCell (p := ⟨w.heap.size, 2, none⟩) (Nat.le_refl _) _).drew⟩
end Go.Proofs.YtemkkofjakpjiaaDoor
