/- Contracts of the drawing functions of chapter 1, and of the number of a list of bytes. Condition: the bytes lie in memory. -/
import Derived.Test.YtmnebdgoombfoaaDoorMixDraw2
import Derived.RegionTactic
namespace Go.Proofs.YtmnebdgoombfoaaDoor
open Go.ChangeShapes Go.WideShapes Go.ChangeAt Go.RowKit Go.Deep
set_option linter.unusedVariables false

/-- The slice value v holds n bytes. -/
def CodeAt (w : World) (v : Value) (n : Nat) : Prop :=
  ∃ ad c, v = .slice ad n c ∧ n ≤ 1048576 ∧ (n = 0 ∨ ∃ b off, ad = some ⟨b, off, none⟩ ∧ b < w.heap.size ∧ ∀ i, i < n → ∃ x : Int, 0 ≤ x ∧ x ≤ 255 ∧ w.cell? ⟨b, off + i, none⟩ = some (.int .u8 x))
theorem CodeAt.bytes {w w' : World} {v : Value} {n g : Nat} (h : CodeAt w v n) (hb : Below w.heap.size w w') (hg : w.heap.size ≤ g) : BytesAt w' g v n := by
  obtain ⟨ad, c, e, hn, h0 | ⟨b, off, e2, hl, hc⟩⟩ := h
  · exact ⟨ad, c, e, hn, .inl h0⟩
  · refine ⟨ad, c, e, hn, .inr ⟨b, off, e2, by omega, Nat.lt_of_lt_of_le hl hb.size, fun i hi => ?_⟩⟩
    obtain ⟨x, h0, h1, h2⟩ := hc i hi
    exact ⟨x, h0, h1, (hb.cell (p := ⟨b, off + i, none⟩) hl).trans h2⟩
theorem CodeAt.below {w w' : World} {v : Value} {n : Nat} (h : CodeAt w v n) (hb : Below w.heap.size w w') : CodeAt w' v n := by
  obtain ⟨ad, c, e, hn, h0 | ⟨b, off, e2, hl, hc⟩⟩ := h
  · exact ⟨ad, c, e, hn, .inl h0⟩
  · refine ⟨ad, c, e, hn, .inr ⟨b, off, e2, Nat.lt_of_lt_of_le hl hb.size, fun i hi => ?_⟩⟩
    obtain ⟨x, h0, h1, h2⟩ := hc i hi
    exact ⟨x, h0, h1, (hb.cell (p := ⟨b, off + i, none⟩) hl).trans h2⟩
theorem cur_new (w : World) (v : Value) (t : TypeId) : CurAt (w.alloc (.cells #[v, .int .i64 0, .int .u64 0] t)) w.heap.size v 0 :=
  ⟨0, 0, by omega, by omega, by simp, by simp, by simp, by omega, by omega, by simp, by simp, by simp⟩

set_option maxHeartbeats 800000 in
theorem numberIn (v : Value) (n : Nat) (w : World) (h : CodeAt w v n) :
    Calls Tryd.prog 14 #[v] w fun e w' => ∃ x : Int, e = .returned (.int .i64 x) ∧ 0 ≤ x ∧ x ≤ 1000002 ∧ w = w' := by
  obtain ⟨ad, c, rfl, hn, hb⟩ := h
  have HB := hide hb
  clear hb
  go_enter Tryd.func14, Tryd.ntmps14
  go_wp2
  go_loop [3, 5, 8] (fun x y i => ∃ (k : Nat) (z : Int), k ≤ n ∧ 0 ≤ z ∧ z ≤ 1000002 ∧ i = .int .i64 k ∧ x = .int .i64 z) (fun _ _ i => n - (intOf i).toNat)
  case atStart => exact ⟨0, 0, Nat.zero_le _, by omega, by omega, rfl, rfl⟩
  case round =>
    obtain ⟨k, z, hk, hz0, hz1, rfl, rfl⟩ := hrel
    by_cases hlt : k < n
    · rcases unhide HB with h0 | ⟨b, off, rfl, hbl, hcell⟩
      · omega
      · obtain ⟨x, hx0, hx1, hx⟩ := hcell k hlt
        clear hcell
        have hi : (k : Int) < (n : Int) := by omega
        go_wp2
        go_round
        case rel => exact ⟨k + 1, (31 * z + x) % 1000003, by omega, by omega, by omega, by go_num, rfl⟩
        case measure => simp [intOf]; omega
    · go_wp2
      go_ret
      exact ⟨z, rfl, hz0, hz1, rfl⟩

set_option maxHeartbeats 800000 in
theorem drawKind (v : Value) (n : Nat) (w : World) (h : CodeAt w v n) :
    Calls Tryd.prog 18 #[v] w fun e w' => ∃ k : Int, e = .returned (.int .u8 k) ∧ 0 ≤ k ∧ k ≤ 255 ∧ Below w.heap.size w w' := by
  obtain ⟨ad, c, rfl⟩ : ∃ ad c, v = .slice ad n c := by
    obtain ⟨ad, c, e, _⟩ := h
    exact ⟨ad, c, e⟩
  have hbel := (Below.refl w.heap.size w).alloc (Nat.le_refl _) (.cells #[.slice ad n c, .int .i64 0, .int .u64 0] 64)
  have HK := kindIn w.heap.size (.slice ad n c) n 0 _ (cur_new w (.slice ad n c) 64) (h.bytes hbel (Nat.le_refl _)) (by omega)
  have HBE := hide hbel
  clear h hbel
  go_enter Tryd.func18, Tryd.ntmps18
  go_wp2_with fail
  refine HK.mono ?_
  rintro e w1 ⟨k, rfl, hk0, hk1, hd⟩
  clear HK
  have hb1 : Below w.heap.size w w1 := (unhide HBE).trans (gb_below hd.2.2 (Nat.le_refl _) (by simp))
  clear hd HBE
  go_wp2
  go_ret
  exact ⟨k, rfl, hk0, hk1, hb1⟩

set_option maxHeartbeats 800000 in
theorem drawGood (v : Value) (n : Nat) (w : World) (h : CodeAt w v n) :
    Calls Tryd.prog 48 #[v] w fun e w' => ∃ a b l : Int, e = .returned (.agg #[.int .i64 a, .int .i64 b, .int .i64 l]) ∧ Below w.heap.size w w' := by
  obtain ⟨ad, c, rfl⟩ : ∃ ad c, v = .slice ad n c := by
    obtain ⟨ad, c, e, _⟩ := h
    exact ⟨ad, c, e⟩
  have hb0 := (Below.refl w.heap.size w).alloc (Nat.le_refl _) (.cells #[.int .i64 0, .int .i64 0, .int .i64 0] 24)
  have hbel := hb0.alloc (by simp) (.cells #[.slice ad n c, .int .i64 0, .int .u64 0] 64)
  have hcur := cur_new (w.alloc (.cells #[.int .i64 0, .int .i64 0, .int .i64 0] 24)) (.slice ad n c) 64
  simp only [World.size_alloc] at hcur
  have HK := mixIn (w.heap.size + 1) (.slice ad n c) n 0 _ hcur (h.bytes hbel (by omega)) (by omega)
  have HBE := hide hbel
  have HT : Hid (Three ((w.alloc (.cells #[.int .i64 0, .int .i64 0, .int .i64 0] 24)).alloc (.cells #[.slice ad n c, .int .i64 0, .int .u64 0] 64)) w.heap.size 0 0 0) := (three_new w 0 0 0 24).below ((Below.refl _ _).alloc (Nat.le_refl _) _)
  clear h hbel hb0 hcur
  go_enter Tryd.func48, Tryd.ntmps48
  go_wp2_with fail
  refine HK.mono ?_
  rintro e w1 ⟨a, b, l, rfl, hd⟩
  clear HK
  have hb1 : Below w.heap.size w w1 := (unhide HBE).trans (gb_below hd.2.2 (by omega) (by simp; omega))
  obtain ⟨t0, t1, t2, t3, t4, t5⟩ := HT.out.drawn hd.2.2 (by omega)
  clear hd HBE HT
  go_wp2
  exact bodyPost_ret (v := .agg #[.int .i64 a, .int .i64 b, .int .i64 l]) (by simp [results, Tryd.results48, go_sem, *]) rfl ⟨a, b, l, rfl, by go_grown⟩

set_option maxHeartbeats 800000 in
theorem drawEnd (v : Value) (n : Nat) (w : World) (h : CodeAt w v n) :
    Calls Tryd.prog 21 #[v] w fun e w' => ∃ a b l : Int, e = .returned (.agg #[.int .i64 a, .int .i64 b, .int .i64 l]) ∧ Below w.heap.size w w' := by
  have hb0 := (Below.refl w.heap.size w).alloc (Nat.le_refl _) (.cells #[.int .i64 0, .int .i64 0, .int .i64 0] 24)
  have HK := drawGood v n _ (h.below hb0)
  have HT : Hid (Three (w.alloc (.cells #[.int .i64 0, .int .i64 0, .int .i64 0] 24)) w.heap.size 0 0 0) := three_new w 0 0 0 24
  have HBE := hide hb0
  clear h hb0
  go_enter Tryd.func21, Tryd.ntmps21
  go_wp2_with fail
  refine HK.mono ?_
  rintro e w1 ⟨a, b, l, rfl, hd⟩
  clear HK
  have hb1 : Below w.heap.size w w1 := (unhide HBE).trans (hd.mono (by simp))
  obtain ⟨t0, t1, t2, t3, t4, t5⟩ := HT.out.below hd
  clear hd HBE HT
  go_wp2
  exact bodyPost_ret (v := .agg #[.int .i64 a, .int .i64 b, .int .i64 l]) (by simp [results, Tryd.results21, go_sem, *]) rfl ⟨a, b, l, rfl, by go_grown⟩

set_option maxHeartbeats 800000 in
theorem drawFeed (v : Value) (n : Nat) (w : World) (h : CodeAt w v n) :
    Calls Tryd.prog 9 #[v] w fun e w' => ∃ (a b l : Int) (s : ByteArray), e = .returned (.tuple #[.agg #[.int .i64 a, .int .i64 b, .int .i64 l], .string s]) ∧ s.size ≤ 601 ∧ Below w.heap.size w w' := by
  obtain ⟨ad, c, rfl⟩ : ∃ ad c, v = .slice ad n c := by
    obtain ⟨ad, c, e, _⟩ := h
    exact ⟨ad, c, e⟩
  have hb0 := (Below.refl w.heap.size w).alloc (Nat.le_refl _) (.cells #[.int .i64 0, .int .i64 0, .int .i64 0] 24)
  have hbel := hb0.alloc (by simp) (.cells #[.slice ad n c, .int .i64 0, .int .u64 0] 64)
  have hcur := cur_new (w.alloc (.cells #[.int .i64 0, .int .i64 0, .int .i64 0] 24)) (.slice ad n c) 64
  simp only [World.size_alloc] at hcur
  have HK := mixIn (w.heap.size + 1) (.slice ad n c) n 0 _ hcur (h.bytes hbel (by omega)) (by omega)
  have HBE := hide hbel
  have HT : Hid (Three ((w.alloc (.cells #[.int .i64 0, .int .i64 0, .int .i64 0] 24)).alloc (.cells #[.slice ad n c, .int .i64 0, .int .u64 0] 64)) w.heap.size 0 0 0) := (three_new w 0 0 0 24).below ((Below.refl _ _).alloc (Nat.le_refl _) _)
  clear h hbel hb0 hcur
  go_enter Tryd.func9, Tryd.ntmps9
  go_wp2_with fail
  refine HK.mono ?_
  rintro e w1 ⟨a, b, l, rfl, hd⟩
  clear HK
  have HB1 : Hid (Below w.heap.size w w1) := (unhide HBE).trans (gb_below hd.2.2 (by omega) (by simp; omega))
  have HT1 : Hid (Three w1 w.heap.size 0 0 0) := HT.out.drawn hd.2.2 (by omega)
  have HX := textIn (w.heap.size + 1) (.slice ad n c) n (0 + 200) w1 hd.1 hd.2.1 (by omega)
  clear hd HBE HT
  go_wp2_with fail
  refine HX.mono ?_
  rintro e w2 ⟨s, rfl, hs, hd2⟩
  clear HX
  have hl1 := HB1.out.size
  have hb2 : Below w.heap.size w w2 := HB1.out.trans (gb_below hd2.2.2 (by omega) hl1)
  obtain ⟨t0, t1, t2, t3, t4, t5⟩ := HT1.out.drawn hd2.2.2 (by omega)
  clear hd2 HB1 HT1
  go_wp2
  exact bodyPost_ret (v := .tuple #[.agg #[.int .i64 a, .int .i64 b, .int .i64 l], .string s]) (by simp [results, Tryd.results9, go_sem, *]) rfl ⟨a, b, l, s, rfl, hs, by go_grown⟩

set_option maxHeartbeats 1600000 in
theorem drawJoin (v : Value) (n : Nat) (w : World) (h : CodeAt w v n) :
    Calls Tryd.prog 16 #[v] w fun e w' => ∃ (a b l x y z : Int), e = .returned (.tuple #[.agg #[.int .i64 a, .int .i64 b, .int .i64 l], .agg #[.int .i64 x, .int .i64 y, .int .i64 z]]) ∧ Below w.heap.size w w' := by
  obtain ⟨ad, c, rfl⟩ : ∃ ad c, v = .slice ad n c := by
    obtain ⟨ad, c, e, _⟩ := h
    exact ⟨ad, c, e⟩
  have hb0 := ((Below.refl w.heap.size w).alloc (Nat.le_refl _) (.cells #[.int .i64 0, .int .i64 0, .int .i64 0] 24)).alloc (by simp) (.cells #[.int .i64 0, .int .i64 0, .int .i64 0] 24)
  have hbel := hb0.alloc (by simp; omega) (.cells #[.slice ad n c, .int .i64 0, .int .u64 0] 64)
  have hcur := cur_new ((w.alloc (.cells #[.int .i64 0, .int .i64 0, .int .i64 0] 24)).alloc (.cells #[.int .i64 0, .int .i64 0, .int .i64 0] 24)) (.slice ad n c) 64
  simp only [World.size_alloc] at hcur
  have HK := mixIn (w.heap.size + 1 + 1) (.slice ad n c) n 0 _ hcur (h.bytes hbel (by omega)) (by omega)
  have HBE := hide hbel
  have HT : Hid (Three (((w.alloc (.cells #[.int .i64 0, .int .i64 0, .int .i64 0] 24)).alloc (.cells #[.int .i64 0, .int .i64 0, .int .i64 0] 24)).alloc (.cells #[.slice ad n c, .int .i64 0, .int .u64 0] 64)) w.heap.size 0 0 0) := (three_new w 0 0 0 24).below (((Below.refl _ _).alloc (Nat.le_refl _) _).alloc (by simp) _)
  have HU : Hid (Three (((w.alloc (.cells #[.int .i64 0, .int .i64 0, .int .i64 0] 24)).alloc (.cells #[.int .i64 0, .int .i64 0, .int .i64 0] 24)).alloc (.cells #[.slice ad n c, .int .i64 0, .int .u64 0] 64)) (w.heap.size + 1) 0 0 0) := by
    have := (three_new (w.alloc (.cells #[.int .i64 0, .int .i64 0, .int .i64 0] 24)) 0 0 0 24).below ((Below.refl _ _).alloc (Nat.le_refl _) (.cells #[.slice ad n c, .int .i64 0, .int .u64 0] 64))
    simp only [World.size_alloc] at this
    exact this
  clear h hbel hb0 hcur
  go_enter Tryd.func16, Tryd.ntmps16
  go_wp2_with fail
  refine HK.mono ?_
  rintro e w1 ⟨a, b, l, rfl, hd⟩
  clear HK
  have HB1 : Hid (Below w.heap.size w w1) := (unhide HBE).trans (gb_below hd.2.2 (by omega) (by simp; omega))
  have HT1 : Hid (Three w1 w.heap.size 0 0 0) := HT.out.drawn hd.2.2 (by omega)
  have HU1 : Hid (Three w1 (w.heap.size + 1) 0 0 0) := HU.out.drawn hd.2.2 (by omega)
  have hbn := (Below.refl _ w1).alloc (Nat.le_refl _) (.cells #[.int .i64 a, .int .i64 b, .int .i64 l] 24)
  have HD1 : Hid (Drawn w1 (w1.alloc (.cells #[.int .i64 a, .int .i64 b, .int .i64 l] 24)) (w.heap.size + 1 + 1) (.slice ad n c) n (0 + 200)) := ⟨hd.1.below hbn, hd.2.1.kept (gb_of_below hbn), gb_of_below hbn⟩
  have HM1 : Hid (Three (w1.alloc (.cells #[.int .i64 a, .int .i64 b, .int .i64 l] 24)) w1.heap.size a b l) := three_new w1 a b l 24
  have HX := textIn (w.heap.size + 1 + 1) (.slice ad n c) n (0 + 200) _ HD1.out.1 HD1.out.2.1 (by omega)
  have hgl := hd.1.lt
  have HBN := hide hbn
  clear hd HBE HT HU hbn
  go_wp2_with fail
  refine HX.mono ?_
  rintro e w2 ⟨s, rfl, hs, hd2⟩
  clear HX
  have HM2 : Hid (Three w2 w1.heap.size a b l) := HM1.out.drawn hd2.2.2 (by omega)
  have hl12 := HM2.out.lt
  have HT2 : Hid (Three w2 w.heap.size 0 0 0) := (HT1.out.below (unhide HBN)).drawn hd2.2.2 (by omega)
  have HU2 : Hid (Three w2 (w.heap.size + 1) 0 0 0) := (HU1.out.below (unhide HBN)).drawn hd2.2.2 (by omega)
  have hl1 := HB1.out.size
  have HB2 : Hid (Below w.heap.size w w2) := (HB1.out.trans ((unhide HBN).mono hl1)).trans (gb_below hd2.2.2 (by omega) (by simp; omega))
  have HC2 : Hid (CurAt w2 (w.heap.size + 1 + 1) (.slice ad n c) 300 ∧ BytesAt w2 (w.heap.size + 1 + 1) (.slice ad n c) n) := ⟨hd2.1, hd2.2.1⟩
  clear hd2 HM1 HT1 HU1 HB1 HBN HD1
  go_wp2_with fail
  refine (specFeedAny 1 0 0 s _ (by unfold maxLen; omega)).mono ?_
  rintro e w3 ⟨x, y, z, o, rfl, hb3⟩
  have hl2 := HB2.out.size
  have hbn := hb3.alloc hb3.size (.cells #[.int .i64 x, .int .i64 y, .int .i64 z] 24)
  have HM3 : Hid (Three (w3.alloc (.cells #[.int .i64 x, .int .i64 y, .int .i64 z] 24)) w1.heap.size a b l) := HM2.out.below hbn
  have HT3 : Hid (Three (w3.alloc (.cells #[.int .i64 x, .int .i64 y, .int .i64 z] 24)) w.heap.size 0 0 0) := HT2.out.below hbn
  have HU3 : Hid (Three (w3.alloc (.cells #[.int .i64 x, .int .i64 y, .int .i64 z] 24)) (w.heap.size + 1) 0 0 0) := HU2.out.below hbn
  have HN3 : Hid (Three (w3.alloc (.cells #[.int .i64 x, .int .i64 y, .int .i64 z] 24)) w3.heap.size x y z) := three_new w3 x y z 24
  have HB3 : Hid (Below w.heap.size w (w3.alloc (.cells #[.int .i64 x, .int .i64 y, .int .i64 z] 24))) := HB2.out.trans (hbn.mono hl2)
  have HC3 : Hid (CurAt (w3.alloc (.cells #[.int .i64 x, .int .i64 y, .int .i64 z] 24)) (w.heap.size + 1 + 1) (.slice ad n c) 300 ∧ BytesAt (w3.alloc (.cells #[.int .i64 x, .int .i64 y, .int .i64 z] 24)) (w.heap.size + 1 + 1) (.slice ad n c) n) := ⟨HC2.out.1.below hbn, HC2.out.2.kept (gb_of_below hbn)⟩
  have hl3 := hb3.size
  clear hbn hb3 HM2 HT2 HU2 HB2 HC2
  cases o
  · have HX := mixIn (w.heap.size + 1 + 1) (.slice ad n c) n 300 _ HC3.out.1 HC3.out.2 (by omega)
    go_wp2_with fail
    refine HX.mono ?_
    rintro e w4 ⟨x', y', z', rfl, hd4⟩
    clear HX
    have HM4 : Hid (Three w4 w1.heap.size a b l) := HM3.out.drawn hd4.2.2 (by omega)
    have HT4 : Hid (Three w4 w.heap.size 0 0 0) := HT3.out.drawn hd4.2.2 (by omega)
    have HU4 : Hid (Three w4 (w.heap.size + 1) 0 0 0) := HU3.out.drawn hd4.2.2 (by omega)
    have HN4 : Hid (Three w4 w3.heap.size x y z) := HN3.out.drawn hd4.2.2 (by omega)
    have hlB := HB3.out.size
    have HB4 : Hid (Below w.heap.size w w4) := HB3.out.trans (gb_below hd4.2.2 (by omega) hlB)
    clear hd4
    obtain ⟨y0, y1, y2, yf0, yf1, yf2⟩ := HN4.out
    have HM := (HM4.out.far ⟨w3.heap.size, 0, none⟩ (by simp only []; omega) (.int .i64 x')).far ⟨w3.heap.size, 1, none⟩ (by simp only []; omega) (.int .i64 y')
    have HM : Hid (Three ((((w4).setCell ⟨w3.heap.size, 0, none⟩ (.int .i64 x')).setCell ⟨w3.heap.size, 1, none⟩ (.int .i64 y')).setCell ⟨w3.heap.size, 2, none⟩ (.int .i64 z')) w1.heap.size a b l) := HM.far ⟨w3.heap.size, 2, none⟩ (by simp only []; omega) _
    have HT : Hid (Three ((((w4).setCell ⟨w3.heap.size, 0, none⟩ (.int .i64 x')).setCell ⟨w3.heap.size, 1, none⟩ (.int .i64 y')).setCell ⟨w3.heap.size, 2, none⟩ (.int .i64 z')) w.heap.size 0 0 0) := ((HT4.out.far ⟨w3.heap.size, 0, none⟩ (by simp only []; omega) _).far ⟨w3.heap.size, 1, none⟩ (by simp only []; omega) _).far ⟨w3.heap.size, 2, none⟩ (by simp only []; omega) _
    have HU : Hid (Three ((((w4).setCell ⟨w3.heap.size, 0, none⟩ (.int .i64 x')).setCell ⟨w3.heap.size, 1, none⟩ (.int .i64 y')).setCell ⟨w3.heap.size, 2, none⟩ (.int .i64 z')) (w.heap.size + 1) 0 0 0) := ((HU4.out.far ⟨w3.heap.size, 0, none⟩ (by simp only []; omega) _).far ⟨w3.heap.size, 1, none⟩ (by simp only []; omega) _).far ⟨w3.heap.size, 2, none⟩ (by simp only []; omega) _
    have HN : Hid (Three ((((w4).setCell ⟨w3.heap.size, 0, none⟩ (.int .i64 x')).setCell ⟨w3.heap.size, 1, none⟩ (.int .i64 y')).setCell ⟨w3.heap.size, 2, none⟩ (.int .i64 z')) w3.heap.size x' y' z') := three_set HN4.out x' y' z'
    have HB : Hid (Below w.heap.size w ((((w4).setCell ⟨w3.heap.size, 0, none⟩ (.int .i64 x')).setCell ⟨w3.heap.size, 1, none⟩ (.int .i64 y')).setCell ⟨w3.heap.size, 2, none⟩ (.int .i64 z'))) := ((HB4.out.setCell (by simp only []; omega) _).setCell (by simp only []; omega) _).setCell (by simp only []; omega) _
    go_wp2_with fail
    clear y0 y1 y2 yf0 yf1 yf2 HM4 HT4 HU4 HN4 HB4
    generalize hWW : (((w4).setCell ⟨w3.heap.size, 0, none⟩ (.int .i64 x')).setCell ⟨w3.heap.size, 1, none⟩ (.int .i64 y')).setCell ⟨w3.heap.size, 2, none⟩ (.int .i64 z') = W at *
    clear hWW
    obtain ⟨p0, p1, p2, pf0, pf1, pf2⟩ := HT.out
    obtain ⟨q0, q1, q2, qf0, qf1, qf2⟩ := HU.out
    obtain ⟨r0, r1, r2, rf0, rf1, rf2⟩ := HM.out
    obtain ⟨s0, s1, s2, sf0, sf1, sf2⟩ := HN.out
    have kb := HB.out
    have hn1 : w.heap.size ≠ w.heap.size + 1 := by omega
    have hn2 : w1.heap.size ≠ w.heap.size := by omega
    have hn3 : w1.heap.size ≠ w.heap.size + 1 := by omega
    have hn4 : w3.heap.size ≠ w.heap.size := by omega
    have hn5 : w3.heap.size ≠ w.heap.size + 1 := by omega
    go_wp2
    go_region
    all_goals
      go_wp2
      exact bodyPost_ret (v := .tuple #[.agg #[.int .i64 a, .int .i64 b, .int .i64 l], .agg #[.int .i64 x', .int .i64 y', .int .i64 z']]) (by simp [results, Tryd.results16, go_sem, *]) rfl ⟨a, b, l, x', y', z', rfl, by go_grown⟩
  · have HO := oneIn (w.heap.size + 1 + 1) (.slice ad n c) n 300 6 _ HC3.out.1 HC3.out.2 (by omega) (by omega) (by omega)
    go_wp2_with fail
    refine HO.mono ?_
    rintro e w4 ⟨p, rfl, hd⟩
    clear HO
    have HM5 : Hid (Three w4 w1.heap.size a b l) := HM3.out.drawn hd.2.2 (by omega)
    have HT5 : Hid (Three w4 w.heap.size 0 0 0) := HT3.out.drawn hd.2.2 (by omega)
    have HU5 : Hid (Three w4 (w.heap.size + 1) 0 0 0) := HU3.out.drawn hd.2.2 (by omega)
    have HN5 : Hid (Three w4 w3.heap.size x y z) := HN3.out.drawn hd.2.2 (by omega)
    have hlA := HB3.out.size
    have HB5 : Hid (Below w.heap.size w w4) := HB3.out.trans (gb_below hd.2.2 (by omega) hlA)
    have HC5 : Hid (CurAt w4 (w.heap.size + 1 + 1) (.slice ad n c) 302 ∧ BytesAt w4 (w.heap.size + 1 + 1) (.slice ad n c) n) := ⟨hd.1, hd.2.1⟩
    clear hd HM3 HT3 HU3 HN3 HB3 HC3
    cases p
    · have HM := HM5
      have HT := HT5
      have HU := HU5
      have HN := HN5
      have HB := HB5
      clear HM5 HT5 HU5 HN5 HB5 HC5
      obtain ⟨p0, p1, p2, pf0, pf1, pf2⟩ := HT.out
      obtain ⟨q0, q1, q2, qf0, qf1, qf2⟩ := HU.out
      obtain ⟨r0, r1, r2, rf0, rf1, rf2⟩ := HM.out
      obtain ⟨s0, s1, s2, sf0, sf1, sf2⟩ := HN.out
      have kb := HB.out
      have hn1 : w.heap.size ≠ w.heap.size + 1 := by omega
      have hn2 : w1.heap.size ≠ w.heap.size := by omega
      have hn3 : w1.heap.size ≠ w.heap.size + 1 := by omega
      have hn4 : w3.heap.size ≠ w.heap.size := by omega
      have hn5 : w3.heap.size ≠ w.heap.size + 1 := by omega
      go_wp2
      go_region
      all_goals
        go_wp2
        exact bodyPost_ret (v := .tuple #[.agg #[.int .i64 a, .int .i64 b, .int .i64 l], .agg #[.int .i64 x, .int .i64 y, .int .i64 z]]) (by simp [results, Tryd.results16, go_sem, *]) rfl ⟨a, b, l, x, y, z, rfl, by go_grown⟩
    · have HX := mixIn (w.heap.size + 1 + 1) (.slice ad n c) n 302 _ HC5.out.1 HC5.out.2 (by omega)
      go_wp2_with fail
      refine HX.mono ?_
      rintro e w5 ⟨x', y', z', rfl, hd4⟩
      clear HX
      have HM4 : Hid (Three w5 w1.heap.size a b l) := HM5.out.drawn hd4.2.2 (by omega)
      have HT4 : Hid (Three w5 w.heap.size 0 0 0) := HT5.out.drawn hd4.2.2 (by omega)
      have HU4 : Hid (Three w5 (w.heap.size + 1) 0 0 0) := HU5.out.drawn hd4.2.2 (by omega)
      have HN4 : Hid (Three w5 w3.heap.size x y z) := HN5.out.drawn hd4.2.2 (by omega)
      have hlB := HB5.out.size
      have HB4 : Hid (Below w.heap.size w w5) := HB5.out.trans (gb_below hd4.2.2 (by omega) hlB)
      clear hd4
      obtain ⟨y0, y1, y2, yf0, yf1, yf2⟩ := HN4.out
      have HM := (HM4.out.far ⟨w3.heap.size, 0, none⟩ (by simp only []; omega) (.int .i64 x')).far ⟨w3.heap.size, 1, none⟩ (by simp only []; omega) (.int .i64 y')
      have HM : Hid (Three ((((w5).setCell ⟨w3.heap.size, 0, none⟩ (.int .i64 x')).setCell ⟨w3.heap.size, 1, none⟩ (.int .i64 y')).setCell ⟨w3.heap.size, 2, none⟩ (.int .i64 z')) w1.heap.size a b l) := HM.far ⟨w3.heap.size, 2, none⟩ (by simp only []; omega) _
      have HT : Hid (Three ((((w5).setCell ⟨w3.heap.size, 0, none⟩ (.int .i64 x')).setCell ⟨w3.heap.size, 1, none⟩ (.int .i64 y')).setCell ⟨w3.heap.size, 2, none⟩ (.int .i64 z')) w.heap.size 0 0 0) := ((HT4.out.far ⟨w3.heap.size, 0, none⟩ (by simp only []; omega) _).far ⟨w3.heap.size, 1, none⟩ (by simp only []; omega) _).far ⟨w3.heap.size, 2, none⟩ (by simp only []; omega) _
      have HU : Hid (Three ((((w5).setCell ⟨w3.heap.size, 0, none⟩ (.int .i64 x')).setCell ⟨w3.heap.size, 1, none⟩ (.int .i64 y')).setCell ⟨w3.heap.size, 2, none⟩ (.int .i64 z')) (w.heap.size + 1) 0 0 0) := ((HU4.out.far ⟨w3.heap.size, 0, none⟩ (by simp only []; omega) _).far ⟨w3.heap.size, 1, none⟩ (by simp only []; omega) _).far ⟨w3.heap.size, 2, none⟩ (by simp only []; omega) _
      have HN : Hid (Three ((((w5).setCell ⟨w3.heap.size, 0, none⟩ (.int .i64 x')).setCell ⟨w3.heap.size, 1, none⟩ (.int .i64 y')).setCell ⟨w3.heap.size, 2, none⟩ (.int .i64 z')) w3.heap.size x' y' z') := three_set HN4.out x' y' z'
      have HB : Hid (Below w.heap.size w ((((w5).setCell ⟨w3.heap.size, 0, none⟩ (.int .i64 x')).setCell ⟨w3.heap.size, 1, none⟩ (.int .i64 y')).setCell ⟨w3.heap.size, 2, none⟩ (.int .i64 z'))) := ((HB4.out.setCell (by simp only []; omega) _).setCell (by simp only []; omega) _).setCell (by simp only []; omega) _
      go_wp2_with fail
      clear y0 y1 y2 yf0 yf1 yf2 HM4 HT4 HU4 HN4 HB4
      generalize hWW : (((w5).setCell ⟨w3.heap.size, 0, none⟩ (.int .i64 x')).setCell ⟨w3.heap.size, 1, none⟩ (.int .i64 y')).setCell ⟨w3.heap.size, 2, none⟩ (.int .i64 z') = W at *
      clear hWW
      obtain ⟨p0, p1, p2, pf0, pf1, pf2⟩ := HT.out
      obtain ⟨q0, q1, q2, qf0, qf1, qf2⟩ := HU.out
      obtain ⟨r0, r1, r2, rf0, rf1, rf2⟩ := HM.out
      obtain ⟨s0, s1, s2, sf0, sf1, sf2⟩ := HN.out
      have kb := HB.out
      have hn1 : w.heap.size ≠ w.heap.size + 1 := by omega
      have hn2 : w1.heap.size ≠ w.heap.size := by omega
      have hn3 : w1.heap.size ≠ w.heap.size + 1 := by omega
      have hn4 : w3.heap.size ≠ w.heap.size := by omega
      have hn5 : w3.heap.size ≠ w.heap.size + 1 := by omega
      go_wp2
      go_region
      all_goals
        go_wp2
        exact bodyPost_ret (v := .tuple #[.agg #[.int .i64 a, .int .i64 b, .int .i64 l], .agg #[.int .i64 x', .int .i64 y', .int .i64 z']]) (by simp [results, Tryd.results16, go_sem, *]) rfl ⟨a, b, l, x', y', z', rfl, by go_grown⟩
end Go.Proofs.YtmnebdgoombfoaaDoor
