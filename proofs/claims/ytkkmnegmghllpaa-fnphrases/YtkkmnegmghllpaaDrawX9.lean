/- Contracts of what the law of phrases draws: documents and a phrase; documents, two words and a number. Condition: the bytes that are drawn from lie in memory. -/
import Derived.Test.YtkkmnegmghllpaaDrawW9
namespace Go.Proofs.Ytkkmnegmghllpaa
open Go.ChangeShapes Go.WideShapes Go.ChangeAt Go.RowKit Go.Deep
set_option linter.unusedVariables false
attribute [local go_sem ↓] Go.wp_at_zero Go.wp_at_succ

def ph4Zs : List ByteArray := [⟨#[114, 101, 100]⟩, ⟨#[98, 108, 117, 101]⟩, ⟨#[115, 101, 97]⟩, ⟨#[116, 104, 101]⟩]
theorem ph4_sz : ∀ x ∈ ph4Zs, x.size ≤ 4 := by decide
/-- What is drawn behind a cursor of the call's own. -/
theorem drawn_below {w W0 w1 : World} {v : Value} {n m : Nat} (h0 : Below w.heap.size w W0) (h : Drawn W0 w1 w.heap.size v n m) : Below w.heap.size w w1 := h0.trans (gb_below h.2.2 (Nat.le_refl _) h0.size)
set_option maxHeartbeats 6400000 in
set_option maxRecDepth 100000 in
theorem drawPhrase (v : Value) (n : Nat) (w : World) (h : CodeAt w v n) :
    Calls Try.prog 28 #[v] w fun e w' => ∃ (x y : Value) (ds ws : List ByteArray), e = .returned (.tuple #[x, y]) ∧ OwnS w' w.heap.size 9 x ds.length (strsV ds) ∧ OwnS w' w.heap.size 9 y ws.length (strsV ws) ∧ ds.length ≤ 13 ∧ (∀ u ∈ ds, u.size ≤ 121) ∧ ws.length ≤ 4 ∧ (∀ u ∈ ws, u.size ≤ 4) ∧ Below w.heap.size w w' := by
  obtain ⟨i0, hi, hzz⟩ := Option.map_eq_some_iff.1 infoSt9d
  simp only [Prod.mk.injEq] at hzz
  obtain ⟨hz0, hz1, hz2⟩ := hzz
  obtain ⟨ad, c, rfl⟩ : ∃ ad c, v = .slice ad n c := by
    obtain ⟨ad, c, e, _⟩ := h
    exact ⟨ad, c, e⟩
  have hbel := (Below.refl w.heap.size w).alloc (Nat.le_refl _) (.cells #[.slice ad n c, .int .i64 0, .int .u64 0] 70)
  obtain ⟨W0, hW0⟩ : ∃ W0, W0 = w.alloc (.cells #[.slice ad n c, .int .i64 0, .int .u64 0] 70) := ⟨_, rfl⟩
  have HK := docsIn w.heap.size (.slice ad n c) n 0 _ (cur_new w (.slice ad n c) 70) (h.bytes hbel (Nat.le_refl _)) (by omega)
  have HBY := hide (h.bytes hbel (Nat.le_refl _) : BytesAt _ w.heap.size (.slice ad n c) n)
  have hg0 : w.heap.size < W0.heap.size := by rw [hW0]; simp
  rw [← hW0] at HK hbel HBY
  have HBE := hide hbel
  clear h hbel
  go_enter Try.func28, Try.ntmps28
  go_wp2_with fail
  rw [← hW0]
  clear hW0
  refine HK.mono ?_
  rintro e w1 ⟨x, ds, rfl, ho, hl, hA, hd⟩
  clear HK
  have HO := hide ho
  have HA := hide hA
  have HD1 := hide hd
  obtain ⟨xa, xc, hxe⟩ := (rows_of_ownS ho).slice
  subst hxe
  clear hd ho hA
  go_wp2_with fail
  refine (pickIn w.heap.size (.slice ad n c) n (0 + 400) 4 w1 HD1.out.1 HD1.out.2.1 (by omega) (by omega) (by omega)).mono ?_
  rintro e w2 ⟨x0, rfl, hx0, hx1, hd2⟩
  have HD2 := hide (HD1.out.trans hd2)
  replace HO := hide (own_drawn hd2 HO.out hg0)
  have HW2 : Hid (w.heap.size < w2.heap.size ∧ W0.heap.size ≤ w2.heap.size) := by have := HD2.out.2.2.size; exact ⟨by omega, this⟩
  have HDLT : Hid (∀ q ∈ obl (.slice xa ds.length xc), q < w2.heap.size) := fun q hq => (own_lt HO.out q hq).2
  clear hd2 HD1
  go_wp2_with fail
  go_loopw [6, 7] (fun y nn wr => ∃ (k : Nat) (z : Int) (l : List ByteArray), nn = .int .i64 z ∧ 0 ≤ z ∧ z + k ≤ 3 ∧ Hid (OwnS wr w2.heap.size 9 y k (strsV l)) ∧ l.length = k ∧ Hid (∀ u ∈ l, u.size ≤ 4) ∧ Hid (OwnS wr W0.heap.size 9 (.slice xa ds.length xc) ds.length (strsV ds)) ∧ w2.heap.size ≤ wr.heap.size ∧ Hid (Drawn W0 wr w.heap.size (.slice ad n c) n (402 + 2 * k))) (fun _ nn _ => (intOf nn).toNat)
  case atStart => exact ⟨0, _, [], rfl, by omega, by omega, OwnS.nil _ _ _, rfl, by simp [Hid], HO.out, Nat.le_refl _, HD2.out⟩
  case round =>
    obtain ⟨k, z, l, rfl, hza, hzb, hL, hlk, hLA, hXX, hws, hD⟩ := hrel
    obtain ⟨ya, yc, hye⟩ := (rows_of_ownS hL.out).slice
    subst hye
    by_cases hlt : 0 < z
    · have HDa := hide (hD.out.below (al9 wr (.cells #[.string ⟨#[114, 101, 100]⟩, .string ⟨#[98, 108, 117, 101]⟩, .string ⟨#[115, 101, 97]⟩, .string ⟨#[116, 104, 101]⟩] 9)))
      have hgr : w.heap.size < wr.heap.size := by have := hD.out.2.2.size; omega
      have HLa := hide (hL.out.alloc (.cells #[.string ⟨#[114, 101, 100]⟩, .string ⟨#[98, 108, 117, 101]⟩, .string ⟨#[115, 101, 97]⟩, .string ⟨#[116, 104, 101]⟩] 9))
      have HXa := hide (hXX.out.alloc (.cells #[.string ⟨#[114, 101, 100]⟩, .string ⟨#[98, 108, 117, 101]⟩, .string ⟨#[115, 101, 97]⟩, .string ⟨#[116, 104, 101]⟩] 9))
      clear hD hL hXX
      go_wp2_with fail
      refine (ofIn w.heap.size (.slice ad n c) n (402 + 2 * k) ph4Zs wr.heap.size 4 _ HDa.out.1 HDa.out.2.1 (by omega) (by decide) (by decide) (by omega) (by intro i hi; match i, hi with | 0, _ => simp [World.cell?_alloc_new, ph4Zs] | 1, _ => simp [World.cell?_alloc_new, ph4Zs] | 2, _ => simp [World.cell?_alloc_new, ph4Zs] | 3, _ => simp [World.cell?_alloc_new, ph4Zs])).mono ?_
      rintro e w4 ⟨u, rfl, hu, hd4⟩
      have HU := hide (ph4_sz u hu)
      have HDD := hide (HDa.out.trans hd4)
      have how := own_drawn hd4 HLa.out (by have := HW2.out; omega)
      have HXX := hide (own_drawn hd4 HXa.out hg0)
      have hws4 : w2.heap.size ≤ w4.heap.size := by have := hd4.2.2.size; simp at this; omega
      clear hd4 HDa HLa HXa hu
      go_wp2_with (first | (at_builtin; refine wplS rfl _ _ 23 rfl w2.heap.size 9 i0 (.string ByteArray.empty) 16 Try.underlying23 hi hz0 hz1 hz2 rfl _ _ _ rfl (how.alloc _) _ 1 [.string u] rfl (news1 _ _ _) ?c1 ?c2 ?c3 ?c4 ?_) | fail)
      case c1 => first | rfl | (intro u hu; simp at hu; subst hu; rfl)
      case c2 => unfold maxLen; omega
      case c3 => omega
      case c4 => first | omega | (simp; omega)
      intro x1 w6 ho1 hg1 he1
      obtain ⟨ya2, yc2, hye⟩ := (rows_of_ownS ho1).slice
      subst hye
      have HL6 : Hid (OwnS w6 w2.heap.size 9 (.slice ya2 (k + 1) yc2) (k + 1) (strsV (l ++ [u]))) := by
        show OwnS _ _ _ _ _ _
        simpa [strsV] using ho1
      have HD6 : Hid (Drawn W0 w6 w.heap.size (.slice ad n c) n (402 + 2 * (k + 1))) := (Drawn.offN HBY.out hg0 (HDD.out.below (al9 _ _)) hg1 (fun q hq => by have := (own_lt how q hq).1; have := HW2.out; omega)).mono8 (by omega)
      have HX6 : Hid (OwnS w6 W0.heap.size 9 (.slice xa ds.length xc) ds.length (strsV ds)) := (HXX.out.alloc _).off hg1 (fun q hq hm => by have h1 := (own_lt how q hm).1; have h2 := HDLT.out q hq; omega)
      have HA6 : Hid (∀ q ∈ l ++ [u], q.size ≤ 4) := fun q hq => by
        rcases List.mem_append.1 hq with h | h
        · exact hLA.out q h
        · simp at h; rw [h]; exact HU.out
      have hsz6 := hg1.size
      simp only [World.size_alloc] at hsz6
      clear ho1 hg1 he1 how HDD HXX HU
      go_wp2
      refine ⟨?_, by simp [intOf]; omega⟩
      first | exact ⟨k + 1, z - 1, l ++ [u], rfl, by omega, by omega, HL6.out, by simp [hlk], HA6.out, HX6.out, by omega, HD6.out⟩ | ((repeat apply Exists.intro); exact ⟨⟨k + 1, z - 1, l ++ [u], rfl, by omega, by omega, HL6.out, by simp [hlk], HA6.out, HX6.out, by omega, HD6.out⟩, rfl⟩)
    · go_wp2_with fail
      refine (oneIn w.heap.size (.slice ad n c) n (402 + 2 * k) 12 wr hD.out.1 hD.out.2.1 (by omega) (by omega) (by omega)).mono ?_
      rintro e w3 ⟨o, rfl, hd3⟩
      have HD3 := hide (hD.out.trans hd3)
      have HL3 := hide (own_drawn hd3 hL.out (by have := HW2.out; omega))
      have HX3 := hide (own_drawn hd3 hXX.out hg0)
      have hws3 : w2.heap.size ≤ w3.heap.size := by have := hd3.2.2.size; omega
      clear hd3 hD hL hXX
      cases o
      · have hbF := drawn_below HBE.out HD3.out
        have HF := hide (own_mono (base' := w.heap.size) HX3.out (by omega))
        have HG := hide (own_mono (base' := w.heap.size) HL3.out (by have := HW2.out; omega))
        subst hlk
        clear HX3 HL3 HD3
        go_wp2
        go_returns
        exact ⟨_, _, ds, l, rfl, HF.out, HG.out, hl, HA.out, by omega, hLA.out, hbF⟩
      · go_wp2_with fail
        refine (wordIn w.heap.size (.slice ad n c) n (402 + 2 * k + 2) w3 (HD3.out.1) HD3.out.2.1 (by omega)).mono ?_
        rintro e w4 ⟨u, rfl, hu, hd4⟩
        have HU := hide hu
        have HDD0 := hide (HD3.out.trans hd4)
        have how := own_drawn hd4 HL3.out (by have := HW2.out; omega)
        have HXX := hide (own_drawn hd4 HX3.out hg0)
        have hws4 : w2.heap.size ≤ w4.heap.size := by have := hd4.2.2.size; omega
        clear hd4 HD3 HL3 HX3 hu
        go_wp2_with (first | (at_builtin; refine wplS rfl _ _ 23 rfl w2.heap.size 9 i0 (.string ByteArray.empty) 16 Try.underlying23 hi hz0 hz1 hz2 rfl _ _ _ rfl (how.alloc _) _ 1 [.string u] rfl (news1 _ _ _) ?c1 ?c2 ?c3 ?c4 ?_) | fail)
        case c1 => first | rfl | (intro u hu; simp at hu; subst hu; rfl)
        case c2 => unfold maxLen; omega
        case c3 => omega
        case c4 => first | omega | (simp; omega)
        intro x1 w6 ho1 hg1 he1
        obtain ⟨ya2, yc2, hye⟩ := (rows_of_ownS ho1).slice
        subst hye
        have hkl : (l ++ [u]).length = k + 1 := by simp [hlk]
        have HL6 : Hid (OwnS w6 w.heap.size 9 (.slice ya2 (k + 1) yc2) (l ++ [u]).length (strsV (l ++ [u]))) := by
          show OwnS _ _ _ _ _ _
          rw [hkl]
          exact own_mono (base' := w.heap.size) (by simpa [strsV] using ho1) (by have := HW2.out; omega)
        have HD6 := hide (Drawn.offN HBY.out hg0 (HDD0.out.below (al9 _ _)) hg1 (fun q hq => by have := (own_lt how q hq).1; have := HW2.out; omega))
        have HX6 : Hid (OwnS w6 w.heap.size 9 (.slice xa ds.length xc) ds.length (strsV ds)) := own_mono (base' := w.heap.size) ((HXX.out.alloc _).off hg1 (fun q hq hm => by have h1 := (own_lt how q hm).1; have h2 := HDLT.out q hq; omega)) (by omega)
        have HA6 : Hid (∀ q ∈ l ++ [u], q.size ≤ 4) := fun q hq => by
          rcases List.mem_append.1 hq with h | h
          · exact hLA.out q h
          · simp at h; rw [h]; exact HU.out
        have hbF := drawn_below HBE.out HD6.out
        clear ho1 hg1 he1 how HDD0 HXX HU HD6
        rw [← hkl] at HL6
        obtain ⟨ll, hll⟩ : ∃ ll, ll = l ++ [u] := ⟨_, rfl⟩
        rw [← hll] at HL6 HA6 hkl
        rw [← hkl]
        clear hll
        go_wp2
        go_returns
        exact ⟨_, _, ds, ll, rfl, HX6.out, HL6.out, hl, HA.out, by omega, HA6.out, hbF⟩
set_option maxHeartbeats 6400000 in
set_option maxRecDepth 100000 in
theorem drawNear (v : Value) (n : Nat) (w : World) (h : CodeAt w v n) :
    Calls Try.prog 31 #[v] w fun e w' => ∃ (x : Value) (ds : List ByteArray) (s u : ByteArray) (y : Int), e = .returned (.tuple #[x, .string s, .string u, .int .i64 y]) ∧ OwnS w' w.heap.size 9 x ds.length (strsV ds) ∧ ds.length ≤ 13 ∧ (∀ u ∈ ds, u.size ≤ 121) ∧ s.size ≤ 4 ∧ u.size ≤ 4 ∧ 0 ≤ y ∧ y ≤ 21 ∧ Below w.heap.size w w' := by
  obtain ⟨ad, c, rfl⟩ : ∃ ad c, v = .slice ad n c := by
    obtain ⟨ad, c, e, _⟩ := h
    exact ⟨ad, c, e⟩
  have hbel := (Below.refl w.heap.size w).alloc (Nat.le_refl _) (.cells #[.slice ad n c, .int .i64 0, .int .u64 0] 70)
  obtain ⟨W0, hW0⟩ : ∃ W0, W0 = w.alloc (.cells #[.slice ad n c, .int .i64 0, .int .u64 0] 70) := ⟨_, rfl⟩
  have HK := docsIn w.heap.size (.slice ad n c) n 0 _ (cur_new w (.slice ad n c) 70) (h.bytes hbel (Nat.le_refl _)) (by omega)
  have hg0 : w.heap.size < W0.heap.size := by rw [hW0]; simp
  rw [← hW0] at HK hbel
  have HBE := hide hbel
  clear h hbel
  go_enter Try.func31, Try.ntmps31
  go_wp2_with fail
  rw [← hW0]
  clear hW0
  refine HK.mono ?_
  rintro e w1 ⟨x, ds, rfl, ho, hl, hA, hd⟩
  clear HK
  have HO := hide ho
  have HA := hide hA
  have HD1 := hide hd
  obtain ⟨xa, xc, hxe⟩ := (rows_of_ownS ho).slice
  subst hxe
  clear hd ho hA
  go_wp2_with fail
  refine (wordIn w.heap.size (.slice ad n c) n (0 + 400) w1 HD1.out.1 HD1.out.2.1 (by omega)).mono ?_
  rintro e w2 ⟨s, rfl, hs, hd2⟩
  have HD2 := hide (HD1.out.trans hd2)
  replace HO := hide (own_drawn hd2 HO.out hg0)
  clear hd2 HD1
  go_wp2_with fail
  refine (wordIn w.heap.size (.slice ad n c) n (0 + 400 + 2) w2 HD2.out.1 HD2.out.2.1 (by omega)).mono ?_
  rintro e w3 ⟨u, rfl, hu, hd3⟩
  have HD3 := hide (HD2.out.trans hd3)
  replace HO := hide (own_drawn hd3 HO.out hg0)
  have hg3 : w.heap.size < w3.heap.size := by have := HD3.out.2.2.size; omega
  have HDa := hide (HD3.out.below (al9 w3 (.cells #[.int .i64 0, .int .i64 1, .int .i64 2, .int .i64 3, .int .i64 20, .int .i64 21] 3)))
  replace HO := hide (HO.out.alloc (.cells #[.int .i64 0, .int .i64 1, .int .i64 2, .int .i64 3, .int .i64 20, .int .i64 21] 3))
  clear hd3 HD2 HD3
  go_wp2_with fail
  refine (amongIn w.heap.size (.slice ad n c) n (0 + 400 + 2 + 2) [0, 1, 2, 3, 20, 21] w3.heap.size 6 _ HDa.out.1 HDa.out.2.1 (by omega) (by simp) (by simp) (by omega) (by intro i hi; match i, hi with | 0, _ => simp [World.cell?_alloc_new] | 1, _ => simp [World.cell?_alloc_new] | 2, _ => simp [World.cell?_alloc_new] | 3, _ => simp [World.cell?_alloc_new] | 4, _ => simp [World.cell?_alloc_new] | 5, _ => simp [World.cell?_alloc_new])).mono ?_
  rintro e w4 ⟨y, rfl, hy, hd4⟩
  have hyb : 0 ≤ y ∧ y ≤ 21 := by simp at hy; omega
  have hbF := drawn_below HBE.out (HDa.out.trans hd4)
  have HF := hide (own_mono (base' := w.heap.size) (own_drawn hd4 HO.out hg0) (by omega))
  clear hd4 HDa HO hy
  go_wp2
  go_returns
  exact ⟨_, ds, s, u, y, rfl, HF.out, hl, HA.out, hs, hu, hyb.1, hyb.2, hbF⟩
end Go.Proofs.Ytkkmnegmghllpaa
