/- The contract of a drawn mix: some mix. Condition: the cursor's block and its bytes lie in memory. -/
import Derived.Test.YtmnebdgoombfoaaDoorText
import Derived.Test.YtmnebdgoombfoaaDoorSpecFeed
import Derived.Deep.RegionHeld3
import Derived.Deep.DeepCutAuto
import Derived.Deep.DrawnRows
namespace Go.Proofs.YtmnebdgoombfoaaDoor
open Go.ChangeShapes Go.WideShapes Go.ChangeAt Go.RowKit Go.Deep
set_option linter.unusedVariables false
attribute [local go_sem ↓] Go.wp_at_zero Go.wp_at_succ

theorem specNewNo (k : Int) (w : World) (h : ¬ (97 ≤ k ∧ k ≤ 122)) :
    Calls Tryd.prog 20 #[.int .u8 k] w fun e w' => e = .returned (.tuple #[.agg #[.int .i64 0, .int .i64 0, .int .i64 0], .bool false]) ∧ Below w.heap.size w w' := by
  by_cases h0 : 97 ≤ k
  · have h1 : ¬ k ≤ 122 := fun h1 => h ⟨h0, h1⟩
    clear h
    go_enter Tryd.func20, Tryd.ntmps20
    go_wp2
    go_returns
    exact ⟨rfl, by go_grown⟩
  · clear h
    go_enter Tryd.func20, Tryd.ntmps20
    go_wp2
    go_returns
    exact ⟨rfl, by go_grown⟩
theorem specNewAny (k : Int) (w : World) :
    Calls Tryd.prog 20 #[.int .u8 k] w fun e w' => ∃ a b l o, e = .returned (.tuple #[.agg #[.int .i64 a, .int .i64 b, .int .i64 l], .bool o]) ∧ Below w.heap.size w w' := by
  by_cases h : 97 ≤ k ∧ k ≤ 122
  · exact (specNewYes k w h.1 h.2).mono fun e w' ⟨h1, h2⟩ => ⟨_, _, _, _, h1, h2⟩
  · exact (specNewNo k w h).mono fun e w' ⟨h1, h2⟩ => ⟨_, _, _, _, h1, h2⟩
theorem notFeedNo {a b l : Int} {n : Nat} (h : ¬ FeedNo a b l n) : goodB a b l = true ∧ n ≤ 600 ∧ l + n ≤ 1000000 := by
  have g1 : goodB a b l = true := by
    cases e : goodB a b l
    · exact absurd (.inl e) h
    · rfl
  have g2 : n ≤ 600 := by
    rcases Nat.lt_or_ge 600 n with e | e
    · exact absurd (.inr (.inl ⟨g1, e⟩)) h
    · exact e
  refine ⟨g1, g2, ?_⟩
  rcases Int.lt_or_le 1000000 (l + n) with e | e
  · exact absurd (.inr (.inr ⟨g1, g2, e⟩)) h
  · exact e
theorem specFeedAny (a b l : Int) (s : ByteArray) (w : World) (hs : s.size ≤ maxLen) :
    Calls Tryd.prog 11 #[.agg #[.int .i64 a, .int .i64 b, .int .i64 l], .string s] w fun e w' => ∃ x y z o, e = .returned (.tuple #[.agg #[.int .i64 x, .int .i64 y, .int .i64 z], .bool o]) ∧ Below w.heap.size w w' := by
  by_cases h : FeedNo a b l s.size
  · exact (specFeedNo a b l s w hs h).mono fun e w' ⟨h1, h2⟩ => ⟨_, _, _, _, h1, h2⟩
  · obtain ⟨h1, h2, h3⟩ := notFeedNo h
    exact (specFeedYes a b l s w h1 h2 h3).mono fun e w' ⟨h1, h2⟩ => ⟨_, _, _, _, h1, h2⟩

theorem ocell {W w1 : World} {g : Nat} (h : W.grownBy w1 (some g)) : (∀ b o, b < W.heap.size → b ≠ g → w1.cell? ⟨b, o, none⟩ = W.cell? ⟨b, o, none⟩) ∧ (∀ b o, b < W.heap.size → b ≠ g → w1.frozen? ⟨b, o, none⟩ = W.frozen? ⟨b, o, none⟩) :=
  ⟨fun b o hb hn => World.cell?_of_block (a := ⟨b, o, none⟩) (h.block b hb (fun e => hn (by cases e; rfl))), fun b o hb hn => World.frozen?_of_block (a := ⟨b, o, none⟩) (h.block b hb (fun e => hn (by cases e; rfl)))⟩
theorem Three.drawn {W w1 : World} {g B : Nat} {x y z : Int} (h : Three W B x y z) (hg : W.grownBy w1 (some g)) (hn : B ≠ g) : Three w1 B x y z := by
  have hl := h.lt
  obtain ⟨h0, h1, h2, h3, h4, h5⟩ := h
  obtain ⟨hc, hf⟩ := ocell hg
  exact ⟨(hc _ _ hl hn).trans h0, (hc _ _ hl hn).trans h1, (hc _ _ hl hn).trans h2, (hf _ _ hl hn).trans h3, (hf _ _ hl hn).trans h4, (hf _ _ hl hn).trans h5⟩
theorem three_new (w : World) (x y z : Int) (t : TypeId) : Three (w.alloc (.cells #[.int .i64 x, .int .i64 y, .int .i64 z] t)) w.heap.size x y z := by simp [Three]

theorem Drawn.alloc {w w1 : World} {g : Nat} {v : Value} {n m : Nat} (h : Drawn w w1 g v n m) (o : Obj) : Drawn w (w1.alloc o) g v n m := h.below ((Below.refl _ w1).alloc (Nat.le_refl _) o)
theorem Drawn.drew {w w1 : World} {g : Nat} {v : Value} {n m : Nat} (h : Drawn w w1 g v n m) : Drawn w w1.drew g v n m := h.below ((Below.refl _ w1).drew)

theorem three_set {W : World} {B : Nat} {a b c : Int} (h : Three W B a b c) (x y z : Int) : Three (((W.setCell ⟨B, 0, none⟩ (.int .i64 x)).setCell ⟨B, 1, none⟩ (.int .i64 y)).setCell ⟨B, 2, none⟩ (.int .i64 z)) B x y z := by
  obtain ⟨h0, h1, h2, h3, h4, h5⟩ := h
  simp [Three, *, go_sem]
theorem Three.far {W : World} {B : Nat} {a b c : Int} (h : Three W B a b c) (p : Addr) (hp : p.block ≠ B) (u : Value) : Three (W.setCell p u) B a b c := by
  obtain ⟨h0, h1, h2, h3, h4, h5⟩ := h
  have hk := Below.heap_setCell W p u B (fun e => hp e.symm)
  exact ⟨(World.cell?_of_block (a := ⟨B, 0, none⟩) hk).trans h0, (World.cell?_of_block (a := ⟨B, 1, none⟩) hk).trans h1, (World.cell?_of_block (a := ⟨B, 2, none⟩) hk).trans h2,
    (World.frozen?_of_block (a := ⟨B, 0, none⟩) hk).trans h3, (World.frozen?_of_block (a := ⟨B, 1, none⟩) hk).trans h4, (World.frozen?_of_block (a := ⟨B, 2, none⟩) hk).trans h5⟩
theorem hide {p : Prop} (h : p) : Hid p := h
theorem unhide {p : Prop} (h : Hid p) : p := h

theorem among4 (w : World) (t : TypeId) : ∀ i, i < ([0, 1, 65520, 65521] : List Int).length → (w.alloc (.cells #[.int .i64 0, .int .i64 1, .int .i64 65520, .int .i64 65521] t)).cell? ⟨w.heap.size, i, none⟩ = some (.int .i64 (([0, 1, 65520, 65521] : List Int).getD i 0)) := by
  intro i hi
  have h : i < 4 := hi
  match i, h with
  | 0, _ => simp
  | 1, _ => simp
  | 2, _ => simp
  | 3, _ => simp
theorem among2 (w : World) (t : TypeId) : ∀ i, i < ([0, 65520] : List Int).length → (w.alloc (.cells #[.int .i64 0, .int .i64 65520] t)).cell? ⟨w.heap.size, i, none⟩ = some (.int .i64 (([0, 65520] : List Int).getD i 0)) := by
  intro i hi
  have h : i < 2 := hi
  match i, h with
  | 0, _ => simp
  | 1, _ => simp
theorem among3 (w : World) (t : TypeId) : ∀ i, i < ([0, 3, 1000000] : List Int).length → (w.alloc (.cells #[.int .i64 0, .int .i64 3, .int .i64 1000000] t)).cell? ⟨w.heap.size, i, none⟩ = some (.int .i64 (([0, 3, 1000000] : List Int).getD i 0)) := by
  intro i hi
  have h : i < 3 := hi
  match i, h with
  | 0, _ => simp
  | 1, _ => simp
  | 2, _ => simp

set_option maxHeartbeats 3200000 in
theorem mixIn (g : Nat) (v : Value) (n m : Nat) (w : World) (hc : CurAt w g v m) (hb : BytesAt w g v n) (hm : m ≤ 1000000 - 400) :
    Calls Tryd.prog 38 #[.pointer (some ⟨g, 0, none⟩)] w fun e w' => ∃ a b l : Int, e = .returned (.agg #[.int .i64 a, .int .i64 b, .int .i64 l]) ∧ Drawn w w' g v n (m + 200) := by
  have hgl := hc.lt
  have HB0 : Hid (BytesAt w g v n) := hb
  have hbel : Below w.heap.size w (w.alloc (.cells #[.int .i64 0, .int .i64 0, .int .i64 0] 24)) := (Below.refl _ w).alloc (Nat.le_refl _) _
  have HK := kindIn g v n m _ (hc.below hbel) (hb.kept (gb_of_below hbel)) (by omega)
  have HBEL : Hid (Below w.heap.size w (w.alloc (.cells #[.int .i64 0, .int .i64 0, .int .i64 0] 24))) := hbel
  clear hc hb hbel
  go_enter Tryd.func38, Tryd.ntmps38
  go_wp2_with fail
  refine HK.mono ?_
  rintro e w1 ⟨k, rfl, hk0, hk1, hd1⟩
  clear HK
  have HT1 : Hid (Three w1 w.heap.size 0 0 0) := (three_new w 0 0 0 24).drawn hd1.2.2 (by omega)
  have HD1 : Hid (Drawn w w1 g v n (m + 2)) := hd1.start HBEL.out
  have hl1 := hd1.2.2.size
  simp only [World.size_alloc] at hl1
  clear hd1 HBEL
  go_wp2_with fail
  refine (specNewAny k _).mono ?_
  rintro e w2 ⟨a, b, l, o, rfl, hb2⟩
  have hl2 := hb2.size
  have HT2 : Hid (Three w2 w.heap.size 0 0 0) := HT1.out.below hb2
  have HD2 : Hid (Drawn w w2 g v n (m + 2)) := HD1.out.below hb2
  clear hb2 HT1 HD1
  have hbel : Below w2.heap.size w2 (w2.alloc (.cells #[.int .i64 a, .int .i64 b, .int .i64 l] 24)) := (Below.refl _ w2).alloc (Nat.le_refl _) _
  have HD3 : Hid (Drawn w (w2.alloc (.cells #[.int .i64 a, .int .i64 b, .int .i64 l] 24)) g v n (m + 2)) := HD2.out.below hbel
  have HT3 : Hid (Three (w2.alloc (.cells #[.int .i64 a, .int .i64 b, .int .i64 l] 24)) w.heap.size 0 0 0) := HT2.out.below hbel
  have HM3 : Hid (Three (w2.alloc (.cells #[.int .i64 a, .int .i64 b, .int .i64 l] 24)) w2.heap.size a b l) := three_new w2 a b l 24
  clear hbel HD2 HT2
  cases o
  · have hne0 : w.heap.size ≠ g := by omega
    have hne1 : w2.heap.size ≠ g := by omega
    have hr4 := among4 (w2.alloc (.cells #[.int .i64 a, .int .i64 b, .int .i64 l] 24)) 3
    simp only [World.size_alloc] at hr4
    have hb4 := (Below.refl _ (w2.alloc (.cells #[.int .i64 a, .int .i64 b, .int .i64 l] 24))).alloc (Nat.le_refl _) (.cells #[.int .i64 0, .int .i64 1, .int .i64 65520, .int .i64 65521] 3)
    have HA4 := amongIn g v n (m + 2) [0, 1, 65520, 65521] (w2.heap.size + 1) 4 _ (HD3.out.below hb4).1 (HD3.out.below hb4).2.1 (by omega) (by decide) (by decide) (by omega) hr4
    have HB4 := hide hb4
    clear hr4 hb4
    go_wp2_with fail
    refine HA4.mono ?_
    rintro e w3 ⟨x1, rfl, hx1, hd3⟩
    clear HA4 hx1
    have HD4 : Hid (Drawn w w3 g v n (m + 2 + 2)) := (HD3.out.below (unhide HB4)).trans hd3
    have HT4 : Hid (Three w3 w.heap.size 0 0 0) := (HT3.out.below (unhide HB4)).drawn hd3.2.2 hne0
    have HM4 : Hid (Three w3 w2.heap.size a b l) := (HM3.out.below (unhide HB4)).drawn hd3.2.2 hne1
    clear hd3 HB4 HD3 HT3 HM3
    have hl3 := HT4.out.lt
    have hr5 := among2 w3 3
    have hb5 := (Below.refl _ w3).alloc (Nat.le_refl _) (.cells #[.int .i64 0, .int .i64 65520] 3)
    have HA5 := amongIn g v n (m + 2 + 2) [0, 65520] w3.heap.size 2 _ (HD4.out.below hb5).1 (HD4.out.below hb5).2.1 (by omega) (by decide) (by decide) (by omega) hr5
    have HB5 := hide hb5
    clear hr5 hb5
    go_wp2_with fail
    refine HA5.mono ?_
    rintro e w4 ⟨x2, rfl, hx2, hd4⟩
    clear HA5 hx2
    have HD5 : Hid (Drawn w w4 g v n (m + 2 + 2 + 2)) := (HD4.out.below (unhide HB5)).trans hd4
    have HT5 : Hid (Three w4 w.heap.size 0 0 0) := (HT4.out.below (unhide HB5)).drawn hd4.2.2 hne0
    have HM5 : Hid (Three w4 w2.heap.size a b l) := (HM4.out.below (unhide HB5)).drawn hd4.2.2 hne1
    clear hd4 HB5 HD4 HT4 HM4
    have hl4 := HT5.out.lt
    have hr6 := among3 w4 3
    have hb6 := (Below.refl _ w4).alloc (Nat.le_refl _) (.cells #[.int .i64 0, .int .i64 3, .int .i64 1000000] 3)
    have HA6 := amongIn g v n (m + 2 + 2 + 2) [0, 3, 1000000] w4.heap.size 3 _ (HD5.out.below hb6).1 (HD5.out.below hb6).2.1 (by omega) (by decide) (by decide) (by omega) hr6
    have HB6 := hide hb6
    clear hr6 hb6
    go_wp2_with fail
    refine HA6.mono ?_
    rintro e w5 ⟨x3, rfl, hx3, hd5⟩
    clear HA6 hx3
    have HD6 : Hid (Drawn w w5 g v n (m + 2 + 2 + 2 + 2)) := (HD5.out.below (unhide HB6)).trans hd5
    have HT6 : Hid (Three w5 w.heap.size 0 0 0) := (HT5.out.below (unhide HB6)).drawn hd5.2.2 hne0
    have HM6 : Hid (Three w5 w2.heap.size a b l) := (HM5.out.below (unhide HB6)).drawn hd5.2.2 hne1
    clear hd5 HB6 HD5 HT5 HM5
    obtain ⟨y0, y1, y2, yf0, yf1, yf2⟩ := HM6.out
    go_wp2_with fail
    have HD : Hid (Drawn w (((w5.setCell ⟨w2.heap.size, 0, none⟩ (.int .i64 x1)).setCell ⟨w2.heap.size, 1, none⟩ (.int .i64 x2)).setCell ⟨w2.heap.size, 2, none⟩ (.int .i64 x3)) g v n (m + 2 + 2 + 2 + 2)) :=
      ((HD6.out.set HB0.out ⟨w2.heap.size, 0, none⟩ hne1 (by simp only []; omega) _).set HB0.out ⟨w2.heap.size, 1, none⟩ hne1 (by simp only []; omega) _).set HB0.out ⟨w2.heap.size, 2, none⟩ hne1 (by simp only []; omega) _
    have HM : Hid (Three (((w5.setCell ⟨w2.heap.size, 0, none⟩ (.int .i64 x1)).setCell ⟨w2.heap.size, 1, none⟩ (.int .i64 x2)).setCell ⟨w2.heap.size, 2, none⟩ (.int .i64 x3)) w2.heap.size x1 x2 x3) := three_set HM6.out x1 x2 x3
    have HT : Hid (Three (((w5.setCell ⟨w2.heap.size, 0, none⟩ (.int .i64 x1)).setCell ⟨w2.heap.size, 1, none⟩ (.int .i64 x2)).setCell ⟨w2.heap.size, 2, none⟩ (.int .i64 x3)) w.heap.size 0 0 0) :=
      ((HT6.out.far ⟨w2.heap.size, 0, none⟩ (by simp only []; omega) _).far ⟨w2.heap.size, 1, none⟩ (by simp only []; omega) _).far ⟨w2.heap.size, 2, none⟩ (by simp only []; omega) _
    clear HD6 HT6 HM6 y0 y1 y2 yf0 yf1 yf2
    generalize hWW : ((w5.setCell ⟨w2.heap.size, 0, none⟩ (.int .i64 x1)).setCell ⟨w2.heap.size, 1, none⟩ (.int .i64 x2)).setCell ⟨w2.heap.size, 2, none⟩ (.int .i64 x3) = W at *
    clear hWW hne0 hne1
    obtain ⟨m0, m1, m2, mf0, mf1, mf2⟩ := HM.out
    obtain ⟨r0, r1, r2, rf0, rf1, rf2⟩ := HT.out
    have hlt2 := HM.out.lt
    have hlt2' : w2.heap.size < W.heap.size + 1 := by omega
    have hlt0 : w.heap.size < W.heap.size := by omega
    have hlt0' : w.heap.size < W.heap.size + 1 := by omega
    have hne0 : w.heap.size ≠ g := by omega
    have hne1 : w2.heap.size ≠ g := by omega
    have hne2 : W.heap.size ≠ g := by omega
    have hnf : w2.heap.size ≠ w.heap.size := by omega
    have hnf' : w.heap.size ≠ w2.heap.size := by omega
    have hng : W.heap.size ≠ w.heap.size := by omega
    have hng' : W.heap.size ≠ w2.heap.size := by omega
    go_region_held3 (fun w' => w'.cell? ⟨w2.heap.size, 0, none⟩ = some (.int .i64 x1) ∧ w'.cell? ⟨w2.heap.size, 1, none⟩ = some (.int .i64 x2) ∧ w'.cell? ⟨w2.heap.size, 2, none⟩ = some (.int .i64 x3)) (go_keep)
      (first
        | (go_at_call 39; refine (textIn g v n (m + 2 + 2 + 2 + 2) _ ((HD.out.below (by go_grown)).1) ((HD.out.below (by go_grown)).2.1) (by omega)).mono ?_; rintro e w6 ⟨s, rfl, hs6, hd6⟩; obtain ⟨hc6, hf6⟩ := ocell hd6.2.2; have hp6a := (fun o => hc6 w.heap.size o (by go_size) hne0); have hp6b := (fun o => hc6 w2.heap.size o (by go_size) hne1); have hp6c := (fun o => hf6 w.heap.size o (by go_size) hne0); have hz6 := hd6.2.2.size; (try simp only [World.size_drew] at hz6); (try simp only [World.size_setCell] at hz6); (try simp only [World.size_alloc] at hz6); have hx6_0 : w.heap.size < w6.heap.size := (by omega); have hu6_0 : w.heap.size ≠ w6.heap.size := (by omega); have hv6_0 : w6.heap.size ≠ w.heap.size := (by omega); have hx6_1 : w2.heap.size < w6.heap.size := (by omega); have hu6_1 : w2.heap.size ≠ w6.heap.size := (by omega); have hv6_1 : w6.heap.size ≠ w2.heap.size := (by omega); (try have hm6 : W.heap.size < w6.heap.size := (by omega)); have ht6 : ∀ b, b < _ → b < w6.heap.size := (fun b hb => Nat.lt_of_lt_of_le hb hd6.2.2.size); have HD6 : Hid (Drawn w w6 g v n (m + 2 + 2 + 2 + 2 + 100)) := (Drawn.trans (HD.out.below (by go_grown)) hd6); have hg6 : w6.heap.size ≠ g := (by omega); clear hd6 hz6)
        | (go_at_call 11; refine (specFeedAny x1 x2 x3 s _ (by unfold maxLen; omega)).mono ?_; rintro e w7 ⟨x, y, z, o2, rfl, hb7⟩; obtain ⟨hc7, hf7⟩ := bcell hb7; have hp7a := (fun o => hc7 w.heap.size o (by go_size)); have hp7b := (fun o => hc7 w2.heap.size o (by go_size)); have hp7c := (fun o => hf7 w.heap.size o (by go_size)); have hz7 := hb7.size; (try simp only [World.size_drew] at hz7); (try simp only [World.size_setCell] at hz7); (try simp only [World.size_alloc] at hz7); have hx7_0 : w.heap.size < w7.heap.size := (by omega); have hu7_0 : w.heap.size ≠ w7.heap.size := (by omega); have hv7_0 : w7.heap.size ≠ w.heap.size := (by omega); have hx7_1 : w2.heap.size < w7.heap.size := (by omega); have hu7_1 : w2.heap.size ≠ w7.heap.size := (by omega); have hv7_1 : w7.heap.size ≠ w2.heap.size := (by omega); (try have hm7 : W.heap.size < w7.heap.size := (by omega)); (try have hj7 : w6.heap.size < w7.heap.size := (by omega)); have HD7 : Hid (Drawn w w7 g v n (m + 2 + 2 + 2 + 2 + 100)) := ((HD6.out.below (by go_grown)).below hb7); clear hb7 hz7))
    all_goals
      have hD7 := HD7.out
      cases o2 with
      | false =>
        go_wp2
        exact bodyPost_ret (v := .agg #[.int .i64 x1, .int .i64 x2, .int .i64 x3]) (by simp [results, Tryd.results38, go_sem, *]) rfl ⟨x1, x2, x3, rfl, by refine Drawn.mono (m := m + 2 + 2 + 2 + 2 + 100) ?_ (by omega); repeat' (first | (with_reducible exact hD7) | (with_reducible refine Drawn.alloc ?_ _) | (with_reducible refine Drawn.drew ?_) | (with_reducible refine Drawn.set ?_ HB0.out _ ?_ ?_ _) | omega | (simp only []; omega))⟩
      | true =>
        go_wp2
        exact bodyPost_ret (v := .agg #[.int .i64 x, .int .i64 y, .int .i64 z]) (by simp [results, Tryd.results38, go_sem, *]) rfl ⟨x, y, z, rfl, by refine Drawn.mono (m := m + 2 + 2 + 2 + 2 + 100) ?_ (by omega); repeat' (first | (with_reducible exact hD7) | (with_reducible refine Drawn.alloc ?_ _) | (with_reducible refine Drawn.drew ?_) | (with_reducible refine Drawn.set ?_ HB0.out _ ?_ ?_ _) | omega | (simp only []; omega))⟩
  · go_wp2_with fail
    generalize hWW : w2.alloc (.cells #[.int .i64 a, .int .i64 b, .int .i64 l] 24) = W at *
    clear hWW
    have HD := HD3
    have HT := HT3
    have HM := HM3
    clear HD3 HT3 HM3
    obtain ⟨m0, m1, m2, mf0, mf1, mf2⟩ := HM.out
    obtain ⟨r0, r1, r2, rf0, rf1, rf2⟩ := HT.out
    have hlt2 := HM.out.lt
    have hlt2' : w2.heap.size < W.heap.size + 1 := by omega
    have hlt0 : w.heap.size < W.heap.size := by omega
    have hlt0' : w.heap.size < W.heap.size + 1 := by omega
    have hne0 : w.heap.size ≠ g := by omega
    have hne1 : w2.heap.size ≠ g := by omega
    have hne2 : W.heap.size ≠ g := by omega
    have hnf : w2.heap.size ≠ w.heap.size := by omega
    have hnf' : w.heap.size ≠ w2.heap.size := by omega
    have hng : W.heap.size ≠ w.heap.size := by omega
    have hng' : W.heap.size ≠ w2.heap.size := by omega
    go_region_held3 (fun w' => w'.cell? ⟨w2.heap.size, 0, none⟩ = some (.int .i64 a) ∧ w'.cell? ⟨w2.heap.size, 1, none⟩ = some (.int .i64 b) ∧ w'.cell? ⟨w2.heap.size, 2, none⟩ = some (.int .i64 l)) (go_keep)
      (first
        | (go_at_call 39; refine (textIn g v n (m + 2) _ ((HD.out.below (by go_grown)).1) ((HD.out.below (by go_grown)).2.1) (by omega)).mono ?_; rintro e w6 ⟨s, rfl, hs6, hd6⟩; obtain ⟨hc6, hf6⟩ := ocell hd6.2.2; have hp6a := (fun o => hc6 w.heap.size o (by go_size) hne0); have hp6b := (fun o => hc6 w2.heap.size o (by go_size) hne1); have hp6c := (fun o => hf6 w.heap.size o (by go_size) hne0); have hz6 := hd6.2.2.size; (try simp only [World.size_drew] at hz6); (try simp only [World.size_setCell] at hz6); (try simp only [World.size_alloc] at hz6); have hx6_0 : w.heap.size < w6.heap.size := (by omega); have hu6_0 : w.heap.size ≠ w6.heap.size := (by omega); have hv6_0 : w6.heap.size ≠ w.heap.size := (by omega); have hx6_1 : w2.heap.size < w6.heap.size := (by omega); have hu6_1 : w2.heap.size ≠ w6.heap.size := (by omega); have hv6_1 : w6.heap.size ≠ w2.heap.size := (by omega); (try have hm6 : W.heap.size < w6.heap.size := (by omega)); have ht6 : ∀ b, b < _ → b < w6.heap.size := (fun b hb => Nat.lt_of_lt_of_le hb hd6.2.2.size); have HD6 : Hid (Drawn w w6 g v n (m + 2 + 100)) := (Drawn.trans (HD.out.below (by go_grown)) hd6); have hg6 : w6.heap.size ≠ g := (by omega); clear hd6 hz6)
        | (go_at_call 11; refine (specFeedAny a b l s _ (by unfold maxLen; omega)).mono ?_; rintro e w7 ⟨x, y, z, o2, rfl, hb7⟩; obtain ⟨hc7, hf7⟩ := bcell hb7; have hp7a := (fun o => hc7 w.heap.size o (by go_size)); have hp7b := (fun o => hc7 w2.heap.size o (by go_size)); have hp7c := (fun o => hf7 w.heap.size o (by go_size)); have hz7 := hb7.size; (try simp only [World.size_drew] at hz7); (try simp only [World.size_setCell] at hz7); (try simp only [World.size_alloc] at hz7); have hx7_0 : w.heap.size < w7.heap.size := (by omega); have hu7_0 : w.heap.size ≠ w7.heap.size := (by omega); have hv7_0 : w7.heap.size ≠ w.heap.size := (by omega); have hx7_1 : w2.heap.size < w7.heap.size := (by omega); have hu7_1 : w2.heap.size ≠ w7.heap.size := (by omega); have hv7_1 : w7.heap.size ≠ w2.heap.size := (by omega); (try have hm7 : W.heap.size < w7.heap.size := (by omega)); (try have hj7 : w6.heap.size < w7.heap.size := (by omega)); have HD7 : Hid (Drawn w w7 g v n (m + 2 + 100)) := ((HD6.out.below (by go_grown)).below hb7); clear hb7 hz7))
    all_goals
      have hD7 := HD7.out
      cases o2 with
      | false =>
        go_wp2
        exact bodyPost_ret (v := .agg #[.int .i64 a, .int .i64 b, .int .i64 l]) (by simp [results, Tryd.results38, go_sem, *]) rfl ⟨a, b, l, rfl, by refine Drawn.mono (m := m + 2 + 100) ?_ (by omega); repeat' (first | (with_reducible exact hD7) | (with_reducible refine Drawn.alloc ?_ _) | (with_reducible refine Drawn.drew ?_) | (with_reducible refine Drawn.set ?_ HB0.out _ ?_ ?_ _) | omega | (simp only []; omega))⟩
      | true =>
        go_wp2
        exact bodyPost_ret (v := .agg #[.int .i64 x, .int .i64 y, .int .i64 z]) (by simp [results, Tryd.results38, go_sem, *]) rfl ⟨x, y, z, rfl, by refine Drawn.mono (m := m + 2 + 100) ?_ (by omega); repeat' (first | (with_reducible exact hD7) | (with_reducible refine Drawn.alloc ?_ _) | (with_reducible refine Drawn.drew ?_) | (with_reducible refine Drawn.set ?_ HB0.out _ ?_ ?_ _) | omega | (simp only []; omega))⟩
end Go.Proofs.YtmnebdgoombfoaaDoor
