/- Contracts of FeedMix, program and model: both feed the bytes one by one, or refuse alike. Condition: the table of weights as it is laid. -/
import Derived.Test.YtgjcegmjhkehnaaDoorPieceFeed
import Derived.Deep.RegionWith
import Derived.Deep.DrawnRows
namespace Go.Proofs.YtgjcegmjhkehnaaDoor
open Go.ChangeShapes Go.WideShapes Go.ChangeAt Go.RowKit
set_option linter.unusedVariables false

def FeedNo (a b l : Int) (n : Nat) : Prop := goodB a b l = false ∨ (goodB a b l = true ∧ 600 < n) ∨ (goodB a b l = true ∧ n ≤ 600 ∧ 1000000 < l + n)

set_option maxHeartbeats 800000 in
theorem implFeedNo (a b l : Int) (s : ByteArray) (w : World) (hs : s.size ≤ maxLen) (h : FeedNo a b l s.size) :
    Calls Tryd.prog 113 #[.agg #[.int .i64 a, .int .i64 b, .int .i64 l], .string s] w fun e w' => e = .returned (.tuple #[.agg #[.int .i64 0, .int .i64 0, .int .i64 0], .bool false]) ∧ Below w.heap.size w w' := by
  unfold maxLen at hs
  rcases h with h | ⟨h, h2⟩ | ⟨h, h2, h3⟩
  · go_enter Tryd.func113, Tryd.ntmps113
    go_wp2_with fail
    refine (implGood a b l _).mono ?_
    rintro e w1 ⟨rfl, hb1⟩
    obtain ⟨hc1, hf1⟩ := bcell hb1
    have hz1 := hb1.size
    try simp only [World.size_drew] at hz1
    try simp only [World.size_setCell] at hz1
    try simp only [World.size_alloc] at hz1
    have hz1_0 : w.heap.size < w1.heap.size := by omega
    have hz1_1 : w.heap.size + 1 < w1.heap.size := by omega
    clear hz1
    have k1 : Below w.heap.size w w1 := by
      refine Below.trans ?_ (hb1.mono ?_)
      · go_grown
      · go_size
    have hl1 : w.heap.size ≤ w1.heap.size := k1.size
    clear hb1
    go_wp2
    exact bodyPost_ret (v := .tuple #[.agg #[.int .i64 0, .int .i64 0, .int .i64 0], .bool false]) (by simp [results, Tryd.results113, go_sem, hc1]) rfl ⟨rfl, by go_grown⟩
  · go_enter Tryd.func113, Tryd.ntmps113
    go_wp2_with fail
    refine (implGood a b l _).mono ?_
    rintro e w1 ⟨rfl, hb1⟩
    obtain ⟨hc1, hf1⟩ := bcell hb1
    have hz1 := hb1.size
    try simp only [World.size_drew] at hz1
    try simp only [World.size_setCell] at hz1
    try simp only [World.size_alloc] at hz1
    have hz1_0 : w.heap.size < w1.heap.size := by omega
    have hz1_1 : w.heap.size + 1 < w1.heap.size := by omega
    clear hz1
    have k1 : Below w.heap.size w w1 := by
      refine Below.trans ?_ (hb1.mono ?_)
      · go_grown
      · go_size
    have hl1 : w.heap.size ≤ w1.heap.size := k1.size
    clear hb1
    go_wp2
    exact bodyPost_ret (v := .tuple #[.agg #[.int .i64 0, .int .i64 0, .int .i64 0], .bool false]) (by simp [results, Tryd.results113, go_sem, hc1]) rfl ⟨rfl, by go_grown⟩
  · obtain ⟨ha0, ha1, hb0, hb1, hl0, hl1⟩ := goodB_true.1 h
    go_enter Tryd.func113, Tryd.ntmps113
    go_wp2_with fail
    refine (implGood a b l _).mono ?_
    rintro e w1 ⟨rfl, hb1⟩
    obtain ⟨hc1, hf1⟩ := bcell hb1
    have hz1 := hb1.size
    try simp only [World.size_drew] at hz1
    try simp only [World.size_setCell] at hz1
    try simp only [World.size_alloc] at hz1
    have hz1_0 : w.heap.size < w1.heap.size := by omega
    have hz1_1 : w.heap.size + 1 < w1.heap.size := by omega
    clear hz1
    have k1 : Below w.heap.size w w1 := by
      refine Below.trans ?_ (hb1.mono ?_)
      · go_grown
      · go_size
    have hl1 : w.heap.size ≤ w1.heap.size := k1.size
    clear hb1
    go_wp2
    exact bodyPost_ret (v := .tuple #[.agg #[.int .i64 0, .int .i64 0, .int .i64 0], .bool false]) (by simp [results, Tryd.results113, go_sem, hc1]) rfl ⟨rfl, by go_grown⟩

theorem extract_bytes (s : ByteArray) (k e : Nat) (he : e ≤ s.size) : (s.extract k e).data.toList = (s.data.toList.take e).drop k := by
  simp [List.drop_take]
theorem feed_on (p : Int × Int) (s : ByteArray) (k e : Nat) (hk : k ≤ e) (he : e ≤ s.size) : feed (feed p (s.data.toList.take k)) (s.extract k e).data.toList = feed p (s.data.toList.take e) := by
  rw [extract_bytes s k e he, ← feed_append]
  congr 1
  have : s.data.toList.take k = (s.data.toList.take e).take k := by rw [List.take_take, Nat.min_eq_left hk]
  rw [this, List.take_append_drop]

theorem pieceFeed2 (a b l : Int) (s : ByteArray) (w : World) (x y z : Int) (hq : feed (a, b) s.data.toList = (x, y)) (hn : l + (s.size : Int) = z) (ha0 : 0 ≤ a) (ha1 : a ≤ 65520) (hb0 : 0 ≤ b) (hb1 : b ≤ 65520) (hl0 : 0 ≤ l) (hl1 : l ≤ 1000000) (hs : s.size ≤ 8) (ht : Table w) :
    Calls Tryd.prog 150 #[.agg #[.int .i64 a, .int .i64 b, .int .i64 l], .string s] w fun e w' => e = .returned (.agg #[.int .i64 x, .int .i64 y, .int .i64 z]) ∧ Below w.heap.size w w' := by
  have h := pieceFeed a b l s w ha0 ha1 hb0 hb1 hl0 hl1 hs ht
  rw [hq, hn] at h
  exact h

set_option maxHeartbeats 1600000 in
set_option maxRecDepth 100000 in
theorem implFeedYes (a b l : Int) (s : ByteArray) (w : World) (h : goodB a b l = true) (h2 : s.size ≤ 600) (h3 : l + s.size ≤ 1000000) (ht : Table w) :
    Calls Tryd.prog 113 #[.agg #[.int .i64 a, .int .i64 b, .int .i64 l], .string s] w fun e w' => e = .returned (.tuple #[.agg #[.int .i64 (feed (a, b) s.data.toList).1, .int .i64 (feed (a, b) s.data.toList).2, .int .i64 (l + s.size)], .bool true]) ∧ Below w.heap.size w w' := by
  obtain ⟨ha0, ha1, hb0, hb1, hl0, hl1⟩ := goodB_true.1 h
  have ht6 : decide (600 < (s.size : Int)) = false := by simp; omega
  have ht7 : decide (1000000 < l + (s.size : Int)) = false := by simp; omega
  go_enter Tryd.func113, Tryd.ntmps113
  go_wp2_with fail
  refine (implGood a b l _).mono ?_
  rintro e w1 ⟨rfl, hb1⟩
  obtain ⟨hc1, hf1⟩ := bcell hb1
  have hz1 := hb1.size
  try simp only [World.size_drew] at hz1
  try simp only [World.size_setCell] at hz1
  try simp only [World.size_alloc] at hz1
  have hz1_0 : w.heap.size < w1.heap.size := by omega
  have hz1_1 : w.heap.size + 1 < w1.heap.size := by omega
  clear hz1
  have k1 : Below w.heap.size w w1 := by
    refine Below.trans ?_ (hb1.mono ?_)
    · go_grown
    · go_size
  have hl1 : w.heap.size ≤ w1.heap.size := k1.size
  clear hb1
  have T0 : Three w1 w.heap.size a b l := ⟨(hc1 _ _ (by go_size)).trans (by simp), (hc1 _ _ (by go_size)).trans (by simp), (hc1 _ _ (by go_size)).trans (by simp), (hf1 _ _ (by go_size)).trans (by simp), (hf1 _ _ (by go_size)).trans (by simp), (hf1 _ _ (by go_size)).trans (by simp)⟩
  have T1 : Three w1 (w.heap.size + 1) 0 0 0 := ⟨(hc1 _ _ (by go_size)).trans (by simp), (hc1 _ _ (by go_size)).trans (by simp), (hc1 _ _ (by go_size)).trans (by simp), (hf1 _ _ (by go_size)).trans (by simp), (hf1 _ _ (by go_size)).trans (by simp), (hf1 _ _ (by go_size)).trans (by simp)⟩
  go_wp2
  go_loopw [6] (fun i wr => ∃ k : Nat, k ≤ s.size + 7 ∧ i = .int .i64 k ∧ Three wr w.heap.size (feed (a, b) (s.data.toList.take k)).1 (feed (a, b) (s.data.toList.take k)).2 (l + (min k s.size : Nat)) ∧ Three wr (w.heap.size + 1) 0 0 0 ∧ Below w.heap.size w wr) (fun i _ => s.size - (intOf i).toNat)
  case atStart => exact ⟨0, Nat.zero_le _, rfl, by simpa [feed] using T0, T1, by go_grown⟩
  case round =>
    obtain ⟨k, hk, rfl, ⟨c0, c1, c2, f0, f1, f2⟩, ⟨d0, d1, d2, e0, e1, e2⟩, kb⟩ := hrel
    have hin := feed_in (a, b) (s.data.toList.take k) ⟨ha0, ha1⟩ ⟨hb0, hb1⟩
    by_cases hlt : k < s.size
    · have hwr : IntKind.i64.wrap ((k : Int) + 8) = (k : Int) + 8 := IntWalk.i64_in _ (by omega)
      have hI2 : (0 : Int) ≤ (k : Int) := by omega
      have hI4 : (0 : Int) ≤ (k : Int) + 8 := by omega
      by_cases hc : k + 8 ≤ s.size
      · have hI0 : (k : Int) + 8 ≤ (s.size : Int) := by omega
        have hI1 : ¬ (s.size : Int) < (k : Int) + 8 := by omega
        have hI3 : (k : Int) ≤ (k : Int) + 8 := by omega
        obtain ⟨q, hq⟩ : ∃ q, q = feed (a, b) (s.data.toList.take (k + 8)) := ⟨_, rfl⟩
        obtain ⟨n, hn⟩ : ∃ n : Int, n = l + ((min (k + 8) s.size : Nat) : Int) := ⟨_, rfl⟩
        have HS : Hid (feed (feed (a, b) (s.data.toList.take k)) (s.extract k (k + 8)).data.toList = q) := by
          show feed _ _ = _
          rw [hq, feed_on (a, b) s k (k + 8) (by omega) (by omega)]
        have HN : Hid (l + ((min k s.size : Nat) : Int) + ((s.extract k (k + 8)).size : Int) = n) := by
          show _ = _
          rw [hn]; simp; omega
        have HQ : Hid (q = feed (a, b) (s.data.toList.take (k + 8))) := hq
        have HM : Hid (n = l + ((min (k + 8) s.size : Nat) : Int)) := hn
        clear hq hn
        generalize feed (a, b) (s.data.toList.take k) = p at *
        obtain ⟨A, B⟩ := p
        obtain ⟨C, D⟩ := q
        obtain ⟨⟨hA0, hA1⟩, ⟨hB0, hB1⟩⟩ := hin
        simp only [] at c0 c1 hA0 hA1 hB0 hB1
        go_wp2
        go_region_with ((go_at_call 150; rw [show ((k : Int) + 8).toNat = k + 8 by omega]; refine (pieceFeed2 A B (l + ((min k s.size : Nat) : Int)) (s.extract k (k + 8)) _ C D n HS.out HN.out hA0 hA1 hB0 hB1 (by omega) (by omega) (by simp; omega) (ht.below kb.drew)).mono ?_; rintro e w2 ⟨rfl, hb2⟩; obtain ⟨g0, g1, g2, i0, i1, i2⟩ := Three.below (W := wr.drew) ⟨c0, c1, c2, f0, f1, f2⟩ hb2; obtain ⟨j0, j1, j2, l0, l1, l2⟩ := Three.below (W := wr.drew) ⟨d0, d1, d2, e0, e1, e2⟩ hb2; have k2 := kb.drew.trans (hb2.mono (show w.heap.size ≤ wr.drew.heap.size from kb.size)); clear hb2))
        all_goals go_wp2
        all_goals refine ⟨⟨k + 8, by omega, by go_num, ?_, ?_, by go_grown⟩, by simp [intOf]; omega⟩
        all_goals first | (rw [← HQ.out, ← HM.out]; simp [Three, *, go_sem]; done) | (simp [Three, *, go_sem]; done)
      · have hI0 : (s.size : Int) < (k : Int) + 8 := by omega
        have hI3 : (k : Int) ≤ (s.size : Int) := by omega
        have hI5 : (0 : Int) ≤ (s.size : Int) := by omega
        obtain ⟨q, hq⟩ : ∃ q, q = feed (a, b) (s.data.toList.take (k + 8)) := ⟨_, rfl⟩
        obtain ⟨n, hn⟩ : ∃ n : Int, n = l + ((min (k + 8) s.size : Nat) : Int) := ⟨_, rfl⟩
        have HS : Hid (feed (feed (a, b) (s.data.toList.take k)) (s.extract k s.size).data.toList = q) := by
          show feed _ _ = _
          rw [hq, feed_on (a, b) s k s.size (by omega) (by omega)]; rw [List.take_of_length_le (by simp), List.take_of_length_le (by simp; omega)]
        have HN : Hid (l + ((min k s.size : Nat) : Int) + ((s.extract k s.size).size : Int) = n) := by
          show _ = _
          rw [hn]; simp; omega
        have HQ : Hid (q = feed (a, b) (s.data.toList.take (k + 8))) := hq
        have HM : Hid (n = l + ((min (k + 8) s.size : Nat) : Int)) := hn
        clear hq hn
        generalize feed (a, b) (s.data.toList.take k) = p at *
        obtain ⟨A, B⟩ := p
        obtain ⟨C, D⟩ := q
        obtain ⟨⟨hA0, hA1⟩, ⟨hB0, hB1⟩⟩ := hin
        simp only [] at c0 c1 hA0 hA1 hB0 hB1
        go_wp2
        go_region_with ((go_at_call 150; refine (pieceFeed2 A B (l + ((min k s.size : Nat) : Int)) (s.extract k s.size) _ C D n HS.out HN.out hA0 hA1 hB0 hB1 (by omega) (by omega) (by simp; omega) (ht.below kb.drew)).mono ?_; rintro e w2 ⟨rfl, hb2⟩; obtain ⟨g0, g1, g2, i0, i1, i2⟩ := Three.below (W := wr.drew) ⟨c0, c1, c2, f0, f1, f2⟩ hb2; obtain ⟨j0, j1, j2, l0, l1, l2⟩ := Three.below (W := wr.drew) ⟨d0, d1, d2, e0, e1, e2⟩ hb2; have k2 := kb.drew.trans (hb2.mono (show w.heap.size ≤ wr.drew.heap.size from kb.size)); clear hb2))
        all_goals go_wp2
        all_goals refine ⟨⟨k + 8, by omega, by go_num, ?_, ?_, by go_grown⟩, by simp [intOf]; omega⟩
        all_goals first | (rw [← HQ.out, ← HM.out]; simp [Three, *, go_sem]; done) | (simp [Three, *, go_sem]; done)
    · have hfull : s.data.toList.take k = s.data.toList := List.take_of_length_le (by simp; omega)
      have hmin : min k s.size = s.size := by omega
      rw [hfull] at c0 c1
      rw [hmin] at c2
      clear hfull hmin hin
      generalize hp : feed (a, b) s.data.toList = p at c0 c1
      have HP : Hid (feed (a, b) s.data.toList = p) := hp
      clear hp
      obtain ⟨A, B⟩ := p
      simp only [] at c0 c1
      go_wp2
      exact bodyPost_ret (v := .tuple #[.agg #[.int .i64 A, .int .i64 B, .int .i64 (l + s.size)], .bool true]) (by simp [results, Tryd.results113, go_sem, *]) rfl ⟨by rw [HP.out], by go_grown⟩
end Go.Proofs.YtgjcegmjhkehnaaDoor
