/- Contracts of JoinMixes, program and model: what each returns, and that nothing old in memory turns. No condition. -/
import Derived.Test.YtmnebdgoombfoaaDoorMix
namespace Go.Proofs.YtmnebdgoombfoaaDoor
open Go.ChangeShapes Go.WideShapes Go.ChangeAt Go.RowKit
set_option linter.unusedVariables false

def joinA (aa ba : Int) : Int := (aa + ba + 65520) % 65521
def joinB (aa ab bb bl : Int) : Int := (ab + bb + bl * (aa + 65520)) % 65521
theorem joinB_mod (aa ab bb bl : Int) : (ab + bb + bl * ((aa + 65520) % 65521)) % 65521 = joinB aa ab bb bl := by
  unfold joinB
  rw [Int.add_emod (ab + bb), Int.mul_emod bl, Int.emod_emod, ← Int.mul_emod, ← Int.add_emod]
theorem mul_in {x y X Y : Int} (hx : 0 ≤ x) (hX : x ≤ X) (hy : 0 ≤ y) (hY : y ≤ Y) : 0 ≤ x * y ∧ x * y ≤ X * Y :=
  ⟨Int.mul_nonneg hx hy, Int.mul_le_mul hX hY hy (by omega)⟩

theorem jA1 (aa ba : Int) : (aa + ba + 65521 - 1) % 65521 = joinA aa ba := by unfold joinA; omega
theorem jA2 (aa ba : Int) : (aa + 65521 - 1 + ba) % 65521 = joinA aa ba := by unfold joinA; omega
theorem jB1 (aa ab bb bl : Int) : (ab + bb + bl * ((aa + 65521 - 1) % 65521)) % 65521 = joinB aa ab bb bl := by
  rw [show aa + 65521 - 1 = aa + 65520 by omega]; exact joinB_mod ..
theorem jB2 (aa ab bb bl : Int) : (ab + bb + bl * (aa + 65521 - 1)) % 65521 = joinB aa ab bb bl := by
  rw [show aa + 65521 - 1 = aa + 65520 by omega]; rfl

def JoinNo (aa ab al ba bb bl : Int) : Prop := goodB aa ab al = false ∨ (goodB aa ab al = true ∧ goodB ba bb bl = false) ∨ (goodB aa ab al = true ∧ goodB ba bb bl = true ∧ 1000000 < al + bl)

set_option maxHeartbeats 800000 in
theorem specJoinNo (aa ab al ba bb bl : Int) (w : World) (h : JoinNo aa ab al ba bb bl) :
    Calls Tryd.prog 17 #[.agg #[.int .i64 aa, .int .i64 ab, .int .i64 al], .agg #[.int .i64 ba, .int .i64 bb, .int .i64 bl]] w fun e w' => e = .returned (.tuple #[.agg #[.int .i64 0, .int .i64 0, .int .i64 0], .bool false]) ∧ Below w.heap.size w w' := by
  rcases h with h | ⟨h, h2⟩ | ⟨h, h2, h3⟩
  · go_enter Tryd.func17, Tryd.ntmps17
    go_wp2_with fail
    refine (specGood aa ab al _).mono ?_
    rintro e w1 ⟨rfl, hb1⟩
    obtain ⟨hc1, hf1⟩ := bcell hb1
    have hz1 := hb1.size
    try simp only [World.size_drew] at hz1
    try simp only [World.size_setCell] at hz1
    try simp only [World.size_alloc] at hz1
    have hz1_0 : w.heap.size < w1.heap.size := by omega
    have hz1_1 : w.heap.size + 1 < w1.heap.size := by omega
    have hz1_2 : w.heap.size + 1 + 1 < w1.heap.size := by omega
    clear hz1
    have k1 : Below w.heap.size w w1 := by
      refine Below.trans ?_ (hb1.mono ?_)
      · go_grown
      · go_size
    have hl1 : w.heap.size ≤ w1.heap.size := k1.size
    clear hb1
    go_wp2
    exact bodyPost_ret (v := .tuple #[.agg #[.int .i64 0, .int .i64 0, .int .i64 0], .bool false]) (by simp [results, Tryd.results17, go_sem, hc1]) rfl ⟨rfl, by go_grown⟩
  · go_enter Tryd.func17, Tryd.ntmps17
    go_wp2_with fail
    refine (specGood aa ab al _).mono ?_
    rintro e w1 ⟨rfl, hb1⟩
    obtain ⟨hc1, hf1⟩ := bcell hb1
    have hz1 := hb1.size
    try simp only [World.size_drew] at hz1
    try simp only [World.size_setCell] at hz1
    try simp only [World.size_alloc] at hz1
    have hz1_0 : w.heap.size < w1.heap.size := by omega
    have hz1_1 : w.heap.size + 1 < w1.heap.size := by omega
    have hz1_2 : w.heap.size + 1 + 1 < w1.heap.size := by omega
    clear hz1
    have k1 : Below w.heap.size w w1 := by
      refine Below.trans ?_ (hb1.mono ?_)
      · go_grown
      · go_size
    have hl1 : w.heap.size ≤ w1.heap.size := k1.size
    clear hb1
    go_wp2_with fail
    refine (specGood ba bb bl _).mono ?_
    rintro e w2 ⟨rfl, hb2⟩
    obtain ⟨hc2, hf2⟩ := bcell hb2
    have hz2 := hb2.size
    try simp only [World.size_drew] at hz2
    try simp only [World.size_setCell] at hz2
    try simp only [World.size_alloc] at hz2
    have hz2_0 : w.heap.size < w2.heap.size := by omega
    have hz2_1 : w.heap.size + 1 < w2.heap.size := by omega
    have hz2_2 : w.heap.size + 1 + 1 < w2.heap.size := by omega
    try have hy2_1 : w1.heap.size < w2.heap.size := (by omega)
    clear hz2
    have k2 : Below w.heap.size w w2 := by
      refine Below.trans ?_ (hb2.mono ?_)
      · go_grown
      · go_size
    have hl2 : w.heap.size ≤ w2.heap.size := k2.size
    clear hb2
    go_wp2
    exact bodyPost_ret (v := .tuple #[.agg #[.int .i64 0, .int .i64 0, .int .i64 0], .bool false]) (by simp [results, Tryd.results17, go_sem, hc1, hz1_2, hc2]) rfl ⟨rfl, by go_grown⟩
  · obtain ⟨ha0, ha1, hb0, hb1, hl0, hl1⟩ := goodB_true.1 h
    obtain ⟨hc0, hc1, hd0, hd1, hm0, hm1⟩ := goodB_true.1 h2
    go_enter Tryd.func17, Tryd.ntmps17
    go_wp2_with fail
    refine (specGood aa ab al _).mono ?_
    rintro e w1 ⟨rfl, hb1⟩
    obtain ⟨hc1, hf1⟩ := bcell hb1
    have hz1 := hb1.size
    try simp only [World.size_drew] at hz1
    try simp only [World.size_setCell] at hz1
    try simp only [World.size_alloc] at hz1
    have hz1_0 : w.heap.size < w1.heap.size := by omega
    have hz1_1 : w.heap.size + 1 < w1.heap.size := by omega
    have hz1_2 : w.heap.size + 1 + 1 < w1.heap.size := by omega
    clear hz1
    have k1 : Below w.heap.size w w1 := by
      refine Below.trans ?_ (hb1.mono ?_)
      · go_grown
      · go_size
    have hl1 : w.heap.size ≤ w1.heap.size := k1.size
    clear hb1
    go_wp2_with fail
    refine (specGood ba bb bl _).mono ?_
    rintro e w2 ⟨rfl, hb2⟩
    obtain ⟨hc2, hf2⟩ := bcell hb2
    have hz2 := hb2.size
    try simp only [World.size_drew] at hz2
    try simp only [World.size_setCell] at hz2
    try simp only [World.size_alloc] at hz2
    have hz2_0 : w.heap.size < w2.heap.size := by omega
    have hz2_1 : w.heap.size + 1 < w2.heap.size := by omega
    have hz2_2 : w.heap.size + 1 + 1 < w2.heap.size := by omega
    try have hy2_1 : w1.heap.size < w2.heap.size := (by omega)
    clear hz2
    have k2 : Below w.heap.size w w2 := by
      refine Below.trans ?_ (hb2.mono ?_)
      · go_grown
      · go_size
    have hl2 : w.heap.size ≤ w2.heap.size := k2.size
    clear hb2
    go_wp2
    exact bodyPost_ret (v := .tuple #[.agg #[.int .i64 0, .int .i64 0, .int .i64 0], .bool false]) (by simp [results, Tryd.results17, go_sem, hc1, hz1_2, hc2]) rfl ⟨rfl, by go_grown⟩

set_option maxHeartbeats 800000 in
theorem implJoinNo (aa ab al ba bb bl : Int) (w : World) (h : JoinNo aa ab al ba bb bl) :
    Calls Tryd.prog 15 #[.agg #[.int .i64 aa, .int .i64 ab, .int .i64 al], .agg #[.int .i64 ba, .int .i64 bb, .int .i64 bl]] w fun e w' => e = .returned (.tuple #[.agg #[.int .i64 0, .int .i64 0, .int .i64 0], .bool false]) ∧ Below w.heap.size w w' := by
  rcases h with h | ⟨h, h2⟩ | ⟨h, h2, h3⟩
  · go_enter Tryd.func15, Tryd.ntmps15
    go_wp2_with fail
    refine (implGood aa ab al _).mono ?_
    rintro e w1 ⟨rfl, hb1⟩
    obtain ⟨hc1, hf1⟩ := bcell hb1
    have hz1 := hb1.size
    try simp only [World.size_drew] at hz1
    try simp only [World.size_setCell] at hz1
    try simp only [World.size_alloc] at hz1
    have hz1_0 : w.heap.size < w1.heap.size := by omega
    have hz1_1 : w.heap.size + 1 < w1.heap.size := by omega
    have hz1_2 : w.heap.size + 1 + 1 < w1.heap.size := by omega
    clear hz1
    have k1 : Below w.heap.size w w1 := by
      refine Below.trans ?_ (hb1.mono ?_)
      · go_grown
      · go_size
    have hl1 : w.heap.size ≤ w1.heap.size := k1.size
    clear hb1
    go_wp2
    exact bodyPost_ret (v := .tuple #[.agg #[.int .i64 0, .int .i64 0, .int .i64 0], .bool false]) (by simp [results, Tryd.results15, go_sem, hc1]) rfl ⟨rfl, by go_grown⟩
  · go_enter Tryd.func15, Tryd.ntmps15
    go_wp2_with fail
    refine (implGood aa ab al _).mono ?_
    rintro e w1 ⟨rfl, hb1⟩
    obtain ⟨hc1, hf1⟩ := bcell hb1
    have hz1 := hb1.size
    try simp only [World.size_drew] at hz1
    try simp only [World.size_setCell] at hz1
    try simp only [World.size_alloc] at hz1
    have hz1_0 : w.heap.size < w1.heap.size := by omega
    have hz1_1 : w.heap.size + 1 < w1.heap.size := by omega
    have hz1_2 : w.heap.size + 1 + 1 < w1.heap.size := by omega
    clear hz1
    have k1 : Below w.heap.size w w1 := by
      refine Below.trans ?_ (hb1.mono ?_)
      · go_grown
      · go_size
    have hl1 : w.heap.size ≤ w1.heap.size := k1.size
    clear hb1
    go_wp2_with fail
    refine (implGood ba bb bl _).mono ?_
    rintro e w2 ⟨rfl, hb2⟩
    obtain ⟨hc2, hf2⟩ := bcell hb2
    have hz2 := hb2.size
    try simp only [World.size_drew] at hz2
    try simp only [World.size_setCell] at hz2
    try simp only [World.size_alloc] at hz2
    have hz2_0 : w.heap.size < w2.heap.size := by omega
    have hz2_1 : w.heap.size + 1 < w2.heap.size := by omega
    have hz2_2 : w.heap.size + 1 + 1 < w2.heap.size := by omega
    try have hy2_1 : w1.heap.size < w2.heap.size := (by omega)
    clear hz2
    have k2 : Below w.heap.size w w2 := by
      refine Below.trans ?_ (hb2.mono ?_)
      · go_grown
      · go_size
    have hl2 : w.heap.size ≤ w2.heap.size := k2.size
    clear hb2
    go_wp2
    exact bodyPost_ret (v := .tuple #[.agg #[.int .i64 0, .int .i64 0, .int .i64 0], .bool false]) (by simp [results, Tryd.results15, go_sem, hc1, hz1_2, hc2]) rfl ⟨rfl, by go_grown⟩
  · obtain ⟨ha0, ha1, hb0, hb1, hl0, hl1⟩ := goodB_true.1 h
    obtain ⟨hc0, hc1, hd0, hd1, hm0, hm1⟩ := goodB_true.1 h2
    go_enter Tryd.func15, Tryd.ntmps15
    go_wp2_with fail
    refine (implGood aa ab al _).mono ?_
    rintro e w1 ⟨rfl, hb1⟩
    obtain ⟨hc1, hf1⟩ := bcell hb1
    have hz1 := hb1.size
    try simp only [World.size_drew] at hz1
    try simp only [World.size_setCell] at hz1
    try simp only [World.size_alloc] at hz1
    have hz1_0 : w.heap.size < w1.heap.size := by omega
    have hz1_1 : w.heap.size + 1 < w1.heap.size := by omega
    have hz1_2 : w.heap.size + 1 + 1 < w1.heap.size := by omega
    clear hz1
    have k1 : Below w.heap.size w w1 := by
      refine Below.trans ?_ (hb1.mono ?_)
      · go_grown
      · go_size
    have hl1 : w.heap.size ≤ w1.heap.size := k1.size
    clear hb1
    go_wp2_with fail
    refine (implGood ba bb bl _).mono ?_
    rintro e w2 ⟨rfl, hb2⟩
    obtain ⟨hc2, hf2⟩ := bcell hb2
    have hz2 := hb2.size
    try simp only [World.size_drew] at hz2
    try simp only [World.size_setCell] at hz2
    try simp only [World.size_alloc] at hz2
    have hz2_0 : w.heap.size < w2.heap.size := by omega
    have hz2_1 : w.heap.size + 1 < w2.heap.size := by omega
    have hz2_2 : w.heap.size + 1 + 1 < w2.heap.size := by omega
    try have hy2_1 : w1.heap.size < w2.heap.size := (by omega)
    clear hz2
    have k2 : Below w.heap.size w w2 := by
      refine Below.trans ?_ (hb2.mono ?_)
      · go_grown
      · go_size
    have hl2 : w.heap.size ≤ w2.heap.size := k2.size
    clear hb2
    go_wp2
    exact bodyPost_ret (v := .tuple #[.agg #[.int .i64 0, .int .i64 0, .int .i64 0], .bool false]) (by simp [results, Tryd.results15, go_sem, hc1, hz1_2, hc2]) rfl ⟨rfl, by go_grown⟩

theorem ret_mix {a b l a' b' l' : Int} {o : Bool} (ha : a = a') (hb : b = b') (hl : l = l') : Ending.returned (.tuple #[.agg #[.int .i64 a, .int .i64 b, .int .i64 l], .bool o]) = .returned (.tuple #[.agg #[.int .i64 a', .int .i64 b', .int .i64 l'], .bool o]) := by
  rw [ha, hb, hl]

set_option maxHeartbeats 800000 in
theorem specJoinYes (aa ab al ba bb bl : Int) (w : World) (h : goodB aa ab al = true) (h2 : goodB ba bb bl = true) (h3 : al + bl ≤ 1000000) :
    Calls Tryd.prog 17 #[.agg #[.int .i64 aa, .int .i64 ab, .int .i64 al], .agg #[.int .i64 ba, .int .i64 bb, .int .i64 bl]] w fun e w' => e = .returned (.tuple #[.agg #[.int .i64 (joinA aa ba), .int .i64 (joinB aa ab bb bl), .int .i64 (al + bl)], .bool true]) ∧ Below w.heap.size w w' := by
  obtain ⟨ha0, ha1, hb0, hb1, hl0, hl1⟩ := goodB_true.1 h
  obtain ⟨hc0, hc1, hd0, hd1, hm0, hm1⟩ := goodB_true.1 h2
  have hp := mul_in (x := bl) (y := (aa + 65521 - 1) % 65521) (X := 1000000) (Y := 65520) (by omega) (by omega) (by omega) (by omega)
  obtain ⟨hp0, hp1⟩ := hp
  go_enter Tryd.func17, Tryd.ntmps17
  go_wp2_with fail
  refine (specGood aa ab al _).mono ?_
  rintro e w1 ⟨rfl, hb1⟩
  obtain ⟨hc1, hf1⟩ := bcell hb1
  have hz1 := hb1.size
  try simp only [World.size_drew] at hz1
  try simp only [World.size_setCell] at hz1
  try simp only [World.size_alloc] at hz1
  have hz1_0 : w.heap.size < w1.heap.size := by omega
  have hz1_1 : w.heap.size + 1 < w1.heap.size := by omega
  have hz1_2 : w.heap.size + 1 + 1 < w1.heap.size := by omega
  clear hz1
  have k1 : Below w.heap.size w w1 := by
    refine Below.trans ?_ (hb1.mono ?_)
    · go_grown
    · go_size
  have hl1 : w.heap.size ≤ w1.heap.size := k1.size
  clear hb1
  go_wp2_with fail
  refine (specGood ba bb bl _).mono ?_
  rintro e w2 ⟨rfl, hb2⟩
  obtain ⟨hc2, hf2⟩ := bcell hb2
  have hz2 := hb2.size
  try simp only [World.size_drew] at hz2
  try simp only [World.size_setCell] at hz2
  try simp only [World.size_alloc] at hz2
  have hz2_0 : w.heap.size < w2.heap.size := by omega
  have hz2_1 : w.heap.size + 1 < w2.heap.size := by omega
  have hz2_2 : w.heap.size + 1 + 1 < w2.heap.size := by omega
  try have hy2_1 : w1.heap.size < w2.heap.size := (by omega)
  clear hz2
  have k2 : Below w.heap.size w w2 := by
    refine Below.trans ?_ (hb2.mono ?_)
    · go_grown
    · go_size
  have hl2 : w.heap.size ≤ w2.heap.size := k2.size
  clear hb2
  go_wp2
  refine bodyPost_ret (v := .tuple #[.agg #[.int .i64 (joinA aa ba), .int .i64 (joinB aa ab bb bl), .int .i64 (al + bl)], .bool true]) (by simp [results, Tryd.results17, go_sem, hc1, hz1_2, hc2]; exact ⟨jA1 .., jB1 ..⟩) rfl ⟨rfl, by go_grown⟩

set_option maxHeartbeats 800000 in
theorem implJoinYes (aa ab al ba bb bl : Int) (w : World) (h : goodB aa ab al = true) (h2 : goodB ba bb bl = true) (h3 : al + bl ≤ 1000000) :
    Calls Tryd.prog 15 #[.agg #[.int .i64 aa, .int .i64 ab, .int .i64 al], .agg #[.int .i64 ba, .int .i64 bb, .int .i64 bl]] w fun e w' => e = .returned (.tuple #[.agg #[.int .i64 (joinA aa ba), .int .i64 (joinB aa ab bb bl), .int .i64 (al + bl)], .bool true]) ∧ Below w.heap.size w w' := by
  obtain ⟨ha0, ha1, hb0, hb1, hl0, hl1⟩ := goodB_true.1 h
  obtain ⟨hc0, hc1, hd0, hd1, hm0, hm1⟩ := goodB_true.1 h2
  have hp := mul_in (x := bl) (y := aa + 65521 - 1) (X := 1000000) (Y := 131040) (by omega) (by omega) (by omega) (by omega)
  obtain ⟨hp0, hp1⟩ := hp
  go_enter Tryd.func15, Tryd.ntmps15
  go_wp2_with fail
  refine (implGood aa ab al _).mono ?_
  rintro e w1 ⟨rfl, hb1⟩
  obtain ⟨hc1, hf1⟩ := bcell hb1
  have hz1 := hb1.size
  try simp only [World.size_drew] at hz1
  try simp only [World.size_setCell] at hz1
  try simp only [World.size_alloc] at hz1
  have hz1_0 : w.heap.size < w1.heap.size := by omega
  have hz1_1 : w.heap.size + 1 < w1.heap.size := by omega
  have hz1_2 : w.heap.size + 1 + 1 < w1.heap.size := by omega
  clear hz1
  have k1 : Below w.heap.size w w1 := by
    refine Below.trans ?_ (hb1.mono ?_)
    · go_grown
    · go_size
  have hl1 : w.heap.size ≤ w1.heap.size := k1.size
  clear hb1
  go_wp2_with fail
  refine (implGood ba bb bl _).mono ?_
  rintro e w2 ⟨rfl, hb2⟩
  obtain ⟨hc2, hf2⟩ := bcell hb2
  have hz2 := hb2.size
  try simp only [World.size_drew] at hz2
  try simp only [World.size_setCell] at hz2
  try simp only [World.size_alloc] at hz2
  have hz2_0 : w.heap.size < w2.heap.size := by omega
  have hz2_1 : w.heap.size + 1 < w2.heap.size := by omega
  have hz2_2 : w.heap.size + 1 + 1 < w2.heap.size := by omega
  try have hy2_1 : w1.heap.size < w2.heap.size := (by omega)
  clear hz2
  have k2 : Below w.heap.size w w2 := by
    refine Below.trans ?_ (hb2.mono ?_)
    · go_grown
    · go_size
  have hl2 : w.heap.size ≤ w2.heap.size := k2.size
  clear hb2
  go_wp2
  refine bodyPost_ret (v := .tuple #[.agg #[.int .i64 (joinA aa ba), .int .i64 (joinB aa ab bb bl), .int .i64 (al + bl)], .bool true]) (by simp [results, Tryd.results15, go_sem, hc1, hz1_2, hc2]; exact ⟨jA2 .., jB2 ..⟩) rfl ⟨rfl, by go_grown⟩
end Go.Proofs.YtmnebdgoombfoaaDoor
