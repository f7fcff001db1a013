/- Contracts of the laws' helpers on shown pages. Condition: the page's lists lie in memory. -/
import Derived.Test.YtmmccjdkafojgaaPairP
import Derived.Test.YtmmccjdkafojgaaSzS
import Derived.Test.YtmmccjdkafojgaaBoxW
namespace Go.Proofs.Ytmmccjdkafojgaa
open Go.ChangeShapes Go.WideShapes Go.ChangeAt Go.RowKit Go.Deep
set_option linter.unusedVariables false
attribute [local go_sem ↓] Go.wp_at_zero Go.wp_at_succ

theorem strs_of1 {H : Type} {enc : TypeId × Value → H} {W : World} {base : Nat} {held : Bool} {n : Nat} {v : Value} {y : DataW H × List MemPlace}
    (h : DataW.trod enc Try.prog W base (fun _ => true) held n 34 [v] = some y) : ∃ ss, StrsAt W v ss ∧ ss.length ≤ maxLen ∧ ∀ s ∈ ss, s.size ≤ maxLen := by
  have hv : ∃ ad len cap, v = .slice ad len cap := by
    rcases open_strings Try.underlying34 Try.underlying9 (by kernel_rfl) h with ⟨hcs, _⟩ | ⟨x, l, c, zs, hcs, _⟩
    · simp at hcs; exact ⟨_, _, _, hcs⟩
    · simp at hcs; exact ⟨_, _, _, hcs⟩
  obtain ⟨ad, len, cap, rfl⟩ := hv
  exact strs_of (d := y.1) (p := y.2) ⟨n, h⟩
theorem StrsAt.boxSet {w : World} {v u : Value} {ss : List ByteArray} {b i : Nat} {vs : List Value} (h : StrsAt w v ss) (hb : BoxAt w b vs) (hi : i < vs.length) (hn : ∀ s, vs.getD i default ≠ .string s) : StrsAt (w.setCell ⟨b, i, none⟩ u) v ss := by
  rcases h with h | ⟨b', off, cap, h1, h2, h3⟩
  · exact .inl h
  · refine .inr ⟨b', off, cap, h1, by simpa using h2, fun j hj => ?_⟩
    have hc := hb.2.1 i (vs.getD i default) (by simp [List.getD, hi])
    rw [World.cell?_setCell_other w ⟨b, i, none⟩ ⟨b', off + j, none⟩ _ (fun e => by rw [e, h3 j hj] at hc; exact hn _ (Option.some.inj hc).symm), h3 j hj]
theorem ShAt.boxSet {w : World} {kv vv cv u : Value} {p : Sh} {b i : Nat} {vs : List Value} (h : ShAt w kv vv cv p) (hb : BoxAt w b vs) (hi : i < vs.length) (hn : ∀ s, vs.getD i default ≠ .string s) : ShAt (w.setCell ⟨b, i, none⟩ u) kv vv cv p :=
  ⟨h.1.boxSet hb hi hn, h.2.1.boxSet hb hi hn, h.2.2.boxSet hb hi hn⟩
/-- How much there is of a shown page. -/
def amount (p : Sh) : Nat := (p.keys.length + sumS p.keys) + (p.vals.length + sumS p.vals) + (p.kids.length + sumS p.kids)
/-- What the laws' own reach lets through. -/
def ReSh (p : Sh) : Prop := (p.keys.length ≤ maxLen ∧ p.vals.length ≤ maxLen ∧ p.kids.length ≤ maxLen) ∧ (∀ s ∈ p.keys, s.size ≤ maxLen) ∧ (∀ s ∈ p.vals, s.size ≤ maxLen) ∧ ∀ s ∈ p.kids, s.size ≤ maxLen
theorem ReSh.small {p : Sh} (h : ReSh p) (ha : amount p ≤ 1048576) : SmSh p := ⟨by unfold amount at ha; omega, h.2⟩
set_option maxHeartbeats 1600000 in
theorem szShYes (p : Sh) (kv vv cv : Value) (z : Nat) (w : World) (h : ShAt w kv vv cv p) (hz : z ≤ 1048576) (hm : ReSh p) (ha : amount p ≤ z) :
    Calls Try.prog 51 #[.agg #[kv, vv, cv, .int .i64 p.go], .int .i64 z] w fun e w' => e = .returned (.int .i64 ((z - amount p : Nat) : Int)) ∧ Below w.heap.size w w' := by
  obtain ⟨⟨m1, m2, m3⟩, s1, s2, s3⟩ := hm
  have H1 : Hid (StrsAt w kv p.keys) := h.1
  have H2 : Hid (StrsAt w vv p.vals) := h.2.1
  have H3 : Hid (StrsAt w cv p.kids) := h.2.2
  unfold amount at ha ⊢
  have G1 := fun W hW => szStrK kv p.keys z W hW hz m1 s1
  have G2 := fun W hW => szStrK vv p.vals (z - (p.keys.length + sumS p.keys)) W hW (by omega) m2 s2
  have G3 := fun W hW => szStrK cv p.kids (z - (p.keys.length + sumS p.keys) - (p.vals.length + sumS p.vals)) W hW (by omega) m3 s3
  rw [szRK_pos (by omega)] at G1 G2 G3
  rw [show z - ((p.keys.length + sumS p.keys) + (p.vals.length + sumS p.vals) + (p.kids.length + sumS p.kids)) = z - (p.keys.length + sumS p.keys) - (p.vals.length + sumS p.vals) - (p.kids.length + sumS p.kids) by omega]
  clear h m1 m2 m3 s1 s2 s3 ha
  generalize z - (p.keys.length + sumS p.keys) = y at *
  generalize y - (p.vals.length + sumS p.vals) = x at *
  generalize x - (p.kids.length + sumS p.kids) = u at *
  have hy : ¬ (y : Int) < 0 := by omega
  have hx : ¬ (x : Int) < 0 := by omega
  have hu : ¬ (u : Int) < 0 := by omega
  go_enter Try.func51, Try.ntmps51
  go_wp2_with fail
  refine (G1 _ (H1.out.below (by go_grown))).mono ?_
  rintro e w1 ⟨rfl, rfl⟩
  go_wp2_with fail
  refine (G2 _ (H2.out.below (by go_grown))).mono ?_
  rintro e w2 ⟨rfl, rfl⟩
  go_wp2_with fail
  refine (G3 _ (H3.out.below (by go_grown))).mono ?_
  rintro e w3 ⟨rfl, rfl⟩
  clear G1 G2 G3
  go_wp2
  go_returns
  exact ⟨rfl, by go_grown⟩
set_option maxHeartbeats 1600000 in
theorem szShNo (p : Sh) (kv vv cv : Value) (z : Nat) (w : World) (h : ShAt w kv vv cv p) (hz : z ≤ 1048576) (hm : ReSh p) (ha : z < amount p) :
    Calls Try.prog 51 #[.agg #[kv, vv, cv, .int .i64 p.go], .int .i64 z] w fun e w' => e = .returned (.int .i64 (-1)) ∧ Below w.heap.size w w' := by
  obtain ⟨⟨m1, m2, m3⟩, s1, s2, s3⟩ := hm
  have H1 : Hid (StrsAt w kv p.keys) := h.1
  have H2 : Hid (StrsAt w vv p.vals) := h.2.1
  have H3 : Hid (StrsAt w cv p.kids) := h.2.2
  unfold amount at ha
  have G1 := fun W hW => szStrK kv p.keys z W hW hz m1 s1
  by_cases h1 : z < p.keys.length + sumS p.keys
  · rw [szRK_neg h1] at G1
    clear h m1 m2 m3 s1 s2 s3 ha h1
    go_enter Try.func51, Try.ntmps51
    go_wp2_with fail
    refine (G1 _ (H1.out.below (by go_grown))).mono ?_
    rintro e w1 ⟨rfl, rfl⟩
    clear G1
    go_wp2
    go_returns
    exact ⟨rfl, by go_grown⟩
  · have G2 := fun W hW => szStrK vv p.vals (z - (p.keys.length + sumS p.keys)) W hW (by omega) m2 s2
    rw [szRK_pos (by omega)] at G1
    by_cases h2 : z - (p.keys.length + sumS p.keys) < p.vals.length + sumS p.vals
    · rw [szRK_neg h2] at G2
      clear h m1 m2 m3 s1 s2 s3 ha h1 h2
      generalize z - (p.keys.length + sumS p.keys) = y at *
      have hy : ¬ (y : Int) < 0 := by omega
      go_enter Try.func51, Try.ntmps51
      go_wp2_with fail
      refine (G1 _ (H1.out.below (by go_grown))).mono ?_
      rintro e w1 ⟨rfl, rfl⟩
      go_wp2_with fail
      refine (G2 _ (H2.out.below (by go_grown))).mono ?_
      rintro e w2 ⟨rfl, rfl⟩
      clear G1 G2
      go_wp2
      go_returns
      exact ⟨rfl, by go_grown⟩
    · have G3 := fun W hW => szStrK cv p.kids (z - (p.keys.length + sumS p.keys) - (p.vals.length + sumS p.vals)) W hW (by omega) m3 s3
      rw [szRK_pos (by omega)] at G2
      rw [szRK_neg (by omega)] at G3
      clear h m1 m2 m3 s1 s2 s3 ha h1 h2
      generalize z - (p.keys.length + sumS p.keys) = y at *
      generalize y - (p.vals.length + sumS p.vals) = x at *
      have hy : ¬ (y : Int) < 0 := by omega
      have hx : ¬ (x : Int) < 0 := by omega
      go_enter Try.func51, Try.ntmps51
      go_wp2_with fail
      refine (G1 _ (H1.out.below (by go_grown))).mono ?_
      rintro e w1 ⟨rfl, rfl⟩
      go_wp2_with fail
      refine (G2 _ (H2.out.below (by go_grown))).mono ?_
      rintro e w2 ⟨rfl, rfl⟩
      go_wp2_with fail
      refine (G3 _ (H3.out.below (by go_grown))).mono ?_
      rintro e w3 ⟨rfl, rfl⟩
      clear G1 G2 G3
      go_wp2
      go_returns
      exact ⟨rfl, by go_grown⟩
set_option maxHeartbeats 1600000 in
theorem eqSh (p : Sh) (kv vv cv ku vu cu : Value) (w : World) (h : ShAt w kv vv cv p) (g : ShAt w ku vu cu p) (hs : SmSh p) :
    Calls Try.prog 55 #[.agg #[kv, vv, cv, .int .i64 p.go], .agg #[ku, vu, cu, .int .i64 p.go]] w fun e w' => e = .returned (.bool true) ∧ Below w.heap.size w w' := by
  have H1 := hid h
  have H2 := hid g
  obtain ⟨⟨l1, l2, l3⟩, _⟩ := hs
  have hne : (p.go != p.go) = false := by simp
  obtain ⟨G, hG⟩ : ∃ G, G = p.go := ⟨_, rfl⟩
  rw [← hG] at hne ⊢
  clear h g hG
  go_enter Try.func55, Try.ntmps55
  go_wp2_with fail
  refine (eqStr kv ku p.keys _ (H1.out.1.below (by go_grown)) (H2.out.1.below (by go_grown)) l1).mono ?_
  rintro e w1 ⟨rfl, hb1⟩
  obtain ⟨hc1, hf1⟩ := bcell hb1
  have hz1 := hb1.size
  try simp only [World.size_drew] at hz1
  try simp only [World.size_setCell] at hz1
  try simp only [World.size_alloc] at hz1
  have hz1_0 : w.heap.size < w1.heap.size := by omega
  have hz1_1 : w.heap.size + 1 < w1.heap.size := by omega
  clear hz1
  have k1 : Below w.heap.size w w1 := by
    refine Below.trans ?_ (hb1.mono ?_)
    · go_grown
    · go_size
  have hl1 : w.heap.size ≤ w1.heap.size := k1.size
  clear hb1
  go_wp2_with fail
  refine (eqStr vv vu p.vals _ (H1.out.2.1.below (by go_grown)) (H2.out.2.1.below (by go_grown)) l2).mono ?_
  rintro e w2 ⟨rfl, hb2⟩
  obtain ⟨hc2, hf2⟩ := bcell hb2
  have hz2 := hb2.size
  try simp only [World.size_drew] at hz2
  try simp only [World.size_setCell] at hz2
  try simp only [World.size_alloc] at hz2
  have hz2_0 : w.heap.size < w2.heap.size := by omega
  have hz2_1 : w.heap.size + 1 < w2.heap.size := by omega
  try have hy2_1 : w1.heap.size < w2.heap.size := (by omega)
  clear hz2
  have k2 : Below w.heap.size w w2 := by
    refine Below.trans ?_ (hb2.mono ?_)
    · go_grown
    · go_size
  have hl2 : w.heap.size ≤ w2.heap.size := k2.size
  clear hb2
  go_wp2_with fail
  refine (eqStr cv cu p.kids _ (H1.out.2.2.below (by go_grown)) (H2.out.2.2.below (by go_grown)) l3).mono ?_
  rintro e w3 ⟨rfl, hb3⟩
  obtain ⟨hc3, hf3⟩ := bcell hb3
  have hz3 := hb3.size
  try simp only [World.size_drew] at hz3
  try simp only [World.size_setCell] at hz3
  try simp only [World.size_alloc] at hz3
  have hz3_0 : w.heap.size < w3.heap.size := by omega
  have hz3_1 : w.heap.size + 1 < w3.heap.size := by omega
  try have hy3_1 : w1.heap.size < w3.heap.size := (by omega)
  try have hy3_2 : w2.heap.size < w3.heap.size := (by omega)
  clear hz3
  have k3 : Below w.heap.size w w3 := by
    refine Below.trans ?_ (hb3.mono ?_)
    · go_grown
    · go_size
  have hl3 : w.heap.size ≤ w3.heap.size := k3.size
  clear hb3
  go_wp2
  go_returns
  exact ⟨rfl, by go_grown⟩
set_option maxHeartbeats 3200000 in
theorem toSh (p : Sh) (kv vv cv : Value) (w : World) (h : ShAt w kv vv cv p) (hs : SmSh p) :
    Calls Try.prog 53 #[.agg #[kv, vv, cv, .int .i64 p.go]] w fun e w' => ∃ ku vu cu, e = .returned (.agg #[ku, vu, cu, .int .i64 p.go]) ∧ ShAt w' ku vu cu p ∧ Below w.heap.size w w' := by
  have HS := hid h
  obtain ⟨⟨l1, l2, l3⟩, _⟩ := hs
  obtain ⟨ka, kc, rfl⟩ := strs_len h.1
  obtain ⟨va, vc, rfl⟩ := strs_len h.2.1
  obtain ⟨ca, cc, rfl⟩ := strs_len h.2.2
  obtain ⟨G, hG⟩ : ∃ G, G = p.go := ⟨_, rfl⟩
  rw [← hG]
  clear h hG
  obtain ⟨W0, hW0⟩ : ∃ W0, W0 = ((w.alloc (.cells #[.slice ka p.keys.length kc, .slice va p.vals.length vc, .slice ca p.kids.length cc, .int .i64 G] 67)).alloc (.cells #[.slice none 0 0, .slice none 0 0, .slice none 0 0, .int .i64 0] 71)).alloc (.cells #[.slice none 0 0, .slice none 0 0, .slice none 0 0, .int .i64 0] 71) := ⟨_, rfl⟩
  have kb0 : Below w.heap.size w W0 := by rw [hW0]; exact (((Below.refl _ _).alloc (Nat.le_refl _) _).alloc (by simp) _).alloc (by simp; omega) _
  have bx3 : BoxAt W0 w.heap.size [.slice ka p.keys.length kc, .slice va p.vals.length vc, .slice ca p.kids.length cc, .int .i64 G] ∧ BoxAt W0 (w.heap.size + 1) [.slice none 0 0, .slice none 0 0, .slice none 0 0, .int .i64 0] ∧ BoxAt W0 (w.heap.size + 1 + 1) [.slice none 0 0, .slice none 0 0, .slice none 0 0, .int .i64 0] := by
    rw [hW0]; exact boxOf3 (Below.refl _ _)
  obtain ⟨bA, bR, bO⟩ := bx3
  have HS0 := hid (HS.out.below kb0)
  have T1 := fun W hW => toStr (.slice ka p.keys.length kc) p.keys W hW l1
  have T2 := fun W hW => toStr (.slice va p.vals.length vc) p.vals W hW l2
  have T3 := fun W hW => toStr (.slice ca p.kids.length cc) p.kids W hW l3
  have a0 := bA.2.1 0 _ rfl
  have hA := bA.1
  have hO := bO.1
  have hR := bR.1
  obtain ⟨ob, hob⟩ : ∃ ob, ob = w.heap.size + 1 + 1 := ⟨_, rfl⟩
  obtain ⟨rb, hrb⟩ : ∃ rb, rb = w.heap.size + 1 := ⟨_, rfl⟩
  have d1 : ob ≠ w.heap.size := by omega
  have d2 : ob ≠ rb := by omega
  have d3 : rb ≠ w.heap.size := by omega
  have dr : w.heap.size ≤ rb := by omega
  have dO : w.heap.size ≤ ob := by omega
  rw [← hob] at bO hO
  rw [← hrb] at bR hR
  go_enter Try.func53, Try.ntmps53
  go_upto_region 2 with fail
  rw [← hW0, ← hob, ← hrb]
  clear hW0 hob hrb
  go_wp2_with fail
  refine (T1 _ HS0.out.1).mono ?_
  rintro e w1 ⟨u1, rfl, g1, kb1⟩
  obtain ⟨ua, uc, rfl⟩ := strs_len g1
  have bA1 := bA.below kb1
  have bR1 := bR.below kb1
  have bO1 := bO.below kb1
  have HS1 := hid (HS0.out.below kb1)
  have k1 : Below w.heap.size w w1 := kb0.trans (kb1.mono kb0.size)
  clear a0 hA hO hR bA bR bO kb1 T1
  have o0 := bO1.2.1 0 _ rfl
  have z0 := bO1.2.2 0 (by simp)
  have hO := bO1.1
  have a1 := bA1.2.1 1 _ rfl
  have hA := bA1.1
  have g1' : StrsAt (w1.setCell ⟨ob, 0, none⟩ (.slice ua p.keys.length uc)) (.slice ua p.keys.length uc) p.keys := g1.boxSet bO1 (by simp) (by simp)
  have bA2 := bA1.setOther (g := ob) (o := 0) (u := .slice ua p.keys.length uc) (Ne.symm d1)
  have bR2 := bR1.setOther (g := ob) (o := 0) (u := .slice ua p.keys.length uc) (Ne.symm d2)
  have bO2 := bO1.set 0 (.slice ua p.keys.length uc)
  have HS2 := hid (HS1.out.boxSet (u := .slice ua p.keys.length uc) bO1 (i := 0) (by simp) (by simp))
  have k2 : Below w.heap.size w (w1.setCell ⟨ob, 0, none⟩ (.slice ua p.keys.length uc)) := bel_set k1 dO _ _
  have HG1 := hid g1'
  have BA2 := hid bA2
  have BR2 := hid bR2
  have BO2 := hid bO2
  have HK2 := hid k2
  clear bA1 bR1 bO1 bA2 bR2 bO2 g1 g1' k1 k2 HS1
  go_upto_region 3 with fail
  obtain ⟨W1, hW1⟩ : ∃ W1, W1 = w1.setCell ⟨ob, 0, none⟩ (.slice ua p.keys.length uc) := ⟨_, rfl⟩
  rw [← hW1] at HG1 BA2 BR2 BO2 HK2 HS2 ⊢
  clear hW1 o0 z0 hO a1 hA
  have a1 := BA2.out.2.1 1 _ rfl
  have hA := BA2.out.1
  go_wp2_with fail
  refine (T2 _ HS2.out.2.1).mono ?_
  rintro e w2 ⟨u2, rfl, g2, kb2⟩
  obtain ⟨ub, ud, rfl⟩ := strs_len g2
  have bA1 := BA2.out.below kb2
  have bR1 := BR2.out.below kb2
  have bO1 := BO2.out.below kb2
  have g1 := HG1.out.below kb2
  have HS1 := hid (HS2.out.below kb2)
  have k1 : Below w.heap.size w w2 := HK2.out.trans (kb2.mono HK2.out.size)
  clear a1 hA kb2 T2 BA2 BR2 BO2 HG1 HS2 HK2
  have o0 := bO1.2.1 1 _ rfl
  have z0 := bO1.2.2 1 (by simp)
  have hO := bO1.1
  have g1' : StrsAt (w2.setCell ⟨ob, 1, none⟩ (.slice ub p.vals.length ud)) (.slice ua p.keys.length uc) p.keys := g1.boxSet bO1 (by simp) (by simp)
  have g2' : StrsAt (w2.setCell ⟨ob, 1, none⟩ (.slice ub p.vals.length ud)) (.slice ub p.vals.length ud) p.vals := g2.boxSet bO1 (by simp) (by simp)
  have BA2 := hid (bA1.setOther (g := ob) (o := 1) (u := .slice ub p.vals.length ud) (Ne.symm d1))
  have BR2 := hid (bR1.setOther (g := ob) (o := 1) (u := .slice ub p.vals.length ud) (Ne.symm d2))
  have BO2 := hid (bO1.set 1 (.slice ub p.vals.length ud))
  have HS2 := hid (HS1.out.boxSet (u := .slice ub p.vals.length ud) bO1 (i := 1) (by simp) (by simp))
  have HK2 : Hid (Below w.heap.size w (w2.setCell ⟨ob, 1, none⟩ (.slice ub p.vals.length ud))) := bel_set k1 dO _ _
  have HG1 := hid g1'
  have HG2 := hid g2'
  clear bA1 bR1 bO1 g1 g1' g2 g2' k1 HS1
  go_upto_region 4 with fail
  obtain ⟨W2, hW2⟩ : ∃ W2, W2 = w2.setCell ⟨ob, 1, none⟩ (.slice ub p.vals.length ud) := ⟨_, rfl⟩
  rw [← hW2] at HG1 HG2 BA2 BR2 BO2 HK2 HS2 ⊢
  clear hW2 o0 z0 hO
  have a1 := BA2.out.2.1 2 _ rfl
  have hA := BA2.out.1
  go_wp2_with fail
  refine (T3 _ HS2.out.2.2).mono ?_
  rintro e w3 ⟨u3, rfl, g3, kb3⟩
  obtain ⟨uk, ul, rfl⟩ := strs_len g3
  have bA1 := BA2.out.below kb3
  have bR1 := BR2.out.below kb3
  have bO1 := BO2.out.below kb3
  have g1 := HG1.out.below kb3
  have g2 := HG2.out.below kb3
  have k1 : Below w.heap.size w w3 := HK2.out.trans (kb3.mono HK2.out.size)
  clear a1 hA kb3 T3 BA2 BR2 BO2 HG1 HG2 HS2 HK2
  have o0 := bO1.2.1 2 _ rfl
  have z0 := bO1.2.2 2 (by simp)
  have hO := bO1.1
  have HSH : Hid (ShAt (w3.setCell ⟨ob, 2, none⟩ (.slice uk p.kids.length ul)) (.slice ua p.keys.length uc) (.slice ub p.vals.length ud) (.slice uk p.kids.length ul) p) := ⟨g1.boxSet bO1 (by simp) (by simp), g2.boxSet bO1 (by simp) (by simp), g3.boxSet bO1 (by simp) (by simp)⟩
  have BA2 := hid (bA1.setOther (g := ob) (o := 2) (u := .slice uk p.kids.length ul) (Ne.symm d1))
  have BR2 := hid (bR1.setOther (g := ob) (o := 2) (u := .slice uk p.kids.length ul) (Ne.symm d2))
  have BO2 := hid (bO1.set 2 (.slice uk p.kids.length ul))
  have HK2 : Hid (Below w.heap.size w (w3.setCell ⟨ob, 2, none⟩ (.slice uk p.kids.length ul))) := bel_set k1 dO _ _
  clear bA1 bR1 bO1 g1 g2 g3 k1
  go_upto_region 5 with fail
  obtain ⟨W3, hW3⟩ : ∃ W3, W3 = w3.setCell ⟨ob, 2, none⟩ (.slice uk p.kids.length ul) := ⟨_, rfl⟩
  rw [← hW3] at HSH BA2 BR2 BO2 HK2 ⊢
  clear hW3 o0 z0 hO
  have a3 := BA2.out.2.1 3 _ rfl
  have hA := BA2.out.1
  have hO := BO2.out.1
  have hR := BR2.out.1
  have o3 := BO2.out.2.1 3 _ rfl
  have z3 := BO2.out.2.2 3 (by simp)
  have HSH2 := hid (HSH.out.boxSet (u := .int .i64 G) BO2.out (i := 3) (by simp) (by simp))
  have BR3 := hid (BR2.out.setOther (g := ob) (o := 3) (u := .int .i64 G) (Ne.symm d2))
  have BO3 := hid (BO2.out.set 3 (.int .i64 G))
  have HK3 := hid (bel_set HK2.out dO 3 (.int .i64 G))
  go_upto_region 6 with fail
  obtain ⟨W4, hW4⟩ : ∃ W4, W4 = W3.setCell ⟨ob, 3, none⟩ (.int .i64 G) := ⟨_, rfl⟩
  rw [← hW4] at HSH2 BR3 BO3 HK3 ⊢
  clear hW4 a3 hA hO hR o3 z3 BA2 BR2 BO2 HSH HK2
  have o0 := BO3.out.2.1 0 _ rfl
  have o1 := BO3.out.2.1 1 _ rfl
  have o2 := BO3.out.2.1 2 _ rfl
  have o3 := BO3.out.2.1 3 _ rfl
  have hO := BO3.out.1
  have r0 := BR3.out.2.1 0 _ rfl
  have r1 := BR3.out.2.1 1 _ rfl
  have r2 := BR3.out.2.1 2 _ rfl
  have r3 := BR3.out.2.1 3 _ rfl
  have y0 := BR3.out.2.2 0 (by simp)
  have y1 := BR3.out.2.2 1 (by simp)
  have y2 := BR3.out.2.2 2 (by simp)
  have y3 := BR3.out.2.2 3 (by simp)
  have hR := BR3.out.1
  go_wp2_with fail
  have c1 := BR3.out.set 0 (.slice ua p.keys.length uc)
  have c2 := c1.set 1 (.slice ub p.vals.length ud)
  have c3 := c2.set 2 (.slice uk p.kids.length ul)
  have c4 := c3.set 3 (.int .i64 G)
  have HF := hid ((((HSH2.out.boxSet (u := .slice ua p.keys.length uc) BR3.out (i := 0) (by simp) (by simp)).boxSet (u := .slice ub p.vals.length ud) c1 (i := 1) (by simp) (by simp)).boxSet (u := .slice uk p.kids.length ul) c2 (i := 2) (by simp) (by simp)).boxSet (u := .int .i64 G) c3 (i := 3) (by simp) (by simp))
  have x0 := c4.2.1 0 _ rfl
  have x1 := c4.2.1 1 _ rfl
  have x2 := c4.2.1 2 _ rfl
  have x3 := c4.2.1 3 _ rfl
  clear r0 r1 r2 r3 y0 y1 y2 y3 c1 c2 c3 c4
  (try simp only [Exit.inBlock, Exit.then])
  refine bodyPost_ret (v := .agg #[.slice ua p.keys.length uc, .slice ub p.vals.length ud, .slice uk p.kids.length ul, .int .i64 G]) ?r rfl ?_
  case r => simp [x0, x1, x2, x3, results, Try.results53, go_sem]; try rfl
  exact ⟨_, _, _, rfl, HF.out, bel_set (bel_set (bel_set (bel_set HK3.out dr _ _) dr _ _) dr _ _) dr _ _⟩
end Go.Proofs.Ytmmccjdkafojgaa
