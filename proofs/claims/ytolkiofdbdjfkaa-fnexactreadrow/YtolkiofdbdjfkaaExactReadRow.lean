/- At every text the function FnExactReadRow returns true and leaves its argument as it was: ReadRow answers as its model does, and its answer owns its memory. No condition. -/
import Derived.Test.YtolkiofdbdjfkaaSpecRR
import Derived.Test.YtolkiofdbdjfkaaImplRR
import Derived.Test.YtolkiofdbdjfkaaMarkV
import Derived.Lib.SmallJoins
namespace Go.Proofs.Ytolkiofdbdjfkaa.fnExactReadRow
open Go.ChangeShapes Go.WideShapes Go.ChangeAt Go.RowKit Go.Joins Go.Deep
open Go.ChangeMaps (open_string shut_string)
set_option linter.unusedVariables false

theorem OwnVs.blocks {w : World} {base : Nat} {x : Value} {vs : List VV} (h : OwnVs w base x vs) (hn : vs ≠ []) : ∃ g cap f, x = .slice (some ⟨g, 0, none⟩) vs.length cap ∧ base ≤ g ∧ OwnRow base w g (vs.length * 3) f := by
  have h' : w.ownsRow base 24 3 x vs.length (cellsV vs) := h
  obtain ⟨hl, ⟨rfl, h0⟩ | ⟨g, cap, cur, rfl, hb, hcur, _, _, _, _⟩⟩ := h
  · exact absurd (List.eq_nil_of_length_eq_zero h0) hn
  · obtain ⟨f, hf⟩ := ownVals h'
    exact ⟨g, cap, f, rfl, hb, hf⟩
theorem vals_other {w w' : World} {x : Value} {vs : List VV} {g : Nat} (h : ValsAt w x vs) (hg : w.grownBy w' (some g)) (hx : ∀ b off l c, x = .slice (some ⟨b, off, none⟩) l c → b ≠ g) : ValsAt w' x vs := by
  rcases h with h | ⟨b, off, cap, e, hb, hc⟩
  · exact .inl h
  · have hne : b ≠ g := hx b off _ _ e
    refine .inr ⟨b, off, cap, e, Nat.lt_of_lt_of_le hb hg.size, fun i hi => ?_⟩
    have eb := hg.block b hb (by simpa using hne)
    obtain ⟨c0, c1, c2⟩ := hc i hi
    exact ⟨by simp only [World.cell?, eb]; exact c0, by simp only [World.cell?, eb]; exact c1, by simp only [World.cell?, eb]; exact c2⟩
theorem vals_below_base {w : World} {base : Nat} {x : Value} {vs : List VV} (h : OwnVs w base x vs) : ∀ b off l c, x = .slice (some ⟨b, off, none⟩) l c → b < w.heap.size := by
  intro b off l c e
  subst e
  exact (World.ownsRow.lt h b rfl).2

set_option maxHeartbeats 6400000 in
theorem walk (s : ByteArray) (hm : s.size ≤ maxLen) (w : World) :
    Calls Try.prog 10 #[.string s] w fun e w' => e = .returned (.bool true) ∧ Below w.heap.size w w' := by
  have hm2 := hm
  unfold maxLen at hm2
  by_cases hbig : 1048576 < s.size
  · have hb : (1048576 : Int) < (s.size : Int) := by omega
    go_enter Try.func10, Try.ntmps10
    go_wp2
    go_returns
    exact ⟨rfl, by go_grown⟩
  have hb : ¬ (1048576 : Int) < (s.size : Int) := by omega
  by_cases hrow : ∃ vs, RowIs s vs
  · obtain ⟨vs, hr⟩ := hrow
    have h6 := hr.2.1
    have HS := fun W => specRRYes s vs W hr
    have HI := fun W => implRRYes s vs W hr
    clear hr hm hm2 hbig
    go_enter Try.func10, Try.ntmps10
    go_wp2_with fail
    refine (HS _).mono ?_
    rintro e w1 ⟨x1, rfl, hx1, b1⟩
    have k1 := b1
    have l1 := k1.size
    have X1 := hid hx1
    clear b1 hx1
    go_wp2_with fail
    refine (HI _).mono ?_
    rintro e w2 ⟨x2, rfl, hx2, b2⟩
    have k2 := k1.trans (b2.mono l1)
    have l2 := k2.size
    have hl12 := b2.size
    have VA := hid (X1.out.vals.below b2)
    have hbelow := vals_below_base X1.out
    have HBL := hid hbelow
    have X2 := hid hx2
    clear b2 hx2 hbelow
    go_wp2_with fail
    refine (eqVals _ _ vs _ X2.out.vals VA.out (by omega)).mono ?_
    rintro e w3 ⟨rfl, b3⟩
    have k3 := k2.trans (b3.mono l2)
    have l3 := k3.size
    have VA3 := hid (VA.out.below b3)
    have X3 := hid (X2.out.below b3)
    have hl13 : w1.heap.size ≤ w3.heap.size := by have := b3.size; omega
    clear b3
    by_cases hnil : vs = []
    · subst hnil
      obtain ⟨ad, cap, hx⟩ := X3.out.slice
      subst hx
      simp only [List.length_nil] at *
      go_wp2_with fail
      refine (markValsNil ad cap _).mono ?_
      rintro e w4 ⟨rfl, hw4⟩
      subst w4
      go_wp2_with fail
      refine (heldValsNil ad cap _).mono ?_
      rintro e w4 ⟨rfl, hw4⟩
      subst w4
      go_wp2_with fail
      refine (HI _).mono ?_
      rintro e w5 ⟨x5, rfl, hx5, b5⟩
      have k5 := k3.trans (b5.mono l3)
      have l5 := k5.size
      have X5 := hid hx5
      have VA5 := hid (VA3.out.below b5)
      clear b5 hx5
      go_wp2_with fail
      refine (eqVals _ _ [] _ X5.out.vals VA5.out (by simp)).mono ?_
      rintro e w6 ⟨rfl, b6⟩
      have k6 := k5.trans (b6.mono l5)
      clear b6
      go_wp2_with fail
      refine (heldValsNil ad cap _).mono ?_
      rintro e w7 ⟨rfl, hw7⟩
      subst w7
      go_wp2
      go_returns
      exact ⟨rfl, k6⟩
    · obtain ⟨g, cap, f, hx, hgb, hO⟩ := OwnVs.blocks X3.out hnil
      subst hx
      have hO' := hO.mono l1
      have HO := hid hO
      clear hO hO'
      have hn1 : ¬ ((1 + vs.length * 3 : Nat) : Int) < 0 := by omega
      have HMK := markVals w1.heap.size g vs.length cap f w3 HO.out (by omega)
      generalize hM : ((1 + vs.length * 3 : Nat) : Int) = M at *
      go_wp2_with fail
      refine HMK.mono ?_
      rintro e w4 ⟨rfl, hO4, hg4⟩
      have k4 : Below w.heap.size w w4 := k3.grown hg4 l3 (fun r hr => by cases hr; omega)
      have l4 := k4.size
      have VA4 := hid (vals_other VA3.out hg4 (fun b off l c e => by have := HBL.out b off l c e; omega))
      have HO4 := hid hO4
      have HD4 := heldVals w1.heap.size g vs.length cap w4 HO4.out (by omega)
      rw [hM] at HD4
      clear hg4 hO4 HMK
      go_wp2_with fail
      refine HD4.mono ?_
      rintro e w5 ⟨rfl, b5⟩
      have k5 := k4.trans (b5.mono l4)
      have l5 := k5.size
      have VA5 := hid (VA4.out.below b5)
      have HO5 := hid (HO4.out.below b5)
      clear b5 HD4
      go_wp2_with fail
      refine (HI _).mono ?_
      rintro e w6 ⟨x6, rfl, hx6, b6⟩
      have k6 := k5.trans (b6.mono l5)
      have l6 := k6.size
      have X6 := hid hx6
      have VA6 := hid (VA5.out.below b6)
      have HO6 := hid (HO5.out.below b6)
      clear b6 hx6
      go_wp2_with fail
      refine (eqVals _ _ vs _ X6.out.vals VA6.out (by omega)).mono ?_
      rintro e w7 ⟨rfl, b7⟩
      have k7 := k6.trans (b7.mono l6)
      have l7 := k7.size
      have HO7 := hid (HO6.out.below b7)
      have HD7 := heldVals w1.heap.size g vs.length cap w7 HO7.out (by omega)
      rw [hM] at HD7
      clear b7
      go_wp2_with fail
      refine HD7.mono ?_
      rintro e w8 ⟨rfl, b8⟩
      have k8 := k7.trans (b8.mono l7)
      clear b8 HD7 hM
      go_wp2
      go_returns
      exact ⟨rfl, k8⟩
  · have hno : ∀ vs, ¬ RowIs s vs := fun vs h => hrow ⟨vs, h⟩
    have HS := fun W => specRRNo s W hm hno
    have HI := fun W => implRRNo s W hm hno
    have HEQ := fun W => eqVals (.slice none 0 0) (.slice none 0 0) [] W (.inl ⟨_, _, rfl, rfl⟩) (.inl ⟨_, _, rfl, rfl⟩) (by simp)
    clear hno hrow hm hm2 hbig
    go_enter Try.func10, Try.ntmps10
    go_wp2_with fail
    refine (HS _).mono ?_
    rintro e w1 ⟨rfl, hb1⟩
    obtain ⟨hc1, hf1⟩ := bcell hb1
    have hz1 := hb1.size
    try simp only [World.size_drew] at hz1
    try simp only [World.size_setCell] at hz1
    try simp only [World.size_alloc] at hz1
    clear hz1
    have k1 : Below w.heap.size w w1 := by
      refine Below.trans ?_ (hb1.mono ?_)
      · go_grown
      · go_size
    have hl1 : w.heap.size ≤ w1.heap.size := k1.size
    clear hb1
    go_wp2_with fail
    refine (HI _).mono ?_
    rintro e w2 ⟨rfl, hb2⟩
    obtain ⟨hc2, hf2⟩ := bcell hb2
    have hz2 := hb2.size
    try simp only [World.size_drew] at hz2
    try simp only [World.size_setCell] at hz2
    try simp only [World.size_alloc] at hz2
    try have hy2_1 : w1.heap.size < w2.heap.size := (by omega)
    clear hz2
    have k2 : Below w.heap.size w w2 := by
      refine Below.trans ?_ (hb2.mono ?_)
      · go_grown
      · go_size
    have hl2 : w.heap.size ≤ w2.heap.size := k2.size
    clear hb2
    go_wp2_with fail
    refine (HEQ _).mono ?_
    rintro e w3 ⟨rfl, hb3⟩
    obtain ⟨hc3, hf3⟩ := bcell hb3
    have hz3 := hb3.size
    try simp only [World.size_drew] at hz3
    try simp only [World.size_setCell] at hz3
    try simp only [World.size_alloc] at hz3
    try have hy3_1 : w1.heap.size < w3.heap.size := (by omega)
    try have hy3_2 : w2.heap.size < w3.heap.size := (by omega)
    clear hz3
    have k3 : Below w.heap.size w w3 := by
      refine Below.trans ?_ (hb3.mono ?_)
      · go_grown
      · go_size
    have hl3 : w.heap.size ≤ w3.heap.size := k3.size
    clear hb3
    go_wp2_with fail
    refine (markValsNil none 0 _).mono ?_
    rintro e w4 ⟨rfl, hw4⟩
    subst w4
    go_wp2_with fail
    refine (heldValsNil none 0 _).mono ?_
    rintro e w4 ⟨rfl, hw4⟩
    subst w4
    go_wp2_with fail
    refine (HI _).mono ?_
    rintro e w4 ⟨rfl, hb4⟩
    obtain ⟨hc4, hf4⟩ := bcell hb4
    have hz4 := hb4.size
    try simp only [World.size_drew] at hz4
    try simp only [World.size_setCell] at hz4
    try simp only [World.size_alloc] at hz4
    try have hy4_1 : w1.heap.size < w4.heap.size := (by omega)
    try have hy4_2 : w2.heap.size < w4.heap.size := (by omega)
    try have hy4_3 : w3.heap.size < w4.heap.size := (by omega)
    clear hz4
    have k4 : Below w.heap.size w w4 := by
      refine Below.trans ?_ (hb4.mono ?_)
      · go_grown
      · go_size
    have hl4 : w.heap.size ≤ w4.heap.size := k4.size
    clear hb4
    go_wp2_with fail
    refine (HEQ _).mono ?_
    rintro e w5 ⟨rfl, hb5⟩
    obtain ⟨hc5, hf5⟩ := bcell hb5
    have hz5 := hb5.size
    try simp only [World.size_drew] at hz5
    try simp only [World.size_setCell] at hz5
    try simp only [World.size_alloc] at hz5
    try have hy5_1 : w1.heap.size < w5.heap.size := (by omega)
    try have hy5_2 : w2.heap.size < w5.heap.size := (by omega)
    try have hy5_3 : w3.heap.size < w5.heap.size := (by omega)
    try have hy5_4 : w4.heap.size < w5.heap.size := (by omega)
    clear hz5
    have k5 : Below w.heap.size w w5 := by
      refine Below.trans ?_ (hb5.mono ?_)
      · go_grown
      · go_size
    have hl5 : w.heap.size ≤ w5.heap.size := k5.size
    clear hb5
    go_wp2_with fail
    refine (heldValsNil none 0 _).mono ?_
    rintro e w6 ⟨rfl, hw6⟩
    subst w6
    go_wp2
    go_returns
    exact ⟨rfl, by go_grown⟩

theorem own : ownKnob Try.prog.godebug = none := by kernel_rfl
theorem laidOut : laidOutB Try.prog = true := by kernel_rfl
set_option maxRecDepth 100000 in
theorem lifted (os : Os) (started : os.Started) (H : Type) (enc : TypeId × Value → H) :
    ReturnsInHanded {} Try.checked os 10 .any (Rows.fnExactReadRowSpec.pre6 enc Try.prog Try.f10 Rows.fnExactReadRowRow.domain false) (Rows.fnExactReadRowSpec.post enc Try.prog Try.f10 false true false false) := by
  refine returnsInHanded_of_change (C := Try.checked) own started (by kernel_rfl) Try.func10
    (ChangeSpec.witness6 (enc := enc) (C := Try.checked) false ⟨#[], #[.string ByteArray.empty], []⟩ 8 (by kernel_rfl) (by kernel_rfl) (by kernel_rfl) (by kernel_rfl)) ?_
  intro W base args ds gs before hval0 hW hcnd _
  have hval : ∀ (j : Nat) t v, Try.f10.params[j]? = some t → args[j]? = some v → Value.okWide Try.prog W .any base t v := hval0
  have hW' := hW
  obtain ⟨p, q, hA0, hV, rfl, hfz, hnd⟩ := hW
  have hA : DataW.TrodAll enc Try.prog W 0 (fun _ => true) true Try.f10.params.toList args.toList ds p := hA0
  rw [Try.params10] at hA hval
  obtain ⟨v0, vs0, d0, ds0, p0, q0, hargs, rfl, rfl, h0, r0⟩ := trodAll_cons hA
  obtain ⟨rfl, rfl, rfl⟩ := trodAll_nil r0
  obtain rfl : args = #[v0] := by cases args; simp_all
  obtain ⟨rfl, rfl⟩ := trodVars_none hV
  obtain ⟨s0, rfl, rfl, rfl, hs0⟩ := open_string Try.underlying9 (hval 0 9 v0 rfl rfl) h0
  clear hA0 hval0
  refine (walk s0 hs0 W).mono fun e W' ⟨he, bel⟩ => ?_
  subst he
  exact ⟨_, rfl, _, _, _, [], _, [], hW', trodAll_mk1 (shut_bool Try.underlying4 _), (trodAll_cons_mk (shut_string Try.underlying9 hs0) trodAll_mk0), rfl, bel.frame _, fun h => by cases h⟩

theorem over : Rows.fnExactReadRowRow.holds Try.pinned (OpenSpec.ofChange Rows.fnExactReadRowSpec) :=
  OpenClaim.holds_of_wide 10 Try.f10 rfl rfl rfl rfl rfl rfl rfl ⟨rfl, rfl, rfl, rfl, rfl⟩ rfl rfl rfl rfl rfl (by kernel_rfl) Try.func10 (by kernel_rfl)
    (of_decide_eq_true (by kernel_rfl)) (by unfold Func.isWrapper; first | (rw [if_pos (by decide +kernel)]; kernel_rfl) | (rw [if_neg (by decide +kernel)]; exact ⟨rfl, rfl⟩))
    (fun os started H enc _ => lifted os started H enc)
end Go.Proofs.Ytolkiofdbdjfkaa.fnExactReadRow
namespace Go.Proofs.Ytolkiofdbdjfkaa
theorem fnExactReadRow_holds : Rows.FnExactReadRowSaid := fnExactReadRow.over
#print axioms fnExactReadRow_holds
end Go.Proofs.Ytolkiofdbdjfkaa
