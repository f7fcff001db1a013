/- Contracts of MeetPosts, program and model. Condition: the posts lie in memory. -/
import Derived.Test.YtkkmnegmghllpaaSpecMe
import Derived.Test.YtkkmnegmghllpaaImplGP
namespace Go.Proofs.Ytkkmnegmghllpaa
open Go.ChangeShapes Go.WideShapes Go.ChangeAt Go.RowKit Go.Deep
set_option linter.unusedVariables false
attribute [local go_sem ↓] Go.wp_at_zero Go.wp_at_succ

theorem GoodP.sm {ps : List Po} (h : GoodP ps) : SmP ps := by
  refine ⟨by have := h.1; omega, fun p hp => ?_⟩
  obtain ⟨i, hi, rfl⟩ := List.mem_iff_getElem.1 hp
  have h1 := h.2.1 i hi
  rw [show ps.getD i default = ps[i] by simp [List.getD, hi]] at h1
  refine ⟨?_, fun n hn => ?_⟩
  · rcases Nat.lt_or_ge 20 (ps[i]).2.length with hlt | hge
    · have h2 := rise_ge h1.2.2 20 hlt
      have h3 := (h1.2.2.1 20 hlt).2
      omega
    · omega
  · obtain ⟨j, hj, he⟩ := mem_getD.1 hn
    have h2 := h1.2.2.1 j hj
    rw [he] at h2
    omega
theorem rise_lt {ps : List Po} {k : Nat} (h : ∀ i, i + 1 < k → (ps.getD i default).1 < (ps.getD (i + 1) default).1) : ∀ d i, i + d + 1 < k → (ps.getD i default).1 < (ps.getD (i + d + 1) default).1
  | 0, i, hi => h i hi
  | d + 1, i, hi => by
    have h1 := rise_lt h d i (by omega)
    have h2 := h (i + d + 1) (by omega)
    have : i + (d + 1) + 1 = i + d + 1 + 1 := by omega
    rw [this]; omega
theorem GoodP.un {ps : List Po} (h : GoodP ps) : UnP ps := by
  intro i j hi hj he
  rcases Nat.lt_trichotomy i j with hlt | rfl | hgt
  · have := rise_lt h.2.2 (j - i - 1) i (by omega)
    rw [show i + (j - i - 1) + 1 = j by omega] at this
    omega
  · rfl
  · have := rise_lt h.2.2 (i - j - 1) j (by omega)
    rw [show j + (i - j - 1) + 1 = i by omega] at this
    omega
theorem meetP_sum (b : List Po) (y : Int) : ∀ a : List Po, sumL (meetP a b y) ≤ sumL a
  | [] => by simp [meetP, sumL]
  | p :: a => by
    have h2 := meetP_sum b y a
    have h1 : sumL (meet1 p b y) ≤ p.2.length := by
      unfold meet1
      split
      · simp [sumL]
      · have := keep_len p.2 (plcs b p.1) y
        simpa [sumL] using this
    rw [show meetP (p :: a) b y = meet1 p b y ++ meetP a b y from rfl, sumL_append, show p :: a = [p] ++ a from rfl, sumL_append]
    have h3 : sumL [p] = p.2.length := by simp [sumL]
    omega
/-- What MeetPosts answers. -/
def mpB (Ga Gb : Bool) (y : Int) : Bool := Ga && Gb && decide (-20 ≤ y ∧ y ≤ 20)
def mpA (Ga Gb : Bool) (a b : List Po) (y : Int) : List Po := if mpB Ga Gb y then meetP a b y else []
set_option maxHeartbeats 6400000 in
set_option maxRecDepth 100000 in
theorem implMP (av bv : Value) (a b : List Po) (Ga Gb : Bool) (hGa : Ga = true ↔ GoodP a) (hGb : Gb = true ↔ GoodP b) (y : Int) (w : World) (ha : PosAt w av a) (hb : PosAt w bv b)
    (la : a.length ≤ 1048576) (lb : b.length ≤ 1048576) (sa : ∀ p ∈ a, p.2.length ≤ 1048576) (sb : ∀ p ∈ b, p.2.length ≤ 1048576) :
    Calls Try.prog 36 #[av, bv, .int .i64 y] w fun e w' => (∃ v vs, e = .returned (.tuple #[v, .bool (mpB Ga Gb y)]) ∧ GrP w.heap.size w' v (mpA Ga Gb a b y) vs) ∧ Below w.heap.size w w' := by
  have HA := hid ha
  have HB := hid hb
  have HGA := fun W h => implGP av a Ga hGa W h la sa
  have HGB := fun W h => implGP bv b Gb hGb W h lb sb
  obtain ⟨aa, ac, hae⟩ := ha.slice
  subst hae
  obtain ⟨ba, bc, hbe⟩ := hb.slice
  subst hbe
  have hAA := hid hGa
  have hBB := hid hGb
  clear ha hb hGa hGb
  cases Ga with
  | false =>
    have hb0 : mpB false Gb y = false := rfl
    have ha0 : mpA false Gb a b y = [] := rfl
    rw [hb0, ha0]
    clear hb0 ha0
    go_enter Try.func36, Try.ntmps36
    go_wp2_with fail
    refine (HGA _ HA.out).mono ?_
    rintro e w1 ⟨rfl, hb1⟩
    clear HGA HGB
    go_wp2
    go_returns
    exact ⟨⟨_, [], rfl, GrP.nil _ _⟩, hb1⟩
  | true =>
    cases Gb with
    | false =>
      have hb0 : mpB true false y = false := rfl
      have ha0 : mpA true false a b y = [] := rfl
      rw [hb0, ha0]
      clear hb0 ha0
      go_enter Try.func36, Try.ntmps36
      go_wp2_with fail
      refine (HGA _ HA.out).mono ?_
      rintro e w1 ⟨rfl, hb1⟩
      clear HGA
      go_wp2_with fail
      refine (HGB _ (HB.out.below hb1)).mono ?_
      rintro e w2 ⟨rfl, hb2⟩
      have k2 : Below w.heap.size w w2 := hb1.trans (hb2.mono hb1.size)
      clear HGB hb1 hb2
      go_wp2
      go_returns
      exact ⟨⟨_, [], rfl, GrP.nil _ _⟩, k2⟩
    | true =>
      have hsa := (hAA.out.1 rfl).sm
      have hsb := (hBB.out.1 rfl).sm
      have hub := (hBB.out.1 rfl).un
      by_cases hy : -20 ≤ y ∧ y ≤ 20
      · have hb0 : mpB true true y = true := by simp [mpB, hy]
        have ha0 : mpA true true a b y = meetP a b y := by unfold mpA; rw [hb0, if_pos rfl]
        rw [hb0, ha0]
        clear hb0 ha0
        have HM := fun W h g => implMeet (.slice aa a.length ac) (.slice ba b.length bc) a b y W h g hsa hsb (by omega)
        have i1 : decide (y < -20) = false := by simp; omega
        have i2 : decide (20 < y) = false := by simp; omega
        clear hy hsa hsb hub
        go_enter Try.func36, Try.ntmps36
        go_wp2_with fail
        refine (HGA _ HA.out).mono ?_
        rintro e w1 ⟨rfl, hb1⟩
        clear HGA
        go_wp2_with fail
        refine (HGB _ (HB.out.below hb1)).mono ?_
        rintro e w2 ⟨rfl, hb2⟩
        have k2 : Below w.heap.size w w2 := hb1.trans (hb2.mono hb1.size)
        clear HGB hb1 hb2
        go_wp2_with fail
        refine (HM _ (HA.out.below k2) (HB.out.below k2)).mono ?_
        rintro e w3 ⟨⟨v, vs, rfl, hg⟩, hb3⟩
        have k3 : Below w.heap.size w w3 := k2.trans (hb3.mono k2.size)
        have HG := hid (hg.mono k2.size)
        obtain ⟨va, vc, hve⟩ := hg.slice
        subst hve
        clear HM hg hb3
        go_wp2
        go_returns
        exact ⟨⟨_, vs, rfl, HG.out⟩, k3⟩
      · have hb0 : mpB true true y = false := by simp only [mpB, Bool.true_and]; exact decide_eq_false hy
        have ha0 : mpA true true a b y = [] := by unfold mpA; rw [hb0]; rfl
        rw [hb0, ha0]
        clear hb0 ha0 hsa hsb hub
        by_cases hy1 : y < -20
        · have i1 : decide (y < -20) = true := by simp; omega
          clear hy
          go_enter Try.func36, Try.ntmps36
          go_wp2_with fail
          refine (HGA _ HA.out).mono ?_
          rintro e w1 ⟨rfl, hb1⟩
          clear HGA
          go_wp2_with fail
          refine (HGB _ (HB.out.below hb1)).mono ?_
          rintro e w2 ⟨rfl, hb2⟩
          have k2 : Below w.heap.size w w2 := hb1.trans (hb2.mono hb1.size)
          clear HGB hb1 hb2
          go_wp2
          go_returns
          exact ⟨⟨_, [], rfl, GrP.nil _ _⟩, k2⟩
        · have i1 : decide (y < -20) = false := by simp; omega
          have i2 : decide (20 < y) = true := by simp; omega
          clear hy
          go_enter Try.func36, Try.ntmps36
          go_wp2_with fail
          refine (HGA _ HA.out).mono ?_
          rintro e w1 ⟨rfl, hb1⟩
          clear HGA
          go_wp2_with fail
          refine (HGB _ (HB.out.below hb1)).mono ?_
          rintro e w2 ⟨rfl, hb2⟩
          have k2 : Below w.heap.size w w2 := hb1.trans (hb2.mono hb1.size)
          clear HGB hb1 hb2
          go_wp2
          go_returns
          exact ⟨⟨_, [], rfl, GrP.nil _ _⟩, k2⟩
set_option maxHeartbeats 6400000 in
set_option maxRecDepth 100000 in
theorem specMP (av bv : Value) (a b : List Po) (Ga Gb : Bool) (hGa : Ga = true ↔ GoodP a) (hGb : Gb = true ↔ GoodP b) (y : Int) (w : World) (ha : PosAt w av a) (hb : PosAt w bv b)
    (la : a.length ≤ 1048576) (lb : b.length ≤ 1048576) (sa : ∀ p ∈ a, p.2.length ≤ 1048576) (sb : ∀ p ∈ b, p.2.length ≤ 1048576) :
    Calls Try.prog 37 #[av, bv, .int .i64 y] w fun e w' => (∃ v vs, e = .returned (.tuple #[v, .bool (mpB Ga Gb y)]) ∧ GrP w.heap.size w' v (mpA Ga Gb a b y) vs) ∧ Below w.heap.size w w' := by
  have HA := hid ha
  have HB := hid hb
  have HGA := fun W h => specGP av a Ga hGa W h la sa
  have HGB := fun W h => specGP bv b Gb hGb W h lb sb
  obtain ⟨aa, ac, hae⟩ := ha.slice
  subst hae
  obtain ⟨ba, bc, hbe⟩ := hb.slice
  subst hbe
  have hAA := hid hGa
  have hBB := hid hGb
  clear ha hb hGa hGb
  cases Ga with
  | false =>
    have hb0 : mpB false Gb y = false := rfl
    have ha0 : mpA false Gb a b y = [] := rfl
    rw [hb0, ha0]
    clear hb0 ha0
    go_enter Try.func37, Try.ntmps37
    go_wp2_with fail
    refine (HGA _ HA.out).mono ?_
    rintro e w1 ⟨rfl, hb1⟩
    clear HGA HGB
    go_wp2
    go_returns
    exact ⟨⟨_, [], rfl, GrP.nil _ _⟩, hb1⟩
  | true =>
    cases Gb with
    | false =>
      have hb0 : mpB true false y = false := rfl
      have ha0 : mpA true false a b y = [] := rfl
      rw [hb0, ha0]
      clear hb0 ha0
      go_enter Try.func37, Try.ntmps37
      go_wp2_with fail
      refine (HGA _ HA.out).mono ?_
      rintro e w1 ⟨rfl, hb1⟩
      clear HGA
      go_wp2_with fail
      refine (HGB _ (HB.out.below hb1)).mono ?_
      rintro e w2 ⟨rfl, hb2⟩
      have k2 : Below w.heap.size w w2 := hb1.trans (hb2.mono hb1.size)
      clear HGB hb1 hb2
      go_wp2
      go_returns
      exact ⟨⟨_, [], rfl, GrP.nil _ _⟩, k2⟩
    | true =>
      have hsa := (hAA.out.1 rfl).sm
      have hsb := (hBB.out.1 rfl).sm
      have hub := (hBB.out.1 rfl).un
      by_cases hy : -20 ≤ y ∧ y ≤ 20
      · have hb0 : mpB true true y = true := by simp [mpB, hy]
        have ha0 : mpA true true a b y = meetP a b y := by unfold mpA; rw [hb0, if_pos rfl]
        rw [hb0, ha0]
        clear hb0 ha0
        have HM := fun W h g => specMeet (.slice aa a.length ac) (.slice ba b.length bc) a b y W h g hsa hsb hub (by omega)
        have HIN := fun W => l1InB y (-20) 20 W
        rw [decide_eq_true hy] at HIN
        clear hy hsa hsb hub
        go_enter Try.func37, Try.ntmps37
        go_wp2_with fail
        refine (HGA _ HA.out).mono ?_
        rintro e w1 ⟨rfl, hb1⟩
        clear HGA
        go_wp2_with fail
        refine (HGB _ (HB.out.below hb1)).mono ?_
        rintro e w2 ⟨rfl, hb2⟩
        have k2 : Below w.heap.size w w2 := hb1.trans (hb2.mono hb1.size)
        clear HGB hb1 hb2
        go_wp2_with fail
        refine (HIN _).mono ?_
        rintro e w9 ⟨rfl, hw9⟩
        subst w9
        go_wp2_with fail
        refine (HM _ (HA.out.below k2) (HB.out.below k2)).mono ?_
        rintro e w3 ⟨⟨v, vs, rfl, hg⟩, hb3⟩
        have k3 : Below w.heap.size w w3 := k2.trans (hb3.mono k2.size)
        have HG := hid (hg.mono k2.size)
        obtain ⟨va, vc, hve⟩ := hg.slice
        subst hve
        clear HM hg hb3
        go_wp2
        go_returns
        exact ⟨⟨_, vs, rfl, HG.out⟩, k3⟩
      · have hb0 : mpB true true y = false := by simp only [mpB, Bool.true_and]; exact decide_eq_false hy
        have ha0 : mpA true true a b y = [] := by unfold mpA; rw [hb0]; rfl
        rw [hb0, ha0]
        have HIN := fun W => l1InB y (-20) 20 W
        rw [decide_eq_false hy] at HIN
        clear hb0 ha0 hsa hsb hub hy
        go_enter Try.func37, Try.ntmps37
        go_wp2_with fail
        refine (HGA _ HA.out).mono ?_
        rintro e w1 ⟨rfl, hb1⟩
        clear HGA
        go_wp2_with fail
        refine (HGB _ (HB.out.below hb1)).mono ?_
        rintro e w2 ⟨rfl, hb2⟩
        have k2 : Below w.heap.size w w2 := hb1.trans (hb2.mono hb1.size)
        clear HGB hb1 hb2
        go_wp2_with fail
        refine (HIN _).mono ?_
        rintro e w9 ⟨rfl, hw9⟩
        subst w9
        go_wp2
        go_returns
        exact ⟨⟨_, [], rfl, GrP.nil _ _⟩, k2⟩
end Go.Proofs.Ytkkmnegmghllpaa
