/- TotalOf, BoundAt, IsHeap: program and model. Condition: the lists lie in memory. -/
import Derived.Test.YthdodlbhkpoadaaTotB
import Derived.Test.YthdodlbhkpoadaaHeapB
namespace Go.Proofs.Ythdodlbhkpoadaa
open Go.ChangeShapes Go.WideShapes Go.ChangeAt Go.RowKit Go.Deep
set_option linter.unusedVariables false
attribute [local go_sem ↓] Go.wp_at_zero Go.wp_at_succ

def totA (B : Bool) (R : List (List Sc)) (d : Int) : Bool := B && decide (0 ≤ d ∧ d ≤ 99)
def totV (B : Bool) (R : List (List Sc)) (d : Int) : Int := if totA B R d = true then tot R d else 0
set_option maxHeartbeats 3200000 in
theorem implTotalOf (x : Value) (R : List (List Sc)) (d : Int) (Bg : Bool) (hB : Bg = true ↔ GoodRs R) (w : World) (h : RdR w x R) (hl : R.length ≤ 1048576) (hs : ∀ r ∈ R, r.length ≤ 1048576) :
    Calls Try.prog 19 #[x, .int .i64 d] w fun e w' => e = .returned (.tuple #[.int .i64 (totV Bg R d), .bool (totA Bg R d)]) ∧ Below w.heap.size w w' := by
  have HR := implRows x R Bg hB w h hl hs
  have HS := hid h
  have HB := hid hB
  obtain ⟨B, hI⟩ : ∃ B, B = decide (0 ≤ d ∧ d ≤ 99) := ⟨_, rfl⟩
  have HIN := fun W => implGDoc d B hI W
  obtain ⟨V, hV⟩ : ∃ V, V = totV Bg R d := ⟨_, rfl⟩
  obtain ⟨A, hA⟩ : ∃ A, A = totA Bg R d := ⟨_, rfl⟩
  rw [← hV, ← hA]
  have HV := hid hV
  have HA := hid hA
  unfold totV at HV
  unfold totA at HV HA
  rw [← hI] at HV HA
  obtain ⟨xa, xc, rfl⟩ := h.slice
  clear h hB hV hA hI
  cases Bg with
  | false =>
    have HVF : Hid (V = 0) := by show _ = _; rw [HV.out]; simp
    have HAF : Hid (A = false) := by show _ = _; rw [HA.out]; simp
    go_enter Try.func19, Try.ntmps19
    go_wp2_with fail
    refine HR.mono ?_
    rintro e w1 ⟨rfl, hb1⟩
    clear HR
    go_wp2
    go_returns
    exact ⟨by rw [HVF.out, HAF.out]; rfl, hb1⟩
  | true =>
    have hg := HB.out.1 rfl
    cases B with
    | false =>
      have HVF : Hid (V = 0) := by show _ = _; rw [HV.out]; simp
      have HAF : Hid (A = false) := by show _ = _; rw [HA.out]; simp
      clear hg
      go_enter Try.func19, Try.ntmps19
      go_wp2_with fail
      refine HR.mono ?_
      rintro e w1 ⟨rfl, hb1⟩
      clear HR
      go_wp2_with fail
      refine (HIN _).mono ?_
      rintro e w2 ⟨rfl, hw2⟩
      subst w2
      go_wp2
      go_returns
      exact ⟨by rw [HVF.out, HAF.out]; rfl, hb1⟩
    | true =>
      have HVF : Hid (V = tot R d) := by show _ = _; rw [HV.out]; simp
      have HAF : Hid (A = true) := by show _ = _; rw [HA.out]; simp
      have HT := fun W hW => implTotal (.slice xa R.length xc) R d W hW hg.2 hg.1.2
      clear hg
      go_enter Try.func19, Try.ntmps19
      go_wp2_with fail
      refine HR.mono ?_
      rintro e w1 ⟨rfl, hb1⟩
      clear HR
      go_wp2_with fail
      refine (HIN _).mono ?_
      rintro e w2 ⟨rfl, hw2⟩
      subst w2
      go_wp2_with fail
      refine (HT _ (HS.out.at.below hb1)).mono ?_
      rintro e w2 ⟨rfl, hb2⟩
      have k2 := hb1.trans (hb2.mono hb1.size)
      clear hb1 hb2 HT
      go_wp2
      go_returns
      exact ⟨by rw [HVF.out, HAF.out]; rfl, k2⟩
set_option maxHeartbeats 3200000 in
theorem specTotalOf (x : Value) (R : List (List Sc)) (d : Int) (Bg : Bool) (hB : Bg = true ↔ GoodRs R) (w : World) (h : RdR w x R) (hl : R.length ≤ 1048576) (hs : ∀ r ∈ R, r.length ≤ 1048576) :
    Calls Try.prog 21 #[x, .int .i64 d] w fun e w' => e = .returned (.tuple #[.int .i64 (totV Bg R d), .bool (totA Bg R d)]) ∧ Below w.heap.size w w' := by
  have HR := specRows x R Bg hB w h hl hs
  have HS := hid h
  have HB := hid hB
  obtain ⟨B, hI⟩ : ∃ B, B = decide (0 ≤ d ∧ d ≤ 99) := ⟨_, rfl⟩
  have HIN := fun W => specIn d 0 99 B hI W
  obtain ⟨V, hV⟩ : ∃ V, V = totV Bg R d := ⟨_, rfl⟩
  obtain ⟨A, hA⟩ : ∃ A, A = totA Bg R d := ⟨_, rfl⟩
  rw [← hV, ← hA]
  have HV := hid hV
  have HA := hid hA
  unfold totV at HV
  unfold totA at HV HA
  rw [← hI] at HV HA
  obtain ⟨xa, xc, rfl⟩ := h.slice
  clear h hB hV hA hI
  cases Bg with
  | false =>
    have HVF : Hid (V = 0) := by show _ = _; rw [HV.out]; simp
    have HAF : Hid (A = false) := by show _ = _; rw [HA.out]; simp
    go_enter Try.func21, Try.ntmps21
    go_wp2_with fail
    refine HR.mono ?_
    rintro e w1 ⟨rfl, hb1⟩
    clear HR
    go_wp2
    go_returns
    exact ⟨by rw [HVF.out, HAF.out]; rfl, hb1⟩
  | true =>
    have hg := HB.out.1 rfl
    cases B with
    | false =>
      have HVF : Hid (V = 0) := by show _ = _; rw [HV.out]; simp
      have HAF : Hid (A = false) := by show _ = _; rw [HA.out]; simp
      clear hg
      go_enter Try.func21, Try.ntmps21
      go_wp2_with fail
      refine HR.mono ?_
      rintro e w1 ⟨rfl, hb1⟩
      clear HR
      go_wp2_with fail
      refine (HIN _).mono ?_
      rintro e w2 ⟨rfl, hw2⟩
      subst w2
      go_wp2
      go_returns
      exact ⟨by rw [HVF.out, HAF.out]; rfl, hb1⟩
    | true =>
      have HVF : Hid (V = tot R d) := by show _ = _; rw [HV.out]; simp
      have HAF : Hid (A = true) := by show _ = _; rw [HA.out]; simp
      have HT := fun W hW => specTotal (.slice xa R.length xc) R d W hW hg.2 hg.1.2
      clear hg
      go_enter Try.func21, Try.ntmps21
      go_wp2_with fail
      refine HR.mono ?_
      rintro e w1 ⟨rfl, hb1⟩
      clear HR
      go_wp2_with fail
      refine (HIN _).mono ?_
      rintro e w2 ⟨rfl, hw2⟩
      subst w2
      go_wp2_with fail
      refine (HT _ (HS.out.at.below hb1)).mono ?_
      rintro e w2 ⟨rfl, hb2⟩
      have k2 := hb1.trans (hb2.mono hb1.size)
      clear hb1 hb2 HT
      go_wp2
      go_returns
      exact ⟨by rw [HVF.out, HAF.out]; rfl, k2⟩
def bndA (B : Bool) (d : Int) : Bool := B && decide (0 ≤ d ∧ d ≤ 20)
def bndV (B : Bool) (R : List (List Sc)) (d : Int) : Int := if bndA B d = true then bnd R d.toNat else 0
set_option maxHeartbeats 3200000 in
theorem implBoundAt (x : Value) (R : List (List Sc)) (d : Int) (Bg : Bool) (hB : Bg = true ↔ GoodRs R) (w : World) (h : RdR w x R) (hl : R.length ≤ 1048576) (hs : ∀ r ∈ R, r.length ≤ 1048576) :
    Calls Try.prog 23 #[x, .int .i64 d] w fun e w' => e = .returned (.tuple #[.int .i64 (bndV Bg R d), .bool (bndA Bg d)]) ∧ Below w.heap.size w w' := by
  have HR := implRows x R Bg hB w h hl hs
  have HS := hid h
  have HB := hid hB
  obtain ⟨V, hV⟩ : ∃ V, V = bndV Bg R d := ⟨_, rfl⟩
  obtain ⟨A, hA⟩ : ∃ A, A = bndA Bg d := ⟨_, rfl⟩
  rw [← hV, ← hA]
  have HV := hid hV
  have HA := hid hA
  unfold bndV at HV
  unfold bndA at HV HA
  obtain ⟨xa, xc, rfl⟩ := h.slice
  clear h hB hV hA
  cases Bg with
  | false =>
    have HVF : Hid (V = 0) := by show _ = _; rw [HV.out]; simp
    have HAF : Hid (A = false) := by show _ = _; rw [HA.out]; simp
    go_enter Try.func23, Try.ntmps23
    go_wp2_with fail
    refine HR.mono ?_
    rintro e w1 ⟨rfl, hb1⟩
    clear HR
    go_wp2
    go_returns
    exact ⟨by rw [HVF.out, HAF.out]; rfl, hb1⟩
  | true =>
    have hg := HB.out.1 rfl
    by_cases h0 : d < 0
    · have HVF : Hid (V = 0) := by show _ = _; rw [HV.out, if_neg (by simp; omega)]
      have HAF : Hid (A = false) := by show _ = _; rw [HA.out]; simp; omega
      clear hg
      go_enter Try.func23, Try.ntmps23
      go_wp2_with fail
      refine HR.mono ?_
      rintro e w1 ⟨rfl, hb1⟩
      clear HR
      go_wp2
      go_returns
      exact ⟨by rw [HVF.out, HAF.out]; rfl, hb1⟩
    · by_cases h2 : 20 < d
      · have HVF : Hid (V = 0) := by show _ = _; rw [HV.out, if_neg (by simp; omega)]
        have HAF : Hid (A = false) := by show _ = _; rw [HA.out]; simp; omega
        clear hg
        go_enter Try.func23, Try.ntmps23
        go_wp2_with fail
        refine HR.mono ?_
        rintro e w1 ⟨rfl, hb1⟩
        clear HR
        go_wp2
        go_returns
        exact ⟨by rw [HVF.out, HAF.out]; rfl, hb1⟩
      · obtain ⟨D, hD⟩ : ∃ D : Nat, d = (D : Int) := ⟨d.toNat, by omega⟩
        subst hD
        have HVF : Hid (V = bnd R D) := by show _ = _; rw [HV.out, if_pos (by simp; omega)]; rfl
        have HAF : Hid (A = true) := by show _ = _; rw [HA.out]; simp; omega
        have HT := fun W hW => implBound (.slice xa R.length xc) R D W hW hg.2 hg.1.2 (by omega)
        clear hg
        go_enter Try.func23, Try.ntmps23
        go_wp2_with fail
        refine HR.mono ?_
        rintro e w1 ⟨rfl, hb1⟩
        clear HR
        go_wp2_with fail
        refine (HT _ (HS.out.at.below hb1)).mono ?_
        rintro e w2 ⟨rfl, hb2⟩
        have k2 := hb1.trans (hb2.mono hb1.size)
        clear hb1 hb2 HT
        go_wp2
        go_returns
        exact ⟨by rw [HVF.out, HAF.out]; rfl, k2⟩
set_option maxHeartbeats 3200000 in
theorem specBoundAt (x : Value) (R : List (List Sc)) (d : Int) (Bg : Bool) (hB : Bg = true ↔ GoodRs R) (w : World) (h : RdR w x R) (hl : R.length ≤ 1048576) (hs : ∀ r ∈ R, r.length ≤ 1048576) :
    Calls Try.prog 24 #[x, .int .i64 d] w fun e w' => e = .returned (.tuple #[.int .i64 (bndV Bg R d), .bool (bndA Bg d)]) ∧ Below w.heap.size w w' := by
  have HR := specRows x R Bg hB w h hl hs
  have HS := hid h
  have HB := hid hB
  obtain ⟨I, hI⟩ : ∃ I, I = decide (0 ≤ d ∧ d ≤ 20) := ⟨_, rfl⟩
  have HIN := fun W => specIn d 0 20 I hI W
  obtain ⟨V, hV⟩ : ∃ V, V = bndV Bg R d := ⟨_, rfl⟩
  obtain ⟨A, hA⟩ : ∃ A, A = bndA Bg d := ⟨_, rfl⟩
  rw [← hV, ← hA]
  have HV := hid hV
  have HA := hid hA
  unfold bndV at HV
  unfold bndA at HV HA
  rw [← hI] at HV HA
  have HI := hid hI
  obtain ⟨xa, xc, rfl⟩ := h.slice
  clear h hB hV hA hI
  cases Bg with
  | false =>
    have HVF : Hid (V = 0) := by show _ = _; rw [HV.out]; simp
    have HAF : Hid (A = false) := by show _ = _; rw [HA.out]; simp
    go_enter Try.func24, Try.ntmps24
    go_wp2_with fail
    refine HR.mono ?_
    rintro e w1 ⟨rfl, hb1⟩
    clear HR
    go_wp2
    go_returns
    exact ⟨by rw [HVF.out, HAF.out]; rfl, hb1⟩
  | true =>
    have hg := HB.out.1 rfl
    cases I with
    | false =>
      have HVF : Hid (V = 0) := by show _ = _; rw [HV.out]; simp
      have HAF : Hid (A = false) := by show _ = _; rw [HA.out]; simp
      clear hg
      go_enter Try.func24, Try.ntmps24
      go_wp2_with fail
      refine HR.mono ?_
      rintro e w1 ⟨rfl, hb1⟩
      clear HR
      go_wp2_with fail
      refine (HIN _).mono ?_
      rintro e w2 ⟨rfl, hw2⟩
      subst w2
      go_wp2
      go_returns
      exact ⟨by rw [HVF.out, HAF.out]; rfl, hb1⟩
    | true =>
      have hdd := of_decide_eq_true HI.out.symm
      obtain ⟨D, hD⟩ : ∃ D : Nat, d = (D : Int) := ⟨d.toNat, by omega⟩
      subst hD
      have HVF : Hid (V = bnd R D) := by show _ = _; rw [HV.out]; simp
      have HAF : Hid (A = true) := by show _ = _; rw [HA.out]; simp
      have HT := fun W hW => specBound (.slice xa R.length xc) R D W hW hg.2 hg.1.2 (by omega)
      clear hg hdd
      go_enter Try.func24, Try.ntmps24
      go_wp2_with fail
      refine HR.mono ?_
      rintro e w1 ⟨rfl, hb1⟩
      clear HR
      go_wp2_with fail
      refine (HIN _).mono ?_
      rintro e w2 ⟨rfl, hw2⟩
      subst w2
      go_wp2_with fail
      refine (HT _ (HS.out.at.below hb1)).mono ?_
      rintro e w2 ⟨rfl, hb2⟩
      have k2 := hb1.trans (hb2.mono hb1.size)
      clear hb1 hb2 HT
      go_wp2
      go_returns
      exact ⟨by rw [HVF.out, HAF.out]; rfl, k2⟩
set_option maxHeartbeats 3200000 in
theorem implIsHeap (x : Value) (l : List Sc) (Bg Bo : Bool) (hB : Bg = true ↔ GoodH l) (hO : Bo = true ↔ IsH l) (w : World) (h : ScsAt w x l) (hl : l.length ≤ 1048576) :
    Calls Try.prog 31 #[x] w fun e w' => e = .returned (.tuple #[.bool (Bg && Bo), .bool Bg]) ∧ Below w.heap.size w w' := by
  have HR := implScores x l Bg hB w h hl
  have HO := fun W hW => implOrder x l Bo hO W hW hl
  have HS := hid h
  obtain ⟨xa, xc, rfl⟩ := h.slice
  clear h hB hO
  cases Bg with
  | false =>
    go_enter Try.func31, Try.ntmps31
    go_wp2_with fail
    refine HR.mono ?_
    rintro e w1 ⟨rfl, hb1⟩
    clear HR
    go_wp2
    go_returns
    exact ⟨rfl, hb1⟩
  | true =>
    go_enter Try.func31, Try.ntmps31
    go_wp2_with fail
    refine HR.mono ?_
    rintro e w1 ⟨rfl, hb1⟩
    clear HR
    go_wp2_with fail
    refine (HO _ (HS.out.below hb1)).mono ?_
    rintro e w2 ⟨rfl, hb2⟩
    have k2 := hb1.trans (hb2.mono hb1.size)
    clear hb1 hb2 HO
    go_wp2
    go_returns
    exact ⟨by simp, k2⟩
set_option maxHeartbeats 3200000 in
theorem specIsHeap (x : Value) (l : List Sc) (Bg Bo : Bool) (hB : Bg = true ↔ GoodH l) (hO : Bo = true ↔ IsH l) (w : World) (h : ScsAt w x l) (hl : l.length ≤ 1048576) :
    Calls Try.prog 35 #[x] w fun e w' => e = .returned (.tuple #[.bool (Bg && Bo), .bool Bg]) ∧ Below w.heap.size w w' := by
  have HR := specHeapB x l Bg hB w h (by omega)
  have HO := fun W hW => specIsB x l Bo hO W hW hl
  have HS := hid h
  obtain ⟨xa, xc, rfl⟩ := h.slice
  clear h hB hO
  cases Bg with
  | false =>
    go_enter Try.func35, Try.ntmps35
    go_wp2_with fail
    refine HR.mono ?_
    rintro e w1 ⟨rfl, hb1⟩
    clear HR
    go_wp2
    go_returns
    exact ⟨rfl, hb1⟩
  | true =>
    go_enter Try.func35, Try.ntmps35
    go_wp2_with fail
    refine HR.mono ?_
    rintro e w1 ⟨rfl, hb1⟩
    clear HR
    go_wp2_with fail
    refine (HO _ (HS.out.below hb1)).mono ?_
    rintro e w2 ⟨rfl, hb2⟩
    have k2 := hb1.trans (hb2.mono hb1.size)
    clear hb1 hb2 HO
    go_wp2
    go_returns
    exact ⟨by simp, k2⟩
end Go.Proofs.Ythdodlbhkpoadaa
