/- Contracts of GoodPacked, UnpackList, NumberAt, BitsIn, NextFrom and MeetPacked, of the program. Condition: the packed list's rows lie in memory. -/
import Derived.Test.YtaafdcghafbfhaaListQ
namespace Go.Proofs.Ytaafdcghafbfhaa
open Go.ChangeShapes Go.WideShapes Go.ChangeAt Go.RowKit Go.Deep
set_option linter.unusedVariables false
attribute [local go_sem ↓] Go.wp_at_zero Go.wp_at_succ

def numB (B : Bool) (A : List Int) (k : Int) : Bool := B && decide (0 ≤ k ∧ k < A.length)
def numV (B : Bool) (A : List Int) (k : Int) : Int := if numB B A k then A.getD k.toNat 0 else 0
def nextB (B : Bool) (A : List Int) (n : Int) : Bool := B && decide ((0 ≤ n ∧ n ≤ 10000) ∧ posL A n < A.length)
def nextI (B : Bool) (A : List Int) (n : Int) : Int := if nextB B A n then (posL A n : Nat) else 0
def nextV (B : Bool) (A : List Int) (n : Int) : Int := if nextB B A n then A.getD (posL A n) 0 else 0
def bitsI (B : Bool) (p : Pk) : Int := if B then p.many * p.low + (p.high.length : Nat) else 0
def meetL (A C : List Int) : List Int := A.filter fun n => decide (n ∈ C)
set_option maxHeartbeats 1600000 in
theorem implGoodP (p : Pk) (B : Bool) (A : List Int) (hA : AnsL p B A) (lv hv : Value) (w : World) (h : PkAt w lv hv p) (l1 : p.lows.length ≤ 1048576) (l2 : p.high.length ≤ 1048576) :
    Calls Try.prog 19 #[.agg #[.int .i64 p.many, .int .i64 p.low, lv, hv]] w fun e w' => e = .returned (.bool B) ∧ Below w.heap.size w w' := by
  have HS := hid h
  obtain ⟨la, lc, rfl⟩ := h.1.slice
  obtain ⟨ha, hc, rfl⟩ := h.2.slice
  have HL := fun W hW => implListOf p B A hA (.slice la p.lows.length lc) (.slice ha p.high.length hc) W hW l1 l2
  obtain ⟨M, hM⟩ : ∃ M, M = p.many := ⟨_, rfl⟩
  obtain ⟨L, hL⟩ : ∃ L, L = p.low := ⟨_, rfl⟩
  rw [← hM, ← hL] at HL ⊢
  clear h hM hL hA
  go_enter Try.func19, Try.ntmps19
  go_wp2_with fail
  refine (HL _ (HS.out.below (by go_grown))).mono ?_
  rintro e w1 ⟨⟨lv, rfl, ho⟩, hb1⟩
  obtain ⟨xa, xc, hxe⟩ := (rows_of_ownS ho).slice
  subst hxe
  have hfin : Below w.heap.size w w1 := (al_ w _).trans (hb1.mono (by simp))
  clear ho hb1 HL
  go_wp2
  go_returns
  exact ⟨rfl, hfin⟩
set_option maxHeartbeats 1600000 in
theorem implUnpack (p : Pk) (B : Bool) (A : List Int) (hA : AnsL p B A) (lv hv : Value) (w : World) (h : PkAt w lv hv p) (l1 : p.lows.length ≤ 1048576) (l2 : p.high.length ≤ 1048576) :
    Calls Try.prog 17 #[.agg #[.int .i64 p.many, .int .i64 p.low, lv, hv]] w fun e w' => ListPost B A w.heap.size e w' ∧ Below w.heap.size w w' := by
  have HS := hid h
  obtain ⟨la, lc, rfl⟩ := h.1.slice
  obtain ⟨ha, hc, rfl⟩ := h.2.slice
  have HL := fun W hW => implListOf p B A hA (.slice la p.lows.length lc) (.slice ha p.high.length hc) W hW l1 l2
  obtain ⟨M, hM⟩ : ∃ M, M = p.many := ⟨_, rfl⟩
  obtain ⟨L, hL⟩ : ∃ L, L = p.low := ⟨_, rfl⟩
  rw [← hM, ← hL] at HL ⊢
  clear h hM hL hA
  go_enter Try.func17, Try.ntmps17
  go_wp2_with fail
  refine (HL _ (HS.out.below (by go_grown))).mono ?_
  rintro e w1 ⟨⟨lv, rfl, ho⟩, hb1⟩
  obtain ⟨xa, xc, hxe⟩ := (rows_of_ownS ho).slice
  subst hxe
  have hfin : Below w.heap.size w w1 := (al_ w _).trans (hb1.mono (by simp))
  have HO : Hid (OwnS w1 w.heap.size 3 (.slice xa A.length xc) A.length (intsV A)) := own_mono ho (by simp)
  clear ho hb1 HL
  go_wp2
  go_returns
  exact ⟨⟨_, rfl, HO.out⟩, hfin⟩
set_option maxHeartbeats 1600000 in
theorem implNumber (p : Pk) (B : Bool) (A : List Int) (hA : AnsL p B A) (k : Int) (lv hv : Value) (w : World) (h : PkAt w lv hv p) (l1 : p.lows.length ≤ 1048576) (l2 : p.high.length ≤ 1048576) :
    Calls Try.prog 30 #[.agg #[.int .i64 p.many, .int .i64 p.low, lv, hv], .int .i64 k] w fun e w' => e = .returned (.tuple #[.int .i64 (numV B A k), .bool (numB B A k)]) ∧ Below w.heap.size w w' := by
  have HS := hid h
  obtain ⟨la, lc, rfl⟩ := h.1.slice
  obtain ⟨ha, hc, rfl⟩ := h.2.slice
  have HL := fun W hW => implListOf p B A hA (.slice la p.lows.length lc) (.slice ha p.high.length hc) W hW l1 l2
  have h60 := hA.len
  obtain ⟨M, hM⟩ : ∃ M, M = p.many := ⟨_, rfl⟩
  obtain ⟨L, hL⟩ : ∃ L, L = p.low := ⟨_, rfl⟩
  rw [← hM, ← hL] at HL ⊢
  clear h hM hL hA
  have HBT : Hid (B = true → 0 ≤ k ∧ k < A.length → numB B A k = true ∧ numV B A k = A.getD k.toNat 0) := fun h1 h2 => by
    have : numB B A k = true := by simp [numB, h1]; omega
    exact ⟨this, by simp [numV, this]⟩
  have HBF : Hid (B = false ∨ ¬ (0 ≤ k ∧ k < A.length) → numB B A k = false ∧ numV B A k = 0) := fun h1 => by
    have : numB B A k = false := by
      unfold numB
      rcases h1 with h | h
      · simp [h]
      · rw [decide_eq_false h]; simp
    exact ⟨this, by simp [numV, this]⟩
  generalize numB B A k = R at *
  generalize numV B A k = V at *
  go_enter Try.func30, Try.ntmps30
  go_wp2_with fail
  refine (HL _ (HS.out.below (by go_grown))).mono ?_
  rintro e w1 ⟨⟨lv, rfl, ho⟩, hb1⟩
  have hin := (OwnA.ofInts ho).1.ints
  obtain ⟨xa, xc, hxe⟩ := (rows_of_ownS ho).slice
  subst hxe
  have hfin : Below w.heap.size w w1 := (al_ w _).trans (hb1.mono (by simp))
  clear ho hb1 HL
  cases B with
  | false =>
    have HE := hid (HBF.out (.inl rfl))
    clear HBF HBT hin
    go_wp2
    go_returns
    exact ⟨by rw [HE.out.1, HE.out.2]; rfl, hfin⟩
  | true =>
    by_cases h0 : k < 0
    · have HE := hid (HBF.out (.inr (by omega)))
      clear HBF HBT hin
      go_wp2
      go_returns
      exact ⟨by rw [HE.out.1, HE.out.2]; rfl, hfin⟩
    · by_cases h1 : (A.length : Int) ≤ k
      · have HE := hid (HBF.out (.inr (by omega)))
        clear HBF HBT hin
        go_wp2
        go_returns
        exact ⟨by rw [HE.out.1, HE.out.2]; rfl, hfin⟩
      · obtain ⟨q, rfl⟩ : ∃ q : Nat, k = q := ⟨k.toNat, by omega⟩
        have HE := hid (HBT.out rfl (by omega))
        have hd : decide ((A.length : Int) ≤ (q : Int)) = false := decide_eq_false h1
        obtain ⟨b, off, cap, hce, hcell⟩ : ∃ b off cap, Value.slice xa A.length xc = .slice (some ⟨b, off, none⟩) A.length cap ∧ w1.cell? ⟨b, off + q, none⟩ = some (.int .i64 (A.getD q 0)) := by
          rcases hin with ⟨_, _, _, e⟩ | ⟨b, off, cap, e, hb, hcell⟩
          · rw [e] at h1; simp at h1
          · exact ⟨b, off, cap, e, hcell q (by omega)⟩
        cases hce
        have hq1 : (q : Int) < (A.length : Int) := by omega
        simp only [Int.toNat_natCast] at HE
        generalize A.getD q 0 = t at *
        clear HBF HBT hin h1
        go_wp2
        go_returns
        exact ⟨by rw [HE.out.1, HE.out.2]; rfl, hfin⟩
theorem bits_bd {p : Pk} {A : List Int} (h : PackIs p A) : 0 ≤ p.many * p.low ∧ p.many * p.low ≤ 780 := by
  have h1 := h.many
  have h2 := h.low
  have h3 := lowL_le h.1
  have h4 := h.1.1
  rw [h1, h2]
  have h5 : A.length * lowL A ≤ 60 * 13 := Nat.mul_le_mul h4 h3
  have h6 : ((A.length : Int) * (lowL A : Int)) = ((A.length * lowL A : Nat) : Int) := by push_cast; rfl
  rw [h6]; omega
set_option maxHeartbeats 1600000 in
theorem implBits (p : Pk) (B : Bool) (A : List Int) (hA : AnsL p B A) (lv hv : Value) (w : World) (h : PkAt w lv hv p) (l1 : p.lows.length ≤ 1048576) (l2 : p.high.length ≤ 1048576) :
    Calls Try.prog 18 #[.agg #[.int .i64 p.many, .int .i64 p.low, lv, hv]] w fun e w' => e = .returned (.tuple #[.int .i64 (bitsI B p), .bool B]) ∧ Below w.heap.size w w' := by
  have HS := hid h
  obtain ⟨la, lc, rfl⟩ := h.1.slice
  obtain ⟨ha, hc, rfl⟩ := h.2.slice
  have HL := fun W hW => implGoodP p B A hA (.slice la p.lows.length lc) (.slice ha p.high.length hc) W hW l1 l2
  have HBD : Hid (B = true → 0 ≤ p.many * p.low ∧ p.many * p.low ≤ 780) := fun hb => by
    rcases hA with ⟨_, h⟩ | ⟨h, _⟩
    · exact bits_bd h
    · rw [hb] at h; cases h
  have HV : Hid ((B = true → bitsI B p = p.many * p.low + (p.high.length : Nat)) ∧ (B = false → bitsI B p = 0)) := ⟨fun h => by simp [bitsI, h], fun h => by simp [bitsI, h]⟩
  obtain ⟨M, hM⟩ : ∃ M, M = p.many := ⟨_, rfl⟩
  obtain ⟨L, hL⟩ : ∃ L, L = p.low := ⟨_, rfl⟩
  rw [← hM, ← hL] at HL HBD HV ⊢
  generalize bitsI B p = V at *
  clear h hM hL hA
  go_enter Try.func18, Try.ntmps18
  go_wp2_with fail
  refine (HL _ (HS.out.below (by go_grown))).mono ?_
  rintro e w1 ⟨rfl, hb1⟩
  have bA := (boxNew w #[.int .i64 M, .int .i64 L, .slice la p.lows.length lc, .slice ha p.high.length hc] 27).below hb1
  have hfin : Below w.heap.size w w1 := (al_ w _).trans (hb1.mono (by simp))
  cases B with
  | false =>
    have HE := hid (HV.out.2 rfl)
    clear HV HBD HL hb1 bA
    go_wp2
    go_returns
    exact ⟨by rw [HE.out]; rfl, hfin⟩
  | true =>
    have HE := hid (HV.out.1 rfl)
    obtain ⟨hx0, hx1⟩ := HBD.out rfl
    have b0 := bA.2.1 0 _ rfl
    have b1 := bA.2.1 1 _ rfl
    have b3 := bA.2.1 3 _ rfl
    have hbl := bA.1
    obtain ⟨X, hX⟩ : ∃ X, X = M * L := ⟨_, rfl⟩
    have HX := hid hX
    have hXe := hX.symm
    rw [← hX] at hx0 hx1
    clear HV HBD HL hb1 bA hX
    go_wp2
    go_returns
    exact ⟨by rw [HE.out, ← HX.out]; rfl, hfin⟩
set_option maxHeartbeats 1600000 in
theorem implNext (p : Pk) (B : Bool) (A : List Int) (hA : AnsL p B A) (n : Int) (lv hv : Value) (w : World) (h : PkAt w lv hv p) (l1 : p.lows.length ≤ 1048576) (l2 : p.high.length ≤ 1048576) :
    Calls Try.prog 28 #[.agg #[.int .i64 p.many, .int .i64 p.low, lv, hv], .int .i64 n] w fun e w' => e = .returned (.tuple #[.int .i64 (nextI B A n), .int .i64 (nextV B A n), .bool (nextB B A n)]) ∧ Below w.heap.size w w' := by
  have HS := hid h
  obtain ⟨la, lc, rfl⟩ := h.1.slice
  obtain ⟨ha, hc, rfl⟩ := h.2.slice
  have HL := fun W hW => implListOf p B A hA (.slice la p.lows.length lc) (.slice ha p.high.length hc) W hW l1 l2
  have h60 := hA.len
  have HSE := fun x W hW => searchIs A n x W hW hA.good
  have hpl := posL_le A n
  obtain ⟨M, hM⟩ : ∃ M, M = p.many := ⟨_, rfl⟩
  obtain ⟨L, hL⟩ : ∃ L, L = p.low := ⟨_, rfl⟩
  rw [← hM, ← hL] at HL ⊢
  have HBT : Hid (B = true → 0 ≤ n ∧ n ≤ 10000 → posL A n < A.length → nextB B A n = true ∧ nextI B A n = (posL A n : Nat) ∧ nextV B A n = A.getD (posL A n) 0) := fun h1 h2 h3 => by
    have : nextB B A n = true := by simp [nextB, h1]; omega
    exact ⟨this, by simp [nextI, this], by simp [nextV, this]⟩
  have HBF : Hid (B = false ∨ ¬ ((0 ≤ n ∧ n ≤ 10000) ∧ posL A n < A.length) → nextB B A n = false ∧ nextI B A n = 0 ∧ nextV B A n = 0) := fun h1 => by
    have : nextB B A n = false := by
      unfold nextB
      rcases h1 with h | h
      · simp [h]
      · rw [decide_eq_false h]; simp
    exact ⟨this, by simp [nextI, this], by simp [nextV, this]⟩
  generalize nextB B A n = R at *
  generalize nextI B A n = I at *
  generalize nextV B A n = V at *
  generalize hK : posL A n = K at *
  generalize hT : A.getD K 0 = T at *
  clear h hM hL hA
  have HTT := hid hT
  clear hT hK
  go_enter Try.func28, Try.ntmps28
  go_wp2_with fail
  refine (HL _ (HS.out.below (by go_grown))).mono ?_
  rintro e w1 ⟨⟨lv, rfl, ho⟩, hb1⟩
  have hin := (OwnA.ofInts ho).1.ints
  obtain ⟨xa, xc, hxe⟩ := (rows_of_ownS ho).slice
  subst hxe
  have HIN := hid hin
  have hfin : Below w.heap.size w w1 := (al_ w _).trans (hb1.mono (by simp))
  clear ho hb1 HL hin
  cases B with
  | false =>
    have HE := hid (HBF.out (.inl rfl))
    clear HBF HBT HSE
    go_wp2
    go_returns
    exact ⟨by rw [HE.out.1, HE.out.2.1, HE.out.2.2]; rfl, hfin⟩
  | true =>
    by_cases h0 : n < 0
    · have HE := hid (HBF.out (.inr (by omega)))
      clear HBF HBT HSE
      go_wp2
      go_returns
      exact ⟨by rw [HE.out.1, HE.out.2.1, HE.out.2.2]; rfl, hfin⟩
    · by_cases h1 : 10000 < n
      · have HE := hid (HBF.out (.inr (by omega)))
        clear HBF HBT HSE
        go_wp2
        go_returns
        exact ⟨by rw [HE.out.1, HE.out.2.1, HE.out.2.2]; rfl, hfin⟩
      · have hd : decide (10000 < n) = false := decide_eq_false h1
        by_cases h2 : K < A.length
        · have HE := hid (HBT.out rfl (by omega) h2)
          obtain ⟨b, off, cap, hce, hcell⟩ : ∃ b off cap, Value.slice xa A.length xc = .slice (some ⟨b, off, none⟩) A.length cap ∧ w1.cell? ⟨b, off + K, none⟩ = some (.int .i64 T) := by
            rcases HIN.out with ⟨_, _, _, e⟩ | ⟨b, off, cap, e, hb, hcell⟩
            · rw [e] at h2; simp at h2
            · exact ⟨b, off, cap, e, by rw [← HTT.out]; exact hcell K h2⟩
          cases hce
          have hk1 : (K : Int) < (A.length : Int) := by omega
          have hk2 : ((K : Int) == (A.length : Int)) = false := by simp; omega
          clear HBF HBT
          go_wp2_with fail
          refine (HSE _ _ HIN.out).mono ?_
          rintro e w2 ⟨rfl, rfl⟩
          clear HSE
          go_upto_region 7 with fail
          go_region
          all_goals go_wp2
          all_goals go_returns
          all_goals exact ⟨by rw [HE.out.1, HE.out.2.1, HE.out.2.2]; rfl, by go_grown⟩
        · have HE := hid (HBF.out (.inr (by omega)))
          have hk2 : ((K : Int) == (A.length : Int)) = true := by simp; omega
          clear HBF HBT
          go_wp2_with fail
          refine (HSE _ _ HIN.out).mono ?_
          rintro e w2 ⟨rfl, rfl⟩
          clear HSE
          go_wp2
          go_returns
          exact ⟨by rw [HE.out.1, HE.out.2.1, HE.out.2.2]; rfl, hfin⟩
end Go.Proofs.Ytaafdcghafbfhaa
