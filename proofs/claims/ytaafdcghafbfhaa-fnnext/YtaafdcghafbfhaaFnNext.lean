/- At every two lists of bytes the function FnNext returns true and leaves its arguments as they were: the first number that is great enough is found, and what both lists have. No condition. -/
import Derived.Test.YtaafdcghafbfhaaDrawM8
import Derived.Test.YtaafdcghafbfhaaSpecW
import Derived.Test.YtaafdcghafbfhaaSpecMt
import Derived.Test.YtaafdcghafbfhaaBytesV
import Derived.Lib.SmallJoins
namespace Go.Proofs.Ytaafdcghafbfhaa.fnNext
open Go.ChangeShapes Go.WideShapes Go.ChangeAt Go.RowKit Go.Joins Go.Deep
open Go.ChangeMaps (open_string shut_string)
set_option linter.unusedVariables false
attribute [local go_sem ↓] Go.wp_at_zero Go.wp_at_succ

theorem rise_ext : ∀ (a b : List Int), a.Pairwise (· < ·) → b.Pairwise (· < ·) → (∀ n, n ∈ a ↔ n ∈ b) → a = b
  | [], [], _, _, _ => rfl
  | [], y :: b, _, _, h => absurd ((h y).2 (by simp)) (by simp)
  | x :: a, [], _, _, h => absurd ((h x).1 (by simp)) (by simp)
  | x :: a, y :: b, ha, hb, h => by
    obtain ⟨h1, h2⟩ := List.pairwise_cons.1 ha
    obtain ⟨h3, h4⟩ := List.pairwise_cons.1 hb
    have e : x = y := by
      rcases List.mem_cons.1 ((h x).1 (by simp)) with e | e
      · exact e
      · rcases List.mem_cons.1 ((h y).2 (by simp)) with e2 | e2
        · exact e2.symm
        · have := h1 y e2; have := h3 x e; omega
    subst e
    congr 1
    refine rise_ext a b h2 h4 (fun n => ⟨fun hn => ?_, fun hn => ?_⟩)
    · rcases List.mem_cons.1 ((h n).1 (by simp [hn])) with e | e
      · have := h1 n hn; omega
      · exact e
    · rcases List.mem_cons.1 ((h n).2 (by simp [hn])) with e | e
      · have := h3 n hn; omega
      · exact e
theorem good_pair {l : List Int} (h : GoodL l) : l.Pairwise (· < ·) := by
  rw [List.pairwise_iff_getElem]
  intro i j hi hj hij
  have := good_lt h i j hij hj
  simpa [List.getD, hi, hj] using this
theorem meet_comm {A C : List Int} (hA : GoodL A) (hC : GoodL C) : meetL C A = meetL A C := by
  refine rise_ext _ _ ((good_pair hC).filter _) ((good_pair hA).filter _) (fun n => ?_)
  unfold meetL
  simp only [List.mem_filter, decide_eq_true_eq]
  exact ⟨fun h => ⟨h.2, h.1⟩, fun h => ⟨h.2, h.1⟩⟩
theorem meet_has (A C : List Int) (i : Nat) (hi : i < A.length) : decide (A.getD i 0 ∈ meetL A C) = decide (A.getD i 0 ∈ C) := by
  have hm : A.getD i 0 ∈ A := by
    have : A.getD i 0 = A[i] := by simp [List.getD, hi]
    rw [this]; exact List.getElem_mem hi
  refine decide_eq_decide.2 ?_
  unfold meetL
  rw [List.mem_filter, decide_eq_true_eq]
  exact ⟨fun h => h.2, fun h => ⟨hm, h⟩⟩
theorem sameTrue (v1 v2 : Value) (zs ys : List Int) (hzy : zs = ys) (w : World) (h1 : IntsAt w v1 zs) (h2 : IntsAt w v2 ys) (hl : zs.length ≤ 61) : Calls Try.prog 20 #[v1, v2] w fun e w' => e = .returned (.bool true) ∧ Below w.heap.size w w' := by
  subst hzy
  have := sameI v1 v2 zs zs w h1 h2 (by omega) (by omega)
  rwa [decide_eq_true rfl] at this
theorem nextFct (B : Bool) (A : List Int) (n : Int) (h60 : A.length ≤ 60) (hr : nextB B A n = true) : ∃ K : Nat, nextI B A n = (K : Int) ∧ n ≤ nextV B A n ∧ K ≤ 60 ∧ numB B A (nextI B A n) = true ∧ numV B A (nextI B A n) = nextV B A n ∧ (0 < K → numB B A (nextI B A n - 1) = true ∧ numV B A (nextI B A n - 1) < n) := by
  have h2 : B = true ∧ (0 ≤ n ∧ n ≤ 10000) ∧ posL A n < A.length := by
    unfold nextB at hr
    rw [Bool.and_eq_true, decide_eq_true_eq] at hr
    exact hr
  have h3 : nextI B A n = (posL A n : Nat) := by unfold nextI; rw [if_pos hr]
  have h4 : nextV B A n = A.getD (posL A n) 0 := by unfold nextV; rw [if_pos hr]
  have hnum : ∀ j : Nat, j < A.length → numB B A (j : Int) = true ∧ numV B A (j : Int) = A.getD j 0 := fun j hj => by
    have e : numB B A (j : Int) = true := by
      unfold numB
      rw [Bool.and_eq_true, decide_eq_true_eq]
      exact ⟨h2.1, by omega, by omega⟩
    refine ⟨e, ?_⟩
    unfold numV
    rw [if_pos e, Int.toNat_natCast]
  rw [h3, h4]
  refine ⟨posL A n, rfl, posL_end A n h2.2.2, by omega, (hnum _ h2.2.2).1, (hnum _ h2.2.2).2, fun hk => ?_⟩
  have e : ((posL A n : Nat) : Int) - 1 = ((posL A n - 1 : Nat) : Int) := by omega
  rw [e]
  refine ⟨(hnum _ (by omega)).1, ?_⟩
  rw [(hnum _ (by omega)).2]
  exact posL_lt A n _ (by omega)
set_option maxRecDepth 100000 in
set_option maxHeartbeats 12800000 in
theorem walk0 (v0 : Value) (n0 : Nat) (v1 : Value) (n1 : Nat) (w : World) (hc0 : CodeAt w v0 n0) (hc1 : CodeAt w v1 n1) (hn : n0 + n1 ≤ 1048576) :
    Calls Try.prog 4 #[v0, v1] w fun e w' => e = .returned (.bool true) ∧ Below w.heap.size w w' := by
  have HC0 := hide hc0
  have HC1 := hide hc1
  obtain ⟨ad0, c0, rfl⟩ : ∃ ad c, v0 = .slice ad n0 c := by
    obtain ⟨ad, c, e, _⟩ := hc0
    exact ⟨ad, c, e⟩
  obtain ⟨ad1, c1, rfl⟩ : ∃ ad c, v1 = .slice ad n1 c := by
    obtain ⟨ad, c, e, _⟩ := hc1
    exact ⟨ad, c, e⟩
  have HK : Hid (Below w.heap.size w w) := Below.refl _ _
  have hbig : ¬ (1048576 : Int) < (n0 : Int) + (n1 : Int) := by omega
  clear hc0 hc1
  go_enter Try.func4, Try.ntmps4
  go_wp2_with fail
  refine (drawNext _ n0 _ (unhide HC0)).mono ?_
  rintro e w1 ⟨lv, hv, p, n, rfl, hp, hx1⟩
  have hb1 : Below w.heap.size w w1 := Below.trans (by go_grown) (hx1.mono (by go_size))
  replace HC1 := hide ((unhide HC1).below hb1)
  replace HK := hide ((unhide HK).trans (hb1.mono (unhide HK).size))
  have HP := hide hp.at
  obtain ⟨_, _, hz1⟩ := hp.1.1.slice
  subst hz1
  obtain ⟨_, _, hz2⟩ := hp.1.2.slice
  subst hz2
  have hp1 := hp.2.1
  have hp2 := hp.2.2
  clear hp HC0
  obtain ⟨B, A, hA⟩ := ans_ex p
  have HIN := fun a b W h => implNext p B A hA n a b W h (by omega) (by omega)
  have HSN := fun a b W h => specNext p B A hA n a b W h (by omega) (by omega)
  have HNA := fun k a b W h => implNumber p B A hA k a b W h (by omega) (by omega)
  obtain ⟨R, hR⟩ : ∃ R, R = nextB B A n := ⟨_, rfl⟩
  obtain ⟨I, hI⟩ : ∃ I, I = nextI B A n := ⟨_, rfl⟩
  obtain ⟨V, hV⟩ : ∃ V, V = nextV B A n := ⟨_, rfl⟩
  have hfct : R = true → ∃ K : Nat, I = (K : Int) ∧ n ≤ V ∧ K ≤ 60 ∧ numB B A I = true ∧ numV B A I = V ∧ (0 < K → numB B A (I - 1) = true ∧ numV B A (I - 1) < n) := by
    rw [hR, hI, hV]
    exact nextFct B A n hA.len
  obtain ⟨M, hM⟩ : ∃ M, M = p.many := ⟨_, rfl⟩
  obtain ⟨L, hL⟩ : ∃ L, L = p.low := ⟨_, rfl⟩
  rw [← hR, ← hI, ← hV] at HIN HSN
  rw [← hM, ← hL] at HIN HSN HNA
  rw [← hM, ← hL]
  have HF := hide hfct
  have hrn : (R != R) = false := by cases R <;> rfl
  have hin : (I != I) = false := by simp
  have hvn : (V != V) = false := by simp
  clear hR hI hV hM hL hA hfct
  go_wp2_with fail
  refine (HIN _ _ _ ((unhide HP).below (by go_grown))).mono ?_
  rintro e w2 ⟨rfl, hx2⟩
  have hb2 : Below w1.heap.size w1 w2 := Below.trans (by go_grown) (hx2.mono (by go_size))
  replace HC1 := hide ((unhide HC1).below hb2)
  replace HP := hide ((unhide HP).below hb2)
  replace HK := hide ((unhide HK).trans (hb2.mono (unhide HK).size))
  have qBX := boxOf1 hx2
  have BX := hide qBX
  clear qBX
  have BXz := (unhide BX).1
  have BXc0 := (unhide BX).2.1 0 _ rfl
  have BXc1 := (unhide BX).2.1 1 _ rfl
  have BXc2 := (unhide BX).2.1 2 _ rfl
  have BXc3 := (unhide BX).2.1 3 _ rfl
  go_wp2_with fail
  refine (HSN _ _ _ (unhide HP)).mono ?_
  rintro e w3 ⟨rfl, hx3⟩
  have hb3 : Below w2.heap.size w2 w3 := Below.trans (by go_grown) (hx3.mono (by go_size))
  replace HC1 := hide ((unhide HC1).below hb3)
  replace HP := hide ((unhide HP).below hb3)
  (try clear BXz BXc0 BXc1 BXc2 BXc3)
  replace BX := hide ((unhide BX).below hb3)
  have BXz := (unhide BX).1
  have BXc0 := (unhide BX).2.1 0 _ rfl
  have BXc1 := (unhide BX).2.1 1 _ rfl
  have BXc2 := (unhide BX).2.1 2 _ rfl
  have BXc3 := (unhide BX).2.1 3 _ rfl
  replace HK := hide ((unhide HK).trans (hb3.mono (unhide HK).size))
  clear HIN HSN
  cases R
  case' false =>
    clear HNA HF HP
    generalize w3 = w5 at *
    go_upto_region 16 with fail
    clear BX BXz BXc0 BXc1 BXc2 BXc3
    clear hx1 hb1 hx2 hb2 hx3 hb3
  case' true =>
    obtain ⟨I0, I60, hnV, hnb, hnv, hnext⟩ : 0 ≤ I ∧ I ≤ 60 ∧ n ≤ V ∧ numB B A I = true ∧ numV B A I = V ∧ (0 < I → numB B A (I - 1) = true ∧ numV B A (I - 1) < n) := by
      obtain ⟨K, e1, e2, e3, e4, e5, e6⟩ := HF.out rfl
      exact ⟨by omega, by omega, e2, e4, e5, fun h => e6 (by omega)⟩
    have HN1 := fun a b W h => HNA I a b W h
    rw [hnb, hnv] at HN1
    have HNX := hide hnext
    have hlt : ¬ V < n := by omega
    clear hnb hnv HF hnext
    go_wp2_with fail
    refine (HN1 _ _ _ (unhide HP)).mono ?_
    rintro e w4 ⟨rfl, hx4⟩
    have hb4 : Below w3.heap.size w3 w4 := Below.trans (by go_grown) (hx4.mono (by go_size))
    replace HC1 := hide ((unhide HC1).below hb4)
    replace HP := hide ((unhide HP).below hb4)
    (try clear BXz BXc0 BXc1 BXc2 BXc3)
    replace BX := hide ((unhide BX).below hb4)
    have BXz := (unhide BX).1
    have BXc0 := (unhide BX).2.1 0 _ rfl
    have BXc1 := (unhide BX).2.1 1 _ rfl
    have BXc2 := (unhide BX).2.1 2 _ rfl
    have BXc3 := (unhide BX).2.1 3 _ rfl
    replace HK := hide ((unhide HK).trans (hb4.mono (unhide HK).size))
    clear HN1
    by_cases hk0 : 0 < I
    case' pos =>
      obtain ⟨J, hJ⟩ : ∃ J, J = I - 1 := ⟨_, rfl⟩
      obtain ⟨q1, q2⟩ := HNX.out hk0
      rw [← hJ] at q1 q2
      have HN2 := fun a b W h => HNA J a b W h
      obtain ⟨V2, hV2⟩ : ∃ V2, V2 = numV B A J := ⟨_, rfl⟩
      rw [q1, ← hV2] at HN2
      rw [← hV2] at q2
      have hge : ¬ n ≤ V2 := by omega
      have hIJ : I - 1 = J := hJ.symm
      have hwJ : IntKind.i64.wrap J = J := by rw [IntKind.wrap_i64]; omega
      clear q1 hV2 HNA HNX hJ q2
      go_wp2_with fail
      refine (HN2 _ _ _ (unhide HP)).mono ?_
      rintro e w5 ⟨rfl, hx5⟩
      have hb5 : Below w4.heap.size w4 w5 := Below.trans (by go_grown) (hx5.mono (by go_size))
      replace HC1 := hide ((unhide HC1).below hb5)
      replace HP := hide ((unhide HP).below hb5)
      (try clear BXz BXc0 BXc1 BXc2 BXc3)
      replace BX := hide ((unhide BX).below hb5)
      have BXz := (unhide BX).1
      have BXc0 := (unhide BX).2.1 0 _ rfl
      have BXc1 := (unhide BX).2.1 1 _ rfl
      have BXc2 := (unhide BX).2.1 2 _ rfl
      have BXc3 := (unhide BX).2.1 3 _ rfl
      replace HK := hide ((unhide HK).trans (hb5.mono (unhide HK).size))
      clear HN2 HP hIJ hwJ
      go_upto_region 16 with fail
      clear BX BXz BXc0 BXc1 BXc2 BXc3
      clear hx1 hb1 hx2 hb2 hx3 hb3 hx4 hb4 hx5 hb5
    case' neg =>
      clear HNA HNX HP
      generalize w4 = w5 at *
      go_upto_region 16 with fail
      clear BX BXz BXc0 BXc1 BXc2 BXc3
      clear hx1 hb1 hx2 hb2 hx3 hb3 hx4 hb4
  all_goals
    go_wp2_with fail
    refine (drawMeetP _ n1 _ (unhide HC1)).mono ?_
    rintro e w6 ⟨lv1, hv1, p1, lv2, hv2, p2, rfl, ⟨hq1, hq2⟩, hx6⟩
    have hb6 : Below w5.heap.size w5 w6 := Below.trans (by go_grown) (hx6.mono (by go_size))
    replace HC1 := hide ((unhide HC1).below hb6)
    replace HK := hide ((unhide HK).trans (hb6.mono (unhide HK).size))
    have HP1 := hide hq1.at
    have HP2 := hide hq2.at
    obtain ⟨_, _, hz1⟩ := hq1.1.1.slice
    subst hz1
    obtain ⟨_, _, hz2⟩ := hq1.1.2.slice
    subst hz2
    obtain ⟨_, _, hz3⟩ := hq2.1.1.slice
    subst hz3
    obtain ⟨_, _, hz4⟩ := hq2.1.2.slice
    subst hz4
    have hp11 := hq1.2.1
    have hp12 := hq1.2.2
    have hp21 := hq2.2.1
    have hp22 := hq2.2.2
    clear hq1 hq2
    obtain ⟨B1, A1, hA1⟩ := ans_ex p1
    obtain ⟨B2, A2, hA2⟩ := ans_ex p2
    have HM12 := fun a b c d W h g => implMeet p1 p2 B1 B2 A1 A2 hA1 hA2 a b c d W h g (by omega) (by omega) (by omega) (by omega)
    have HS12 := fun a b c d W h g => specMeet p1 p2 B1 B2 A1 A2 hA1 hA2 a b c d W h g (by omega) (by omega) (by omega) (by omega)
    have HM21 := fun a b c d W h g => implMeet p2 p1 B2 B1 A2 A1 hA2 hA1 a b c d W h g (by omega) (by omega) (by omega) (by omega)
    have HU1 := fun a b W h => implUnpack p1 B1 A1 hA1 a b W h (by omega) (by omega)
    have HU2 := fun a b W h => implUnpack p2 B2 A2 hA2 a b W h (by omega) (by omega)
    rw [meet_comm hA1.good hA2.good, Bool.and_comm B2 B1] at HM21
    have h601 := hA1.len
    have h602 := hA2.len
    have hm60 : (meetL A1 A2).length ≤ 60 := Nat.le_trans (meet_len _ _) h601
    have HHAS := hide (meet_has A1 A2)
    have HBB : Hid ((B1 && B2) = true → B1 = true ∧ B2 = true) := fun h => by simpa using h
    obtain ⟨Q, hBB⟩ : ∃ Q, Q = (B1 && B2) := ⟨_, rfl⟩
    obtain ⟨MM, hMM⟩ : ∃ MM, MM = meetL A1 A2 := ⟨_, rfl⟩
    rw [← hBB, ← hMM] at HM12 HS12 HM21
    rw [← hMM] at hm60 HHAS
    rw [← hBB] at HBB
    have hbn : (Q != Q) = false := by cases Q <;> rfl
    obtain ⟨T1, hT1⟩ : ∃ T, T = p1.many := ⟨_, rfl⟩
    obtain ⟨T2, hT2⟩ : ∃ T, T = p2.many := ⟨_, rfl⟩
    obtain ⟨L1, hL1⟩ : ∃ T, T = p1.low := ⟨_, rfl⟩
    obtain ⟨L2, hL2⟩ : ∃ T, T = p2.low := ⟨_, rfl⟩
    rw [← hT1, ← hL1] at HU1
    rw [← hT2, ← hL2] at HU2
    rw [← hT1, ← hL1, ← hT2, ← hL2] at HM12 HS12 HM21 ⊢
    clear hBB hMM hT1 hT2 hL1 hL2 hA1 hA2
    go_wp2_with fail
    refine (HM12 _ _ _ _ _ ((unhide HP1).below (by go_grown)) ((unhide HP2).below (by go_grown))).mono ?_
    rintro e w7 ⟨⟨om, rfl, hom⟩, hx7⟩
    have hb7 : Below w6.heap.size w6 w7 := Below.trans (by go_grown) (hx7.mono (by go_size))
    replace HC1 := hide ((unhide HC1).below hb7)
    replace HP1 := hide ((unhide HP1).below hb7)
    replace HP2 := hide ((unhide HP2).below hb7)
    replace HK := hide ((unhide HK).trans (hb7.mono (unhide HK).size))
    obtain ⟨qBA, qBB⟩ := boxOf2 hx7
    have BA := hide qBA
    clear qBA
    have BAz := (unhide BA).1
    have BAc0 := (unhide BA).2.1 0 _ rfl
    have BAc1 := (unhide BA).2.1 1 _ rfl
    have BAc2 := (unhide BA).2.1 2 _ rfl
    have BAc3 := (unhide BA).2.1 3 _ rfl
    have BB := hide qBB
    clear qBB
    have BBz := (unhide BB).1
    have BBc0 := (unhide BB).2.1 0 _ rfl
    have BBc1 := (unhide BB).2.1 1 _ rfl
    have BBc2 := (unhide BB).2.1 2 _ rfl
    have BBc3 := (unhide BB).2.1 3 _ rfl
    have HOM := hide (OwnA.ofInts hom).1.ints
    obtain ⟨ma, mc, hz5⟩ := (rows_of_ownS hom).slice
    subst hz5
    clear hom HM12
    go_wp2_with fail
    refine (HS12 _ _ _ _ _ (unhide HP1) (unhide HP2)).mono ?_
    rintro e w8 ⟨⟨os, rfl, hos⟩, hx8⟩
    have hb8 : Below w7.heap.size w7 w8 := Below.trans (by go_grown) (hx8.mono (by go_size))
    replace HC1 := hide ((unhide HC1).below hb8)
    replace HP1 := hide ((unhide HP1).below hb8)
    replace HP2 := hide ((unhide HP2).below hb8)
    (try clear BAz BAc0 BAc1 BAc2 BAc3)
    replace BA := hide ((unhide BA).below hb8)
    have BAz := (unhide BA).1
    have BAc0 := (unhide BA).2.1 0 _ rfl
    have BAc1 := (unhide BA).2.1 1 _ rfl
    have BAc2 := (unhide BA).2.1 2 _ rfl
    have BAc3 := (unhide BA).2.1 3 _ rfl
    (try clear BBz BBc0 BBc1 BBc2 BBc3)
    replace BB := hide ((unhide BB).below hb8)
    have BBz := (unhide BB).1
    have BBc0 := (unhide BB).2.1 0 _ rfl
    have BBc1 := (unhide BB).2.1 1 _ rfl
    have BBc2 := (unhide BB).2.1 2 _ rfl
    have BBc3 := (unhide BB).2.1 3 _ rfl
    replace HOM := hide ((unhide HOM).below hb8)
    replace HK := hide ((unhide HK).trans (hb8.mono (unhide HK).size))
    have HOS := hide (OwnA.ofInts hos).1.ints
    obtain ⟨sa, sc, hz6⟩ := (rows_of_ownS hos).slice
    subst hz6
    clear hos HS12
    go_wp2_with fail
    refine (sameTrue _ _ MM _ rfl _ (unhide HOM) (unhide HOS) (by omega)).mono ?_
    rintro e w9 ⟨rfl, hx9⟩
    have hb9 : Below w8.heap.size w8 w9 := Below.trans (by go_grown) (hx9.mono (by go_size))
    replace HC1 := hide ((unhide HC1).below hb9)
    replace HP1 := hide ((unhide HP1).below hb9)
    replace HP2 := hide ((unhide HP2).below hb9)
    (try clear BAz BAc0 BAc1 BAc2 BAc3)
    replace BA := hide ((unhide BA).below hb9)
    have BAz := (unhide BA).1
    have BAc0 := (unhide BA).2.1 0 _ rfl
    have BAc1 := (unhide BA).2.1 1 _ rfl
    have BAc2 := (unhide BA).2.1 2 _ rfl
    have BAc3 := (unhide BA).2.1 3 _ rfl
    (try clear BBz BBc0 BBc1 BBc2 BBc3)
    replace BB := hide ((unhide BB).below hb9)
    have BBz := (unhide BB).1
    have BBc0 := (unhide BB).2.1 0 _ rfl
    have BBc1 := (unhide BB).2.1 1 _ rfl
    have BBc2 := (unhide BB).2.1 2 _ rfl
    have BBc3 := (unhide BB).2.1 3 _ rfl
    replace HOM := hide ((unhide HOM).below hb9)
    replace HK := hide ((unhide HK).trans (hb9.mono (unhide HK).size))
    clear HOS
    cases Q
    case' false =>
      clear HM21 HU1 HU2 HHAS HBB HP1 HP2 HOM
      clear BA BAz BAc0 BAc1 BAc2 BAc3 BB BBz BBc0 BBc1 BBc2 BBc3
      go_wp2_with fail
      refine (drawNumb _ n1 _ (unhide HC1)).mono ?_
      rintro e w10 ⟨lv9, hv9, p9, k9, rfl, hp9, hx10⟩
      have hb10 : Below w9.heap.size w9 w10 := Below.trans (by go_grown) (hx10.mono (by go_size))
      replace HC1 := hide ((unhide HC1).below hb10)
      replace HK := hide ((unhide HK).trans (hb10.mono (unhide HK).size))
      have HP9 := hide hp9.at
      obtain ⟨_, _, hz1⟩ := hp9.1.1.slice
      subst hz1
      obtain ⟨_, _, hz2⟩ := hp9.1.2.slice
      subst hz2
      have hq91 := hp9.2.1
      have hq92 := hp9.2.2
      clear hp9
      obtain ⟨B9, A9, hA9⟩ := ans_ex p9
      have HN9 := fun a b W h => implNumber p9 B9 A9 hA9 k9 a b W h (by omega) (by omega)
      have HM9 := fun a b W h => specNumber p9 B9 A9 hA9 k9 a b W h (by omega) (by omega)
      obtain ⟨V9, hV9⟩ : ∃ V, V = numV B9 A9 k9 := ⟨_, rfl⟩
      obtain ⟨R9, hR9⟩ : ∃ R, R = numB B9 A9 k9 := ⟨_, rfl⟩
      rw [← hV9, ← hR9] at HN9 HM9
      have hv9 : (V9 == V9) = true := by simp
      have hr9 : (R9 == R9) = true := by simp
      obtain ⟨M9, hM9⟩ : ∃ M, M = p9.many := ⟨_, rfl⟩
      obtain ⟨L9, hL9⟩ : ∃ L, L = p9.low := ⟨_, rfl⟩
      rw [← hM9, ← hL9] at HN9 HM9
      rw [← hM9, ← hL9]
      clear hV9 hR9 hM9 hL9 hA9 HC1
      go_wp2_with fail
      refine (HN9 _ _ _ ((unhide HP9).below (by go_grown))).mono ?_
      rintro e w11 ⟨rfl, hx11⟩
      have hb11 : Below w10.heap.size w10 w11 := Below.trans (by go_grown) (hx11.mono (by go_size))
      replace HP9 := hide ((unhide HP9).below hb11)
      replace HK := hide ((unhide HK).trans (hb11.mono (unhide HK).size))
      have qBN := boxOf1 hx11
      have BN := hide qBN
      clear qBN
      have BNz := (unhide BN).1
      have BNc0 := (unhide BN).2.1 0 _ rfl
      have BNc1 := (unhide BN).2.1 1 _ rfl
      have BNc2 := (unhide BN).2.1 2 _ rfl
      have BNc3 := (unhide BN).2.1 3 _ rfl
      go_wp2_with fail
      refine (HM9 _ _ _ (unhide HP9)).mono ?_
      rintro e w12 ⟨rfl, hx12⟩
      have hb12 : Below w11.heap.size w11 w12 := Below.trans (by go_grown) (hx12.mono (by go_size))
      (try clear BNz BNc0 BNc1 BNc2 BNc3)
      replace BN := hide ((unhide BN).below hb12)
      have BNz := (unhide BN).1
      have BNc0 := (unhide BN).2.1 0 _ rfl
      have BNc1 := (unhide BN).2.1 1 _ rfl
      have BNc2 := (unhide BN).2.1 2 _ rfl
      have BNc3 := (unhide BN).2.1 3 _ rfl
      replace HK := hide ((unhide HK).trans (hb12.mono (unhide HK).size))
      have hfin := unhide HK
      go_wp2_with fail
      go_returns
      exact ⟨rfl, hfin⟩
    case' true =>
      obtain ⟨hb1t, hb2t⟩ := HBB.out rfl
      rw [hb1t] at HU1
      rw [hb2t] at HU2
      clear hb1t hb2t HBB
      go_wp2_with fail
      refine (HM21 _ _ _ _ _ (unhide HP2) (unhide HP1)).mono ?_
      rintro e w10 ⟨⟨oc, rfl, hoc⟩, hx10⟩
      have hb10 : Below w9.heap.size w9 w10 := Below.trans (by go_grown) (hx10.mono (by go_size))
      replace HC1 := hide ((unhide HC1).below hb10)
      replace HP1 := hide ((unhide HP1).below hb10)
      replace HP2 := hide ((unhide HP2).below hb10)
      (try clear BAz BAc0 BAc1 BAc2 BAc3)
      replace BA := hide ((unhide BA).below hb10)
      have BAz := (unhide BA).1
      have BAc0 := (unhide BA).2.1 0 _ rfl
      have BAc1 := (unhide BA).2.1 1 _ rfl
      have BAc2 := (unhide BA).2.1 2 _ rfl
      have BAc3 := (unhide BA).2.1 3 _ rfl
      (try clear BBz BBc0 BBc1 BBc2 BBc3)
      replace BB := hide ((unhide BB).below hb10)
      have BBz := (unhide BB).1
      have BBc0 := (unhide BB).2.1 0 _ rfl
      have BBc1 := (unhide BB).2.1 1 _ rfl
      have BBc2 := (unhide BB).2.1 2 _ rfl
      have BBc3 := (unhide BB).2.1 3 _ rfl
      replace HOM := hide ((unhide HOM).below hb10)
      replace HK := hide ((unhide HK).trans (hb10.mono (unhide HK).size))
      have HOC := hide (OwnA.ofInts hoc).1.ints
      obtain ⟨ca, cc, hz7⟩ := (rows_of_ownS hoc).slice
      subst hz7
      clear hoc HM21
      go_wp2_with fail
      refine (HU1 _ _ _ (unhide HP1)).mono ?_
      rintro e w11 ⟨⟨ou, rfl, hou⟩, hx11⟩
      have hb11 : Below w10.heap.size w10 w11 := Below.trans (by go_grown) (hx11.mono (by go_size))
      replace HC1 := hide ((unhide HC1).below hb11)
      replace HP1 := hide ((unhide HP1).below hb11)
      replace HP2 := hide ((unhide HP2).below hb11)
      (try clear BAz BAc0 BAc1 BAc2 BAc3)
      replace BA := hide ((unhide BA).below hb11)
      have BAz := (unhide BA).1
      have BAc0 := (unhide BA).2.1 0 _ rfl
      have BAc1 := (unhide BA).2.1 1 _ rfl
      have BAc2 := (unhide BA).2.1 2 _ rfl
      have BAc3 := (unhide BA).2.1 3 _ rfl
      (try clear BBz BBc0 BBc1 BBc2 BBc3)
      replace BB := hide ((unhide BB).below hb11)
      have BBz := (unhide BB).1
      have BBc0 := (unhide BB).2.1 0 _ rfl
      have BBc1 := (unhide BB).2.1 1 _ rfl
      have BBc2 := (unhide BB).2.1 2 _ rfl
      have BBc3 := (unhide BB).2.1 3 _ rfl
      replace HOM := hide ((unhide HOM).below hb11)
      replace HOC := hide ((unhide HOC).below hb11)
      replace HK := hide ((unhide HK).trans (hb11.mono (unhide HK).size))
      have HOU := hide (OwnA.ofInts hou).1.ints
      obtain ⟨ua, uc, hz8⟩ := (rows_of_ownS hou).slice
      subst hz8
      clear hou HU1
      go_wp2_with fail
      refine (HU2 _ _ _ (unhide HP2)).mono ?_
      rintro e w12 ⟨⟨ov, rfl, hov⟩, hx12⟩
      have hb12 : Below w11.heap.size w11 w12 := Below.trans (by go_grown) (hx12.mono (by go_size))
      replace HC1 := hide ((unhide HC1).below hb12)
      replace HP2 := hide ((unhide HP2).below hb12)
      (try clear BAz BAc0 BAc1 BAc2 BAc3)
      replace BA := hide ((unhide BA).below hb12)
      have BAz := (unhide BA).1
      have BAc0 := (unhide BA).2.1 0 _ rfl
      have BAc1 := (unhide BA).2.1 1 _ rfl
      have BAc2 := (unhide BA).2.1 2 _ rfl
      have BAc3 := (unhide BA).2.1 3 _ rfl
      (try clear BBz BBc0 BBc1 BBc2 BBc3)
      replace BB := hide ((unhide BB).below hb12)
      have BBz := (unhide BB).1
      have BBc0 := (unhide BB).2.1 0 _ rfl
      have BBc1 := (unhide BB).2.1 1 _ rfl
      have BBc2 := (unhide BB).2.1 2 _ rfl
      have BBc3 := (unhide BB).2.1 3 _ rfl
      replace HOM := hide ((unhide HOM).below hb12)
      replace HOC := hide ((unhide HOC).below hb12)
      replace HOU := hide ((unhide HOU).below hb12)
      replace HK := hide ((unhide HK).trans (hb12.mono (unhide HK).size))
      have HOV := hide (OwnA.ofInts hov).1.ints
      obtain ⟨va, vc, hz9⟩ := (rows_of_ownS hov).slice
      subst hz9
      clear hov HU2
      go_wp2_with fail
      refine (sameTrue _ _ MM _ rfl _ ((unhide HOC).below (by go_grown)) (unhide HOM) (by omega)).mono ?_
      rintro e w13 ⟨rfl, hx13⟩
      have hb13 : Below w12.heap.size w12 w13 := Below.trans (by go_grown) (hx13.mono (by go_size))
      replace HC1 := hide ((unhide HC1).below hb13)
      replace HOM := hide ((unhide HOM).below hb13)
      replace HOU := hide ((unhide HOU).below hb13)
      replace HOV := hide ((unhide HOV).below hb13)
      replace HK := hide ((unhide HK).trans (hb13.mono (unhide HK).size))
      clear HOC HP1 HP2
      clear BA BAz BAc0 BAc1 BAc2 BAc3 BB BBz BBc0 BBc1 BBc2 BBc3
      go_wp2
      go_loopw [171] (fun i wr => ∃ k : Nat, k ≤ A1.length ∧ i = .int .i64 k ∧ Below w13.heap.size w13 wr) (fun i _ => A1.length - (intOf i).toNat)
      case atStart => exact ⟨0, Nat.zero_le _, rfl, by go_grown⟩
      case round =>
        obtain ⟨k, hk, rfl, kb⟩ := hrel
        by_cases hlt : k < A1.length
        · have hki : (k : Int) < (A1.length : Int) := by omega
          obtain ⟨b, off, cap, hce, hcell⟩ : ∃ b off cap, Value.slice ua A1.length uc = .slice (some ⟨b, off, none⟩) A1.length cap ∧ wr.cell? ⟨b, off + k, none⟩ = some (.int .i64 (A1.getD k 0)) := by
            rcases (unhide HOU) with ⟨_, _, _, e⟩ | ⟨b, off, cap, e, hb, hcell⟩
            · rw [e] at hlt; simp at hlt
            · exact ⟨b, off, cap, e, (kb.cell (p := ⟨b, off + k, none⟩) hb).trans (hcell k hlt)⟩
          cases hce
          have hq1 := HHAS.out k hlt
          generalize A1.getD k 0 = t at *
          obtain ⟨q, hq2⟩ : ∃ q, q = decide (t ∈ A2) := ⟨_, rfl⟩
          rw [← hq2] at hq1
          have HH1 := fun W h => lawHas MM t q hq1 (.slice ma MM.length mc) W h (by omega)
          have HH2 := fun W h => lawHas A2 t q hq2.symm (.slice va A2.length vc) W h (by omega)
          have hqq : (q != q) = false := by cases q <;> rfl
          clear hq1 hq2 HHAS HOU
          go_wp2_with fail
          refine (HH1 _ ((unhide HOM).below (by go_grown))).mono ?_
          rintro e x1 ⟨rfl, hy1⟩
          have ky1 : Below w13.heap.size w13 x1 := kb.trans (hy1.mono kb.size)
          go_wp2_with fail
          refine (HH2 _ ((unhide HOV).below ky1)).mono ?_
          rintro e x2 ⟨rfl, hy2⟩
          have ky2 : Below w13.heap.size w13 x2 := ky1.trans (hy2.mono ky1.size)
          clear HH1 HH2
          go_wp2
          exact ⟨⟨k + 1, by omega, by go_num, ky2⟩, by simp [intOf]; omega⟩
        · have hki : ¬ (k : Int) < (A1.length : Int) := by omega
          clear HHAS HOM HOU HOV
          replace HC1 := hide ((unhide HC1).below kb)
          replace HK := hide ((unhide HK).trans (kb.mono (unhide HK).size))
          clear kb
          generalize wr = w14 at *
          go_wp2_with fail
          refine (drawNumb _ n1 _ (unhide HC1)).mono ?_
          rintro e w15 ⟨lv9, hv9, p9, k9, rfl, hp9, hx15⟩
          have hb15 : Below w14.heap.size w14 w15 := Below.trans (by go_grown) (hx15.mono (by go_size))
          replace HC1 := hide ((unhide HC1).below hb15)
          replace HK := hide ((unhide HK).trans (hb15.mono (unhide HK).size))
          have HP9 := hide hp9.at
          obtain ⟨_, _, hz1⟩ := hp9.1.1.slice
          subst hz1
          obtain ⟨_, _, hz2⟩ := hp9.1.2.slice
          subst hz2
          have hq91 := hp9.2.1
          have hq92 := hp9.2.2
          clear hp9
          obtain ⟨B9, A9, hA9⟩ := ans_ex p9
          have HN9 := fun a b W h => implNumber p9 B9 A9 hA9 k9 a b W h (by omega) (by omega)
          have HM9 := fun a b W h => specNumber p9 B9 A9 hA9 k9 a b W h (by omega) (by omega)
          obtain ⟨V9, hV9⟩ : ∃ V, V = numV B9 A9 k9 := ⟨_, rfl⟩
          obtain ⟨R9, hR9⟩ : ∃ R, R = numB B9 A9 k9 := ⟨_, rfl⟩
          rw [← hV9, ← hR9] at HN9 HM9
          have hv9 : (V9 == V9) = true := by simp
          have hr9 : (R9 == R9) = true := by simp
          obtain ⟨M9, hM9⟩ : ∃ M, M = p9.many := ⟨_, rfl⟩
          obtain ⟨L9, hL9⟩ : ∃ L, L = p9.low := ⟨_, rfl⟩
          rw [← hM9, ← hL9] at HN9 HM9
          rw [← hM9, ← hL9]
          clear hV9 hR9 hM9 hL9 hA9 HC1
          go_wp2_with fail
          refine (HN9 _ _ _ ((unhide HP9).below (by go_grown))).mono ?_
          rintro e w16 ⟨rfl, hx16⟩
          have hb16 : Below w15.heap.size w15 w16 := Below.trans (by go_grown) (hx16.mono (by go_size))
          replace HP9 := hide ((unhide HP9).below hb16)
          replace HK := hide ((unhide HK).trans (hb16.mono (unhide HK).size))
          have qBN := boxOf1 hx16
          have BN := hide qBN
          clear qBN
          have BNz := (unhide BN).1
          have BNc0 := (unhide BN).2.1 0 _ rfl
          have BNc1 := (unhide BN).2.1 1 _ rfl
          have BNc2 := (unhide BN).2.1 2 _ rfl
          have BNc3 := (unhide BN).2.1 3 _ rfl
          go_wp2_with fail
          refine (HM9 _ _ _ (unhide HP9)).mono ?_
          rintro e w17 ⟨rfl, hx17⟩
          have hb17 : Below w16.heap.size w16 w17 := Below.trans (by go_grown) (hx17.mono (by go_size))
          (try clear BNz BNc0 BNc1 BNc2 BNc3)
          replace BN := hide ((unhide BN).below hb17)
          have BNz := (unhide BN).1
          have BNc0 := (unhide BN).2.1 0 _ rfl
          have BNc1 := (unhide BN).2.1 1 _ rfl
          have BNc2 := (unhide BN).2.1 2 _ rfl
          have BNc3 := (unhide BN).2.1 3 _ rfl
          replace HK := hide ((unhide HK).trans (hb17.mono (unhide HK).size))
          have hfin := unhide HK
          go_wp2_with fail
          go_returns
          exact ⟨rfl, hfin⟩
set_option maxRecDepth 100000 in
theorem walk (v0 : Value) (n0 : Nat) (h0 : n0 ≤ 140737488351232) (v1 : Value) (n1 : Nat) (h1 : n1 ≤ 140737488351232) (w : World) (hb0 : ByteRow w v0 n0) (hb1 : ByteRow w v1 n1) :
    Calls Try.prog 4 #[v0, v1] w fun e w' => e = .returned (.bool true) ∧ Below w.heap.size w w' := by
  by_cases hn : n0 + n1 ≤ 1048576
  · exact walk0 v0 n0 v1 n1 w (hb0.code (by omega)) (hb1.code (by omega)) hn
  · obtain ⟨ad0, c0, rfl, _⟩ := hb0
    obtain ⟨ad1, c1, rfl, _⟩ := hb1
    have hbig : (1048576 : Int) < (n0 : Int) + (n1 : Int) := by omega
    go_enter Try.func4, Try.ntmps4
    go_wp2
    go_returns
    exact ⟨rfl, by go_grown⟩

theorem own : ownKnob Try.prog.godebug = none := by kernel_rfl
theorem laidOut : laidOutB Try.prog = true := by kernel_rfl
set_option maxRecDepth 100000 in
theorem lifted (os : Os) (started : os.Started) (H : Type) (enc : TypeId × Value → H) :
    ReturnsInHanded {} Try.checked os 4 .any (Rows.fnNextSpec.pre6 enc Try.prog Try.f4 Rows.fnNextRow.domain false) (Rows.fnNextSpec.post enc Try.prog Try.f4 false true false false) := by
  refine returnsInHanded_of_change_sized (C := Try.checked) own started (by kernel_rfl) Try.func4
    (ChangeSpec.witness6 (enc := enc) (C := Try.checked) false ⟨#[], #[.slice none 0 0, .slice none 0 0], []⟩ 8 (by kernel_rfl) (by kernel_rfl) (by kernel_rfl) (by kernel_rfl)) ?_
  intro W base args ds gs before hval0 hW hcnd hsz0 _
  have hsz : (DataW.weightsEach Try.prog (Try.f4.params.toList ++ (OpenSpec.ofChange Rows.fnNextSpec).bare.plain.varTypes Try.prog) (ds ++ gs)).all (· ≤ reachBytes) = true := hsz0
  have hval : ∀ (j : Nat) t v, Try.f4.params[j]? = some t → args[j]? = some v → Value.okWide Try.prog W .any base t v := hval0
  have hW' := hW
  obtain ⟨p, q, hA0, hV, rfl, hfz, hnd⟩ := hW
  have hA : DataW.TrodAll enc Try.prog W 0 (fun _ => true) true Try.f4.params.toList args.toList ds p := hA0
  rw [Try.params4] at hA hval
  obtain ⟨v0, vs0, d0, ds0, p0, q0, hargs, rfl, rfl, h0, r0⟩ := trodAll_cons hA
  obtain ⟨v1, vs1, d1, ds1, p1, q1, rfl, rfl, rfl, h1, r1⟩ := trodAll_cons r0
  obtain ⟨rfl, rfl, rfl⟩ := trodAll_nil r1
  obtain rfl : args = #[v0, v1] := by cases args; simp_all
  obtain ⟨rfl, rfl⟩ := trodVars_none hV
  obtain ⟨ad0, len0, cap0, rfl⟩ := okWide_slice Try.underlying22 (hval 0 22 v0 rfl rfl)
  have kk0 := h0
  have lt0 : ∀ x ∈ p0, x.block < W.heap.size := by obtain ⟨m, hm⟩ := kk0; exact DataW.trod_lt m _ _ _ hm
  obtain ⟨hbr0, hbn0⟩ := bytes_of h0 hsz (j := 0) (by rw [Try.params4]; rfl) rfl
  obtain ⟨ad1, len1, cap1, rfl⟩ := okWide_slice Try.underlying22 (hval 1 22 v1 rfl rfl)
  have kk1 := h1
  have lt1 : ∀ x ∈ p1, x.block < W.heap.size := by obtain ⟨m, hm⟩ := kk1; exact DataW.trod_lt m _ _ _ hm
  obtain ⟨hbr1, hbn1⟩ := bytes_of h1 hsz (j := 1) (by rw [Try.params4]; rfl) rfl
  clear hA0 hval0
  refine (walk _ len0 hbn0 _ len1 hbn1 W hbr0 hbr1).mono fun e W' ⟨he, bel⟩ => ?_
  subst he
  exact ⟨_, rfl, _, _, _, [], _, [], hW', trodAll_mk1 (shut_bool Try.underlying4 _), (trodAll_cons_mk (Below.trod laidOut (by kernel_rfl) (of_decide_eq_true (by kernel_rfl)) kk0 bel lt0) (trodAll_cons_mk (Below.trod laidOut (by kernel_rfl) (of_decide_eq_true (by kernel_rfl)) kk1 bel lt1) trodAll_mk0)), rfl, bel.frame _, fun h => by cases h⟩

theorem over : Rows.fnNextRow.holds Try.pinned (OpenSpec.ofChange Rows.fnNextSpec) :=
  OpenClaim.holds_of_wide 4 Try.f4 rfl rfl rfl rfl rfl rfl rfl ⟨rfl, rfl, rfl, rfl, rfl⟩ rfl rfl rfl rfl rfl (by kernel_rfl) Try.func4 (by kernel_rfl)
    (of_decide_eq_true (by kernel_rfl)) (by unfold Func.isWrapper; first | (rw [if_pos (by decide +kernel)]; kernel_rfl) | (rw [if_neg (by decide +kernel)]; exact ⟨rfl, rfl⟩))
    (fun os started H enc _ => lifted os started H enc)
end Go.Proofs.Ytaafdcghafbfhaa.fnNext
namespace Go.Proofs.Ytaafdcghafbfhaa
theorem fnNext_holds : Rows.FnNextSaid := fnNext.over
#print axioms fnNext_holds
end Go.Proofs.Ytaafdcghafbfhaa
