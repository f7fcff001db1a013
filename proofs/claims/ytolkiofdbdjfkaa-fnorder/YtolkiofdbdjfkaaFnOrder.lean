/- At every two lists of bytes the function FnOrder returns true and leaves its arguments as they were: values' bytes are in the order of the values, and none is another one's beginning. No condition. -/
import Derived.Test.YtolkiofdbdjfkaaBothV
import Derived.Test.YtolkiofdbdjfkaaBothW
import Derived.Test.YtolkiofdbdjfkaaEqVV
import Derived.Test.YtolkiofdbdjfkaaDrawCV
import Derived.Test.YtolkiofdbdjfkaaBytesV
import Derived.Test.YtolkiofdbdjfkaaLawsV
import Derived.Lib.SmallJoins
namespace Go.Proofs.Ytolkiofdbdjfkaa.fnOrder
open Go.ChangeShapes Go.WideShapes Go.ChangeAt Go.RowKit Go.Joins
open Go.ChangeMaps (open_string shut_string)
set_option linter.unusedVariables false
attribute [local go_sem ↓] Go.wp_at_zero Go.wp_at_succ

theorem stands_front {a b : VV} (ha : GoodV a) : Stands ((bytesV a ++ bytesV b).data.toList.drop 0) a := by
  refine ⟨ha, bytesL b, ?_⟩
  simp [bytesV]
theorem piece {s : ByteArray} {A : Nat} {v : VV} (h : A < s.size) (hv : Stands (s.data.toList.drop A) v) : A + (bytesV v).size ≤ s.size ∧ s.extract A (A + (bytesV v).size) = bytesV v := by
  obtain ⟨_, r, hr⟩ := hv
  exact stand_extract h hr
theorem no_front {a b : VV} (ha : GoodV a) (hb : GoodV b) (hne : a ≠ b) (hl : (bytesV a).size ≤ (bytesV b).size) : (((bytesV b).extract 0 (bytesV a).size).toList == (bytesV a).toList) = false := by
  apply beq_false_of_ne
  intro e
  rw [ByteArray.toList_eq, ByteArray.toList_eq, extract_list] at e
  have e1 : (bytesV b).data.toList = bytesL b := by simp [bytesV]
  have e2 : (bytesV a).data.toList = bytesL a := by simp [bytesV]
  rw [e1, e2, bytesV_size] at e
  simp only [List.drop_zero, Nat.sub_zero] at e
  have e3 : bytesL b = bytesL a ++ (bytesL b).drop (bytesL a).length := by
    conv => lhs; rw [← List.take_append_drop (bytesL a).length (bytesL b), e]
  exact hne (bytes_free ha hb (x := (bytesL b).drop (bytesL a).length) (y := []) (by rw [List.append_nil]; exact e3.symm)).1
theorem same_way {a b : VV} (ha : GoodV a) (hb : GoodV b) : cmpB (bytesV a).data.toList (bytesV b).data.toList = cmpV a b := by
  have e1 : (bytesV b).data.toList = bytesL b := by simp [bytesV]
  have e2 : (bytesV a).data.toList = bytesL a := by simp [bytesV]
  rw [e1, e2, cmp_value ha hb]
theorem bytes27 {v : VV} (h : GoodV v) : (bytesV v).size ≤ 27 := by rw [bytesV_size]; exact bytesL_len h
theorem bytes1 {v : VV} (h : GoodV v) : 1 ≤ (bytesV v).size := by rw [bytesV_size]; exact bytesL_pos h

set_option maxRecDepth 100000 in
set_option maxHeartbeats 12800000 in
theorem walk0 (v0 : Value) (n0 : Nat) (v1 : Value) (n1 : Nat) (w : World) (hc0 : CodeAt w v0 n0) (hc1 : CodeAt w v1 n1) (hn : n0 + n1 ≤ 1048576) :
    Calls Try.prog 3 #[v0, v1] w fun e w' => e = .returned (.bool true) ∧ Below w.heap.size w w' := by
  obtain ⟨ad0, c0, rfl⟩ : ∃ ad c, v0 = .slice ad n0 c := by
    obtain ⟨ad, c, e, _⟩ := hc0
    exact ⟨ad, c, e⟩
  obtain ⟨ad1, c1, rfl⟩ : ∃ ad c, v1 = .slice ad n1 c := by
    obtain ⟨ad, c, e, _⟩ := hc1
    exact ⟨ad, c, e⟩
  have hbig : ¬ (1048576 : Int) < (n0 : Int) + (n1 : Int) := by omega
  have HD := drawCmpV _ n0 w hc0
  have HC := hide hc1
  have HK : Hid (Below w.heap.size w w) := Below.refl _ _
  clear hc0 hc1
  go_enter Try.func3, Try.ntmps3
  go_wp2_with fail
  refine (HD).mono ?_
  rintro e w1 ⟨a, b, rfl, ha, hb2, hx⟩
  have hb : Below w.heap.size w w1 := Below.trans (by go_grown) (hx.mono (by go_size))
  replace HC := hide ((unhide HC).below hb)
  replace HK := hide ((unhide HK).trans (hb.mono (unhide HK).size))
  clear hx hb
  clear HD
  have hma : a.t.size ≤ maxLen := by unfold maxLen; omega
  have hmb : b.t.size ≤ maxLen := by unfold maxLen; omega
  obtain ⟨c, ok, hcv, HCS, HCI⟩ := bothCV a b hma hmb
  obtain ⟨gg, HGS, HGI⟩ := bothGV a hma
  have HCV := hide hcv
  clear hcv
  obtain ⟨a', haa⟩ : ∃ z, z = a := ⟨_, rfl⟩
  obtain ⟨b', hbb⟩ : ∃ z, z = b := ⟨_, rfl⟩
  rw [← haa, ← hbb] at HCV
  have HAA := hide haa
  have HBB := hide hbb
  clear haa hbb
  obtain ⟨ak, an, atx⟩ := a
  obtain ⟨bk, bn, btx⟩ := b
  unfold encV at HCS HCI HGS HGI ⊢
  simp only [] at HCS HCI HGS HGI ha hb2 hma hmb ⊢
  go_wp2_with fail
  refine (HCI _).mono ?_
  rintro e w2 ⟨rfl, hx⟩
  have hb : Below w1.heap.size w1 w2 := Below.trans (by go_grown) (hx.mono (by go_size))
  replace HC := hide ((unhide HC).below hb)
  obtain ⟨q1, q2⟩ := boxOf2 hx
  have BA := hide q1
  have BB := hide q2
  clear q1 q2
  replace HK := hide ((unhide HK).trans (hb.mono (unhide HK).size))
  clear hx hb
  have BAc0 := (unhide BA).2.1 0 _ rfl
  have BAc1 := (unhide BA).2.1 1 _ rfl
  have BAc2 := (unhide BA).2.1 2 _ rfl
  have BAz := (unhide BA).1
  have BAn : w1.heap.size ≠ w2.heap.size := by omega
  have BAm : w2.heap.size ≠ w1.heap.size := by omega
  have BBc0 := (unhide BB).2.1 0 _ rfl
  have BBc1 := (unhide BB).2.1 1 _ rfl
  have BBc2 := (unhide BB).2.1 2 _ rfl
  have BBz := (unhide BB).1
  have BBn : w1.heap.size + 1 ≠ w2.heap.size := by omega
  have BBm : w2.heap.size ≠ w1.heap.size + 1 := by omega
  go_wp2_with fail
  refine (HCS _).mono ?_
  rintro e w3 ⟨rfl, hx⟩
  have hb : Below w2.heap.size w2 w3 := Below.trans (by go_grown) (hx.mono (by go_size))
  clear BAc0 BAc1 BAc2 BAz BAn BAm BBc0 BBc1 BBc2 BBz BBn BBm
  replace HC := hide ((unhide HC).below hb)
  replace BA := hide ((unhide BA).below hb)
  replace BB := hide ((unhide BB).below hb)
  replace HK := hide ((unhide HK).trans (hb.mono (unhide HK).size))
  clear hx hb
  have BAc0 := (unhide BA).2.1 0 _ rfl
  have BAc1 := (unhide BA).2.1 1 _ rfl
  have BAc2 := (unhide BA).2.1 2 _ rfl
  have BAz := (unhide BA).1
  have BAn : w1.heap.size ≠ w3.heap.size := by omega
  have BAm : w3.heap.size ≠ w1.heap.size := by omega
  have BBc0 := (unhide BB).2.1 0 _ rfl
  have BBc1 := (unhide BB).2.1 1 _ rfl
  have BBc2 := (unhide BB).2.1 2 _ rfl
  have BBz := (unhide BB).1
  have BBn : w1.heap.size + 1 ≠ w3.heap.size := by omega
  have BBm : w3.heap.size ≠ w1.heap.size + 1 := by omega
  clear HCS
  rcases (unhide HCV) with ⟨rfl, hga, hgb, hcc⟩ | ⟨rfl, hng, rfl⟩
  · have HCC := hide hcc
    clear hcc
    go_upto_region 6 with fail
    go_region_held3 (fun w' => w'.cell? ⟨w1.heap.size, 0, none⟩ = some (.int .i64 ak) ∧ w'.cell? ⟨w1.heap.size, 1, none⟩ = some (.int .i64 an) ∧ w'.cell? ⟨w1.heap.size, 2, none⟩ = some (.string atx)) (go_keep)
      (first
        | (go_at_call 16; refine (HGI _).mono ?_; rintro e w4 ⟨rfl, hx4⟩; have hp4 := kept hx4 w1.heap.size (by simp; omega); have b4 : Below w3.heap.size w3 w4 := (by exact Below.trans ((Below.refl _ w3).drew) (hx4.mono (by simp))); have z4 := b4.size; clear hx4)
        | (go_at_call 17; refine (HGS _).mono ?_; rintro e w5 ⟨rfl, hx5⟩; have hp5 := kept hx5 w1.heap.size (by omega); have b5 : Below w3.heap.size w3 w5 := (by exact b4.trans (hx5.mono b4.size)); clear hx5))
    have hb := b5
    clear hp4 hp5 b4 z4 HGI HGS
    have hcc := unhide HCC
    clear HCC
    rw [unhide HAA] at hga hcc
    rw [unhide HBB] at hgb hcc
    have hcs := cmpV_cases hga hgb
    rw [← hcc] at hcs
    have hcc2 := hcc.symm
    clear hcc
    rcases hcs with rfl | rfl | rfl
    · have hcc := hcc2
      clear hcc2
      have HBA := fun W => implCVYes ⟨bk, bn, btx⟩ ⟨ak, an, atx⟩ W hgb hga
      rw [show cmpV ⟨bk, bn, btx⟩ ⟨ak, an, atx⟩ = 1 from by rw [cmpV_neg hga hgb, hcc]; try rfl] at HBA
      have hab : (⟨ak, an, atx⟩ : VV) ≠ ⟨bk, bn, btx⟩ := fun e => by rw [e, cmpV_refl] at hcc; omega
      have HEQ := fun W => eqlVV ak an bk bn atx btx W
      rw [decide_eq_false (show ¬ (ak = bk ∧ an = bn ∧ atx = btx) from fun e => hab (by rw [e.1, e.2.1, e.2.2]))] at HEQ
      have HNF := hide (fun h => no_front hga hgb hab h)
      have HVA := fun W => implVBYes ⟨ak, an, atx⟩ W hga
      have HVB := fun W => implVBYes ⟨bk, bn, btx⟩ W hgb
      have HSW := fun W => sameWay (bytesV ⟨ak, an, atx⟩) (bytesV ⟨bk, bn, btx⟩) W
      rw [same_way hga hgb, hcc] at HSW
      have hx27 := bytes27 hga
      have hy27 := bytes27 hgb
      have hx1 := bytes1 hga
      have HRF := fun W => implRVat (bytesV ⟨ak, an, atx⟩ ++ bytesV ⟨bk, bn, btx⟩) 0 ⟨ak, an, atx⟩ W (by rw [ByteArray.size_append]; omega) (by rw [ByteArray.size_append]; omega) (stands_front hga)
      simp only [show ((0 : Nat) : Int) = 0 from rfl, Int.zero_add] at HRF
      have HNA := fun W => neqVV ak an ak an atx atx W
      simp only [and_self, decide_true, Bool.not_true] at HNA
      unfold encV at HVA HVB HBA HRF
      simp only [] at HVA HVB HBA HRF
      generalize bytesV ⟨ak, an, atx⟩ = X at *
      generalize bytesV ⟨bk, bn, btx⟩ = Y at *
      clear hga hgb hcc hab HCI
      clear BAc0 BAc1 BAc2 BAz BAn BAm BBc0 BBc1 BBc2 BBz BBn BBm
      replace HC := hide ((unhide HC).below hb)
      replace BA := hide ((unhide BA).below hb)
      replace BB := hide ((unhide BB).below hb)
      replace HK := hide ((unhide HK).trans (hb.mono (unhide HK).size))
      clear hb b5
      have BAc0 := (unhide BA).2.1 0 _ rfl
      have BAc1 := (unhide BA).2.1 1 _ rfl
      have BAc2 := (unhide BA).2.1 2 _ rfl
      have BAz := (unhide BA).1
      have BAn : w1.heap.size ≠ w5.heap.size := by omega
      have BAm : w5.heap.size ≠ w1.heap.size := by omega
      have BBc0 := (unhide BB).2.1 0 _ rfl
      have BBc1 := (unhide BB).2.1 1 _ rfl
      have BBc2 := (unhide BB).2.1 2 _ rfl
      have BBz := (unhide BB).1
      have BBn : w1.heap.size + 1 ≠ w5.heap.size := by omega
      have BBm : w5.heap.size ≠ w1.heap.size + 1 := by omega
      go_wp2_with fail
      refine (HVA _).mono ?_
      rintro e w6 ⟨rfl, hx⟩
      have hb : Below w5.heap.size w5 w6 := Below.trans (by go_grown) (hx.mono (by go_size))
      clear BAc0 BAc1 BAc2 BAz BAn BAm BBc0 BBc1 BBc2 BBz BBn BBm
      replace HC := hide ((unhide HC).below hb)
      replace BA := hide ((unhide BA).below hb)
      replace BB := hide ((unhide BB).below hb)
      replace HK := hide ((unhide HK).trans (hb.mono (unhide HK).size))
      clear hx hb
      have BAc0 := (unhide BA).2.1 0 _ rfl
      have BAc1 := (unhide BA).2.1 1 _ rfl
      have BAc2 := (unhide BA).2.1 2 _ rfl
      have BAz := (unhide BA).1
      have BAn : w1.heap.size ≠ w6.heap.size := by omega
      have BAm : w6.heap.size ≠ w1.heap.size := by omega
      have BBc0 := (unhide BB).2.1 0 _ rfl
      have BBc1 := (unhide BB).2.1 1 _ rfl
      have BBc2 := (unhide BB).2.1 2 _ rfl
      have BBz := (unhide BB).1
      have BBn : w1.heap.size + 1 ≠ w6.heap.size := by omega
      have BBm : w6.heap.size ≠ w1.heap.size + 1 := by omega
      go_wp2_with fail
      refine (HVB _).mono ?_
      rintro e w7 ⟨rfl, hx⟩
      have hb : Below w6.heap.size w6 w7 := Below.trans (by go_grown) (hx.mono (by go_size))
      clear BAc0 BAc1 BAc2 BAz BAn BAm BBc0 BBc1 BBc2 BBz BBn BBm
      replace HC := hide ((unhide HC).below hb)
      replace BA := hide ((unhide BA).below hb)
      replace BB := hide ((unhide BB).below hb)
      replace HK := hide ((unhide HK).trans (hb.mono (unhide HK).size))
      clear hx hb
      have BAc0 := (unhide BA).2.1 0 _ rfl
      have BAc1 := (unhide BA).2.1 1 _ rfl
      have BAc2 := (unhide BA).2.1 2 _ rfl
      have BAz := (unhide BA).1
      have BAn : w1.heap.size ≠ w7.heap.size := by omega
      have BAm : w7.heap.size ≠ w1.heap.size := by omega
      have BBc0 := (unhide BB).2.1 0 _ rfl
      have BBc1 := (unhide BB).2.1 1 _ rfl
      have BBc2 := (unhide BB).2.1 2 _ rfl
      have BBz := (unhide BB).1
      have BBn : w1.heap.size + 1 ≠ w7.heap.size := by omega
      have BBm : w7.heap.size ≠ w1.heap.size + 1 := by omega
      go_wp2_with fail
      refine (HBA _).mono ?_
      rintro e w8 ⟨rfl, hx⟩
      have hb : Below w7.heap.size w7 w8 := Below.trans (by go_grown) (hx.mono (by go_size))
      clear BAc0 BAc1 BAc2 BAz BAn BAm BBc0 BBc1 BBc2 BBz BBn BBm
      replace HC := hide ((unhide HC).below hb)
      replace BA := hide ((unhide BA).below hb)
      replace BB := hide ((unhide BB).below hb)
      replace HK := hide ((unhide HK).trans (hb.mono (unhide HK).size))
      clear hx hb
      have BAc0 := (unhide BA).2.1 0 _ rfl
      have BAc1 := (unhide BA).2.1 1 _ rfl
      have BAc2 := (unhide BA).2.1 2 _ rfl
      have BAz := (unhide BA).1
      have BAn : w1.heap.size ≠ w8.heap.size := by omega
      have BAm : w8.heap.size ≠ w1.heap.size := by omega
      have BBc0 := (unhide BB).2.1 0 _ rfl
      have BBc1 := (unhide BB).2.1 1 _ rfl
      have BBc2 := (unhide BB).2.1 2 _ rfl
      have BBz := (unhide BB).1
      have BBn : w1.heap.size + 1 ≠ w8.heap.size := by omega
      have BBm : w8.heap.size ≠ w1.heap.size + 1 := by omega
      go_wp2_with fail
      refine (HSW _).mono ?_
      rintro e wz ⟨rfl, hwz⟩
      subst wz
      by_cases hle : X.size ≤ Y.size
      · have hnf := (unhide HNF) hle
        have hlei : (X.size : Int) ≤ (Y.size : Int) := by omega
        go_wp2_with fail
        refine (HRF _).mono ?_
        rintro e w9 ⟨rfl, hx⟩
        have hb : Below w8.heap.size w8 w9 := Below.trans (by go_grown) (hx.mono (by go_size))
        clear BAc0 BAc1 BAc2 BAz BAn BAm BBc0 BBc1 BBc2 BBz BBn BBm
        replace HC := hide ((unhide HC).below hb)
        replace BA := hide ((unhide BA).below hb)
        replace BB := hide ((unhide BB).below hb)
        replace HK := hide ((unhide HK).trans (hb.mono (unhide HK).size))
        clear hx hb
        have BAc0 := (unhide BA).2.1 0 _ rfl
        have BAc1 := (unhide BA).2.1 1 _ rfl
        have BAc2 := (unhide BA).2.1 2 _ rfl
        have BAz := (unhide BA).1
        have BAn : w1.heap.size ≠ w9.heap.size := by omega
        have BAm : w9.heap.size ≠ w1.heap.size := by omega
        have BBc0 := (unhide BB).2.1 0 _ rfl
        have BBc1 := (unhide BB).2.1 1 _ rfl
        have BBc2 := (unhide BB).2.1 2 _ rfl
        have BBz := (unhide BB).1
        have BBn : w1.heap.size + 1 ≠ w9.heap.size := by omega
        have BBm : w9.heap.size ≠ w1.heap.size + 1 := by omega
        have w9z : w9.heap.size ≠ w1.heap.size := by omega
        clear HVA HVB HBA HSW HRF
        go_wp2_with fail
        refine (drawReadVal _ n1 _ ((unhide HC).below ((Below.refl _ _).alloc (Nat.le_refl _) _))).mono ?_
        rintro e w20 ⟨s, at0, rfl, hs, hat, hx⟩
        have hb : Below w9.heap.size w9 w20 := Below.trans (by go_grown) (hx.mono (by go_size))
        clear BAc0 BAc1 BAc2 BAz BAn BAm BBc0 BBc1 BBc2 BBz BBn BBm
        replace HC := hide ((unhide HC).below hb)
        replace BA := hide ((unhide BA).below hb)
        replace BB := hide ((unhide BB).below hb)
        replace HK := hide ((unhide HK).trans (hb.mono (unhide HK).size))
        clear hx hb
        have BAc0 := (unhide BA).2.1 0 _ rfl
        have BAc1 := (unhide BA).2.1 1 _ rfl
        have BAc2 := (unhide BA).2.1 2 _ rfl
        have BAz := (unhide BA).1
        have BAn : w1.heap.size ≠ w20.heap.size := by omega
        have BAm : w20.heap.size ≠ w1.heap.size := by omega
        have BBc0 := (unhide BB).2.1 0 _ rfl
        have BBc1 := (unhide BB).2.1 1 _ rfl
        have BBc2 := (unhide BB).2.1 2 _ rfl
        have BBz := (unhide BB).1
        have BBn : w1.heap.size + 1 ≠ w20.heap.size := by omega
        have BBm : w20.heap.size ≠ w1.heap.size + 1 := by omega
        clear BAc0 BAc1 BAc2 BAz BAn BAm BBc0 BBc1 BBc2 BBz BBn BBm
        clear BA
        clear BB
        have hsm : s.size ≤ maxLen := by unfold maxLen; omega
        obtain ⟨rv, E, ok2, HRA, HRS, HRI⟩ := bothRV s at0 hsm (by omega)
        have HNE := fun W => neqVV rv.k rv.n rv.k rv.n rv.t rv.t W
        simp only [and_self, decide_true, Bool.not_true] at HNE
        have HRR := hide HRA
        clear HRA
        obtain ⟨rw1, hrw⟩ : ∃ z, z = rv := ⟨_, rfl⟩
        rw [← hrw] at HRR
        have HRV := hide hrw
        clear hrw
        obtain ⟨rk, rn, rt⟩ := rv
        unfold encV at HRS HRI
        simp only [] at HRS HRI HNE
        go_wp2_with fail
        refine (HRI _).mono ?_
        rintro e w21 ⟨rfl, hx⟩
        have hb : Below w20.heap.size w20 w21 := Below.trans (by go_grown) (hx.mono (by go_size))
        replace HC := hide ((unhide HC).below hb)
        replace HK := hide ((unhide HK).trans (hb.mono (unhide HK).size))
        clear hx hb
        go_wp2_with fail
        refine (HRS _).mono ?_
        rintro e w22 ⟨rfl, hx⟩
        have hb : Below w21.heap.size w21 w22 := Below.trans (by go_grown) (hx.mono (by go_size))
        replace HC := hide ((unhide HC).below hb)
        have RA := hide (boxOf1 hx)
        replace HK := hide ((unhide HK).trans (hb.mono (unhide HK).size))
        clear hx hb
        have RAc0 := (unhide RA).2.1 0 _ rfl
        have RAc1 := (unhide RA).2.1 1 _ rfl
        have RAc2 := (unhide RA).2.1 2 _ rfl
        have RAz := (unhide RA).1
        have RAn : w21.heap.size ≠ w22.heap.size := by omega
        have RAm : w22.heap.size ≠ w21.heap.size := by omega
        go_wp2_with fail
        refine (drawValB _ n1 _ ((unhide HC).below ((Below.refl _ _).alloc (Nat.le_refl _) _))).mono ?_
        rintro e w23 ⟨u, rfl, hu, hx⟩
        have hb : Below w22.heap.size w22 w23 := Below.trans (by go_grown) (hx.mono (by go_size))
        clear RAc0 RAc1 RAc2 RAz RAn RAm
        replace HC := hide ((unhide HC).below hb)
        replace RA := hide ((unhide RA).below hb)
        have RB := hide (boxOf1 hx)
        replace HK := hide ((unhide HK).trans (hb.mono (unhide HK).size))
        clear hx hb
        have RAc0 := (unhide RA).2.1 0 _ rfl
        have RAc1 := (unhide RA).2.1 1 _ rfl
        have RAc2 := (unhide RA).2.1 2 _ rfl
        have RAz := (unhide RA).1
        have RAn : w21.heap.size ≠ w23.heap.size := by omega
        have RAm : w23.heap.size ≠ w21.heap.size := by omega
        have RBc0 := (unhide RB).2.1 0 _ rfl
        have RBc1 := (unhide RB).2.1 1 _ rfl
        have RBc2 := (unhide RB).2.1 2 _ rfl
        have RBz := (unhide RB).1
        have RBn : w22.heap.size ≠ w23.heap.size := by omega
        have RBm : w23.heap.size ≠ w22.heap.size := by omega
        have hum : u.t.size ≤ maxLen := by unfold maxLen; omega
        obtain ⟨us, ok3, HBS, HBI⟩ := bothVB u hum
        obtain ⟨uk, un, ut⟩ := u
        unfold encV at HBS HBI ⊢
        simp only [] at HBS HBI hu hum ⊢
        go_wp2_with fail
        refine (HBI _).mono ?_
        rintro e w24 ⟨rfl, hx⟩
        have hb : Below w23.heap.size w23 w24 := Below.trans (by go_grown) (hx.mono (by go_size))
        clear RAc0 RAc1 RAc2 RAz RAn RAm RBc0 RBc1 RBc2 RBz RBn RBm
        replace HC := hide ((unhide HC).below hb)
        replace RA := hide ((unhide RA).below hb)
        replace RB := hide ((unhide RB).below hb)
        have UB := hide (boxOf1 hx)
        replace HK := hide ((unhide HK).trans (hb.mono (unhide HK).size))
        clear hx hb
        have RAc0 := (unhide RA).2.1 0 _ rfl
        have RAc1 := (unhide RA).2.1 1 _ rfl
        have RAc2 := (unhide RA).2.1 2 _ rfl
        have RAz := (unhide RA).1
        have RAn : w21.heap.size ≠ w24.heap.size := by omega
        have RAm : w24.heap.size ≠ w21.heap.size := by omega
        have RBc0 := (unhide RB).2.1 0 _ rfl
        have RBc1 := (unhide RB).2.1 1 _ rfl
        have RBc2 := (unhide RB).2.1 2 _ rfl
        have RBz := (unhide RB).1
        have RBn : w22.heap.size ≠ w24.heap.size := by omega
        have RBm : w24.heap.size ≠ w22.heap.size := by omega
        have UBc0 := (unhide UB).2.1 0 _ rfl
        have UBc1 := (unhide UB).2.1 1 _ rfl
        have UBc2 := (unhide UB).2.1 2 _ rfl
        have UBz := (unhide UB).1
        have UBn : w23.heap.size ≠ w24.heap.size := by omega
        have UBm : w24.heap.size ≠ w23.heap.size := by omega
        go_wp2_with fail
        refine (HBS _).mono ?_
        rintro e w25 ⟨rfl, hx⟩
        have hb : Below w24.heap.size w24 w25 := Below.trans (by go_grown) (hx.mono (by go_size))
        clear RAc0 RAc1 RAc2 RAz RAn RAm RBc0 RBc1 RBc2 RBz RBn RBm UBc0 UBc1 UBc2 UBz UBn UBm
        replace HC := hide ((unhide HC).below hb)
        replace RA := hide ((unhide RA).below hb)
        replace RB := hide ((unhide RB).below hb)
        replace UB := hide ((unhide UB).below hb)
        replace HK := hide ((unhide HK).trans (hb.mono (unhide HK).size))
        clear hx hb
        have RAc0 := (unhide RA).2.1 0 _ rfl
        have RAc1 := (unhide RA).2.1 1 _ rfl
        have RAc2 := (unhide RA).2.1 2 _ rfl
        have RAz := (unhide RA).1
        have RAn : w21.heap.size ≠ w25.heap.size := by omega
        have RAm : w25.heap.size ≠ w21.heap.size := by omega
        have RBc0 := (unhide RB).2.1 0 _ rfl
        have RBc1 := (unhide RB).2.1 1 _ rfl
        have RBc2 := (unhide RB).2.1 2 _ rfl
        have RBz := (unhide RB).1
        have RBn : w22.heap.size ≠ w25.heap.size := by omega
        have RBm : w25.heap.size ≠ w22.heap.size := by omega
        have UBc0 := (unhide UB).2.1 0 _ rfl
        have UBc1 := (unhide UB).2.1 1 _ rfl
        have UBc2 := (unhide UB).2.1 2 _ rfl
        have UBz := (unhide UB).1
        have UBn : w23.heap.size ≠ w25.heap.size := by omega
        have UBm : w25.heap.size ≠ w23.heap.size := by omega
        clear HBI HBS HRS HRI
        rcases (unhide HRR) with ⟨rfl, A0, rfl, hA, hs6, hst, rfl⟩ | ⟨rfl, hv0, hE⟩
        · rw [unhide HRV] at hst
          have HVB := fun W => implVBYes ⟨rk, rn, rt⟩ W hst.1
          obtain ⟨hpl, hpe⟩ := piece hA hst
          have hb27 := bytes27 hst.1
          unfold encV at HVB
          simp only [] at HVB
          rw [unhide HRV]
          generalize bytesV ⟨rk, rn, rt⟩ = X at *
          have hle2 : (A0 : Int) + (X.size : Int) ≤ (s.size : Int) := by omega
          have hla : (A0 : Int) ≤ (A0 : Int) + (X.size : Int) := by omega
          have hA0 : (0 : Int) ≤ (A0 : Int) := by omega
          clear hst
          cases ok3
          all_goals
            go_wp2_with fail
            refine (HVB _).mono ?_
            rintro e w26 ⟨rfl, hx⟩
            have hb : Below w25.heap.size w25 w26 := Below.trans (by go_grown) (hx.mono (by go_size))
            clear RAc0 RAc1 RAc2 RAz RAn RAm RBc0 RBc1 RBc2 RBz RBn RBm UBc0 UBc1 UBc2 UBz UBn UBm
            replace HC := hide ((unhide HC).below hb)
            replace RA := hide ((unhide RA).below hb)
            replace RB := hide ((unhide RB).below hb)
            replace UB := hide ((unhide UB).below hb)
            replace HK := hide ((unhide HK).trans (hb.mono (unhide HK).size))
            clear hx hb
            have RAc0 := (unhide RA).2.1 0 _ rfl
            have RAc1 := (unhide RA).2.1 1 _ rfl
            have RAc2 := (unhide RA).2.1 2 _ rfl
            have RAz := (unhide RA).1
            have RAn : w21.heap.size ≠ w26.heap.size := by omega
            have RAm : w26.heap.size ≠ w21.heap.size := by omega
            have RBc0 := (unhide RB).2.1 0 _ rfl
            have RBc1 := (unhide RB).2.1 1 _ rfl
            have RBc2 := (unhide RB).2.1 2 _ rfl
            have RBz := (unhide RB).1
            have RBn : w22.heap.size ≠ w26.heap.size := by omega
            have RBm : w26.heap.size ≠ w22.heap.size := by omega
            have UBc0 := (unhide UB).2.1 0 _ rfl
            have UBc1 := (unhide UB).2.1 1 _ rfl
            have UBc2 := (unhide UB).2.1 2 _ rfl
            have UBz := (unhide UB).1
            have UBn : w23.heap.size ≠ w26.heap.size := by omega
            have UBm : w26.heap.size ≠ w23.heap.size := by omega
            have kf := unhide HK
            clear HVB
            go_wp2
            go_ret
            exact ⟨rfl, kf⟩
        · clear hE hv0
          have kf := unhide HK
          cases ok3
          all_goals
            go_wp2
            go_ret
            exact ⟨rfl, kf⟩
      · have hlei : ¬ (X.size : Int) ≤ (Y.size : Int) := by omega
        go_wp2_with fail
        refine (HRF _).mono ?_
        rintro e w9 ⟨rfl, hx⟩
        have hb : Below w8.heap.size w8 w9 := Below.trans (by go_grown) (hx.mono (by go_size))
        clear BAc0 BAc1 BAc2 BAz BAn BAm BBc0 BBc1 BBc2 BBz BBn BBm
        replace HC := hide ((unhide HC).below hb)
        replace BA := hide ((unhide BA).below hb)
        replace BB := hide ((unhide BB).below hb)
        replace HK := hide ((unhide HK).trans (hb.mono (unhide HK).size))
        clear hx hb
        have BAc0 := (unhide BA).2.1 0 _ rfl
        have BAc1 := (unhide BA).2.1 1 _ rfl
        have BAc2 := (unhide BA).2.1 2 _ rfl
        have BAz := (unhide BA).1
        have BAn : w1.heap.size ≠ w9.heap.size := by omega
        have BAm : w9.heap.size ≠ w1.heap.size := by omega
        have BBc0 := (unhide BB).2.1 0 _ rfl
        have BBc1 := (unhide BB).2.1 1 _ rfl
        have BBc2 := (unhide BB).2.1 2 _ rfl
        have BBz := (unhide BB).1
        have BBn : w1.heap.size + 1 ≠ w9.heap.size := by omega
        have BBm : w9.heap.size ≠ w1.heap.size + 1 := by omega
        have w9z : w9.heap.size ≠ w1.heap.size := by omega
        clear HVA HVB HBA HSW HRF
        go_wp2_with fail
        refine (drawReadVal _ n1 _ ((unhide HC).below ((Below.refl _ _).alloc (Nat.le_refl _) _))).mono ?_
        rintro e w20 ⟨s, at0, rfl, hs, hat, hx⟩
        have hb : Below w9.heap.size w9 w20 := Below.trans (by go_grown) (hx.mono (by go_size))
        clear BAc0 BAc1 BAc2 BAz BAn BAm BBc0 BBc1 BBc2 BBz BBn BBm
        replace HC := hide ((unhide HC).below hb)
        replace BA := hide ((unhide BA).below hb)
        replace BB := hide ((unhide BB).below hb)
        replace HK := hide ((unhide HK).trans (hb.mono (unhide HK).size))
        clear hx hb
        have BAc0 := (unhide BA).2.1 0 _ rfl
        have BAc1 := (unhide BA).2.1 1 _ rfl
        have BAc2 := (unhide BA).2.1 2 _ rfl
        have BAz := (unhide BA).1
        have BAn : w1.heap.size ≠ w20.heap.size := by omega
        have BAm : w20.heap.size ≠ w1.heap.size := by omega
        have BBc0 := (unhide BB).2.1 0 _ rfl
        have BBc1 := (unhide BB).2.1 1 _ rfl
        have BBc2 := (unhide BB).2.1 2 _ rfl
        have BBz := (unhide BB).1
        have BBn : w1.heap.size + 1 ≠ w20.heap.size := by omega
        have BBm : w20.heap.size ≠ w1.heap.size + 1 := by omega
        clear BAc0 BAc1 BAc2 BAz BAn BAm BBc0 BBc1 BBc2 BBz BBn BBm
        clear BA
        clear BB
        have hsm : s.size ≤ maxLen := by unfold maxLen; omega
        obtain ⟨rv, E, ok2, HRA, HRS, HRI⟩ := bothRV s at0 hsm (by omega)
        have HNE := fun W => neqVV rv.k rv.n rv.k rv.n rv.t rv.t W
        simp only [and_self, decide_true, Bool.not_true] at HNE
        have HRR := hide HRA
        clear HRA
        obtain ⟨rw1, hrw⟩ : ∃ z, z = rv := ⟨_, rfl⟩
        rw [← hrw] at HRR
        have HRV := hide hrw
        clear hrw
        obtain ⟨rk, rn, rt⟩ := rv
        unfold encV at HRS HRI
        simp only [] at HRS HRI HNE
        go_wp2_with fail
        refine (HRI _).mono ?_
        rintro e w21 ⟨rfl, hx⟩
        have hb : Below w20.heap.size w20 w21 := Below.trans (by go_grown) (hx.mono (by go_size))
        replace HC := hide ((unhide HC).below hb)
        replace HK := hide ((unhide HK).trans (hb.mono (unhide HK).size))
        clear hx hb
        go_wp2_with fail
        refine (HRS _).mono ?_
        rintro e w22 ⟨rfl, hx⟩
        have hb : Below w21.heap.size w21 w22 := Below.trans (by go_grown) (hx.mono (by go_size))
        replace HC := hide ((unhide HC).below hb)
        have RA := hide (boxOf1 hx)
        replace HK := hide ((unhide HK).trans (hb.mono (unhide HK).size))
        clear hx hb
        have RAc0 := (unhide RA).2.1 0 _ rfl
        have RAc1 := (unhide RA).2.1 1 _ rfl
        have RAc2 := (unhide RA).2.1 2 _ rfl
        have RAz := (unhide RA).1
        have RAn : w21.heap.size ≠ w22.heap.size := by omega
        have RAm : w22.heap.size ≠ w21.heap.size := by omega
        go_wp2_with fail
        refine (drawValB _ n1 _ ((unhide HC).below ((Below.refl _ _).alloc (Nat.le_refl _) _))).mono ?_
        rintro e w23 ⟨u, rfl, hu, hx⟩
        have hb : Below w22.heap.size w22 w23 := Below.trans (by go_grown) (hx.mono (by go_size))
        clear RAc0 RAc1 RAc2 RAz RAn RAm
        replace HC := hide ((unhide HC).below hb)
        replace RA := hide ((unhide RA).below hb)
        have RB := hide (boxOf1 hx)
        replace HK := hide ((unhide HK).trans (hb.mono (unhide HK).size))
        clear hx hb
        have RAc0 := (unhide RA).2.1 0 _ rfl
        have RAc1 := (unhide RA).2.1 1 _ rfl
        have RAc2 := (unhide RA).2.1 2 _ rfl
        have RAz := (unhide RA).1
        have RAn : w21.heap.size ≠ w23.heap.size := by omega
        have RAm : w23.heap.size ≠ w21.heap.size := by omega
        have RBc0 := (unhide RB).2.1 0 _ rfl
        have RBc1 := (unhide RB).2.1 1 _ rfl
        have RBc2 := (unhide RB).2.1 2 _ rfl
        have RBz := (unhide RB).1
        have RBn : w22.heap.size ≠ w23.heap.size := by omega
        have RBm : w23.heap.size ≠ w22.heap.size := by omega
        have hum : u.t.size ≤ maxLen := by unfold maxLen; omega
        obtain ⟨us, ok3, HBS, HBI⟩ := bothVB u hum
        obtain ⟨uk, un, ut⟩ := u
        unfold encV at HBS HBI ⊢
        simp only [] at HBS HBI hu hum ⊢
        go_wp2_with fail
        refine (HBI _).mono ?_
        rintro e w24 ⟨rfl, hx⟩
        have hb : Below w23.heap.size w23 w24 := Below.trans (by go_grown) (hx.mono (by go_size))
        clear RAc0 RAc1 RAc2 RAz RAn RAm RBc0 RBc1 RBc2 RBz RBn RBm
        replace HC := hide ((unhide HC).below hb)
        replace RA := hide ((unhide RA).below hb)
        replace RB := hide ((unhide RB).below hb)
        have UB := hide (boxOf1 hx)
        replace HK := hide ((unhide HK).trans (hb.mono (unhide HK).size))
        clear hx hb
        have RAc0 := (unhide RA).2.1 0 _ rfl
        have RAc1 := (unhide RA).2.1 1 _ rfl
        have RAc2 := (unhide RA).2.1 2 _ rfl
        have RAz := (unhide RA).1
        have RAn : w21.heap.size ≠ w24.heap.size := by omega
        have RAm : w24.heap.size ≠ w21.heap.size := by omega
        have RBc0 := (unhide RB).2.1 0 _ rfl
        have RBc1 := (unhide RB).2.1 1 _ rfl
        have RBc2 := (unhide RB).2.1 2 _ rfl
        have RBz := (unhide RB).1
        have RBn : w22.heap.size ≠ w24.heap.size := by omega
        have RBm : w24.heap.size ≠ w22.heap.size := by omega
        have UBc0 := (unhide UB).2.1 0 _ rfl
        have UBc1 := (unhide UB).2.1 1 _ rfl
        have UBc2 := (unhide UB).2.1 2 _ rfl
        have UBz := (unhide UB).1
        have UBn : w23.heap.size ≠ w24.heap.size := by omega
        have UBm : w24.heap.size ≠ w23.heap.size := by omega
        go_wp2_with fail
        refine (HBS _).mono ?_
        rintro e w25 ⟨rfl, hx⟩
        have hb : Below w24.heap.size w24 w25 := Below.trans (by go_grown) (hx.mono (by go_size))
        clear RAc0 RAc1 RAc2 RAz RAn RAm RBc0 RBc1 RBc2 RBz RBn RBm UBc0 UBc1 UBc2 UBz UBn UBm
        replace HC := hide ((unhide HC).below hb)
        replace RA := hide ((unhide RA).below hb)
        replace RB := hide ((unhide RB).below hb)
        replace UB := hide ((unhide UB).below hb)
        replace HK := hide ((unhide HK).trans (hb.mono (unhide HK).size))
        clear hx hb
        have RAc0 := (unhide RA).2.1 0 _ rfl
        have RAc1 := (unhide RA).2.1 1 _ rfl
        have RAc2 := (unhide RA).2.1 2 _ rfl
        have RAz := (unhide RA).1
        have RAn : w21.heap.size ≠ w25.heap.size := by omega
        have RAm : w25.heap.size ≠ w21.heap.size := by omega
        have RBc0 := (unhide RB).2.1 0 _ rfl
        have RBc1 := (unhide RB).2.1 1 _ rfl
        have RBc2 := (unhide RB).2.1 2 _ rfl
        have RBz := (unhide RB).1
        have RBn : w22.heap.size ≠ w25.heap.size := by omega
        have RBm : w25.heap.size ≠ w22.heap.size := by omega
        have UBc0 := (unhide UB).2.1 0 _ rfl
        have UBc1 := (unhide UB).2.1 1 _ rfl
        have UBc2 := (unhide UB).2.1 2 _ rfl
        have UBz := (unhide UB).1
        have UBn : w23.heap.size ≠ w25.heap.size := by omega
        have UBm : w25.heap.size ≠ w23.heap.size := by omega
        clear HBI HBS HRS HRI
        rcases (unhide HRR) with ⟨rfl, A0, rfl, hA, hs6, hst, rfl⟩ | ⟨rfl, hv0, hE⟩
        · rw [unhide HRV] at hst
          have HVB := fun W => implVBYes ⟨rk, rn, rt⟩ W hst.1
          obtain ⟨hpl, hpe⟩ := piece hA hst
          have hb27 := bytes27 hst.1
          unfold encV at HVB
          simp only [] at HVB
          rw [unhide HRV]
          generalize bytesV ⟨rk, rn, rt⟩ = X at *
          have hle2 : (A0 : Int) + (X.size : Int) ≤ (s.size : Int) := by omega
          have hla : (A0 : Int) ≤ (A0 : Int) + (X.size : Int) := by omega
          have hA0 : (0 : Int) ≤ (A0 : Int) := by omega
          clear hst
          cases ok3
          all_goals
            go_wp2_with fail
            refine (HVB _).mono ?_
            rintro e w26 ⟨rfl, hx⟩
            have hb : Below w25.heap.size w25 w26 := Below.trans (by go_grown) (hx.mono (by go_size))
            clear RAc0 RAc1 RAc2 RAz RAn RAm RBc0 RBc1 RBc2 RBz RBn RBm UBc0 UBc1 UBc2 UBz UBn UBm
            replace HC := hide ((unhide HC).below hb)
            replace RA := hide ((unhide RA).below hb)
            replace RB := hide ((unhide RB).below hb)
            replace UB := hide ((unhide UB).below hb)
            replace HK := hide ((unhide HK).trans (hb.mono (unhide HK).size))
            clear hx hb
            have RAc0 := (unhide RA).2.1 0 _ rfl
            have RAc1 := (unhide RA).2.1 1 _ rfl
            have RAc2 := (unhide RA).2.1 2 _ rfl
            have RAz := (unhide RA).1
            have RAn : w21.heap.size ≠ w26.heap.size := by omega
            have RAm : w26.heap.size ≠ w21.heap.size := by omega
            have RBc0 := (unhide RB).2.1 0 _ rfl
            have RBc1 := (unhide RB).2.1 1 _ rfl
            have RBc2 := (unhide RB).2.1 2 _ rfl
            have RBz := (unhide RB).1
            have RBn : w22.heap.size ≠ w26.heap.size := by omega
            have RBm : w26.heap.size ≠ w22.heap.size := by omega
            have UBc0 := (unhide UB).2.1 0 _ rfl
            have UBc1 := (unhide UB).2.1 1 _ rfl
            have UBc2 := (unhide UB).2.1 2 _ rfl
            have UBz := (unhide UB).1
            have UBn : w23.heap.size ≠ w26.heap.size := by omega
            have UBm : w26.heap.size ≠ w23.heap.size := by omega
            have kf := unhide HK
            clear HVB
            go_wp2
            go_ret
            exact ⟨rfl, kf⟩
        · clear hE hv0
          have kf := unhide HK
          cases ok3
          all_goals
            go_wp2
            go_ret
            exact ⟨rfl, kf⟩
    · have hcc := hcc2
      clear hcc2
      have HBA := fun W => implCVYes ⟨bk, bn, btx⟩ ⟨ak, an, atx⟩ W hgb hga
      rw [show cmpV ⟨bk, bn, btx⟩ ⟨ak, an, atx⟩ = 0 from by rw [cmpV_neg hga hgb, hcc]; try rfl] at HBA
      have hab := cmpV_eq hcc
      have HEQ := fun W => eqlVV ak an bk bn atx btx W
      rw [decide_eq_true (show ak = bk ∧ an = bn ∧ atx = btx from by cases hab; exact ⟨rfl, rfl, rfl⟩)] at HEQ
      have HVA := fun W => implVBYes ⟨ak, an, atx⟩ W hga
      have HVB := fun W => implVBYes ⟨bk, bn, btx⟩ W hgb
      have HSW := fun W => sameWay (bytesV ⟨ak, an, atx⟩) (bytesV ⟨bk, bn, btx⟩) W
      rw [same_way hga hgb, hcc] at HSW
      have hx27 := bytes27 hga
      have hy27 := bytes27 hgb
      have hx1 := bytes1 hga
      have HRF := fun W => implRVat (bytesV ⟨ak, an, atx⟩ ++ bytesV ⟨bk, bn, btx⟩) 0 ⟨ak, an, atx⟩ W (by rw [ByteArray.size_append]; omega) (by rw [ByteArray.size_append]; omega) (stands_front hga)
      simp only [show ((0 : Nat) : Int) = 0 from rfl, Int.zero_add] at HRF
      have HNA := fun W => neqVV ak an ak an atx atx W
      simp only [and_self, decide_true, Bool.not_true] at HNA
      unfold encV at HVA HVB HBA HRF
      simp only [] at HVA HVB HBA HRF
      generalize bytesV ⟨ak, an, atx⟩ = X at *
      generalize bytesV ⟨bk, bn, btx⟩ = Y at *
      clear hga hgb hcc hab HCI
      clear BAc0 BAc1 BAc2 BAz BAn BAm BBc0 BBc1 BBc2 BBz BBn BBm
      replace HC := hide ((unhide HC).below hb)
      replace BA := hide ((unhide BA).below hb)
      replace BB := hide ((unhide BB).below hb)
      replace HK := hide ((unhide HK).trans (hb.mono (unhide HK).size))
      clear hb b5
      have BAc0 := (unhide BA).2.1 0 _ rfl
      have BAc1 := (unhide BA).2.1 1 _ rfl
      have BAc2 := (unhide BA).2.1 2 _ rfl
      have BAz := (unhide BA).1
      have BAn : w1.heap.size ≠ w5.heap.size := by omega
      have BAm : w5.heap.size ≠ w1.heap.size := by omega
      have BBc0 := (unhide BB).2.1 0 _ rfl
      have BBc1 := (unhide BB).2.1 1 _ rfl
      have BBc2 := (unhide BB).2.1 2 _ rfl
      have BBz := (unhide BB).1
      have BBn : w1.heap.size + 1 ≠ w5.heap.size := by omega
      have BBm : w5.heap.size ≠ w1.heap.size + 1 := by omega
      go_wp2_with fail
      refine (HVA _).mono ?_
      rintro e w6 ⟨rfl, hx⟩
      have hb : Below w5.heap.size w5 w6 := Below.trans (by go_grown) (hx.mono (by go_size))
      clear BAc0 BAc1 BAc2 BAz BAn BAm BBc0 BBc1 BBc2 BBz BBn BBm
      replace HC := hide ((unhide HC).below hb)
      replace BA := hide ((unhide BA).below hb)
      replace BB := hide ((unhide BB).below hb)
      replace HK := hide ((unhide HK).trans (hb.mono (unhide HK).size))
      clear hx hb
      have BAc0 := (unhide BA).2.1 0 _ rfl
      have BAc1 := (unhide BA).2.1 1 _ rfl
      have BAc2 := (unhide BA).2.1 2 _ rfl
      have BAz := (unhide BA).1
      have BAn : w1.heap.size ≠ w6.heap.size := by omega
      have BAm : w6.heap.size ≠ w1.heap.size := by omega
      have BBc0 := (unhide BB).2.1 0 _ rfl
      have BBc1 := (unhide BB).2.1 1 _ rfl
      have BBc2 := (unhide BB).2.1 2 _ rfl
      have BBz := (unhide BB).1
      have BBn : w1.heap.size + 1 ≠ w6.heap.size := by omega
      have BBm : w6.heap.size ≠ w1.heap.size + 1 := by omega
      go_wp2_with fail
      refine (HVB _).mono ?_
      rintro e w7 ⟨rfl, hx⟩
      have hb : Below w6.heap.size w6 w7 := Below.trans (by go_grown) (hx.mono (by go_size))
      clear BAc0 BAc1 BAc2 BAz BAn BAm BBc0 BBc1 BBc2 BBz BBn BBm
      replace HC := hide ((unhide HC).below hb)
      replace BA := hide ((unhide BA).below hb)
      replace BB := hide ((unhide BB).below hb)
      replace HK := hide ((unhide HK).trans (hb.mono (unhide HK).size))
      clear hx hb
      have BAc0 := (unhide BA).2.1 0 _ rfl
      have BAc1 := (unhide BA).2.1 1 _ rfl
      have BAc2 := (unhide BA).2.1 2 _ rfl
      have BAz := (unhide BA).1
      have BAn : w1.heap.size ≠ w7.heap.size := by omega
      have BAm : w7.heap.size ≠ w1.heap.size := by omega
      have BBc0 := (unhide BB).2.1 0 _ rfl
      have BBc1 := (unhide BB).2.1 1 _ rfl
      have BBc2 := (unhide BB).2.1 2 _ rfl
      have BBz := (unhide BB).1
      have BBn : w1.heap.size + 1 ≠ w7.heap.size := by omega
      have BBm : w7.heap.size ≠ w1.heap.size + 1 := by omega
      go_wp2_with fail
      refine (HBA _).mono ?_
      rintro e w8 ⟨rfl, hx⟩
      have hb : Below w7.heap.size w7 w8 := Below.trans (by go_grown) (hx.mono (by go_size))
      clear BAc0 BAc1 BAc2 BAz BAn BAm BBc0 BBc1 BBc2 BBz BBn BBm
      replace HC := hide ((unhide HC).below hb)
      replace BA := hide ((unhide BA).below hb)
      replace BB := hide ((unhide BB).below hb)
      replace HK := hide ((unhide HK).trans (hb.mono (unhide HK).size))
      clear hx hb
      have BAc0 := (unhide BA).2.1 0 _ rfl
      have BAc1 := (unhide BA).2.1 1 _ rfl
      have BAc2 := (unhide BA).2.1 2 _ rfl
      have BAz := (unhide BA).1
      have BAn : w1.heap.size ≠ w8.heap.size := by omega
      have BAm : w8.heap.size ≠ w1.heap.size := by omega
      have BBc0 := (unhide BB).2.1 0 _ rfl
      have BBc1 := (unhide BB).2.1 1 _ rfl
      have BBc2 := (unhide BB).2.1 2 _ rfl
      have BBz := (unhide BB).1
      have BBn : w1.heap.size + 1 ≠ w8.heap.size := by omega
      have BBm : w8.heap.size ≠ w1.heap.size + 1 := by omega
      go_wp2_with fail
      refine (HSW _).mono ?_
      rintro e wz ⟨rfl, hwz⟩
      subst wz
      go_wp2_with fail
      refine (HRF _).mono ?_
      rintro e w9 ⟨rfl, hx⟩
      have hb : Below w8.heap.size w8 w9 := Below.trans (by go_grown) (hx.mono (by go_size))
      clear BAc0 BAc1 BAc2 BAz BAn BAm BBc0 BBc1 BBc2 BBz BBn BBm
      replace HC := hide ((unhide HC).below hb)
      replace BA := hide ((unhide BA).below hb)
      replace BB := hide ((unhide BB).below hb)
      replace HK := hide ((unhide HK).trans (hb.mono (unhide HK).size))
      clear hx hb
      have BAc0 := (unhide BA).2.1 0 _ rfl
      have BAc1 := (unhide BA).2.1 1 _ rfl
      have BAc2 := (unhide BA).2.1 2 _ rfl
      have BAz := (unhide BA).1
      have BAn : w1.heap.size ≠ w9.heap.size := by omega
      have BAm : w9.heap.size ≠ w1.heap.size := by omega
      have BBc0 := (unhide BB).2.1 0 _ rfl
      have BBc1 := (unhide BB).2.1 1 _ rfl
      have BBc2 := (unhide BB).2.1 2 _ rfl
      have BBz := (unhide BB).1
      have BBn : w1.heap.size + 1 ≠ w9.heap.size := by omega
      have BBm : w9.heap.size ≠ w1.heap.size + 1 := by omega
      have w9z : w9.heap.size ≠ w1.heap.size := by omega
      clear HVA HVB HBA HSW HRF
      go_wp2_with fail
      refine (drawReadVal _ n1 _ ((unhide HC).below ((Below.refl _ _).alloc (Nat.le_refl _) _))).mono ?_
      rintro e w20 ⟨s, at0, rfl, hs, hat, hx⟩
      have hb : Below w9.heap.size w9 w20 := Below.trans (by go_grown) (hx.mono (by go_size))
      clear BAc0 BAc1 BAc2 BAz BAn BAm BBc0 BBc1 BBc2 BBz BBn BBm
      replace HC := hide ((unhide HC).below hb)
      replace BA := hide ((unhide BA).below hb)
      replace BB := hide ((unhide BB).below hb)
      replace HK := hide ((unhide HK).trans (hb.mono (unhide HK).size))
      clear hx hb
      have BAc0 := (unhide BA).2.1 0 _ rfl
      have BAc1 := (unhide BA).2.1 1 _ rfl
      have BAc2 := (unhide BA).2.1 2 _ rfl
      have BAz := (unhide BA).1
      have BAn : w1.heap.size ≠ w20.heap.size := by omega
      have BAm : w20.heap.size ≠ w1.heap.size := by omega
      have BBc0 := (unhide BB).2.1 0 _ rfl
      have BBc1 := (unhide BB).2.1 1 _ rfl
      have BBc2 := (unhide BB).2.1 2 _ rfl
      have BBz := (unhide BB).1
      have BBn : w1.heap.size + 1 ≠ w20.heap.size := by omega
      have BBm : w20.heap.size ≠ w1.heap.size + 1 := by omega
      clear BAc0 BAc1 BAc2 BAz BAn BAm BBc0 BBc1 BBc2 BBz BBn BBm
      clear BA
      clear BB
      have hsm : s.size ≤ maxLen := by unfold maxLen; omega
      obtain ⟨rv, E, ok2, HRA, HRS, HRI⟩ := bothRV s at0 hsm (by omega)
      have HNE := fun W => neqVV rv.k rv.n rv.k rv.n rv.t rv.t W
      simp only [and_self, decide_true, Bool.not_true] at HNE
      have HRR := hide HRA
      clear HRA
      obtain ⟨rw1, hrw⟩ : ∃ z, z = rv := ⟨_, rfl⟩
      rw [← hrw] at HRR
      have HRV := hide hrw
      clear hrw
      obtain ⟨rk, rn, rt⟩ := rv
      unfold encV at HRS HRI
      simp only [] at HRS HRI HNE
      go_wp2_with fail
      refine (HRI _).mono ?_
      rintro e w21 ⟨rfl, hx⟩
      have hb : Below w20.heap.size w20 w21 := Below.trans (by go_grown) (hx.mono (by go_size))
      replace HC := hide ((unhide HC).below hb)
      replace HK := hide ((unhide HK).trans (hb.mono (unhide HK).size))
      clear hx hb
      go_wp2_with fail
      refine (HRS _).mono ?_
      rintro e w22 ⟨rfl, hx⟩
      have hb : Below w21.heap.size w21 w22 := Below.trans (by go_grown) (hx.mono (by go_size))
      replace HC := hide ((unhide HC).below hb)
      have RA := hide (boxOf1 hx)
      replace HK := hide ((unhide HK).trans (hb.mono (unhide HK).size))
      clear hx hb
      have RAc0 := (unhide RA).2.1 0 _ rfl
      have RAc1 := (unhide RA).2.1 1 _ rfl
      have RAc2 := (unhide RA).2.1 2 _ rfl
      have RAz := (unhide RA).1
      have RAn : w21.heap.size ≠ w22.heap.size := by omega
      have RAm : w22.heap.size ≠ w21.heap.size := by omega
      go_wp2_with fail
      refine (drawValB _ n1 _ ((unhide HC).below ((Below.refl _ _).alloc (Nat.le_refl _) _))).mono ?_
      rintro e w23 ⟨u, rfl, hu, hx⟩
      have hb : Below w22.heap.size w22 w23 := Below.trans (by go_grown) (hx.mono (by go_size))
      clear RAc0 RAc1 RAc2 RAz RAn RAm
      replace HC := hide ((unhide HC).below hb)
      replace RA := hide ((unhide RA).below hb)
      have RB := hide (boxOf1 hx)
      replace HK := hide ((unhide HK).trans (hb.mono (unhide HK).size))
      clear hx hb
      have RAc0 := (unhide RA).2.1 0 _ rfl
      have RAc1 := (unhide RA).2.1 1 _ rfl
      have RAc2 := (unhide RA).2.1 2 _ rfl
      have RAz := (unhide RA).1
      have RAn : w21.heap.size ≠ w23.heap.size := by omega
      have RAm : w23.heap.size ≠ w21.heap.size := by omega
      have RBc0 := (unhide RB).2.1 0 _ rfl
      have RBc1 := (unhide RB).2.1 1 _ rfl
      have RBc2 := (unhide RB).2.1 2 _ rfl
      have RBz := (unhide RB).1
      have RBn : w22.heap.size ≠ w23.heap.size := by omega
      have RBm : w23.heap.size ≠ w22.heap.size := by omega
      have hum : u.t.size ≤ maxLen := by unfold maxLen; omega
      obtain ⟨us, ok3, HBS, HBI⟩ := bothVB u hum
      obtain ⟨uk, un, ut⟩ := u
      unfold encV at HBS HBI ⊢
      simp only [] at HBS HBI hu hum ⊢
      go_wp2_with fail
      refine (HBI _).mono ?_
      rintro e w24 ⟨rfl, hx⟩
      have hb : Below w23.heap.size w23 w24 := Below.trans (by go_grown) (hx.mono (by go_size))
      clear RAc0 RAc1 RAc2 RAz RAn RAm RBc0 RBc1 RBc2 RBz RBn RBm
      replace HC := hide ((unhide HC).below hb)
      replace RA := hide ((unhide RA).below hb)
      replace RB := hide ((unhide RB).below hb)
      have UB := hide (boxOf1 hx)
      replace HK := hide ((unhide HK).trans (hb.mono (unhide HK).size))
      clear hx hb
      have RAc0 := (unhide RA).2.1 0 _ rfl
      have RAc1 := (unhide RA).2.1 1 _ rfl
      have RAc2 := (unhide RA).2.1 2 _ rfl
      have RAz := (unhide RA).1
      have RAn : w21.heap.size ≠ w24.heap.size := by omega
      have RAm : w24.heap.size ≠ w21.heap.size := by omega
      have RBc0 := (unhide RB).2.1 0 _ rfl
      have RBc1 := (unhide RB).2.1 1 _ rfl
      have RBc2 := (unhide RB).2.1 2 _ rfl
      have RBz := (unhide RB).1
      have RBn : w22.heap.size ≠ w24.heap.size := by omega
      have RBm : w24.heap.size ≠ w22.heap.size := by omega
      have UBc0 := (unhide UB).2.1 0 _ rfl
      have UBc1 := (unhide UB).2.1 1 _ rfl
      have UBc2 := (unhide UB).2.1 2 _ rfl
      have UBz := (unhide UB).1
      have UBn : w23.heap.size ≠ w24.heap.size := by omega
      have UBm : w24.heap.size ≠ w23.heap.size := by omega
      go_wp2_with fail
      refine (HBS _).mono ?_
      rintro e w25 ⟨rfl, hx⟩
      have hb : Below w24.heap.size w24 w25 := Below.trans (by go_grown) (hx.mono (by go_size))
      clear RAc0 RAc1 RAc2 RAz RAn RAm RBc0 RBc1 RBc2 RBz RBn RBm UBc0 UBc1 UBc2 UBz UBn UBm
      replace HC := hide ((unhide HC).below hb)
      replace RA := hide ((unhide RA).below hb)
      replace RB := hide ((unhide RB).below hb)
      replace UB := hide ((unhide UB).below hb)
      replace HK := hide ((unhide HK).trans (hb.mono (unhide HK).size))
      clear hx hb
      have RAc0 := (unhide RA).2.1 0 _ rfl
      have RAc1 := (unhide RA).2.1 1 _ rfl
      have RAc2 := (unhide RA).2.1 2 _ rfl
      have RAz := (unhide RA).1
      have RAn : w21.heap.size ≠ w25.heap.size := by omega
      have RAm : w25.heap.size ≠ w21.heap.size := by omega
      have RBc0 := (unhide RB).2.1 0 _ rfl
      have RBc1 := (unhide RB).2.1 1 _ rfl
      have RBc2 := (unhide RB).2.1 2 _ rfl
      have RBz := (unhide RB).1
      have RBn : w22.heap.size ≠ w25.heap.size := by omega
      have RBm : w25.heap.size ≠ w22.heap.size := by omega
      have UBc0 := (unhide UB).2.1 0 _ rfl
      have UBc1 := (unhide UB).2.1 1 _ rfl
      have UBc2 := (unhide UB).2.1 2 _ rfl
      have UBz := (unhide UB).1
      have UBn : w23.heap.size ≠ w25.heap.size := by omega
      have UBm : w25.heap.size ≠ w23.heap.size := by omega
      clear HBI HBS HRS HRI
      rcases (unhide HRR) with ⟨rfl, A0, rfl, hA, hs6, hst, rfl⟩ | ⟨rfl, hv0, hE⟩
      · rw [unhide HRV] at hst
        have HVB := fun W => implVBYes ⟨rk, rn, rt⟩ W hst.1
        obtain ⟨hpl, hpe⟩ := piece hA hst
        have hb27 := bytes27 hst.1
        unfold encV at HVB
        simp only [] at HVB
        rw [unhide HRV]
        generalize bytesV ⟨rk, rn, rt⟩ = X at *
        have hle2 : (A0 : Int) + (X.size : Int) ≤ (s.size : Int) := by omega
        have hla : (A0 : Int) ≤ (A0 : Int) + (X.size : Int) := by omega
        have hA0 : (0 : Int) ≤ (A0 : Int) := by omega
        clear hst
        cases ok3
        all_goals
          go_wp2_with fail
          refine (HVB _).mono ?_
          rintro e w26 ⟨rfl, hx⟩
          have hb : Below w25.heap.size w25 w26 := Below.trans (by go_grown) (hx.mono (by go_size))
          clear RAc0 RAc1 RAc2 RAz RAn RAm RBc0 RBc1 RBc2 RBz RBn RBm UBc0 UBc1 UBc2 UBz UBn UBm
          replace HC := hide ((unhide HC).below hb)
          replace RA := hide ((unhide RA).below hb)
          replace RB := hide ((unhide RB).below hb)
          replace UB := hide ((unhide UB).below hb)
          replace HK := hide ((unhide HK).trans (hb.mono (unhide HK).size))
          clear hx hb
          have RAc0 := (unhide RA).2.1 0 _ rfl
          have RAc1 := (unhide RA).2.1 1 _ rfl
          have RAc2 := (unhide RA).2.1 2 _ rfl
          have RAz := (unhide RA).1
          have RAn : w21.heap.size ≠ w26.heap.size := by omega
          have RAm : w26.heap.size ≠ w21.heap.size := by omega
          have RBc0 := (unhide RB).2.1 0 _ rfl
          have RBc1 := (unhide RB).2.1 1 _ rfl
          have RBc2 := (unhide RB).2.1 2 _ rfl
          have RBz := (unhide RB).1
          have RBn : w22.heap.size ≠ w26.heap.size := by omega
          have RBm : w26.heap.size ≠ w22.heap.size := by omega
          have UBc0 := (unhide UB).2.1 0 _ rfl
          have UBc1 := (unhide UB).2.1 1 _ rfl
          have UBc2 := (unhide UB).2.1 2 _ rfl
          have UBz := (unhide UB).1
          have UBn : w23.heap.size ≠ w26.heap.size := by omega
          have UBm : w26.heap.size ≠ w23.heap.size := by omega
          have kf := unhide HK
          clear HVB
          go_wp2
          go_ret
          exact ⟨rfl, kf⟩
      · clear hE hv0
        have kf := unhide HK
        cases ok3
        all_goals
          go_wp2
          go_ret
          exact ⟨rfl, kf⟩
    · have hcc := hcc2
      clear hcc2
      have HBA := fun W => implCVYes ⟨bk, bn, btx⟩ ⟨ak, an, atx⟩ W hgb hga
      rw [show cmpV ⟨bk, bn, btx⟩ ⟨ak, an, atx⟩ = -1 from by rw [cmpV_neg hga hgb, hcc]; try rfl] at HBA
      have hab : (⟨ak, an, atx⟩ : VV) ≠ ⟨bk, bn, btx⟩ := fun e => by rw [e, cmpV_refl] at hcc; omega
      have HEQ := fun W => eqlVV ak an bk bn atx btx W
      rw [decide_eq_false (show ¬ (ak = bk ∧ an = bn ∧ atx = btx) from fun e => hab (by rw [e.1, e.2.1, e.2.2]))] at HEQ
      have HNF := hide (fun h => no_front hga hgb hab h)
      have HVA := fun W => implVBYes ⟨ak, an, atx⟩ W hga
      have HVB := fun W => implVBYes ⟨bk, bn, btx⟩ W hgb
      have HSW := fun W => sameWay (bytesV ⟨ak, an, atx⟩) (bytesV ⟨bk, bn, btx⟩) W
      rw [same_way hga hgb, hcc] at HSW
      have hx27 := bytes27 hga
      have hy27 := bytes27 hgb
      have hx1 := bytes1 hga
      have HRF := fun W => implRVat (bytesV ⟨ak, an, atx⟩ ++ bytesV ⟨bk, bn, btx⟩) 0 ⟨ak, an, atx⟩ W (by rw [ByteArray.size_append]; omega) (by rw [ByteArray.size_append]; omega) (stands_front hga)
      simp only [show ((0 : Nat) : Int) = 0 from rfl, Int.zero_add] at HRF
      have HNA := fun W => neqVV ak an ak an atx atx W
      simp only [and_self, decide_true, Bool.not_true] at HNA
      unfold encV at HVA HVB HBA HRF
      simp only [] at HVA HVB HBA HRF
      generalize bytesV ⟨ak, an, atx⟩ = X at *
      generalize bytesV ⟨bk, bn, btx⟩ = Y at *
      clear hga hgb hcc hab HCI
      clear BAc0 BAc1 BAc2 BAz BAn BAm BBc0 BBc1 BBc2 BBz BBn BBm
      replace HC := hide ((unhide HC).below hb)
      replace BA := hide ((unhide BA).below hb)
      replace BB := hide ((unhide BB).below hb)
      replace HK := hide ((unhide HK).trans (hb.mono (unhide HK).size))
      clear hb b5
      have BAc0 := (unhide BA).2.1 0 _ rfl
      have BAc1 := (unhide BA).2.1 1 _ rfl
      have BAc2 := (unhide BA).2.1 2 _ rfl
      have BAz := (unhide BA).1
      have BAn : w1.heap.size ≠ w5.heap.size := by omega
      have BAm : w5.heap.size ≠ w1.heap.size := by omega
      have BBc0 := (unhide BB).2.1 0 _ rfl
      have BBc1 := (unhide BB).2.1 1 _ rfl
      have BBc2 := (unhide BB).2.1 2 _ rfl
      have BBz := (unhide BB).1
      have BBn : w1.heap.size + 1 ≠ w5.heap.size := by omega
      have BBm : w5.heap.size ≠ w1.heap.size + 1 := by omega
      go_wp2_with fail
      refine (HVA _).mono ?_
      rintro e w6 ⟨rfl, hx⟩
      have hb : Below w5.heap.size w5 w6 := Below.trans (by go_grown) (hx.mono (by go_size))
      clear BAc0 BAc1 BAc2 BAz BAn BAm BBc0 BBc1 BBc2 BBz BBn BBm
      replace HC := hide ((unhide HC).below hb)
      replace BA := hide ((unhide BA).below hb)
      replace BB := hide ((unhide BB).below hb)
      replace HK := hide ((unhide HK).trans (hb.mono (unhide HK).size))
      clear hx hb
      have BAc0 := (unhide BA).2.1 0 _ rfl
      have BAc1 := (unhide BA).2.1 1 _ rfl
      have BAc2 := (unhide BA).2.1 2 _ rfl
      have BAz := (unhide BA).1
      have BAn : w1.heap.size ≠ w6.heap.size := by omega
      have BAm : w6.heap.size ≠ w1.heap.size := by omega
      have BBc0 := (unhide BB).2.1 0 _ rfl
      have BBc1 := (unhide BB).2.1 1 _ rfl
      have BBc2 := (unhide BB).2.1 2 _ rfl
      have BBz := (unhide BB).1
      have BBn : w1.heap.size + 1 ≠ w6.heap.size := by omega
      have BBm : w6.heap.size ≠ w1.heap.size + 1 := by omega
      go_wp2_with fail
      refine (HVB _).mono ?_
      rintro e w7 ⟨rfl, hx⟩
      have hb : Below w6.heap.size w6 w7 := Below.trans (by go_grown) (hx.mono (by go_size))
      clear BAc0 BAc1 BAc2 BAz BAn BAm BBc0 BBc1 BBc2 BBz BBn BBm
      replace HC := hide ((unhide HC).below hb)
      replace BA := hide ((unhide BA).below hb)
      replace BB := hide ((unhide BB).below hb)
      replace HK := hide ((unhide HK).trans (hb.mono (unhide HK).size))
      clear hx hb
      have BAc0 := (unhide BA).2.1 0 _ rfl
      have BAc1 := (unhide BA).2.1 1 _ rfl
      have BAc2 := (unhide BA).2.1 2 _ rfl
      have BAz := (unhide BA).1
      have BAn : w1.heap.size ≠ w7.heap.size := by omega
      have BAm : w7.heap.size ≠ w1.heap.size := by omega
      have BBc0 := (unhide BB).2.1 0 _ rfl
      have BBc1 := (unhide BB).2.1 1 _ rfl
      have BBc2 := (unhide BB).2.1 2 _ rfl
      have BBz := (unhide BB).1
      have BBn : w1.heap.size + 1 ≠ w7.heap.size := by omega
      have BBm : w7.heap.size ≠ w1.heap.size + 1 := by omega
      go_wp2_with fail
      refine (HBA _).mono ?_
      rintro e w8 ⟨rfl, hx⟩
      have hb : Below w7.heap.size w7 w8 := Below.trans (by go_grown) (hx.mono (by go_size))
      clear BAc0 BAc1 BAc2 BAz BAn BAm BBc0 BBc1 BBc2 BBz BBn BBm
      replace HC := hide ((unhide HC).below hb)
      replace BA := hide ((unhide BA).below hb)
      replace BB := hide ((unhide BB).below hb)
      replace HK := hide ((unhide HK).trans (hb.mono (unhide HK).size))
      clear hx hb
      have BAc0 := (unhide BA).2.1 0 _ rfl
      have BAc1 := (unhide BA).2.1 1 _ rfl
      have BAc2 := (unhide BA).2.1 2 _ rfl
      have BAz := (unhide BA).1
      have BAn : w1.heap.size ≠ w8.heap.size := by omega
      have BAm : w8.heap.size ≠ w1.heap.size := by omega
      have BBc0 := (unhide BB).2.1 0 _ rfl
      have BBc1 := (unhide BB).2.1 1 _ rfl
      have BBc2 := (unhide BB).2.1 2 _ rfl
      have BBz := (unhide BB).1
      have BBn : w1.heap.size + 1 ≠ w8.heap.size := by omega
      have BBm : w8.heap.size ≠ w1.heap.size + 1 := by omega
      go_wp2_with fail
      refine (HSW _).mono ?_
      rintro e wz ⟨rfl, hwz⟩
      subst wz
      by_cases hle : X.size ≤ Y.size
      · have hnf := (unhide HNF) hle
        have hlei : (X.size : Int) ≤ (Y.size : Int) := by omega
        go_wp2_with fail
        refine (HRF _).mono ?_
        rintro e w9 ⟨rfl, hx⟩
        have hb : Below w8.heap.size w8 w9 := Below.trans (by go_grown) (hx.mono (by go_size))
        clear BAc0 BAc1 BAc2 BAz BAn BAm BBc0 BBc1 BBc2 BBz BBn BBm
        replace HC := hide ((unhide HC).below hb)
        replace BA := hide ((unhide BA).below hb)
        replace BB := hide ((unhide BB).below hb)
        replace HK := hide ((unhide HK).trans (hb.mono (unhide HK).size))
        clear hx hb
        have BAc0 := (unhide BA).2.1 0 _ rfl
        have BAc1 := (unhide BA).2.1 1 _ rfl
        have BAc2 := (unhide BA).2.1 2 _ rfl
        have BAz := (unhide BA).1
        have BAn : w1.heap.size ≠ w9.heap.size := by omega
        have BAm : w9.heap.size ≠ w1.heap.size := by omega
        have BBc0 := (unhide BB).2.1 0 _ rfl
        have BBc1 := (unhide BB).2.1 1 _ rfl
        have BBc2 := (unhide BB).2.1 2 _ rfl
        have BBz := (unhide BB).1
        have BBn : w1.heap.size + 1 ≠ w9.heap.size := by omega
        have BBm : w9.heap.size ≠ w1.heap.size + 1 := by omega
        have w9z : w9.heap.size ≠ w1.heap.size := by omega
        clear HVA HVB HBA HSW HRF
        go_wp2_with fail
        refine (drawReadVal _ n1 _ ((unhide HC).below ((Below.refl _ _).alloc (Nat.le_refl _) _))).mono ?_
        rintro e w20 ⟨s, at0, rfl, hs, hat, hx⟩
        have hb : Below w9.heap.size w9 w20 := Below.trans (by go_grown) (hx.mono (by go_size))
        clear BAc0 BAc1 BAc2 BAz BAn BAm BBc0 BBc1 BBc2 BBz BBn BBm
        replace HC := hide ((unhide HC).below hb)
        replace BA := hide ((unhide BA).below hb)
        replace BB := hide ((unhide BB).below hb)
        replace HK := hide ((unhide HK).trans (hb.mono (unhide HK).size))
        clear hx hb
        have BAc0 := (unhide BA).2.1 0 _ rfl
        have BAc1 := (unhide BA).2.1 1 _ rfl
        have BAc2 := (unhide BA).2.1 2 _ rfl
        have BAz := (unhide BA).1
        have BAn : w1.heap.size ≠ w20.heap.size := by omega
        have BAm : w20.heap.size ≠ w1.heap.size := by omega
        have BBc0 := (unhide BB).2.1 0 _ rfl
        have BBc1 := (unhide BB).2.1 1 _ rfl
        have BBc2 := (unhide BB).2.1 2 _ rfl
        have BBz := (unhide BB).1
        have BBn : w1.heap.size + 1 ≠ w20.heap.size := by omega
        have BBm : w20.heap.size ≠ w1.heap.size + 1 := by omega
        clear BAc0 BAc1 BAc2 BAz BAn BAm BBc0 BBc1 BBc2 BBz BBn BBm
        clear BA
        clear BB
        have hsm : s.size ≤ maxLen := by unfold maxLen; omega
        obtain ⟨rv, E, ok2, HRA, HRS, HRI⟩ := bothRV s at0 hsm (by omega)
        have HNE := fun W => neqVV rv.k rv.n rv.k rv.n rv.t rv.t W
        simp only [and_self, decide_true, Bool.not_true] at HNE
        have HRR := hide HRA
        clear HRA
        obtain ⟨rw1, hrw⟩ : ∃ z, z = rv := ⟨_, rfl⟩
        rw [← hrw] at HRR
        have HRV := hide hrw
        clear hrw
        obtain ⟨rk, rn, rt⟩ := rv
        unfold encV at HRS HRI
        simp only [] at HRS HRI HNE
        go_wp2_with fail
        refine (HRI _).mono ?_
        rintro e w21 ⟨rfl, hx⟩
        have hb : Below w20.heap.size w20 w21 := Below.trans (by go_grown) (hx.mono (by go_size))
        replace HC := hide ((unhide HC).below hb)
        replace HK := hide ((unhide HK).trans (hb.mono (unhide HK).size))
        clear hx hb
        go_wp2_with fail
        refine (HRS _).mono ?_
        rintro e w22 ⟨rfl, hx⟩
        have hb : Below w21.heap.size w21 w22 := Below.trans (by go_grown) (hx.mono (by go_size))
        replace HC := hide ((unhide HC).below hb)
        have RA := hide (boxOf1 hx)
        replace HK := hide ((unhide HK).trans (hb.mono (unhide HK).size))
        clear hx hb
        have RAc0 := (unhide RA).2.1 0 _ rfl
        have RAc1 := (unhide RA).2.1 1 _ rfl
        have RAc2 := (unhide RA).2.1 2 _ rfl
        have RAz := (unhide RA).1
        have RAn : w21.heap.size ≠ w22.heap.size := by omega
        have RAm : w22.heap.size ≠ w21.heap.size := by omega
        go_wp2_with fail
        refine (drawValB _ n1 _ ((unhide HC).below ((Below.refl _ _).alloc (Nat.le_refl _) _))).mono ?_
        rintro e w23 ⟨u, rfl, hu, hx⟩
        have hb : Below w22.heap.size w22 w23 := Below.trans (by go_grown) (hx.mono (by go_size))
        clear RAc0 RAc1 RAc2 RAz RAn RAm
        replace HC := hide ((unhide HC).below hb)
        replace RA := hide ((unhide RA).below hb)
        have RB := hide (boxOf1 hx)
        replace HK := hide ((unhide HK).trans (hb.mono (unhide HK).size))
        clear hx hb
        have RAc0 := (unhide RA).2.1 0 _ rfl
        have RAc1 := (unhide RA).2.1 1 _ rfl
        have RAc2 := (unhide RA).2.1 2 _ rfl
        have RAz := (unhide RA).1
        have RAn : w21.heap.size ≠ w23.heap.size := by omega
        have RAm : w23.heap.size ≠ w21.heap.size := by omega
        have RBc0 := (unhide RB).2.1 0 _ rfl
        have RBc1 := (unhide RB).2.1 1 _ rfl
        have RBc2 := (unhide RB).2.1 2 _ rfl
        have RBz := (unhide RB).1
        have RBn : w22.heap.size ≠ w23.heap.size := by omega
        have RBm : w23.heap.size ≠ w22.heap.size := by omega
        have hum : u.t.size ≤ maxLen := by unfold maxLen; omega
        obtain ⟨us, ok3, HBS, HBI⟩ := bothVB u hum
        obtain ⟨uk, un, ut⟩ := u
        unfold encV at HBS HBI ⊢
        simp only [] at HBS HBI hu hum ⊢
        go_wp2_with fail
        refine (HBI _).mono ?_
        rintro e w24 ⟨rfl, hx⟩
        have hb : Below w23.heap.size w23 w24 := Below.trans (by go_grown) (hx.mono (by go_size))
        clear RAc0 RAc1 RAc2 RAz RAn RAm RBc0 RBc1 RBc2 RBz RBn RBm
        replace HC := hide ((unhide HC).below hb)
        replace RA := hide ((unhide RA).below hb)
        replace RB := hide ((unhide RB).below hb)
        have UB := hide (boxOf1 hx)
        replace HK := hide ((unhide HK).trans (hb.mono (unhide HK).size))
        clear hx hb
        have RAc0 := (unhide RA).2.1 0 _ rfl
        have RAc1 := (unhide RA).2.1 1 _ rfl
        have RAc2 := (unhide RA).2.1 2 _ rfl
        have RAz := (unhide RA).1
        have RAn : w21.heap.size ≠ w24.heap.size := by omega
        have RAm : w24.heap.size ≠ w21.heap.size := by omega
        have RBc0 := (unhide RB).2.1 0 _ rfl
        have RBc1 := (unhide RB).2.1 1 _ rfl
        have RBc2 := (unhide RB).2.1 2 _ rfl
        have RBz := (unhide RB).1
        have RBn : w22.heap.size ≠ w24.heap.size := by omega
        have RBm : w24.heap.size ≠ w22.heap.size := by omega
        have UBc0 := (unhide UB).2.1 0 _ rfl
        have UBc1 := (unhide UB).2.1 1 _ rfl
        have UBc2 := (unhide UB).2.1 2 _ rfl
        have UBz := (unhide UB).1
        have UBn : w23.heap.size ≠ w24.heap.size := by omega
        have UBm : w24.heap.size ≠ w23.heap.size := by omega
        go_wp2_with fail
        refine (HBS _).mono ?_
        rintro e w25 ⟨rfl, hx⟩
        have hb : Below w24.heap.size w24 w25 := Below.trans (by go_grown) (hx.mono (by go_size))
        clear RAc0 RAc1 RAc2 RAz RAn RAm RBc0 RBc1 RBc2 RBz RBn RBm UBc0 UBc1 UBc2 UBz UBn UBm
        replace HC := hide ((unhide HC).below hb)
        replace RA := hide ((unhide RA).below hb)
        replace RB := hide ((unhide RB).below hb)
        replace UB := hide ((unhide UB).below hb)
        replace HK := hide ((unhide HK).trans (hb.mono (unhide HK).size))
        clear hx hb
        have RAc0 := (unhide RA).2.1 0 _ rfl
        have RAc1 := (unhide RA).2.1 1 _ rfl
        have RAc2 := (unhide RA).2.1 2 _ rfl
        have RAz := (unhide RA).1
        have RAn : w21.heap.size ≠ w25.heap.size := by omega
        have RAm : w25.heap.size ≠ w21.heap.size := by omega
        have RBc0 := (unhide RB).2.1 0 _ rfl
        have RBc1 := (unhide RB).2.1 1 _ rfl
        have RBc2 := (unhide RB).2.1 2 _ rfl
        have RBz := (unhide RB).1
        have RBn : w22.heap.size ≠ w25.heap.size := by omega
        have RBm : w25.heap.size ≠ w22.heap.size := by omega
        have UBc0 := (unhide UB).2.1 0 _ rfl
        have UBc1 := (unhide UB).2.1 1 _ rfl
        have UBc2 := (unhide UB).2.1 2 _ rfl
        have UBz := (unhide UB).1
        have UBn : w23.heap.size ≠ w25.heap.size := by omega
        have UBm : w25.heap.size ≠ w23.heap.size := by omega
        clear HBI HBS HRS HRI
        rcases (unhide HRR) with ⟨rfl, A0, rfl, hA, hs6, hst, rfl⟩ | ⟨rfl, hv0, hE⟩
        · rw [unhide HRV] at hst
          have HVB := fun W => implVBYes ⟨rk, rn, rt⟩ W hst.1
          obtain ⟨hpl, hpe⟩ := piece hA hst
          have hb27 := bytes27 hst.1
          unfold encV at HVB
          simp only [] at HVB
          rw [unhide HRV]
          generalize bytesV ⟨rk, rn, rt⟩ = X at *
          have hle2 : (A0 : Int) + (X.size : Int) ≤ (s.size : Int) := by omega
          have hla : (A0 : Int) ≤ (A0 : Int) + (X.size : Int) := by omega
          have hA0 : (0 : Int) ≤ (A0 : Int) := by omega
          clear hst
          cases ok3
          all_goals
            go_wp2_with fail
            refine (HVB _).mono ?_
            rintro e w26 ⟨rfl, hx⟩
            have hb : Below w25.heap.size w25 w26 := Below.trans (by go_grown) (hx.mono (by go_size))
            clear RAc0 RAc1 RAc2 RAz RAn RAm RBc0 RBc1 RBc2 RBz RBn RBm UBc0 UBc1 UBc2 UBz UBn UBm
            replace HC := hide ((unhide HC).below hb)
            replace RA := hide ((unhide RA).below hb)
            replace RB := hide ((unhide RB).below hb)
            replace UB := hide ((unhide UB).below hb)
            replace HK := hide ((unhide HK).trans (hb.mono (unhide HK).size))
            clear hx hb
            have RAc0 := (unhide RA).2.1 0 _ rfl
            have RAc1 := (unhide RA).2.1 1 _ rfl
            have RAc2 := (unhide RA).2.1 2 _ rfl
            have RAz := (unhide RA).1
            have RAn : w21.heap.size ≠ w26.heap.size := by omega
            have RAm : w26.heap.size ≠ w21.heap.size := by omega
            have RBc0 := (unhide RB).2.1 0 _ rfl
            have RBc1 := (unhide RB).2.1 1 _ rfl
            have RBc2 := (unhide RB).2.1 2 _ rfl
            have RBz := (unhide RB).1
            have RBn : w22.heap.size ≠ w26.heap.size := by omega
            have RBm : w26.heap.size ≠ w22.heap.size := by omega
            have UBc0 := (unhide UB).2.1 0 _ rfl
            have UBc1 := (unhide UB).2.1 1 _ rfl
            have UBc2 := (unhide UB).2.1 2 _ rfl
            have UBz := (unhide UB).1
            have UBn : w23.heap.size ≠ w26.heap.size := by omega
            have UBm : w26.heap.size ≠ w23.heap.size := by omega
            have kf := unhide HK
            clear HVB
            go_wp2
            go_ret
            exact ⟨rfl, kf⟩
        · clear hE hv0
          have kf := unhide HK
          cases ok3
          all_goals
            go_wp2
            go_ret
            exact ⟨rfl, kf⟩
      · have hlei : ¬ (X.size : Int) ≤ (Y.size : Int) := by omega
        go_wp2_with fail
        refine (HRF _).mono ?_
        rintro e w9 ⟨rfl, hx⟩
        have hb : Below w8.heap.size w8 w9 := Below.trans (by go_grown) (hx.mono (by go_size))
        clear BAc0 BAc1 BAc2 BAz BAn BAm BBc0 BBc1 BBc2 BBz BBn BBm
        replace HC := hide ((unhide HC).below hb)
        replace BA := hide ((unhide BA).below hb)
        replace BB := hide ((unhide BB).below hb)
        replace HK := hide ((unhide HK).trans (hb.mono (unhide HK).size))
        clear hx hb
        have BAc0 := (unhide BA).2.1 0 _ rfl
        have BAc1 := (unhide BA).2.1 1 _ rfl
        have BAc2 := (unhide BA).2.1 2 _ rfl
        have BAz := (unhide BA).1
        have BAn : w1.heap.size ≠ w9.heap.size := by omega
        have BAm : w9.heap.size ≠ w1.heap.size := by omega
        have BBc0 := (unhide BB).2.1 0 _ rfl
        have BBc1 := (unhide BB).2.1 1 _ rfl
        have BBc2 := (unhide BB).2.1 2 _ rfl
        have BBz := (unhide BB).1
        have BBn : w1.heap.size + 1 ≠ w9.heap.size := by omega
        have BBm : w9.heap.size ≠ w1.heap.size + 1 := by omega
        have w9z : w9.heap.size ≠ w1.heap.size := by omega
        clear HVA HVB HBA HSW HRF
        go_wp2_with fail
        refine (drawReadVal _ n1 _ ((unhide HC).below ((Below.refl _ _).alloc (Nat.le_refl _) _))).mono ?_
        rintro e w20 ⟨s, at0, rfl, hs, hat, hx⟩
        have hb : Below w9.heap.size w9 w20 := Below.trans (by go_grown) (hx.mono (by go_size))
        clear BAc0 BAc1 BAc2 BAz BAn BAm BBc0 BBc1 BBc2 BBz BBn BBm
        replace HC := hide ((unhide HC).below hb)
        replace BA := hide ((unhide BA).below hb)
        replace BB := hide ((unhide BB).below hb)
        replace HK := hide ((unhide HK).trans (hb.mono (unhide HK).size))
        clear hx hb
        have BAc0 := (unhide BA).2.1 0 _ rfl
        have BAc1 := (unhide BA).2.1 1 _ rfl
        have BAc2 := (unhide BA).2.1 2 _ rfl
        have BAz := (unhide BA).1
        have BAn : w1.heap.size ≠ w20.heap.size := by omega
        have BAm : w20.heap.size ≠ w1.heap.size := by omega
        have BBc0 := (unhide BB).2.1 0 _ rfl
        have BBc1 := (unhide BB).2.1 1 _ rfl
        have BBc2 := (unhide BB).2.1 2 _ rfl
        have BBz := (unhide BB).1
        have BBn : w1.heap.size + 1 ≠ w20.heap.size := by omega
        have BBm : w20.heap.size ≠ w1.heap.size + 1 := by omega
        clear BAc0 BAc1 BAc2 BAz BAn BAm BBc0 BBc1 BBc2 BBz BBn BBm
        clear BA
        clear BB
        have hsm : s.size ≤ maxLen := by unfold maxLen; omega
        obtain ⟨rv, E, ok2, HRA, HRS, HRI⟩ := bothRV s at0 hsm (by omega)
        have HNE := fun W => neqVV rv.k rv.n rv.k rv.n rv.t rv.t W
        simp only [and_self, decide_true, Bool.not_true] at HNE
        have HRR := hide HRA
        clear HRA
        obtain ⟨rw1, hrw⟩ : ∃ z, z = rv := ⟨_, rfl⟩
        rw [← hrw] at HRR
        have HRV := hide hrw
        clear hrw
        obtain ⟨rk, rn, rt⟩ := rv
        unfold encV at HRS HRI
        simp only [] at HRS HRI HNE
        go_wp2_with fail
        refine (HRI _).mono ?_
        rintro e w21 ⟨rfl, hx⟩
        have hb : Below w20.heap.size w20 w21 := Below.trans (by go_grown) (hx.mono (by go_size))
        replace HC := hide ((unhide HC).below hb)
        replace HK := hide ((unhide HK).trans (hb.mono (unhide HK).size))
        clear hx hb
        go_wp2_with fail
        refine (HRS _).mono ?_
        rintro e w22 ⟨rfl, hx⟩
        have hb : Below w21.heap.size w21 w22 := Below.trans (by go_grown) (hx.mono (by go_size))
        replace HC := hide ((unhide HC).below hb)
        have RA := hide (boxOf1 hx)
        replace HK := hide ((unhide HK).trans (hb.mono (unhide HK).size))
        clear hx hb
        have RAc0 := (unhide RA).2.1 0 _ rfl
        have RAc1 := (unhide RA).2.1 1 _ rfl
        have RAc2 := (unhide RA).2.1 2 _ rfl
        have RAz := (unhide RA).1
        have RAn : w21.heap.size ≠ w22.heap.size := by omega
        have RAm : w22.heap.size ≠ w21.heap.size := by omega
        go_wp2_with fail
        refine (drawValB _ n1 _ ((unhide HC).below ((Below.refl _ _).alloc (Nat.le_refl _) _))).mono ?_
        rintro e w23 ⟨u, rfl, hu, hx⟩
        have hb : Below w22.heap.size w22 w23 := Below.trans (by go_grown) (hx.mono (by go_size))
        clear RAc0 RAc1 RAc2 RAz RAn RAm
        replace HC := hide ((unhide HC).below hb)
        replace RA := hide ((unhide RA).below hb)
        have RB := hide (boxOf1 hx)
        replace HK := hide ((unhide HK).trans (hb.mono (unhide HK).size))
        clear hx hb
        have RAc0 := (unhide RA).2.1 0 _ rfl
        have RAc1 := (unhide RA).2.1 1 _ rfl
        have RAc2 := (unhide RA).2.1 2 _ rfl
        have RAz := (unhide RA).1
        have RAn : w21.heap.size ≠ w23.heap.size := by omega
        have RAm : w23.heap.size ≠ w21.heap.size := by omega
        have RBc0 := (unhide RB).2.1 0 _ rfl
        have RBc1 := (unhide RB).2.1 1 _ rfl
        have RBc2 := (unhide RB).2.1 2 _ rfl
        have RBz := (unhide RB).1
        have RBn : w22.heap.size ≠ w23.heap.size := by omega
        have RBm : w23.heap.size ≠ w22.heap.size := by omega
        have hum : u.t.size ≤ maxLen := by unfold maxLen; omega
        obtain ⟨us, ok3, HBS, HBI⟩ := bothVB u hum
        obtain ⟨uk, un, ut⟩ := u
        unfold encV at HBS HBI ⊢
        simp only [] at HBS HBI hu hum ⊢
        go_wp2_with fail
        refine (HBI _).mono ?_
        rintro e w24 ⟨rfl, hx⟩
        have hb : Below w23.heap.size w23 w24 := Below.trans (by go_grown) (hx.mono (by go_size))
        clear RAc0 RAc1 RAc2 RAz RAn RAm RBc0 RBc1 RBc2 RBz RBn RBm
        replace HC := hide ((unhide HC).below hb)
        replace RA := hide ((unhide RA).below hb)
        replace RB := hide ((unhide RB).below hb)
        have UB := hide (boxOf1 hx)
        replace HK := hide ((unhide HK).trans (hb.mono (unhide HK).size))
        clear hx hb
        have RAc0 := (unhide RA).2.1 0 _ rfl
        have RAc1 := (unhide RA).2.1 1 _ rfl
        have RAc2 := (unhide RA).2.1 2 _ rfl
        have RAz := (unhide RA).1
        have RAn : w21.heap.size ≠ w24.heap.size := by omega
        have RAm : w24.heap.size ≠ w21.heap.size := by omega
        have RBc0 := (unhide RB).2.1 0 _ rfl
        have RBc1 := (unhide RB).2.1 1 _ rfl
        have RBc2 := (unhide RB).2.1 2 _ rfl
        have RBz := (unhide RB).1
        have RBn : w22.heap.size ≠ w24.heap.size := by omega
        have RBm : w24.heap.size ≠ w22.heap.size := by omega
        have UBc0 := (unhide UB).2.1 0 _ rfl
        have UBc1 := (unhide UB).2.1 1 _ rfl
        have UBc2 := (unhide UB).2.1 2 _ rfl
        have UBz := (unhide UB).1
        have UBn : w23.heap.size ≠ w24.heap.size := by omega
        have UBm : w24.heap.size ≠ w23.heap.size := by omega
        go_wp2_with fail
        refine (HBS _).mono ?_
        rintro e w25 ⟨rfl, hx⟩
        have hb : Below w24.heap.size w24 w25 := Below.trans (by go_grown) (hx.mono (by go_size))
        clear RAc0 RAc1 RAc2 RAz RAn RAm RBc0 RBc1 RBc2 RBz RBn RBm UBc0 UBc1 UBc2 UBz UBn UBm
        replace HC := hide ((unhide HC).below hb)
        replace RA := hide ((unhide RA).below hb)
        replace RB := hide ((unhide RB).below hb)
        replace UB := hide ((unhide UB).below hb)
        replace HK := hide ((unhide HK).trans (hb.mono (unhide HK).size))
        clear hx hb
        have RAc0 := (unhide RA).2.1 0 _ rfl
        have RAc1 := (unhide RA).2.1 1 _ rfl
        have RAc2 := (unhide RA).2.1 2 _ rfl
        have RAz := (unhide RA).1
        have RAn : w21.heap.size ≠ w25.heap.size := by omega
        have RAm : w25.heap.size ≠ w21.heap.size := by omega
        have RBc0 := (unhide RB).2.1 0 _ rfl
        have RBc1 := (unhide RB).2.1 1 _ rfl
        have RBc2 := (unhide RB).2.1 2 _ rfl
        have RBz := (unhide RB).1
        have RBn : w22.heap.size ≠ w25.heap.size := by omega
        have RBm : w25.heap.size ≠ w22.heap.size := by omega
        have UBc0 := (unhide UB).2.1 0 _ rfl
        have UBc1 := (unhide UB).2.1 1 _ rfl
        have UBc2 := (unhide UB).2.1 2 _ rfl
        have UBz := (unhide UB).1
        have UBn : w23.heap.size ≠ w25.heap.size := by omega
        have UBm : w25.heap.size ≠ w23.heap.size := by omega
        clear HBI HBS HRS HRI
        rcases (unhide HRR) with ⟨rfl, A0, rfl, hA, hs6, hst, rfl⟩ | ⟨rfl, hv0, hE⟩
        · rw [unhide HRV] at hst
          have HVB := fun W => implVBYes ⟨rk, rn, rt⟩ W hst.1
          obtain ⟨hpl, hpe⟩ := piece hA hst
          have hb27 := bytes27 hst.1
          unfold encV at HVB
          simp only [] at HVB
          rw [unhide HRV]
          generalize bytesV ⟨rk, rn, rt⟩ = X at *
          have hle2 : (A0 : Int) + (X.size : Int) ≤ (s.size : Int) := by omega
          have hla : (A0 : Int) ≤ (A0 : Int) + (X.size : Int) := by omega
          have hA0 : (0 : Int) ≤ (A0 : Int) := by omega
          clear hst
          cases ok3
          all_goals
            go_wp2_with fail
            refine (HVB _).mono ?_
            rintro e w26 ⟨rfl, hx⟩
            have hb : Below w25.heap.size w25 w26 := Below.trans (by go_grown) (hx.mono (by go_size))
            clear RAc0 RAc1 RAc2 RAz RAn RAm RBc0 RBc1 RBc2 RBz RBn RBm UBc0 UBc1 UBc2 UBz UBn UBm
            replace HC := hide ((unhide HC).below hb)
            replace RA := hide ((unhide RA).below hb)
            replace RB := hide ((unhide RB).below hb)
            replace UB := hide ((unhide UB).below hb)
            replace HK := hide ((unhide HK).trans (hb.mono (unhide HK).size))
            clear hx hb
            have RAc0 := (unhide RA).2.1 0 _ rfl
            have RAc1 := (unhide RA).2.1 1 _ rfl
            have RAc2 := (unhide RA).2.1 2 _ rfl
            have RAz := (unhide RA).1
            have RAn : w21.heap.size ≠ w26.heap.size := by omega
            have RAm : w26.heap.size ≠ w21.heap.size := by omega
            have RBc0 := (unhide RB).2.1 0 _ rfl
            have RBc1 := (unhide RB).2.1 1 _ rfl
            have RBc2 := (unhide RB).2.1 2 _ rfl
            have RBz := (unhide RB).1
            have RBn : w22.heap.size ≠ w26.heap.size := by omega
            have RBm : w26.heap.size ≠ w22.heap.size := by omega
            have UBc0 := (unhide UB).2.1 0 _ rfl
            have UBc1 := (unhide UB).2.1 1 _ rfl
            have UBc2 := (unhide UB).2.1 2 _ rfl
            have UBz := (unhide UB).1
            have UBn : w23.heap.size ≠ w26.heap.size := by omega
            have UBm : w26.heap.size ≠ w23.heap.size := by omega
            have kf := unhide HK
            clear HVB
            go_wp2
            go_ret
            exact ⟨rfl, kf⟩
        · clear hE hv0
          have kf := unhide HK
          cases ok3
          all_goals
            go_wp2
            go_ret
            exact ⟨rfl, kf⟩
  · go_upto_region 6 with fail
    go_region_held3 (fun w' => w'.cell? ⟨w1.heap.size, 0, none⟩ = some (.int .i64 ak) ∧ w'.cell? ⟨w1.heap.size, 1, none⟩ = some (.int .i64 an) ∧ w'.cell? ⟨w1.heap.size, 2, none⟩ = some (.string atx)) (go_keep)
      (first
        | (go_at_call 16; refine (HGI _).mono ?_; rintro e w4 ⟨rfl, hx4⟩; have hp4 := kept hx4 w1.heap.size (by simp; omega); have b4 : Below w3.heap.size w3 w4 := (by exact Below.trans ((Below.refl _ w3).drew) (hx4.mono (by simp))); have z4 := b4.size; clear hx4)
        | (go_at_call 17; refine (HGS _).mono ?_; rintro e w5 ⟨rfl, hx5⟩; have hp5 := kept hx5 w1.heap.size (by omega); have b5 : Below w3.heap.size w3 w5 := (by exact b4.trans (hx5.mono b4.size)); clear hx5))
    have hb := b5
    clear hp4 hp5 b4 z4 HGI HGS
    clear BAc0 BAc1 BAc2 BAz BAn BAm BBc0 BBc1 BBc2 BBz BBn BBm
    replace HC := hide ((unhide HC).below hb)
    replace BA := hide ((unhide BA).below hb)
    replace BB := hide ((unhide BB).below hb)
    replace HK := hide ((unhide HK).trans (hb.mono (unhide HK).size))
    clear hb b5 HCI
    have BAc0 := (unhide BA).2.1 0 _ rfl
    have BAc1 := (unhide BA).2.1 1 _ rfl
    have BAc2 := (unhide BA).2.1 2 _ rfl
    have BAz := (unhide BA).1
    have BAn : w1.heap.size ≠ w5.heap.size := by omega
    have BAm : w5.heap.size ≠ w1.heap.size := by omega
    have BBc0 := (unhide BB).2.1 0 _ rfl
    have BBc1 := (unhide BB).2.1 1 _ rfl
    have BBc2 := (unhide BB).2.1 2 _ rfl
    have BBz := (unhide BB).1
    have BBn : w1.heap.size + 1 ≠ w5.heap.size := by omega
    have BBm : w5.heap.size ≠ w1.heap.size + 1 := by omega
    go_wp2_with fail
    refine (drawReadVal _ n1 _ (unhide HC)).mono ?_
    rintro e w20 ⟨s, at0, rfl, hs, hat, hx⟩
    have hb : Below w5.heap.size w5 w20 := Below.trans (by go_grown) (hx.mono (by go_size))
    clear BAc0 BAc1 BAc2 BAz BAn BAm BBc0 BBc1 BBc2 BBz BBn BBm
    replace HC := hide ((unhide HC).below hb)
    replace BA := hide ((unhide BA).below hb)
    replace BB := hide ((unhide BB).below hb)
    replace HK := hide ((unhide HK).trans (hb.mono (unhide HK).size))
    clear hx hb
    have BAc0 := (unhide BA).2.1 0 _ rfl
    have BAc1 := (unhide BA).2.1 1 _ rfl
    have BAc2 := (unhide BA).2.1 2 _ rfl
    have BAz := (unhide BA).1
    have BAn : w1.heap.size ≠ w20.heap.size := by omega
    have BAm : w20.heap.size ≠ w1.heap.size := by omega
    have BBc0 := (unhide BB).2.1 0 _ rfl
    have BBc1 := (unhide BB).2.1 1 _ rfl
    have BBc2 := (unhide BB).2.1 2 _ rfl
    have BBz := (unhide BB).1
    have BBn : w1.heap.size + 1 ≠ w20.heap.size := by omega
    have BBm : w20.heap.size ≠ w1.heap.size + 1 := by omega
    clear BAc0 BAc1 BAc2 BAz BAn BAm BBc0 BBc1 BBc2 BBz BBn BBm
    clear BA
    clear BB
    have hsm : s.size ≤ maxLen := by unfold maxLen; omega
    obtain ⟨rv, E, ok2, HRA, HRS, HRI⟩ := bothRV s at0 hsm (by omega)
    have HNE := fun W => neqVV rv.k rv.n rv.k rv.n rv.t rv.t W
    simp only [and_self, decide_true, Bool.not_true] at HNE
    have HRR := hide HRA
    clear HRA
    obtain ⟨rw1, hrw⟩ : ∃ z, z = rv := ⟨_, rfl⟩
    rw [← hrw] at HRR
    have HRV := hide hrw
    clear hrw
    obtain ⟨rk, rn, rt⟩ := rv
    unfold encV at HRS HRI
    simp only [] at HRS HRI HNE
    go_wp2_with fail
    refine (HRI _).mono ?_
    rintro e w21 ⟨rfl, hx⟩
    have hb : Below w20.heap.size w20 w21 := Below.trans (by go_grown) (hx.mono (by go_size))
    replace HC := hide ((unhide HC).below hb)
    replace HK := hide ((unhide HK).trans (hb.mono (unhide HK).size))
    clear hx hb
    go_wp2_with fail
    refine (HRS _).mono ?_
    rintro e w22 ⟨rfl, hx⟩
    have hb : Below w21.heap.size w21 w22 := Below.trans (by go_grown) (hx.mono (by go_size))
    replace HC := hide ((unhide HC).below hb)
    have RA := hide (boxOf1 hx)
    replace HK := hide ((unhide HK).trans (hb.mono (unhide HK).size))
    clear hx hb
    have RAc0 := (unhide RA).2.1 0 _ rfl
    have RAc1 := (unhide RA).2.1 1 _ rfl
    have RAc2 := (unhide RA).2.1 2 _ rfl
    have RAz := (unhide RA).1
    have RAn : w21.heap.size ≠ w22.heap.size := by omega
    have RAm : w22.heap.size ≠ w21.heap.size := by omega
    go_wp2_with fail
    refine (drawValB _ n1 _ ((unhide HC).below ((Below.refl _ _).alloc (Nat.le_refl _) _))).mono ?_
    rintro e w23 ⟨u, rfl, hu, hx⟩
    have hb : Below w22.heap.size w22 w23 := Below.trans (by go_grown) (hx.mono (by go_size))
    clear RAc0 RAc1 RAc2 RAz RAn RAm
    replace HC := hide ((unhide HC).below hb)
    replace RA := hide ((unhide RA).below hb)
    have RB := hide (boxOf1 hx)
    replace HK := hide ((unhide HK).trans (hb.mono (unhide HK).size))
    clear hx hb
    have RAc0 := (unhide RA).2.1 0 _ rfl
    have RAc1 := (unhide RA).2.1 1 _ rfl
    have RAc2 := (unhide RA).2.1 2 _ rfl
    have RAz := (unhide RA).1
    have RAn : w21.heap.size ≠ w23.heap.size := by omega
    have RAm : w23.heap.size ≠ w21.heap.size := by omega
    have RBc0 := (unhide RB).2.1 0 _ rfl
    have RBc1 := (unhide RB).2.1 1 _ rfl
    have RBc2 := (unhide RB).2.1 2 _ rfl
    have RBz := (unhide RB).1
    have RBn : w22.heap.size ≠ w23.heap.size := by omega
    have RBm : w23.heap.size ≠ w22.heap.size := by omega
    have hum : u.t.size ≤ maxLen := by unfold maxLen; omega
    obtain ⟨us, ok3, HBS, HBI⟩ := bothVB u hum
    obtain ⟨uk, un, ut⟩ := u
    unfold encV at HBS HBI ⊢
    simp only [] at HBS HBI hu hum ⊢
    go_wp2_with fail
    refine (HBI _).mono ?_
    rintro e w24 ⟨rfl, hx⟩
    have hb : Below w23.heap.size w23 w24 := Below.trans (by go_grown) (hx.mono (by go_size))
    clear RAc0 RAc1 RAc2 RAz RAn RAm RBc0 RBc1 RBc2 RBz RBn RBm
    replace HC := hide ((unhide HC).below hb)
    replace RA := hide ((unhide RA).below hb)
    replace RB := hide ((unhide RB).below hb)
    have UB := hide (boxOf1 hx)
    replace HK := hide ((unhide HK).trans (hb.mono (unhide HK).size))
    clear hx hb
    have RAc0 := (unhide RA).2.1 0 _ rfl
    have RAc1 := (unhide RA).2.1 1 _ rfl
    have RAc2 := (unhide RA).2.1 2 _ rfl
    have RAz := (unhide RA).1
    have RAn : w21.heap.size ≠ w24.heap.size := by omega
    have RAm : w24.heap.size ≠ w21.heap.size := by omega
    have RBc0 := (unhide RB).2.1 0 _ rfl
    have RBc1 := (unhide RB).2.1 1 _ rfl
    have RBc2 := (unhide RB).2.1 2 _ rfl
    have RBz := (unhide RB).1
    have RBn : w22.heap.size ≠ w24.heap.size := by omega
    have RBm : w24.heap.size ≠ w22.heap.size := by omega
    have UBc0 := (unhide UB).2.1 0 _ rfl
    have UBc1 := (unhide UB).2.1 1 _ rfl
    have UBc2 := (unhide UB).2.1 2 _ rfl
    have UBz := (unhide UB).1
    have UBn : w23.heap.size ≠ w24.heap.size := by omega
    have UBm : w24.heap.size ≠ w23.heap.size := by omega
    go_wp2_with fail
    refine (HBS _).mono ?_
    rintro e w25 ⟨rfl, hx⟩
    have hb : Below w24.heap.size w24 w25 := Below.trans (by go_grown) (hx.mono (by go_size))
    clear RAc0 RAc1 RAc2 RAz RAn RAm RBc0 RBc1 RBc2 RBz RBn RBm UBc0 UBc1 UBc2 UBz UBn UBm
    replace HC := hide ((unhide HC).below hb)
    replace RA := hide ((unhide RA).below hb)
    replace RB := hide ((unhide RB).below hb)
    replace UB := hide ((unhide UB).below hb)
    replace HK := hide ((unhide HK).trans (hb.mono (unhide HK).size))
    clear hx hb
    have RAc0 := (unhide RA).2.1 0 _ rfl
    have RAc1 := (unhide RA).2.1 1 _ rfl
    have RAc2 := (unhide RA).2.1 2 _ rfl
    have RAz := (unhide RA).1
    have RAn : w21.heap.size ≠ w25.heap.size := by omega
    have RAm : w25.heap.size ≠ w21.heap.size := by omega
    have RBc0 := (unhide RB).2.1 0 _ rfl
    have RBc1 := (unhide RB).2.1 1 _ rfl
    have RBc2 := (unhide RB).2.1 2 _ rfl
    have RBz := (unhide RB).1
    have RBn : w22.heap.size ≠ w25.heap.size := by omega
    have RBm : w25.heap.size ≠ w22.heap.size := by omega
    have UBc0 := (unhide UB).2.1 0 _ rfl
    have UBc1 := (unhide UB).2.1 1 _ rfl
    have UBc2 := (unhide UB).2.1 2 _ rfl
    have UBz := (unhide UB).1
    have UBn : w23.heap.size ≠ w25.heap.size := by omega
    have UBm : w25.heap.size ≠ w23.heap.size := by omega
    clear HBI HBS HRS HRI
    rcases (unhide HRR) with ⟨rfl, A0, rfl, hA, hs6, hst, rfl⟩ | ⟨rfl, hv0, hE⟩
    · rw [unhide HRV] at hst
      have HVB := fun W => implVBYes ⟨rk, rn, rt⟩ W hst.1
      obtain ⟨hpl, hpe⟩ := piece hA hst
      have hb27 := bytes27 hst.1
      unfold encV at HVB
      simp only [] at HVB
      rw [unhide HRV]
      generalize bytesV ⟨rk, rn, rt⟩ = X at *
      have hle2 : (A0 : Int) + (X.size : Int) ≤ (s.size : Int) := by omega
      have hla : (A0 : Int) ≤ (A0 : Int) + (X.size : Int) := by omega
      have hA0 : (0 : Int) ≤ (A0 : Int) := by omega
      clear hst
      cases ok3
      all_goals
        go_wp2_with fail
        refine (HVB _).mono ?_
        rintro e w26 ⟨rfl, hx⟩
        have hb : Below w25.heap.size w25 w26 := Below.trans (by go_grown) (hx.mono (by go_size))
        clear RAc0 RAc1 RAc2 RAz RAn RAm RBc0 RBc1 RBc2 RBz RBn RBm UBc0 UBc1 UBc2 UBz UBn UBm
        replace HC := hide ((unhide HC).below hb)
        replace RA := hide ((unhide RA).below hb)
        replace RB := hide ((unhide RB).below hb)
        replace UB := hide ((unhide UB).below hb)
        replace HK := hide ((unhide HK).trans (hb.mono (unhide HK).size))
        clear hx hb
        have RAc0 := (unhide RA).2.1 0 _ rfl
        have RAc1 := (unhide RA).2.1 1 _ rfl
        have RAc2 := (unhide RA).2.1 2 _ rfl
        have RAz := (unhide RA).1
        have RAn : w21.heap.size ≠ w26.heap.size := by omega
        have RAm : w26.heap.size ≠ w21.heap.size := by omega
        have RBc0 := (unhide RB).2.1 0 _ rfl
        have RBc1 := (unhide RB).2.1 1 _ rfl
        have RBc2 := (unhide RB).2.1 2 _ rfl
        have RBz := (unhide RB).1
        have RBn : w22.heap.size ≠ w26.heap.size := by omega
        have RBm : w26.heap.size ≠ w22.heap.size := by omega
        have UBc0 := (unhide UB).2.1 0 _ rfl
        have UBc1 := (unhide UB).2.1 1 _ rfl
        have UBc2 := (unhide UB).2.1 2 _ rfl
        have UBz := (unhide UB).1
        have UBn : w23.heap.size ≠ w26.heap.size := by omega
        have UBm : w26.heap.size ≠ w23.heap.size := by omega
        have kf := unhide HK
        clear HVB
        go_wp2
        go_ret
        exact ⟨rfl, kf⟩
    · clear hE hv0
      have kf := unhide HK
      cases ok3
      all_goals
        go_wp2
        go_ret
        exact ⟨rfl, kf⟩
set_option maxRecDepth 100000 in
theorem walk (v0 : Value) (n0 : Nat) (h0 : n0 ≤ 140737488351232) (v1 : Value) (n1 : Nat) (h1 : n1 ≤ 140737488351232) (w : World) (hb0 : ByteRow w v0 n0) (hb1 : ByteRow w v1 n1) :
    Calls Try.prog 3 #[v0, v1] w fun e w' => e = .returned (.bool true) ∧ Below w.heap.size w w' := by
  by_cases hn : n0 + n1 ≤ 1048576
  · exact walk0 v0 n0 v1 n1 w (hb0.code (by omega)) (hb1.code (by omega)) hn
  · obtain ⟨ad0, c0, rfl, _⟩ := hb0
    obtain ⟨ad1, c1, rfl, _⟩ := hb1
    have hbig : (1048576 : Int) < (n0 : Int) + (n1 : Int) := by omega
    go_enter Try.func3, Try.ntmps3
    go_wp2
    go_returns
    exact ⟨rfl, by go_grown⟩

theorem own : ownKnob Try.prog.godebug = none := by kernel_rfl
theorem laidOut : laidOutB Try.prog = true := by kernel_rfl
set_option maxRecDepth 100000 in
theorem lifted (os : Os) (started : os.Started) (H : Type) (enc : TypeId × Value → H) :
    ReturnsInHanded {} Try.checked os 3 .any (Rows.fnOrderSpec.pre6 enc Try.prog Try.f3 Rows.fnOrderRow.domain false) (Rows.fnOrderSpec.post enc Try.prog Try.f3 false true false false) := by
  refine returnsInHanded_of_change_sized (C := Try.checked) own started (by kernel_rfl) Try.func3
    (ChangeSpec.witness6 (enc := enc) (C := Try.checked) false ⟨#[], #[.slice none 0 0, .slice none 0 0], []⟩ 8 (by kernel_rfl) (by kernel_rfl) (by kernel_rfl) (by kernel_rfl)) ?_
  intro W base args ds gs before hval0 hW hcnd hsz0 _
  have hsz : (DataW.weightsEach Try.prog (Try.f3.params.toList ++ (OpenSpec.ofChange Rows.fnOrderSpec).bare.plain.varTypes Try.prog) (ds ++ gs)).all (· ≤ reachBytes) = true := hsz0
  have hval : ∀ (j : Nat) t v, Try.f3.params[j]? = some t → args[j]? = some v → Value.okWide Try.prog W .any base t v := hval0
  have hW' := hW
  obtain ⟨p, q, hA0, hV, rfl, hfz, hnd⟩ := hW
  have hA : DataW.TrodAll enc Try.prog W 0 (fun _ => true) true Try.f3.params.toList args.toList ds p := hA0
  rw [Try.params3] at hA hval
  obtain ⟨v0, vs0, d0, ds0, p0, q0, hargs, rfl, rfl, h0, r0⟩ := trodAll_cons hA
  obtain ⟨v1, vs1, d1, ds1, p1, q1, rfl, rfl, rfl, h1, r1⟩ := trodAll_cons r0
  obtain ⟨rfl, rfl, rfl⟩ := trodAll_nil r1
  obtain rfl : args = #[v0, v1] := by cases args; simp_all
  obtain ⟨rfl, rfl⟩ := trodVars_none hV
  obtain ⟨ad0, len0, cap0, rfl⟩ := okWide_slice Try.underlying22 (hval 0 22 v0 rfl rfl)
  have kk0 := h0
  have lt0 : ∀ x ∈ p0, x.block < W.heap.size := by obtain ⟨m, hm⟩ := kk0; exact DataW.trod_lt m _ _ _ hm
  obtain ⟨hbr0, hbn0⟩ := bytes_of h0 hsz (j := 0) (by rw [Try.params3]; rfl) rfl
  obtain ⟨ad1, len1, cap1, rfl⟩ := okWide_slice Try.underlying22 (hval 1 22 v1 rfl rfl)
  have kk1 := h1
  have lt1 : ∀ x ∈ p1, x.block < W.heap.size := by obtain ⟨m, hm⟩ := kk1; exact DataW.trod_lt m _ _ _ hm
  obtain ⟨hbr1, hbn1⟩ := bytes_of h1 hsz (j := 1) (by rw [Try.params3]; rfl) rfl
  clear hA0 hval0
  refine (walk _ len0 hbn0 _ len1 hbn1 W hbr0 hbr1).mono fun e W' ⟨he, bel⟩ => ?_
  subst he
  exact ⟨_, rfl, _, _, _, [], _, [], hW', trodAll_mk1 (shut_bool Try.underlying4 _), (trodAll_cons_mk (Below.trod laidOut (by kernel_rfl) (of_decide_eq_true (by kernel_rfl)) kk0 bel lt0) (trodAll_cons_mk (Below.trod laidOut (by kernel_rfl) (of_decide_eq_true (by kernel_rfl)) kk1 bel lt1) trodAll_mk0)), rfl, bel.frame _, fun h => by cases h⟩

theorem over : Rows.fnOrderRow.holds Try.pinned (OpenSpec.ofChange Rows.fnOrderSpec) :=
  OpenClaim.holds_of_wide 3 Try.f3 rfl rfl rfl rfl rfl rfl rfl ⟨rfl, rfl, rfl, rfl, rfl⟩ rfl rfl rfl rfl rfl (by kernel_rfl) Try.func3 (by kernel_rfl)
    (of_decide_eq_true (by kernel_rfl)) (by unfold Func.isWrapper; first | (rw [if_pos (by decide +kernel)]; kernel_rfl) | (rw [if_neg (by decide +kernel)]; exact ⟨rfl, rfl⟩))
    (fun os started H enc _ => lifted os started H enc)
end Go.Proofs.Ytolkiofdbdjfkaa.fnOrder
namespace Go.Proofs.Ytolkiofdbdjfkaa
theorem fnOrder_holds : Rows.FnOrderSaid := fnOrder.over
#print axioms fnOrder_holds
end Go.Proofs.Ytolkiofdbdjfkaa
