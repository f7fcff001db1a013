/- At every two lists of bytes the function FnRows returns true and leaves its arguments as they were: rows' bytes are in the order of the rows, and all rows with one beginning stand together. No condition. -/
import Derived.Test.YtolkiofdbdjfkaaBothX
import Derived.Test.YtolkiofdbdjfkaaSameV
import Derived.Test.YtolkiofdbdjfkaaDrawCR
import Derived.Test.YtolkiofdbdjfkaaBytesV
import Derived.Lib.SmallJoins
namespace Go.Proofs.Ytolkiofdbdjfkaa.fnRows
open Go.ChangeShapes Go.WideShapes Go.ChangeAt Go.RowKit Go.Joins Go.Deep
open Go.ChangeMaps (open_string shut_string)
set_option linter.unusedVariables false
attribute [local go_sem ↓] Go.wp_at_zero Go.wp_at_succ

theorem cutAny (ad : Option Addr) (n cap k : Nat) (w : World) (h : k ≤ cap) : (Instr.slice 39 (.slice ad n cap) none (some (.int .i64 (k : Int))) none).run Try.prog w = .ok (.slice ad k cap) w := by
  have hu := Try.underlying39
  have h1 : (k : Int) ≤ (cap : Int) := by omega
  have h0 : (0 : Int) ≤ (k : Int) := by omega
  cases ad with
  | none => go_simp
  | some x => go_simp
theorem OwnVs.room {w : World} {base : Nat} {ad : Option Addr} {n cap : Nat} {vs : List VV} (h : OwnVs w base (.slice ad n cap) vs) : vs.length ≤ cap := by
  rcases h.2 with ⟨e, h0⟩ | ⟨g, c, cur, e, _, _, hn, _⟩
  · omega
  · cases e; exact hn
theorem vals_take {w : World} {ad : Option Addr} {n cap k : Nat} {vs : List VV} (h : ValsAt w (.slice ad n cap) vs) (hk : k ≤ vs.length) : ValsAt w (.slice ad k cap) (vs.take k) := by
  have hl : (vs.take k).length = k := by simp; omega
  rcases h with ⟨a, c, e, rfl⟩ | ⟨b, off, c, e, hb, hc⟩
  · have : k = 0 := by simpa using hk
    subst this
    exact .inl ⟨_, _, rfl, by simp⟩
  · cases e
    refine .inr ⟨b, off, cap, by rw [hl], hb, fun i hi => ?_⟩
    rw [hl] at hi
    rw [take_getD vs k i hi]
    exact hc i (by omega)
theorem ValsAt.cases' {w : World} {ad : Option Addr} {cap : Nat} {vs : List VV} (h : ValsAt w (.slice ad vs.length cap) vs) : ∀ k, k < vs.length → ∃ b off, ad = some ⟨b, off, none⟩ ∧ b < w.heap.size ∧ ValAt w b (off + k * 3) (vs.getD k v0) := by
  obtain ⟨ad', cap', e, hc⟩ := h.cases
  cases e
  exact hc
theorem rowIs_of {vs : List VV} (hg : AllGood vs) (hl : vs.length ≤ 6) : RowIs (vrowV vs) vs := ⟨hg, hl, by simp [vrowV]⟩
theorem good_take {vs : List VV} (h : AllGood vs) (k : Nat) : AllGood (vs.take k) := fun v hv => h v (List.mem_of_mem_take hv)
theorem same_rows {a b : List VV} (ha : AllGood a) (hb : AllGood b) : cmpB (vrowV a).data.toList (vrowV b).data.toList = cmpR a b := by
  have e1 : (vrowV b).data.toList = vrowL b := by simp [vrowV]
  have e2 : (vrowV a).data.toList = vrowL a := by simp [vrowV]
  rw [e1, e2, cmp_rows ha hb]
theorem row_text {s : ByteArray} {vs : List VV} (h : RowIs s vs) : vrowV vs = s := by
  have := h.2.2
  cases s with
  | mk d => cases d with
    | mk l => simp at this; simp [vrowV, this]

set_option maxRecDepth 100000 in
set_option maxHeartbeats 12800000 in
theorem walk0 (v0 : Value) (n0 : Nat) (v1 : Value) (n1 : Nat) (w : World) (hc0 : CodeAt w v0 n0) (hc1 : CodeAt w v1 n1) (hn : n0 + n1 ≤ 1048576) :
    Calls Try.prog 4 #[v0, v1] w fun e w' => e = .returned (.bool true) ∧ Below w.heap.size w w' := by
  obtain ⟨ad0, c0, rfl⟩ : ∃ ad c, v0 = .slice ad n0 c := by
    obtain ⟨ad, c, e, _⟩ := hc0
    exact ⟨ad, c, e⟩
  obtain ⟨ad1, c1, rfl⟩ : ∃ ad c, v1 = .slice ad n1 c := by
    obtain ⟨ad, c, e, _⟩ := hc1
    exact ⟨ad, c, e⟩
  have hbig : ¬ (1048576 : Int) < (n0 : Int) + (n1 : Int) := by omega
  have HD := drawCmpR _ n0 w hc0
  have HC := hide hc1
  have HK : Hid (Below w.heap.size w w) := Below.refl _ _
  clear hc0 hc1
  go_enter Try.func4, Try.ntmps4
  go_wp2_with fail
  refine (HD).mono ?_
  rintro e w1 ⟨xa, xb, va, vb, rfl, hoa, hvb, hla, hlb, hua, hub, hx⟩
  have hb : Below w.heap.size w w1 := Below.trans (by go_grown) (hx.mono (by go_size))
  replace HC := hide ((unhide HC).below hb)
  replace HK := hide ((unhide HK).trans (hb.mono (unhide HK).size))
  have XA := hide hoa
  have XB := hide hvb
  clear hoa hvb
  clear hx hb
  clear HD
  obtain ⟨c, ok, hcv, HCS, HCI⟩ := bothCR xa xb va vb (by omega) (by omega) (fun v hv => by have := hua v hv; unfold maxLen; omega) (fun v hv => by have := hub v hv; unfold maxLen; omega)
  have HCV := hide hcv
  clear hcv hua hub
  obtain ⟨ada, capa, hxa⟩ := (unhide XA).slice
  subst hxa
  obtain ⟨adb, capb, hxb, _⟩ := (unhide XB).cases
  subst hxb
  have hroom := OwnVs.room (unhide XA)
  go_wp2_with fail
  refine (HCI _ (unhide XA).vals (unhide XB)).mono ?_
  rintro e w2 ⟨rfl, hx⟩
  have hb : Below w1.heap.size w1 w2 := Below.trans (by go_grown) (hx.mono (by go_size))
  replace HC := hide ((unhide HC).below hb)
  replace XA := hide ((unhide XA).below hb)
  replace XB := hide ((unhide XB).below hb)
  replace HK := hide ((unhide HK).trans (hb.mono (unhide HK).size))
  clear hx hb
  go_wp2_with fail
  refine (HCS _ (unhide XA).vals (unhide XB)).mono ?_
  rintro e w3 ⟨rfl, hx⟩
  have hb : Below w2.heap.size w2 w3 := Below.trans (by go_grown) (hx.mono (by go_size))
  replace HC := hide ((unhide HC).below hb)
  replace XA := hide ((unhide XA).below hb)
  replace XB := hide ((unhide XB).below hb)
  replace HK := hide ((unhide HK).trans (hb.mono (unhide HK).size))
  clear hx hb
  clear HCS HCI
  rcases (unhide HCV) with ⟨rfl, hga, hgb, hcc⟩ | ⟨rfl, rfl⟩
  · have HGA := hide hga
    have HGB := hide hgb
    have HRA := fun W hW => implRBYes (.slice ada va.length capa) va W hW hga.2 hga.1
    have HRB := fun W hW => implRBYes (.slice adb vb.length capb) vb W hW hgb.2 hgb.1
    have HRR := fun W => implRRYes (vrowV va) va W (rowIs_of hga.1 hga.2)
    have HSW := fun W => sameWay (vrowV va) (vrowV vb) W
    rw [same_rows hga.1 hgb.1, ← hcc] at HSW
    have hxz := vrowV_size hga.2 hga.1
    have hyz := vrowV_size hgb.2 hgb.1
    have hl6a := hga.2
    have hl6b := hgb.2
    have HAF := fun (k : Nat) (hk : k ≤ va.length) W hW => implAfterYes (.slice ada k capa) (va.take k) W hW (by simp; omega) (good_take hga.1 k)
    have HBT := hide (fun (k : Nat) => between (good_take hga.1 k) hgb.1)
    have HCMP := hide (fun (i : Nat) (h1 : i < va.length) (h2 : i < vb.length) W => implCVYes (va.getD i v0) (vb.getD i v0) W (hga.1 _ (by simp [List.getD, h1])) (hgb.1 _ (by simp [List.getD, h2])))
    clear hga hgb hcc
    generalize vrowV va = X at *
    have HYB := hide (rfl : vrowV vb = vrowV vb)
    generalize vrowV vb = Y at *
    go_wp2_with fail
    refine (HRA _ (unhide XA).vals).mono ?_
    rintro e w4 ⟨rfl, hx⟩
    have hb : Below w3.heap.size w3 w4 := Below.trans (by go_grown) (hx.mono (by go_size))
    replace HC := hide ((unhide HC).below hb)
    replace XA := hide ((unhide XA).below hb)
    replace XB := hide ((unhide XB).below hb)
    replace HK := hide ((unhide HK).trans (hb.mono (unhide HK).size))
    clear hx hb
    go_wp2_with fail
    refine (HRB _ (unhide XB)).mono ?_
    rintro e w5 ⟨rfl, hx⟩
    have hb : Below w4.heap.size w4 w5 := Below.trans (by go_grown) (hx.mono (by go_size))
    replace HC := hide ((unhide HC).below hb)
    replace XA := hide ((unhide XA).below hb)
    replace XB := hide ((unhide XB).below hb)
    replace HK := hide ((unhide HK).trans (hb.mono (unhide HK).size))
    clear hx hb
    go_wp2_with fail
    refine (HRR _).mono ?_
    rintro e w6 ⟨x6, rfl, hx6, hx⟩
    have hb : Below w5.heap.size w5 w6 := Below.trans (by go_grown) (hx.mono (by go_size))
    replace HC := hide ((unhide HC).below hb)
    replace XA := hide ((unhide XA).below hb)
    replace XB := hide ((unhide XB).below hb)
    replace HK := hide ((unhide HK).trans (hb.mono (unhide HK).size))
    have V6 := hide hx6.vals
    clear hx6
    clear hx hb
    go_wp2_with fail
    refine (HSW _).mono ?_
    rintro e wz ⟨rfl, hwz⟩
    subst wz
    go_wp2_with fail
    refine (sameVals _ _ va _ (unhide V6) (unhide XA).vals (by omega)).mono ?_
    rintro e w7 ⟨rfl, hx⟩
    have hb : Below w6.heap.size w6 w7 := Below.trans (by go_grown) (hx.mono (by go_size))
    replace HC := hide ((unhide HC).below hb)
    replace XA := hide ((unhide XA).below hb)
    replace XB := hide ((unhide XB).below hb)
    replace V6 := hide ((unhide V6).below hb)
    replace HK := hide ((unhide HK).trans (hb.mono (unhide HK).size))
    clear hx hb
    clear HRA HRB HRR HSW V6
    go_wp2_with fail
    refine (numberIn _ n1 _ (unhide HC)).mono ?_
    rintro e wz ⟨z, rfl, hz0, hz1, hwz⟩
    subst hwz
    obtain ⟨k, hkz⟩ : ∃ k : Nat, z % ((va.length : Int) + 1) = (k : Int) := ⟨(z % ((va.length : Int) + 1)).toNat, by have := Int.emod_nonneg z (by omega : (va.length : Int) + 1 ≠ 0); omega⟩
    have hkl : k ≤ va.length := by have := Int.emod_lt_of_pos z (by omega : 0 < (va.length : Int) + 1); omega
    have HCUT := fun W => cutAny ada va.length capa k W (by omega)
    have hki0 : (0 : Int) ≤ (k : Int) := by omega
    have hkci : (k : Int) ≤ (capa : Int) := by omega
    have HAK := HAF k hkl
    have HBK := hide ((unhide HBT) k)
    clear HAF HBT
    generalize vrowV (va.take k) = P at *
    go_wp2_with fail
    rw [hkz]
    clear hkz
    refine (HAK _ (vals_take (unhide XA).vals hkl)).mono ?_
    rintro e w8 ⟨rfl, hx⟩
    have hb := hx
    replace HC := hide ((unhide HC).below hb)
    replace XA := hide ((unhide XA).below hb)
    replace XB := hide ((unhide XB).below hb)
    replace HK := hide ((unhide HK).trans (hb.mono (unhide HK).size))
    clear hx hb HAK HCUT
    have HST : Hid ((decide (k ≤ vb.length) = true ∧ k ≤ vb.length ∧ ∀ i, i < 0 → cmpV (va.getD i v0) (vb.getD i v0) = 0) ∨ (decide (k ≤ vb.length) = false ∧ beginsB (va.take k) vb = false)) := by
      by_cases h : k ≤ vb.length
      · exact .inl ⟨by simp [h], h, fun i hi => by omega⟩
      · exact .inr ⟨by simp [h], begins_short (by simp; omega)⟩
    have hdk : decide ((k : Int) ≤ (vb.length : Int)) = decide (k ≤ vb.length) := by simp
    go_wp2_with fail
    (try rw [hdk])
    clear hdk
    generalize decide (k ≤ vb.length) = B0 at *
    go_loopw [21, 22, 23, 24] (fun bg i d f wr => ∃ (j : Nat) (B : Bool), j ≤ k ∧ i = .int .i64 j ∧ bg = .bool B ∧ ((B = true ∧ k ≤ vb.length ∧ ∀ i, i < j → cmpV (va.getD i v0) (vb.getD i v0) = 0) ∨ (B = false ∧ beginsB (va.take k) vb = false)) ∧ Below w8.heap.size w8 wr) (fun _ i _ _ _ => k - (intOf i).toNat)
    case atStart => exact ⟨0, _, Nat.zero_le _, rfl, rfl, unhide HST, Below.refl _ _⟩
    case round =>
      obtain ⟨j, B, hj, rfl, rfl, hB, kb⟩ := hrel
      have kl := kb.size
      have hb := kb
      replace HC := hide ((unhide HC).below hb)
      replace XA := hide ((unhide XA).below hb)
      replace XB := hide ((unhide XB).below hb)
      replace HK := hide ((unhide HK).trans (hb.mono (unhide HK).size))
      clear hb
      have HKB := hide kb
      clear kb HST
      rcases hB with ⟨rfl, hkb, hall⟩ | ⟨rfl, hbf⟩
      · have HALL := hide hall
        clear hall
        by_cases hjk : j < k
        · obtain ⟨b1, off1, hada, hb1, hv1⟩ := (ValsAt.cases' (unhide XA).vals) j (by omega)
          obtain ⟨b2, off2, hadb, hb2, hv2⟩ := (ValsAt.cases' (unhide XB)) j (by omega)
          subst hada
          subst hadb
          obtain ⟨p0, p1, p2⟩ := hv1
          obtain ⟨q0, q1, q2⟩ := hv2
          have hji : (j : Int) < (k : Int) := by omega
          have hja : (j : Int) < (va.length : Int) := by omega
          have hjb : (j : Int) < (vb.length : Int) := by omega
          have hj0 : (0 : Int) ≤ (j : Int) := by omega
          have HCM := (unhide HCMP) j (by omega) (by omega)
          have HST2 : Hid ((decide (cmpV (va.getD j v0) (vb.getD j v0) = 0) = true ∧ k ≤ vb.length ∧ ∀ i, i < j + 1 → cmpV (va.getD i v0) (vb.getD i v0) = 0) ∨ (decide (cmpV (va.getD j v0) (vb.getD j v0) = 0) = false ∧ beginsB (va.take k) vb = false)) := by
            by_cases h : cmpV (va.getD j v0) (vb.getD j v0) = 0
            · refine .inl ⟨decide_eq_true h, hkb, fun i hi => ?_⟩
              by_cases e : i = j
              · rw [e]; exact h
              · exact unhide HALL i (by omega)
            · exact .inr ⟨decide_eq_false h, begins_at hkl hjk (by omega) (unhide HALL) h⟩
          generalize cmpV (va.getD j v0) (vb.getD j v0) = cz at *
          generalize va.getD j v0 = u at *
          generalize vb.getD j v0 = v at *
          obtain ⟨K, N, T⟩ := u
          obtain ⟨K2, N2, T2⟩ := v
          unfold encV at HCM
          simp only [] at HCM p0 p1 p2 q0 q1 q2
          have hqz : (cz == 0) = decide (cz = 0) := by by_cases h : cz = 0 <;> simp [h]
          generalize decide (cz = 0) = B2 at *
          go_upto_region 20 with fail
          go_region_held3 (fun w' => (w'.cell? ⟨b1, off1 + j * 3, none⟩ = some (.int .i64 K) ∧ w'.cell? ⟨b1, off1 + j * 3 + 1, none⟩ = some (.int .i64 N) ∧ w'.cell? ⟨b1, off1 + j * 3 + 2, none⟩ = some (.string T)) ∧ w'.cell? ⟨b2, off2 + j * 3, none⟩ = some (.int .i64 K2) ∧ w'.cell? ⟨b2, off2 + j * 3 + 1, none⟩ = some (.int .i64 N2) ∧ w'.cell? ⟨b2, off2 + j * 3 + 2, none⟩ = some (.string T2)) (first | go_keep | trivial)
            (first
              | (go_at_call 14; refine (HCM _).mono ?_; rintro e w9 ⟨rfl, hx9⟩; have hp9 := kept hx9 b1 (by simp; omega); have hq9 := kept hx9 b2 (by simp; omega); have k9 : Below w8.heap.size w8 w9 := (by exact (unhide HKB).trans ((Below.trans ((Below.refl wr.heap.size wr).drew) (hx9.mono (by simp))).mono kl)); clear hx9))
          all_goals go_wp2
          all_goals refine ⟨?_, by simp [intOf]; omega⟩
          all_goals exact ⟨j + 1, B2, by omega, by go_num, rfl, unhide HST2, k9⟩
        · have hje : j = k := by omega
          subst hje
          have hbt := unhide HBK
          rw [begins_yes hkl hkb (unhide HALL)] at hbt
          have g1 : Go.Op.bytesLess Y.toList P.toList = false := by
            cases h : Go.Op.bytesLess Y.toList P.toList
            · rfl
            · rw [h] at hbt; simp at hbt
          rw [g1] at hbt
          have g2 : Go.Op.bytesLess Y.toList (P ++ ⟨#[255]⟩).toList = true := by simpa using hbt
          clear hbt HALL HBK HCMP
          generalize P ++ ⟨#[255]⟩ = P2 at *
          (try clear XA XB)
          go_wp2_with fail
          refine (drawReadRow _ n1 _ (unhide HC)).mono ?_
          rintro e w20 ⟨s, rfl, hs, hx⟩
          have hb : Below wr.heap.size wr w20 := Below.trans (by go_grown) (hx.mono (by go_size))
          replace HC := hide ((unhide HC).below hb)
          replace HK := hide ((unhide HK).trans (hb.mono (unhide HK).size))
          clear hx hb
          have hsm : s.size ≤ maxLen := by unfold maxLen; omega
          obtain ⟨rvs, ok2, hr6, hro, HRS, HRI⟩ := bothRR s hsm
          have HRO := hide hro
          clear hro
          go_wp2_with fail
          refine (HRI _).mono ?_
          rintro e w21 ⟨x21, rfl, hv21, hx⟩
          have hb : Below w20.heap.size w20 w21 := Below.trans (by go_grown) (hx.mono (by go_size))
          replace HC := hide ((unhide HC).below hb)
          replace HK := hide ((unhide HK).trans (hb.mono (unhide HK).size))
          have V21 := hide hv21
          clear hv21
          clear hx hb
          go_wp2_with fail
          refine (HRS _).mono ?_
          rintro e w22 ⟨x22, rfl, hv22, hx⟩
          have hb : Below w21.heap.size w21 w22 := Below.trans (by go_grown) (hx.mono (by go_size))
          replace HC := hide ((unhide HC).below hb)
          replace V21 := hide ((unhide V21).below hb)
          replace HK := hide ((unhide HK).trans (hb.mono (unhide HK).size))
          have V22 := hide hv22
          clear hv22
          clear hx hb
          go_wp2_with fail
          refine (drawRow _ n1 _ (unhide HC)).mono ?_
          rintro e w23 ⟨xl, vl, rfl, hol, hll, hul, hx⟩
          have hb : Below w22.heap.size w22 w23 := Below.trans (by go_grown) (hx.mono (by go_size))
          replace HC := hide ((unhide HC).below hb)
          replace V21 := hide ((unhide V21).below hb)
          replace V22 := hide ((unhide V22).below hb)
          replace HK := hide ((unhide HK).trans (hb.mono (unhide HK).size))
          have VL := hide hol.vals
          clear hol
          clear hx hb
          obtain ⟨bs, at1, bt, ok3, HB1, HB2, HB3, HB4⟩ := bothRB xl vl (by omega) (fun v hv => by have := hul v hv; unfold maxLen; omega)
          clear hul
          go_wp2_with fail
          refine (HB2 _ (unhide VL)).mono ?_
          rintro e w24 ⟨rfl, hx⟩
          have hb : Below w23.heap.size w23 w24 := Below.trans (by go_grown) (hx.mono (by go_size))
          replace HC := hide ((unhide HC).below hb)
          replace V21 := hide ((unhide V21).below hb)
          replace V22 := hide ((unhide V22).below hb)
          replace VL := hide ((unhide VL).below hb)
          replace HK := hide ((unhide HK).trans (hb.mono (unhide HK).size))
          clear hx hb
          go_wp2_with fail
          refine (HB1 _ (unhide VL)).mono ?_
          rintro e w25 ⟨rfl, hx⟩
          have hb : Below w24.heap.size w24 w25 := Below.trans (by go_grown) (hx.mono (by go_size))
          replace HC := hide ((unhide HC).below hb)
          replace V21 := hide ((unhide V21).below hb)
          replace V22 := hide ((unhide V22).below hb)
          replace VL := hide ((unhide VL).below hb)
          replace HK := hide ((unhide HK).trans (hb.mono (unhide HK).size))
          clear hx hb
          go_wp2_with fail
          refine (HB4 _ (unhide VL)).mono ?_
          rintro e w26 ⟨rfl, hx⟩
          have hb : Below w25.heap.size w25 w26 := Below.trans (by go_grown) (hx.mono (by go_size))
          replace HC := hide ((unhide HC).below hb)
          replace V21 := hide ((unhide V21).below hb)
          replace V22 := hide ((unhide V22).below hb)
          replace VL := hide ((unhide VL).below hb)
          replace HK := hide ((unhide HK).trans (hb.mono (unhide HK).size))
          clear hx hb
          go_wp2_with fail
          refine (HB3 _ (unhide VL)).mono ?_
          rintro e w27 ⟨rfl, hx⟩
          have hb : Below w26.heap.size w26 w27 := Below.trans (by go_grown) (hx.mono (by go_size))
          replace HC := hide ((unhide HC).below hb)
          replace V21 := hide ((unhide V21).below hb)
          replace V22 := hide ((unhide V22).below hb)
          replace VL := hide ((unhide VL).below hb)
          replace HK := hide ((unhide HK).trans (hb.mono (unhide HK).size))
          clear hx hb
          clear HB1 HB2 HB3 HB4
          go_wp2_with fail
          refine (sameVals _ _ rvs _ (unhide V21) (unhide V22) (by omega)).mono ?_
          rintro e w28 ⟨rfl, hx⟩
          have hb : Below w27.heap.size w27 w28 := Below.trans (by go_grown) (hx.mono (by go_size))
          replace HC := hide ((unhide HC).below hb)
          replace V21 := hide ((unhide V21).below hb)
          replace V22 := hide ((unhide V22).below hb)
          replace VL := hide ((unhide VL).below hb)
          replace HK := hide ((unhide HK).trans (hb.mono (unhide HK).size))
          clear hx hb
          rcases (unhide HRO) with ⟨rfl, hrow⟩ | ⟨rfl, hrn⟩
          · have hrt := row_text hrow
            have HVB := fun W hW => implRBYes x21 rvs W hW hrow.2.1 hrow.1
            rw [hrt] at HVB
            clear hrt hrow
            cases ok3
            all_goals
              go_wp2_with fail
              refine (HVB _ (unhide V21)).mono ?_
              rintro e w29 ⟨rfl, hx⟩
              have hb : Below w28.heap.size w28 w29 := Below.trans (by go_grown) (hx.mono (by go_size))
              replace HC := hide ((unhide HC).below hb)
              replace V21 := hide ((unhide V21).below hb)
              replace V22 := hide ((unhide V22).below hb)
              replace VL := hide ((unhide VL).below hb)
              replace HK := hide ((unhide HK).trans (hb.mono (unhide HK).size))
              clear hx hb
              have kf := unhide HK
              clear HVB
              go_wp2
              go_ret
              exact ⟨rfl, kf⟩
          · clear hrn
            have kf := unhide HK
            cases ok3
            all_goals
              go_wp2
              go_ret
              exact ⟨rfl, kf⟩
      · have hbt := unhide HBK
        rw [hbf] at hbt
        clear hbf HBK HCMP
        cases g1 : Go.Op.bytesLess Y.toList P.toList
        · rw [g1] at hbt
          have g2 : Go.Op.bytesLess Y.toList (P ++ ⟨#[255]⟩).toList = false := by simpa using hbt
          clear hbt
          generalize P ++ ⟨#[255]⟩ = P2 at *
          (try clear XA XB)
          go_wp2_with fail
          refine (drawReadRow _ n1 _ (unhide HC)).mono ?_
          rintro e w20 ⟨s, rfl, hs, hx⟩
          have hb : Below wr.heap.size wr w20 := Below.trans (by go_grown) (hx.mono (by go_size))
          replace HC := hide ((unhide HC).below hb)
          replace HK := hide ((unhide HK).trans (hb.mono (unhide HK).size))
          clear hx hb
          have hsm : s.size ≤ maxLen := by unfold maxLen; omega
          obtain ⟨rvs, ok2, hr6, hro, HRS, HRI⟩ := bothRR s hsm
          have HRO := hide hro
          clear hro
          go_wp2_with fail
          refine (HRI _).mono ?_
          rintro e w21 ⟨x21, rfl, hv21, hx⟩
          have hb : Below w20.heap.size w20 w21 := Below.trans (by go_grown) (hx.mono (by go_size))
          replace HC := hide ((unhide HC).below hb)
          replace HK := hide ((unhide HK).trans (hb.mono (unhide HK).size))
          have V21 := hide hv21
          clear hv21
          clear hx hb
          go_wp2_with fail
          refine (HRS _).mono ?_
          rintro e w22 ⟨x22, rfl, hv22, hx⟩
          have hb : Below w21.heap.size w21 w22 := Below.trans (by go_grown) (hx.mono (by go_size))
          replace HC := hide ((unhide HC).below hb)
          replace V21 := hide ((unhide V21).below hb)
          replace HK := hide ((unhide HK).trans (hb.mono (unhide HK).size))
          have V22 := hide hv22
          clear hv22
          clear hx hb
          go_wp2_with fail
          refine (drawRow _ n1 _ (unhide HC)).mono ?_
          rintro e w23 ⟨xl, vl, rfl, hol, hll, hul, hx⟩
          have hb : Below w22.heap.size w22 w23 := Below.trans (by go_grown) (hx.mono (by go_size))
          replace HC := hide ((unhide HC).below hb)
          replace V21 := hide ((unhide V21).below hb)
          replace V22 := hide ((unhide V22).below hb)
          replace HK := hide ((unhide HK).trans (hb.mono (unhide HK).size))
          have VL := hide hol.vals
          clear hol
          clear hx hb
          obtain ⟨bs, at1, bt, ok3, HB1, HB2, HB3, HB4⟩ := bothRB xl vl (by omega) (fun v hv => by have := hul v hv; unfold maxLen; omega)
          clear hul
          go_wp2_with fail
          refine (HB2 _ (unhide VL)).mono ?_
          rintro e w24 ⟨rfl, hx⟩
          have hb : Below w23.heap.size w23 w24 := Below.trans (by go_grown) (hx.mono (by go_size))
          replace HC := hide ((unhide HC).below hb)
          replace V21 := hide ((unhide V21).below hb)
          replace V22 := hide ((unhide V22).below hb)
          replace VL := hide ((unhide VL).below hb)
          replace HK := hide ((unhide HK).trans (hb.mono (unhide HK).size))
          clear hx hb
          go_wp2_with fail
          refine (HB1 _ (unhide VL)).mono ?_
          rintro e w25 ⟨rfl, hx⟩
          have hb : Below w24.heap.size w24 w25 := Below.trans (by go_grown) (hx.mono (by go_size))
          replace HC := hide ((unhide HC).below hb)
          replace V21 := hide ((unhide V21).below hb)
          replace V22 := hide ((unhide V22).below hb)
          replace VL := hide ((unhide VL).below hb)
          replace HK := hide ((unhide HK).trans (hb.mono (unhide HK).size))
          clear hx hb
          go_wp2_with fail
          refine (HB4 _ (unhide VL)).mono ?_
          rintro e w26 ⟨rfl, hx⟩
          have hb : Below w25.heap.size w25 w26 := Below.trans (by go_grown) (hx.mono (by go_size))
          replace HC := hide ((unhide HC).below hb)
          replace V21 := hide ((unhide V21).below hb)
          replace V22 := hide ((unhide V22).below hb)
          replace VL := hide ((unhide VL).below hb)
          replace HK := hide ((unhide HK).trans (hb.mono (unhide HK).size))
          clear hx hb
          go_wp2_with fail
          refine (HB3 _ (unhide VL)).mono ?_
          rintro e w27 ⟨rfl, hx⟩
          have hb : Below w26.heap.size w26 w27 := Below.trans (by go_grown) (hx.mono (by go_size))
          replace HC := hide ((unhide HC).below hb)
          replace V21 := hide ((unhide V21).below hb)
          replace V22 := hide ((unhide V22).below hb)
          replace VL := hide ((unhide VL).below hb)
          replace HK := hide ((unhide HK).trans (hb.mono (unhide HK).size))
          clear hx hb
          clear HB1 HB2 HB3 HB4
          go_wp2_with fail
          refine (sameVals _ _ rvs _ (unhide V21) (unhide V22) (by omega)).mono ?_
          rintro e w28 ⟨rfl, hx⟩
          have hb : Below w27.heap.size w27 w28 := Below.trans (by go_grown) (hx.mono (by go_size))
          replace HC := hide ((unhide HC).below hb)
          replace V21 := hide ((unhide V21).below hb)
          replace V22 := hide ((unhide V22).below hb)
          replace VL := hide ((unhide VL).below hb)
          replace HK := hide ((unhide HK).trans (hb.mono (unhide HK).size))
          clear hx hb
          rcases (unhide HRO) with ⟨rfl, hrow⟩ | ⟨rfl, hrn⟩
          · have hrt := row_text hrow
            have HVB := fun W hW => implRBYes x21 rvs W hW hrow.2.1 hrow.1
            rw [hrt] at HVB
            clear hrt hrow
            cases ok3
            all_goals
              go_wp2_with fail
              refine (HVB _ (unhide V21)).mono ?_
              rintro e w29 ⟨rfl, hx⟩
              have hb : Below w28.heap.size w28 w29 := Below.trans (by go_grown) (hx.mono (by go_size))
              replace HC := hide ((unhide HC).below hb)
              replace V21 := hide ((unhide V21).below hb)
              replace V22 := hide ((unhide V22).below hb)
              replace VL := hide ((unhide VL).below hb)
              replace HK := hide ((unhide HK).trans (hb.mono (unhide HK).size))
              clear hx hb
              have kf := unhide HK
              clear HVB
              go_wp2
              go_ret
              exact ⟨rfl, kf⟩
          · clear hrn
            have kf := unhide HK
            cases ok3
            all_goals
              go_wp2
              go_ret
              exact ⟨rfl, kf⟩
        · clear hbt
          generalize P ++ ⟨#[255]⟩ = P2 at *
          (try clear XA XB)
          go_wp2_with fail
          refine (drawReadRow _ n1 _ (unhide HC)).mono ?_
          rintro e w20 ⟨s, rfl, hs, hx⟩
          have hb : Below wr.heap.size wr w20 := Below.trans (by go_grown) (hx.mono (by go_size))
          replace HC := hide ((unhide HC).below hb)
          replace HK := hide ((unhide HK).trans (hb.mono (unhide HK).size))
          clear hx hb
          have hsm : s.size ≤ maxLen := by unfold maxLen; omega
          obtain ⟨rvs, ok2, hr6, hro, HRS, HRI⟩ := bothRR s hsm
          have HRO := hide hro
          clear hro
          go_wp2_with fail
          refine (HRI _).mono ?_
          rintro e w21 ⟨x21, rfl, hv21, hx⟩
          have hb : Below w20.heap.size w20 w21 := Below.trans (by go_grown) (hx.mono (by go_size))
          replace HC := hide ((unhide HC).below hb)
          replace HK := hide ((unhide HK).trans (hb.mono (unhide HK).size))
          have V21 := hide hv21
          clear hv21
          clear hx hb
          go_wp2_with fail
          refine (HRS _).mono ?_
          rintro e w22 ⟨x22, rfl, hv22, hx⟩
          have hb : Below w21.heap.size w21 w22 := Below.trans (by go_grown) (hx.mono (by go_size))
          replace HC := hide ((unhide HC).below hb)
          replace V21 := hide ((unhide V21).below hb)
          replace HK := hide ((unhide HK).trans (hb.mono (unhide HK).size))
          have V22 := hide hv22
          clear hv22
          clear hx hb
          go_wp2_with fail
          refine (drawRow _ n1 _ (unhide HC)).mono ?_
          rintro e w23 ⟨xl, vl, rfl, hol, hll, hul, hx⟩
          have hb : Below w22.heap.size w22 w23 := Below.trans (by go_grown) (hx.mono (by go_size))
          replace HC := hide ((unhide HC).below hb)
          replace V21 := hide ((unhide V21).below hb)
          replace V22 := hide ((unhide V22).below hb)
          replace HK := hide ((unhide HK).trans (hb.mono (unhide HK).size))
          have VL := hide hol.vals
          clear hol
          clear hx hb
          obtain ⟨bs, at1, bt, ok3, HB1, HB2, HB3, HB4⟩ := bothRB xl vl (by omega) (fun v hv => by have := hul v hv; unfold maxLen; omega)
          clear hul
          go_wp2_with fail
          refine (HB2 _ (unhide VL)).mono ?_
          rintro e w24 ⟨rfl, hx⟩
          have hb : Below w23.heap.size w23 w24 := Below.trans (by go_grown) (hx.mono (by go_size))
          replace HC := hide ((unhide HC).below hb)
          replace V21 := hide ((unhide V21).below hb)
          replace V22 := hide ((unhide V22).below hb)
          replace VL := hide ((unhide VL).below hb)
          replace HK := hide ((unhide HK).trans (hb.mono (unhide HK).size))
          clear hx hb
          go_wp2_with fail
          refine (HB1 _ (unhide VL)).mono ?_
          rintro e w25 ⟨rfl, hx⟩
          have hb : Below w24.heap.size w24 w25 := Below.trans (by go_grown) (hx.mono (by go_size))
          replace HC := hide ((unhide HC).below hb)
          replace V21 := hide ((unhide V21).below hb)
          replace V22 := hide ((unhide V22).below hb)
          replace VL := hide ((unhide VL).below hb)
          replace HK := hide ((unhide HK).trans (hb.mono (unhide HK).size))
          clear hx hb
          go_wp2_with fail
          refine (HB4 _ (unhide VL)).mono ?_
          rintro e w26 ⟨rfl, hx⟩
          have hb : Below w25.heap.size w25 w26 := Below.trans (by go_grown) (hx.mono (by go_size))
          replace HC := hide ((unhide HC).below hb)
          replace V21 := hide ((unhide V21).below hb)
          replace V22 := hide ((unhide V22).below hb)
          replace VL := hide ((unhide VL).below hb)
          replace HK := hide ((unhide HK).trans (hb.mono (unhide HK).size))
          clear hx hb
          go_wp2_with fail
          refine (HB3 _ (unhide VL)).mono ?_
          rintro e w27 ⟨rfl, hx⟩
          have hb : Below w26.heap.size w26 w27 := Below.trans (by go_grown) (hx.mono (by go_size))
          replace HC := hide ((unhide HC).below hb)
          replace V21 := hide ((unhide V21).below hb)
          replace V22 := hide ((unhide V22).below hb)
          replace VL := hide ((unhide VL).below hb)
          replace HK := hide ((unhide HK).trans (hb.mono (unhide HK).size))
          clear hx hb
          clear HB1 HB2 HB3 HB4
          go_wp2_with fail
          refine (sameVals _ _ rvs _ (unhide V21) (unhide V22) (by omega)).mono ?_
          rintro e w28 ⟨rfl, hx⟩
          have hb : Below w27.heap.size w27 w28 := Below.trans (by go_grown) (hx.mono (by go_size))
          replace HC := hide ((unhide HC).below hb)
          replace V21 := hide ((unhide V21).below hb)
          replace V22 := hide ((unhide V22).below hb)
          replace VL := hide ((unhide VL).below hb)
          replace HK := hide ((unhide HK).trans (hb.mono (unhide HK).size))
          clear hx hb
          rcases (unhide HRO) with ⟨rfl, hrow⟩ | ⟨rfl, hrn⟩
          · have hrt := row_text hrow
            have HVB := fun W hW => implRBYes x21 rvs W hW hrow.2.1 hrow.1
            rw [hrt] at HVB
            clear hrt hrow
            cases ok3
            all_goals
              go_wp2_with fail
              refine (HVB _ (unhide V21)).mono ?_
              rintro e w29 ⟨rfl, hx⟩
              have hb : Below w28.heap.size w28 w29 := Below.trans (by go_grown) (hx.mono (by go_size))
              replace HC := hide ((unhide HC).below hb)
              replace V21 := hide ((unhide V21).below hb)
              replace V22 := hide ((unhide V22).below hb)
              replace VL := hide ((unhide VL).below hb)
              replace HK := hide ((unhide HK).trans (hb.mono (unhide HK).size))
              clear hx hb
              have kf := unhide HK
              clear HVB
              go_wp2
              go_ret
              exact ⟨rfl, kf⟩
          · clear hrn
            have kf := unhide HK
            cases ok3
            all_goals
              go_wp2
              go_ret
              exact ⟨rfl, kf⟩
  · (try clear XA XB)
    go_wp2_with fail
    refine (drawReadRow _ n1 _ (unhide HC)).mono ?_
    rintro e w20 ⟨s, rfl, hs, hx⟩
    have hb : Below w3.heap.size w3 w20 := Below.trans (by go_grown) (hx.mono (by go_size))
    replace HC := hide ((unhide HC).below hb)
    replace HK := hide ((unhide HK).trans (hb.mono (unhide HK).size))
    clear hx hb
    have hsm : s.size ≤ maxLen := by unfold maxLen; omega
    obtain ⟨rvs, ok2, hr6, hro, HRS, HRI⟩ := bothRR s hsm
    have HRO := hide hro
    clear hro
    go_wp2_with fail
    refine (HRI _).mono ?_
    rintro e w21 ⟨x21, rfl, hv21, hx⟩
    have hb : Below w20.heap.size w20 w21 := Below.trans (by go_grown) (hx.mono (by go_size))
    replace HC := hide ((unhide HC).below hb)
    replace HK := hide ((unhide HK).trans (hb.mono (unhide HK).size))
    have V21 := hide hv21
    clear hv21
    clear hx hb
    go_wp2_with fail
    refine (HRS _).mono ?_
    rintro e w22 ⟨x22, rfl, hv22, hx⟩
    have hb : Below w21.heap.size w21 w22 := Below.trans (by go_grown) (hx.mono (by go_size))
    replace HC := hide ((unhide HC).below hb)
    replace V21 := hide ((unhide V21).below hb)
    replace HK := hide ((unhide HK).trans (hb.mono (unhide HK).size))
    have V22 := hide hv22
    clear hv22
    clear hx hb
    go_wp2_with fail
    refine (drawRow _ n1 _ (unhide HC)).mono ?_
    rintro e w23 ⟨xl, vl, rfl, hol, hll, hul, hx⟩
    have hb : Below w22.heap.size w22 w23 := Below.trans (by go_grown) (hx.mono (by go_size))
    replace HC := hide ((unhide HC).below hb)
    replace V21 := hide ((unhide V21).below hb)
    replace V22 := hide ((unhide V22).below hb)
    replace HK := hide ((unhide HK).trans (hb.mono (unhide HK).size))
    have VL := hide hol.vals
    clear hol
    clear hx hb
    obtain ⟨bs, at1, bt, ok3, HB1, HB2, HB3, HB4⟩ := bothRB xl vl (by omega) (fun v hv => by have := hul v hv; unfold maxLen; omega)
    clear hul
    go_wp2_with fail
    refine (HB2 _ (unhide VL)).mono ?_
    rintro e w24 ⟨rfl, hx⟩
    have hb : Below w23.heap.size w23 w24 := Below.trans (by go_grown) (hx.mono (by go_size))
    replace HC := hide ((unhide HC).below hb)
    replace V21 := hide ((unhide V21).below hb)
    replace V22 := hide ((unhide V22).below hb)
    replace VL := hide ((unhide VL).below hb)
    replace HK := hide ((unhide HK).trans (hb.mono (unhide HK).size))
    clear hx hb
    go_wp2_with fail
    refine (HB1 _ (unhide VL)).mono ?_
    rintro e w25 ⟨rfl, hx⟩
    have hb : Below w24.heap.size w24 w25 := Below.trans (by go_grown) (hx.mono (by go_size))
    replace HC := hide ((unhide HC).below hb)
    replace V21 := hide ((unhide V21).below hb)
    replace V22 := hide ((unhide V22).below hb)
    replace VL := hide ((unhide VL).below hb)
    replace HK := hide ((unhide HK).trans (hb.mono (unhide HK).size))
    clear hx hb
    go_wp2_with fail
    refine (HB4 _ (unhide VL)).mono ?_
    rintro e w26 ⟨rfl, hx⟩
    have hb : Below w25.heap.size w25 w26 := Below.trans (by go_grown) (hx.mono (by go_size))
    replace HC := hide ((unhide HC).below hb)
    replace V21 := hide ((unhide V21).below hb)
    replace V22 := hide ((unhide V22).below hb)
    replace VL := hide ((unhide VL).below hb)
    replace HK := hide ((unhide HK).trans (hb.mono (unhide HK).size))
    clear hx hb
    go_wp2_with fail
    refine (HB3 _ (unhide VL)).mono ?_
    rintro e w27 ⟨rfl, hx⟩
    have hb : Below w26.heap.size w26 w27 := Below.trans (by go_grown) (hx.mono (by go_size))
    replace HC := hide ((unhide HC).below hb)
    replace V21 := hide ((unhide V21).below hb)
    replace V22 := hide ((unhide V22).below hb)
    replace VL := hide ((unhide VL).below hb)
    replace HK := hide ((unhide HK).trans (hb.mono (unhide HK).size))
    clear hx hb
    clear HB1 HB2 HB3 HB4
    go_wp2_with fail
    refine (sameVals _ _ rvs _ (unhide V21) (unhide V22) (by omega)).mono ?_
    rintro e w28 ⟨rfl, hx⟩
    have hb : Below w27.heap.size w27 w28 := Below.trans (by go_grown) (hx.mono (by go_size))
    replace HC := hide ((unhide HC).below hb)
    replace V21 := hide ((unhide V21).below hb)
    replace V22 := hide ((unhide V22).below hb)
    replace VL := hide ((unhide VL).below hb)
    replace HK := hide ((unhide HK).trans (hb.mono (unhide HK).size))
    clear hx hb
    rcases (unhide HRO) with ⟨rfl, hrow⟩ | ⟨rfl, hrn⟩
    · have hrt := row_text hrow
      have HVB := fun W hW => implRBYes x21 rvs W hW hrow.2.1 hrow.1
      rw [hrt] at HVB
      clear hrt hrow
      cases ok3
      all_goals
        go_wp2_with fail
        refine (HVB _ (unhide V21)).mono ?_
        rintro e w29 ⟨rfl, hx⟩
        have hb : Below w28.heap.size w28 w29 := Below.trans (by go_grown) (hx.mono (by go_size))
        replace HC := hide ((unhide HC).below hb)
        replace V21 := hide ((unhide V21).below hb)
        replace V22 := hide ((unhide V22).below hb)
        replace VL := hide ((unhide VL).below hb)
        replace HK := hide ((unhide HK).trans (hb.mono (unhide HK).size))
        clear hx hb
        have kf := unhide HK
        clear HVB
        go_wp2
        go_ret
        exact ⟨rfl, kf⟩
    · clear hrn
      have kf := unhide HK
      cases ok3
      all_goals
        go_wp2
        go_ret
        exact ⟨rfl, kf⟩
set_option maxRecDepth 100000 in
theorem walk (v0 : Value) (n0 : Nat) (h0 : n0 ≤ 140737488351232) (v1 : Value) (n1 : Nat) (h1 : n1 ≤ 140737488351232) (w : World) (hb0 : ByteRow w v0 n0) (hb1 : ByteRow w v1 n1) :
    Calls Try.prog 4 #[v0, v1] w fun e w' => e = .returned (.bool true) ∧ Below w.heap.size w w' := by
  by_cases hn : n0 + n1 ≤ 1048576
  · exact walk0 v0 n0 v1 n1 w (hb0.code (by omega)) (hb1.code (by omega)) hn
  · obtain ⟨ad0, c0, rfl, _⟩ := hb0
    obtain ⟨ad1, c1, rfl, _⟩ := hb1
    have hbig : (1048576 : Int) < (n0 : Int) + (n1 : Int) := by omega
    go_enter Try.func4, Try.ntmps4
    go_wp2
    go_returns
    exact ⟨rfl, by go_grown⟩

theorem own : ownKnob Try.prog.godebug = none := by kernel_rfl
theorem laidOut : laidOutB Try.prog = true := by kernel_rfl
set_option maxRecDepth 100000 in
theorem lifted (os : Os) (started : os.Started) (H : Type) (enc : TypeId × Value → H) :
    ReturnsInHanded {} Try.checked os 4 .any (Rows.fnRowsSpec.pre6 enc Try.prog Try.f4 Rows.fnRowsRow.domain false) (Rows.fnRowsSpec.post enc Try.prog Try.f4 false true false false) := by
  refine returnsInHanded_of_change_sized (C := Try.checked) own started (by kernel_rfl) Try.func4
    (ChangeSpec.witness6 (enc := enc) (C := Try.checked) false ⟨#[], #[.slice none 0 0, .slice none 0 0], []⟩ 8 (by kernel_rfl) (by kernel_rfl) (by kernel_rfl) (by kernel_rfl)) ?_
  intro W base args ds gs before hval0 hW hcnd hsz0 _
  have hsz : (DataW.weightsEach Try.prog (Try.f4.params.toList ++ (OpenSpec.ofChange Rows.fnRowsSpec).bare.plain.varTypes Try.prog) (ds ++ gs)).all (· ≤ reachBytes) = true := hsz0
  have hval : ∀ (j : Nat) t v, Try.f4.params[j]? = some t → args[j]? = some v → Value.okWide Try.prog W .any base t v := hval0
  have hW' := hW
  obtain ⟨p, q, hA0, hV, rfl, hfz, hnd⟩ := hW
  have hA : DataW.TrodAll enc Try.prog W 0 (fun _ => true) true Try.f4.params.toList args.toList ds p := hA0
  rw [Try.params4] at hA hval
  obtain ⟨v0, vs0, d0, ds0, p0, q0, hargs, rfl, rfl, h0, r0⟩ := trodAll_cons hA
  obtain ⟨v1, vs1, d1, ds1, p1, q1, rfl, rfl, rfl, h1, r1⟩ := trodAll_cons r0
  obtain ⟨rfl, rfl, rfl⟩ := trodAll_nil r1
  obtain rfl : args = #[v0, v1] := by cases args; simp_all
  obtain ⟨rfl, rfl⟩ := trodVars_none hV
  obtain ⟨ad0, len0, cap0, rfl⟩ := okWide_slice Try.underlying22 (hval 0 22 v0 rfl rfl)
  have kk0 := h0
  have lt0 : ∀ x ∈ p0, x.block < W.heap.size := by obtain ⟨m, hm⟩ := kk0; exact DataW.trod_lt m _ _ _ hm
  obtain ⟨hbr0, hbn0⟩ := bytes_of h0 hsz (j := 0) (by rw [Try.params4]; rfl) rfl
  obtain ⟨ad1, len1, cap1, rfl⟩ := okWide_slice Try.underlying22 (hval 1 22 v1 rfl rfl)
  have kk1 := h1
  have lt1 : ∀ x ∈ p1, x.block < W.heap.size := by obtain ⟨m, hm⟩ := kk1; exact DataW.trod_lt m _ _ _ hm
  obtain ⟨hbr1, hbn1⟩ := bytes_of h1 hsz (j := 1) (by rw [Try.params4]; rfl) rfl
  clear hA0 hval0
  refine (walk _ len0 hbn0 _ len1 hbn1 W hbr0 hbr1).mono fun e W' ⟨he, bel⟩ => ?_
  subst he
  exact ⟨_, rfl, _, _, _, [], _, [], hW', trodAll_mk1 (shut_bool Try.underlying4 _), (trodAll_cons_mk (Below.trod laidOut (by kernel_rfl) (of_decide_eq_true (by kernel_rfl)) kk0 bel lt0) (trodAll_cons_mk (Below.trod laidOut (by kernel_rfl) (of_decide_eq_true (by kernel_rfl)) kk1 bel lt1) trodAll_mk0)), rfl, bel.frame _, fun h => by cases h⟩

theorem over : Rows.fnRowsRow.holds Try.pinned (OpenSpec.ofChange Rows.fnRowsSpec) :=
  OpenClaim.holds_of_wide 4 Try.f4 rfl rfl rfl rfl rfl rfl rfl ⟨rfl, rfl, rfl, rfl, rfl⟩ rfl rfl rfl rfl rfl (by kernel_rfl) Try.func4 (by kernel_rfl)
    (of_decide_eq_true (by kernel_rfl)) (by unfold Func.isWrapper; first | (rw [if_pos (by decide +kernel)]; kernel_rfl) | (rw [if_neg (by decide +kernel)]; exact ⟨rfl, rfl⟩))
    (fun os started H enc _ => lifted os started H enc)
end Go.Proofs.Ytolkiofdbdjfkaa.fnRows
namespace Go.Proofs.Ytolkiofdbdjfkaa
theorem fnRows_holds : Rows.FnRowsSaid := fnRows.over
#print axioms fnRows_holds
end Go.Proofs.Ytolkiofdbdjfkaa
