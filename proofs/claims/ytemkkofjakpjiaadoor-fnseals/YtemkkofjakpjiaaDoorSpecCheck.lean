/- Contracts of the model's CheckSeal. Condition: the seal's lists lie in memory. -/
import Derived.Test.YtemkkofjakpjiaaDoorSpecSeal
namespace Go.Proofs.YtemkkofjakpjiaaDoor
open Go.ChangeShapes Go.WideShapes Go.ChangeAt Go.RowKit Go.Deep
set_option linter.unusedVariables false
attribute [local go_sem ↓] Go.wp_at_zero Go.wp_at_succ

/-- A good seal. -/
def SealOk (n : Int) (ss ws : List ByteArray) : Prop := (0 ≤ n ∧ n ≤ 7) ∧ GoodS ss ∧ Good3 ws
def sealB (n : Int) (ss ws : List ByteArray) : Bool := decide (0 ≤ n ∧ n ≤ 7) && (goodSB ss && good3B ws)
theorem sealB_true {n : Int} {ss ws : List ByteArray} (h : SealOk n ss ws) : sealB n ss ws = true := by
  simp [sealB, goodSB_true.2 h.2.1, good3B_true.2 h.2.2, h.1.1, h.1.2]
theorem sealB_false {n : Int} {ss ws : List ByteArray} (h : ¬ SealOk n ss ws) : sealB n ss ws = false := by
  cases e : sealB n ss ws
  · rfl
  · exfalso
    simp only [sealB, Bool.and_eq_true, decide_eq_true_eq] at e
    exact h ⟨e.1, goodSB_true.1 e.2.1, good3B_true.1 e.2.2⟩
set_option maxHeartbeats 1600000 in
theorem specSealGood (n : Int) (v1 v2 : Value) (ss ws : List ByteArray) (w : World) (h1 : StrsAt w v1 ss) (h2 : StrsAt w v2 ws) (hl1 : ss.length ≤ 1048576) (hl2 : ws.length ≤ 1048576) :
    Calls Tryd.prog 93 #[.agg #[.int .i64 n, v1, v2]] w fun e w' => e = .returned (.bool (sealB n ss ws)) ∧ Below w.heap.size w w' := by
  have G1 := fun W hW => specGoodSign v1 ss W hW hl1
  have G2 := fun W hW => specFour v2 ws W hW hl2
  have hal := (Below.refl w.heap.size w).alloc (Nat.le_refl _) (.cells #[.int .i64 n, v1, v2] 49)
  have H1 := h1.below hal
  have H2 := h2.below hal
  have HB1 : Hid (StrsAt _ v1 ss) := H1
  have HB2 : Hid (StrsAt _ v2 ws) := H2
  have HAL : Hid (Below w.heap.size w _) := hal
  clear h1 h2 H1 H2 hal
  by_cases h0 : 0 ≤ n ∧ n ≤ 7
  · have HD : Hid (sealB n ss ws = (goodSB ss && good3B ws)) := by show _ = _; simp [sealB, h0.1, h0.2]
    generalize goodSB ss = a at *
    generalize good3B ws = b at *
    cases a
    · go_enter Tryd.func93, Tryd.ntmps93
      go_wp2_with fail
      refine (specNoYes n _ h0.1 h0.2).mono ?_
      rintro e w0 ⟨rfl, rfl⟩
      go_wp2_with fail
      refine (G1 _ HB1.out).mono ?_
      rintro e w1 ⟨rfl, hb1⟩
      have k1 := HAL.out.trans (hb1.mono (by simp))
      clear G1 G2 hb1
      go_wp2
      go_returns
      exact ⟨by rw [HD.out]; rfl, k1⟩
    · go_enter Tryd.func93, Tryd.ntmps93
      go_wp2_with fail
      refine (specNoYes n _ h0.1 h0.2).mono ?_
      rintro e w0 ⟨rfl, rfl⟩
      go_wp2_with fail
      refine (G1 _ HB1.out).mono ?_
      rintro e w1 ⟨rfl, hb1⟩
      have k1 := HAL.out.trans (hb1.mono (by simp))
      have c2 : w1.cell? ⟨w.heap.size, 2, none⟩ = some v2 := (hb1.cell (p := ⟨w.heap.size, 2, none⟩) (by simp)).trans (by simp)
      have HB3 : Hid (StrsAt w1 v2 ws) := HB2.out.below hb1
      have hl := k1.size
      clear hb1
      go_wp2_with fail
      refine (G2 _ HB3.out).mono ?_
      rintro e w2 ⟨rfl, hb2⟩
      have k2 := k1.trans (hb2.mono hl)
      clear G1 G2 hb2
      go_wp2
      go_returns
      exact ⟨by rw [HD.out]; rfl, k2⟩
  · have HD : Hid (sealB n ss ws = false) := by show _ = _; simp [sealB, h0]
    clear G1 G2
    go_enter Tryd.func93, Tryd.ntmps93
    go_wp2_with fail
    refine (specNoNo n _ h0).mono ?_
    rintro e w0 ⟨rfl, rfl⟩
    go_wp2
    go_returns
    exact ⟨by rw [HD.out]; rfl, HAL.out⟩

def CheckTYes (top t : ByteArray) (n : Int) (ss ws : List ByteArray) : Prop := top.size = 4 ∧ t.size ≤ 200 ∧ SealOk n ss ws
set_option maxHeartbeats 3200000 in
theorem specCheckTYes (top t : ByteArray) (N : Nat) (v1 v2 : Value) (ss ws : List ByteArray) (w : World) (h1 : StrsAt w v1 ss) (h2 : StrsAt w v2 ws) (hl1 : ss.length ≤ 1048576) (hl2 : ws.length ≤ 1048576) (hy : CheckTYes top t N ss ws) :
    Calls Tryd.prog 40 #[.string top, .string t, .agg #[.int .i64 N, v1, v2]] w fun e w' => e = .returned (.tuple #[.bool ((topFromB N (fromB t ss) ws).toList == top.toList), .bool true]) ∧ Below w.heap.size w w' := by
  have hp : (top.size : Int) = 4 := by have := hy.1; omega
  have hN : N < 8 := by have := hy.2.2.1; omega
  have HG := fun W h1 h2 => specSealGood (N : Int) v1 v2 ss ws W h1 h2 hl1 hl2
  rw [sealB_true hy.2.2] at HG
  have hal := (Below.refl w.heap.size w).alloc (Nat.le_refl _) (.cells #[.int .i64 N, v1, v2] 49)
  have HB1 : Hid (StrsAt _ v1 ss) := h1.below hal
  have HB2 : Hid (StrsAt _ v2 ws) := h2.below hal
  have HAL : Hid (Below w.heap.size w _) := hal
  clear h1 h2 hal
  have HF := fun b1 of1 cp1 => specL2From t ss b1 of1 cp1
  have hf4 : (fromB t ss).size = 4 := by unfold fromB; exact digestB_size _ _
  have HTp := fun b2 of2 cp2 W hb hc hs2 => specTop N (fromB t ss) ws b2 of2 cp2 W hN hf4 hy.2.2.2.2.1 hb hc hs2
  clear hf4
  generalize fromB t ss = FF at *
  generalize topFromB N FF ws = TT at *
  go_enter Tryd.func40, Tryd.ntmps40
  go_wp2_with fail
  refine (specLongYes t _ hy.2.1).mono ?_
  rintro e w0 ⟨rfl, rfl⟩
  go_wp2_with fail
  refine (HG _ HB1.out HB2.out).mono ?_
  rintro e w1 ⟨rfl, hb1⟩
  have k1 := HAL.out.trans (hb1.mono (by simp))
  have hl := k1.size
  have hB : w.heap.size < w1.heap.size := by have := hb1.size; simp at this; omega
  have d0 : w1.cell? ⟨w.heap.size, 0, none⟩ = some (.int .i64 N) := (hb1.cell (p := ⟨w.heap.size, 0, none⟩) (by simp)).trans (by simp)
  have d1 : w1.cell? ⟨w.heap.size, 1, none⟩ = some v1 := (hb1.cell (p := ⟨w.heap.size, 1, none⟩) (by simp)).trans (by simp)
  have d2 : w1.cell? ⟨w.heap.size, 2, none⟩ = some v2 := (hb1.cell (p := ⟨w.heap.size, 2, none⟩) (by simp)).trans (by simp)
  obtain ⟨b1, of1, cp1, rfl, hb1', hc1, hs1⟩ := goodS_row (HB1.out.below hb1) hy.2.2.2.1
  obtain ⟨b2, of2, cp2, rfl, hb2', hc2, hs2⟩ := good3_row (HB2.out.below hb1) hy.2.2.2.2
  replace HF := HF b1 of1 cp1
  replace HTp := fun W hb hc => HTp b2 of2 cp2 W hb hc hs2
  have HC1 : Hid (∀ i, i < 11 → w1.cell? ⟨b1, of1 + i, none⟩ = some (.string (ss.getD i ByteArray.empty))) := hc1
  have HC2 : Hid (∀ i, i < 3 → w1.cell? ⟨b2, of2 + i, none⟩ = some (.string (ws.getD i ByteArray.empty))) := hc2
  have HS1 : Hid (∀ i, i < 11 → (ss.getD i ByteArray.empty).size = 4) := hs1
  have HK1 : Hid (Below w.heap.size w w1) := k1
  clear hc1 hc2 hs1 hs2 HG HB1 HB2 HAL hb1 k1
  go_upto_region 3 with fail
  go_region_held3 (fun w' => w'.cell? ⟨w.heap.size, 0, none⟩ = some (.int .i64 N) ∧ w'.cell? ⟨w.heap.size, 1, none⟩ = some (.slice (some ⟨b1, of1, none⟩) 11 cp1) ∧ w'.cell? ⟨w.heap.size, 2, none⟩ = some (.slice (some ⟨b2, of2, none⟩) 3 cp2)) (go_keep)
    (first
      | (go_at_call 82; refine (HF _ hy.2.1 (by simpa using hb1') (fun i hi => by simpa using HC1.out i hi) HS1.out).mono ?_; rintro e w3 ⟨rfl, hb3⟩; have hp3 := kept hb3 w.heap.size (by go_size); have hz3 := hb3.size; (try simp only [World.size_drew] at hz3); have hB3 : w.heap.size < w3.heap.size := (by omega); have k3 : Below w1.heap.size w1 w3 := (by exact Below.trans (by go_grown) (hb3.mono (by go_size))); have HC3 : Hid (∀ i, i < 3 → w3.cell? ⟨b2, of2 + i, none⟩ = some (.string (ws.getD i ByteArray.empty))) := (fun i hi => (k3.cell (p := ⟨b2, of2 + i, none⟩) hb2').trans (HC2.out i hi)); have hb23 : b2 < w3.heap.size := (by omega); clear hb3)
      | (go_at_call 94; refine (HTp _ (by simpa using hb23) (fun i hi => by simpa using HC3.out i hi)).mono ?_; rintro e w4 ⟨rfl, hb4⟩; have hp4 := kept hb4 w.heap.size (by go_size); have k4 : Below w1.heap.size w1 w4 := (by exact Below.trans k3 (hb4.mono (by go_size))); clear hb4))
  all_goals
    go_wp2_with fail
    go_returns
    exact ⟨rfl, HK1.out.trans (k4.mono hl)⟩
set_option maxHeartbeats 3200000 in
theorem specCheckTNo (top t : ByteArray) (n : Int) (v1 v2 : Value) (ss ws : List ByteArray) (w : World) (hmp : top.size ≤ maxLen) (hm : t.size ≤ maxLen) (h1 : StrsAt w v1 ss) (h2 : StrsAt w v2 ws) (hl1 : ss.length ≤ 1048576) (hl2 : ws.length ≤ 1048576) (hn : ¬ CheckTYes top t n ss ws) :
    Calls Tryd.prog 40 #[.string top, .string t, .agg #[.int .i64 n, v1, v2]] w fun e w' => e = .returned (.tuple #[.bool false, .bool false]) ∧ Below w.heap.size w w' := by
  unfold maxLen at hmp
  have hal := (Below.refl w.heap.size w).alloc (Nat.le_refl _) (.cells #[.int .i64 n, v1, v2] 49)
  have HB1 : Hid (StrsAt _ v1 ss) := h1.below hal
  have HB2 : Hid (StrsAt _ v2 ws) := h2.below hal
  have HAL : Hid (Below w.heap.size w _) := hal
  clear h1 h2 hal
  by_cases h0 : top.size = 4
  · have hp : (top.size : Int) = 4 := by omega
    by_cases h3 : t.size ≤ 200
    · have HG := fun W h1 h2 => specSealGood n v1 v2 ss ws W h1 h2 hl1 hl2
      rw [sealB_false (fun g => hn ⟨h0, h3, g⟩)] at HG
      go_enter Tryd.func40, Tryd.ntmps40
      go_wp2_with fail
      refine (specLongYes t _ h3).mono ?_
      rintro e w0 ⟨rfl, rfl⟩
      go_wp2_with fail
      refine (HG _ HB1.out HB2.out).mono ?_
      rintro e w1 ⟨rfl, hb1⟩
      have k1 := HAL.out.trans (hb1.mono (by simp))
      clear HG hb1
      go_wp2
      go_returns
      exact ⟨rfl, k1⟩
    · go_enter Tryd.func40, Tryd.ntmps40
      go_wp2_with fail
      refine (specLongNo t _ hm (by omega)).mono ?_
      rintro e w0 ⟨rfl, rfl⟩
      go_wp2
      go_returns
      exact ⟨rfl, HAL.out⟩
  · have hp : ¬ (top.size : Int) = 4 := by omega
    go_enter Tryd.func40, Tryd.ntmps40
    go_wp2
    go_returns
    exact ⟨rfl, HAL.out⟩
end Go.Proofs.YtemkkofjakpjiaaDoor
