/- Scores as a heap may have them, and their order; program and model. Condition: the list lies in memory. -/
import Derived.Test.YthdodlbhkpoadaaGoodB
import Derived.Test.YthdodlbhkpoadaaHeapR
import Derived.Test.YthdodlbhkpoadaaRwB
namespace Go.Proofs.Ythdodlbhkpoadaa
open Go.ChangeShapes Go.WideShapes Go.ChangeAt Go.RowKit Go.Deep
set_option linter.unusedVariables false
attribute [local go_sem ↓] Go.wp_at_zero Go.wp_at_succ

def GoodH (l : List Sc) : Prop := l.length ≤ 60 ∧ ∀ i, i < l.length → okSc (gd l i) 0 10000 = true
set_option maxHeartbeats 3200000 in
set_option maxRecDepth 100000 in
theorem implScores (x : Value) (l : List Sc) (B : Bool) (hB : B = true ↔ GoodH l) (w : World) (h : ScsAt w x l) (hl : l.length ≤ 1048576) :
    Calls Try.prog 71 #[x] w fun e w' => e = .returned (.bool B) ∧ Below w.heap.size w w' := by
  have HB := hid hB
  clear hB
  by_cases h1 : 60 < l.length
  · have HF : Hid (B = false) := bool_no HB.out (fun hg => by have := hg.1; omega)
    obtain ⟨xa, xc, rfl⟩ := h.slice
    have hi : (60 : Int) < (l.length : Int) := by omega
    clear h
    go_enter Try.func71, Try.ntmps71
    go_wp2
    go_returns
    exact ⟨by rw [HF.out]; rfl, by go_grown⟩
  have hi : ¬ (60 : Int) < (l.length : Int) := by omega
  rcases h with ⟨a0, c0, rfl, rfl⟩ | ⟨b, off, cap, rfl, hb, hcell⟩
  · have HT : Hid (B = true) := HB.out.2 ⟨by simp, fun i hi => by simp at hi⟩
    go_enter Try.func71, Try.ntmps71
    go_wp2
    go_loopw [10] (fun i wr => i = .int .i64 0 ∧ Below w.heap.size w wr) (fun _ _ => 0)
    case atStart => exact ⟨rfl, by go_grown⟩
    case round =>
      obtain ⟨rfl, kb⟩ := hrel
      go_wp2
      go_returns
      exact ⟨by rw [HT.out]; rfl, kb⟩
  · have HC := hid hcell
    clear hcell
    go_enter Try.func71, Try.ntmps71
    go_wp2
    go_loopw [10] (fun i wr => ∃ k : Nat, k ≤ l.length ∧ i = .int .i64 k ∧ Hid (∀ i, i < k → okSc (gd l i) 0 10000 = true) ∧ Below w.heap.size w wr) (fun i _ => l.length - (intOf i).toNat)
    case atStart => exact ⟨0, Nat.zero_le _, rfl, fun i hi => by omega, by go_grown⟩
    case round =>
      obtain ⟨k, hk, rfl, hall, kb⟩ := hrel
      have kl := kb.size
      by_cases hlt : k < l.length
      · obtain ⟨p0, p1⟩ := (HC.out k hlt).below hb kb
        have hki : (k : Int) < (l.length : Int) := by omega
        have hk0 : (0 : Int) ≤ (k : Int) := by omega
        have hbr : b < wr.heap.size := by omega
        have HGS := fun W => implGSc (gd l k) 0 10000 W
        obtain ⟨G, hG⟩ : ∃ G, G = okSc (gd l k) 0 10000 := ⟨_, rfl⟩
        rw [← hG] at HGS
        have HG := hid hG
        clear hG
        have HN : Hid (G = true → ∀ i, i < k + 1 → okSc (gd l i) 0 10000 = true) := fun hg i hi => by
          by_cases e : i = k
          · rw [e, ← HG.out]; exact hg
          · exact hall.out i (by omega)
        have HX : Hid (G = false → B = false) := fun hg => bool_no HB.out (fun hh => by have := hh.2 k hlt; rw [← HG.out, hg] at this; cases this)
        clear HG
        generalize gd l k = u at *
        go_wp2_with fail
        refine (HGS _).mono ?_
        rintro e w1 ⟨rfl, hb1⟩
        have k1 : Below w.heap.size w w1 := kb.trans ((Below.trans (by go_grown) (hb1.mono (by simp))).mono kl)
        clear hb1 HGS p0 p1
        cases G with
        | false =>
          have HF := hid (HX.out rfl)
          go_wp2
          go_returns
          exact ⟨by rw [HF.out]; rfl, k1⟩
        | true =>
          have HY := hid (HN.out rfl)
          go_wp2
          exact ⟨⟨k + 1, by omega, by go_num, HY.out, k1⟩, by simp [intOf]; omega⟩
      · have hki : ¬ (k : Int) < (l.length : Int) := by omega
        have HT : Hid (B = true) := HB.out.2 ⟨by omega, fun i hi => hall.out i (by omega)⟩
        go_wp2
        go_returns
        exact ⟨by rw [HT.out]; rfl, kb⟩
set_option maxHeartbeats 3200000 in
set_option maxRecDepth 100000 in
theorem specHeapB (x : Value) (l : List Sc) (B : Bool) (hB : B = true ↔ GoodH l) (w : World) (h : ScsAt w x l) (hl : l.length ≤ 2000000) :
    Calls Try.prog 75 #[x] w fun e w' => e = .returned (.bool B) ∧ Below w.heap.size w w' := by
  have HB := hid hB
  clear hB
  rcases h with ⟨a0, c0, rfl, rfl⟩ | ⟨b, off, cap, rfl, hb, hcell⟩
  · have HT : Hid (B = true) := HB.out.2 ⟨by simp, fun i hi => by simp at hi⟩
    go_enter Try.func75, Try.ntmps75
    go_wp2
    go_loopw [7] (fun i wr => i = .int .i64 0 ∧ Below w.heap.size w wr) (fun _ _ => 0)
    case atStart => exact ⟨rfl, by go_grown⟩
    case round =>
      obtain ⟨rfl, kb⟩ := hrel
      go_wp2
      go_returns
      exact ⟨by rw [HT.out]; rfl, kb⟩
  · have HC := hid hcell
    clear hcell
    go_enter Try.func75, Try.ntmps75
    go_wp2
    go_loopw [7] (fun i wr => ∃ k : Nat, k ≤ l.length ∧ i = .int .i64 k ∧ Hid (∀ i, i < k → okSc (gd l i) 0 10000 = true) ∧ Below w.heap.size w wr) (fun i _ => l.length - (intOf i).toNat)
    case atStart => exact ⟨0, Nat.zero_le _, rfl, fun i hi => by omega, by go_grown⟩
    case round =>
      obtain ⟨k, hk, rfl, hall, kb⟩ := hrel
      have kl := kb.size
      by_cases hlt : k < l.length
      · obtain ⟨p0, p1⟩ := (HC.out k hlt).below hb kb
        have hki : (k : Int) < (l.length : Int) := by omega
        have hk0 : (0 : Int) ≤ (k : Int) := by omega
        have hbr : b < wr.heap.size := by omega
        obtain ⟨G1, hG1⟩ : ∃ G, G = decide (0 ≤ (gd l k).1 ∧ (gd l k).1 ≤ 99) := ⟨_, rfl⟩
        obtain ⟨G2, hG2⟩ : ∃ G, G = decide (0 ≤ (gd l k).2 ∧ (gd l k).2 ≤ 10000) := ⟨_, rfl⟩
        have HN1 := fun W => specIn (gd l k).1 0 99 G1 hG1 W
        have HN2 := fun W => specIn (gd l k).2 0 10000 G2 hG2 W
        have HG : Hid (okSc (gd l k) 0 10000 = (G1 && G2)) := by show _ = _; rw [hG1, hG2]; rfl
        have HN : Hid (G1 = true → G2 = true → ∀ i, i < k + 1 → okSc (gd l i) 0 10000 = true) := fun h1 h2 i hi => by
          by_cases e : i = k
          · rw [e, HG.out, h1, h2]; rfl
          · exact hall.out i (by omega)
        have HX : Hid ((G1 = false ∨ G2 = false) → B = false) := fun hg => bool_no HB.out (fun hh => by
          have := hh.2 k hlt
          rw [HG.out] at this
          rcases hg with hg | hg <;> simp [hg] at this)
        clear HG hG1 hG2
        generalize gd l k = u at *
        go_wp2_with fail
        refine (HN1 _).mono ?_
        rintro e w1 ⟨rfl, hw1⟩
        subst w1
        cases G1 with
        | false =>
          have HF := hid (HX.out (.inl rfl))
          go_wp2
          go_returns
          exact ⟨by rw [HF.out]; rfl, by go_grown⟩
        | true =>
          go_wp2_with fail
          refine (HN2 _).mono ?_
          rintro e w1 ⟨rfl, hw1⟩
          subst w1
          cases G2 with
          | false =>
            have HF := hid (HX.out (.inr rfl))
            go_wp2
            go_returns
            exact ⟨by rw [HF.out]; rfl, by go_grown⟩
          | true =>
            have HY := hid (HN.out (by first | rfl | trivial) (by first | rfl | trivial))
            go_wp2
            exact ⟨⟨k + 1, by omega, by go_num, HY.out, by go_grown⟩, by simp [intOf]; omega⟩
      · have hki : ¬ (k : Int) < (l.length : Int) := by omega
        by_cases h60 : l.length ≤ 60
        · have HT : Hid (B = true) := HB.out.2 ⟨h60, fun i hi => hall.out i (by omega)⟩
          have h6i : (l.length : Int) ≤ 60 := by omega
          go_wp2
          go_returns
          exact ⟨by rw [HT.out]; first | rfl | (simp [h6i]; done), kb⟩
        · have HF : Hid (B = false) := bool_no HB.out (fun hg => h60 hg.1)
          have h6i : ¬ (l.length : Int) ≤ 60 := by omega
          go_wp2
          go_returns
          exact ⟨by rw [HF.out]; first | rfl | (simp [h6i]; done) | (simp; omega), kb⟩
set_option maxHeartbeats 3200000 in
set_option maxRecDepth 100000 in
theorem implOrder (x : Value) (l : List Sc) (B : Bool) (hB : B = true ↔ IsH l) (w : World) (h : ScsAt w x l) (hl : l.length ≤ 1048576) :
    Calls Try.prog 72 #[x] w fun e w' => e = .returned (.bool B) ∧ Below w.heap.size w w' := by
  have HB := hid hB
  have HS := hid h
  obtain ⟨xa, xc, rfl⟩ := h.slice
  clear hB h
  go_enter Try.func72, Try.ntmps72
  go_wp2
  go_loopw [6] (fun i wr => ∃ k : Nat, k ≤ l.length ∧ i = .int .i64 k ∧ Hid (∀ i, 0 < i → i < k → bet (gd l i) (gd l ((i - 1) / 2)) = false) ∧ Below w.heap.size w wr) (fun i _ => l.length - (intOf i).toNat)
  case atStart => exact ⟨0, Nat.zero_le _, rfl, fun i h0 hi => by omega, by go_grown⟩
  case round =>
    obtain ⟨k, hk, rfl, hall, kb⟩ := hrel
    have kl := kb.size
    by_cases hlt : k < l.length
    · have hki : (k : Int) < (l.length : Int) := by omega
      by_cases hk1 : 0 < k
      · have hki1 : (0 : Int) < (k : Int) := by omega
        have HAB := fun W => implAbove k W (by omega) hk1
        have HLE := fun W hW => implLess (.slice xa l.length xc) l k ((k - 1) / 2) W hW hlt (by omega) hl
        obtain ⟨G, hG⟩ : ∃ G, G = bet (gd l k) (gd l ((k - 1) / 2)) := ⟨_, rfl⟩
        rw [← hG] at HLE
        have HN : Hid (G = false → ∀ i, 0 < i → i < k + 1 → bet (gd l i) (gd l ((i - 1) / 2)) = false) := fun hg i h0 hi => by
          by_cases e : i = k
          · rw [e, ← hG]; exact hg
          · exact hall.out i h0 (by omega)
        have HX : Hid (G = true → B = false) := fun hg => bool_no HB.out (fun hh => by have := hh k hk1 hlt; rw [← hG, hg] at this; cases this)
        obtain ⟨J, hJ⟩ : ∃ J, J = (k - 1) / 2 := ⟨_, rfl⟩
        have hJK : J < k := by omega
        rw [← hJ] at HAB HLE
        clear hG hJ
        go_wp2_with fail
        refine (HAB _).mono ?_
        rintro e w1 ⟨rfl, hw1⟩
        subst w1
        go_wp2_with fail
        refine (HLE _ (HS.out.below kb)).mono ?_
        rintro e w2 ⟨rfl, hb2⟩
        have k2 : Below w.heap.size w w2 := kb.trans (hb2.mono kl)
        clear hb2 HLE HAB
        cases G with
        | true =>
          have HF := hid (HX.out rfl)
          go_wp2
          go_returns
          exact ⟨by rw [HF.out]; rfl, k2⟩
        | false =>
          have HY := hid (HN.out rfl)
          go_wp2
          exact ⟨⟨k + 1, by omega, by go_num, HY.out, k2⟩, by simp [intOf]; omega⟩
      · have hk0 : k = 0 := by omega
        subst hk0
        go_wp2
        exact ⟨⟨1, by omega, by go_num, fun i h0 hi => by omega, kb⟩, by simp [intOf]; omega⟩
    · have hki : ¬ (k : Int) < (l.length : Int) := by omega
      have HT : Hid (B = true) := HB.out.2 (fun i h0 hi => hall.out i h0 (by omega))
      go_wp2
      go_returns
      exact ⟨by rw [HT.out]; rfl, kb⟩
set_option maxHeartbeats 3200000 in
set_option maxRecDepth 100000 in
theorem specIsB (x : Value) (l : List Sc) (B : Bool) (hB : B = true ↔ IsH l) (w : World) (h : ScsAt w x l) (hl : l.length ≤ 1048576) :
    Calls Try.prog 76 #[x] w fun e w' => e = .returned (.bool B) ∧ Below w.heap.size w w' := by
  have HB := hid hB
  clear hB
  rcases h with ⟨a0, c0, rfl, rfl⟩ | ⟨b, off, cap, rfl, hb, hcell⟩
  · have HT : Hid (B = true) := HB.out.2 (fun i h0 hi => by simp at hi)
    go_enter Try.func76, Try.ntmps76
    go_wp2
    go_loopw [3] (fun i wr => i = .int .i64 1 ∧ Below w.heap.size w wr) (fun _ _ => 0)
    case atStart => exact ⟨rfl, by go_grown⟩
    case round =>
      obtain ⟨rfl, kb⟩ := hrel
      go_wp2
      go_returns
      exact ⟨by rw [HT.out]; rfl, kb⟩
  · have HC := hid hcell
    clear hcell
    go_enter Try.func76, Try.ntmps76
    go_wp2
    go_loopw [3] (fun i wr => ∃ k : Nat, 1 ≤ k ∧ k ≤ l.length + 1 ∧ i = .int .i64 k ∧ Hid (∀ i, 0 < i → i < k → i < l.length → bet (gd l i) (gd l ((i - 1) / 2)) = false) ∧ Below w.heap.size w wr) (fun i _ => l.length + 1 - (intOf i).toNat)
    case atStart => exact ⟨1, by omega, by omega, rfl, fun i h0 hi => by omega, by go_grown⟩
    case round =>
      obtain ⟨k, hk1, hk, rfl, hall, kb⟩ := hrel
      have kl := kb.size
      by_cases hlt : k < l.length
      · obtain ⟨p0, p1⟩ := (HC.out k hlt).below hb kb
        obtain ⟨q0, q1⟩ := (HC.out ((k - 1) / 2) (by omega)).below hb kb
        have hki : (k : Int) < (l.length : Int) := by omega
        have hk0 : (0 : Int) ≤ (k : Int) := by omega
        have hbr : b < wr.heap.size := by omega
        have HBT := fun W => specBet (gd l k) (gd l ((k - 1) / 2)) W
        obtain ⟨G, hG⟩ : ∃ G, G = bet (gd l k) (gd l ((k - 1) / 2)) := ⟨_, rfl⟩
        rw [← hG] at HBT
        have HN : Hid (G = false → ∀ i, 0 < i → i < k + 1 → i < l.length → bet (gd l i) (gd l ((i - 1) / 2)) = false) := fun hg i h0 hi hil => by
          by_cases e : i = k
          · rw [e, ← hG]; exact hg
          · exact hall.out i h0 (by omega) hil
        have HX : Hid (G = true → B = false) := fun hg => bool_no HB.out (fun hh => by have := hh k (by omega) hlt; rw [← hG, hg] at this; cases this)
        obtain ⟨J, hJ⟩ : ∃ J, J = (k - 1) / 2 := ⟨_, rfl⟩
        have hJK : J < k := by omega
        have hd : ((k : Int) - 1) / 2 = (J : Int) := by omega
        have hd2 : Int.tdiv ((k : Int) - 1) 2 = (J : Int) := by rw [Int.tdiv_eq_ediv_of_nonneg (by omega)]; omega
        have hkm : (0 : Int) ≤ (k : Int) - 1 := by omega
        have hkw1 : IntKind.i64.wrap ((k : Int) - 1) = (k : Int) - 1 := by rw [IntKind.wrap_i64]; omega
        have hkw2 : IntKind.i64.wrap (J : Int) = (J : Int) := by rw [IntKind.wrap_i64]; omega
        have hJl : (J : Int) < (l.length : Int) := by omega
        have hJ0 : (0 : Int) ≤ (J : Int) := by omega
        rw [← hJ] at HBT q0 q1
        clear hG hJ
        generalize gd l k = u at *
        generalize gd l J = v at *
        go_upto_region 4 with fail
        go_region_held3 (fun w' => (w'.cell? ⟨b, off + k * 2, none⟩ = some (.int .i64 u.1) ∧ w'.cell? ⟨b, off + k * 2 + 1, none⟩ = some (.int .i64 u.2)) ∧ w'.cell? ⟨b, off + J * 2, none⟩ = some (.int .i64 v.1) ∧ w'.cell? ⟨b, off + J * 2 + 1, none⟩ = some (.int .i64 v.2)) (go_keep)
          (first
            | (go_at_call 69; refine (HBT _).mono ?_; rintro e w3 ⟨rfl, hx3⟩; have hp3 := kept hx3 b (by simp; omega); have k3 : Below w.heap.size w w3 := (by exact kb.trans ((Below.trans ((Below.refl wr.heap.size wr).drew) (hx3.mono (by simp))).mono kl)); clear hx3))
        all_goals
          cases G with
          | true =>
            have HF := hid (HX.out rfl)
            go_wp2_with fail
            go_returns
            exact ⟨by rw [HF.out]; rfl, k3⟩
          | false =>
            have HY := hid (HN.out rfl)
            go_wp2_with fail
            exact ⟨⟨k + 1, by omega, by omega, by go_num, HY.out, k3⟩, by simp [intOf]; omega⟩
      · have hki : ¬ (k : Int) < (l.length : Int) := by omega
        have HT : Hid (B = true) := HB.out.2 (fun i h0 hi => hall.out i h0 (by omega) hi)
        go_wp2
        go_returns
        exact ⟨by rw [HT.out]; rfl, kb⟩
end Go.Proofs.Ythdodlbhkpoadaa
