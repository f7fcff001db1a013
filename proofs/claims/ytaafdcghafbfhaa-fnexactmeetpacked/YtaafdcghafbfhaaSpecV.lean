/- Contracts of the model's NextFrom, and of whether a list has a number, of the model and the laws. Condition: the lists lie in memory. -/
import Derived.Test.YtaafdcghafbfhaaSpecUn
namespace Go.Proofs.Ytaafdcghafbfhaa
open Go.ChangeShapes Go.WideShapes Go.ChangeAt Go.RowKit Go.Deep
set_option linter.unusedVariables false
attribute [local go_sem ↓] Go.wp_at_zero Go.wp_at_succ

set_option maxHeartbeats 1600000 in
set_option maxRecDepth 100000 in
theorem specHas (l : List Int) (n : Int) (B : Bool) (hB : decide (n ∈ l) = B) (x : Value) (w : World) (hx : IntsAt w x l) (hl : l.length ≤ 1048576) :
    Calls Try.prog 61 #[x, .int .i64 n] w fun e w' => e = .returned (.bool B) ∧ Below w.heap.size w w' := by
  have HT : Hid (∀ i, i < l.length → l.getD i 0 = n → B = true) := fun i hi he => by rw [← hB]; exact decide_eq_true (mem_getD.2 ⟨i, hi, he⟩)
  have HF : Hid ((∀ i, i < l.length → l.getD i 0 ≠ n) → B = false) := fun h => by
    rw [← hB]
    refine decide_eq_false (fun hm => ?_)
    obtain ⟨i, hi, he⟩ := mem_getD.1 hm
    exact h i hi he
  clear hB
  rcases hx with ⟨a0, c0, rfl, rfl⟩ | ⟨b, off, cap, rfl, hb, hcell⟩
  · have HE : Hid (B = false) := HF.out (fun i hi => by simp at hi)
    go_enter Try.func61, Try.ntmps61
    go_wp2
    go_loopw [9] (fun i wr => i = .int .i64 0 ∧ Below w.heap.size w wr) (fun _ _ => 0)
    case atStart => exact ⟨rfl, by go_grown⟩
    case round =>
      obtain ⟨rfl, kb⟩ := hrel
      go_wp2
      go_returns
      exact ⟨by rw [HE.out]; rfl, by go_grown⟩
  · have HC : Hid (∀ i, i < l.length → w.cell? ⟨b, off + i, none⟩ = some (.int .i64 (l.getD i 0))) := hcell
    clear hcell
    go_enter Try.func61, Try.ntmps61
    go_wp2
    go_loopw [9] (fun i wr => ∃ k : Nat, k ≤ l.length ∧ i = .int .i64 k ∧ Hid (∀ j, j < k → l.getD j 0 ≠ n) ∧ Below w.heap.size w wr) (fun i _ => l.length - (intOf i).toNat)
    case atStart => exact ⟨0, Nat.zero_le _, rfl, fun j hj => by omega, by go_grown⟩
    case round =>
      obtain ⟨k, hk, rfl, hall, kb⟩ := hrel
      by_cases hlt : k < l.length
      · have hc : wr.cell? ⟨b, off + k, none⟩ = some (.int .i64 (l.getD k 0)) := (kb.cell (p := ⟨b, off + k, none⟩) hb).trans (HC.out k hlt)
        have hki : (k : Int) < (l.length : Int) := by omega
        have HTk := hid (HT.out k hlt)
        have HAk : Hid (l.getD k 0 ≠ n → ∀ j, j < k + 1 → l.getD j 0 ≠ n) := fun h j hj => by
          by_cases e : j = k
          · rw [e]; exact h
          · exact hall.out j (by omega)
        generalize l.getD k 0 = t at *
        by_cases ht : t = n
        · have HE := hid (HTk.out ht)
          have hte : (t == n) = true := by simp [ht]
          clear HTk HAk hall ht
          go_wp2
          go_returns
          exact ⟨by rw [HE.out]; rfl, by go_grown⟩
        · have HA := hid (HAk.out ht)
          have hte : (t == n) = false := by simp [ht]
          clear HTk HAk hall ht
          go_wp2
          exact ⟨⟨k + 1, by omega, by go_num, HA.out, by go_grown⟩, by simp [intOf]; omega⟩
      · have hki : ¬ (k : Int) < (l.length : Int) := by omega
        have HE := hid (HF.out (fun i hi => hall.out i (by omega)))
        clear hall
        go_wp2
        go_returns
        exact ⟨by rw [HE.out]; rfl, by go_grown⟩
set_option maxHeartbeats 1600000 in
set_option maxRecDepth 100000 in
theorem lawHas (l : List Int) (n : Int) (B : Bool) (hB : decide (n ∈ l) = B) (x : Value) (w : World) (hx : IntsAt w x l) (hl : l.length ≤ 1048576) :
    Calls Try.prog 34 #[x, .int .i64 n] w fun e w' => e = .returned (.bool B) ∧ Below w.heap.size w w' := by
  have HT : Hid (∀ i, i < l.length → l.getD i 0 = n → B = true) := fun i hi he => by rw [← hB]; exact decide_eq_true (mem_getD.2 ⟨i, hi, he⟩)
  have HF : Hid ((∀ i, i < l.length → l.getD i 0 ≠ n) → B = false) := fun h => by
    rw [← hB]
    refine decide_eq_false (fun hm => ?_)
    obtain ⟨i, hi, he⟩ := mem_getD.1 hm
    exact h i hi he
  clear hB
  rcases hx with ⟨a0, c0, rfl, rfl⟩ | ⟨b, off, cap, rfl, hb, hcell⟩
  · have HE : Hid (B = false) := HF.out (fun i hi => by simp at hi)
    go_enter Try.func34, Try.ntmps34
    go_wp2
    go_loopw [9] (fun i wr => i = .int .i64 0 ∧ Below w.heap.size w wr) (fun _ _ => 0)
    case atStart => exact ⟨rfl, by go_grown⟩
    case round =>
      obtain ⟨rfl, kb⟩ := hrel
      go_wp2
      go_returns
      exact ⟨by rw [HE.out]; rfl, by go_grown⟩
  · have HC : Hid (∀ i, i < l.length → w.cell? ⟨b, off + i, none⟩ = some (.int .i64 (l.getD i 0))) := hcell
    clear hcell
    go_enter Try.func34, Try.ntmps34
    go_wp2
    go_loopw [9] (fun i wr => ∃ k : Nat, k ≤ l.length ∧ i = .int .i64 k ∧ Hid (∀ j, j < k → l.getD j 0 ≠ n) ∧ Below w.heap.size w wr) (fun i _ => l.length - (intOf i).toNat)
    case atStart => exact ⟨0, Nat.zero_le _, rfl, fun j hj => by omega, by go_grown⟩
    case round =>
      obtain ⟨k, hk, rfl, hall, kb⟩ := hrel
      by_cases hlt : k < l.length
      · have hc : wr.cell? ⟨b, off + k, none⟩ = some (.int .i64 (l.getD k 0)) := (kb.cell (p := ⟨b, off + k, none⟩) hb).trans (HC.out k hlt)
        have hki : (k : Int) < (l.length : Int) := by omega
        have HTk := hid (HT.out k hlt)
        have HAk : Hid (l.getD k 0 ≠ n → ∀ j, j < k + 1 → l.getD j 0 ≠ n) := fun h j hj => by
          by_cases e : j = k
          · rw [e]; exact h
          · exact hall.out j (by omega)
        generalize l.getD k 0 = t at *
        by_cases ht : t = n
        · have HE := hid (HTk.out ht)
          have hte : (t == n) = true := by simp [ht]
          clear HTk HAk hall ht
          go_wp2
          go_returns
          exact ⟨by rw [HE.out]; rfl, by go_grown⟩
        · have HA := hid (HAk.out ht)
          have hte : (t == n) = false := by simp [ht]
          clear HTk HAk hall ht
          go_wp2
          exact ⟨⟨k + 1, by omega, by go_num, HA.out, by go_grown⟩, by simp [intOf]; omega⟩
      · have hki : ¬ (k : Int) < (l.length : Int) := by omega
        have HE := hid (HF.out (fun i hi => hall.out i (by omega)))
        clear hall
        go_wp2
        go_returns
        exact ⟨by rw [HE.out]; rfl, by go_grown⟩
set_option maxHeartbeats 3200000 in
set_option maxRecDepth 100000 in
theorem specNext (p : Pk) (B : Bool) (A : List Int) (hA : AnsL p B A) (n : Int) (lv hv : Value) (w : World) (h : PkAt w lv hv p) (l1 : p.lows.length ≤ 1048576) (l2 : p.high.length ≤ 1048576) :
    Calls Try.prog 29 #[.agg #[.int .i64 p.many, .int .i64 p.low, lv, hv], .int .i64 n] w fun e w' => e = .returned (.tuple #[.int .i64 (nextI B A n), .int .i64 (nextV B A n), .bool (nextB B A n)]) ∧ Below w.heap.size w w' := by
  have HS := hid h
  obtain ⟨la, lc, rfl⟩ := h.1.slice
  obtain ⟨ha, hc, rfl⟩ := h.2.slice
  have HL := fun W hW => specUnpack8 p B A hA (.slice la p.lows.length lc) (.slice ha p.high.length hc) W hW l1 l2
  have h60 := hA.len
  have HI := fun W => l1InB n 0 10000 W
  have HPL := hid (fun i => posL_lt A n i)
  have HPG := hid (fun i (hi : posL A n ≤ i) hl => posL_ge hA.good hi hl)
  have hpl := posL_le A n
  obtain ⟨M, hM⟩ : ∃ M, M = p.many := ⟨_, rfl⟩
  obtain ⟨L, hL⟩ : ∃ L, L = p.low := ⟨_, rfl⟩
  rw [← hM, ← hL] at HL ⊢
  have HBT : Hid (B = true → 0 ≤ n ∧ n ≤ 10000 → posL A n < A.length → nextB B A n = true ∧ nextI B A n = (posL A n : Nat) ∧ nextV B A n = A.getD (posL A n) 0) := fun h1 h2 h3 => by
    have : nextB B A n = true := by simp [nextB, h1]; omega
    exact ⟨this, by simp [nextI, this], by simp [nextV, this]⟩
  have HBF : Hid (B = false ∨ ¬ ((0 ≤ n ∧ n ≤ 10000) ∧ posL A n < A.length) → nextB B A n = false ∧ nextI B A n = 0 ∧ nextV B A n = 0) := fun h1 => by
    have : nextB B A n = false := by
      unfold nextB
      rcases h1 with h | h
      · simp [h]
      · rw [decide_eq_false h]; simp
    exact ⟨this, by simp [nextI, this], by simp [nextV, this]⟩
  generalize nextB B A n = R at *
  generalize nextI B A n = I at *
  generalize nextV B A n = V at *
  generalize posL A n = K at *
  clear h hM hL hA
  go_enter Try.func29, Try.ntmps29
  go_wp2_with fail
  refine (HL _ (HS.out.below (by go_grown))).mono ?_
  rintro e w1 ⟨⟨lv, rfl, ho⟩, hb1⟩
  have hin := (OwnA.ofInts ho).1.ints
  obtain ⟨xa, xc, hxe⟩ := (rows_of_ownS ho).slice
  subst hxe
  have HIN := hid hin
  have HK1 : Hid (Below w.heap.size w w1) := (al_ w _).trans (hb1.mono (by simp))
  clear ho hb1 HL hin
  cases B with
  | false =>
    have HE := hid (HBF.out (.inl rfl))
    have hfin := HK1.out
    clear HBF HBT HI
    go_wp2
    go_returns
    exact ⟨by rw [HE.out.1, HE.out.2.1, HE.out.2.2]; rfl, hfin⟩
  | true =>
    by_cases h0 : 0 ≤ n ∧ n ≤ 10000
    case neg =>
      rw [decide_eq_false h0] at HI
      have HE := hid (HBF.out (.inr (fun h => h0 h.1)))
      have hfin := HK1.out
      clear HBF HBT h0
      go_wp2_with fail
      refine (HI _).mono ?_
      rintro e w2 ⟨rfl, rfl⟩
      clear HI
      go_wp2
      go_returns
      exact ⟨by rw [HE.out.1, HE.out.2.1, HE.out.2.2]; rfl, hfin⟩
    rw [decide_eq_true h0] at HI
    have HBT2 := hid (HBT.out rfl h0)
    clear HBT h0
    go_wp2_with fail
    refine (HI _).mono ?_
    rintro e w2 ⟨rfl, rfl⟩
    clear HI
    go_wp2
    go_loopw [25] (fun i wr => ∃ k : Nat, k ≤ A.length ∧ k ≤ K ∧ i = .int .i64 k ∧ Below w2.heap.size w2 wr) (fun i _ => A.length - (intOf i).toNat)
    case atStart => exact ⟨0, Nat.zero_le _, Nat.zero_le _, rfl, by go_grown⟩
    case round =>
      obtain ⟨k, hk, hkK, rfl, kb⟩ := hrel
      by_cases hlt : k < A.length
      · have hki : (k : Int) < (A.length : Int) := by omega
        obtain ⟨b, off, cap, hce, hcell⟩ : ∃ b off cap, Value.slice xa A.length xc = .slice (some ⟨b, off, none⟩) A.length cap ∧ wr.cell? ⟨b, off + k, none⟩ = some (.int .i64 (A.getD k 0)) := by
          rcases HIN.out with ⟨_, _, _, e⟩ | ⟨b, off, cap, e, hb, hcell⟩
          · rw [e] at hlt; simp at hlt
          · exact ⟨b, off, cap, e, (kb.cell (p := ⟨b, off + k, none⟩) hb).trans (hcell k hlt)⟩
        cases hce
        have hfin : Below w.heap.size w wr := HK1.out.trans (kb.mono HK1.out.size)
        by_cases hkk : k < K
        · have hlt2 : ¬ n ≤ A.getD k 0 := by have := HPL.out k hkk; omega
          have HKB := hid kb
          generalize A.getD k 0 = t at *
          clear kb
          go_wp2
          exact ⟨⟨k + 1, by omega, by omega, by go_num, HKB.out⟩, by simp [intOf]; omega⟩
        · have hke : k = K := by omega
          have hge := HPG.out k (by omega) hlt
          have HE := HBT2.out (by omega)
          rw [← hke] at HE
          have HEE := hid HE
          generalize A.getD k 0 = t at *
          clear HE HBF HBT2 HPG HPL hke
          go_wp2
          go_returns
          exact ⟨by rw [HEE.out.1, HEE.out.2.1, HEE.out.2.2]; rfl, hfin⟩
      · have hki : ¬ (k : Int) < (A.length : Int) := by omega
        have HE := hid (HBF.out (.inr (by omega)))
        have hfin : Below w.heap.size w wr := HK1.out.trans (kb.mono HK1.out.size)
        clear HBF HBT2
        go_wp2
        go_returns
        exact ⟨by rw [HE.out.1, HE.out.2.1, HE.out.2.2]; rfl, hfin⟩
end Go.Proofs.Ytaafdcghafbfhaa
