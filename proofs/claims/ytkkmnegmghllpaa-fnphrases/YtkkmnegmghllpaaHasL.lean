/- Whether a number is in a list; the places of one document; program, model and law. Condition: the lists lie in memory. -/
import Derived.Test.YtkkmnegmghllpaaPostL
namespace Go.Proofs.Ytkkmnegmghllpaa
open Go.ChangeShapes Go.WideShapes Go.ChangeAt Go.RowKit Go.Deep
set_option linter.unusedVariables false
attribute [local go_sem ↓] Go.wp_at_zero Go.wp_at_succ

theorem mem_getD {l : List Int} {n : Int} : n ∈ l ↔ ∃ i, i < l.length ∧ l.getD i 0 = n := by
  constructor
  · intro h
    obtain ⟨i, hi, he⟩ := List.getElem_of_mem h
    exact ⟨i, hi, by simp [List.getD, hi, he]⟩
  · rintro ⟨i, hi, he⟩
    rw [← he]
    simp [List.getD, hi]
set_option maxHeartbeats 1600000 in
set_option maxRecDepth 100000 in
theorem specHas (l : List Int) (n : Int) (B : Bool) (hB : decide (n ∈ l) = B) (x : Value) (w : World) (hx : IntsAt w x l) (hl : l.length ≤ 1048576) :
    Calls Try.prog 88 #[x, .int .i64 n] w fun e w' => e = .returned (.bool B) ∧ Below w.heap.size w w' := by
  have HT : Hid (∀ i, i < l.length → l.getD i 0 = n → B = true) := fun i hi he => by rw [← hB]; exact decide_eq_true (mem_getD.2 ⟨i, hi, he⟩)
  have HF : Hid ((∀ i, i < l.length → l.getD i 0 ≠ n) → B = false) := fun h => by
    rw [← hB]
    refine decide_eq_false (fun hm => ?_)
    obtain ⟨i, hi, he⟩ := mem_getD.1 hm
    exact h i hi he
  clear hB
  rcases hx with ⟨a0, c0, rfl, rfl⟩ | ⟨b, off, cap, rfl, hb, hcell⟩
  · have HE : Hid (B = false) := HF.out (fun i hi => by simp at hi)
    go_enter Try.func88, Try.ntmps88
    go_wp2
    go_loopw [9] (fun i wr => i = .int .i64 0 ∧ Below w.heap.size w wr) (fun _ _ => 0)
    case atStart => exact ⟨rfl, by go_grown⟩
    case round =>
      obtain ⟨rfl, kb⟩ := hrel
      go_wp2
      go_returns
      exact ⟨by rw [HE.out]; rfl, by go_grown⟩
  · have HC : Hid (∀ i, i < l.length → w.cell? ⟨b, off + i, none⟩ = some (.int .i64 (l.getD i 0))) := hcell
    clear hcell
    go_enter Try.func88, Try.ntmps88
    go_wp2
    go_loopw [9] (fun i wr => ∃ k : Nat, k ≤ l.length ∧ i = .int .i64 k ∧ Hid (∀ j, j < k → l.getD j 0 ≠ n) ∧ Below w.heap.size w wr) (fun i _ => l.length - (intOf i).toNat)
    case atStart => exact ⟨0, Nat.zero_le _, rfl, fun j hj => by omega, by go_grown⟩
    case round =>
      obtain ⟨k, hk, rfl, hall, kb⟩ := hrel
      by_cases hlt : k < l.length
      · have hc : wr.cell? ⟨b, off + k, none⟩ = some (.int .i64 (l.getD k 0)) := (kb.cell (p := ⟨b, off + k, none⟩) hb).trans (HC.out k hlt)
        have hki : (k : Int) < (l.length : Int) := by omega
        have HTk := hid (HT.out k hlt)
        have HAk : Hid (l.getD k 0 ≠ n → ∀ j, j < k + 1 → l.getD j 0 ≠ n) := fun h j hj => by
          by_cases e : j = k
          · rw [e]; exact h
          · exact hall.out j (by omega)
        generalize l.getD k 0 = t at *
        by_cases ht : t = n
        · have HE := hid (HTk.out ht)
          have hte : (t == n) = true := by simp [ht]
          clear HTk HAk hall ht
          go_wp2
          go_returns
          exact ⟨by rw [HE.out]; rfl, by go_grown⟩
        · have HA := hid (HAk.out ht)
          have hte : (t == n) = false := by simp [ht]
          clear HTk HAk hall ht
          go_wp2
          exact ⟨⟨k + 1, by omega, by go_num, HA.out, by go_grown⟩, by simp [intOf]; omega⟩
      · have hki : ¬ (k : Int) < (l.length : Int) := by omega
        have HE := hid (HF.out (fun i hi => hall.out i (by omega)))
        clear hall
        go_wp2
        go_returns
        exact ⟨by rw [HE.out]; rfl, by go_grown⟩
set_option maxHeartbeats 1600000 in
set_option maxRecDepth 100000 in
theorem lawHas (l : List Int) (n : Int) (B : Bool) (hB : decide (n ∈ l) = B) (x : Value) (w : World) (hx : IntsAt w x l) (hl : l.length ≤ 1048576) :
    Calls Try.prog 25 #[x, .int .i64 n] w fun e w' => e = .returned (.bool B) ∧ Below w.heap.size w w' := by
  have HT : Hid (∀ i, i < l.length → l.getD i 0 = n → B = true) := fun i hi he => by rw [← hB]; exact decide_eq_true (mem_getD.2 ⟨i, hi, he⟩)
  have HF : Hid ((∀ i, i < l.length → l.getD i 0 ≠ n) → B = false) := fun h => by
    rw [← hB]
    refine decide_eq_false (fun hm => ?_)
    obtain ⟨i, hi, he⟩ := mem_getD.1 hm
    exact h i hi he
  clear hB
  rcases hx with ⟨a0, c0, rfl, rfl⟩ | ⟨b, off, cap, rfl, hb, hcell⟩
  · have HE : Hid (B = false) := HF.out (fun i hi => by simp at hi)
    go_enter Try.func25, Try.ntmps25
    go_wp2
    go_loopw [9] (fun i wr => i = .int .i64 0 ∧ Below w.heap.size w wr) (fun _ _ => 0)
    case atStart => exact ⟨rfl, by go_grown⟩
    case round =>
      obtain ⟨rfl, kb⟩ := hrel
      go_wp2
      go_returns
      exact ⟨by rw [HE.out]; rfl, by go_grown⟩
  · have HC : Hid (∀ i, i < l.length → w.cell? ⟨b, off + i, none⟩ = some (.int .i64 (l.getD i 0))) := hcell
    clear hcell
    go_enter Try.func25, Try.ntmps25
    go_wp2
    go_loopw [9] (fun i wr => ∃ k : Nat, k ≤ l.length ∧ i = .int .i64 k ∧ Hid (∀ j, j < k → l.getD j 0 ≠ n) ∧ Below w.heap.size w wr) (fun i _ => l.length - (intOf i).toNat)
    case atStart => exact ⟨0, Nat.zero_le _, rfl, fun j hj => by omega, by go_grown⟩
    case round =>
      obtain ⟨k, hk, rfl, hall, kb⟩ := hrel
      by_cases hlt : k < l.length
      · have hc : wr.cell? ⟨b, off + k, none⟩ = some (.int .i64 (l.getD k 0)) := (kb.cell (p := ⟨b, off + k, none⟩) hb).trans (HC.out k hlt)
        have hki : (k : Int) < (l.length : Int) := by omega
        have HTk := hid (HT.out k hlt)
        have HAk : Hid (l.getD k 0 ≠ n → ∀ j, j < k + 1 → l.getD j 0 ≠ n) := fun h j hj => by
          by_cases e : j = k
          · rw [e]; exact h
          · exact hall.out j (by omega)
        generalize l.getD k 0 = t at *
        by_cases ht : t = n
        · have HE := hid (HTk.out ht)
          have hte : (t == n) = true := by simp [ht]
          clear HTk HAk hall ht
          go_wp2
          go_returns
          exact ⟨by rw [HE.out]; rfl, by go_grown⟩
        · have HA := hid (HAk.out ht)
          have hte : (t == n) = false := by simp [ht]
          clear HTk HAk hall ht
          go_wp2
          exact ⟨⟨k + 1, by omega, by go_num, HA.out, by go_grown⟩, by simp [intOf]; omega⟩
      · have hki : ¬ (k : Int) < (l.length : Int) := by omega
        have HE := hid (HF.out (fun i hi => hall.out i (by omega)))
        clear hall
        go_wp2
        go_returns
        exact ⟨by rw [HE.out]; rfl, by go_grown⟩
set_option maxHeartbeats 1600000 in
set_option maxRecDepth 100000 in
theorem implIndex (l : List Int) (n : Int) (B : Bool) (hB : decide (n ∈ l) = B) (x : Value) (w : World) (hx : IntsAt w x l) (hl : l.length ≤ 1048576) :
    Calls Try.prog 102 #[x, .int .i64 n] w fun e w' => (∃ z : Int, e = .returned (.int .i64 z) ∧ decide (0 ≤ z) = B) ∧ Below w.heap.size w w' := by
  have HT : Hid (∀ i, i < l.length → l.getD i 0 = n → B = true) := fun i hi he => by rw [← hB]; exact decide_eq_true (mem_getD.2 ⟨i, hi, he⟩)
  have HF : Hid ((∀ i, i < l.length → l.getD i 0 ≠ n) → B = false) := fun h => by
    rw [← hB]
    refine decide_eq_false (fun hm => ?_)
    obtain ⟨i, hi, he⟩ := mem_getD.1 hm
    exact h i hi he
  clear hB
  rcases hx with ⟨a0, c0, rfl, rfl⟩ | ⟨b, off, cap, rfl, hb, hcell⟩
  · have HE : Hid (B = false) := HF.out (fun i hi => by simp at hi)
    go_enter Try.func102, Try.ntmps102
    go_wp2
    go_loopw [8] (fun i wr => i = .int .i64 0 ∧ Below w.heap.size w wr) (fun _ _ => 0)
    case atStart => exact ⟨rfl, by go_grown⟩
    case round =>
      obtain ⟨rfl, kb⟩ := hrel
      go_wp2
      go_returns
      exact ⟨⟨-1, rfl, by rw [HE.out]; rfl⟩, by go_grown⟩
  · have HC : Hid (∀ i, i < l.length → w.cell? ⟨b, off + i, none⟩ = some (.int .i64 (l.getD i 0))) := hcell
    clear hcell
    go_enter Try.func102, Try.ntmps102
    go_wp2
    go_loopw [8] (fun i wr => ∃ k : Nat, k ≤ l.length ∧ i = .int .i64 k ∧ Hid (∀ j, j < k → l.getD j 0 ≠ n) ∧ Below w.heap.size w wr) (fun i _ => l.length - (intOf i).toNat)
    case atStart => exact ⟨0, Nat.zero_le _, rfl, fun j hj => by omega, by go_grown⟩
    case round =>
      obtain ⟨k, hk, rfl, hall, kb⟩ := hrel
      by_cases hlt : k < l.length
      · have hc : wr.cell? ⟨b, off + k, none⟩ = some (.int .i64 (l.getD k 0)) := (kb.cell (p := ⟨b, off + k, none⟩) hb).trans (HC.out k hlt)
        have hki : (k : Int) < (l.length : Int) := by omega
        have hk0 : (0 : Int) ≤ (k : Int) := by omega
        have HTk := hid (HT.out k hlt)
        have HAk : Hid (l.getD k 0 ≠ n → ∀ j, j < k + 1 → l.getD j 0 ≠ n) := fun h j hj => by
          by_cases e : j = k
          · rw [e]; exact h
          · exact hall.out j (by omega)
        generalize l.getD k 0 = t at *
        by_cases ht : n = t
        · have HE := hid (HTk.out ht.symm)
          have hte : (n == t) = true := by simp [ht]
          clear HTk HAk hall ht
          go_wp2
          go_returns
          exact ⟨⟨k, rfl, by rw [HE.out]; simp⟩, by go_grown⟩
        · have HA := hid (HAk.out (fun h => ht h.symm))
          have hte : (n == t) = false := by simp [ht]
          clear HTk HAk hall ht
          go_wp2
          exact ⟨⟨k + 1, by omega, by go_num, HA.out, by go_grown⟩, by simp [intOf]; omega⟩
      · have hki : ¬ (k : Int) < (l.length : Int) := by omega
        have HE := hid (HF.out (fun i hi => hall.out i (by omega)))
        have hke : k = l.length := by omega
        subst hke
        go_wp2
        go_returns
        exact ⟨⟨-1, rfl, by rw [HE.out]; rfl⟩, by go_grown⟩
theorem implContains (l : List Int) (n : Int) (B : Bool) (hB : decide (n ∈ l) = B) (x : Value) (w : World) (hx : IntsAt w x l) (hl : l.length ≤ 1048576) :
    Calls Try.prog 87 #[x, .int .i64 n] w fun e w' => e = .returned (.bool B) ∧ Below w.heap.size w w' := by
  have HI := fun W h => implIndex l n B hB x W h hl
  have HX := hid hx
  obtain ⟨a, c, rfl⟩ := hx.slice
  clear hx hB
  go_enter Try.func87, Try.ntmps87
  go_wp2_with fail
  refine (HI _ HX.out).mono ?_
  rintro e w1 ⟨⟨z, rfl, hz⟩, hb1⟩
  go_wp2
  go_returns
  exact ⟨by rw [← hz]; rfl, hb1⟩
/-- The places of one document, or none. -/
def plcs : List Po → Int → List Int
  | [], _ => []
  | p :: l, d => if p.1 = d then p.2 else plcs l d
theorem plcs_skip {d : Int} : ∀ {l : List Po} {k : Nat}, (∀ j, j < k → (l.getD j default).1 ≠ d) → k < l.length → (l.getD k default).1 = d → plcs l d = (l.getD k default).2
  | [], _, _, h, _ => by simp at h
  | p :: l, 0, _, _, h => by simp [List.getD] at h ⊢; simp [plcs, h]
  | p :: l, k + 1, hn, hk, h => by
    have h0 : p.1 ≠ d := by simpa [List.getD] using hn 0 (by omega)
    have := plcs_skip (l := l) (k := k) (fun j hj => by simpa [List.getD] using hn (j + 1) (by omega)) (by simpa using hk) (by simpa [List.getD] using h)
    simp only [plcs, if_neg h0]
    rw [this]
    simp [List.getD]
theorem plcs_none {d : Int} : ∀ {l : List Po}, (∀ j, j < l.length → (l.getD j default).1 ≠ d) → plcs l d = []
  | [], _ => rfl
  | p :: l, hn => by
    have h0 : p.1 ≠ d := by simpa [List.getD] using hn 0 (by simp)
    simp only [plcs, if_neg h0]
    exact plcs_none (l := l) (fun j hj => by simpa [List.getD] using hn (j + 1) (by simp; omega))
theorem plcs_len {d : Int} {m : Nat} : ∀ {l : List Po}, (∀ p ∈ l, p.2.length ≤ m) → (plcs l d).length ≤ m
  | [], _ => by simp [plcs]
  | p :: l, h => by
    unfold plcs
    split
    · exact h p (by simp)
    · exact plcs_len (fun q hq => h q (by simp [hq]))
set_option maxHeartbeats 3200000 in
set_option maxRecDepth 100000 in
theorem implPlaces (x : Value) (ps : List Po) (d : Int) (w : World) (h : PosAt w x ps) (hl : ps.length ≤ 1048576) :
    Calls Try.prog 73 #[x, .int .i64 d] w fun e w' => (∃ v, e = .returned v ∧ IntsAt w' v (plcs ps d)) ∧ Below w.heap.size w w' := by
  rcases h with ⟨a0, c0, rfl, rfl⟩ | ⟨b, off, cap, rfl, hb, hcell⟩
  · have HE : Hid (plcs [] d = []) := rfl
    go_enter Try.func73, Try.ntmps73
    go_wp2
    go_loopw [9] (fun i wr => i = .int .i64 0 ∧ Below w.heap.size w wr) (fun _ _ => 0)
    case atStart => exact ⟨rfl, by go_grown⟩
    case round =>
      obtain ⟨rfl, kb⟩ := hrel
      go_wp2
      go_returns
      exact ⟨⟨_, rfl, by rw [HE.out]; exact .inl ⟨none, 0, rfl, rfl⟩⟩, by go_grown⟩
  · have HC : Hid (∀ i, i < ps.length → PoAt w b (off + i * 2) (ps.getD i default)) := hcell
    clear hcell
    go_enter Try.func73, Try.ntmps73
    go_wp2
    go_loopw [9] (fun i wr => ∃ k : Nat, k ≤ ps.length ∧ i = .int .i64 k ∧ Hid (∀ j, j < k → (ps.getD j default).1 ≠ d) ∧ Below w.heap.size w wr) (fun i _ => ps.length - (intOf i).toNat)
    case atStart => exact ⟨0, Nat.zero_le _, rfl, fun j hj => by omega, by go_grown⟩
    case round =>
      obtain ⟨k, hk, rfl, hall, kb⟩ := hrel
      have kl := kb.size
      by_cases hlt : k < ps.length
      · obtain ⟨pv, p0, p1, hlp⟩ := (HC.out k hlt).below hb kb
        have hbr0 : b < wr.heap.size := by omega
        have hki : (k : Int) < (ps.length : Int) := by omega
        have hk0i : (0 : Int) ≤ (k : Int) := by omega
        have HYES : Hid ((ps.getD k default).1 = d → plcs ps d = (ps.getD k default).2) := plcs_skip hall.out hlt
        have HNO : Hid ((ps.getD k default).1 ≠ d → ∀ j, j < k + 1 → (ps.getD j default).1 ≠ d) := fun h j hj => by
          by_cases e : j = k
          · rw [e]; exact h
          · exact hall.out j (by omega)
        have HLP : Hid (∀ W, Below wr.heap.size wr W → IntsAt W pv (ps.getD k default).2) := fun W hW => hlp.below hW
        obtain ⟨pa, pc, rfl⟩ := hlp.slice
        clear hlp hall
        generalize (ps.getD k default).1 = q at *
        generalize (ps.getD k default).2 = pl at *
        by_cases hq : q = d
        · have HE := hid (HYES.out hq)
          have hqe : (q == d) = true := by simp [hq]
          clear HYES HNO hq
          go_wp2_with fail
          go_returns
          exact ⟨⟨_, rfl, by rw [HE.out]; exact HLP.out _ (by go_grown)⟩, by go_grown⟩
        · have HA := hid (HNO.out hq)
          have hqe : (q == d) = false := by simp [hq]
          clear HYES HNO hq
          go_wp2_with fail
          exact ⟨⟨k + 1, by omega, by go_num, HA.out, by go_grown⟩, by simp [intOf]; omega⟩
      · have hki : ¬ (k : Int) < (ps.length : Int) := by omega
        have HE := hid (plcs_none (l := ps) (d := d) (fun j hj => hall.out j (by omega)))
        have hke : k = ps.length := by omega
        subst hke
        go_wp2
        go_returns
        exact ⟨⟨_, rfl, by rw [HE.out]; exact .inl ⟨none, 0, rfl, rfl⟩⟩, by go_grown⟩
end Go.Proofs.Ytkkmnegmghllpaa
