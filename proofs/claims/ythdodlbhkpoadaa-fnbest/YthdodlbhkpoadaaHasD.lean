/- Whether a doc is among scores: the program's closure. Condition: the list lies in memory. -/
import Derived.Test.YthdodlbhkpoadaaScB
import Derived.Test.YthdodlbhkpoadaaBoxW
namespace Go.Proofs.Ythdodlbhkpoadaa
open Go.ChangeShapes Go.WideShapes Go.ChangeAt Go.RowKit Go.Deep
set_option linter.unusedVariables false
attribute [local go_sem ↓] Go.wp_at_zero Go.wp_at_succ

theorem implIsDoc (p : Sc) (b : Nat) (d : Int) (B : Bool) (hB : B = decide (p.1 = d)) (w : World) (hb : w.cell? ⟨b, 0, none⟩ = some (.int .i64 d)) (hl : b < w.heap.size) :
    Calls Try.prog 84 #[.agg #[.int .i64 p.1, .int .i64 p.2], .pointer (some ⟨b, 0, none⟩)] w fun e w' => e = .returned (.bool B) ∧ Below w.heap.size w w' := by
  have HB : Hid ((p.1 == d) = B) := by show _ = _; rw [hB]; rfl
  have hbe : ∀ X, (w.alloc X).cell? ⟨b, 0, none⟩ = some (.int .i64 d) := fun X => ((al_ w X).cell (p := ⟨b, 0, none⟩) hl).trans hb
  generalize p.1 = p1 at *
  generalize p.2 = p2 at *
  clear hB
  go_enter Try.func84, Try.ntmps84
  go_wp2
  go_returns
  exact ⟨by rw [← HB.out]; rfl, by go_grown⟩
set_option maxHeartbeats 1600000 in
set_option maxRecDepth 100000 in
theorem implIdx (x : Value) (l : List Sc) (b : Nat) (d : Int) (w : World) (h : ScsAt w x l) (hb : w.cell? ⟨b, 0, none⟩ = some (.int .i64 d)) (hbl : b < w.heap.size) (hl : l.length ≤ 1048576) :
    Calls Try.prog 92 #[x, .func (.func 84) #[] #[.pointer (some ⟨b, 0, none⟩)]] w fun e w' => ∃ z : Int, e = .returned (.int .i64 z) ∧ Hid (decide (0 ≤ z) = hasD l d) ∧ Below w.heap.size w w' := by
  have HT : Hid (∀ i, i < l.length → (gd l i).1 = d → hasD l d = true) := fun i hi he => hasD_iff.2 ⟨gd l i, gd_mem hi, he⟩
  have HF : Hid ((∀ i, i < l.length → (gd l i).1 ≠ d) → hasD l d = false) := fun hh => hasD_no.2 (fun y hy => by
    obtain ⟨i, hi, rfl⟩ := mem_gd hy
    exact hh i hi)
  rcases h with ⟨a0, c0, rfl, rfl⟩ | ⟨bk, off, cap, rfl, hk, hcell⟩
  · have HE : Hid (decide ((0 : Int) ≤ -1) = hasD [] d) := by show _ = _; rw [HF.out (fun i hi => by simp at hi)]; rfl
    go_enter Try.func92, Try.ntmps92
    go_wp2
    go_loopw [8] (fun i wr => i = .int .i64 0 ∧ Below w.heap.size w wr) (fun _ _ => 0)
    case atStart => exact ⟨rfl, by go_grown⟩
    case round =>
      obtain ⟨rfl, kb⟩ := hrel
      go_wp2
      go_returns
      exact ⟨-1, rfl, HE.out, by go_grown⟩
  · have HC : Hid (∀ i, i < l.length → ScAt w bk (off + i * 2) (gd l i)) := hcell
    have HB := hid hb
    clear hcell hb
    go_enter Try.func92, Try.ntmps92
    go_wp2
    go_loopw [8] (fun i wr => ∃ k : Nat, k ≤ l.length ∧ i = .int .i64 k ∧ Hid (∀ j, j < k → (gd l j).1 ≠ d) ∧ Below w.heap.size w wr) (fun i _ => l.length - (intOf i).toNat)
    case atStart => exact ⟨0, Nat.zero_le _, rfl, fun j hj => by omega, by go_grown⟩
    case round =>
      obtain ⟨k, hk2, rfl, hall, kb⟩ := hrel
      have kl := kb.size
      by_cases hlt : k < l.length
      · obtain ⟨p0, p1⟩ := (HC.out k hlt).below hk kb
        have hki : (k : Int) < (l.length : Int) := by omega
        have hk0 : (0 : Int) ≤ (k : Int) := by omega
        have hbr : bk < wr.heap.size := by omega
        have hbb : b < wr.heap.size := by omega
        obtain ⟨B, hB⟩ : ∃ B, B = decide ((gd l k).1 = d) := ⟨_, rfl⟩
        have HE := fun W (hW : Below wr.heap.size wr W) => implIsDoc (gd l k) b d B hB W ((hW.cell (p := ⟨b, 0, none⟩) (show b < wr.heap.size by omega)).trans ((kb.cell (p := ⟨b, 0, none⟩) hbl).trans HB.out)) (Nat.lt_of_lt_of_le hbb hW.size)
        have HTk := hid (HT.out k hlt)
        have HAk : Hid ((gd l k).1 ≠ d → ∀ j, j < k + 1 → (gd l j).1 ≠ d) := fun hh j hj => by
          by_cases e : j = k
          · rw [e]; exact hh
          · exact hall.out j (by omega)
        have HBB := hid hB
        clear hB
        generalize gd l k = u at *
        go_wp2_with fail
        refine (HE _ (by go_grown)).mono ?_
        rintro e w1 ⟨rfl, hb1⟩
        have k1 : Below w.heap.size w w1 := kb.trans (hb1.mono kl)
        clear hb1 HE p0 p1
        cases B with
        | true =>
          have HZ : Hid (decide ((0 : Int) ≤ (k : Int)) = hasD l d) := by
            show _ = _
            rw [HTk.out (of_decide_eq_true HBB.out.symm)]
            exact decide_eq_true hk0
          go_wp2
          go_returns
          exact ⟨(k : Int), rfl, HZ.out, k1⟩
        | false =>
          have HA := hid (HAk.out (of_decide_eq_false HBB.out.symm))
          go_wp2
          exact ⟨⟨k + 1, by omega, by go_num, HA.out, k1⟩, by simp [intOf]; omega⟩
      · have hki : ¬ (k : Int) < (l.length : Int) := by omega
        have HE : Hid (decide ((0 : Int) ≤ -1) = hasD l d) := by show _ = _; rw [HF.out (fun i hi => hall.out i (by omega))]; rfl
        go_wp2
        go_returns
        exact ⟨-1, rfl, HE.out, by go_grown⟩
set_option maxHeartbeats 1600000 in
theorem implCont (x : Value) (l : List Sc) (b : Nat) (d : Int) (w : World) (h : ScsAt w x l) (hb : w.cell? ⟨b, 0, none⟩ = some (.int .i64 d)) (hbl : b < w.heap.size) (hl : l.length ≤ 1048576) :
    Calls Try.prog 83 #[x, .func (.func 84) #[] #[.pointer (some ⟨b, 0, none⟩)]] w fun e w' => e = .returned (.bool (hasD l d)) ∧ Below w.heap.size w w' := by
  have HI := implIdx x l b d w h hb hbl hl
  obtain ⟨xa, xc, rfl⟩ := h.slice
  generalize hasD l d = B at *
  clear h hb
  go_enter Try.func83, Try.ntmps83
  go_wp2_with fail
  refine HI.mono ?_
  rintro e w1 ⟨z, rfl, hz, hb1⟩
  cases B with
  | true =>
    have hz2 : (0 : Int) ≤ z := of_decide_eq_true hz.out
    clear hz HI
    go_wp2
    go_returns
    exact ⟨by first | rfl | (simp [hz2]; done), hb1⟩
  | false =>
    have hz2 : ¬ (0 : Int) ≤ z := of_decide_eq_false hz.out
    clear hz HI
    go_wp2
    go_returns
    exact ⟨by first | rfl | (simp [hz2]; done), hb1⟩
set_option maxHeartbeats 1600000 in
theorem implHasDoc (x : Value) (l : List Sc) (d : Int) (w : World) (h : ScsAt w x l) (hl : l.length ≤ 1048576) :
    Calls Try.prog 67 #[x, .int .i64 d] w fun e w' => e = .returned (.bool (hasD l d)) ∧ Below w.heap.size w w' := by
  have H := hid h
  obtain ⟨xa, xc, rfl⟩ := h.slice
  have HI := fun W b hx hb hbl => implCont (.slice xa l.length xc) l b d W hx hb hbl hl
  generalize hasD l d = B at *
  clear h
  go_enter Try.func67, Try.ntmps67
  go_wp2_with fail
  refine (HI (w.alloc (.cells #[.int .i64 d] 3)) w.heap.size (H.out.below (by go_grown)) (by simp [World.cell?_alloc_new]) (by simp)).mono ?_
  rintro e w1 ⟨rfl, hb1⟩
  have k1 : Below w.heap.size w w1 := Below.trans (by go_grown) (hb1.mono (by simp))
  clear hb1 HI
  go_wp2
  go_returns
  exact ⟨rfl, k1⟩
end Go.Proofs.Ythdodlbhkpoadaa
