/- Lists of lists of scores: sizes, copies, sameness, marks. Condition: they lie in memory. -/
import Derived.Test.YthdodlbhkpoadaaLawsSm
namespace Go.Proofs.Ythdodlbhkpoadaa
open Go.ChangeShapes Go.WideShapes Go.ChangeAt Go.RowKit Go.Joins Go.Deep
set_option linter.unusedVariables false
attribute [local go_sem ↓] Go.wp_at_zero Go.wp_at_succ

def sumR (R : List (List Sc)) : Nat := R.foldl (fun n r => n + r.length) 0
theorem sumR_snoc (R : List (List Sc)) (r : List Sc) : sumR (R ++ [r]) = sumR R + r.length := by simp [sumR]
theorem sumR_app (a b : List (List Sc)) : sumR (a ++ b) = sumR a + sumR b := by
  have : ∀ (l : List (List Sc)) (n : Nat), l.foldl (fun n r => n + r.length) n = n + l.foldl (fun n r => n + r.length) 0 := by
    intro l
    induction l with
    | nil => intro n; simp
    | cons x l ih => intro n; simp only [List.foldl_cons]; rw [ih (n + x.length), ih (0 + x.length)]; omega
  simp only [sumR, List.foldl_append]; rw [this]
theorem sumR_take (R : List (List Sc)) (k : Nat) : sumR (R.take k) ≤ sumR R := by
  have := sumR_app (R.take k) (R.drop k); rw [List.take_append_drop] at this; omega
theorem sumR_mem {R : List (List Sc)} {r : List Sc} (h : r ∈ R) : r.length ≤ sumR R := by
  obtain ⟨a, b, rfl⟩ := List.append_of_mem h
  rw [sumR_app, show r :: b = [r] ++ b from rfl, sumR_app]
  simp [sumR]; omega
theorem sumR_step (R : List (List Sc)) (k : Nat) (h : k < R.length) : sumR (R.take (k + 1)) = sumR (R.take k) + (gR R k).length := by rw [takeR R k h, sumR_snoc]
/-- What the laws' own reach lets through. -/
def ReRs (R : List (List Sc)) : Prop := R.length ≤ maxLen ∧ ∀ r ∈ R, r.length ≤ maxLen
def szRR (z : Nat) (R : List (List Sc)) : Int := if R.length + sumR R ≤ z then ((z - (R.length + sumR R) : Nat) : Int) else -1
set_option maxHeartbeats 3200000 in
set_option maxRecDepth 100000 in
theorem szScR (x : Value) (R : List (List Sc)) (z : Nat) (w : World) (h : RwsAt w x R) (hz : z ≤ 1048576) (hm : ReRs R) :
    Calls Try.prog 39 #[x, .int .i64 z] w fun e w' => e = .returned (.int .i64 (szRR z R)) ∧ Below w.heap.size w w' := by
  obtain ⟨hlen, hre⟩ := hm
  unfold maxLen at hlen
  rcases h with ⟨a0, c0, rfl, rfl⟩ | ⟨b, off, cap, rfl, hb, hcell⟩
  · have HR : Hid (szRR z [] = (z : Int)) := by show _ = _; simp [szRR, sumR]
    go_enter Try.func39, Try.ntmps39
    go_wp2
    go_loopw [1, 5] (fun x i wr => i = .int .i64 0 ∧ x = .int .i64 z ∧ wr = w) (fun _ _ _ => 0)
    case atStart => exact ⟨rfl, rfl, rfl⟩
    case round =>
      obtain ⟨rfl, rfl, rfl⟩ := hrel
      go_wp2
      go_ret
      exact ⟨ret_int (by rw [HR.out]), Below.refl _ _⟩
  · by_cases hbig : z < R.length
    · have hl : (z : Int) - (R.length : Int) < 0 := by omega
      have HR : Hid (szRR z R = -1) := by show _ = _; unfold szRR; rw [if_neg (by omega)]
      clear hcell
      go_enter Try.func39, Try.ntmps39
      go_wp2
      go_ret
      exact ⟨ret_int (by rw [HR.out]), by go_grown⟩
    · have hl : ¬ (z : Int) - (R.length : Int) < 0 := by omega
      have HC := hid hcell
      have HZ := hid hre
      clear hcell hre
      go_enter Try.func39, Try.ntmps39
      go_wp2
      go_loopw [1, 5] (fun x i wr => ∃ k : Nat, k ≤ R.length ∧ R.length + sumR (R.take k) ≤ z ∧ i = .int .i64 k ∧ x = .int .i64 ((z : Int) - (R.length : Int) - (sumR (R.take k) : Nat)) ∧ Below w.heap.size w wr) (fun _ i _ => R.length - (intOf i).toNat)
      case atStart => exact ⟨0, Nat.zero_le _, by simp [sumR]; omega, rfl, by simp [sumR], by go_grown⟩
      case round =>
        obtain ⟨k, hk, hle, rfl, rfl, kb⟩ := hrel
        have kl := kb.size
        by_cases hlt : k < R.length
        · obtain ⟨rv, r0, hrs⟩ := HC.out k hlt
          have p0 : wr.cell? ⟨b, off + k, none⟩ = some rv := (kb.cell (p := ⟨b, off + k, none⟩) hb).trans r0
          have hbr : b < wr.heap.size := by omega
          have hmp := HZ.out (gR R k) (gR_mem hlt)
          have HS : Hid (sumR (R.take (k + 1)) = sumR (R.take k) + (gR R k).length) := sumR_step R k hlt
          have HT : Hid (sumR (R.take (k + 1)) ≤ sumR R) := sumR_take R (k + 1)
          have hki : (k : Int) < (R.length : Int) := by omega
          have hk0 : (0 : Int) ≤ (k : Int) := by omega
          obtain ⟨Z, hZ⟩ : ∃ Z : Nat, (z : Int) - (R.length : Int) - (sumR (R.take k) : Nat) = (Z : Int) := ⟨z - R.length - sumR (R.take k), by omega⟩
          have hZ2 : Z ≤ 1048576 := by omega
          rw [hZ]
          have HZ3 := hid hZ
          clear hZ
          obtain ⟨ra, rc, rfl⟩ := hrs.slice
          have HE := fun W => szScO ra (gR R k).length rc Z W hZ2 hmp
          clear hrs hmp r0
          by_cases hout : Z < (gR R k).length
          · rw [if_neg (by omega)] at HE
            have HR : Hid (szRR z R = -1) := by show _ = _; unfold szRR; have h1 := HS.out; have h2 := HT.out; have h3 := HZ3.out; rw [if_neg (by omega)]
            clear hout
            go_wp2_with fail
            refine (HE _).mono ?_
            rintro e w1 ⟨rfl, hw1⟩
            subst w1
            clear HE p0
            go_wp2
            go_ret
            exact ⟨ret_int (by rw [HR.out]), kb⟩
          · rw [if_pos (by omega)] at HE
            have HV : Hid (((Z - (gR R k).length : Nat) : Int) = (z : Int) - (R.length : Int) - (sumR (R.take (k + 1)) : Nat)) := by
              show _ = _
              have h1 := HS.out; have h3 := HZ3.out; omega
            have HLE : Hid (R.length + sumR (R.take (k + 1)) ≤ z) := by
              have h1 := HS.out; have h3 := HZ3.out; show _ ≤ _; omega
            generalize Z - (gR R k).length = Y at *
            have hY : ¬ (Y : Int) < 0 := by omega
            clear hout
            go_wp2_with fail
            refine (HE _).mono ?_
            rintro e w1 ⟨rfl, hw1⟩
            subst w1
            clear HE p0
            go_wp2
            exact ⟨⟨k + 1, by omega, HLE.out, by go_num, by rw [HV.out], kb⟩, by simp [intOf]; omega⟩
        · have hke : k = R.length := by omega
          subst hke
          rw [List.take_length] at hle
          have HR : Hid (szRR z R = (z : Int) - (R.length : Int) - (sumR R : Nat)) := by show _ = _; unfold szRR; rw [if_pos hle]; omega
          rw [List.take_length]
          go_wp2
          go_ret
          exact ⟨ret_int (by rw [HR.out]), kb⟩
/-- Rows of the call's own. -/
structure OwnRs (base : Nat) (w : World) (v : Value) (R : List (List Sc)) (vs : List Value) : Prop where
  len : vs.length = R.length
  row : w.ownsRow base 26 1 v R.length vs
  own : ∀ i, i < R.length → OwnH base w (vs.getD i default) (gR R i)
  apart : ∀ i, i < R.length → ∀ x ∈ hbl (vs.getD i default), x ∉ hbl v
  disj : ∀ i j, i < R.length → j < R.length → i ≠ j → ∀ x ∈ hbl (vs.getD i default), x ∉ hbl (vs.getD j default)
def fpR (v : Value) (vs : List Value) : List Nat := hbl v ++ vs.flatMap hbl
theorem mem_flat {vs : List Value} {x : Nat} : x ∈ vs.flatMap hbl ↔ ∃ i, i < vs.length ∧ x ∈ hbl (vs.getD i default) := by
  rw [List.mem_flatMap]
  constructor
  · rintro ⟨u, hu, hx⟩
    obtain ⟨i, hi, rfl⟩ := List.mem_iff_getElem.1 hu
    exact ⟨i, hi, by simpa [List.getD, hi] using hx⟩
  · rintro ⟨i, hi, hx⟩
    exact ⟨vs.getD i default, by simp [List.getD, hi], hx⟩
theorem OwnRs.rlt {base : Nat} {w : World} {v : Value} {R : List (List Sc)} {vs : List Value} (h : OwnRs base w v R vs) : ∀ g ∈ hbl v, base ≤ g ∧ g < w.heap.size := by
  intro g hg
  rcases h.row.2 with ⟨rfl, _⟩ | ⟨g', cap, cur, rfl, h3, h4, h5⟩
  · simp [hbl, Value.ownBlock] at hg
  · simp [hbl, Value.ownBlock] at hg
    subst hg
    exact ⟨h3, by rw [Array.getElem?_eq_some_iff] at h4; exact h4.1⟩
theorem OwnRs.lt {base : Nat} {w : World} {v : Value} {R : List (List Sc)} {vs : List Value} (h : OwnRs base w v R vs) : ∀ g ∈ fpR v vs, base ≤ g ∧ g < w.heap.size := by
  intro g hg
  rcases List.mem_append.1 hg with hg | hg
  · exact h.rlt g hg
  · obtain ⟨i, hi, hx⟩ := mem_flat.1 hg
    exact (h.own i (by rw [← h.len]; exact hi)).lt g hx
theorem ownsRow_off {w w' : World} {base : Nat} {e : TypeId} {size : Nat} {v : Value} {n : Nat} {xs : List Value} {S : List Nat} (h : w.ownsRow base e size v n xs) (hb : Off S w w') (hd : ∀ x ∈ hbl v, x ∉ S) : w'.ownsRow base e size v n xs := by
  refine ⟨h.1, ?_⟩
  rcases h.2 with h2 | ⟨g, cap, cur, rfl, h3, h4, h5⟩
  · exact .inl h2
  · exact .inr ⟨g, cap, cur, rfl, h3, (hb.block g (Array.getElem?_eq_some_iff.1 h4).1 (hd g (by simp [hbl, Value.ownBlock]))).trans h4, h5⟩
theorem OwnRs.off {base : Nat} {w w' : World} {v : Value} {R : List (List Sc)} {vs : List Value} {S : List Nat} (h : OwnRs base w v R vs) (hb : Off S w w') (hd : ∀ g ∈ fpR v vs, g ∉ S) : OwnRs base w' v R vs :=
  ⟨h.len, ownsRow_off h.row hb fun x hx => hd x (List.mem_append.2 (.inl hx)), fun i hi => (h.own i hi).off hb fun g hg => hd g (List.mem_append.2 (.inr (mem_flat.2 ⟨i, by rw [h.len]; exact hi, hg⟩))), h.apart, h.disj⟩
theorem OwnRs.below {base : Nat} {w w' : World} {v : Value} {R : List (List Sc)} {vs : List Value} (h : OwnRs base w v R vs) (hb : Below w.heap.size w w') : OwnRs base w' v R vs := h.off (Off.of (S := []) hb) (by simp)
theorem OwnRs.slice {base : Nat} {w : World} {v : Value} {R : List (List Sc)} {vs : List Value} (h : OwnRs base w v R vs) : ∃ a c, v = .slice a R.length c := by
  obtain ⟨_, ao, c, rfl, _⟩ := rows_of_own h.row
  exact ⟨ao, c, rfl⟩
theorem OwnRs.cell {base : Nat} {w : World} {g n cap : Nat} {R : List (List Sc)} {vs : List Value} (h : OwnRs base w (.slice (some ⟨g, 0, none⟩) n cap) R vs) {i : Nat} (hi : i < R.length) : w.cell? ⟨g, i, none⟩ = some (vs.getD i default) := by
  have hn : n = R.length := by obtain ⟨a, c, he⟩ := h.slice; cases he; rfl
  subst hn
  rw [World.ownsRow.cellAt h.row i (by omega)]
  simp [List.getD, show i < vs.length by rw [h.len]; exact hi]
theorem OwnRs.rd {base : Nat} {w : World} {v : Value} {R : List (List Sc)} {vs : List Value} (h : OwnRs base w v R vs) : RdR w v R := by
  rcases h.row.2 with ⟨rfl, h2⟩ | ⟨g, cap, cur, rfl, h3, h4, h5⟩
  · exact .inl ⟨none, 0, rfl, List.eq_nil_of_length_eq_zero h2⟩
  · refine .inr ⟨g, 0, cap, rfl, (Array.getElem?_eq_some_iff.1 h4).1, fun i hi => ⟨vs.getD i default, ?_, (h.own i hi).rd⟩⟩
    rw [Nat.zero_add]
    exact h.cell hi
theorem infoSl : (Try.prog.info? 26).map (fun i => (i.zero, i.size, i.bytes)) = some (some (.slice none 0 0), 1, 24) := by kernel_rfl
theorem makeR (w : World) (n : Nat) (hn : n ≤ 1048576) : ∃ w0, (Instr.makeSlice 23 (.int .i64 (n : Int)) (.int .i64 (n : Int))).run Try.prog w = .ok (.slice (some ⟨w.heap.size, 0, none⟩) n n) w0 ∧ w0.ownsRow w.heap.size 26 1 (.slice (some ⟨w.heap.size, 0, none⟩) n n) n (List.replicate n (.slice none 0 0)) ∧ Below w.heap.size w w0 := by
  obtain ⟨i0, hi, hzz⟩ := Option.map_eq_some_iff.1 infoSl
  simp only [Prod.mk.injEq] at hzz
  obtain ⟨hz0, hz1, hz2⟩ := hzz
  obtain ⟨w0, hmk, hown, hg0⟩ := run_make_full (P := Try.prog) w w.heap.size 23 26 i0 _ 1 Try.underlying23 hi hz0 hz1 .i64 .i64 n (by rw [hz2]; omega) (by unfold maxLen; omega) (Nat.le_refl _)
  refine ⟨w0, hmk, ?_, hg0.os, hg0.tape, hg0.output, hg0.size, fun k hk => hg0.block k hk (by simp)⟩
  have : (Value.slice none 0 0).cells = #[.slice none 0 0] := rfl
  rw [this, toList_madeCells_one] at hown
  simpa using hown
end Go.Proofs.Ythdodlbhkpoadaa
