/- What is a word, and what are documents; program and model. Condition: texts are no longer than the laws let by. -/
import Derived.Test.YtkkmnegmghllpaaSpecWO2
import Derived.Test.YtkkmnegmghllpaaRise
namespace Go.Proofs.Ytkkmnegmghllpaa
open Go.ChangeShapes Go.WideShapes Go.ChangeAt Go.RowKit Go.Deep
set_option linter.unusedVariables false
attribute [local go_sem ↓] Go.wp_at_zero Go.wp_at_succ

def smL (s : ByteArray) (k : Nat) : Prop := ∀ i, i < k → 97 ≤ byN s i ∧ byN s i ≤ 122
/-- A word. -/
def wdB (s : ByteArray) : Bool := decide ((1 ≤ s.size ∧ s.size ≤ 12) ∧ ∀ i, i < s.size → 97 ≤ byN s i ∧ byN s i ≤ 122)
theorem wd_no {s : ByteArray} {i : Nat} (hi : i < s.size) (h : ¬ (97 ≤ byN s i ∧ byN s i ≤ 122)) : wdB s = false := by
  unfold wdB; exact decide_eq_false (fun hh => h (hh.2 i hi))
theorem wd_end {s : ByteArray} (h : smL s s.size) : wdB s = decide (1 ≤ s.size ∧ s.size ≤ 12) := by
  unfold wdB
  by_cases hq : 1 ≤ s.size ∧ s.size ≤ 12
  · rw [decide_eq_true hq]; exact decide_eq_true ⟨hq, h⟩
  · rw [decide_eq_false hq]; exact decide_eq_false (fun hh => hq hh.1)
set_option maxHeartbeats 3200000 in
set_option maxRecDepth 100000 in
theorem specWord (s : ByteArray) (hs : s.size ≤ 1048576) (w : World) :
    Calls Try.prog 56 #[.string s] w fun e w' => e = .returned (.bool (wdB s)) ∧ w' = w := by
  obtain ⟨B, hB⟩ : ∃ B, B = wdB s := ⟨_, rfl⟩
  rw [← hB]
  have HB := hid hB
  clear hB
  go_enter Try.func56, Try.ntmps56
  go_wp2
  go_loopw [3] (fun i wr => ∃ k : Nat, k ≤ s.size ∧ i = .int .i64 k ∧ Hid (smL s k) ∧ wr = w) (fun i _ => s.size - (intOf i).toNat)
  case atStart => exact ⟨0, Nat.zero_le _, rfl, fun i hi => by omega, rfl⟩
  case round =>
    obtain ⟨k, hk, rfl, hsm, hw⟩ := hrel
    subst wr
    by_cases hlt : k < s.size
    · have hix : ∀ W, (Instr.index 9 (.string s) (.int .i64 (k : Int))).run Try.prog W = .ok (.int .u8 (byN s k : Nat)) W := fun W => by
        rw [run_index_string (h := Try.underlying9), dif_pos ⟨by omega, by omega⟩]
        have := byN_get s k hlt
        simp only [Int.toNat_natCast]
        rw [this]
      have hki : (k : Int) < (s.size : Int) := by omega
      have HNO : Hid (¬ (97 ≤ byN s k ∧ byN s k ≤ 122) → B = false) := fun h => by rw [HB.out]; exact wd_no hlt h
      have HYS : Hid ((97 ≤ byN s k ∧ byN s k ≤ 122) → smL s (k + 1)) := fun h i hi => by
        by_cases e : i = k
        · rw [e]; exact h
        · exact hsm.out i (by omega)
      clear hsm
      generalize byN s k = n at *
      by_cases h1 : n < 97
      · have HE := hid (HNO.out (by omega))
        have i1 : decide ((n : Int) < 97) = true := by simp; omega
        clear HNO HYS h1
        go_wp2
        go_ret
        exact ⟨by rw [HE.out]; rfl, rfl⟩
      · have i1 : decide ((n : Int) < 97) = false := by simp; omega
        by_cases h2 : 122 < n
        · have HE := hid (HNO.out (by omega))
          have i2 : decide ((122 : Int) < (n : Int)) = true := by simp; omega
          clear HNO HYS h1 h2
          go_wp2
          go_ret
          exact ⟨by rw [HE.out]; rfl, rfl⟩
        · have HE := hid (HYS.out (by omega))
          have i2 : decide ((122 : Int) < (n : Int)) = false := by simp; omega
          clear HNO HYS h1 h2
          go_wp2
          exact ⟨⟨k + 1, hlt, by go_num, HE, by first | rfl | trivial⟩, by simp [intOf]; omega⟩
    · have hke : k = s.size := by omega
      subst hke
      have hki : ¬ ((s.size : Int) < (s.size : Int)) := by omega
      have HE : Hid (B = decide (1 ≤ s.size ∧ s.size ≤ 12)) := by show _ = _; rw [HB.out]; exact wd_end hsm.out
      have HIN := fun W => l1InB (s.size : Int) 1 12 W
      have hde : decide ((1 : Int) ≤ (s.size : Int) ∧ (s.size : Int) ≤ 12) = decide (1 ≤ s.size ∧ s.size ≤ 12) := by
        rw [decide_eq_decide]; omega
      rw [hde] at HIN
      generalize decide (1 ≤ s.size ∧ s.size ≤ 12) = D at *
      clear hde
      go_wp2_with fail
      refine (HIN _).mono ?_
      rintro e w1 ⟨rfl, hw1⟩
      subst w1
      go_wp2
      go_ret
      exact ⟨by rw [HE.out]; rfl, rfl⟩
set_option maxHeartbeats 3200000 in
set_option maxRecDepth 100000 in
theorem implWord (s : ByteArray) (hs : s.size ≤ 1048576) (w : World) :
    Calls Try.prog 80 #[.string s] w fun e w' => e = .returned (.bool (wdB s)) ∧ Below w.heap.size w w' := by
  obtain ⟨B, hB⟩ : ∃ B, B = wdB s := ⟨_, rfl⟩
  rw [← hB]
  have HB := hid hB
  clear hB
  go_enter Try.func80, Try.ntmps80
  go_wp2
  go_loopw [] (fun wr => ∃ pos : Nat, pos ≤ s.size ∧ wr.heap[w.heap.size]? = some (.stringIter s pos) ∧ Hid (smL s pos) ∧ Below w.heap.size w wr) (fun wr => s.size - wr.iterPos w.heap.size)
  case atStart => exact ⟨0, Nat.zero_le _, World.iter_heap w s 0, fun i hi => by omega, (Below.refl _ _).alloc (Nat.le_refl _) _⟩
  case round =>
    obtain ⟨pos, hps, hit, hsm, kb⟩ := hrel
    have hpos0 := iterPos_of hit
    by_cases hp : pos < s.size
    · have hnx : ∀ ty, (Instr.next (.pointer (some ⟨w.heap.size, 0, none⟩)) true ty).run Try.prog wr = _ := fun ty => Lib.run_next_any_at wr w.heap.size s pos ty hit hp
      have hit2 := Lib.iterAt_heap wr w.heap.size s pos (pos + (Utf8.decode s pos).2) hit
      have hbw2 := Lib.below_iterAt kb (k := w.heap.size) (Nat.le_refl _) s (pos + (Utf8.decode s pos).2)
      have hrle := decode_le s pos
      have hcs : (128 ≤ (Utf8.decode s pos).1 ∧ ¬ (97 ≤ byN s pos ∧ byN s pos ≤ 122)) ∨ ((Utf8.decode s pos).1 = byN s pos ∧ (Utf8.decode s pos).2 = 1) := by
        by_cases hh : 128 ≤ byN s pos
        · exact .inl ⟨(rune_high s pos hp hh).2.1, by omega⟩
        · rw [rune_low s pos hp (by omega)]; exact .inr ⟨rfl, rfl⟩
      have HNO : Hid (¬ (97 ≤ byN s pos ∧ byN s pos ≤ 122) → B = false) := fun h => by rw [HB.out]; exact wd_no hp h
      have HYS : Hid ((97 ≤ byN s pos ∧ byN s pos ≤ 122) → smL s (pos + 1)) := fun h i hi => by
        by_cases e : i = pos
        · rw [e]; exact h
        · exact hsm.out i (by omega)
      obtain ⟨W1, hW1⟩ : ∃ W1, W1 = wr.iterAt w.heap.size s (pos + (Utf8.decode s pos).2) := ⟨_, rfl⟩
      rw [← hW1] at hnx hit2 hbw2
      clear hW1 hit kb hsm
      generalize (Utf8.decode s pos).1 = r at *
      generalize (Utf8.decode s pos).2 = wd at *
      by_cases h1 : r < 97
      · have HE := hid (HNO.out (by rcases hcs with h | ⟨h, _⟩ <;> omega))
        have i1 : decide ((r : Int) < 97) = true := by simp; omega
        clear HNO HYS h1 hcs
        go_wp2
        go_ret
        exact ⟨by rw [HE.out]; rfl, hbw2⟩
      · have i1 : decide ((r : Int) < 97) = false := by simp; omega
        by_cases h2 : 122 < r
        · have HE := hid (HNO.out (by rcases hcs with h | ⟨h, _⟩ <;> omega))
          have i2 : decide ((122 : Int) < (r : Int)) = true := by simp; omega
          clear HNO HYS h1 h2 hcs
          go_wp2
          go_ret
          exact ⟨by rw [HE.out]; rfl, hbw2⟩
        · obtain ⟨hr1, hr2⟩ : r = byN s pos ∧ wd = 1 := by
            rcases hcs with ⟨h, _⟩ | h
            · omega
            · exact h
          subst hr2
          have HE := hid (HYS.out (by omega))
          have i2 : decide ((122 : Int) < (r : Int)) = false := by simp; omega
          clear HNO HYS h1 h2 hcs hr1
          go_wp2
          exact ⟨⟨pos + 1, hp, hit2, HE, hbw2⟩, by rw [iterPos_of hit2, hpos0]; omega⟩
    · have hnx : ∀ ty, (Instr.next (.pointer (some ⟨w.heap.size, 0, none⟩)) true ty).run Try.prog wr = _ := fun ty => Lib.run_next_end_at wr w.heap.size s pos ty hit hp
      have hke : pos = s.size := by omega
      subst hke
      have HE : Hid (B = decide (1 ≤ s.size ∧ s.size ≤ 12)) := by show _ = _; rw [HB.out]; exact wd_end hsm.out
      by_cases h1 : 1 ≤ s.size
      · by_cases h2 : s.size ≤ 12
        · have HE2 : Hid (B = true) := by show _ = _; rw [HE.out]; exact decide_eq_true ⟨h1, h2⟩
          have i1 : decide ((1 : Int) ≤ (s.size : Int)) = true := by simp; omega
          have i2 : decide ((s.size : Int) ≤ 12) = true := by simp; omega
          clear h1 h2
          go_wp2
          go_ret
          exact ⟨by rw [HE2.out]; rfl, kb⟩
        · have HE2 : Hid (B = false) := by show _ = _; rw [HE.out]; exact decide_eq_false (fun h => h2 h.2)
          have i1 : decide ((1 : Int) ≤ (s.size : Int)) = true := by simp; omega
          have i2 : decide ((s.size : Int) ≤ 12) = false := by simp; omega
          clear h1 h2
          go_wp2
          go_ret
          exact ⟨by rw [HE2.out]; rfl, kb⟩
      · have HE2 : Hid (B = false) := by show _ = _; rw [HE.out]; exact decide_eq_false (fun h => h1 h.1)
        have i1 : decide ((1 : Int) ≤ (s.size : Int)) = false := by simp; omega
        clear h1
        go_wp2
        go_ret
        exact ⟨by rw [HE2.out]; rfl, kb⟩
/-- Documents. -/
def docsB (ds : List ByteArray) : Bool := decide (ds.length ≤ 12) && ds.all docB
theorem docs_no {ds : List ByteArray} {k : Nat} (hk : k < ds.length) (h : docB (ds.getD k ByteArray.empty) = false) : docsB ds = false := by
  have h1 : ds.all docB = false := by
    rw [List.all_eq_false]
    exact ⟨_, getD_mem ds k hk, by rw [h]; simp⟩
  unfold docsB; rw [h1, Bool.and_false]
theorem docs_end {ds : List ByteArray} (h : ∀ i, i < ds.length → docB (ds.getD i ByteArray.empty) = true) : docsB ds = decide (ds.length ≤ 12) := by
  have h1 : ds.all docB = true := by
    rw [List.all_eq_true]
    intro s hs
    obtain ⟨i, hi, rfl⟩ := List.mem_iff_getElem.1 hs
    have := h i hi
    simpa [List.getD, hi] using this
  unfold docsB; rw [h1, Bool.and_true]
theorem docs_yes {ds : List ByteArray} (h : docsB ds = true) : ds.length ≤ 12 ∧ ∀ i, i < ds.length → docB (ds.getD i ByteArray.empty) = true := by
  unfold docsB at h
  rw [Bool.and_eq_true, decide_eq_true_iff, List.all_eq_true] at h
  exact ⟨h.1, fun i hi => h.2 _ (getD_mem ds i hi)⟩
theorem doc_yes {s : ByteArray} (h : docB s = true) : s.size ≤ 120 ∧ (wordsL s).length ≤ 20 := by
  unfold docB at h; exact of_decide_eq_true h
theorem StrsAt.cellS {w : World} {v : Value} {ss : List ByteArray} (h : StrsAt w v ss) {k : Nat} (hk : k < ss.length) : ∃ b off cap, v = .slice (some ⟨b, off, none⟩) ss.length cap ∧ b < w.heap.size ∧ w.cell? ⟨b, off + k, none⟩ = some (.string (ss.getD k ByteArray.empty)) := by
  rcases h with ⟨_, _, _, e⟩ | ⟨b, off, cap, e, hb, hcell⟩
  · rw [e] at hk; simp at hk
  · exact ⟨b, off, cap, e, hb, hcell k hk⟩
set_option maxHeartbeats 3200000 in
set_option maxRecDepth 100000 in
theorem specDocs (x : Value) (ds : List ByteArray) (w : World) (hx : StrsAt w x ds) (hl : ds.length ≤ 1048576) (hs : ∀ s ∈ ds, s.size ≤ 1048576) :
    Calls Try.prog 55 #[x] w fun e w' => e = .returned (.bool (docsB ds)) ∧ Below w.heap.size w w' := by
  obtain ⟨B, hB⟩ : ∃ B, B = docsB ds := ⟨_, rfl⟩
  rw [← hB]
  have HB := hid hB
  have HX := hid hx
  have HSZ := hid hs
  clear hB hs
  obtain ⟨xa, xc, hxe⟩ := hx.slice
  subst hxe
  clear hx
  go_enter Try.func55, Try.ntmps55
  go_wp2
  go_loopw [7] (fun i wr => ∃ k : Nat, k ≤ ds.length ∧ i = .int .i64 k ∧ Hid (∀ i, i < k → docB (ds.getD i ByteArray.empty) = true) ∧ Below w.heap.size w wr) (fun i _ => ds.length - (intOf i).toNat)
  case atStart => exact ⟨0, Nat.zero_le _, rfl, fun i hi => by omega, by go_grown⟩
  case round =>
    obtain ⟨k, hk, rfl, hall, kb⟩ := hrel
    have kl := kb.size
    by_cases hlt : k < ds.length
    · obtain ⟨g, off, cap, hve, hgl, hc⟩ := (HX.out.below kb).cellS hlt
      cases hve
      have hki : (k : Int) < (ds.length : Int) := by omega
      have hk0 : (0 : Int) ≤ (k : Int) := by omega
      have hss := HSZ.out _ (getD_mem ds k hlt)
      have HNO : Hid (docB (ds.getD k ByteArray.empty) = false → B = false) := fun h => by rw [HB.out]; exact docs_no hlt h
      have HYS : Hid (docB (ds.getD k ByteArray.empty) = true → ∀ i, i < k + 1 → docB (ds.getD i ByteArray.empty) = true) := fun h i hi => by
        by_cases e : i = k
        · rw [e]; exact h
        · exact hall.out i (by omega)
      have HW := fun W => specWords (ds.getD k ByteArray.empty) hss W
      have hwl := words_len (ds.getD k ByteArray.empty)
      clear hall
      generalize ds.getD k ByteArray.empty = s at *
      by_cases h1 : 120 < s.size
      · have HE := hid (HNO.out (by simp [docB]; omega))
        have i1 : decide ((120 : Int) < (s.size : Int)) = true := by simp; omega
        clear HNO HYS h1 HW
        go_wp2
        go_returns
        exact ⟨by rw [HE.out]; rfl, kb⟩
      · have i1 : decide ((120 : Int) < (s.size : Int)) = false := by simp; omega
        by_cases h2 : 20 < (wordsL s).length
        · have HE := hid (HNO.out (by simp [docB]; omega))
          have i2 : decide ((20 : Int) < ((wordsL s).length : Int)) = true := by simp; omega
          clear HNO HYS h1 h2
          go_wp2_with fail
          refine (HW _).mono ?_
          rintro e w1 ⟨v, rfl, ho, hb1⟩
          have k1 : Below w.heap.size w w1 := kb.trans (hb1.mono kl)
          obtain ⟨va, vc, hve⟩ := (rows_of_ownS ho).slice
          subst hve
          clear HW ho hb1
          go_wp2
          go_returns
          exact ⟨by rw [HE.out]; rfl, k1⟩
        · have HE := hid (HYS.out (by simp [docB]; omega))
          have i2 : decide ((20 : Int) < ((wordsL s).length : Int)) = false := by simp; omega
          clear HNO HYS h1 h2
          go_wp2_with fail
          refine (HW _).mono ?_
          rintro e w1 ⟨v, rfl, ho, hb1⟩
          have k1 : Below w.heap.size w w1 := kb.trans (hb1.mono kl)
          obtain ⟨va, vc, hve⟩ := (rows_of_ownS ho).slice
          subst hve
          clear HW ho hb1
          go_wp2
          exact ⟨⟨k + 1, hlt, by go_num, HE, k1⟩, by simp [intOf]; omega⟩
    · have hke : k = ds.length := by omega
      subst hke
      have hki : ¬ ((ds.length : Int) < (ds.length : Int)) := by omega
      have HE : Hid (B = decide (ds.length ≤ 12)) := by show _ = _; rw [HB.out]; exact docs_end hall.out
      have hde : decide ((ds.length : Int) ≤ 12) = decide (ds.length ≤ 12) := by rw [decide_eq_decide]; omega
      generalize decide (ds.length ≤ 12) = D at *
      go_wp2
      go_returns
      exact ⟨by rw [HE.out]; rfl, kb⟩
end Go.Proofs.Ytkkmnegmghllpaa
