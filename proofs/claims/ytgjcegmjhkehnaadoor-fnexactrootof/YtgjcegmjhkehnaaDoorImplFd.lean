/- Contracts of the search among a page's keys, and of the search for a key in a tree. Condition: the keys lie in memory and rise. -/
import Derived.Test.YtgjcegmjhkehnaaDoorImplDp
namespace Go.Proofs.YtgjcegmjhkehnaaDoor
open Go.ChangeShapes Go.WideShapes Go.ChangeAt Go.RowKit Go.Deep
set_option linter.unusedVariables false
attribute [local go_sem ↓] Go.wp_at_zero Go.wp_at_succ

/-- Keys that rise. -/
def Srt (p : List Pr) : Prop := p.Pairwise fun x y => ltT x.1 y.1
theorem srt_of_rise : ∀ {L : List Pr} {a : ByteArray}, Rise a L → Srt L ∧ ∀ q ∈ L, ltT a q.1
  | [], _, _ => ⟨List.Pairwise.nil, by simp⟩
  | x :: L, a, h => by
    obtain ⟨h1, h2⟩ := srt_of_rise h.2.2
    refine ⟨List.Pairwise.cons h2 h1, fun q hq => ?_⟩
    rcases List.mem_cons.1 hq with e | e
    · subst e; exact h.2.1
    · exact ltT_trans h.2.1 (h2 q e)
theorem inter_own : ∀ (kids : List Nd) (p : List Pr), p.Sublist (interN kids p)
  | [], p => by simp [interN]
  | k :: ks, [] => by simp
  | k :: ks, q :: p => by
    simp only [interN]
    exact List.Sublist.trans ((inter_own ks p).cons_cons q) (List.sublist_append_right _ _)
theorem inter_kid : ∀ (kids : List Nd) (p : List Pr), kids.length = p.length + 1 → ∀ k ∈ kids, (allN k).Sublist (interN kids p)
  | [], p, _, k, hk => by simp at hk
  | k :: ks, [], h, x, hx => by
    have : ks = [] := List.eq_nil_of_length_eq_zero (by simpa using h)
    subst this
    have : x = k := by simpa using hx
    subst this
    simp [interN]
  | k :: ks, q :: p, h, x, hx => by
    simp only [interN]
    rcases List.mem_cons.1 hx with e | e
    · subst e; exact List.sublist_append_left _ _
    · exact List.Sublist.trans (inter_kid ks p (by simpa using h) x e) (List.Sublist.trans (List.sublist_cons_self _ _) (List.sublist_append_right _ _))
theorem srt_own {p : List Pr} {kids : List Nd} (h : Srt (allN (.mk p kids))) : Srt p := by
  rw [allN] at h
  exact h.sublist (inter_own kids p)
theorem srt_kid {p : List Pr} {kids : List Nd} (h : Srt (allN (.mk p kids))) (hs : Shape (.mk p kids)) {i : Nat} (hi : i < kids.length) : Srt (allN (kids.getD i default)) := by
  rw [allN] at h
  refine h.sublist (inter_kid kids p ?_ _ (by simp [List.getD, hi]))
  cases hs with
  | mk _ _ _ hk _ =>
    rcases hk with rfl | hk
    · simp at hi
    · exact hk
theorem pos_ge {p : List Pr} {k : ByteArray} (hs : Srt p) {i : Nat} (hi : posN p k ≤ i) (hl : i < p.length) : Go.Op.bytesLess (p.getD i default).1.toList k.toList = false := by
  have h0 : posN p k < p.length := by omega
  have h1 := pos_end h0
  rcases Nat.lt_or_eq_of_le hi with h | h
  · have h2 : ltT (p.getD (posN p k) default).1 (p.getD i default).1 := by
      have := List.pairwise_iff_getElem.1 hs (posN p k) i h0 hl h
      simpa [List.getD, h0, hl] using this
    cases h3 : Go.Op.bytesLess (p.getD i default).1.toList k.toList
    · rfl
    · have h4 : ltT (p.getD (posN p k) default).1 k := ltT_trans h2 h3
      have h5 : Go.Op.bytesLess (p.getD (posN p k) default).1.toList k.toList = true := h4
      rw [h1] at h5
      cases h5
  · rw [← h]; exact h1
theorem lessIs (x y : ByteArray) (w : World) : Calls Tryd.prog 155 #[.string x, .string y] w fun e w' => e = .returned (.bool (Go.Op.bytesLess x.toList y.toList)) ∧ w' = w := by
  obtain ⟨B, hB⟩ : ∃ B, B = Go.Op.bytesLess x.toList y.toList := ⟨_, rfl⟩
  rw [← hB]
  have hB2 := hB.symm
  clear hB
  go_enter Tryd.func155, Tryd.ntmps155
  go_wp2
  go_ret
  exact ⟨by first | rfl | simp [hB2], rfl⟩
theorem nanIs (x : ByteArray) (w : World) : Calls Tryd.prog 156 #[.string x] w fun e w' => e = .returned (.bool false) ∧ w' = w := by
  go_enter Tryd.func156, Tryd.ntmps156
  go_wp2
  go_ret
  exact ⟨by first | rfl | simp, rfl⟩
set_option maxHeartbeats 4000000 in
set_option maxRecDepth 100000 in
theorem searchIs (p : List Pr) (k : ByteArray) (x : Value) (w : World) (hx : RowsAt w 1 x p.length (keysV p)) (hs : Srt p) (hl : p.length ≤ 1048576) :
    Calls Tryd.prog 127 #[x, .string k] w fun e w' => e = .returned (.tuple #[.int .i64 (posN p k : Nat), .bool (hasN p k)]) ∧ w' = w := by
  have HC : Hid (∀ i, i < p.length → ∃ b off c, x = .slice (some ⟨b, off, none⟩) p.length c ∧ b < w.heap.size ∧ w.cell? ⟨b, off + i, none⟩ = some (.string (p.getD i default).1)) := by
    intro i hi
    obtain ⟨b, off, c, h1, h2, h3⟩ := hx.cell1 hi
    rw [keysV_get _ _ hi] at h3
    exact ⟨b, off, c, h1, h2, h3⟩
  obtain ⟨a, c, rfl⟩ := hx.slice
  have HLT := hid (fun i (hi : i < posN p k) => pos_lt hi)
  have HGE := hid (fun i (hi : posN p k ≤ i) (h : i < p.length) => pos_ge hs hi h)
  have hpl := pos_le p k
  have HHAS : Hid (hasN p k = decide (posN p k < p.length ∧ (p.getD (posN p k) default).1 = k)) := rfl
  obtain ⟨I, hI⟩ : ∃ I, posN p k = I := ⟨_, rfl⟩
  obtain ⟨B, hB⟩ : ∃ B, hasN p k = B := ⟨_, rfl⟩
  rw [hI] at HLT HGE hpl HHAS ⊢
  rw [hB] at HHAS ⊢
  clear hI hB hx hs
  go_enter Tryd.func127, Tryd.ntmps127
  go_wp2
  go_loopw [7, 8, 9] (fun s7 s8 s9 wr => ∃ lo hi : Nat, s7 = .int .i64 lo ∧ s8 = .int .i64 hi ∧ lo ≤ I ∧ I ≤ hi ∧ hi ≤ p.length ∧ wr = w) (fun s7 s8 _ _ => (intOf s8).toNat - (intOf s7).toNat)
  case atStart => exact ⟨0, p.length, rfl, rfl, Nat.zero_le _, hpl, Nat.le_refl _, rfl⟩
  case round =>
    obtain ⟨lo, hi, rfl, rfl, h1, h2, h3, hwr⟩ := hrel
    subst hwr
    by_cases hlt : lo < hi
    · obtain ⟨b, off, c', hce, hb, hcell⟩ := HC.out ((lo + hi) / 2) (by omega)
      cases hce
      have hli : (lo : Int) < (hi : Int) := by omega
      have hmi : (((lo + hi) / 2 : Nat) : Int) = ((lo : Int) + (hi : Int)) / 2 := by omega
      have hm0 : (0 : Int) ≤ ((lo : Int) + (hi : Int)) / 2 := by omega
      have hm1 : ((lo : Int) + (hi : Int)) / 2 < (p.length : Int) := by omega
      obtain ⟨y, hy⟩ : ∃ y, (p.getD ((lo + hi) / 2) default).1 = y := ⟨_, rfl⟩
      rw [hy] at hcell
      have HL := lessIs y k wr
      by_cases hm : (lo + hi) / 2 < I
      · have hless := HLT.out _ hm
        rw [hy] at hless
        rw [hless] at HL
        have HMI := hid hmi
        clear hy hless hmi
        go_wp2_with (first | (go_at_call 155; refine HL.mono ?_; rintro e w9 ⟨rfl, hw9⟩; subst w9) | fail)
        refine ⟨?_, by simp [intOf]; omega⟩
        first | exact ⟨(lo + hi) / 2 + 1, hi, by have := HMI.out; go_num, rfl, by omega, h2, h3, by first | rfl | trivial⟩ | ((repeat apply Exists.intro); exact ⟨⟨(lo + hi) / 2 + 1, hi, by have := HMI.out; go_num, rfl, by omega, h2, h3, by first | rfl | trivial⟩, rfl⟩)
      · have hless := HGE.out ((lo + hi) / 2) (by omega) (by omega)
        rw [hy] at hless
        rw [hless] at HL
        have HMI := hid hmi
        clear hy hless hmi
        go_wp2_with (first | (go_at_call 155; refine HL.mono ?_; rintro e w9 ⟨rfl, hw9⟩; subst w9) | fail)
        refine ⟨?_, by simp [intOf]; omega⟩
        first | exact ⟨lo, (lo + hi) / 2, rfl, by have := HMI.out; go_num, h1, by omega, by omega, by first | rfl | trivial⟩ | ((repeat apply Exists.intro); exact ⟨⟨lo, (lo + hi) / 2, rfl, by have := HMI.out; go_num, h1, by omega, by omega, by first | rfl | trivial⟩, rfl⟩)
    · have hli : ¬ ((lo : Int) < (hi : Int)) := by omega
      have hloI : lo = I := by omega
      subst hloI
      by_cases hn : lo < p.length
      · have hni : (lo : Int) < (p.length : Int) := by omega
        have hn0 : (0 : Int) ≤ (lo : Int) := by omega
        obtain ⟨b, off, c', hce, hb, hcell⟩ := HC.out lo hn
        cases hce
        obtain ⟨y, hy⟩ : ∃ y, (p.getD lo default).1 = y := ⟨_, rfl⟩
        rw [hy] at hcell HHAS
        have HNA := nanIs y wr
        have HNB := nanIs k wr
        by_cases hyk : y = k
        · subst hyk
          have HB1 : Hid (B = true) := by show _ = _; rw [HHAS.out]; exact decide_eq_true ⟨hn, rfl⟩
          clear hy HHAS
          go_wp2_with (first | (go_at_call 156; refine HNA.mono ?_; rintro e w9 ⟨rfl, hw9⟩; subst w9) | fail)
          go_returns
          exact ⟨by rw [HB1.out]; rfl, rfl⟩
        · have HB1 : Hid (B = false) := by show _ = _; rw [HHAS.out]; exact decide_eq_false (fun h => hyk h.2)
          have hne : (y.toList == k.toList) = false := by
            rw [beq_eq_false_iff_ne]
            intro h
            exact hyk (ba_inj h)
          clear hy HHAS
          go_wp2_with (first | (go_at_call 156; refine HNA.mono ?_; rintro e w9 ⟨rfl, hw9⟩; subst w9) | fail)
          go_returns
          exact ⟨by rw [HB1.out]; rfl, rfl⟩
      · have hni : ¬ ((lo : Int) < (p.length : Int)) := by omega
        have HB1 : Hid (B = false) := by show _ = _; rw [HHAS.out]; exact decide_eq_false (fun h => hn h.1)
        clear HHAS
        go_wp2_with fail
        go_returns
        exact ⟨by rw [HB1.out]; rfl, rfl⟩
end Go.Proofs.YtgjcegmjhkehnaaDoor
