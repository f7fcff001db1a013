/- The model's word put to its place. Condition: the list is rising and no longer than 999. -/
import Derived.Test.YtkkmnegmghllpaaVocS
namespace Go.Proofs.Ytkkmnegmghllpaa
open Go.ChangeShapes Go.WideShapes Go.ChangeAt Go.RowKit Go.Deep Go.Maps
set_option linter.unusedVariables false
attribute [local go_sem ↓] Go.wp_at_zero Go.wp_at_succ

theorem srt_at {A : List ByteArray} (h : SrtS A) {i j : Nat} (hij : i < j) (hj : j < A.length) : kL (A.getD i ByteArray.empty) < kL (A.getD j ByteArray.empty) := by
  have h2 := List.pairwise_iff_getElem.1 h i j (by simp; omega) (by simpa using hj) hij
  have hi : i < A.length := by omega
  simpa [List.getD, hi, hj] using h2
theorem l_total (x y : List UInt8) : x < y ∨ x = y ∨ y < x := by
  by_cases h : x < y
  · exact .inl h
  · by_cases g : y < x
    · exact .inr (.inr g)
    · exact .inr (.inl (List.le_antisymm (List.not_lt.1 g) (List.not_lt.1 h)))
theorem less_eq (x y : ByteArray) : Go.Op.bytesLess x.toList y.toList = decide (kL x < kL y) := by
  rw [ByteArray.toList_eq, ByteArray.toList_eq]; exact bytesLess_eq _ _
set_option maxHeartbeats 6400000 in
set_option maxRecDepth 100000 in
theorem specPut (v : Value) (A : List ByteArray) (s : ByteArray) (base : Nat) (w : World) (h : OwnS w base 9 v A.length (strsV A)) (hS : SrtS A) (hl : A.length ≤ 999) (hb : base ≤ w.heap.size) :
    Calls Try.prog 61 #[v, .string s] w fun e w' => (∃ v' A', e = .returned v' ∧ SrtS A' ∧ (∀ x, x ∈ A' ↔ x ∈ A ∨ x = s) ∧ A'.length ≤ A.length + 1 ∧ OwnS w' base 9 v' A'.length (strsV A')) ∧ Below w.heap.size w w' := by
  have HO := hid h
  have HS := hid hS
  have HIN := fun k hk => specInsert v A k s base w h hk (by omega)
  have HX := hid (OwnA.ofStrs h).1.strs
  obtain ⟨xa, xc, hxe⟩ := (rows_of_ownS h).slice
  subst hxe
  clear h hS
  go_enter Try.func61, Try.ntmps61
  go_wp2_with fail
  go_loopw [5] (fun i wr => ∃ k : Nat, k ≤ A.length ∧ i = .int .i64 (k : Int) ∧ Hid (∀ i, i < k → kL (A.getD i ByteArray.empty) < kL s) ∧ wr = w) (fun i _ => A.length - (intOf i).toNat)
  case atStart => exact ⟨0, Nat.zero_le _, rfl, fun i hi => by omega, rfl⟩
  case round =>
    obtain ⟨k, hk, rfl, hall, rfl⟩ := hrel
    have HIK := hid (HIN k hk)
    clear HIN
    by_cases hlt : k < A.length
    · obtain ⟨g, off, cap, hve, hgl, hc⟩ := HX.out.cellS hlt
      cases hve
      have hki : (k : Int) < (A.length : Int) := by omega
      have hk0 : (0 : Int) ≤ (k : Int) := by omega
      have hbl := less_eq (A.getD k ByteArray.empty) s
      have hsq := sEq (A.getD k ByteArray.empty) s
      obtain ⟨t, ht⟩ : ∃ t, t = A.getD k ByteArray.empty := ⟨_, rfl⟩
      have HT := hid ht
      rw [← ht] at hbl hsq hc
      clear ht
      by_cases h1 : kL t < kL s
      · rw [decide_eq_true h1] at hbl
        have HA : Hid (∀ i, i < k + 1 → kL (A.getD i ByteArray.empty) < kL s) := fun i hi => by
          by_cases e : i = k
          · rw [e, ← HT.out]; exact h1
          · exact hall.out i (by omega)
        clear h1 hsq HIK
        go_wp2_with fail
        refine ⟨?_, by simp [intOf]; omega⟩
        first | exact ⟨k + 1, by omega, by go_num, HA, by first | rfl | trivial⟩ | ((repeat apply Exists.intro); exact ⟨⟨k + 1, by omega, by go_num, HA, by first | rfl | trivial⟩, rfl⟩)
      · rw [decide_eq_false h1] at hbl
        by_cases he : t = s
        · rw [decide_eq_true he] at hsq
          have HM : Hid (∀ x, x ∈ A ↔ x ∈ A ∨ x = s) := fun x => ⟨.inl, fun h => by
            rcases h with h | h
            · exact h
            · rw [h, ← he, HT.out]; exact getD_mem A k hlt⟩
          clear h1 he HIK
          go_wp2_with fail
          go_returns
          exact ⟨⟨_, A, rfl, HS.out, HM.out, by omega, HO.out⟩, Below.refl _ _⟩
        · rw [decide_eq_false he] at hsq
          have h2 : ∀ i, k ≤ i → i < A.length → kL s < kL (A.getD i ByteArray.empty) := fun i h3 h4 => by
            have h5 : kL s < kL t := by
              rcases l_total (kL t) (kL s) with h | h | h
              · exact (h1 h).elim
              · exact (he (kL_inj h)).elim
              · exact h
            by_cases e : i = k
            · rw [e, ← HT.out]; exact h5
            · exact List.lt_trans h5 (by rw [HT.out]; exact srt_at HS.out (by omega) h4)
          obtain ⟨n1, n2⟩ := srt_ins HS.out hk hall.out h2
          have HN : Hid (SrtS (A.take k ++ [s] ++ A.drop k) ∧ (∀ x, x ∈ A.take k ++ [s] ++ A.drop k ↔ x ∈ A ∨ x = s) ∧ (A.take k ++ [s] ++ A.drop k).length = A.length + 1) := ⟨n1, n2, by simp; omega⟩
          have HIN := HIK.out
          obtain ⟨N, hN⟩ : ∃ N, N = A.take k ++ [s] ++ A.drop k := ⟨_, rfl⟩
          rw [← hN] at HN HIN
          clear hN
          clear h1 he h2 n1 n2 HIK
          go_wp2_with fail
          refine (HIN).mono ?_
          rintro e w1 ⟨⟨v', rfl, ho⟩, hb1⟩
          obtain ⟨va, vc, hve⟩ := (rows_of_ownS ho).slice
          subst hve
          have HF := hid ho
          clear ho HIN
          go_wp2
          go_returns
          exact ⟨⟨.slice va N.length vc, N, rfl, HN.out.1, HN.out.2.1, by rw [HN.out.2.2]; exact Nat.le_refl _, own_mono HF.out hb⟩, hb1⟩
    · have hke : k = A.length := by omega
      have hki : ¬ (k : Int) < (A.length : Int) := by omega
      obtain ⟨n1, n2⟩ := srt_ins HS.out hk hall.out (fun i h3 h4 => by omega)
      have HN : Hid (SrtS (A.take k ++ [s] ++ A.drop k) ∧ (∀ x, x ∈ A.take k ++ [s] ++ A.drop k ↔ x ∈ A ∨ x = s) ∧ (A.take k ++ [s] ++ A.drop k).length = A.length + 1) := ⟨n1, n2, by simp; omega⟩
      have HIN := HIK.out
      obtain ⟨N, hN⟩ : ∃ N, N = A.take k ++ [s] ++ A.drop k := ⟨_, rfl⟩
      rw [← hN] at HN HIN
      clear hN
      clear n1 n2 HIK hke
      go_wp2_with fail
      refine (HIN).mono ?_
      rintro e w1 ⟨⟨v', rfl, ho⟩, hb1⟩
      obtain ⟨va, vc, hve⟩ := (rows_of_ownS ho).slice
      subst hve
      have HF := hid ho
      clear ho HIN
      go_wp2
      go_returns
      exact ⟨⟨.slice va N.length vc, N, rfl, HN.out.1, HN.out.2.1, by rw [HN.out.2.2]; exact Nat.le_refl _, own_mono HF.out hb⟩, hb1⟩
end Go.Proofs.Ytkkmnegmghllpaa
