/- Contracts of the model's reading of rows. No condition but the text's own reach. -/
import Derived.Test.YtolkiofdbdjfkaaSpecRead
import Derived.Test.YtolkiofdbdjfkaaSpecReadB
import Derived.Test.YtolkiofdbdjfkaaSpecReadC
import Derived.Test.YtolkiofdbdjfkaaRowR
namespace Go.Proofs.Ytolkiofdbdjfkaa
open Go.ChangeShapes Go.WideShapes Go.ChangeAt Go.RowKit Go.Deep
set_option linter.unusedVariables false
attribute [local go_sem ↓] Go.wp_at_zero Go.wp_at_succ

theorem specRd (s : ByteArray) (a : Nat) (w : World) (hs : s.size ≤ 600) (ha : a < s.size) :
    Calls Try.prog 56 #[.string s, .int .i64 a] w fun e w' => Told s a e ∧ Below w.heap.size w w' := by
  by_cases h4 : s[a].toNat = 4
  · exact specReadC s a w hs ha h4
  by_cases h2 : s[a].toNat = 2 ∧ a + 1 < s.size
  · exact specReadA s a w hs ha h2.1 h2.2
  by_cases h3 : s[a].toNat = 3 ∧ a + 4 < s.size
  · exact specReadB s a w hs ha h3.1 h3.2
  exact specReadD s a w hs ha (fun e => by
    have : ¬ a + 1 < s.size := fun g => h2 ⟨e, g⟩
    omega) (fun e => by
    have : ¬ a + 4 < s.size := fun g => h3 ⟨e, g⟩
    omega) h4
theorem specRdAt (s : ByteArray) (a : Nat) (v : VV) (w : World) (hs : s.size ≤ 600) (ha : a < s.size) (h : Stands (s.data.toList.drop a) v) :
    Calls Try.prog 56 #[.string s, .int .i64 a] w fun e w' => e = .returned (.tuple #[encV v, .int .i64 ((a : Int) + ((bytesV v).size : Int))]) ∧ Below w.heap.size w w' := by
  refine (specRd s a w hs ha).mono ?_
  rintro e w' ⟨⟨u, hu, rfl⟩ | ⟨hn, _⟩, hb⟩
  · rw [stands_one hu h]; exact ⟨rfl, hb⟩
  · exact absurd h (hn v)
theorem specRdNo (s : ByteArray) (a : Nat) (w : World) (hs : s.size ≤ 600) (ha : a < s.size) (h : ∀ v, ¬ Stands (s.data.toList.drop a) v) :
    Calls Try.prog 56 #[.string s, .int .i64 a] w fun e w' => e = .returned (.tuple #[.agg #[.int .i64 0, .int .i64 0, .string ⟨#[]⟩], .int .i64 (-1)]) ∧ Below w.heap.size w w' := by
  refine (specRd s a w hs ha).mono ?_
  rintro e w' ⟨⟨u, hu, rfl⟩ | ⟨hn, rfl⟩, hb⟩
  · exact absurd hu (h u)
  · exact ⟨rfl, hb⟩
set_option maxHeartbeats 6400000 in
set_option maxRecDepth 100000 in
theorem specRRYes (s : ByteArray) (vs : List VV) (w : World) (h : RowIs s vs) :
    Calls Try.prog 34 #[.string s] w fun e w' => ∃ x, e = .returned (.tuple #[x, .bool true]) ∧ OwnVs w' w.heap.size x vs ∧ Below w.heap.size w w' := by
  obtain ⟨i0, hi, hzz⟩ := Option.map_eq_some_iff.1 infoV3
  simp only [Prod.mk.injEq] at hzz
  obtain ⟨hz0, hz1, hz2⟩ := hzz
  have HR : Hid (RowIs s vs) := h
  have hl6 := h.2.1
  have hsz : s.size ≤ 162 := by
    have h2 := vrowL_len h.1
    have h3 := row_end h
    omega
  have hs6 : ¬ (600 : Int) < (s.size : Int) := by omega
  (try clear h)
  have HO0 := hid (OwnVs.nil w w.heap.size)
  go_enter Try.func34, Try.ntmps34
  go_wp2_with fail
  go_loopw [4, 5, 6, 7] (fun row i p q wr => ∃ k : Nat, k ≤ vs.length ∧ i = .int .i64 ((vrowL (vs.take k)).length : Int) ∧ OwnVs wr w.heap.size row (vs.take k) ∧ Below w.heap.size w wr) (fun _ i _ _ _ => s.size - (intOf i).toNat)
  case atStart => exact ⟨0, Nat.zero_le _, rfl, HO0.out, Below.refl _ _⟩
  case round =>
    obtain ⟨k, hk, rfl, hown, kb⟩ := hrel
    have kl := kb.size
    by_cases hlt : k < vs.length
    · obtain ⟨r1, r2, r3, r4, r5, r6⟩ := row_round HR.out k hlt
      have hb27 : (bytesV (vs.getD k v0)).size ≤ 27 := by rw [bytesV_size]; exact bytesL_len r3.1
      have hb1 : 1 ≤ (bytesV (vs.getD k v0)).size := by rw [bytesV_size]; exact bytesL_pos r3.1
      have HY := fun W => specRdAt s (vrowL (vs.take k)).length (vs.getD k v0) W (by omega) r1 r3
      have hown' : wr.ownsRow w.heap.size 24 3 _ (vs.take k).length (cellsV (vs.take k)) := hown
      have HL := hid r4
      have HC := hid r5
      have HN := hid r6
      have hlk : (vs.take k).length ≤ 5 := by simp; omega
      have hl5 : ¬ ((vs.take k).length : Int) = 6 := by omega
      have hl5b : (((vs.take k).length : Int) == 6) = false := beq_false_of_ne hl5
      obtain ⟨ad, cap, hx⟩ := hown.slice
      subst hx
      have hai : ((vrowL (vs.take k)).length : Int) < (s.size : Int) := by omega
      clear r3 r4 r5 r6 hown
      generalize hA : (vrowL (vs.take k)).length = A at *
      have HA := hid hA
      clear hA
      generalize cellsV (vs.take k) = CS at *
      generalize (vs.take k).length = n at *
      generalize bytesV (vs.getD k v0) = BV at *
      generalize vs.getD k v0 = u at *
      obtain ⟨K, N, T⟩ := u
      unfold encV at HY
      simp only [] at HY HC
      go_wp2_with fail
      refine (HY _).mono ?_
      rintro e w1 ⟨rfl, hx1⟩
      have k1 : Below w.heap.size w w1 := kb.trans (hx1.mono kl)
      have kl1 := k1.size
      have hown1 := hown'.kept (row := none) ⟨hx1.os, hx1.tape, hx1.output, hx1.size, fun k hk _ => hx1.block k hk⟩ (by cases ad <;> simp [Value.ownBlock])
      clear hx1 HY hown'
      go_wp2_with (first | (at_builtin; refine wpList_append_own _ rfl _ _ 39 rfl w.heap.size 24 i0 (.agg #[.int .i64 0, .int .i64 0, .string ByteArray.empty]) 3 32 Try.underlying39 hi hz0 hz1 hz2 rfl (by decide) _ _ _ rfl ((hown1.alloc _).alloc _) ⟨w1.heap.size + 1, 0, none⟩ 1 1 [.int .i64 K, .int .i64 N, .string T] rfl rfl ?c1 ?c2 ?c3 ?c4 ?c5 ?_) | fail)
      case c1 => exact newsAt _ #[.int .i64 K, .int .i64 N, .string T] _ _ (by simp)
      case c2 => intro u hu; simp at hu; rcases hu with rfl | rfl | rfl <;> rfl
      case c3 => unfold maxLen; omega
      case c4 => omega
      case c5 => simp; omega
      intro v2 w2 hown2 hg2 _
      have k2 : Below w.heap.size w w2 := ((k1.alloc (by omega) _).alloc (by simp; omega) _).grown hg2 (by simp; omega) (fun r hr => (hown1.lt r hr).1)
      rw [← HC.out, ← HN.out] at hown2
      have HO2 : Hid (OwnVs w2 w.heap.size v2 (vs.take (k + 1))) := hown2
      clear hg2 hown1 hown2
      go_wp2
      refine ⟨?_, by simp [intOf]; omega⟩
      first | exact ⟨k + 1, by omega, by rw [HL.out]; rfl, HO2.out, k2⟩ | ((repeat apply Exists.intro); exact ⟨⟨k + 1, by omega, by rw [HL.out]; rfl, HO2.out, k2⟩, rfl⟩)
    · have hke : k = vs.length := by omega
      subst hke
      rw [List.take_length] at hown ⊢
      have he := row_end HR.out
      rw [he]
      have HO := hid hown
      obtain ⟨ad, cap, hx⟩ := hown.slice
      subst hx
      have h6n : ¬ (6 : Int) < (vs.length : Int) := by omega
      clear hown he
      go_wp2
      go_returns
      exact ⟨_, rfl, HO.out, kb⟩
set_option maxHeartbeats 6400000 in
set_option maxRecDepth 100000 in
theorem specRRNo (s : ByteArray) (w : World) (hm : s.size ≤ maxLen) (h : ∀ vs, ¬ RowIs s vs) :
    Calls Try.prog 34 #[.string s] w fun e w' => e = .returned (.tuple #[.slice none 0 0, .bool false]) ∧ Below w.heap.size w w' := by
  obtain ⟨i0, hi, hzz⟩ := Option.map_eq_some_iff.1 infoV3
  simp only [Prod.mk.injEq] at hzz
  obtain ⟨hz0, hz1, hz2⟩ := hzz
  have hpos : 0 < s.size := by
    rcases Nat.eq_zero_or_pos s.size with h0 | h0
    · exact absurd ⟨fun v hv => by simp at hv, by simp, by
        have : s.data.toList.length = 0 := by simpa using h0
        exact List.eq_nil_of_length_eq_zero this⟩ (h [])
    · exact h0
  have hsl : s.data.toList.length = s.size := by simp
  by_cases h6 : 600 < s.size
  · have hi6 : (600 : Int) < (s.size : Int) := by omega
    have hm2 := hm
    unfold maxLen at hm2
    go_enter Try.func34, Try.ntmps34
    go_wp2
    go_returns
    exact ⟨rfl, by go_grown⟩
  have hs6 : ¬ (600 : Int) < (s.size : Int) := by omega
  have HH : Hid (∀ vs, ¬ RowIs s vs) := h
  have HSL := hid hsl
  have HO0 := hid (OwnVs.nil w w.heap.size)
  clear h hm hsl
  go_enter Try.func34, Try.ntmps34
  go_wp2_with fail
  go_loopw [4, 5, 6, 7] (fun row i p q wr => ∃ us : List VV, AllGood us ∧ s.data.toList = vrowL us ++ s.data.toList.drop (vrowL us).length ∧ i = .int .i64 ((vrowL us).length : Int) ∧ OwnVs wr w.heap.size row us ∧ Below w.heap.size w wr) (fun _ i _ _ _ => s.size - (intOf i).toNat)
  case atStart => exact ⟨[], fun v hv => by simp at hv, by simp [vrowL], rfl, HO0.out, Below.refl _ _⟩
  case round =>
    obtain ⟨us, hug, hue, rfl, hown, kb⟩ := hrel
    have kl := kb.size
    have HU := hid hug
    have HE := hid hue
    have hul : us.length ≤ (vrowL us).length := vrowL_pos hug
    have hle : (vrowL us).length ≤ s.size := by
      have h1 := congrArg List.length hue
      have h2 := HSL.out
      simp only [List.length_append, List.length_drop] at h1
      omega
    clear hug hue
    obtain ⟨ad, cap, hx⟩ := hown.slice
    subst hx
    by_cases hlt : (vrowL us).length < s.size
    · have hai : ((vrowL us).length : Int) < (s.size : Int) := by omega
      by_cases hst : ∃ v, Stands (s.data.toList.drop (vrowL us).length) v
      · obtain ⟨v, hv⟩ := hst
        have HY := fun W => specRdAt s (vrowL us).length v W (by omega) hlt hv
        have hb27 : (bytesV v).size ≤ 27 := by rw [bytesV_size]; exact bytesL_len hv.1
        have hb1 : 1 ≤ (bytesV v).size := by rw [bytesV_size]; exact bytesL_pos hv.1
        have hown' : wr.ownsRow w.heap.size 24 3 (.slice ad us.length cap) us.length (cellsV us) := hown
        have HU2 : Hid (AllGood (us ++ [v])) := by
          intro u hu
          simp only [List.mem_append, List.mem_singleton] at hu
          rcases hu with hu | rfl
          · exact HU.out u hu
          · exact hv.1
        have HL : Hid ((vrowL (us ++ [v])).length = (vrowL us).length + (bytesV v).size) := by show _ = _; rw [vrowL_append, bytesV_size]; simp [vrowL]
        have HE2 : Hid (s.data.toList = vrowL (us ++ [v]) ++ s.data.toList.drop (vrowL (us ++ [v])).length) := by
          obtain ⟨_, r, hr⟩ := hv
          show _ = _
          rw [HL.out, bytesV_size, ← List.drop_drop, hr, List.drop_left, vrowL_append, List.append_assoc]
          have h := HE.out
          rw [hr] at h
          simpa [vrowL] using h
        have HC : Hid (cellsV (us ++ [v]) = cellsV us ++ [.int .i64 v.k, .int .i64 v.n, .string v.t]) := by show _ = _; rw [cellsV_append]; simp [cellsV]
        have HN : Hid ((us ++ [v]).length = us.length + 1) := by show _ = _; simp
        clear hv
        have hln : us.length ≤ 600 := by omega
        generalize hA : (vrowL us).length = A at *
        have HA := hid hA
        clear hA hown
        generalize cellsV us = CS at *
        generalize us.length = n at *
        generalize bytesV v = BV at *
        have HV : Hid (∃ u, u = v) := ⟨v, rfl⟩
        obtain ⟨u, hu2⟩ := HV.out
        rw [← hu2] at HU2 HL HE2 HC HN
        have HUV := hid hu2
        clear HV hu2
        obtain ⟨K, N, T⟩ := v
        unfold encV at HY
        simp only [] at HY HC
        have HC2 : Hid (cellsV (us ++ [u]) = CS ++ [.int .i64 K, .int .i64 N, .string T]) := by
          show _ = _
          rw [HC.out, HUV.out]
        clear HC
        go_wp2_with fail
        refine (HY _).mono ?_
        rintro e w1 ⟨rfl, hx1⟩
        have k1 : Below w.heap.size w w1 := kb.trans (hx1.mono kl)
        have kl1 := k1.size
        have hown1 := hown'.kept (row := none) ⟨hx1.os, hx1.tape, hx1.output, hx1.size, fun k hk _ => hx1.block k hk⟩ (by cases ad <;> simp [Value.ownBlock])
        clear hx1 HY hown'
        go_wp2_with (first | (at_builtin; refine wpList_append_own _ rfl _ _ 39 rfl w.heap.size 24 i0 (.agg #[.int .i64 0, .int .i64 0, .string ByteArray.empty]) 3 32 Try.underlying39 hi hz0 hz1 hz2 rfl (by decide) _ _ _ rfl ((hown1.alloc _).alloc _) ⟨w1.heap.size + 1, 0, none⟩ 1 1 [.int .i64 K, .int .i64 N, .string T] rfl rfl ?c1 ?c2 ?c3 ?c4 ?c5 ?_) | fail)
        case c1 => exact newsAt _ #[.int .i64 K, .int .i64 N, .string T] _ _ (by simp)
        case c2 => intro u hu; simp at hu; rcases hu with rfl | rfl | rfl <;> rfl
        case c3 => unfold maxLen; omega
        case c4 => omega
        case c5 => simp; omega
        intro v2 w2 hown2 hg2 _
        have k2 : Below w.heap.size w w2 := ((k1.alloc (by omega) _).alloc (by simp; omega) _).grown hg2 (by simp; omega) (fun r hr => (hown1.lt r hr).1)
        rw [← HC2.out, ← HN.out] at hown2
        have HO2 : Hid (OwnVs w2 w.heap.size v2 (us ++ [u])) := hown2
        have h66 : (us ++ [u]).length ≤ 601 := by rw [HN.out]; omega
        clear hg2 hown1 hown2
        go_wp2
        refine ⟨?_, by simp [intOf]; omega⟩
        first | exact ⟨us ++ [u], HU2.out, HE2.out, by rw [HL.out]; rfl, HO2.out, k2⟩ | ((repeat apply Exists.intro); exact ⟨⟨us ++ [u], HU2.out, HE2.out, by rw [HL.out]; rfl, HO2.out, k2⟩, rfl⟩)
      · have HY := fun W => specRdNo s (vrowL us).length W (by omega) hlt (fun v hv => hst ⟨v, hv⟩)
        clear hst hown
        generalize (vrowL us).length = A at *
        go_wp2_with fail
        refine (HY _).mono ?_
        rintro e w1 ⟨rfl, hx1⟩
        have k1 : Below w.heap.size w (w1.alloc (.cells #[.int .i64 0, .int .i64 0, .string ⟨#[]⟩] 24)) := (kb.trans (hx1.mono kl)).alloc (Nat.le_trans kl hx1.size) _
        clear hx1 HY
        go_wp2
        go_returns
        exact ⟨rfl, k1⟩
    · have hen : (vrowL us).length = s.size := by omega
      have hall : s.data.toList = vrowL us := by
        have h1 := HE.out
        rw [hen, List.drop_eq_nil_of_le (by have := HSL.out; omega), List.append_nil] at h1
        exact h1
      have h7 : ¬ us.length ≤ 6 := fun g => HH.out us ⟨HU.out, g, hall⟩
      have h7i : (6 : Int) < (us.length : Int) := by omega
      rw [hen]
      clear hall hown hen
      go_wp2
      go_returns
      exact ⟨rfl, kb⟩
end Go.Proofs.Ytolkiofdbdjfkaa
