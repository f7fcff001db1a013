/- Contracts of what the cursor draws: rows of values. Condition: the cursor's block and its bytes lie in memory. -/
import Derived.Test.YtolkiofdbdjfkaaDrawV
import Derived.Test.YtolkiofdbdjfkaaRowR
namespace Go.Proofs.Ytolkiofdbdjfkaa
open Go.ChangeShapes Go.WideShapes Go.ChangeAt Go.RowKit Go.Deep
set_option linter.unusedVariables false
attribute [local go_sem ↓] Go.wp_at_zero Go.wp_at_succ

theorem CurAt.block {w w' : World} {g : Nat} {v : Value} {m : Nat} (h : CurAt w g v m) (e : w'.heap[g]? = w.heap[g]?) : CurAt w' g v m := by
  obtain ⟨a, s, h0, h1, c0, c1, c2, s0, s1, f0, f1, f2⟩ := h
  refine ⟨a, s, h0, h1, ?_, ?_, ?_, s0, s1, ?_, ?_, ?_⟩
  · simp only [World.cell?, e]; exact c0
  · simp only [World.cell?, e]; exact c1
  · simp only [World.cell?, e]; exact c2
  · simp only [World.frozen?, e]; exact f0
  · simp only [World.frozen?, e]; exact f1
  · simp only [World.frozen?, e]; exact f2
theorem Drawn.grownNew {w w1 w1' w2 : World} {g : Nat} {v : Value} {n m : Nat} {r : Option Nat} (hgl : g < w.heap.size) (hb : BytesAt w g v n) (h : Drawn w w1 g v n m) (h1 : Below w1.heap.size w1 w1') (hg : w1'.grownBy w2 r) (hr : ∀ k, r = some k → w.heap.size ≤ k) : Drawn w w2 g v n m := by
  have hz := h.2.2.size
  have hz1 := h1.size
  have gb : w.grownBy w2 (some g) := by
    refine ⟨hg.os.trans (h1.os.trans h.2.2.os), hg.tape.trans (h1.tape.trans h.2.2.tape), hg.output.trans (h1.output.trans h.2.2.output), by have := hg.size; omega, fun k hk hn => ?_⟩
    rw [hg.block k (by omega) (fun e => by have := hr k e.symm; omega), h1.block k (by omega), h.2.2.block k hk hn]
  refine ⟨h.1.block ?_, hb.kept gb, gb⟩
  rw [hg.block g (by omega) (fun e => by have := hr g e.symm; omega), h1.block g (by omega)]
theorem OwnVs.grown {w w' : World} {base g : Nat} {x : Value} {vs : List VV} (h : OwnVs w base x vs) (hg : w.grownBy w' (some g)) (hl : g < base) : OwnVs w' base x vs := by
  refine World.ownsRow.kept (row := some g) h hg ?_
  cases e : x.ownBlock with
  | none => exact .inl rfl
  | some k =>
    right
    intro e2
    have := (World.ownsRow.lt h k e).1
    cases e2
    omega
set_option maxHeartbeats 6400000 in
set_option maxRecDepth 100000 in
theorem rowIn (g : Nat) (v : Value) (n m : Nat) (w : World) (hc : CurAt w g v m) (hb : BytesAt w g v n) (hm : m ≤ 1000000 - 100) :
    Calls Try.prog 59 #[.pointer (some ⟨g, 0, none⟩)] w fun e w' => ∃ x vs, e = .returned x ∧ OwnVs w' w.heap.size x vs ∧ vs.length ≤ 7 ∧ (∀ u ∈ vs, u.t.size ≤ 13) ∧ Drawn w w' g v n (m + 60) := by
  obtain ⟨i0, hi, hzz⟩ := Option.map_eq_some_iff.1 infoV3
  simp only [Prod.mk.injEq] at hzz
  obtain ⟨hz0, hz1, hz2⟩ := hzz
  have hgl := hc.lt
  have HP := pickIn g v n m 5 w hc hb (by omega) (by omega) (by omega)
  have HBY := hide hb
  clear hc hb
  go_enter Try.func59, Try.ntmps59
  go_wp2_with fail
  refine HP.mono ?_
  rintro e w1 ⟨x, rfl, hx0, hx1, hd1⟩
  have HD1 := hide hd1
  clear HP hd1
  obtain ⟨N, rfl⟩ := Int.eq_ofNat_of_zero_le hx0
  go_wp2_with fail
  refine (oneIn g v n (m + 2) 20 w1 (unhide HD1).1 (unhide HD1).2.1 (by omega) (by omega) (by omega)).mono ?_
  rintro e w2 ⟨o, rfl, hd2⟩
  have HD2 := hide ((unhide HD1).trans hd2)
  clear hd2 HD1
  cases o
  · have HO := hide (OwnVs.nil w2 w.heap.size)
    have HDD := hide ((unhide HD2).mono (by omega : _ ≤ m + 6))
    go_wp2_with fail
    go_loopw [3, 4] (fun row i wr => ∃ (us : List VV) (k : Nat), i = .int .i64 k ∧ k + us.length ≤ 7 ∧ OwnVs wr w.heap.size row us ∧ (∀ u ∈ us, u.t.size ≤ 13) ∧ Drawn w wr g v n (m + 6 + 6 * us.length)) (fun _ i _ => (intOf i).toNat)
    case atStart => exact ⟨[], N, rfl, by simp; omega, unhide HO, fun u hu => by simp at hu, by simpa using unhide HDD⟩
    case round =>
      obtain ⟨us, k, rfl, hk, hown, hus, hd⟩ := hrel
      have HU := hide hus
      have HD3 := hide hd
      have HO3 := hide hown
      have l3 := hd.2.2.size
      clear hus hd hown
      by_cases hp : 0 < k
      · have hpi : (0 : Int) < (k : Int) := by omega
        go_wp2_with fail
        refine (valueIn g v n (m + 6 + 6 * us.length) wr (unhide HD3).1 (unhide HD3).2.1 (by omega)).mono ?_
        rintro e w5 ⟨u, rfl, hu, hd⟩
        have HD5 := hide ((unhide HD3).trans hd)
        have hown := (unhide HO3).grown hd.2.2 hgl
        have hown' : w5.ownsRow w.heap.size 24 3 _ us.length (cellsV us) := hown
        have l5 := (unhide HD5).2.2.size
        have HC : Hid (cellsV (us ++ [u]) = cellsV us ++ [.int .i64 u.k, .int .i64 u.n, .string u.t]) := by show _ = _; rw [cellsV_append]; simp [cellsV]
        have HN : Hid ((us ++ [u]).length = us.length + 1) := by show _ = _; simp
        have HU2 : Hid (∀ z ∈ us ++ [u], z.t.size ≤ 13) := by
          intro z hz
          simp only [List.mem_append, List.mem_singleton] at hz
          rcases hz with hz | rfl
          · exact unhide HU z hz
          · exact hu
        clear hd hown HO3
        have hul : us.length ≤ 7 := by omega
        generalize cellsV us = CS at *
        obtain ⟨V, hV⟩ : ∃ V, V = u := ⟨_, rfl⟩
        rw [← hV] at HC HN HU2
        have HV := hide hV
        clear hV
        obtain ⟨K, N, T⟩ := u
        have HC2 : Hid (cellsV (us ++ [V]) = CS ++ [.int .i64 K, .int .i64 N, .string T]) := by show _ = _; rw [unhide HC]; rw [unhide HV]
        clear HC
        unfold encV
        simp only [] at *
        go_wp2_with (first | (at_builtin; refine wpList_append_own _ rfl _ _ 39 rfl w.heap.size 24 i0 (.agg #[.int .i64 0, .int .i64 0, .string ByteArray.empty]) 3 32 Try.underlying39 hi hz0 hz1 hz2 rfl (by decide) _ _ _ rfl (hown'.alloc _) ⟨w5.heap.size, 0, none⟩ 1 1 [.int .i64 K, .int .i64 N, .string T] rfl rfl ?c1 ?c2 ?c3 ?c4 ?c5 ?_) | fail)
        case c1 => exact newsAt _ #[.int .i64 K, .int .i64 N, .string T] _ _ rfl
        case c2 => intro u hu; simp at hu; rcases hu with rfl | rfl | rfl <;> rfl
        case c3 => unfold maxLen; omega
        case c4 => omega
        case c5 => simp; omega
        intro v2 w6 hown2 hg2 _
        have HD6 := hide ((unhide HD5).grownNew hgl (unhide HBY) ((Below.refl _ w5).alloc (Nat.le_refl _) _) hg2 (fun k hk => (hown'.lt k hk).1))
        rw [← unhide HC2, ← unhide HN] at hown2
        have HO6 : Hid (OwnVs w6 w.heap.size v2 (us ++ [V])) := hown2
        have HM : Hid (m + 6 + 6 * us.length + 6 = m + 6 + 6 * (us ++ [V]).length) := by show _ = _; rw [unhide HN]; omega
        rw [unhide HM] at HD6
        have hk2 : (k - 1) + (us ++ [V]).length ≤ 7 := by rw [unhide HN]; omega
        clear hg2 hown' hown2
        go_wp2
        refine ⟨?_, by simp [intOf]; omega⟩
        first | exact ⟨us ++ [V], k - 1, by congr 1; omega, hk2, unhide HO6, unhide HU2, unhide HD6⟩ | ((repeat apply Exists.intro); exact ⟨⟨us ++ [V], k - 1, by congr 1; omega, hk2, unhide HO6, unhide HU2, unhide HD6⟩, rfl⟩)
      · have hk0 : k = 0 := by omega
        subst hk0
        have hul : us.length ≤ 7 := by omega
        go_wp2
        go_ret
        exact ⟨_, us, rfl, unhide HO3, hul, unhide HU, (unhide HD3).mono (by omega)⟩
  · go_wp2_with fail
    refine (pickIn g v n (m + 2 + 2) 2 w2 (unhide HD2).1 (unhide HD2).2.1 (by omega) (by omega) (by omega)).mono ?_
    rintro e w3 ⟨y, rfl, hy0, hy1, hd3⟩
    have HD9 := hide ((unhide HD2).trans hd3)
    clear hd3 HD2
    obtain ⟨M, rfl⟩ := Int.eq_ofNat_of_zero_le hy0
    have HO := hide (OwnVs.nil w3 w.heap.size)
    have HDD := hide ((unhide HD9).mono (by omega : _ ≤ m + 6))
    go_wp2_with fail
    go_loopw [3, 4] (fun row i wr => ∃ (us : List VV) (k : Nat), i = .int .i64 k ∧ k + us.length ≤ 7 ∧ OwnVs wr w.heap.size row us ∧ (∀ u ∈ us, u.t.size ≤ 13) ∧ Drawn w wr g v n (m + 6 + 6 * us.length)) (fun _ i _ => (intOf i).toNat)
    case atStart => exact ⟨[], 6 + M, rfl, by simp; omega, unhide HO, fun u hu => by simp at hu, by simpa using unhide HDD⟩
    case round =>
      obtain ⟨us, k, rfl, hk, hown, hus, hd⟩ := hrel
      have HU := hide hus
      have HD3 := hide hd
      have HO3 := hide hown
      have l3 := hd.2.2.size
      clear hus hd hown
      by_cases hp : 0 < k
      · have hpi : (0 : Int) < (k : Int) := by omega
        go_wp2_with fail
        refine (valueIn g v n (m + 6 + 6 * us.length) wr (unhide HD3).1 (unhide HD3).2.1 (by omega)).mono ?_
        rintro e w5 ⟨u, rfl, hu, hd⟩
        have HD5 := hide ((unhide HD3).trans hd)
        have hown := (unhide HO3).grown hd.2.2 hgl
        have hown' : w5.ownsRow w.heap.size 24 3 _ us.length (cellsV us) := hown
        have l5 := (unhide HD5).2.2.size
        have HC : Hid (cellsV (us ++ [u]) = cellsV us ++ [.int .i64 u.k, .int .i64 u.n, .string u.t]) := by show _ = _; rw [cellsV_append]; simp [cellsV]
        have HN : Hid ((us ++ [u]).length = us.length + 1) := by show _ = _; simp
        have HU2 : Hid (∀ z ∈ us ++ [u], z.t.size ≤ 13) := by
          intro z hz
          simp only [List.mem_append, List.mem_singleton] at hz
          rcases hz with hz | rfl
          · exact unhide HU z hz
          · exact hu
        clear hd hown HO3
        have hul : us.length ≤ 7 := by omega
        generalize cellsV us = CS at *
        obtain ⟨V, hV⟩ : ∃ V, V = u := ⟨_, rfl⟩
        rw [← hV] at HC HN HU2
        have HV := hide hV
        clear hV
        obtain ⟨K, N, T⟩ := u
        have HC2 : Hid (cellsV (us ++ [V]) = CS ++ [.int .i64 K, .int .i64 N, .string T]) := by show _ = _; rw [unhide HC]; rw [unhide HV]
        clear HC
        unfold encV
        simp only [] at *
        go_wp2_with (first | (at_builtin; refine wpList_append_own _ rfl _ _ 39 rfl w.heap.size 24 i0 (.agg #[.int .i64 0, .int .i64 0, .string ByteArray.empty]) 3 32 Try.underlying39 hi hz0 hz1 hz2 rfl (by decide) _ _ _ rfl (hown'.alloc _) ⟨w5.heap.size, 0, none⟩ 1 1 [.int .i64 K, .int .i64 N, .string T] rfl rfl ?c1 ?c2 ?c3 ?c4 ?c5 ?_) | fail)
        case c1 => exact newsAt _ #[.int .i64 K, .int .i64 N, .string T] _ _ rfl
        case c2 => intro u hu; simp at hu; rcases hu with rfl | rfl | rfl <;> rfl
        case c3 => unfold maxLen; omega
        case c4 => omega
        case c5 => simp; omega
        intro v2 w6 hown2 hg2 _
        have HD6 := hide ((unhide HD5).grownNew hgl (unhide HBY) ((Below.refl _ w5).alloc (Nat.le_refl _) _) hg2 (fun k hk => (hown'.lt k hk).1))
        rw [← unhide HC2, ← unhide HN] at hown2
        have HO6 : Hid (OwnVs w6 w.heap.size v2 (us ++ [V])) := hown2
        have HM : Hid (m + 6 + 6 * us.length + 6 = m + 6 + 6 * (us ++ [V]).length) := by show _ = _; rw [unhide HN]; omega
        rw [unhide HM] at HD6
        have hk2 : (k - 1) + (us ++ [V]).length ≤ 7 := by rw [unhide HN]; omega
        clear hg2 hown' hown2
        go_wp2
        refine ⟨?_, by simp [intOf]; omega⟩
        first | exact ⟨us ++ [V], k - 1, by congr 1; omega, hk2, unhide HO6, unhide HU2, unhide HD6⟩ | ((repeat apply Exists.intro); exact ⟨⟨us ++ [V], k - 1, by congr 1; omega, hk2, unhide HO6, unhide HU2, unhide HD6⟩, rfl⟩)
      · have hk0 : k = 0 := by omega
        subst hk0
        have hul : us.length ≤ 7 := by omega
        go_wp2
        go_ret
        exact ⟨_, us, rfl, unhide HO3, hul, unhide HU, (unhide HD3).mono (by omega)⟩
end Go.Proofs.Ytolkiofdbdjfkaa
