/- Contracts of the model's way and top. No condition but the seed's size and the number. -/
import Derived.Test.YtemkkofjakpjiaaDoorSpecRows
namespace Go.Proofs.YtemkkofjakpjiaaDoor
open Go.ChangeShapes Go.WideShapes Go.ChangeAt Go.RowKit Go.Deep
set_option linter.unusedVariables false

set_option maxHeartbeats 1600000 in
theorem specTopYes (s : ByteArray) (w : World) (h0 : 1 ≤ s.size) (h1 : s.size ≤ 8) :
    Calls Tryd.prog 50 #[.string s] w fun e w' => e = .returned (.tuple #[.string (topB s), .bool true]) ∧ Below w.heap.size w w' := by
  go_enter Tryd.func50, Tryd.ntmps50
  go_wp2_with fail
  refine (specTSeedYes s _ h0 h1).mono ?_
  rintro e w0 ⟨rfl, rfl⟩
  go_wp2_with fail
  refine (specRows s _ h0 h1).mono ?_
  rintro e w1 ⟨g, cap, vs, rfl, hg, hc, hr, hb1⟩
  obtain ⟨g3, c3, e3, _, hg3, hc3⟩ := hr.2 3 (by omega)
  have r3 := hc 3 (by omega)
  rw [e3] at r3
  have q3 : w1.cell? ⟨g3, 0, none⟩ = some (.string (lev s 3 0)) := hc3 0 (by decide)
  have r3' : w1.cell? ⟨g, 3, none⟩ = some (.slice (some ⟨g3, 0, none⟩) 1 c3) := r3
  have HT : Hid (topB s = lev s 3 0) := rfl
  clear hc hr hc3 e3 r3
  generalize lev s 3 0 = T at *
  go_wp2
  go_returns
  exact ⟨by rw [HT.out]; rfl, hb1⟩
set_option maxHeartbeats 1600000 in
theorem specTopNo (s : ByteArray) (w : World) (hm : s.size ≤ maxLen) (h : ¬ (1 ≤ s.size ∧ s.size ≤ 8)) :
    Calls Tryd.prog 50 #[.string s] w fun e w' => e = .returned (.tuple #[.string ByteArray.empty, .bool false]) ∧ Below w.heap.size w w' := by
  go_enter Tryd.func50, Tryd.ntmps50
  go_wp2_with fail
  refine (specTSeedNo s _ hm h).mono ?_
  rintro e w0 ⟨rfl, rfl⟩
  go_wp2
  go_returns
  exact ⟨rfl, by go_grown⟩

theorem way_at (s : ByteArray) (no i : Nat) (hi : i < 3) : ([Value.string (lev s 0 (no ^^^ 1)), .string (lev s 1 (no / 2 ^^^ 1)), .string (lev s 2 (no / 2 / 2 ^^^ 1))]).getD i default = .string ((wayB s no).getD i ByteArray.empty) := by
  match i, hi with
  | 0, _ => rfl
  | 1, _ => rfl
  | 2, _ => rfl
set_option maxHeartbeats 6400000 in
set_option maxRecDepth 100000 in
theorem specL3Way (s : ByteArray) (N : Nat) (w : World) (h0 : 1 ≤ s.size) (h1 : s.size ≤ 8) (hN : N < 8) :
    Calls Tryd.prog 89 #[.string s, .int .i64 N] w fun e w' => ∃ g cap, e = .returned (.slice (some ⟨g, 0, none⟩) 3 cap) ∧ OwnRow w.heap.size w' g 3 (fun i => .string ((wayB s N).getD i ByteArray.empty)) ∧ Below w.heap.size w w' := by
  obtain ⟨i0, hi, hzz⟩ := Option.map_eq_some_iff.1 infoStr
  simp only [Prod.mk.injEq] at hzz
  obtain ⟨hz0, hz1, hz2⟩ := hzz
  have b0 := xor_i64 N hN
  have b1 : bits .xor .i64 ((N : Int) / 2) 1 = ((N / 2 ^^^ 1 : Nat) : Int) := xor_i64 (N / 2) (by omega)
  have b2 : bits .xor .i64 ((N : Int) / 2 / 2) 1 = ((N / 2 / 2 ^^^ 1 : Nat) : Int) := xor_i64 (N / 2 / 2) (by omega)
  have x0 := xor8 N hN
  have x1 := xor4 (N / 2) (by omega)
  have x2 := xor2 (N / 2 / 2) (by omega)
  have HW := fun i hi => way_at s N i hi
  have HWH : Hid (∀ i, i < 3 → ([Value.string (lev s 0 (N ^^^ 1)), .string (lev s 1 (N / 2 ^^^ 1)), .string (lev s 2 (N / 2 / 2 ^^^ 1))]).getD i default = .string ((wayB s N).getD i ByteArray.empty)) := HW
  clear HW
  go_enter Tryd.func89, Tryd.ntmps89
  go_wp2_with fail
  refine (specRows s _ h0 h1).mono ?_
  rintro e w1 ⟨g, cap, vs, rfl, hg, hc, hr, hb1⟩
  have hl1 := hb1.size
  obtain ⟨g0, c0, e0, _, hg0, hc0⟩ := hr.2 0 (by omega)
  have r0 : w1.cell? ⟨g, 0, none⟩ = some (.slice (some ⟨g0, 0, none⟩) 8 c0) := by rw [hc 0 (by omega), e0]
  have q0 : w1.cell? ⟨g0, N ^^^ 1, none⟩ = some (.string (lev s 0 (N ^^^ 1))) := hc0 _ (by simpa using x0)
  obtain ⟨g1, c1, e1, _, hg1, hc1⟩ := hr.2 1 (by omega)
  have r1 : w1.cell? ⟨g, 1, none⟩ = some (.slice (some ⟨g1, 0, none⟩) 4 c1) := by rw [hc 1 (by omega), e1]
  have q1 : w1.cell? ⟨g1, N / 2 ^^^ 1, none⟩ = some (.string (lev s 1 (N / 2 ^^^ 1))) := hc1 _ (by simpa using x1)
  obtain ⟨g2, c2, e2, _, hg2, hc2⟩ := hr.2 2 (by omega)
  have r2 : w1.cell? ⟨g, 2, none⟩ = some (.slice (some ⟨g2, 0, none⟩) 2 c2) := by rw [hc 2 (by omega), e2]
  have q2 : w1.cell? ⟨g2, N / 2 / 2 ^^^ 1, none⟩ = some (.string (lev s 2 (N / 2 / 2 ^^^ 1))) := hc2 _ (by simpa using x2)
  have hown0 := World.ownsRow_nil w1 w1.heap.size 9 1
  have kk0 : Below w1.heap.size w1 w1 := Below.refl _ _
  clear hc hr hc0 hc1 hc2 e0 e1 e2
  generalize lev s 0 (N ^^^ 1) = t0 at *
  generalize N ^^^ 1 = X0 at *
  generalize lev s 1 (N / 2 ^^^ 1) = t1 at *
  generalize N / 2 ^^^ 1 = X1 at *
  generalize lev s 2 (N / 2 / 2 ^^^ 1) = t2 at *
  generalize N / 2 / 2 ^^^ 1 = X2 at *
  have i0' : (X0 : Int) < 8 := by omega
  have i1' : (X1 : Int) < 4 := by omega
  have i2' : (X2 : Int) < 2 := by omega
  have HR1 : Hid (w1.cell? ⟨g, 1, none⟩ = some (.slice (some ⟨g1, 0, none⟩) 4 c1)) := r1
  have HR2 : Hid (w1.cell? ⟨g, 2, none⟩ = some (.slice (some ⟨g2, 0, none⟩) 2 c2)) := r2
  have HQ1 : Hid (w1.cell? ⟨g1, X1, none⟩ = some (.string t1)) := q1
  have HQ2 : Hid (w1.cell? ⟨g2, X2, none⟩ = some (.string t2)) := q2
  clear r1 r2 q1 q2
  go_wp2_with fail
  refine wp_loop_rounds 4 ?_
  rw [rounds_succ]
  go_wp2_with (first
    | (at_builtin; refine wpList_append_lies _ rfl _ _ _ rfl w1.heap.size 9 i0 _ 1 16 Tryd.underlying25 hi hz0 hz1 hz2 rfl (by omega) _ 0 [] rfl (hown0.alloc _) ⟨w1.heap.size, 0, none⟩ 1 1 [.string t0] rfl rfl (World.news_of_block (cs := #[.string t0]) (t := 9) (fr := (0, 0)) (heap_alloc_new w1 _)) (by simp [Value.oneCell']) (by omega) (by unfold maxLen; omega) (by omega) (by simp; try omega) (w1.heap.size + 1) (by simp) ?_)
    | fail)
  intro ga1 ca1 wa1 hown1 hgrow hat hlt
  have kk1 : Below w1.heap.size w1 wa1 := (kk0.alloc kk0.size _).grown hgrow (by simp; try omega) (fun r hr => (hown0.lt r hr).1)
  have hll1 := kk1.size
  clear hgrow hat hlt r0 q0
  go_wp2_with fail
  have r1 : wa1.cell? ⟨g, 1, none⟩ = some (.slice (some ⟨g1, 0, none⟩) 4 c1) := (kk1.cell (p := ⟨g, 1, none⟩) hg).trans HR1.out
  have q1 : wa1.cell? ⟨g1, X1, none⟩ = some (.string t1) := (kk1.cell (p := ⟨g1, X1, none⟩) hg1).trans HQ1.out
  rw [rounds_succ]
  go_wp2_with (first
    | (at_builtin; refine wpList_append_lies _ rfl _ _ _ rfl w1.heap.size 9 i0 _ 1 16 Tryd.underlying25 hi hz0 hz1 hz2 rfl (by omega) _ 1 [.string t0] rfl (hown1.alloc _) ⟨wa1.heap.size, 0, none⟩ 1 1 [.string t1] rfl rfl (World.news_of_block (cs := #[.string t1]) (t := 9) (fr := (0, 0)) (heap_alloc_new wa1 _)) (by simp [Value.oneCell']) (by omega) (by unfold maxLen; omega) (by omega) (by simp; try omega) (wa1.heap.size + 1) (by simp) ?_)
    | fail)
  intro ga2 ca2 wa2 hown2 hgrow hat hlt
  have kk2 : Below w1.heap.size w1 wa2 := (kk1.alloc kk1.size _).grown hgrow (by simp; try omega) (fun r hr => (hown1.lt r hr).1)
  have hll2 := kk2.size
  clear hgrow hat hlt r1 q1
  go_wp2_with fail
  have r2 : wa2.cell? ⟨g, 2, none⟩ = some (.slice (some ⟨g2, 0, none⟩) 2 c2) := (kk2.cell (p := ⟨g, 2, none⟩) hg).trans HR2.out
  have q2 : wa2.cell? ⟨g2, X2, none⟩ = some (.string t2) := (kk2.cell (p := ⟨g2, X2, none⟩) hg2).trans HQ2.out
  rw [rounds_succ]
  go_wp2_with (first
    | (at_builtin; refine wpList_append_lies _ rfl _ _ _ rfl w1.heap.size 9 i0 _ 1 16 Tryd.underlying25 hi hz0 hz1 hz2 rfl (by omega) _ 2 [.string t0, .string t1] rfl (hown2.alloc _) ⟨wa2.heap.size, 0, none⟩ 1 1 [.string t2] rfl rfl (World.news_of_block (cs := #[.string t2]) (t := 9) (fr := (0, 0)) (heap_alloc_new wa2 _)) (by simp [Value.oneCell']) (by omega) (by unfold maxLen; omega) (by omega) (by simp; try omega) (wa2.heap.size + 1) (by simp) ?_)
    | fail)
  intro ga3 ca3 wa3 hown3 hgrow hat hlt
  have kk3 : Below w1.heap.size w1 wa3 := (kk2.alloc kk2.size _).grown hgrow (by simp; try omega) (fun r hr => (hown2.lt r hr).1)
  have hll3 := kk3.size
  clear hgrow hat hlt r2 q2
  go_wp2_with fail
  rw [rounds_succ]
  obtain ⟨g9, cap9, hv9, ho9⟩ := ownRow_of hown3 (by omega)
  simp only [Value.slice.injEq, Option.some.injEq, Addr.mk.injEq, and_true] at hv9
  obtain ⟨e9, _, e10⟩ := hv9
  subst e9
  subst e10
  have HO9 : Hid (OwnRow w1.heap.size wa3 ga3 (2 + 1) _) := ho9
  clear ho9 hown0 hown1 hown2 hown3
  go_wp2
  go_returns
  exact ⟨ga3, ca3, rfl, (HO9.out.mono hl1).congr (fun i hi => HWH.out i hi), hb1.trans (kk3.mono hl1)⟩

set_option maxHeartbeats 1600000 in
theorem specWayYes (s : ByteArray) (N : Nat) (w : World) (h0 : 1 ≤ s.size) (h1 : s.size ≤ 8) (hN : N < 8) :
    Calls Tryd.prog 43 #[.string s, .int .i64 N] w fun e w' => ∃ g cap, e = .returned (.tuple #[.slice (some ⟨g, 0, none⟩) 3 cap, .bool true]) ∧ OwnRow w.heap.size w' g 3 (fun i => .string ((wayB s N).getD i ByteArray.empty)) ∧ Below w.heap.size w w' := by
  go_enter Tryd.func43, Tryd.ntmps43
  go_wp2_with fail
  refine (specTSeedYes s _ h0 h1).mono ?_
  rintro e w0 ⟨rfl, rfl⟩
  go_wp2_with fail
  refine (specNoYes N _ (by omega) (by omega)).mono ?_
  rintro e w1 ⟨rfl, rfl⟩
  go_wp2_with fail
  refine (specL3Way s N _ h0 h1 hN).mono ?_
  rintro e w2 ⟨g, cap, rfl, ho, hb⟩
  go_wp2
  go_returns
  exact ⟨g, cap, rfl, ho, hb⟩
set_option maxHeartbeats 1600000 in
theorem specWayNo (s : ByteArray) (n : Int) (w : World) (hm : s.size ≤ maxLen) (h : ¬ ((1 ≤ s.size ∧ s.size ≤ 8) ∧ 0 ≤ n ∧ n ≤ 7)) :
    Calls Tryd.prog 43 #[.string s, .int .i64 n] w fun e w' => e = .returned (.tuple #[.slice none 0 0, .bool false]) ∧ Below w.heap.size w w' := by
  by_cases h1 : 1 ≤ s.size ∧ s.size ≤ 8
  · go_enter Tryd.func43, Tryd.ntmps43
    go_wp2_with fail
    refine (specTSeedYes s _ h1.1 h1.2).mono ?_
    rintro e w0 ⟨rfl, rfl⟩
    go_wp2_with fail
    refine (specNoNo n _ (fun g => h ⟨h1, g⟩)).mono ?_
    rintro e w1 ⟨rfl, rfl⟩
    go_wp2
    go_returns
    exact ⟨rfl, by go_grown⟩
  · go_enter Tryd.func43, Tryd.ntmps43
    go_wp2_with fail
    refine (specTSeedNo s _ hm h1).mono ?_
    rintro e w0 ⟨rfl, rfl⟩
    go_wp2
    go_returns
    exact ⟨rfl, by go_grown⟩
end Go.Proofs.YtemkkofjakpjiaaDoor
