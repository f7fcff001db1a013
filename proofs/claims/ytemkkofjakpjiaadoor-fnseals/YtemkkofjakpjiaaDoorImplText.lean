/- Contracts of the program's SealText and CheckSeal. Condition: the table of weights as it is laid; lists lie in memory. -/
import Derived.Test.YtemkkofjakpjiaaDoorImplWay
import Derived.Test.YtemkkofjakpjiaaDoorImplSeal
import Derived.Test.YtemkkofjakpjiaaDoorSpecText
namespace Go.Proofs.YtemkkofjakpjiaaDoor
open Go.ChangeShapes Go.WideShapes Go.ChangeAt Go.RowKit Go.Deep
set_option linter.unusedVariables false
attribute [local go_sem ↓] Go.wp_at_zero Go.wp_at_succ

theorem allocFz (X : World) (vs : Array Value) (T : TypeId) (b k : Nat) (h : b = X.heap.size) : (X.alloc (.cells vs T)).frozen? ⟨b, k, none⟩ = false := by
  subst h
  simp
theorem implClone (s : ByteArray) (w : World) (h0 : 1 ≤ s.size) (h1 : s.size ≤ 8) :
    Calls Tryd.prog 79 #[.string s] w fun e w' => e = .returned (.string s) ∧ Below w.heap.size w w' := by
  go_enter Tryd.func79, Tryd.ntmps79
  go_wp2_with (first | (go_at_call 114; refine (stringsliteClone _ _ (by omega)).mono ?_; rintro e w2 ⟨rfl, hb2⟩) | go_in)
  go_returns
  exact ⟨rfl, hb2⟩
set_option maxHeartbeats 6400000 in
theorem implTextSYes (s t : ByteArray) (N : Nat) (w : World) (hm : s.size ≤ maxLen) (hy : SealYes s N t) (ht : Table w) :
    Calls Tryd.prog 31 #[.agg #[.string s, .int .i64 N], .string t] w fun e w' => ∃ g4 c4 g5 c5, e = .returned (.tuple #[.agg #[.string s, .int .i64 ((N : Int) + 1)], .agg #[.int .i64 N, .slice (some ⟨g4, 0, none⟩) 11 c4, .slice (some ⟨g5, 0, none⟩) 3 c5], .bool true]) ∧
      OwnRow w.heap.size w' g4 11 (fun i => .string ((signB (leafSeed s N) t).getD i ByteArray.empty)) ∧ OwnRow w.heap.size w' g5 3 (fun i => .string ((wayB s N).getD i ByteArray.empty)) ∧ g4 ≠ g5 ∧ Below w.heap.size w w' := by
  have HG := fun W => implSigner s (N : Int) W hm
  rw [signerB_true hy.1] at HG
  have hN : N < 8 := by have := hy.1.2; have := hy.2.2; omega
  have hn8 : ¬ (N : Int) = 8 := by omega
  have h0 := hy.1.1.1
  have h1 := hy.1.1.2
  have h2 := hy.2.1
  have HO := fun W => implLeafSeed s N W h1 (by omega)
  have HS := fun W hT => implSignYes (leafSeed s N) t W (by rw [leafSeed_size]; omega) (by rw [leafSeed_size]; omega) h2 hT
  have HW := fun W hT => implWayYes s N W h0 h1 hN hT
  have HC := fun W => implClone s W h0 h1
  have HT : Hid (Table w) := ht
  clear hy ht
  generalize signB (leafSeed s N) t = L4 at *
  generalize wayB s N = L5 at *
  generalize leafSeed s N = S3 at *
  go_enter Tryd.func31, Tryd.ntmps31
  go_wp2_with fail
  refine (HG _).mono ?_
  rintro e w1 ⟨rfl, hb1⟩
  have hbX : Below (w.alloc (.cells #[.string s, .int .i64 N] 45)).heap.size (w.alloc (.cells #[.string s, .int .i64 N] 45)) w1 := by
    refine Below.trans ?_ (hb1.mono ?_)
    · go_grown
    · go_size
  have a0 : w1.cell? ⟨w.heap.size, 0, none⟩ = some (.string s) := (hbX.cell (p := ⟨w.heap.size, 0, none⟩) (by simp)).trans (by simp)
  have a1 : w1.cell? ⟨w.heap.size, 1, none⟩ = some (.int .i64 N) := (hbX.cell (p := ⟨w.heap.size, 1, none⟩) (by simp)).trans (by simp)
  clear hbX
  have hbY : Below ((w.alloc (.cells #[.string s, .int .i64 N] 45)).alloc (.cells #[.string ⟨#[]⟩, .int .i64 0] 45)).heap.size ((w.alloc (.cells #[.string s, .int .i64 N] 45)).alloc (.cells #[.string ⟨#[]⟩, .int .i64 0] 45)) w1 := by
    refine Below.trans ?_ (hb1.mono ?_)
    · go_grown
    · go_size
  have a2 : w1.cell? ⟨w.heap.size + 1, 0, none⟩ = some (.string ⟨#[]⟩) := (hbY.cell (p := ⟨w.heap.size + 1, 0, none⟩) (by simp)).trans (by simp)
  have a3 : w1.cell? ⟨w.heap.size + 1, 1, none⟩ = some (.int .i64 0) := (hbY.cell (p := ⟨w.heap.size + 1, 1, none⟩) (by simp)).trans (by simp)
  have f2 : w1.frozen? ⟨w.heap.size + 1, 0, none⟩ = false := (hbY.frozen (p := ⟨w.heap.size + 1, 0, none⟩) (by simp)).trans (by simp)
  have f3 : w1.frozen? ⟨w.heap.size + 1, 1, none⟩ = false := (hbY.frozen (p := ⟨w.heap.size + 1, 1, none⟩) (by simp)).trans (by simp)
  clear hbY
  have a4 : w1.cell? ⟨w.heap.size + 1 + 1, 0, none⟩ = some (.int .i64 0) := (hb1.cell (p := ⟨w.heap.size + 1 + 1, 0, none⟩) (by simp)).trans (allocCell _ _ _ _ _ _ (by simp) (by rfl))
  have a5 : w1.cell? ⟨w.heap.size + 1 + 1, 1, none⟩ = some (.slice none 0 0) := (hb1.cell (p := ⟨w.heap.size + 1 + 1, 1, none⟩) (by simp)).trans (allocCell _ _ _ _ _ _ (by simp) (by rfl))
  have a6 : w1.cell? ⟨w.heap.size + 1 + 1, 2, none⟩ = some (.slice none 0 0) := (hb1.cell (p := ⟨w.heap.size + 1 + 1, 2, none⟩) (by simp)).trans (allocCell _ _ _ _ _ _ (by simp) (by rfl))
  have f4 : w1.frozen? ⟨w.heap.size + 1 + 1, 0, none⟩ = false := (hb1.frozen (p := ⟨w.heap.size + 1 + 1, 0, none⟩) (by simp)).trans (allocFz _ _ _ _ _ (by simp))
  have f5 : w1.frozen? ⟨w.heap.size + 1 + 1, 1, none⟩ = false := (hb1.frozen (p := ⟨w.heap.size + 1 + 1, 1, none⟩) (by simp)).trans (allocFz _ _ _ _ _ (by simp))
  have f6 : w1.frozen? ⟨w.heap.size + 1 + 1, 2, none⟩ = false := (hb1.frozen (p := ⟨w.heap.size + 1 + 1, 2, none⟩) (by simp)).trans (allocFz _ _ _ _ _ (by simp))
  have hz1 := hb1.size
  simp only [World.size_alloc] at hz1
  have k1 : Below w.heap.size w w1 := by
    refine Below.trans ?_ (hb1.mono ?_)
    · go_grown
    · go_size
  clear hb1
  have z0 : w.heap.size < w1.heap.size := by omega
  have z1 : w.heap.size + 1 < w1.heap.size := by omega
  have z2 : w.heap.size + 1 + 1 < w1.heap.size := by omega
  clear hz1 HG
  go_wp2_with fail
  refine (HO _).mono ?_
  rintro e w2 ⟨rfl, hb2⟩
  replace a0 : w2.cell? ⟨w.heap.size, 0, none⟩ = some (.string s) := (hb2.cell (p := ⟨w.heap.size, 0, none⟩) z0).trans a0
  replace a1 : w2.cell? ⟨w.heap.size, 1, none⟩ = some (.int .i64 N) := (hb2.cell (p := ⟨w.heap.size, 1, none⟩) z0).trans a1
  replace a2 : w2.cell? ⟨w.heap.size + 1, 0, none⟩ = some (.string ⟨#[]⟩) := (hb2.cell (p := ⟨w.heap.size + 1, 0, none⟩) z1).trans a2
  replace f2 : w2.frozen? ⟨w.heap.size + 1, 0, none⟩ = false := (hb2.frozen (p := ⟨w.heap.size + 1, 0, none⟩) z1).trans f2
  replace a3 : w2.cell? ⟨w.heap.size + 1, 1, none⟩ = some (.int .i64 0) := (hb2.cell (p := ⟨w.heap.size + 1, 1, none⟩) z1).trans a3
  replace f3 : w2.frozen? ⟨w.heap.size + 1, 1, none⟩ = false := (hb2.frozen (p := ⟨w.heap.size + 1, 1, none⟩) z1).trans f3
  replace a4 : w2.cell? ⟨w.heap.size + 1 + 1, 0, none⟩ = some (.int .i64 0) := (hb2.cell (p := ⟨w.heap.size + 1 + 1, 0, none⟩) z2).trans a4
  replace f4 : w2.frozen? ⟨w.heap.size + 1 + 1, 0, none⟩ = false := (hb2.frozen (p := ⟨w.heap.size + 1 + 1, 0, none⟩) z2).trans f4
  replace a5 : w2.cell? ⟨w.heap.size + 1 + 1, 1, none⟩ = some (.slice none 0 0) := (hb2.cell (p := ⟨w.heap.size + 1 + 1, 1, none⟩) z2).trans a5
  replace f5 : w2.frozen? ⟨w.heap.size + 1 + 1, 1, none⟩ = false := (hb2.frozen (p := ⟨w.heap.size + 1 + 1, 1, none⟩) z2).trans f5
  replace a6 : w2.cell? ⟨w.heap.size + 1 + 1, 2, none⟩ = some (.slice none 0 0) := (hb2.cell (p := ⟨w.heap.size + 1 + 1, 2, none⟩) z2).trans a6
  replace f6 : w2.frozen? ⟨w.heap.size + 1 + 1, 2, none⟩ = false := (hb2.frozen (p := ⟨w.heap.size + 1 + 1, 2, none⟩) z2).trans f6
  replace z0 : w.heap.size < w2.heap.size := Nat.lt_of_lt_of_le z0 hb2.size
  replace z1 : w.heap.size + 1 < w2.heap.size := Nat.lt_of_lt_of_le z1 hb2.size
  replace z2 : w.heap.size + 1 + 1 < w2.heap.size := Nat.lt_of_lt_of_le z2 hb2.size
  have k2 : Below w.heap.size w w2 := k1.trans (hb2.mono k1.size)
  clear k1
  clear hb2 HO
  go_wp2_with fail
  refine (HS _ (HT.out.below k2)).mono ?_
  rintro e w3 ⟨g4, c4, rfl, o4, hb3⟩
  have p4 : w.heap.size + 1 + 1 < g4 := Nat.lt_of_lt_of_le z2 o4.1
  replace o4 := o4.mono k2.size
  replace a0 : w3.cell? ⟨w.heap.size, 0, none⟩ = some (.string s) := (hb3.cell (p := ⟨w.heap.size, 0, none⟩) z0).trans a0
  replace a1 : w3.cell? ⟨w.heap.size, 1, none⟩ = some (.int .i64 N) := (hb3.cell (p := ⟨w.heap.size, 1, none⟩) z0).trans a1
  replace a2 : w3.cell? ⟨w.heap.size + 1, 0, none⟩ = some (.string ⟨#[]⟩) := (hb3.cell (p := ⟨w.heap.size + 1, 0, none⟩) z1).trans a2
  replace f2 : w3.frozen? ⟨w.heap.size + 1, 0, none⟩ = false := (hb3.frozen (p := ⟨w.heap.size + 1, 0, none⟩) z1).trans f2
  replace a3 : w3.cell? ⟨w.heap.size + 1, 1, none⟩ = some (.int .i64 0) := (hb3.cell (p := ⟨w.heap.size + 1, 1, none⟩) z1).trans a3
  replace f3 : w3.frozen? ⟨w.heap.size + 1, 1, none⟩ = false := (hb3.frozen (p := ⟨w.heap.size + 1, 1, none⟩) z1).trans f3
  replace a4 : w3.cell? ⟨w.heap.size + 1 + 1, 0, none⟩ = some (.int .i64 0) := (hb3.cell (p := ⟨w.heap.size + 1 + 1, 0, none⟩) z2).trans a4
  replace f4 : w3.frozen? ⟨w.heap.size + 1 + 1, 0, none⟩ = false := (hb3.frozen (p := ⟨w.heap.size + 1 + 1, 0, none⟩) z2).trans f4
  replace a5 : w3.cell? ⟨w.heap.size + 1 + 1, 1, none⟩ = some (.slice none 0 0) := (hb3.cell (p := ⟨w.heap.size + 1 + 1, 1, none⟩) z2).trans a5
  replace f5 : w3.frozen? ⟨w.heap.size + 1 + 1, 1, none⟩ = false := (hb3.frozen (p := ⟨w.heap.size + 1 + 1, 1, none⟩) z2).trans f5
  replace a6 : w3.cell? ⟨w.heap.size + 1 + 1, 2, none⟩ = some (.slice none 0 0) := (hb3.cell (p := ⟨w.heap.size + 1 + 1, 2, none⟩) z2).trans a6
  replace f6 : w3.frozen? ⟨w.heap.size + 1 + 1, 2, none⟩ = false := (hb3.frozen (p := ⟨w.heap.size + 1 + 1, 2, none⟩) z2).trans f6
  replace z0 : w.heap.size < w3.heap.size := Nat.lt_of_lt_of_le z0 hb3.size
  replace z1 : w.heap.size + 1 < w3.heap.size := Nat.lt_of_lt_of_le z1 hb3.size
  replace z2 : w.heap.size + 1 + 1 < w3.heap.size := Nat.lt_of_lt_of_le z2 hb3.size
  have k3 : Below w.heap.size w w3 := k2.trans (hb3.mono k2.size)
  clear k2
  have HO4 : Hid (OwnRow w.heap.size w3 g4 11 (fun i => .string (L4.getD i ByteArray.empty))) := o4
  have l4 := o4.2.1
  clear hb3 HS o4
  go_wp2_with fail
  refine (HW _ (HT.out.below k3)).mono ?_
  rintro e w4 ⟨g5, c5, rfl, o5, hb4⟩
  have hne : g4 ≠ g5 := by have := o5.1; omega
  have p5 : w.heap.size + 1 + 1 < g5 := Nat.lt_of_lt_of_le z2 o5.1
  replace HO4 : Hid (OwnRow w.heap.size w4 g4 11 (fun i => .string (L4.getD i ByteArray.empty))) := HO4.out.below hb4
  have HO5 : Hid (OwnRow w.heap.size w4 g5 3 (fun i => .string (L5.getD i ByteArray.empty))) := o5.mono k3.size
  replace a0 : w4.cell? ⟨w.heap.size, 0, none⟩ = some (.string s) := (hb4.cell (p := ⟨w.heap.size, 0, none⟩) z0).trans a0
  replace a1 : w4.cell? ⟨w.heap.size, 1, none⟩ = some (.int .i64 N) := (hb4.cell (p := ⟨w.heap.size, 1, none⟩) z0).trans a1
  replace a2 : w4.cell? ⟨w.heap.size + 1, 0, none⟩ = some (.string ⟨#[]⟩) := (hb4.cell (p := ⟨w.heap.size + 1, 0, none⟩) z1).trans a2
  replace f2 : w4.frozen? ⟨w.heap.size + 1, 0, none⟩ = false := (hb4.frozen (p := ⟨w.heap.size + 1, 0, none⟩) z1).trans f2
  replace a3 : w4.cell? ⟨w.heap.size + 1, 1, none⟩ = some (.int .i64 0) := (hb4.cell (p := ⟨w.heap.size + 1, 1, none⟩) z1).trans a3
  replace f3 : w4.frozen? ⟨w.heap.size + 1, 1, none⟩ = false := (hb4.frozen (p := ⟨w.heap.size + 1, 1, none⟩) z1).trans f3
  replace a4 : w4.cell? ⟨w.heap.size + 1 + 1, 0, none⟩ = some (.int .i64 0) := (hb4.cell (p := ⟨w.heap.size + 1 + 1, 0, none⟩) z2).trans a4
  replace f4 : w4.frozen? ⟨w.heap.size + 1 + 1, 0, none⟩ = false := (hb4.frozen (p := ⟨w.heap.size + 1 + 1, 0, none⟩) z2).trans f4
  replace a5 : w4.cell? ⟨w.heap.size + 1 + 1, 1, none⟩ = some (.slice none 0 0) := (hb4.cell (p := ⟨w.heap.size + 1 + 1, 1, none⟩) z2).trans a5
  replace f5 : w4.frozen? ⟨w.heap.size + 1 + 1, 1, none⟩ = false := (hb4.frozen (p := ⟨w.heap.size + 1 + 1, 1, none⟩) z2).trans f5
  replace a6 : w4.cell? ⟨w.heap.size + 1 + 1, 2, none⟩ = some (.slice none 0 0) := (hb4.cell (p := ⟨w.heap.size + 1 + 1, 2, none⟩) z2).trans a6
  replace f6 : w4.frozen? ⟨w.heap.size + 1 + 1, 2, none⟩ = false := (hb4.frozen (p := ⟨w.heap.size + 1 + 1, 2, none⟩) z2).trans f6
  replace z0 : w.heap.size < w4.heap.size := Nat.lt_of_lt_of_le z0 hb4.size
  replace z1 : w.heap.size + 1 < w4.heap.size := Nat.lt_of_lt_of_le z1 hb4.size
  replace z2 : w.heap.size + 1 + 1 < w4.heap.size := Nat.lt_of_lt_of_le z2 hb4.size
  have k4 : Below w.heap.size w w4 := k3.trans (hb4.mono k3.size)
  clear k3
  have l5 := HO5.out.2.1
  replace l4 := HO4.out.2.1
  clear hb4 HW o5
  have hwrap : IntKind.i64.wrap ((N : Int) + 1) = (N : Int) + 1 := by rw [IntKind.wrap_i64]; omega
  have hu4 : w.heap.size ≠ w4.heap.size := by omega
  have hv4 : w4.heap.size ≠ w.heap.size := by omega
  go_upto_region 9 with fail
  go_cut [10] (fun p wc => ∃ g', p = .pointer (some ⟨g', 0, none⟩) ∧ w4.heap.size ≤ g' ∧ g' < wc.heap.size ∧ wc.cell? ⟨g', 0, none⟩ = some (.string s) ∧ wc.cell? ⟨g', 1, none⟩ = some (.int .i64 ((N : Int) + 1)) ∧ Below w4.heap.size w4 wc)
  case first =>
    go_region_held3 (fun w' => w'.cell? ⟨w.heap.size, 0, none⟩ = some (.string s) ∧ w'.cell? ⟨w.heap.size, 1, none⟩ = some (.int .i64 N)) (go_keep)
      (first
        | (go_at_call 79; refine (HC _).mono ?_; rintro e w5 ⟨rfl, hb5⟩; have hp5 := kept hb5 w.heap.size (by go_size); obtain ⟨hc5, hf5⟩ := bcell hb5; have hz5 := hb5.size; (try simp only [World.size_drew] at hz5); (try simp only [World.size_alloc] at hz5); have ht5 : ∀ b, b < _ → b < w5.heap.size := fun b hb => Nat.lt_of_lt_of_le hb hb5.size; (try have hm5 : w4.heap.size < w5.heap.size := (by omega)); have hx5 : w4.heap.size ≤ w5.heap.size := (by omega); have hB5 : w.heap.size < w5.heap.size := (by omega); have hu5 : w.heap.size ≠ w5.heap.size := (by omega); have hv5 : w5.heap.size ≠ w.heap.size := (by omega); have k5 : Below w4.heap.size w4 w5 := (by exact Below.trans (by go_grown) (hb5.mono (by go_size))); clear hb5))
    all_goals go_wp2_with fail
    all_goals go_meet
    all_goals refine ⟨_, rfl, ?_, ?_, ?_, ?_, ?_⟩
    all_goals first | (simp [*]; done) | omega | (simp; omega) | (simp [*, go_sem]; done) | (go_grown; done)
  case rest =>
    obtain ⟨g, rfl, hg1, hg2, q0, q1, kb⟩ := hcut
    have n0 : g ≠ w.heap.size := by omega
    have n1 : g ≠ w.heap.size + 1 := by omega
    have n2 : g ≠ w.heap.size + 1 + 1 := by omega
    have n3 : w.heap.size ≠ g := by omega
    have n4 : w.heap.size + 1 ≠ g := by omega
    have n5 : w.heap.size + 1 + 1 ≠ g := by omega
    replace HO4 : Hid (OwnRow w.heap.size wc g4 11 (fun i => .string (L4.getD i ByteArray.empty))) := HO4.out.below kb
    replace HO5 : Hid (OwnRow w.heap.size wc g5 3 (fun i => .string (L5.getD i ByteArray.empty))) := HO5.out.below kb
    replace a0 : wc.cell? ⟨w.heap.size, 0, none⟩ = some (.string s) := (kb.cell (p := ⟨w.heap.size, 0, none⟩) z0).trans a0
    replace a1 : wc.cell? ⟨w.heap.size, 1, none⟩ = some (.int .i64 N) := (kb.cell (p := ⟨w.heap.size, 1, none⟩) z0).trans a1
    replace a2 : wc.cell? ⟨w.heap.size + 1, 0, none⟩ = some (.string ⟨#[]⟩) := (kb.cell (p := ⟨w.heap.size + 1, 0, none⟩) z1).trans a2
    replace f2 : wc.frozen? ⟨w.heap.size + 1, 0, none⟩ = false := (kb.frozen (p := ⟨w.heap.size + 1, 0, none⟩) z1).trans f2
    replace a3 : wc.cell? ⟨w.heap.size + 1, 1, none⟩ = some (.int .i64 0) := (kb.cell (p := ⟨w.heap.size + 1, 1, none⟩) z1).trans a3
    replace f3 : wc.frozen? ⟨w.heap.size + 1, 1, none⟩ = false := (kb.frozen (p := ⟨w.heap.size + 1, 1, none⟩) z1).trans f3
    replace a4 : wc.cell? ⟨w.heap.size + 1 + 1, 0, none⟩ = some (.int .i64 0) := (kb.cell (p := ⟨w.heap.size + 1 + 1, 0, none⟩) z2).trans a4
    replace f4 : wc.frozen? ⟨w.heap.size + 1 + 1, 0, none⟩ = false := (kb.frozen (p := ⟨w.heap.size + 1 + 1, 0, none⟩) z2).trans f4
    replace a5 : wc.cell? ⟨w.heap.size + 1 + 1, 1, none⟩ = some (.slice none 0 0) := (kb.cell (p := ⟨w.heap.size + 1 + 1, 1, none⟩) z2).trans a5
    replace f5 : wc.frozen? ⟨w.heap.size + 1 + 1, 1, none⟩ = false := (kb.frozen (p := ⟨w.heap.size + 1 + 1, 1, none⟩) z2).trans f5
    replace a6 : wc.cell? ⟨w.heap.size + 1 + 1, 2, none⟩ = some (.slice none 0 0) := (kb.cell (p := ⟨w.heap.size + 1 + 1, 2, none⟩) z2).trans a6
    replace f6 : wc.frozen? ⟨w.heap.size + 1 + 1, 2, none⟩ = false := (kb.frozen (p := ⟨w.heap.size + 1 + 1, 2, none⟩) z2).trans f6
    replace z0 : w.heap.size < wc.heap.size := Nat.lt_of_lt_of_le z0 kb.size
    replace z1 : w.heap.size + 1 < wc.heap.size := Nat.lt_of_lt_of_le z1 kb.size
    replace z2 : w.heap.size + 1 + 1 < wc.heap.size := Nat.lt_of_lt_of_le z2 kb.size
    have kc : Below w.heap.size w wc := k4.trans (kb.mono k4.size)
    clear k4
    have p1 := HO4.out.1
    have p2 := HO5.out.1
    clear kb HC
    go_upto_region 10 with fail
    go_region
    all_goals go_wp2_with fail
    all_goals (try simp only [Exit.inBlock, Exit.then])
    all_goals refine bodyPost_ret (by simp [a2, a3, a4, a5, a6, results, Tryd.results31, go_sem]; try rfl) rfl ?_
    all_goals refine ⟨g4, c4, g5, c5, rfl, ?_, ?_, hne, ?_⟩
    · refine OwnRow.below (OwnRow.setOff (OwnRow.setOff (OwnRow.setOff (OwnRow.setOff (OwnRow.setOff HO4.out ?_) ?_) ?_) ?_) ?_) (Below.drew (Below.refl _ _)) <;> omega
    · refine OwnRow.below (OwnRow.setOff (OwnRow.setOff (OwnRow.setOff (OwnRow.setOff (OwnRow.setOff HO5.out ?_) ?_) ?_) ?_) ?_) (Below.drew (Below.refl _ _)) <;> omega
    · go_grown
set_option maxHeartbeats 6400000 in
theorem implTextSNo (s t : ByteArray) (u : Int) (w : World) (hm : s.size ≤ maxLen) (hmt : t.size ≤ maxLen) (hn : ¬ SealYes s u t) (ht : Table w) :
    Calls Tryd.prog 31 #[.agg #[.string s, .int .i64 u], .string t] w fun e w' => e = .returned (.tuple #[.agg #[.string ⟨#[]⟩, .int .i64 0], .agg #[.int .i64 0, .slice none 0 0, .slice none 0 0], .bool false]) ∧ Below w.heap.size w w' := by
  have HG := fun W => implSigner s u W hm
  have HT : Hid (Table w) := ht
  clear ht
  by_cases h1 : SignerOk s u
  · rw [signerB_true h1] at HG
    by_cases h3 : u = 8
    · subst h3
      clear hn h1
      go_enter Tryd.func31, Tryd.ntmps31
      go_wp2_with fail
      refine (HG _).mono ?_
      rintro e w1 ⟨rfl, hb1⟩
      have hbX : Below (w.alloc (.cells #[.string s, .int .i64 8] 45)).heap.size (w.alloc (.cells #[.string s, .int .i64 8] 45)) w1 := by
        refine Below.trans ?_ (hb1.mono ?_)
        · go_grown
        · go_size
      have a0 : w1.cell? ⟨w.heap.size, 0, none⟩ = some (.string s) := (hbX.cell (p := ⟨w.heap.size, 0, none⟩) (by simp)).trans (by simp)
      have a1 : w1.cell? ⟨w.heap.size, 1, none⟩ = some (.int .i64 8) := (hbX.cell (p := ⟨w.heap.size, 1, none⟩) (by simp)).trans (by simp)
      clear hbX
      have hbY : Below ((w.alloc (.cells #[.string s, .int .i64 8] 45)).alloc (.cells #[.string ⟨#[]⟩, .int .i64 0] 45)).heap.size ((w.alloc (.cells #[.string s, .int .i64 8] 45)).alloc (.cells #[.string ⟨#[]⟩, .int .i64 0] 45)) w1 := by
        refine Below.trans ?_ (hb1.mono ?_)
        · go_grown
        · go_size
      have a2 : w1.cell? ⟨w.heap.size + 1, 0, none⟩ = some (.string ⟨#[]⟩) := (hbY.cell (p := ⟨w.heap.size + 1, 0, none⟩) (by simp)).trans (by simp)
      have a3 : w1.cell? ⟨w.heap.size + 1, 1, none⟩ = some (.int .i64 0) := (hbY.cell (p := ⟨w.heap.size + 1, 1, none⟩) (by simp)).trans (by simp)
      have f2 : w1.frozen? ⟨w.heap.size + 1, 0, none⟩ = false := (hbY.frozen (p := ⟨w.heap.size + 1, 0, none⟩) (by simp)).trans (by simp)
      have f3 : w1.frozen? ⟨w.heap.size + 1, 1, none⟩ = false := (hbY.frozen (p := ⟨w.heap.size + 1, 1, none⟩) (by simp)).trans (by simp)
      clear hbY
      have a4 : w1.cell? ⟨w.heap.size + 1 + 1, 0, none⟩ = some (.int .i64 0) := (hb1.cell (p := ⟨w.heap.size + 1 + 1, 0, none⟩) (by simp)).trans (allocCell _ _ _ _ _ _ (by simp) (by rfl))
      have a5 : w1.cell? ⟨w.heap.size + 1 + 1, 1, none⟩ = some (.slice none 0 0) := (hb1.cell (p := ⟨w.heap.size + 1 + 1, 1, none⟩) (by simp)).trans (allocCell _ _ _ _ _ _ (by simp) (by rfl))
      have a6 : w1.cell? ⟨w.heap.size + 1 + 1, 2, none⟩ = some (.slice none 0 0) := (hb1.cell (p := ⟨w.heap.size + 1 + 1, 2, none⟩) (by simp)).trans (allocCell _ _ _ _ _ _ (by simp) (by rfl))
      have f4 : w1.frozen? ⟨w.heap.size + 1 + 1, 0, none⟩ = false := (hb1.frozen (p := ⟨w.heap.size + 1 + 1, 0, none⟩) (by simp)).trans (allocFz _ _ _ _ _ (by simp))
      have f5 : w1.frozen? ⟨w.heap.size + 1 + 1, 1, none⟩ = false := (hb1.frozen (p := ⟨w.heap.size + 1 + 1, 1, none⟩) (by simp)).trans (allocFz _ _ _ _ _ (by simp))
      have f6 : w1.frozen? ⟨w.heap.size + 1 + 1, 2, none⟩ = false := (hb1.frozen (p := ⟨w.heap.size + 1 + 1, 2, none⟩) (by simp)).trans (allocFz _ _ _ _ _ (by simp))
      have hz1 := hb1.size
      simp only [World.size_alloc] at hz1
      have k1 : Below w.heap.size w w1 := by
        refine Below.trans ?_ (hb1.mono ?_)
        · go_grown
        · go_size
      clear hb1
      have z0 : w.heap.size < w1.heap.size := by omega
      have z1 : w.heap.size + 1 < w1.heap.size := by omega
      have z2 : w.heap.size + 1 + 1 < w1.heap.size := by omega
      clear hz1 HG
      go_wp2
      (try simp only [Exit.inBlock, Exit.then])
      refine bodyPost_ret (by simp [a2, a3, a4, a5, a6, results, Tryd.results31, go_sem]; try rfl) rfl ?_
      refine ⟨rfl, ?_⟩
      go_grown
    · have h2 : ¬ t.size ≤ 200 := fun g => hn ⟨h1, g, h3⟩
      have hn0 := h1.2.1
      obtain ⟨N, rfl⟩ := Int.eq_ofNat_of_zero_le hn0
      have hN : N < 8 := by have := h1.2; omega
      have hs8 := h1.1.2
      have HO := fun W => implLeafSeed s N W hs8 (by omega)
      have hz := leafSeed_size s N
      have HS := fun W hT => implSignNo (leafSeed s N) t W (by rw [hz]; unfold maxLen; omega) hmt (fun g => h2 g.2) hT
      clear hn h1 hz
      generalize leafSeed s N = S3 at *
      go_enter Tryd.func31, Tryd.ntmps31
      go_wp2_with fail
      refine (HG _).mono ?_
      rintro e w1 ⟨rfl, hb1⟩
      have hbX : Below (w.alloc (.cells #[.string s, .int .i64 N] 45)).heap.size (w.alloc (.cells #[.string s, .int .i64 N] 45)) w1 := by
        refine Below.trans ?_ (hb1.mono ?_)
        · go_grown
        · go_size
      have a0 : w1.cell? ⟨w.heap.size, 0, none⟩ = some (.string s) := (hbX.cell (p := ⟨w.heap.size, 0, none⟩) (by simp)).trans (by simp)
      have a1 : w1.cell? ⟨w.heap.size, 1, none⟩ = some (.int .i64 N) := (hbX.cell (p := ⟨w.heap.size, 1, none⟩) (by simp)).trans (by simp)
      clear hbX
      have hbY : Below ((w.alloc (.cells #[.string s, .int .i64 N] 45)).alloc (.cells #[.string ⟨#[]⟩, .int .i64 0] 45)).heap.size ((w.alloc (.cells #[.string s, .int .i64 N] 45)).alloc (.cells #[.string ⟨#[]⟩, .int .i64 0] 45)) w1 := by
        refine Below.trans ?_ (hb1.mono ?_)
        · go_grown
        · go_size
      have a2 : w1.cell? ⟨w.heap.size + 1, 0, none⟩ = some (.string ⟨#[]⟩) := (hbY.cell (p := ⟨w.heap.size + 1, 0, none⟩) (by simp)).trans (by simp)
      have a3 : w1.cell? ⟨w.heap.size + 1, 1, none⟩ = some (.int .i64 0) := (hbY.cell (p := ⟨w.heap.size + 1, 1, none⟩) (by simp)).trans (by simp)
      have f2 : w1.frozen? ⟨w.heap.size + 1, 0, none⟩ = false := (hbY.frozen (p := ⟨w.heap.size + 1, 0, none⟩) (by simp)).trans (by simp)
      have f3 : w1.frozen? ⟨w.heap.size + 1, 1, none⟩ = false := (hbY.frozen (p := ⟨w.heap.size + 1, 1, none⟩) (by simp)).trans (by simp)
      clear hbY
      have a4 : w1.cell? ⟨w.heap.size + 1 + 1, 0, none⟩ = some (.int .i64 0) := (hb1.cell (p := ⟨w.heap.size + 1 + 1, 0, none⟩) (by simp)).trans (allocCell _ _ _ _ _ _ (by simp) (by rfl))
      have a5 : w1.cell? ⟨w.heap.size + 1 + 1, 1, none⟩ = some (.slice none 0 0) := (hb1.cell (p := ⟨w.heap.size + 1 + 1, 1, none⟩) (by simp)).trans (allocCell _ _ _ _ _ _ (by simp) (by rfl))
      have a6 : w1.cell? ⟨w.heap.size + 1 + 1, 2, none⟩ = some (.slice none 0 0) := (hb1.cell (p := ⟨w.heap.size + 1 + 1, 2, none⟩) (by simp)).trans (allocCell _ _ _ _ _ _ (by simp) (by rfl))
      have f4 : w1.frozen? ⟨w.heap.size + 1 + 1, 0, none⟩ = false := (hb1.frozen (p := ⟨w.heap.size + 1 + 1, 0, none⟩) (by simp)).trans (allocFz _ _ _ _ _ (by simp))
      have f5 : w1.frozen? ⟨w.heap.size + 1 + 1, 1, none⟩ = false := (hb1.frozen (p := ⟨w.heap.size + 1 + 1, 1, none⟩) (by simp)).trans (allocFz _ _ _ _ _ (by simp))
      have f6 : w1.frozen? ⟨w.heap.size + 1 + 1, 2, none⟩ = false := (hb1.frozen (p := ⟨w.heap.size + 1 + 1, 2, none⟩) (by simp)).trans (allocFz _ _ _ _ _ (by simp))
      have hz1 := hb1.size
      simp only [World.size_alloc] at hz1
      have k1 : Below w.heap.size w w1 := by
        refine Below.trans ?_ (hb1.mono ?_)
        · go_grown
        · go_size
      clear hb1
      have z0 : w.heap.size < w1.heap.size := by omega
      have z1 : w.heap.size + 1 < w1.heap.size := by omega
      have z2 : w.heap.size + 1 + 1 < w1.heap.size := by omega
      clear hz1 HG
      go_wp2_with fail
      refine (HO _).mono ?_
      rintro e w2 ⟨rfl, hb2⟩
      replace a0 : w2.cell? ⟨w.heap.size, 0, none⟩ = some (.string s) := (hb2.cell (p := ⟨w.heap.size, 0, none⟩) z0).trans a0
      replace a1 : w2.cell? ⟨w.heap.size, 1, none⟩ = some (.int .i64 N) := (hb2.cell (p := ⟨w.heap.size, 1, none⟩) z0).trans a1
      replace a2 : w2.cell? ⟨w.heap.size + 1, 0, none⟩ = some (.string ⟨#[]⟩) := (hb2.cell (p := ⟨w.heap.size + 1, 0, none⟩) z1).trans a2
      replace f2 : w2.frozen? ⟨w.heap.size + 1, 0, none⟩ = false := (hb2.frozen (p := ⟨w.heap.size + 1, 0, none⟩) z1).trans f2
      replace a3 : w2.cell? ⟨w.heap.size + 1, 1, none⟩ = some (.int .i64 0) := (hb2.cell (p := ⟨w.heap.size + 1, 1, none⟩) z1).trans a3
      replace f3 : w2.frozen? ⟨w.heap.size + 1, 1, none⟩ = false := (hb2.frozen (p := ⟨w.heap.size + 1, 1, none⟩) z1).trans f3
      replace a4 : w2.cell? ⟨w.heap.size + 1 + 1, 0, none⟩ = some (.int .i64 0) := (hb2.cell (p := ⟨w.heap.size + 1 + 1, 0, none⟩) z2).trans a4
      replace f4 : w2.frozen? ⟨w.heap.size + 1 + 1, 0, none⟩ = false := (hb2.frozen (p := ⟨w.heap.size + 1 + 1, 0, none⟩) z2).trans f4
      replace a5 : w2.cell? ⟨w.heap.size + 1 + 1, 1, none⟩ = some (.slice none 0 0) := (hb2.cell (p := ⟨w.heap.size + 1 + 1, 1, none⟩) z2).trans a5
      replace f5 : w2.frozen? ⟨w.heap.size + 1 + 1, 1, none⟩ = false := (hb2.frozen (p := ⟨w.heap.size + 1 + 1, 1, none⟩) z2).trans f5
      replace a6 : w2.cell? ⟨w.heap.size + 1 + 1, 2, none⟩ = some (.slice none 0 0) := (hb2.cell (p := ⟨w.heap.size + 1 + 1, 2, none⟩) z2).trans a6
      replace f6 : w2.frozen? ⟨w.heap.size + 1 + 1, 2, none⟩ = false := (hb2.frozen (p := ⟨w.heap.size + 1 + 1, 2, none⟩) z2).trans f6
      replace z0 : w.heap.size < w2.heap.size := Nat.lt_of_lt_of_le z0 hb2.size
      replace z1 : w.heap.size + 1 < w2.heap.size := Nat.lt_of_lt_of_le z1 hb2.size
      replace z2 : w.heap.size + 1 + 1 < w2.heap.size := Nat.lt_of_lt_of_le z2 hb2.size
      have k2 : Below w.heap.size w w2 := k1.trans (hb2.mono k1.size)
      clear k1
      clear hb2 HO
      go_wp2_with fail
      refine (HS _ (HT.out.below k2)).mono ?_
      rintro e w3 ⟨rfl, hb3⟩
      replace a0 : w3.cell? ⟨w.heap.size, 0, none⟩ = some (.string s) := (hb3.cell (p := ⟨w.heap.size, 0, none⟩) z0).trans a0
      replace a1 : w3.cell? ⟨w.heap.size, 1, none⟩ = some (.int .i64 N) := (hb3.cell (p := ⟨w.heap.size, 1, none⟩) z0).trans a1
      replace a2 : w3.cell? ⟨w.heap.size + 1, 0, none⟩ = some (.string ⟨#[]⟩) := (hb3.cell (p := ⟨w.heap.size + 1, 0, none⟩) z1).trans a2
      replace f2 : w3.frozen? ⟨w.heap.size + 1, 0, none⟩ = false := (hb3.frozen (p := ⟨w.heap.size + 1, 0, none⟩) z1).trans f2
      replace a3 : w3.cell? ⟨w.heap.size + 1, 1, none⟩ = some (.int .i64 0) := (hb3.cell (p := ⟨w.heap.size + 1, 1, none⟩) z1).trans a3
      replace f3 : w3.frozen? ⟨w.heap.size + 1, 1, none⟩ = false := (hb3.frozen (p := ⟨w.heap.size + 1, 1, none⟩) z1).trans f3
      replace a4 : w3.cell? ⟨w.heap.size + 1 + 1, 0, none⟩ = some (.int .i64 0) := (hb3.cell (p := ⟨w.heap.size + 1 + 1, 0, none⟩) z2).trans a4
      replace f4 : w3.frozen? ⟨w.heap.size + 1 + 1, 0, none⟩ = false := (hb3.frozen (p := ⟨w.heap.size + 1 + 1, 0, none⟩) z2).trans f4
      replace a5 : w3.cell? ⟨w.heap.size + 1 + 1, 1, none⟩ = some (.slice none 0 0) := (hb3.cell (p := ⟨w.heap.size + 1 + 1, 1, none⟩) z2).trans a5
      replace f5 : w3.frozen? ⟨w.heap.size + 1 + 1, 1, none⟩ = false := (hb3.frozen (p := ⟨w.heap.size + 1 + 1, 1, none⟩) z2).trans f5
      replace a6 : w3.cell? ⟨w.heap.size + 1 + 1, 2, none⟩ = some (.slice none 0 0) := (hb3.cell (p := ⟨w.heap.size + 1 + 1, 2, none⟩) z2).trans a6
      replace f6 : w3.frozen? ⟨w.heap.size + 1 + 1, 2, none⟩ = false := (hb3.frozen (p := ⟨w.heap.size + 1 + 1, 2, none⟩) z2).trans f6
      replace z0 : w.heap.size < w3.heap.size := Nat.lt_of_lt_of_le z0 hb3.size
      replace z1 : w.heap.size + 1 < w3.heap.size := Nat.lt_of_lt_of_le z1 hb3.size
      replace z2 : w.heap.size + 1 + 1 < w3.heap.size := Nat.lt_of_lt_of_le z2 hb3.size
      have k3 : Below w.heap.size w w3 := k2.trans (hb3.mono k2.size)
      clear k2
      clear hb3 HS
      go_wp2
      (try simp only [Exit.inBlock, Exit.then])
      refine bodyPost_ret (by simp [a2, a3, a4, a5, a6, results, Tryd.results31, go_sem]; try rfl) rfl ?_
      refine ⟨rfl, ?_⟩
      go_grown
  · rw [signerB_false h1] at HG
    clear hn h1
    go_enter Tryd.func31, Tryd.ntmps31
    go_wp2_with fail
    refine (HG _).mono ?_
    rintro e w1 ⟨rfl, hb1⟩
    have hbX : Below (w.alloc (.cells #[.string s, .int .i64 u] 45)).heap.size (w.alloc (.cells #[.string s, .int .i64 u] 45)) w1 := by
      refine Below.trans ?_ (hb1.mono ?_)
      · go_grown
      · go_size
    have a0 : w1.cell? ⟨w.heap.size, 0, none⟩ = some (.string s) := (hbX.cell (p := ⟨w.heap.size, 0, none⟩) (by simp)).trans (by simp)
    have a1 : w1.cell? ⟨w.heap.size, 1, none⟩ = some (.int .i64 u) := (hbX.cell (p := ⟨w.heap.size, 1, none⟩) (by simp)).trans (by simp)
    clear hbX
    have hbY : Below ((w.alloc (.cells #[.string s, .int .i64 u] 45)).alloc (.cells #[.string ⟨#[]⟩, .int .i64 0] 45)).heap.size ((w.alloc (.cells #[.string s, .int .i64 u] 45)).alloc (.cells #[.string ⟨#[]⟩, .int .i64 0] 45)) w1 := by
      refine Below.trans ?_ (hb1.mono ?_)
      · go_grown
      · go_size
    have a2 : w1.cell? ⟨w.heap.size + 1, 0, none⟩ = some (.string ⟨#[]⟩) := (hbY.cell (p := ⟨w.heap.size + 1, 0, none⟩) (by simp)).trans (by simp)
    have a3 : w1.cell? ⟨w.heap.size + 1, 1, none⟩ = some (.int .i64 0) := (hbY.cell (p := ⟨w.heap.size + 1, 1, none⟩) (by simp)).trans (by simp)
    have f2 : w1.frozen? ⟨w.heap.size + 1, 0, none⟩ = false := (hbY.frozen (p := ⟨w.heap.size + 1, 0, none⟩) (by simp)).trans (by simp)
    have f3 : w1.frozen? ⟨w.heap.size + 1, 1, none⟩ = false := (hbY.frozen (p := ⟨w.heap.size + 1, 1, none⟩) (by simp)).trans (by simp)
    clear hbY
    have a4 : w1.cell? ⟨w.heap.size + 1 + 1, 0, none⟩ = some (.int .i64 0) := (hb1.cell (p := ⟨w.heap.size + 1 + 1, 0, none⟩) (by simp)).trans (allocCell _ _ _ _ _ _ (by simp) (by rfl))
    have a5 : w1.cell? ⟨w.heap.size + 1 + 1, 1, none⟩ = some (.slice none 0 0) := (hb1.cell (p := ⟨w.heap.size + 1 + 1, 1, none⟩) (by simp)).trans (allocCell _ _ _ _ _ _ (by simp) (by rfl))
    have a6 : w1.cell? ⟨w.heap.size + 1 + 1, 2, none⟩ = some (.slice none 0 0) := (hb1.cell (p := ⟨w.heap.size + 1 + 1, 2, none⟩) (by simp)).trans (allocCell _ _ _ _ _ _ (by simp) (by rfl))
    have f4 : w1.frozen? ⟨w.heap.size + 1 + 1, 0, none⟩ = false := (hb1.frozen (p := ⟨w.heap.size + 1 + 1, 0, none⟩) (by simp)).trans (allocFz _ _ _ _ _ (by simp))
    have f5 : w1.frozen? ⟨w.heap.size + 1 + 1, 1, none⟩ = false := (hb1.frozen (p := ⟨w.heap.size + 1 + 1, 1, none⟩) (by simp)).trans (allocFz _ _ _ _ _ (by simp))
    have f6 : w1.frozen? ⟨w.heap.size + 1 + 1, 2, none⟩ = false := (hb1.frozen (p := ⟨w.heap.size + 1 + 1, 2, none⟩) (by simp)).trans (allocFz _ _ _ _ _ (by simp))
    have hz1 := hb1.size
    simp only [World.size_alloc] at hz1
    have k1 : Below w.heap.size w w1 := by
      refine Below.trans ?_ (hb1.mono ?_)
      · go_grown
      · go_size
    clear hb1
    have z0 : w.heap.size < w1.heap.size := by omega
    have z1 : w.heap.size + 1 < w1.heap.size := by omega
    have z2 : w.heap.size + 1 + 1 < w1.heap.size := by omega
    clear hz1 HG
    go_wp2
    (try simp only [Exit.inBlock, Exit.then])
    refine bodyPost_ret (by simp [a2, a3, a4, a5, a6, results, Tryd.results31, go_sem]; try rfl) rfl ?_
    refine ⟨rfl, ?_⟩
    go_grown
set_option maxHeartbeats 3200000 in
theorem implCheckTYes (top t : ByteArray) (N : Nat) (v1 v2 : Value) (ss ws : List ByteArray) (w : World) (h1 : StrsAt w v1 ss) (h2 : StrsAt w v2 ws) (hl1 : ss.length ≤ 1048576) (hl2 : ws.length ≤ 1048576) (hy : CheckTYes top t N ss ws) (ht : Table w) :
    Calls Tryd.prog 38 #[.string top, .string t, .agg #[.int .i64 N, v1, v2]] w fun e w' => e = .returned (.tuple #[.bool ((topFromB N (fromB t ss) ws).toList == top.toList), .bool true]) ∧ Below w.heap.size w w' := by
  have hp : (top.size : Int) = 4 := by have := hy.1; omega
  have hN : N < 8 := by have := hy.2.2.1; omega
  have hal := (Below.refl w.heap.size w).alloc (Nat.le_refl _) (.cells #[.int .i64 N, v1, v2] 49)
  have HB1 : Hid (StrsAt _ v1 ss) := h1.below hal
  have HB2 : Hid (StrsAt _ v2 ws) := h2.below hal
  have HTa : Hid (Table _) := ht.below hal
  have HAL : Hid (Below w.heap.size w _) := hal
  clear h1 h2 hal ht
  have hf4 : (fromB t ss).size = 4 := by unfold fromB; exact digestB_size _ _
  have HF := fun W hW hT => implFromYes t v1 ss W hW hl1 ⟨hy.2.1, hy.2.2.2.1⟩ hT
  have HTp := fun W hW hT => implTopFromYes N (fromB t ss) v2 ws W hW hl2 ⟨hy.2.2.1, hf4, hy.2.2.2.2⟩ hT
  clear hf4 hy
  generalize fromB t ss = FF at *
  generalize topFromB N FF ws = TT at *
  go_enter Tryd.func38, Tryd.ntmps38
  go_wp2_with fail
  refine (HF _ HB1.out HTa.out).mono ?_
  rintro e w1 ⟨rfl, hb1⟩
  have k1 := HAL.out.trans (hb1.mono (by simp))
  have hB : w.heap.size < w1.heap.size := by have := hb1.size; simp at this; omega
  have d0 : w1.cell? ⟨w.heap.size, 0, none⟩ = some (.int .i64 N) := (hb1.cell (p := ⟨w.heap.size, 0, none⟩) (by simp)).trans (by simp)
  have d1 : w1.cell? ⟨w.heap.size, 1, none⟩ = some v1 := (hb1.cell (p := ⟨w.heap.size, 1, none⟩) (by simp)).trans (by simp)
  have d2 : w1.cell? ⟨w.heap.size, 2, none⟩ = some v2 := (hb1.cell (p := ⟨w.heap.size, 2, none⟩) (by simp)).trans (by simp)
  have HB3 : Hid (StrsAt w1 v2 ws) := HB2.out.below hb1
  have HT1 : Hid (Table w1) := HTa.out.below hb1
  have HK1 : Hid (Below w.heap.size w w1) := k1
  clear HF HB1 HB2 HAL HTa hb1 k1
  go_wp2_with fail
  refine (HTp _ HB3.out HT1.out).mono ?_
  rintro e w2 ⟨rfl, hb2⟩
  have k2 := HK1.out.trans (hb2.mono HK1.out.size)
  clear HTp hb2
  go_wp2
  go_returns
  exact ⟨rfl, k2⟩
set_option maxHeartbeats 3200000 in
theorem implCheckTNo (top t : ByteArray) (n : Int) (v1 v2 : Value) (ss ws : List ByteArray) (w : World) (hmp : top.size ≤ maxLen) (hm : t.size ≤ maxLen) (h1 : StrsAt w v1 ss) (h2 : StrsAt w v2 ws) (hl1 : ss.length ≤ 1048576) (hl2 : ws.length ≤ 1048576) (hn : ¬ CheckTYes top t n ss ws) (ht : Table w) :
    Calls Tryd.prog 38 #[.string top, .string t, .agg #[.int .i64 n, v1, v2]] w fun e w' => e = .returned (.tuple #[.bool false, .bool false]) ∧ Below w.heap.size w w' := by
  unfold maxLen at hmp
  have hal := (Below.refl w.heap.size w).alloc (Nat.le_refl _) (.cells #[.int .i64 n, v1, v2] 49)
  have HB1 : Hid (StrsAt _ v1 ss) := h1.below hal
  have HB2 : Hid (StrsAt _ v2 ws) := h2.below hal
  have HTa : Hid (Table _) := ht.below hal
  have HAL : Hid (Below w.heap.size w _) := hal
  clear h1 h2 hal ht
  by_cases h0 : top.size = 4
  · have hp : (top.size : Int) = 4 := by omega
    by_cases h3 : FromYes t ss
    · have hf4 : (fromB t ss).size = 4 := by unfold fromB; exact digestB_size _ _
      have HF := fun W hW hT => implFromYes t v1 ss W hW hl1 h3 hT
      have HTp := fun W hW => implTopFromNo n (fromB t ss) v2 ws W (by rw [hf4]; unfold maxLen; omega) hW hl2 (fun g => hn ⟨h0, h3.1, g.1, h3.2, g.2.2⟩)
      clear hf4 hn h3
      generalize fromB t ss = FF at *
      go_enter Tryd.func38, Tryd.ntmps38
      go_wp2_with fail
      refine (HF _ HB1.out HTa.out).mono ?_
      rintro e w1 ⟨rfl, hb1⟩
      have k1 := HAL.out.trans (hb1.mono (by simp))
      have hB : w.heap.size < w1.heap.size := by have := hb1.size; simp at this; omega
      have d0 : w1.cell? ⟨w.heap.size, 0, none⟩ = some (.int .i64 n) := (hb1.cell (p := ⟨w.heap.size, 0, none⟩) (by simp)).trans (by simp)
      have d1 : w1.cell? ⟨w.heap.size, 1, none⟩ = some v1 := (hb1.cell (p := ⟨w.heap.size, 1, none⟩) (by simp)).trans (by simp)
      have d2 : w1.cell? ⟨w.heap.size, 2, none⟩ = some v2 := (hb1.cell (p := ⟨w.heap.size, 2, none⟩) (by simp)).trans (by simp)
      have HB3 : Hid (StrsAt w1 v2 ws) := HB2.out.below hb1
      have HK1 : Hid (Below w.heap.size w w1) := k1
      clear HF HB1 HB2 HAL HTa hb1 k1
      go_wp2_with fail
      refine (HTp _ HB3.out).mono ?_
      rintro e w2 ⟨rfl, hb2⟩
      have k2 := HK1.out.trans (hb2.mono HK1.out.size)
      clear HTp hb2
      go_wp2
      go_returns
      exact ⟨rfl, k2⟩
    · have HF := fun W hW hT => implFromNo t v1 ss W hm hW hl1 h3 hT
      clear hn h3
      go_enter Tryd.func38, Tryd.ntmps38
      go_wp2_with fail
      refine (HF _ HB1.out HTa.out).mono ?_
      rintro e w1 ⟨rfl, hb1⟩
      have k1 := HAL.out.trans (hb1.mono (by simp))
      clear HF hb1
      go_wp2
      go_returns
      exact ⟨rfl, k1⟩
  · have hp : ¬ (top.size : Int) = 4 := by omega
    go_enter Tryd.func38, Tryd.ntmps38
    go_wp2
    go_returns
    exact ⟨rfl, HAL.out⟩
end Go.Proofs.YtemkkofjakpjiaaDoor
