/- Contracts of the model's SealText. Condition: none. -/
import Derived.Test.YtemkkofjakpjiaaDoorSpecCheck
namespace Go.Proofs.YtemkkofjakpjiaaDoor
open Go.ChangeShapes Go.WideShapes Go.ChangeAt Go.RowKit Go.Deep
set_option linter.unusedVariables false
attribute [local go_sem ↓] Go.wp_at_zero Go.wp_at_succ

theorem OwnRow.setOff {base : Nat} {w : World} {g n b o : Nat} {v : Value} {f : Nat → Value} (h : OwnRow base w g n f) (hne : b ≠ g) : OwnRow base (w.setCell ⟨b, o, none⟩ v) g n f := by
  refine ⟨h.1, by simpa using h.2.1, fun i hi => ?_, fun i hi => ?_⟩
  · rw [World.cell?_setCell_other w ⟨b, o, none⟩ ⟨g, i, none⟩ _ (fun h => hne (by cases h; rfl)), h.2.2.1 i hi]
  · have := h.2.2.2 i hi
    simp [*, go_sem]

theorem allocCell (X : World) (vs : Array Value) (T : TypeId) (b k : Nat) (v : Value) (h : b = X.heap.size) (hv : vs[k]? = some v) : (X.alloc (.cells vs T)).cell? ⟨b, k, none⟩ = some v := by
  subst h
  simpa using hv
def SealYes (s : ByteArray) (u : Int) (t : ByteArray) : Prop := SignerOk s u ∧ t.size ≤ 200 ∧ u ≠ 8
set_option maxHeartbeats 6400000 in
theorem specTextYes (s t : ByteArray) (N : Nat) (w : World) (hm : s.size ≤ maxLen) (hy : SealYes s N t) :
    Calls Tryd.prog 32 #[.agg #[.string s, .int .i64 N], .string t] w fun e w' => ∃ g4 c4 g5 c5, e = .returned (.tuple #[.agg #[.string s, .int .i64 ((N : Int) + 1)], .agg #[.int .i64 N, .slice (some ⟨g4, 0, none⟩) 11 c4, .slice (some ⟨g5, 0, none⟩) 3 c5], .bool true]) ∧
      OwnRow w.heap.size w' g4 11 (fun i => .string ((signB (leafSeed s N) t).getD i ByteArray.empty)) ∧ OwnRow w.heap.size w' g5 3 (fun i => .string ((wayB s N).getD i ByteArray.empty)) ∧ g4 ≠ g5 ∧ Below w.heap.size w w' := by
  have HG := fun W => specSigner s (N : Int) W hm
  rw [signerB_true hy.1] at HG
  have hN : N < 8 := by have := hy.1.2; have := hy.2.2; omega
  have hn8 : ¬ (N : Int) = 8 := by omega
  have h0 := hy.1.1.1
  have h1 := hy.1.1.2
  have h2 := hy.2.1
  have HO := fun W => specOf s N W h1 (by omega)
  have HS := fun W => specL2Sign (leafSeed s N) t W (by rw [leafSeed_size]; omega) (by rw [leafSeed_size]; omega) h2
  have HW := fun W => specL3Way s N W h0 h1 hN
  clear hy
  generalize signB (leafSeed s N) t = L4 at *
  generalize wayB s N = L5 at *
  generalize leafSeed s N = S3 at *
  go_enter Tryd.func32, Tryd.ntmps32
  go_wp2_with fail
  refine (HG _).mono ?_
  rintro e w1 ⟨rfl, hb1⟩
  have hbX : Below (w.alloc (.cells #[.string s, .int .i64 N] 45)).heap.size (w.alloc (.cells #[.string s, .int .i64 N] 45)) w1 := by
    refine Below.trans ?_ (hb1.mono ?_)
    · go_grown
    · go_size
  have a0 : w1.cell? ⟨w.heap.size, 0, none⟩ = some (.string s) := (hbX.cell (p := ⟨w.heap.size, 0, none⟩) (by simp)).trans (by simp)
  have a1 : w1.cell? ⟨w.heap.size, 1, none⟩ = some (.int .i64 N) := (hbX.cell (p := ⟨w.heap.size, 1, none⟩) (by simp)).trans (by simp)
  clear hbX
  have hbY : Below ((w.alloc (.cells #[.string s, .int .i64 N] 45)).alloc (.cells #[.string ⟨#[]⟩, .int .i64 0] 45)).heap.size ((w.alloc (.cells #[.string s, .int .i64 N] 45)).alloc (.cells #[.string ⟨#[]⟩, .int .i64 0] 45)) w1 := by
    refine Below.trans ?_ (hb1.mono ?_)
    · go_grown
    · go_size
  have a2 : w1.cell? ⟨w.heap.size + 1, 0, none⟩ = some (.string ⟨#[]⟩) := (hbY.cell (p := ⟨w.heap.size + 1, 0, none⟩) (by simp)).trans (by simp)
  have a3 : w1.cell? ⟨w.heap.size + 1, 1, none⟩ = some (.int .i64 0) := (hbY.cell (p := ⟨w.heap.size + 1, 1, none⟩) (by simp)).trans (by simp)
  clear hbY
  have a4 : w1.cell? ⟨w.heap.size + 1 + 1, 0, none⟩ = some (.int .i64 0) := (hb1.cell (p := ⟨w.heap.size + 1 + 1, 0, none⟩) (by simp)).trans (allocCell _ _ _ _ _ _ (by simp) (by rfl))
  have a5 : w1.cell? ⟨w.heap.size + 1 + 1, 1, none⟩ = some (.slice none 0 0) := (hb1.cell (p := ⟨w.heap.size + 1 + 1, 1, none⟩) (by simp)).trans (allocCell _ _ _ _ _ _ (by simp) (by rfl))
  have a6 : w1.cell? ⟨w.heap.size + 1 + 1, 2, none⟩ = some (.slice none 0 0) := (hb1.cell (p := ⟨w.heap.size + 1 + 1, 2, none⟩) (by simp)).trans (allocCell _ _ _ _ _ _ (by simp) (by rfl))
  obtain ⟨hc1, hf1⟩ := bcell hb1
  have hz1 := hb1.size
  simp only [World.size_alloc] at hz1
  have k1 : Below w.heap.size w w1 := by
    refine Below.trans ?_ (hb1.mono ?_)
    · go_grown
    · go_size
  clear hb1
  have hz1_0 : w.heap.size < w1.heap.size := by omega
  have hz1_1 : w.heap.size + 1 < w1.heap.size := by omega
  have hz1_2 : w.heap.size + 1 + 1 < w1.heap.size := by omega
  clear hz1
  go_wp2_with fail
  refine (specLongYes t _ h2).mono ?_
  rintro e w2 ⟨rfl, hw2⟩
  subst w2
  clear HG
  have hu1 : w.heap.size ≠ w1.heap.size := by omega
  have hv1 : w1.heap.size ≠ w.heap.size := by omega
  go_upto_region 3 with fail
  go_cut [7] (fun p wc => ∃ g' g4 c4 g5 c5, p = .pointer (some ⟨g', 0, none⟩) ∧ w1.heap.size ≤ g' ∧ g' < wc.heap.size ∧ wc.cell? ⟨g', 0, none⟩ = some (.int .i64 N) ∧ wc.cell? ⟨g', 1, none⟩ = some (.slice (some ⟨g4, 0, none⟩) 11 c4) ∧ wc.cell? ⟨g', 2, none⟩ = some (.slice (some ⟨g5, 0, none⟩) 3 c5) ∧
    OwnRow w1.heap.size wc g4 11 (fun i => .string (L4.getD i ByteArray.empty)) ∧ OwnRow w1.heap.size wc g5 3 (fun i => .string (L5.getD i ByteArray.empty)) ∧ g4 ≠ g5 ∧ Below w1.heap.size w1 wc)
  case first =>
    go_region_held3 (fun w' => w'.cell? ⟨w.heap.size, 0, none⟩ = some (.string s) ∧ w'.cell? ⟨w.heap.size, 1, none⟩ = some (.int .i64 N)) (go_keep)
      (first
        | (go_at_call 88; refine (HO _).mono ?_; rintro e w3 ⟨rfl, hb3⟩; have hp3 := kept hb3 w.heap.size (by go_size); obtain ⟨hc3, hf3⟩ := bcell hb3; have hz3 := hb3.size; (try simp only [World.size_drew] at hz3); (try simp only [World.size_alloc] at hz3); have ht3 : ∀ b, b < _ → b < w3.heap.size := fun b hb => Nat.lt_of_lt_of_le hb hb3.size; (try have hm31 : w1.heap.size < w3.heap.size := (by omega)); have hx3 : w1.heap.size ≤ w3.heap.size := (by omega); have hB3 : w.heap.size < w3.heap.size := (by omega); have hu3 : w.heap.size ≠ w3.heap.size := (by omega); have hv3 : w3.heap.size ≠ w.heap.size := (by omega); have k3 : Below w1.heap.size w1 w3 := (by exact Below.trans (by go_grown) (hb3.mono (by go_size))); (try have HO5 : Hid (OwnRow w1.heap.size w3 g5 3 (fun i => .string (L5.getD i ByteArray.empty))) := (by exact OwnRow.below HO5.out (Below.trans (by go_grown) (hb3.mono (by go_size))))); clear hb3)
        | (go_at_call 71; refine (HS _).mono ?_; rintro e w4 ⟨g4, c4, rfl, ho4, hb4⟩; have hp4 := kept hb4 w.heap.size (by go_size); obtain ⟨hc4, hf4⟩ := bcell hb4; have hz4 := hb4.size; (try simp only [World.size_drew] at hz4); (try simp only [World.size_alloc] at hz4); have hs4 := ho4.1; have l4 := ho4.2.1; (try simp only [World.size_drew] at hs4); (try simp only [World.size_alloc] at hs4); have ht4 : ∀ b, b < _ → b < w4.heap.size := fun b hb => Nat.lt_of_lt_of_le hb hb4.size; (try have hm41 : w1.heap.size < w4.heap.size := (by omega)); (try have hm43 : w3.heap.size < w4.heap.size := (by omega)); have hx4 : w1.heap.size ≤ w4.heap.size := (by omega); have hB4 : w.heap.size < w4.heap.size := (by omega); have hu4 : w.heap.size ≠ w4.heap.size := (by omega); have hv4 : w4.heap.size ≠ w.heap.size := (by omega); have k4 : Below w1.heap.size w1 w4 := (by exact Below.trans (by go_grown) (hb4.mono (by go_size))); (try have hne : g4 ≠ g5 := (by have := HO5.out.2.1; omega)); (try have HO5 : Hid (OwnRow w1.heap.size w4 g5 3 (fun i => .string (L5.getD i ByteArray.empty))) := (by exact OwnRow.below HO5.out (Below.trans (by go_grown) (hb4.mono (by go_size))))); have HO4 : Hid (OwnRow w1.heap.size w4 g4 11 (fun i => .string (L4.getD i ByteArray.empty))) := (by exact OwnRow.mono ho4 (by go_size)); clear hb4 ho4)
        | (go_at_call 89; refine (HW _).mono ?_; rintro e w5 ⟨g5, c5, rfl, ho5, hb5⟩; have hp5 := kept hb5 w.heap.size (by go_size); obtain ⟨hc5, hf5⟩ := bcell hb5; have hz5 := hb5.size; (try simp only [World.size_drew] at hz5); (try simp only [World.size_alloc] at hz5); have hs5 := ho5.1; have l5 := ho5.2.1; (try simp only [World.size_drew] at hs5); (try simp only [World.size_alloc] at hs5); have ht5 : ∀ b, b < _ → b < w5.heap.size := fun b hb => Nat.lt_of_lt_of_le hb hb5.size; (try have hm51 : w1.heap.size < w5.heap.size := (by omega)); (try have hm53 : w3.heap.size < w5.heap.size := (by omega)); (try have hm54 : w4.heap.size < w5.heap.size := (by omega)); have hx5 : w1.heap.size ≤ w5.heap.size := (by omega); have hB5 : w.heap.size < w5.heap.size := (by omega); have hu5 : w.heap.size ≠ w5.heap.size := (by omega); have hv5 : w5.heap.size ≠ w.heap.size := (by omega); have k5 : Below w1.heap.size w1 w5 := (by exact Below.trans (by go_grown) (hb5.mono (by go_size))); (try have hne : g4 ≠ g5 := (by have := HO4.out.2.1; omega)); (try have HO4 : Hid (OwnRow w1.heap.size w5 g4 11 (fun i => .string (L4.getD i ByteArray.empty))) := (by exact OwnRow.below HO4.out (Below.trans (by go_grown) (hb5.mono (by go_size))))); have HO5 : Hid (OwnRow w1.heap.size w5 g5 3 (fun i => .string (L5.getD i ByteArray.empty))) := (by exact OwnRow.mono ho5 (by go_size)); clear hb5 ho5))
    all_goals go_wp2_with fail
    all_goals go_meet
    all_goals refine ⟨_, g4, c4, g5, c5, rfl, ?_, ?_, ?_, ?_, ?_, ?_, ?_, hne, ?_⟩
    all_goals first | (simp [*]; done) | omega | (simp; omega) | (simp [*, go_sem]; done) | (refine OwnRow.below HO4.out ?_; go_grown; done) | (refine OwnRow.below HO5.out ?_; go_grown; done) | (refine OwnRow.setOff (OwnRow.setOff (OwnRow.setOff HO4.out ?_) ?_) ?_ <;> omega) | (refine OwnRow.setOff (OwnRow.setOff (OwnRow.setOff HO5.out ?_) ?_) ?_ <;> omega) | (go_grown; done)
  case rest =>
    obtain ⟨g, g4, c4, g5, c5, rfl, hg1, hg2, q0, q1, q2, o4, o5, hne, kb⟩ := hcut
    have b0 : wc.cell? ⟨w.heap.size, 0, none⟩ = some (.string s) := (kb.cell (p := ⟨w.heap.size, 0, none⟩) hz1_0).trans a0
    have b1 : wc.cell? ⟨w.heap.size, 1, none⟩ = some (.int .i64 N) := (kb.cell (p := ⟨w.heap.size, 1, none⟩) hz1_0).trans a1
    have b2 : wc.cell? ⟨w.heap.size + 1, 0, none⟩ = some (.string ⟨#[]⟩) := (kb.cell (p := ⟨w.heap.size + 1, 0, none⟩) hz1_1).trans a2
    have b3 : wc.cell? ⟨w.heap.size + 1, 1, none⟩ = some (.int .i64 0) := (kb.cell (p := ⟨w.heap.size + 1, 1, none⟩) hz1_1).trans a3
    have b4 : wc.cell? ⟨w.heap.size + 1 + 1, 0, none⟩ = some (.int .i64 0) := (kb.cell (p := ⟨w.heap.size + 1 + 1, 0, none⟩) hz1_2).trans a4
    have b5 : wc.cell? ⟨w.heap.size + 1 + 1, 1, none⟩ = some (.slice none 0 0) := (kb.cell (p := ⟨w.heap.size + 1 + 1, 1, none⟩) hz1_2).trans a5
    have b6 : wc.cell? ⟨w.heap.size + 1 + 1, 2, none⟩ = some (.slice none 0 0) := (kb.cell (p := ⟨w.heap.size + 1 + 1, 2, none⟩) hz1_2).trans a6
    obtain ⟨hc2, hf2⟩ := bcell kb
    have kc : Below w.heap.size w wc := k1.trans (kb.mono (by omega))
    have hzc := kb.size
    have m0 : w.heap.size < wc.heap.size := by omega
    have m1 : w.heap.size + 1 < wc.heap.size := by omega
    have m2 : w.heap.size + 1 + 1 < wc.heap.size := by omega
    have n0 : g ≠ w.heap.size := by omega
    have n1 : g ≠ w.heap.size + 1 := by omega
    have n2 : g ≠ w.heap.size + 1 + 1 := by omega
    have n3 : w.heap.size ≠ g := by omega
    have n4 : w.heap.size + 1 ≠ g := by omega
    have n5 : w.heap.size + 1 + 1 ≠ g := by omega
    have p1 := o4.1
    have p2 := o5.1
    have HO4 : Hid (OwnRow w1.heap.size wc g4 11 (fun i => .string (L4.getD i ByteArray.empty))) := o4
    have HO5 : Hid (OwnRow w1.heap.size wc g5 3 (fun i => .string (L5.getD i ByteArray.empty))) := o5
    clear o4 o5 HO HS HW kb
    go_upto_region 4 with fail
    go_region
    all_goals go_wp2_with fail
    all_goals (try simp only [Exit.inBlock, Exit.then])
    all_goals refine bodyPost_ret (by simp [b2, b3, b4, b5, b6, results, Tryd.results32, go_sem]; try rfl) rfl ?_
    all_goals refine ⟨g4, c4, g5, c5, rfl, ?_, ?_, hne, ?_⟩
    · refine OwnRow.mono (OwnRow.below (OwnRow.setOff (OwnRow.setOff (OwnRow.setOff (OwnRow.setOff (OwnRow.setOff HO4.out ?_) ?_) ?_) ?_) ?_) (Below.drew (Below.refl _ _))) ?_ <;> omega
    · refine OwnRow.mono (OwnRow.below (OwnRow.setOff (OwnRow.setOff (OwnRow.setOff (OwnRow.setOff (OwnRow.setOff HO5.out ?_) ?_) ?_) ?_) ?_) (Below.drew (Below.refl _ _))) ?_ <;> omega
    · go_grown

set_option maxHeartbeats 6400000 in
theorem specTextNo (s t : ByteArray) (u : Int) (w : World) (hm : s.size ≤ maxLen) (hmt : t.size ≤ maxLen) (hn : ¬ SealYes s u t) :
    Calls Tryd.prog 32 #[.agg #[.string s, .int .i64 u], .string t] w fun e w' => e = .returned (.tuple #[.agg #[.string ⟨#[]⟩, .int .i64 0], .agg #[.int .i64 0, .slice none 0 0, .slice none 0 0], .bool false]) ∧ Below w.heap.size w w' := by
  have HG := fun W => specSigner s u W hm
  by_cases h1 : SignerOk s u
  · rw [signerB_true h1] at HG
    by_cases h2 : t.size ≤ 200
    · have h3 : u = 8 := by
        by_cases e : u = 8
        · exact e
        · exact absurd ⟨h1, h2, e⟩ hn
      subst h3
      clear hn h1
      go_enter Tryd.func32, Tryd.ntmps32
      go_wp2_with fail
      refine (HG _).mono ?_
      rintro e w1 ⟨rfl, hb1⟩
      have hbX : Below (w.alloc (.cells #[.string s, .int .i64 8] 45)).heap.size (w.alloc (.cells #[.string s, .int .i64 8] 45)) w1 := by
        refine Below.trans ?_ (hb1.mono ?_)
        · go_grown
        · go_size
      have a0 : w1.cell? ⟨w.heap.size, 0, none⟩ = some (.string s) := (hbX.cell (p := ⟨w.heap.size, 0, none⟩) (by simp)).trans (by simp)
      have a1 : w1.cell? ⟨w.heap.size, 1, none⟩ = some (.int .i64 8) := (hbX.cell (p := ⟨w.heap.size, 1, none⟩) (by simp)).trans (by simp)
      clear hbX
      have hbY : Below ((w.alloc (.cells #[.string s, .int .i64 8] 45)).alloc (.cells #[.string ⟨#[]⟩, .int .i64 0] 45)).heap.size ((w.alloc (.cells #[.string s, .int .i64 8] 45)).alloc (.cells #[.string ⟨#[]⟩, .int .i64 0] 45)) w1 := by
        refine Below.trans ?_ (hb1.mono ?_)
        · go_grown
        · go_size
      have a2 : w1.cell? ⟨w.heap.size + 1, 0, none⟩ = some (.string ⟨#[]⟩) := (hbY.cell (p := ⟨w.heap.size + 1, 0, none⟩) (by simp)).trans (by simp)
      have a3 : w1.cell? ⟨w.heap.size + 1, 1, none⟩ = some (.int .i64 0) := (hbY.cell (p := ⟨w.heap.size + 1, 1, none⟩) (by simp)).trans (by simp)
      clear hbY
      have a4 : w1.cell? ⟨w.heap.size + 1 + 1, 0, none⟩ = some (.int .i64 0) := (hb1.cell (p := ⟨w.heap.size + 1 + 1, 0, none⟩) (by simp)).trans (allocCell _ _ _ _ _ _ (by simp) (by rfl))
      have a5 : w1.cell? ⟨w.heap.size + 1 + 1, 1, none⟩ = some (.slice none 0 0) := (hb1.cell (p := ⟨w.heap.size + 1 + 1, 1, none⟩) (by simp)).trans (allocCell _ _ _ _ _ _ (by simp) (by rfl))
      have a6 : w1.cell? ⟨w.heap.size + 1 + 1, 2, none⟩ = some (.slice none 0 0) := (hb1.cell (p := ⟨w.heap.size + 1 + 1, 2, none⟩) (by simp)).trans (allocCell _ _ _ _ _ _ (by simp) (by rfl))
      obtain ⟨hc1, hf1⟩ := bcell hb1
      have hz1 := hb1.size
      simp only [World.size_alloc] at hz1
      have k1 : Below w.heap.size w w1 := by
        refine Below.trans ?_ (hb1.mono ?_)
        · go_grown
        · go_size
      clear hb1
      have hz1_0 : w.heap.size < w1.heap.size := by omega
      have hz1_1 : w.heap.size + 1 < w1.heap.size := by omega
      have hz1_2 : w.heap.size + 1 + 1 < w1.heap.size := by omega
      clear hz1
      go_wp2_with fail
      refine (specLongYes t _ h2).mono ?_
      rintro e w2 ⟨rfl, hw2⟩
      subst w2
      clear HG
      go_wp2
      (try simp only [Exit.inBlock, Exit.then])
      refine bodyPost_ret (by simp [a2, a3, a4, a5, a6, results, Tryd.results32, go_sem]; try rfl) rfl ?_
      refine ⟨rfl, ?_⟩
      go_grown
    · clear hn h1
      go_enter Tryd.func32, Tryd.ntmps32
      go_wp2_with fail
      refine (HG _).mono ?_
      rintro e w1 ⟨rfl, hb1⟩
      have hbX : Below (w.alloc (.cells #[.string s, .int .i64 u] 45)).heap.size (w.alloc (.cells #[.string s, .int .i64 u] 45)) w1 := by
        refine Below.trans ?_ (hb1.mono ?_)
        · go_grown
        · go_size
      have a0 : w1.cell? ⟨w.heap.size, 0, none⟩ = some (.string s) := (hbX.cell (p := ⟨w.heap.size, 0, none⟩) (by simp)).trans (by simp)
      have a1 : w1.cell? ⟨w.heap.size, 1, none⟩ = some (.int .i64 u) := (hbX.cell (p := ⟨w.heap.size, 1, none⟩) (by simp)).trans (by simp)
      clear hbX
      have hbY : Below ((w.alloc (.cells #[.string s, .int .i64 u] 45)).alloc (.cells #[.string ⟨#[]⟩, .int .i64 0] 45)).heap.size ((w.alloc (.cells #[.string s, .int .i64 u] 45)).alloc (.cells #[.string ⟨#[]⟩, .int .i64 0] 45)) w1 := by
        refine Below.trans ?_ (hb1.mono ?_)
        · go_grown
        · go_size
      have a2 : w1.cell? ⟨w.heap.size + 1, 0, none⟩ = some (.string ⟨#[]⟩) := (hbY.cell (p := ⟨w.heap.size + 1, 0, none⟩) (by simp)).trans (by simp)
      have a3 : w1.cell? ⟨w.heap.size + 1, 1, none⟩ = some (.int .i64 0) := (hbY.cell (p := ⟨w.heap.size + 1, 1, none⟩) (by simp)).trans (by simp)
      clear hbY
      have a4 : w1.cell? ⟨w.heap.size + 1 + 1, 0, none⟩ = some (.int .i64 0) := (hb1.cell (p := ⟨w.heap.size + 1 + 1, 0, none⟩) (by simp)).trans (allocCell _ _ _ _ _ _ (by simp) (by rfl))
      have a5 : w1.cell? ⟨w.heap.size + 1 + 1, 1, none⟩ = some (.slice none 0 0) := (hb1.cell (p := ⟨w.heap.size + 1 + 1, 1, none⟩) (by simp)).trans (allocCell _ _ _ _ _ _ (by simp) (by rfl))
      have a6 : w1.cell? ⟨w.heap.size + 1 + 1, 2, none⟩ = some (.slice none 0 0) := (hb1.cell (p := ⟨w.heap.size + 1 + 1, 2, none⟩) (by simp)).trans (allocCell _ _ _ _ _ _ (by simp) (by rfl))
      obtain ⟨hc1, hf1⟩ := bcell hb1
      have hz1 := hb1.size
      simp only [World.size_alloc] at hz1
      have k1 : Below w.heap.size w w1 := by
        refine Below.trans ?_ (hb1.mono ?_)
        · go_grown
        · go_size
      clear hb1
      have hz1_0 : w.heap.size < w1.heap.size := by omega
      have hz1_1 : w.heap.size + 1 < w1.heap.size := by omega
      have hz1_2 : w.heap.size + 1 + 1 < w1.heap.size := by omega
      clear hz1
      go_wp2_with fail
      refine (specLongNo t _ hmt (by omega)).mono ?_
      rintro e w2 ⟨rfl, hw2⟩
      subst w2
      clear HG
      go_wp2
      (try simp only [Exit.inBlock, Exit.then])
      refine bodyPost_ret (by simp [a2, a3, a4, a5, a6, results, Tryd.results32, go_sem]; try rfl) rfl ?_
      refine ⟨rfl, ?_⟩
      go_grown
  · rw [signerB_false h1] at HG
    clear hn h1
    go_enter Tryd.func32, Tryd.ntmps32
    go_wp2_with fail
    refine (HG _).mono ?_
    rintro e w1 ⟨rfl, hb1⟩
    have hbX : Below (w.alloc (.cells #[.string s, .int .i64 u] 45)).heap.size (w.alloc (.cells #[.string s, .int .i64 u] 45)) w1 := by
      refine Below.trans ?_ (hb1.mono ?_)
      · go_grown
      · go_size
    have a0 : w1.cell? ⟨w.heap.size, 0, none⟩ = some (.string s) := (hbX.cell (p := ⟨w.heap.size, 0, none⟩) (by simp)).trans (by simp)
    have a1 : w1.cell? ⟨w.heap.size, 1, none⟩ = some (.int .i64 u) := (hbX.cell (p := ⟨w.heap.size, 1, none⟩) (by simp)).trans (by simp)
    clear hbX
    have hbY : Below ((w.alloc (.cells #[.string s, .int .i64 u] 45)).alloc (.cells #[.string ⟨#[]⟩, .int .i64 0] 45)).heap.size ((w.alloc (.cells #[.string s, .int .i64 u] 45)).alloc (.cells #[.string ⟨#[]⟩, .int .i64 0] 45)) w1 := by
      refine Below.trans ?_ (hb1.mono ?_)
      · go_grown
      · go_size
    have a2 : w1.cell? ⟨w.heap.size + 1, 0, none⟩ = some (.string ⟨#[]⟩) := (hbY.cell (p := ⟨w.heap.size + 1, 0, none⟩) (by simp)).trans (by simp)
    have a3 : w1.cell? ⟨w.heap.size + 1, 1, none⟩ = some (.int .i64 0) := (hbY.cell (p := ⟨w.heap.size + 1, 1, none⟩) (by simp)).trans (by simp)
    clear hbY
    have a4 : w1.cell? ⟨w.heap.size + 1 + 1, 0, none⟩ = some (.int .i64 0) := (hb1.cell (p := ⟨w.heap.size + 1 + 1, 0, none⟩) (by simp)).trans (allocCell _ _ _ _ _ _ (by simp) (by rfl))
    have a5 : w1.cell? ⟨w.heap.size + 1 + 1, 1, none⟩ = some (.slice none 0 0) := (hb1.cell (p := ⟨w.heap.size + 1 + 1, 1, none⟩) (by simp)).trans (allocCell _ _ _ _ _ _ (by simp) (by rfl))
    have a6 : w1.cell? ⟨w.heap.size + 1 + 1, 2, none⟩ = some (.slice none 0 0) := (hb1.cell (p := ⟨w.heap.size + 1 + 1, 2, none⟩) (by simp)).trans (allocCell _ _ _ _ _ _ (by simp) (by rfl))
    obtain ⟨hc1, hf1⟩ := bcell hb1
    have hz1 := hb1.size
    simp only [World.size_alloc] at hz1
    have k1 : Below w.heap.size w w1 := by
      refine Below.trans ?_ (hb1.mono ?_)
      · go_grown
      · go_size
    clear hb1
    have hz1_0 : w.heap.size < w1.heap.size := by omega
    have hz1_1 : w.heap.size + 1 < w1.heap.size := by omega
    have hz1_2 : w.heap.size + 1 + 1 < w1.heap.size := by omega
    clear hz1
    clear HG
    go_wp2
    (try simp only [Exit.inBlock, Exit.then])
    refine bodyPost_ret (by simp [a2, a3, a4, a5, a6, results, Tryd.results32, go_sem]; try rfl) rfl ?_
    refine ⟨rfl, ?_⟩
    go_grown
end Go.Proofs.YtemkkofjakpjiaaDoor
