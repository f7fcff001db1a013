/- Contracts of the model's seals: TopFrom, GoodSigner, LeftIn, SealText, CheckSeal. Condition: lists lie in memory. -/
import Derived.Test.YtemkkofjakpjiaaDoorSpecWay
import Derived.Test.YtemkkofjakpjiaaDoorFrom2
import Derived.Deep.RegionHeld3
import Derived.Deep.DeepCutAuto
import Derived.Deep.DrawnRows
namespace Go.Proofs.YtemkkofjakpjiaaDoor
open Go.ChangeShapes Go.WideShapes Go.ChangeAt Go.RowKit Go.Deep
set_option linter.unusedVariables false
attribute [local go_sem ↓] Go.wp_at_zero Go.wp_at_succ

/-- A way: three texts of four bytes. -/
def Good3 (ss : List ByteArray) : Prop := ss.length = 3 ∧ ∀ i, i < ss.length → (ss.getD i ByteArray.empty).size = 4
def good3B (ss : List ByteArray) : Bool := decide (ss.length = 3) && ss.all fun s => decide (s.size = 4)
theorem good3B_true {ss : List ByteArray} : good3B ss = true ↔ Good3 ss := by
  simp only [good3B, Good3, Bool.and_eq_true, decide_eq_true_eq, List.all_eq_true]
  constructor
  · rintro ⟨h, h2⟩
    exact ⟨h, fun i hi => h2 _ (getD_mem ss i hi)⟩
  · rintro ⟨h, h2⟩
    refine ⟨h, fun s hs => ?_⟩
    obtain ⟨i, hi, he⟩ := List.getElem_of_mem hs
    have := h2 i hi
    simpa [List.getD, hi, he] using this
theorem good3B_false {ss : List ByteArray} (h : ¬ Good3 ss) : good3B ss = false := by
  cases e : good3B ss
  · rfl
  · exact absurd (good3B_true.1 e) h

set_option maxHeartbeats 1600000 in
theorem specFour (v : Value) (ss : List ByteArray) (w : World) (h : StrsAt w v ss) (hlen : ss.length ≤ 1048576) :
    Calls Tryd.prog 101 #[v, .int .i64 3] w fun e w' => e = .returned (.bool (good3B ss)) ∧ Below w.heap.size w w' := by
  rcases h with ⟨a0, c0, rfl, rfl⟩ | ⟨b, off, cap, rfl, hb, hcell⟩
  · go_enter Tryd.func101, Tryd.ntmps101
    go_wp2
    go_loop [6, 9] (fun x i => i = .int .i64 0) (fun _ _ => 0)
    case atStart => rfl
    case round =>
      subst hrel
      go_wp2
      go_returns
      exact ⟨rfl, by go_grown⟩
  · have HC : Hid (∀ i, i < ss.length → w.cell? ⟨b, off + i, none⟩ = some (.string (ss.getD i ByteArray.empty))) := hcell
    have HE : Hid ((∀ i, i < ss.length → (ss.getD i ByteArray.empty).size = 4) → good3B ss = ((ss.length : Int) == 3)) := by
      intro h
      by_cases e : ss.length = 3
      · have e2 : (ss.length : Int) = 3 := by omega
        rw [good3B_true.2 ⟨e, h⟩, e2]; rfl
      · have e2 : ((ss.length : Int) == 3) = false := by simp; omega
        rw [good3B_false (fun g => e g.1), e2]
    have HN2 : Hid (∀ i, i < ss.length → (ss.getD i ByteArray.empty).size ≠ 4 → good3B ss = false) := fun i hi h => good3B_false (fun g => h (g.2 i hi))
    clear hcell
    generalize good3B ss = ok at *
    go_enter Tryd.func101, Tryd.ntmps101
    go_wp2
    go_loopw [6, 9] (fun x i wr => ∃ k : Nat, k ≤ ss.length ∧ i = .int .i64 k ∧ (∀ j, j < k → (ss.getD j ByteArray.empty).size = 4) ∧ Below w.heap.size w wr) (fun _ i _ => ss.length - (intOf i).toNat)
    case atStart => exact ⟨0, Nat.zero_le _, rfl, fun j hj => by omega, by go_grown⟩
    case round =>
      obtain ⟨k, hk, rfl, hall, kb⟩ := hrel
      have HA : Hid (∀ j, j < k → (ss.getD j ByteArray.empty).size = 4) := hall
      clear hall
      by_cases hlt : k < ss.length
      · have hc : wr.cell? ⟨b, off + k, none⟩ = some (.string (ss.getD k ByteArray.empty)) := (kb.cell (p := ⟨b, off + k, none⟩) hb).trans (HC.out k hlt)
        have HNk : Hid ((ss.getD k ByteArray.empty).size ≠ 4 → ok = false) := HN2.out k hlt
        have HAk : Hid ((ss.getD k ByteArray.empty).size = 4 → ∀ j, j < k + 1 → (ss.getD j ByteArray.empty).size = 4) := by
          intro h j hj
          by_cases e : j = k
          · rw [e]; exact h
          · exact HA.out j (by omega)
        generalize ss.getD k ByteArray.empty = t at *
        by_cases ht : t.size = 4
        · have hti : (t.size : Int) = 4 := by omega
          have HAl : Hid (∀ j, j < k + 1 → (ss.getD j ByteArray.empty).size = 4) := HAk.out ht
          go_wp2
          exact ⟨⟨k + 1, by omega, by go_num, HAl.out, by go_grown⟩, by simp [intOf]; omega⟩
        · have hti : ¬ (t.size : Int) = 4 := by omega
          have HS : Hid (ok = false) := HNk.out ht
          go_wp2
          go_returns
          exact ⟨by rw [HS.out]; rfl, by go_grown⟩
      · have hke : k = ss.length := by omega
        subst hke
        have HS : Hid (ok = ((ss.length : Int) == 3)) := HE.out (fun i hi => HA.out i hi)
        go_wp2
        go_returns
        exact ⟨by rw [HS.out]; rfl, by go_grown⟩
theorem good3_row {w : World} {v : Value} {ss : List ByteArray} (h : StrsAt w v ss) (hg : Good3 ss) :
    ∃ b off cap, v = .slice (some ⟨b, off, none⟩) 3 cap ∧ b < w.heap.size ∧ (∀ i, i < 3 → w.cell? ⟨b, off + i, none⟩ = some (.string (ss.getD i ByteArray.empty))) ∧ ∀ i, i < 3 → (ss.getD i ByteArray.empty).size = 4 := by
  rcases h with ⟨a0, c0, rfl, rfl⟩ | ⟨b, off, cap, rfl, hb, hcell⟩
  · exact absurd hg.1 (by simp)
  · obtain ⟨h1, h2⟩ := hg
    rw [h1] at hcell h2
    exact ⟨b, off, cap, by rw [h1], hb, hcell, h2⟩

/-- A top is told from a leaf. -/
def TopYes (n : Int) (leaf : ByteArray) (way : List ByteArray) : Prop := (0 ≤ n ∧ n ≤ 7) ∧ leaf.size = 4 ∧ Good3 way
set_option maxHeartbeats 1600000 in
theorem specTopFromYes (N : Nat) (leaf : ByteArray) (v : Value) (way : List ByteArray) (w : World) (h : StrsAt w v way) (hlen : way.length ≤ 1048576) (hy : TopYes N leaf way) :
    Calls Tryd.prog 48 #[.int .i64 N, .string leaf, v] w fun e w' => e = .returned (.tuple #[.string (topFromB N leaf way), .bool true]) ∧ Below w.heap.size w w' := by
  have HS := fun W hW => specFour v way W hW hlen
  rw [good3B_true.2 hy.2.2] at HS
  have hl : (leaf.size : Int) = 4 := by have := hy.2.1; omega
  have hN : N < 8 := by have := hy.1; omega
  go_enter Tryd.func48, Tryd.ntmps48
  go_wp2_with fail
  refine (specNoYes N _ (by omega) (by omega)).mono ?_
  rintro e w0 ⟨rfl, rfl⟩
  go_wp2_with fail
  refine (HS _ h).mono ?_
  rintro e w1 ⟨rfl, hb1⟩
  have hl1 := hb1.size
  obtain ⟨b, off, cap, rfl, hb, hcell, hss⟩ := good3_row (h.below hb1) hy.2.2
  have HTo := specTop N leaf way b off cap w1 hN hy.2.1 hy.2.2.1 hb hcell hss
  clear HS h hcell hss
  go_wp2_with fail
  refine HTo.mono ?_
  rintro e w2 ⟨rfl, hb2⟩
  go_wp2
  go_returns
  exact ⟨rfl, hb1.trans (hb2.mono hl1)⟩
set_option maxHeartbeats 1600000 in
theorem specTopFromNo (n : Int) (leaf : ByteArray) (v : Value) (way : List ByteArray) (w : World) (hm : leaf.size ≤ maxLen) (h : StrsAt w v way) (hlen : way.length ≤ 1048576) (hn : ¬ TopYes n leaf way) :
    Calls Tryd.prog 48 #[.int .i64 n, .string leaf, v] w fun e w' => e = .returned (.tuple #[.string ByteArray.empty, .bool false]) ∧ Below w.heap.size w w' := by
  unfold maxLen at hm
  by_cases h0 : 0 ≤ n ∧ n ≤ 7
  · by_cases h1 : leaf.size = 4
    · have hl : (leaf.size : Int) = 4 := by omega
      have HS := fun W hW => specFour v way W hW hlen
      rw [good3B_false (fun g => hn ⟨h0, h1, g⟩)] at HS
      go_enter Tryd.func48, Tryd.ntmps48
      go_wp2_with fail
      refine (specNoYes n _ h0.1 h0.2).mono ?_
      rintro e w0 ⟨rfl, rfl⟩
      go_wp2_with fail
      refine (HS _ h).mono ?_
      rintro e w1 ⟨rfl, hb1⟩
      clear HS
      go_wp2
      go_returns
      exact ⟨rfl, hb1⟩
    · have hl : ¬ (leaf.size : Int) = 4 := by omega
      clear h
      go_enter Tryd.func48, Tryd.ntmps48
      go_wp2_with fail
      refine (specNoYes n _ h0.1 h0.2).mono ?_
      rintro e w0 ⟨rfl, rfl⟩
      go_wp2
      go_returns
      exact ⟨rfl, by go_grown⟩
  · clear h
    go_enter Tryd.func48, Tryd.ntmps48
    go_wp2_with fail
    refine (specNoNo n _ h0).mono ?_
    rintro e w0 ⟨rfl, rfl⟩
    go_wp2
    go_returns
    exact ⟨rfl, by go_grown⟩

/-- A good signer. -/
def SignerOk (s : ByteArray) (u : Int) : Prop := (1 ≤ s.size ∧ s.size ≤ 8) ∧ 0 ≤ u ∧ u ≤ 8
def signerB (s : ByteArray) (u : Int) : Bool := decide ((1 ≤ s.size ∧ s.size ≤ 8) ∧ 0 ≤ u ∧ u ≤ 8)
theorem signerB_true {s : ByteArray} {u : Int} (h : SignerOk s u) : signerB s u = true := decide_eq_true h
theorem signerB_false {s : ByteArray} {u : Int} (h : ¬ SignerOk s u) : signerB s u = false := decide_eq_false h
set_option maxHeartbeats 1600000 in
theorem specSigner (s : ByteArray) (u : Int) (w : World) (hm : s.size ≤ maxLen) :
    Calls Tryd.prog 87 #[.agg #[.string s, .int .i64 u]] w fun e w' => e = .returned (.bool (signerB s u)) ∧ Below w.heap.size w w' := by
  by_cases h1 : 1 ≤ s.size ∧ s.size ≤ 8
  · by_cases h2 : 0 ≤ u ∧ u ≤ 8
    · have HD : Hid (signerB s u = true) := signerB_true ⟨h1, h2⟩
      go_enter Tryd.func87, Tryd.ntmps87
      go_wp2_with fail
      refine (specTSeedYes s _ h1.1 h1.2).mono ?_
      rintro e w0 ⟨rfl, rfl⟩
      go_wp2_with fail
      refine (specInYes _ _ _ _ h2.1 h2.2).mono ?_
      rintro e w1 ⟨rfl, rfl⟩
      go_wp2
      go_returns
      exact ⟨by rw [HD.out]; rfl, by go_grown⟩
    · have HD : Hid (signerB s u = false) := signerB_false (fun g => h2 g.2)
      by_cases h3 : 0 ≤ u
      · have h4 : ¬ u ≤ 8 := by omega
        have h5 : decide (u ≤ 8) = false := by simp; omega
        clear h2
        go_enter Tryd.func87, Tryd.ntmps87
        go_wp2_with fail
        refine (specTSeedYes s _ h1.1 h1.2).mono ?_
        rintro e w0 ⟨rfl, rfl⟩
        go_wp2
        go_returns
        exact ⟨by rw [HD.out]; rfl, by go_grown⟩
      · clear h2
        go_enter Tryd.func87, Tryd.ntmps87
        go_wp2_with fail
        refine (specTSeedYes s _ h1.1 h1.2).mono ?_
        rintro e w0 ⟨rfl, rfl⟩
        go_wp2
        go_returns
        exact ⟨by rw [HD.out]; rfl, by go_grown⟩
  · have HD : Hid (signerB s u = false) := signerB_false (fun g => h1 g.1)
    go_enter Tryd.func87, Tryd.ntmps87
    go_wp2_with fail
    refine (specTSeedNo s _ hm h1).mono ?_
    rintro e w0 ⟨rfl, rfl⟩
    go_wp2
    go_returns
    exact ⟨by rw [HD.out]; rfl, by go_grown⟩
set_option maxHeartbeats 1600000 in
theorem specLeftYes (s : ByteArray) (u : Int) (w : World) (hm : s.size ≤ maxLen) (h : SignerOk s u) :
    Calls Tryd.prog 34 #[.agg #[.string s, .int .i64 u]] w fun e w' => e = .returned (.tuple #[.int .i64 (8 - u), .bool true]) ∧ Below w.heap.size w w' := by
  have HG := fun W => specSigner s u W hm
  rw [signerB_true h] at HG
  have hu := h.2
  clear h
  go_enter Tryd.func34, Tryd.ntmps34
  go_wp2_with fail
  refine (HG _).mono ?_
  rintro e w1 ⟨rfl, hb1⟩
  obtain ⟨hc1, hf1⟩ := bcell hb1
  have hz1 := hb1.size
  try simp only [World.size_drew] at hz1
  try simp only [World.size_setCell] at hz1
  try simp only [World.size_alloc] at hz1
  have hz1_0 : w.heap.size < w1.heap.size := by omega
  clear hz1
  have k1 : Below w.heap.size w w1 := by
    refine Below.trans ?_ (hb1.mono ?_)
    · go_grown
    · go_size
  have hl1 : w.heap.size ≤ w1.heap.size := k1.size
  clear hb1
  clear HG
  go_wp2
  go_returns
  exact ⟨rfl, by go_grown⟩
set_option maxHeartbeats 1600000 in
theorem specLeftNo (s : ByteArray) (u : Int) (w : World) (hm : s.size ≤ maxLen) (h : ¬ SignerOk s u) :
    Calls Tryd.prog 34 #[.agg #[.string s, .int .i64 u]] w fun e w' => e = .returned (.tuple #[.int .i64 0, .bool false]) ∧ Below w.heap.size w w' := by
  have HG := fun W => specSigner s u W hm
  rw [signerB_false h] at HG
  clear h
  go_enter Tryd.func34, Tryd.ntmps34
  go_wp2_with fail
  refine (HG _).mono ?_
  rintro e w1 ⟨rfl, hb1⟩
  obtain ⟨hc1, hf1⟩ := bcell hb1
  have hz1 := hb1.size
  try simp only [World.size_drew] at hz1
  try simp only [World.size_setCell] at hz1
  try simp only [World.size_alloc] at hz1
  have hz1_0 : w.heap.size < w1.heap.size := by omega
  clear hz1
  have k1 : Below w.heap.size w w1 := by
    refine Below.trans ?_ (hb1.mono ?_)
    · go_grown
    · go_size
  have hl1 : w.heap.size ≤ w1.heap.size := k1.size
  clear hb1
  clear HG
  go_wp2
  go_returns
  exact ⟨rfl, by go_grown⟩
end Go.Proofs.YtemkkofjakpjiaaDoor
