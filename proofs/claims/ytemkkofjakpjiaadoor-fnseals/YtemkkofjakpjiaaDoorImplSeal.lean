/- Contracts of the program's TopFrom, GoodSigner, LeftIn. Condition: the table of weights as it is laid; lists lie in memory. -/
import Derived.Test.YtemkkofjakpjiaaDoorImplTree
import Derived.Test.YtemkkofjakpjiaaDoorSpecCheck
namespace Go.Proofs.YtemkkofjakpjiaaDoor
open Go.ChangeShapes Go.WideShapes Go.ChangeAt Go.RowKit Go.Deep
set_option linter.unusedVariables false
attribute [local go_sem ↓] Go.wp_at_zero Go.wp_at_succ

theorem xorUp : ∀ N, N < 8 → N % 2 = 0 → N < N ^^^ 1 := by decide
theorem xorDown : ∀ N, N < 8 → ¬ N % 2 = 0 → N ^^^ 1 < N := by decide
theorem implFour (v : Value) (ss : List ByteArray) (w : World) (h : StrsAt w v ss) (hlen : ss.length ≤ 1048576) :
    Calls Tryd.prog 78 #[v, .int .i64 3] w fun e w' => e = .returned (.bool (good3B ss)) ∧ Below w.heap.size w w' :=
  implAre v ss 3 w h hlen (by omega) (by omega)

set_option maxHeartbeats 3200000 in
theorem implTopFromYes (N : Nat) (leaf : ByteArray) (v : Value) (way : List ByteArray) (w : World) (h : StrsAt w v way) (hlen : way.length ≤ 1048576) (hy : TopYes N leaf way) (ht : Table w) :
    Calls Tryd.prog 46 #[.int .i64 N, .string leaf, v] w fun e w' => e = .returned (.tuple #[.string (topFromB N leaf way), .bool true]) ∧ Below w.heap.size w w' := by
  have HS := fun W hW => implFour v way W hW hlen
  rw [good3B_true.2 hy.2.2] at HS
  have hl : (leaf.size : Int) = 4 := by have := hy.2.1; omega
  have hl4 := hy.2.1
  have hN : N < 8 := by have := hy.1; omega
  have HL : Hid (way.length = 3) := hy.2.2.1
  have HT : Hid (Table w) := ht
  clear ht
  go_enter Tryd.func46, Tryd.ntmps46
  go_wp2_with fail
  refine (implNoYes N _ (by omega) (by omega)).mono ?_
  rintro e w0 ⟨rfl, hw0⟩
  subst w0
  go_wp2_with fail
  refine (HS _ h).mono ?_
  rintro e w1 ⟨rfl, hb1⟩
  have hl1 := hb1.size
  obtain ⟨b, off, cap, rfl, hb, hcell, hss⟩ := good3_row (h.below hb1) hy.2.2
  have HC : Hid (∀ i, i < 3 → w1.cell? ⟨b, off + i, none⟩ = some (.string (way.getD i ByteArray.empty))) := hcell
  have H4 : Hid (∀ i, i < 3 → (way.getD i ByteArray.empty).size = 4) := hss
  have HB1 : Hid (Below w.heap.size w w1) := hb1
  clear HS h hcell hss hb1
  go_wp2_with fail
  go_loopw [8, 9, 11, 29] (fun x a y i wr => ∃ k : Nat, k ≤ 3 ∧ i = .int .i64 k ∧ a = .int .i64 ((((way.take k).foldl stepT (N, leaf)).1 : Nat) : Int) ∧ x = .string ((way.take k).foldl stepT (N, leaf)).2 ∧ Below w1.heap.size w1 wr) (fun _ _ _ i _ => 3 - (intOf i).toNat)
  case atStart => exact ⟨0, Nat.zero_le _, rfl, rfl, rfl, by go_grown⟩
  case round =>
    obtain ⟨k, hk, rfl, rfl, rfl, kb⟩ := hrel
    have kl := kb.size
    have HTr : Hid (Table wr) := (HT.out.below HB1.out).below kb
    have hp1 := stepT_fst (way.take k) (N, leaf) hN
    have hp2 := stepT_snd (way.take k) (N, leaf) hl4
    by_cases hlt : k < 3
    · have hki : (k : Int) < 3 := by omega
      have HS : Hid ((way.take (k + 1)).foldl stepT (N, leaf) = stepT ((way.take k).foldl stepT (N, leaf)) (way.getD k ByteArray.empty)) := stepT_snoc way k N leaf (by rw [HL.out]; exact hlt)
      have hcc : wr.cell? ⟨b, off + k, none⟩ = some (.string (way.getD k ByteArray.empty)) := (kb.cell (p := ⟨b, off + k, none⟩) hb).trans (HC.out k hlt)
      have h4 := H4.out k hlt
      generalize (way.take k).foldl stepT (N, leaf) = p at *
      obtain ⟨N', x⟩ := p
      simp only [] at hp1 hp2
      generalize way.getD k ByteArray.empty = d at *
      have HO := fun W => implOther N' W hp1
      by_cases hev : N' % 2 = 0
      · have hu := xorUp N' hp1 hev
        generalize N' ^^^ 1 = X at *
        have hui : (N' : Int) < (X : Int) := by omega
        have HE : Hid (stepT (N', x) d = (N' / 2, pairB x d)) := by show _ = _; unfold stepT; simp [hev]
        clear hev
        go_wp2_with fail
        refine (HO _).mono ?_
        rintro e w2 ⟨rfl, hw2⟩
        subst w2
        go_wp2_with fail
        refine (implPair x d _ hp2 h4 HTr.out).mono ?_
        rintro e w3 ⟨rfl, hb3⟩
        have k3 := kb.trans (hb3.mono kl)
        clear hb3
        go_wp2
        exact ⟨⟨k + 1, by omega, by go_num, by rw [HS.out, HE.out]; go_num, by rw [HS.out, HE.out], k3⟩, by simp [intOf]; omega⟩
      · have hu := xorDown N' hp1 hev
        generalize N' ^^^ 1 = X at *
        have hui : ¬ (N' : Int) < (X : Int) := by omega
        have HE : Hid (stepT (N', x) d = (N' / 2, pairB d x)) := by show _ = _; unfold stepT; simp [hev]
        clear hev
        go_wp2_with fail
        refine (HO _).mono ?_
        rintro e w2 ⟨rfl, hw2⟩
        subst w2
        go_wp2_with fail
        refine (implPair d x _ h4 hp2 HTr.out).mono ?_
        rintro e w3 ⟨rfl, hb3⟩
        have k3 := kb.trans (hb3.mono kl)
        clear hb3
        go_wp2
        exact ⟨⟨k + 1, by omega, by go_num, by rw [HS.out, HE.out]; go_num, by rw [HS.out, HE.out], k3⟩, by simp [intOf]; omega⟩
    · have hke : k = 3 := by omega
      subst hke
      have HE : Hid (((way.take 3).foldl stepT (N, leaf)).2 = topFromB N leaf way) := by show _ = _; unfold topFromB; rw [List.take_of_length_le (by rw [HL.out]; omega)]
      go_wp2
      go_returns
      exact ⟨by rw [← HE.out]; rfl, HB1.out.trans (kb.mono hl1)⟩
set_option maxHeartbeats 1600000 in
theorem implTopFromNo (n : Int) (leaf : ByteArray) (v : Value) (way : List ByteArray) (w : World) (hm : leaf.size ≤ maxLen) (h : StrsAt w v way) (hlen : way.length ≤ 1048576) (hn : ¬ TopYes n leaf way) :
    Calls Tryd.prog 46 #[.int .i64 n, .string leaf, v] w fun e w' => e = .returned (.tuple #[.string ByteArray.empty, .bool false]) ∧ Below w.heap.size w w' := by
  unfold maxLen at hm
  by_cases h0 : 0 ≤ n ∧ n ≤ 7
  · by_cases h1 : leaf.size = 4
    · have hl : (leaf.size : Int) = 4 := by omega
      have HS := fun W hW => implFour v way W hW hlen
      rw [good3B_false (fun g => hn ⟨h0, h1, g⟩)] at HS
      go_enter Tryd.func46, Tryd.ntmps46
      go_wp2_with fail
      refine (implNoYes n _ h0.1 h0.2).mono ?_
      rintro e w0 ⟨rfl, rfl⟩
      go_wp2_with fail
      refine (HS _ h).mono ?_
      rintro e w1 ⟨rfl, hb1⟩
      clear HS
      go_wp2
      go_returns
      exact ⟨rfl, hb1⟩
    · have hl : ¬ (leaf.size : Int) = 4 := by omega
      clear h
      go_enter Tryd.func46, Tryd.ntmps46
      go_wp2_with fail
      refine (implNoYes n _ h0.1 h0.2).mono ?_
      rintro e w0 ⟨rfl, rfl⟩
      go_wp2
      go_returns
      exact ⟨rfl, by go_grown⟩
  · clear h
    go_enter Tryd.func46, Tryd.ntmps46
    go_wp2_with fail
    refine (implNoNo n _ h0).mono ?_
    rintro e w0 ⟨rfl, rfl⟩
    go_wp2
    go_returns
    exact ⟨rfl, by go_grown⟩

set_option maxHeartbeats 1600000 in
theorem implSigner (s : ByteArray) (u : Int) (w : World) (hm : s.size ≤ maxLen) :
    Calls Tryd.prog 36 #[.agg #[.string s, .int .i64 u]] w fun e w' => e = .returned (.bool (signerB s u)) ∧ Below w.heap.size w w' := by
  by_cases h1 : 1 ≤ s.size ∧ s.size ≤ 8
  · by_cases h3 : 0 ≤ u
    · by_cases h4 : u ≤ 8
      · have HD : Hid (signerB s u = true) := signerB_true ⟨h1, h3, h4⟩
        go_enter Tryd.func36, Tryd.ntmps36
        go_wp2_with fail
        refine (implTSeedYes s _ h1.1 h1.2).mono ?_
        rintro e w0 ⟨rfl, rfl⟩
        go_wp2
        go_returns
        exact ⟨by rw [HD.out]; rfl, by go_grown⟩
      · have HD : Hid (signerB s u = false) := signerB_false (fun g => h4 g.2.2)
        have h5 : decide (u ≤ 8) = false := by simp; omega
        go_enter Tryd.func36, Tryd.ntmps36
        go_wp2_with fail
        refine (implTSeedYes s _ h1.1 h1.2).mono ?_
        rintro e w0 ⟨rfl, rfl⟩
        go_wp2
        go_returns
        exact ⟨by rw [HD.out]; rfl, by go_grown⟩
    · have HD : Hid (signerB s u = false) := signerB_false (fun g => h3 g.2.1)
      go_enter Tryd.func36, Tryd.ntmps36
      go_wp2_with fail
      refine (implTSeedYes s _ h1.1 h1.2).mono ?_
      rintro e w0 ⟨rfl, rfl⟩
      go_wp2
      go_returns
      exact ⟨by rw [HD.out]; rfl, by go_grown⟩
  · have HD : Hid (signerB s u = false) := signerB_false (fun g => h1 g.1)
    go_enter Tryd.func36, Tryd.ntmps36
    go_wp2_with fail
    refine (implTSeedNo s _ hm h1).mono ?_
    rintro e w0 ⟨rfl, rfl⟩
    go_wp2
    go_returns
    exact ⟨by rw [HD.out]; rfl, by go_grown⟩
set_option maxHeartbeats 1600000 in
theorem implLeftYes (s : ByteArray) (u : Int) (w : World) (hm : s.size ≤ maxLen) (h : SignerOk s u) :
    Calls Tryd.prog 33 #[.agg #[.string s, .int .i64 u]] w fun e w' => e = .returned (.tuple #[.int .i64 (8 - u), .bool true]) ∧ Below w.heap.size w w' := by
  have HG := fun W => implSigner s u W hm
  rw [signerB_true h] at HG
  have hu := h.2
  clear h
  go_enter Tryd.func33, Tryd.ntmps33
  go_wp2_with fail
  refine (HG _).mono ?_
  rintro e w1 ⟨rfl, hb1⟩
  obtain ⟨hc1, hf1⟩ := bcell hb1
  have hz1 := hb1.size
  try simp only [World.size_drew] at hz1
  try simp only [World.size_setCell] at hz1
  try simp only [World.size_alloc] at hz1
  have hz1_0 : w.heap.size < w1.heap.size := by omega
  clear hz1
  have k1 : Below w.heap.size w w1 := by
    refine Below.trans ?_ (hb1.mono ?_)
    · go_grown
    · go_size
  have hl1 : w.heap.size ≤ w1.heap.size := k1.size
  clear hb1
  clear HG
  go_wp2
  go_returns
  exact ⟨rfl, by go_grown⟩
set_option maxHeartbeats 1600000 in
theorem implLeftNo (s : ByteArray) (u : Int) (w : World) (hm : s.size ≤ maxLen) (h : ¬ SignerOk s u) :
    Calls Tryd.prog 33 #[.agg #[.string s, .int .i64 u]] w fun e w' => e = .returned (.tuple #[.int .i64 0, .bool false]) ∧ Below w.heap.size w w' := by
  have HG := fun W => implSigner s u W hm
  rw [signerB_false h] at HG
  clear h
  go_enter Tryd.func33, Tryd.ntmps33
  go_wp2_with fail
  refine (HG _).mono ?_
  rintro e w1 ⟨rfl, hb1⟩
  obtain ⟨hc1, hf1⟩ := bcell hb1
  have hz1 := hb1.size
  try simp only [World.size_drew] at hz1
  try simp only [World.size_setCell] at hz1
  try simp only [World.size_alloc] at hz1
  have hz1_0 : w.heap.size < w1.heap.size := by omega
  clear hz1
  have k1 : Below w.heap.size w w1 := by
    refine Below.trans ?_ (hb1.mono ?_)
    · go_grown
    · go_size
  have hl1 : w.heap.size ≤ w1.heap.size := k1.size
  clear hb1
  clear HG
  go_wp2
  go_returns
  exact ⟨rfl, by go_grown⟩
end Go.Proofs.YtemkkofjakpjiaaDoor
