/- Contracts of the model's tree of keys. No condition but the sizes. -/
import Derived.Test.YtemkkofjakpjiaaDoorTree
import Derived.Test.YtemkkofjakpjiaaDoorPublic
import Derived.Test.YtemkkofjakpjiaaDoorOwn3
import Derived.Deep.AppendLies
namespace Go.Proofs.YtemkkofjakpjiaaDoor
open Go.ChangeShapes Go.WideShapes Go.ChangeAt Go.RowKit Go.Deep
set_option linter.unusedVariables false
attribute [local go_sem ↓] Go.wp_at_zero Go.wp_at_succ

theorem specOf (s : ByteArray) (no : Nat) (w : World) (hs : s.size ≤ 8) (hn : no ≤ 255) :
    Calls Tryd.prog 88 #[.string s, .int .i64 no] w fun e w' => e = .returned (.string (leafSeed s no)) ∧ Below w.heap.size w w' := by
  have hcv := mconv1
  have hs1 := size1 (no : Int)
  have hi1 : (no : Int) ≤ 255 := by omega
  go_enter Tryd.func88, Tryd.ntmps88
  go_wp2
  go_returns
  exact ⟨rfl, by go_grown⟩
theorem specPair (a b : ByteArray) (w : World) (ha : a.size = 4) (hb : b.size = 4) :
    Calls Tryd.prog 120 #[.string a, .string b] w fun e w' => e = .returned (.string (pairB a b)) ∧ Below w.heap.size w w' := by
  have hz : (a ++ b).size ≤ 600 := by rw [ByteArray.size_append]; omega
  go_enter Tryd.func120, Tryd.ntmps120
  go_wp2_with fail
  refine (specL1Digest 116 (a ++ b) _ (by omega) (by omega) hz).mono ?_
  rintro e w1 ⟨rfl, hb1⟩
  obtain ⟨hc1, hf1⟩ := bcell hb1
  have hz1 := hb1.size
  try simp only [World.size_drew] at hz1
  try simp only [World.size_setCell] at hz1
  try simp only [World.size_alloc] at hz1
  clear hz1
  have k1 : Below w.heap.size w w1 := by
    refine Below.trans ?_ (hb1.mono ?_)
    · go_grown
    · go_size
  have hl1 : w.heap.size ≤ w1.heap.size := k1.size
  clear hb1
  go_wp2
  go_returns
  exact ⟨rfl, by go_grown⟩
theorem specTSeedYes (s : ByteArray) (w : World) (h0 : 1 ≤ s.size) (h1 : s.size ≤ 8) : Calls Tryd.prog 98 #[.string s] w fun e w' => e = .returned (.bool true) ∧ w' = w := by
  have h2 : (1 : Int) ≤ (s.size : Int) := by omega
  have h3 : (s.size : Int) ≤ 8 := by omega
  go_enter Tryd.func98, Tryd.ntmps98
  go_wp2_with fail
  refine (specInYes _ _ _ _ h2 h3).mono ?_
  rintro e w0 ⟨rfl, rfl⟩
  go_wp2
  go_returns
  exact ⟨rfl, rfl⟩
theorem specTSeedNo (s : ByteArray) (w : World) (hm : s.size ≤ maxLen) (h : ¬ (1 ≤ s.size ∧ s.size ≤ 8)) : Calls Tryd.prog 98 #[.string s] w fun e w' => e = .returned (.bool false) ∧ w' = w := by
  unfold maxLen at hm
  by_cases h0 : 1 ≤ s.size
  · have h2 : (1 : Int) ≤ (s.size : Int) := by omega
    have h3 : ¬ (s.size : Int) ≤ 8 := by omega
    clear h
    go_enter Tryd.func98, Tryd.ntmps98
    go_wp2
    go_returns
    exact ⟨rfl, rfl⟩
  · have h2 : s.size = 0 := by omega
    have h3 : (s.size : Int) = 0 := by omega
    clear h
    go_enter Tryd.func98, Tryd.ntmps98
    go_wp2
    go_returns
    exact ⟨rfl, rfl⟩
theorem specNoYes (n : Int) (w : World) (h0 : 0 ≤ n) (h1 : n ≤ 7) : Calls Tryd.prog 99 #[.int .i64 n] w fun e w' => e = .returned (.bool true) ∧ w' = w := by
  go_enter Tryd.func99, Tryd.ntmps99
  go_wp2_with fail
  refine (specInYes _ _ _ _ h0 h1).mono ?_
  rintro e w0 ⟨rfl, rfl⟩
  go_wp2
  go_returns
  exact ⟨rfl, rfl⟩
theorem specNoNo (n : Int) (w : World) (h : ¬ (0 ≤ n ∧ n ≤ 7)) : Calls Tryd.prog 99 #[.int .i64 n] w fun e w' => e = .returned (.bool false) ∧ w' = w := by
  by_cases h0 : 0 ≤ n
  · have h3 : ¬ n ≤ 7 := by omega
    clear h
    go_enter Tryd.func99, Tryd.ntmps99
    go_wp2
    go_returns
    exact ⟨rfl, rfl⟩
  · clear h
    go_enter Tryd.func99, Tryd.ntmps99
    go_wp2
    go_returns
    exact ⟨rfl, rfl⟩
set_option maxHeartbeats 1600000 in
theorem specLeafYes (s : ByteArray) (no : Nat) (w : World) (h0 : 1 ≤ s.size) (h1 : s.size ≤ 8) (hn : no < 8) :
    Calls Tryd.prog 45 #[.string s, .int .i64 no] w fun e w' => e = .returned (.tuple #[.string (leafB s no), .bool true]) ∧ Below w.heap.size w w' := by
  have hz := leafSeed_size s no
  go_enter Tryd.func45, Tryd.ntmps45
  go_wp2_with fail
  refine (specTSeedYes s _ h0 h1).mono ?_
  rintro e w0 ⟨rfl, rfl⟩
  go_wp2_with fail
  refine (specNoYes no _ (by omega) (by omega)).mono ?_
  rintro e w1 ⟨rfl, rfl⟩
  go_wp2_with fail
  refine (specOf s no _ h1 (by omega)).mono ?_
  rintro e w2 ⟨rfl, hb2⟩
  have hl2 := hb2.size
  go_wp2_with fail
  refine (specL2Public (leafSeed s no) _ (by omega) (by omega)).mono ?_
  rintro e w3 ⟨rfl, hb3⟩
  go_wp2
  go_returns
  exact ⟨rfl, hb2.trans (hb3.mono hl2)⟩
set_option maxHeartbeats 1600000 in
theorem specLeafNo (s : ByteArray) (n : Int) (w : World) (hm : s.size ≤ maxLen) (h : ¬ ((1 ≤ s.size ∧ s.size ≤ 8) ∧ 0 ≤ n ∧ n ≤ 7)) :
    Calls Tryd.prog 45 #[.string s, .int .i64 n] w fun e w' => e = .returned (.tuple #[.string ByteArray.empty, .bool false]) ∧ Below w.heap.size w w' := by
  by_cases h1 : 1 ≤ s.size ∧ s.size ≤ 8
  · go_enter Tryd.func45, Tryd.ntmps45
    go_wp2_with fail
    refine (specTSeedYes s _ h1.1 h1.2).mono ?_
    rintro e w0 ⟨rfl, rfl⟩
    go_wp2_with fail
    refine (specNoNo n _ (fun g => h ⟨h1, g⟩)).mono ?_
    rintro e w1 ⟨rfl, rfl⟩
    go_wp2
    go_returns
    exact ⟨rfl, by go_grown⟩
  · go_enter Tryd.func45, Tryd.ntmps45
    go_wp2_with fail
    refine (specTSeedNo s _ hm h1).mono ?_
    rintro e w0 ⟨rfl, rfl⟩
    go_wp2
    go_returns
    exact ⟨rfl, by go_grown⟩

/-- The slice value v reads as four or so texts: what the top is made of. -/
theorem stepT_snoc (way : List ByteArray) (k no : Nat) (leaf : ByteArray) (h : k < way.length) : (way.take (k + 1)).foldl stepT (no, leaf) = stepT ((way.take k).foldl stepT (no, leaf)) (way.getD k ByteArray.empty) := by
  rw [take_snocS way k h, List.foldl_append]; rfl
theorem stepT_fst (way : List ByteArray) (p : Nat × ByteArray) (h : p.1 < 8) : (way.foldl stepT p).1 < 8 := by
  induction way generalizing p with
  | nil => exact h
  | cons x l ih => simp only [List.foldl_cons]; exact ih _ (by unfold stepT; simp only []; omega)
theorem stepT_snd (way : List ByteArray) (p : Nat × ByteArray) (h : p.2.size = 4) : (way.foldl stepT p).2.size = 4 := by
  induction way generalizing p with
  | nil => exact h
  | cons x l ih => simp only [List.foldl_cons]; exact ih _ (by unfold stepT; simp only []; split <;> exact pairB_size _ _)
set_option maxHeartbeats 1600000 in
theorem specTop (no : Nat) (leaf : ByteArray) (way : List ByteArray) (b off cap : Nat) (w : World) (hn : no < 8) (hl : leaf.size = 4) (hlen : way.length = 3) (hb : b < w.heap.size)
    (hcell : ∀ i, i < 3 → w.cell? ⟨b, off + i, none⟩ = some (.string (way.getD i ByteArray.empty))) (hw4 : ∀ i, i < 3 → (way.getD i ByteArray.empty).size = 4) :
    Calls Tryd.prog 94 #[.int .i64 no, .string leaf, .slice (some ⟨b, off, none⟩) 3 cap] w fun e w' => e = .returned (.string (topFromB no leaf way)) ∧ Below w.heap.size w w' := by
  have HC : Hid (∀ i, i < 3 → w.cell? ⟨b, off + i, none⟩ = some (.string (way.getD i ByteArray.empty))) := hcell
  have H4 : Hid (∀ i, i < 3 → (way.getD i ByteArray.empty).size = 4) := hw4
  have HL : Hid (way.length = 3) := hlen
  clear hcell hw4 hlen
  go_enter Tryd.func94, Tryd.ntmps94
  go_wp2_with fail
  go_loopw [0, 1, 8, 11] (fun a x y i wr => ∃ k : Nat, k ≤ 3 ∧ i = .int .i64 k ∧ a = .int .i64 ((((way.take k).foldl stepT (no, leaf)).1 : Nat) : Int) ∧ x = .string ((way.take k).foldl stepT (no, leaf)).2 ∧ Below w.heap.size w wr) (fun _ _ _ i _ => 3 - (intOf i).toNat)
  case atStart => exact ⟨0, Nat.zero_le _, rfl, rfl, rfl, by go_grown⟩
  case round =>
    obtain ⟨k, hk, rfl, rfl, rfl, kb⟩ := hrel
    have kl := kb.size
    have hp1 := stepT_fst (way.take k) (no, leaf) hn
    have hp2 := stepT_snd (way.take k) (no, leaf) hl
    by_cases hlt : k < 3
    · have hki : (k : Int) < 3 := by omega
      have HS : Hid ((way.take (k + 1)).foldl stepT (no, leaf) = stepT ((way.take k).foldl stepT (no, leaf)) (way.getD k ByteArray.empty)) := stepT_snoc way k no leaf (by rw [HL.out]; exact hlt)
      have hcc : wr.cell? ⟨b, off + k, none⟩ = some (.string (way.getD k ByteArray.empty)) := (kb.cell (p := ⟨b, off + k, none⟩) hb).trans (HC.out k hlt)
      have h4 := H4.out k hlt
      generalize (way.take k).foldl stepT (no, leaf) = p at *
      obtain ⟨N, x⟩ := p
      simp only [] at hp1 hp2
      generalize way.getD k ByteArray.empty = d at *
      by_cases hev : N % 2 = 0
      · have hei : (N : Int) % 2 = 0 := by omega
        have HE : Hid (stepT (N, x) d = (N / 2, pairB x d)) := by show _ = _; unfold stepT; simp [hev]
        go_wp2_with fail
        refine (specPair x d _ hp2 h4).mono ?_
        rintro e w1 ⟨rfl, hb1⟩
        have k1 := kb.trans (hb1.mono kl)
        clear hb1
        go_wp2
        exact ⟨⟨k + 1, by omega, by go_num, by rw [HS.out, HE.out]; go_num, by rw [HS.out, HE.out], k1⟩, by simp [intOf]; omega⟩
      · have hei : ¬ (N : Int) % 2 = 0 := by omega
        have HE : Hid (stepT (N, x) d = (N / 2, pairB d x)) := by show _ = _; unfold stepT; simp [hev]
        go_wp2_with fail
        refine (specPair d x _ h4 hp2).mono ?_
        rintro e w1 ⟨rfl, hb1⟩
        have k1 := kb.trans (hb1.mono kl)
        clear hb1
        go_wp2
        exact ⟨⟨k + 1, by omega, by go_num, by rw [HS.out, HE.out]; go_num, by rw [HS.out, HE.out], k1⟩, by simp [intOf]; omega⟩
    · have hke : k = 3 := by omega
      subst hke
      have HE : Hid (((way.take 3).foldl stepT (no, leaf)).2 = topFromB no leaf way) := by show _ = _; unfold topFromB; rw [List.take_of_length_le (by rw [HL.out]; omega)]
      go_wp2
      go_returns
      exact ⟨by rw [← HE.out]; rfl, kb⟩
end Go.Proofs.YtemkkofjakpjiaaDoor
