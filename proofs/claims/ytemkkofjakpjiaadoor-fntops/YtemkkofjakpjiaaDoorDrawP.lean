/- Contracts of what is drawn for PublicFrom and CheckOnce: a text, and a list of texts. Condition: the bytes lie in memory. -/
import Derived.Test.YtemkkofjakpjiaaDoorDraw2
namespace Go.Proofs.YtemkkofjakpjiaaDoor
open Go.ChangeShapes Go.WideShapes Go.ChangeAt Go.RowKit Go.Deep
set_option linter.unusedVariables false

theorem OwnRow.otherBy {base : Nat} {w w' : World} {g n r : Nat} {f : Nat → Value} (h : OwnRow base w g n f) (hg : w.grownBy w' (some r)) (hne : r ≠ g) : OwnRow base w' g n f :=
  ⟨h.1, Nat.lt_of_lt_of_le h.2.1 hg.size, fun i hi => hg.cell (h.2.2.1 i hi) (fun e => hne (by cases e; rfl)), fun i hi => (World.frozen?_of_block (hg.block g h.2.1 (fun e => hne (by cases e; rfl)))).trans (h.2.2.2 i hi)⟩
theorem OwnRow.setStr {base : Nat} {w : World} {g n k : Nat} {f : Nat → ByteArray} (h : OwnRow base w g n (fun i => .string (f i))) (hk : k < n) (x : ByteArray) : ∃ f' : Nat → ByteArray, OwnRow base (w.setCell ⟨g, k, none⟩ (.string x)) g n (fun i => .string (f' i)) :=
  ⟨fun i => if i = k then x else f i, (h.set hk (.string x)).congr (fun i _ => by by_cases e : i = k <;> simp [e])⟩
theorem OwnRow.strsFn {base : Nat} {w : World} {g : Nat} {f : Nat → ByteArray} (h : OwnRow base w g 11 (fun i => .string (f i))) (cap : Nat) : StrsAt w (.slice (some ⟨g, 0, none⟩) 11 cap) ((List.range 11).map f) :=
  .inr ⟨g, 0, cap, by simp, h.2.1, fun i hi => by
    have hi' : i < 11 := by simpa using hi
    rw [Nat.zero_add, h.2.2.1 i hi', getD_range f _ 11 i hi']⟩
theorem OwnRow.strsTen {base : Nat} {w : World} {g : Nat} {f : Nat → ByteArray} (h : OwnRow base w g 11 (fun i => .string (f i))) (cap : Nat) : StrsAt w (.slice (some ⟨g, 0, none⟩) 10 cap) ((List.range 10).map f) :=
  .inr ⟨g, 0, cap, by simp, h.2.1, fun i hi => by
    have hi' : i < 10 := by simpa using hi
    rw [Nat.zero_add, h.2.2.1 i (by omega), getD_range f _ 10 i hi']⟩
theorem OwnRow.strsTail {base : Nat} {w : World} {g : Nat} {f : Nat → ByteArray} (h : OwnRow base w g 11 (fun i => .string (f i))) (cap : Nat) : StrsAt w (.slice (some ⟨g, 1, none⟩) 10 cap) ((List.range 10).map fun i => f (1 + i)) :=
  .inr ⟨g, 1, cap, by simp, h.2.1, fun i hi => by
    have hi' : i < 10 := by simpa using hi
    rw [h.2.2.1 (1 + i) (by omega), getD_range _ _ 10 i hi']⟩

set_option maxHeartbeats 6400000 in
set_option maxRecDepth 100000 in
theorem drawFrom (v : Value) (n : Nat) (w : World) (h : CodeAt w v n) :
    Calls Tryd.prog 28 #[v] w fun e w' => ∃ (t : ByteArray) (v' : Value) (ss : List ByteArray), e = .returned (.tuple #[.string t, v']) ∧ t.size ≤ 202 ∧ StrsAt w' v' ss ∧ ss.length ≤ 11 ∧ Below w.heap.size w w' := by
  obtain ⟨ad, c, rfl⟩ : ∃ ad c, v = .slice ad n c := by
    obtain ⟨ad, c, e, _⟩ := h
    exact ⟨ad, c, e⟩
  have hbel := (Below.refl w.heap.size w).alloc (Nat.le_refl _) (.cells #[.slice ad n c, .int .i64 0, .int .u64 0] 87)
  have HK := seedIn w.heap.size (.slice ad n c) n 0 _ (cur_new w (.slice ad n c) 87) (h.bytes hbel (Nat.le_refl _)) (by omega)
  have HB0 := hide (h.bytes hbel (Nat.le_refl _))
  have HBE := hide hbel
  clear h hbel
  go_enter Tryd.func28, Tryd.ntmps28
  go_wp2_with fail
  refine HK.mono ?_
  rintro e w1 ⟨s, rfl, hs, hd⟩
  clear HK
  have HD1 := hide hd
  clear hd
  go_wp2_with fail
  refine (messIn w.heap.size (.slice ad n c) n 2 _ (unhide HD1).1 (unhide HD1).2.1 (by omega)).mono ?_
  rintro e w2 ⟨t, rfl, htt, hd2⟩
  have HD2 := hide ((unhide HD1).trans hd2)
  have hg2 : w.heap.size < w2.heap.size := (unhide HD2).1.lt
  clear hd2 HD1
  have hsm : s.size ≤ maxLen := by unfold maxLen; omega
  have htm : t.size ≤ maxLen := by unfold maxLen; omega
  by_cases hyes : (1 ≤ s.size ∧ s.size ≤ 16) ∧ t.size ≤ 200
  · go_wp2_with fail
    refine (specSignYes s t _ hyes.1.1 hyes.1.2 hyes.2).mono ?_
    rintro e w3 ⟨g1, cap1, rfl, ho3, hb3⟩
    have HD3 := hide ((unhide HD2).below hb3)
    have hne : w.heap.size ≠ g1 := by have := ho3.1; omega
    have hge : w.heap.size < g1 := by have := ho3.1; omega
    have HO3 : Hid (∃ f : Nat → ByteArray, OwnRow w2.heap.size w3 g1 11 (fun i => .string (f i))) := ⟨_, ho3⟩
    clear ho3 hb3 HD2 hyes
    go_wp2_with fail
    refine (oneIn w.heap.size (.slice ad n c) n 6 6 _ (unhide HD3).1 (unhide HD3).2.1 (by omega) (by omega) (by omega)).mono ?_
    rintro e w4 ⟨o4, rfl, hd4⟩
    have HD4 := hide ((unhide HD3).trans hd4)
    have HO4 : Hid (∃ f : Nat → ByteArray, OwnRow w2.heap.size w4 g1 11 (fun i => .string (f i))) := by
      obtain ⟨f, hf⟩ := HO3.out
      exact ⟨f, hf.otherBy hd4.2.2 hne⟩
    clear hd4 HD3 HO3
    cases o4
    · go_wp2_with fail
      refine (oneIn w.heap.size (.slice ad n c) n 8 12 _ (unhide HD4).1 (unhide HD4).2.1 (by omega) (by omega) (by omega)).mono ?_
      rintro e w8 ⟨o8, rfl, hd8⟩
      have HD8 := hide ((unhide HD4).trans hd8)
      have HO8 : Hid (∃ f : Nat → ByteArray, OwnRow w2.heap.size w8 g1 11 (fun i => .string (f i))) := by
        obtain ⟨f, hf⟩ := HO4.out
        exact ⟨f, hf.otherBy hd8.2.2 hne⟩
      clear hd8 HD4 HO4
      cases o8
      · go_wp2_with fail
        refine (oneIn w.heap.size (.slice ad n c) n 10 6 _ (unhide HD8).1 (unhide HD8).2.1 (by omega) (by omega) (by omega)).mono ?_
        rintro e w9 ⟨o9, rfl, hd9⟩
        have hd10 := (unhide HD8).trans hd9
        have hbb : Below w.heap.size w w9 := (unhide HBE).trans (gb_below hd10.2.2 (Nat.le_refl _) (by simp))
        have HS9 : Hid (∃ ss, StrsAt w9 (.slice (some ⟨g1, 0, none⟩) 11 cap1) ss ∧ ss.length ≤ 11) := by
          obtain ⟨f, hf⟩ := HO8.out
          have hf9 := hf.otherBy hd9.2.2 hne
          exact ⟨_, hf9.strsFn cap1, by simp⟩
        clear hd9 hd10 HD8 HO8
        have h33 : (⟨#[33]⟩ : ByteArray).size = 1 := rfl
        cases o9
        · go_wp2
          go_returns
          obtain ⟨ss, h1, h2⟩ := HS9.out
          exact ⟨t, _, ss, rfl, by omega, h1, h2, hbb⟩
        · go_wp2
          go_returns
          obtain ⟨ss, h1, h2⟩ := HS9.out
          exact ⟨_, _, ss, rfl, by rw [ByteArray.size_append, h33]; omega, h1, h2, hbb⟩
      · by_cases hcap : cap1 = 1
        · subst hcap
          go_wp2_with fail
          refine (oneIn w.heap.size (.slice ad n c) n 10 6 _ (unhide HD8).1 (unhide HD8).2.1 (by omega) (by omega) (by omega)).mono ?_
          rintro e w9 ⟨o9, rfl, hd9⟩
          have hd10 := (unhide HD8).trans hd9
          have hbb : Below w.heap.size w w9 := (unhide HBE).trans (gb_below hd10.2.2 (Nat.le_refl _) (by simp))
          have HS9 : Hid (∃ ss, StrsAt w9 (.slice (some ⟨g1, 0, none⟩) 10 0) ss ∧ ss.length ≤ 11) := by
            obtain ⟨f, hf⟩ := HO8.out
            have hf9 := hf.otherBy hd9.2.2 hne
            exact ⟨_, hf9.strsTen 0, by simp⟩
          clear hd9 hd10 HD8 HO8
          have h33 : (⟨#[33]⟩ : ByteArray).size = 1 := rfl
          cases o9
          · go_wp2
            go_returns
            obtain ⟨ss, h1, h2⟩ := HS9.out
            exact ⟨t, _, ss, rfl, by omega, h1, h2, hbb⟩
          · go_wp2
            go_returns
            obtain ⟨ss, h1, h2⟩ := HS9.out
            exact ⟨_, _, ss, rfl, by rw [ByteArray.size_append, h33]; omega, h1, h2, hbb⟩
        · go_wp2_with fail
          refine (oneIn w.heap.size (.slice ad n c) n 10 6 _ (unhide HD8).1 (unhide HD8).2.1 (by omega) (by omega) (by omega)).mono ?_
          rintro e w9 ⟨o9, rfl, hd9⟩
          have hd10 := (unhide HD8).trans hd9
          have hbb : Below w.heap.size w w9 := (unhide HBE).trans (gb_below hd10.2.2 (Nat.le_refl _) (by simp))
          have HS9 : Hid (∃ ss, StrsAt w9 (.slice (some ⟨g1, 1, none⟩) 10 (cap1 - 1)) ss ∧ ss.length ≤ 11) := by
            obtain ⟨f, hf⟩ := HO8.out
            have hf9 := hf.otherBy hd9.2.2 hne
            exact ⟨_, hf9.strsTail (cap1 - 1), by simp⟩
          clear hd9 hd10 HD8 HO8
          have h33 : (⟨#[33]⟩ : ByteArray).size = 1 := rfl
          cases o9
          · go_wp2
            go_returns
            obtain ⟨ss, h1, h2⟩ := HS9.out
            exact ⟨t, _, ss, rfl, by omega, h1, h2, hbb⟩
          · go_wp2
            go_returns
            obtain ⟨ss, h1, h2⟩ := HS9.out
            exact ⟨_, _, ss, rfl, by rw [ByteArray.size_append, h33]; omega, h1, h2, hbb⟩
    · go_wp2_with fail
      refine (pickIn w.heap.size (.slice ad n c) n 8 11 _ (unhide HD4).1 (unhide HD4).2.1 (by omega) (by omega) (by omega)).mono ?_
      rintro e w5 ⟨x5, rfl, hx0, hx1, hd5⟩
      have HD5 := hide ((unhide HD4).trans hd5)
      have HO5 : Hid (∃ f : Nat → ByteArray, OwnRow w2.heap.size w5 g1 11 (fun i => .string (f i))) := by
        obtain ⟨f, hf⟩ := HO4.out
        exact ⟨f, hf.otherBy hd5.2.2 hne⟩
      clear hd5 HD4 HO4
      obtain ⟨K, rfl⟩ := Int.eq_ofNat_of_zero_le hx0
      have hK : K < 11 := by omega
      obtain ⟨f5, hf5⟩ := HO5.out
      have hc5 := hf5.2.2.1 K hK
      have hz5 := hf5.2.2.2 K hK
      have HD6 := hide ((unhide HD5).set HB0.out ⟨g1, K, none⟩ (fun e => hne e.symm) (by simp; omega) (.string ⟨#[97, 98, 99, 100]⟩))
      have HO6 : Hid (∃ f : Nat → ByteArray, OwnRow w2.heap.size (w5.setCell ⟨g1, K, none⟩ (.string ⟨#[97, 98, 99, 100]⟩)) g1 11 (fun i => .string (f i))) := hf5.setStr hK _
      clear HD5 HO5 hf5
      go_wp2_with fail
      refine (oneIn w.heap.size (.slice ad n c) n 10 12 _ (unhide HD6).1 (unhide HD6).2.1 (by omega) (by omega) (by omega)).mono ?_
      rintro e w8 ⟨o8, rfl, hd8⟩
      have HD8 := hide ((unhide HD6).trans hd8)
      have HO8 : Hid (∃ f : Nat → ByteArray, OwnRow w2.heap.size w8 g1 11 (fun i => .string (f i))) := by
        obtain ⟨f, hf⟩ := HO6.out
        exact ⟨f, hf.otherBy hd8.2.2 hne⟩
      clear hd8 HD6 HO6
      cases o8
      · go_wp2_with fail
        refine (oneIn w.heap.size (.slice ad n c) n 12 6 _ (unhide HD8).1 (unhide HD8).2.1 (by omega) (by omega) (by omega)).mono ?_
        rintro e w9 ⟨o9, rfl, hd9⟩
        have hd10 := (unhide HD8).trans hd9
        have hbb : Below w.heap.size w w9 := (unhide HBE).trans (gb_below hd10.2.2 (Nat.le_refl _) (by simp))
        have HS9 : Hid (∃ ss, StrsAt w9 (.slice (some ⟨g1, 0, none⟩) 11 cap1) ss ∧ ss.length ≤ 11) := by
          obtain ⟨f, hf⟩ := HO8.out
          have hf9 := hf.otherBy hd9.2.2 hne
          exact ⟨_, hf9.strsFn cap1, by simp⟩
        clear hd9 hd10 HD8 HO8
        have h33 : (⟨#[33]⟩ : ByteArray).size = 1 := rfl
        cases o9
        · go_wp2
          go_returns
          obtain ⟨ss, h1, h2⟩ := HS9.out
          exact ⟨t, _, ss, rfl, by omega, h1, h2, hbb⟩
        · go_wp2
          go_returns
          obtain ⟨ss, h1, h2⟩ := HS9.out
          exact ⟨_, _, ss, rfl, by rw [ByteArray.size_append, h33]; omega, h1, h2, hbb⟩
      · by_cases hcap : cap1 = 1
        · subst hcap
          go_wp2_with fail
          refine (oneIn w.heap.size (.slice ad n c) n 12 6 _ (unhide HD8).1 (unhide HD8).2.1 (by omega) (by omega) (by omega)).mono ?_
          rintro e w9 ⟨o9, rfl, hd9⟩
          have hd10 := (unhide HD8).trans hd9
          have hbb : Below w.heap.size w w9 := (unhide HBE).trans (gb_below hd10.2.2 (Nat.le_refl _) (by simp))
          have HS9 : Hid (∃ ss, StrsAt w9 (.slice (some ⟨g1, 0, none⟩) 10 0) ss ∧ ss.length ≤ 11) := by
            obtain ⟨f, hf⟩ := HO8.out
            have hf9 := hf.otherBy hd9.2.2 hne
            exact ⟨_, hf9.strsTen 0, by simp⟩
          clear hd9 hd10 HD8 HO8
          have h33 : (⟨#[33]⟩ : ByteArray).size = 1 := rfl
          cases o9
          · go_wp2
            go_returns
            obtain ⟨ss, h1, h2⟩ := HS9.out
            exact ⟨t, _, ss, rfl, by omega, h1, h2, hbb⟩
          · go_wp2
            go_returns
            obtain ⟨ss, h1, h2⟩ := HS9.out
            exact ⟨_, _, ss, rfl, by rw [ByteArray.size_append, h33]; omega, h1, h2, hbb⟩
        · go_wp2_with fail
          refine (oneIn w.heap.size (.slice ad n c) n 12 6 _ (unhide HD8).1 (unhide HD8).2.1 (by omega) (by omega) (by omega)).mono ?_
          rintro e w9 ⟨o9, rfl, hd9⟩
          have hd10 := (unhide HD8).trans hd9
          have hbb : Below w.heap.size w w9 := (unhide HBE).trans (gb_below hd10.2.2 (Nat.le_refl _) (by simp))
          have HS9 : Hid (∃ ss, StrsAt w9 (.slice (some ⟨g1, 1, none⟩) 10 (cap1 - 1)) ss ∧ ss.length ≤ 11) := by
            obtain ⟨f, hf⟩ := HO8.out
            have hf9 := hf.otherBy hd9.2.2 hne
            exact ⟨_, hf9.strsTail (cap1 - 1), by simp⟩
          clear hd9 hd10 HD8 HO8
          have h33 : (⟨#[33]⟩ : ByteArray).size = 1 := rfl
          cases o9
          · go_wp2
            go_returns
            obtain ⟨ss, h1, h2⟩ := HS9.out
            exact ⟨t, _, ss, rfl, by omega, h1, h2, hbb⟩
          · go_wp2
            go_returns
            obtain ⟨ss, h1, h2⟩ := HS9.out
            exact ⟨_, _, ss, rfl, by rw [ByteArray.size_append, h33]; omega, h1, h2, hbb⟩
  · have hn : ¬ ((1 ≤ s.size ∧ s.size ≤ 16) ∧ t.size ≤ 200) := hyes
    go_wp2_with fail
    refine (specSignNo s t _ hsm htm hn).mono ?_
    rintro e w3 ⟨rfl, hb3⟩
    have HD3 := hide ((unhide HD2).below hb3)
    clear hb3 HD2
    go_wp2_with fail
    refine (oneIn w.heap.size (.slice ad n c) n 6 6 _ (unhide HD3).1 (unhide HD3).2.1 (by omega) (by omega) (by omega)).mono ?_
    rintro e w9 ⟨o9, rfl, hd9⟩
    have hd10 := (unhide HD3).trans hd9
    have hbb : Below w.heap.size w w9 := (unhide HBE).trans (gb_below hd10.2.2 (Nat.le_refl _) (by simp))
    clear hd9 hd10 HD3
    have h33 : (⟨#[33]⟩ : ByteArray).size = 1 := rfl
    cases o9
    · go_wp2
      go_returns
      exact ⟨t, _, [], rfl, by omega, .inl ⟨_, _, rfl, rfl⟩, by simp, hbb⟩
    · go_wp2
      go_returns
      exact ⟨_, _, [], rfl, by rw [ByteArray.size_append, h33]; omega, .inl ⟨_, _, rfl, rfl⟩, by simp, hbb⟩

set_option maxHeartbeats 1600000 in
theorem drawCheck (v : Value) (n : Nat) (w : World) (h : CodeAt w v n) :
    Calls Tryd.prog 26 #[v] w fun e w' => ∃ (p t : ByteArray) (v' : Value) (ss : List ByteArray), e = .returned (.tuple #[.string p, .string t, v']) ∧ p.size ≤ 4 ∧ t.size ≤ 202 ∧ StrsAt w' v' ss ∧ ss.length ≤ 11 ∧ Below w.heap.size w w' := by
  obtain ⟨ad, c, rfl⟩ : ∃ ad c, v = .slice ad n c := by
    obtain ⟨ad, c, e, _⟩ := h
    exact ⟨ad, c, e⟩
  have hbel := (Below.refl w.heap.size w).alloc (Nat.le_refl _) (.cells #[.slice ad n c, .int .i64 0, .int .u64 0] 87)
  have HK := seedIn w.heap.size (.slice ad n c) n 0 _ (cur_new w (.slice ad n c) 87) (h.bytes hbel (Nat.le_refl _)) (by omega)
  have HC := hide h
  have HBE := hide hbel
  clear h hbel
  go_enter Tryd.func26, Tryd.ntmps26
  go_wp2_with fail
  refine HK.mono ?_
  rintro e w1 ⟨s, rfl, hs, hd⟩
  clear HK
  have k1 : Below w.heap.size w w1 := (unhide HBE).trans (gb_below hd.2.2 (Nat.le_refl _) (by simp))
  clear hd HBE
  have hsm : s.size ≤ maxLen := by unfold maxLen; omega
  have HP : ∀ W, ∃ (p : ByteArray) (o : Bool), p.size ≤ 4 ∧ Calls Tryd.prog 18 #[.string s] W fun e w' => e = .returned (.tuple #[.string p, .bool o]) ∧ Below W.heap.size W w' := fun W => by
    by_cases hy : 1 ≤ s.size ∧ s.size ≤ 16
    · exact ⟨pubB s, true, by unfold pubB; rw [digestB_size]; omega, specPubYes s W hy.1 hy.2⟩
    · exact ⟨ByteArray.empty, false, by decide, specPubNo s W hsm hy⟩
  obtain ⟨p, o, hp, HP1⟩ := HP w1
  clear HP
  go_wp2_with fail
  refine HP1.mono ?_
  rintro e w2 ⟨rfl, hb2⟩
  have k2 := k1.trans (hb2.mono k1.size)
  clear hb2 HP1
  go_wp2_with fail
  refine (drawFrom _ n _ ((unhide HC).below k2)).mono ?_
  rintro e w3 ⟨t, v', ss, rfl, htt, hss, hsl, hb3⟩
  have k3 := k2.trans (hb3.mono k2.size)
  have HS := hide hss
  clear hb3 hss
  go_wp2
  go_returns
  exact ⟨p, t, v', ss, rfl, hp, htt, unhide HS, hsl, k3⟩
end Go.Proofs.YtemkkofjakpjiaaDoor
