/- Contracts of the laws' marks on trees: they write into what is the tree's own, and nowhere else. Condition: the tree's rows may be written. -/
import Derived.Test.YtmmccjdkafojgaaLawsF
namespace Go.Proofs.Ytmmccjdkafojgaa
open Go.ChangeShapes Go.WideShapes Go.ChangeAt Go.RowKit Go.Deep
set_option linter.unusedVariables false
attribute [local go_sem ↓] Go.wp_at_zero Go.wp_at_succ

/-- A text stays a text, a number a number, all else as it was. -/
def SameKind (v v' : Value) : Prop := v' = v ∨ (∃ s s', v = .string s ∧ v' = .string s') ∨ (∃ i j, v = .int .i64 i ∧ v' = .int .i64 j)
def KK (w w' : World) : Prop := w.heap.size ≤ w'.heap.size ∧ ∀ g o v, w.cell? ⟨g, o, none⟩ = some v → ∃ v', w'.cell? ⟨g, o, none⟩ = some v' ∧ SameKind v v'
theorem SameKind.trans {a b c : Value} (h : SameKind a b) (g : SameKind b c) : SameKind a c := by
  rcases h with rfl | ⟨s, s', rfl, rfl⟩ | ⟨i, j, rfl, rfl⟩
  · exact g
  · rcases g with rfl | ⟨t, t', h1, rfl⟩ | ⟨i, j, h1, rfl⟩
    · exact .inr (.inl ⟨_, _, rfl, rfl⟩)
    · exact .inr (.inl ⟨_, _, rfl, rfl⟩)
    · cases h1
  · rcases g with rfl | ⟨t, t', h1, rfl⟩ | ⟨i, j, h1, rfl⟩
    · exact .inr (.inr ⟨_, _, rfl, rfl⟩)
    · cases h1
    · exact .inr (.inr ⟨_, _, rfl, rfl⟩)
theorem KK.refl (w : World) : KK w w := ⟨Nat.le_refl _, fun g o v h => ⟨v, h, .inl rfl⟩⟩
theorem KK.trans {a b c : World} (h : KK a b) (g : KK b c) : KK a c := ⟨Nat.le_trans h.1 g.1, fun x o v hv => by
  obtain ⟨v1, h1, h2⟩ := h.2 x o v hv
  obtain ⟨v2, h3, h4⟩ := g.2 x o v1 h1
  exact ⟨v2, h3, h2.trans h4⟩⟩
theorem KK.below {w w' : World} (hb : Below w.heap.size w w') : KK w w' := ⟨hb.size, fun g o v hv => ⟨v, by rw [hb.cell (p := ⟨g, o, none⟩) (World.block_lt_of_cell? w _ hv)]; exact hv, .inl rfl⟩⟩
theorem KK.setS {w : World} {g o : Nat} {s s' : ByteArray} (hc : w.cell? ⟨g, o, none⟩ = some (.string s)) : KK w (w.setCell ⟨g, o, none⟩ (.string s')) := ⟨by simp, fun x y v hv => by
  by_cases e : (⟨g, o, none⟩ : Addr) = ⟨x, y, none⟩
  · cases e
    rw [hc] at hv
    cases hv
    exact ⟨.string s', by simp [*, go_sem], .inr (.inl ⟨_, _, rfl, rfl⟩)⟩
  · exact ⟨v, by rw [World.cell?_setCell_other _ _ _ _ e]; exact hv, .inl rfl⟩⟩
theorem KK.setI {w : World} {g o : Nat} {s s' : Int} (hc : w.cell? ⟨g, o, none⟩ = some (.int .i64 s)) : KK w (w.setCell ⟨g, o, none⟩ (.int .i64 s')) := ⟨by simp, fun x y v hv => by
  by_cases e : (⟨g, o, none⟩ : Addr) = ⟨x, y, none⟩
  · cases e
    rw [hc] at hv
    cases hv
    exact ⟨.int .i64 s', by simp [*, go_sem], .inr (.inr ⟨_, _, rfl, rfl⟩)⟩
  · exact ⟨v, by rw [World.cell?_setCell_other _ _ _ _ e]; exact hv, .inl rfl⟩⟩
/-- The blocks from B on, up to C. -/
def rg (B C : Nat) : List Nat := (List.range C).filter fun k => decide (B ≤ k)
theorem mem_rg {B C k : Nat} : k ∈ rg B C ↔ B ≤ k ∧ k < C := by simp [rg]; omega
theorem off_rg (W : World) {B C b : Nat} (h1 : B ≤ b) (h2 : b < C) (o : Nat) (v : Value) : Off (rg B C) W (W.setCell ⟨b, o, none⟩ v) := (off1 W b o v).mono fun g hg => .inl (by rw [List.mem_singleton] at hg; subst hg; exact mem_rg.2 ⟨h1, h2⟩)
/-- Nothing in those blocks is frozen. -/
def NR (B C : Nat) (w : World) : Prop := ∀ g o, B ≤ g → g < C → w.frozen? ⟨g, o, none⟩ = false
theorem NR.of {B C : Nat} {w : World} (h : NoFz B w) : NR B C w := fun g o h1 _ => h g o h1
theorem NR.set {B C : Nat} {w : World} (h : NR B C w) (a : Addr) (v : Value) : NR B C (w.setCell a v) := fun g o h1 h2 => by
  have h0 := h g o h1 h2
  simpa using h0
theorem NR.below {B C : Nat} {w w1 : World} (h : NR B C w) (hC : C ≤ w.heap.size) (hb : Below w.heap.size w w1) : NR B C w1 := fun g o h1 h2 => by
  rw [hb.frozen (p := ⟨g, o, none⟩) (by show g < _; omega)]; exact h g o h1 h2
/-- A row of texts, of numbers, of pages, in a block from B on. -/
def StrRow (B C : Nat) (w : World) (x : Value) (n : Nat) : Prop := ∃ ao c, x = .slice ao n c ∧ (n = 0 ∨ ∃ b off, ao = some ⟨b, off, none⟩ ∧ b < w.heap.size ∧ (B ≤ b ∧ b < C) ∧ ∀ i, i < n → ∃ s, w.cell? ⟨b, off + i, none⟩ = some (.string s))
def IntRow (B C : Nat) (w : World) (x : Value) (n : Nat) : Prop := ∃ ao c, x = .slice ao n c ∧ (n = 0 ∨ ∃ b off, ao = some ⟨b, off, none⟩ ∧ b < w.heap.size ∧ (B ≤ b ∧ b < C) ∧ ∀ i, i < n → ∃ s, w.cell? ⟨b, off + i, none⟩ = some (.int .i64 s))
def PgRow (B C : Nat) (w : World) (x : Value) (n : Nat) : Prop := ∃ ao c, x = .slice ao n c ∧ (n = 0 ∨ ∃ b off, ao = some ⟨b, off, none⟩ ∧ b < w.heap.size ∧ ∀ i, i < n → ∃ kv vv cv n1 n2 n3,
  w.cell? ⟨b, off + i * 3, none⟩ = some kv ∧ w.cell? ⟨b, off + i * 3 + 1, none⟩ = some vv ∧ w.cell? ⟨b, off + i * 3 + 2, none⟩ = some cv ∧ StrRow B C w kv n1 ∧ StrRow B C w vv n2 ∧ IntRow B C w cv n3 ∧ n1 ≤ 1048576 ∧ n2 ≤ 1048576 ∧ n3 ≤ 1048576)
theorem StrRow.kk {B C : Nat} {w w' : World} {x : Value} {n : Nat} (h : StrRow B C w x n) (k : KK w w') : StrRow B C w' x n := by
  obtain ⟨ao, c, rfl, h⟩ := h
  refine ⟨ao, c, rfl, ?_⟩
  rcases h with h | ⟨b, off, rfl, hb, hB, hc⟩
  · exact .inl h
  · refine .inr ⟨b, off, rfl, Nat.lt_of_lt_of_le hb k.1, hB, fun i hi => ?_⟩
    obtain ⟨s, hs⟩ := hc i hi
    obtain ⟨v', h1, h2⟩ := k.2 _ _ _ hs
    rcases h2 with rfl | ⟨t, t', _, rfl⟩ | ⟨i, j, h3, _⟩
    · exact ⟨s, h1⟩
    · exact ⟨t', h1⟩
    · cases h3
theorem IntRow.kk {B C : Nat} {w w' : World} {x : Value} {n : Nat} (h : IntRow B C w x n) (k : KK w w') : IntRow B C w' x n := by
  obtain ⟨ao, c, rfl, h⟩ := h
  refine ⟨ao, c, rfl, ?_⟩
  rcases h with h | ⟨b, off, rfl, hb, hB, hc⟩
  · exact .inl h
  · refine .inr ⟨b, off, rfl, Nat.lt_of_lt_of_le hb k.1, hB, fun i hi => ?_⟩
    obtain ⟨s, hs⟩ := hc i hi
    obtain ⟨v', h1, h2⟩ := k.2 _ _ _ hs
    rcases h2 with rfl | ⟨t, t', h3, _⟩ | ⟨i, j, _, rfl⟩
    · exact ⟨s, h1⟩
    · cases h3
    · exact ⟨j, h1⟩
theorem slice_kk {w w' : World} {g o n c : Nat} {ao : Option Addr} (h : w.cell? ⟨g, o, none⟩ = some (.slice ao n c)) (k : KK w w') : w'.cell? ⟨g, o, none⟩ = some (.slice ao n c) := by
  obtain ⟨v', h1, h2⟩ := k.2 _ _ _ h
  rcases h2 with rfl | ⟨t, t', h3, _⟩ | ⟨i, j, h3, _⟩
  · exact h1
  · cases h3
  · cases h3
theorem PgRow.kk {B C : Nat} {w w' : World} {x : Value} {n : Nat} (h : PgRow B C w x n) (k : KK w w') : PgRow B C w' x n := by
  obtain ⟨ao, c, rfl, h⟩ := h
  refine ⟨ao, c, rfl, ?_⟩
  rcases h with h | ⟨b, off, rfl, hb, hc⟩
  · exact .inl h
  · refine .inr ⟨b, off, rfl, Nat.lt_of_lt_of_le hb k.1, fun i hi => ?_⟩
    obtain ⟨kv, vv, cv, n1, n2, n3, h1, h2, h3, h4, h5, h6, h7⟩ := hc i hi
    have g4 := h4.kk k
    have g5 := h5.kk k
    have g6 := h6.kk k
    obtain ⟨_, _, rfl, _⟩ := h4
    obtain ⟨_, _, rfl, _⟩ := h5
    obtain ⟨_, _, rfl, _⟩ := h6
    exact ⟨_, _, _, n1, n2, n3, slice_kk h1 k, slice_kk h2 k, slice_kk h3 k, g4, g5, g6, h7⟩
theorem strRow_of {B : Nat} {w : World} {x : Value} {n : Nat} {ss : List ByteArray} (h : RowP (fun g => B ≤ g) w 1 x n (strsV ss)) (hn : n = ss.length) : StrRow B w.heap.size w x n := by
  obtain ⟨⟨h1, ao, c, rfl, h3, h4, h5⟩, h6⟩ := h
  refine ⟨ao, c, rfl, ?_⟩
  rcases Nat.eq_zero_or_pos n with h0 | h0
  · exact .inl h0
  · rcases h5 with h5 | ⟨b, off, rfl, hl, hc⟩
    · rw [h5] at h1; simp at h1; omega
    · rcases h6 b off none n c rfl with h7 | h7
      · omega
      · refine .inr ⟨b, off, rfl, hl, ⟨h7, hl⟩, fun i hi => ⟨ss.getD i ByteArray.empty, hc i _ ?_⟩⟩
        have : i < ss.length := by omega
        simp [strsV, List.getD, this]
theorem intRow_of {B : Nat} {w : World} {x : Value} {n : Nat} {zs : List Int} (h : RowP (fun g => B ≤ g) w 1 x n (intsV zs)) (hn : n = zs.length) : IntRow B w.heap.size w x n := by
  obtain ⟨⟨h1, ao, c, rfl, h3, h4, h5⟩, h6⟩ := h
  refine ⟨ao, c, rfl, ?_⟩
  rcases Nat.eq_zero_or_pos n with h0 | h0
  · exact .inl h0
  · rcases h5 with h5 | ⟨b, off, rfl, hl, hc⟩
    · rw [h5] at h1; simp at h1; omega
    · rcases h6 b off none n c rfl with h7 | h7
      · omega
      · refine .inr ⟨b, off, rfl, hl, ⟨h7, hl⟩, fun i hi => ⟨zs.getD i 0, hc i _ ?_⟩⟩
        have : i < zs.length := by omega
        simp [intsV, List.getD, this]
theorem pgRow_of {B : Nat} {w : World} {x : Value} {ps : List Pg} (h : PgsO B w x ps) (hs : Small ps) : PgRow B w.heap.size w x ps.length := by
  rcases h with ⟨a, c, rfl, rfl⟩ | ⟨b, off, cap, rfl, hb, hB, hc⟩
  · exact ⟨a, c, rfl, .inl rfl⟩
  · refine ⟨_, _, rfl, .inr ⟨b, off, rfl, hb, fun i hi => ?_⟩⟩
    obtain ⟨kv, vv, cv, h1, h2, h3, h4⟩ := hc i hi
    have hsm := hs.2 _ (show ps.getD i default ∈ ps by simp [List.getD, hi])
    exact ⟨kv, vv, cv, _, _, _, h1, h2, h3, strRow_of h4.1 rfl, strRow_of h4.2.1 rfl, intRow_of h4.2.2 rfl, hsm⟩
theorem pow_lt13 {j n K : Nat} (h : j * 10 ^ n ≤ K) (hj : 1 ≤ j) (hK : K < 10000000000000) : n ≤ 12 := by
  rcases Nat.lt_or_ge 12 n with h1 | h1
  · have h2 : 10 ^ 13 ≤ 10 ^ n := Nat.pow_le_pow_right (by omega) h1
    have h9 : (10 : Nat) ^ 13 = 10000000000000 := by decide +kernel
    rw [h9] at h2
    have h3 : 1 * 10 ^ n ≤ j * 10 ^ n := Nat.mul_le_mul_right _ hj
    omega
  · exact h1
theorem div_pow {j n K : Nat} (h : j * 10 ^ n ≤ K) : j / 10 * 10 ^ (n + 1) ≤ K := by
  have h1 : j / 10 * 10 ≤ j := by omega
  have h2 : (j / 10 * 10) * 10 ^ n ≤ j * 10 ^ n := Nat.mul_le_mul_right _ h1
  rw [Nat.pow_succ, Nat.mul_comm (10 ^ n) 10, ← Nat.mul_assoc]
  omega
set_option maxHeartbeats 1600000 in
theorem markTAny (k : Nat) (w : World) (h0 : 1 ≤ k) (h1 : k < 10000000000000) :
    Calls Try.prog 94 #[.int .i64 k] w fun e w' => ∃ s, e = .returned (.string s) ∧ NoFz w.heap.size w' ∧ Below w.heap.size w w' := by
  have hcv := mconv1
  have hs1 := size1
  have hse : (⟨#[]⟩ : ByteArray).size = 0 := rfl
  have hsm : (⟨#[109]⟩ : ByteArray).size = 1 := rfl
  have i0 : ¬ ((k : Int) ≤ 0) := by omega
  have HK : Hid (k < 10000000000000) := h1
  clear h1
  go_enter Try.func94, Try.ntmps94
  go_wp2_with fail
  go_loopw [0, 3] (fun t s wr => ∃ (j : Nat) (S : ByteArray), t = .int .i64 j ∧ s = .string S ∧ j * 10 ^ S.size ≤ k ∧ S.size ≤ 13 ∧ NoFz w.heap.size wr ∧ Below w.heap.size w wr) (fun t _ _ => (intOf t).toNat)
  case atStart => exact ⟨k, ⟨#[]⟩, rfl, rfl, by simp [hse], by simp [hse], nf_refl w, Below.refl _ _⟩
  case round =>
    obtain ⟨j, S, rfl, rfl, hjk, hS, nf, kb⟩ := hrel
    have HN := hid nf
    have HJ := hid hjk
    clear nf hjk
    by_cases hj : j = 0
    · have hj0 : ¬ (0 : Int) < (j : Int) := by omega
      clear hj
      go_wp2
      go_ret
      exact ⟨⟨_, rfl⟩, HN.out, kb⟩
    · have hj0 : (0 : Int) < (j : Int) := by omega
      have h12 := pow_lt13 HJ.out (by omega) HK.out
      have HJ2 := hid (div_pow HJ.out)
      have hjb : j < 10000000000000 := by
        have h5 : j * 1 ≤ j * 10 ^ S.size := Nat.mul_le_mul_left _ (Nat.one_le_pow _ _ (by omega))
        have := HJ.out
        have := HK.out
        omega
      go_wp2_with fail
      refine ⟨⟨j / 10, _, by rw [show ((j / 10 : Nat) : Int) = (j : Int) / 10 by omega], rfl, ?_, ?_, HN.out.alloc _ _, kb.alloc kb.size _⟩, by simp [intOf]; omega⟩
      · rw [ByteArray.size_append, size1, Nat.add_comm 1]; exact HJ2.out
      · rw [ByteArray.size_append, size1]; omega
set_option maxHeartbeats 1600000 in
set_option maxRecDepth 100000 in
theorem markStrA (B C n q : Nat) (x : Value) (w : World) (h : StrRow B C w x n) (hf : NR B C w) (hC : C ≤ w.heap.size) (hq : 1 ≤ q) (hn : ((q + n : Nat) : Int) < 10000000000000) :
    Calls Try.prog 45 #[x, .int .i64 q] w fun e w' => e = .returned (.int .i64 ((q + n : Nat) : Int)) ∧ KK w w' ∧ NR B C w' ∧ Off (rg B C) w w' := by
  have HR := hid h
  obtain ⟨ao, c, rfl, h⟩ := h
  have HF := hid hf
  rcases h with h0 | ⟨b, off, rfl, hb, hbB, hc⟩
  · subst h0
    clear hf
    go_enter Try.func45, Try.ntmps45
    go_wp2
    go_loopw [1, 5] (fun r i wr => i = .int .i64 0 ∧ r = .int .i64 q ∧ wr = w) (fun _ _ _ => 0)
    case atStart => exact ⟨rfl, rfl, rfl⟩
    case round =>
      obtain ⟨rfl, rfl, rfl⟩ := hrel
      go_wp2
      go_ret
      exact ⟨rfl, KK.refl _, HF.out, Off.refl _ _⟩
  · have HC := hid hc
    have HNN : Hid (((q + n : Nat) : Int) < 10000000000000) := hn
    clear hc hf hn
    go_enter Try.func45, Try.ntmps45
    go_wp2
    go_loopw [1, 5] (fun r i wr => ∃ k Q : Nat, k ≤ n ∧ Hid (Q = q + k) ∧ i = .int .i64 k ∧ r = .int .i64 Q ∧ KK w wr ∧ NR B C wr ∧ Off (rg B C) w wr) (fun _ i _ => n - (intOf i).toNat)
    case atStart => exact ⟨0, q, Nat.zero_le _, rfl, rfl, rfl, KK.refl _, HF.out, Off.refl _ _⟩
    case round =>
      obtain ⟨k, Q, hk, hQ, rfl, rfl, hkk, hnf, kb⟩ := hrel
      by_cases hlt : k < n
      · have HKK := hid hkk
        have HNF := hid hnf
        have HKB := hid kb
        have hki : (k : Int) < (n : Int) := by omega
        have hk0 : (0 : Int) ≤ (k : Int) := by omega
        have hQw : IntKind.i64.wrap ((Q : Int) + 1) = (Q : Int) + 1 := by have := HNN.out; have := hQ.out; rw [IntKind.wrap_i64]; omega
        have hkw : IntKind.i64.wrap ((k : Int) + 1) = (k : Int) + 1 := by have := HNN.out; rw [IntKind.wrap_i64]; omega
        have MT := fun W => markTAny Q W (by have := hQ.out; omega) (by have := HNN.out; have := hQ.out; omega)
        clear hkk hnf kb
        go_wp2_with fail
        refine (MT _).mono ?_
        rintro e w1 ⟨s1, rfl, hn1, hb1⟩
        have HK1 := hid (HKK.out.trans (KK.below hb1))
        have HN1 := hid (HNF.out.below (Nat.le_trans hC HKB.out.size) hb1)
        have HB1 := hid (HKB.out.trans (Off.of hb1))
        obtain ⟨s0, hs0⟩ := HC.out k hlt
        obtain ⟨v', hv', hsk⟩ := HK1.out.2 _ _ _ hs0
        obtain ⟨s2, rfl⟩ : ∃ s2, v' = .string s2 := by
          rcases hsk with rfl | ⟨_, t', _, rfl⟩ | ⟨i, j, h3, _⟩
          · exact ⟨_, rfl⟩
          · exact ⟨_, rfl⟩
          · cases h3
        have hfz := HN1.out b (off + k) hbB.1 hbB.2
        have HX := hid (HK1.out.trans (KK.setS (s' := s1) hv'))
        clear hb1 hn1 MT hs0 hsk
        go_wp2
        refine ⟨⟨k + 1, Q + 1, by omega, (show Q + 1 = q + (k + 1) by have := hQ.out; omega), by go_num, by go_num, HX.out, HN1.out.set _ _, HB1.out.trans (off_rg _ hbB.1 hbB.2 _ _)⟩, by simp [intOf]; omega⟩
      · have hke : k = n := by omega
        subst hke
        have HKK := hid hkk
        have HNF := hid hnf
        clear hkk hnf
        go_wp2
        go_ret
        exact ⟨by rw [← hQ.out]; rfl, HKK.out, HNF.out, kb⟩
set_option maxHeartbeats 1600000 in
set_option maxRecDepth 100000 in
theorem markIntA (B C n q : Nat) (x : Value) (w : World) (h : IntRow B C w x n) (hf : NR B C w) (hC : C ≤ w.heap.size) (hq : 1 ≤ q) (hn : ((q + n : Nat) : Int) < 10000000000000) :
    Calls Try.prog 126 #[x, .int .i64 q] w fun e w' => e = .returned (.int .i64 ((q + n : Nat) : Int)) ∧ KK w w' ∧ NR B C w' ∧ Off (rg B C) w w' := by
  obtain ⟨ao, c, rfl, h⟩ := h
  have HF := hid hf
  rcases h with h0 | ⟨b, off, rfl, hb, hbB, hc⟩
  · subst h0
    clear hf
    go_enter Try.func126, Try.ntmps126
    go_wp2
    go_loopw [1, 5] (fun r i wr => i = .int .i64 0 ∧ r = .int .i64 q ∧ wr = w) (fun _ _ _ => 0)
    case atStart => exact ⟨rfl, rfl, rfl⟩
    case round =>
      obtain ⟨rfl, rfl, rfl⟩ := hrel
      go_wp2
      go_ret
      exact ⟨rfl, KK.refl _, HF.out, Off.refl _ _⟩
  · have HC := hid hc
    have HNN : Hid (((q + n : Nat) : Int) < 10000000000000) := hn
    clear hc hf hn
    go_enter Try.func126, Try.ntmps126
    go_wp2
    go_loopw [1, 5] (fun r i wr => ∃ k Q : Nat, k ≤ n ∧ Hid (Q = q + k) ∧ i = .int .i64 k ∧ r = .int .i64 Q ∧ KK w wr ∧ NR B C wr ∧ Off (rg B C) w wr) (fun _ i _ => n - (intOf i).toNat)
    case atStart => exact ⟨0, q, Nat.zero_le _, rfl, rfl, rfl, KK.refl _, HF.out, Off.refl _ _⟩
    case round =>
      obtain ⟨k, Q, hk, hQ, rfl, rfl, hkk, hnf, kb⟩ := hrel
      by_cases hlt : k < n
      · have HK1 := hid hkk
        have HN1 := hid hnf
        have HB1 := hid kb
        have hki : (k : Int) < (n : Int) := by omega
        have hk0 : (0 : Int) ≤ (k : Int) := by omega
        have hQw : IntKind.i64.wrap ((Q : Int) + 1) = (Q : Int) + 1 := by have := HNN.out; have := hQ.out; rw [IntKind.wrap_i64]; omega
        have hkw : IntKind.i64.wrap ((k : Int) + 1) = (k : Int) + 1 := by have := HNN.out; rw [IntKind.wrap_i64]; omega
        obtain ⟨s0, hs0⟩ := HC.out k hlt
        obtain ⟨v', hv', hsk⟩ := HK1.out.2 _ _ _ hs0
        obtain ⟨s2, rfl⟩ : ∃ s2, v' = .int .i64 s2 := by
          rcases hsk with rfl | ⟨_, t', h3, _⟩ | ⟨i, j, _, rfl⟩
          · exact ⟨_, rfl⟩
          · cases h3
          · exact ⟨_, rfl⟩
        have hfz := HN1.out b (off + k) hbB.1 hbB.2
        have HX := hid (HK1.out.trans (KK.setI (s' := (Q : Int)) hv'))
        clear hs0 hsk hkk hnf kb
        go_wp2
        refine ⟨⟨k + 1, Q + 1, by omega, (show Q + 1 = q + (k + 1) by have := hQ.out; omega), by go_num, by go_num, HX.out, HN1.out.set _ _, HB1.out.trans (off_rg _ hbB.1 hbB.2 _ _)⟩, by simp [intOf]; omega⟩
      · have hke : k = n := by omega
        subst hke
        have HKK := hid hkk
        have HNF := hid hnf
        clear hkk hnf
        go_wp2
        go_ret
        exact ⟨by rw [← hQ.out]; rfl, HKK.out, HNF.out, kb⟩
set_option maxHeartbeats 3200000 in
set_option maxRecDepth 100000 in
theorem markPgA (B C n q : Nat) (x : Value) (w : World) (h : PgRow B C w x n) (hf : NR B C w) (hC : C ≤ w.heap.size) (hq : 1 ≤ q) (hq2 : q ≤ 1000000) (hn : n ≤ 1048576) :
    Calls Try.prog 90 #[x, .int .i64 q] w fun e w' => (∃ m : Nat, e = .returned (.int .i64 m)) ∧ Off (rg B C) w w' := by
  have HR := hid h
  obtain ⟨ao, c, rfl, h⟩ := h
  have HF := hid hf
  rcases h with h0 | ⟨b, off, rfl, hb, hc⟩
  · subst h0
    clear hf
    go_enter Try.func90, Try.ntmps90
    go_wp2
    go_loopw [1, 5] (fun r i wr => i = .int .i64 0 ∧ r = .int .i64 q ∧ wr = w) (fun _ _ _ => 0)
    case atStart => exact ⟨rfl, rfl, rfl⟩
    case round =>
      obtain ⟨rfl, rfl, rfl⟩ := hrel
      go_wp2
      go_ret
      exact ⟨⟨q, rfl⟩, Off.refl _ _⟩
  · clear hf hc
    go_enter Try.func90, Try.ntmps90
    go_wp2
    go_loopw [1, 5] (fun r i wr => ∃ k Q : Nat, k ≤ n ∧ i = .int .i64 k ∧ r = .int .i64 Q ∧ 1 ≤ Q ∧ ((Q : Int) ≤ 1000000 + (k : Int) * 3145728) ∧ KK w wr ∧ NR B C wr ∧ Off (rg B C) w wr) (fun _ i _ => n - (intOf i).toNat)
    case atStart => exact ⟨0, q, Nat.zero_le _, rfl, rfl, hq, by omega, KK.refl _, HF.out, Off.refl _ _⟩
    case round =>
      obtain ⟨k, Q, hk, rfl, rfl, hQ1, hQ2, hkk, hnf, kb⟩ := hrel
      by_cases hlt : k < n
      · have HKK := hid hkk
        have HNF := hid hnf
        have HKB := hid kb
        have hki : (k : Int) < (n : Int) := by omega
        have hkw : IntKind.i64.wrap ((k : Int) + 1) = (k : Int) + 1 := by rw [IntKind.wrap_i64]; omega
        have HQ1 := hid hQ1
        have HQ2 := hid hQ2
        have hk0 : (0 : Int) ≤ (k : Int) := by omega
        obtain ⟨ao', c', hce, hrow⟩ := HR.out.kk HKK.out
        cases hce
        rcases hrow with hrow | ⟨b', off', hce, hb', hrow⟩
        · omega
        cases hce
        obtain ⟨kv, vv, cv, n1, n2, n3, p0, p1, p2, g1, g2, g3, m1, m2, m3⟩ := hrow k hlt
        have hB2 := Nat.le_trans hC HKB.out.size
        have T1 := fun W (hW : KK wr W) (hf : NR B C W) (hs : C ≤ W.heap.size) => markStrA B C n1 Q kv W (g1.kk hW) hf hs hQ1 (by omega)
        have T2 := fun W (hW : KK wr W) (hf : NR B C W) (hs : C ≤ W.heap.size) => markStrA B C n2 (Q + n1) vv W (g2.kk hW) hf hs (by omega) (by omega)
        have T3 := fun W (hW : KK wr W) (hf : NR B C W) (hs : C ≤ W.heap.size) => markIntA B C n3 (Q + n1 + n2) cv W (g3.kk hW) hf hs (by omega) (by omega)
        obtain ⟨Q1, hQ3⟩ : ∃ Q1 : Nat, Q1 = Q + n1 := ⟨_, rfl⟩
        rw [← hQ3] at T1 T2 T3
        obtain ⟨Q2, hQ4⟩ : ∃ Q2 : Nat, Q2 = Q1 + n2 := ⟨_, rfl⟩
        rw [← hQ4] at T2 T3
        obtain ⟨Q3, hQ5⟩ : ∃ Q3 : Nat, Q3 = Q2 + n3 := ⟨_, rfl⟩
        rw [← hQ5] at T3
        have HQ3 := hid hQ3
        have HQ4 := hid hQ4
        have HQ5 := hid hQ5
        clear hQ3 hQ4 hQ5
        obtain ⟨a1, c1, rfl, _⟩ := g1
        obtain ⟨a2, c2, rfl, _⟩ := g2
        obtain ⟨a3, c3, rfl, _⟩ := g3
        have HP1 := hid p1
        have HP2 := hid p2
        clear hkk hnf kb hrow p1 p2 hQ1 hQ2
        go_wp2_with fail
        refine (T1 _ (KK.refl _) HNF.out hB2).mono ?_
        rintro e w1 ⟨rfl, hk1, hn1, hb1⟩
        have hk1' := hk1
        have p1 := slice_kk HP1.out hk1
        have HK1 := hid hk1
        have HN1 := hid hn1
        have HB1 := hid (HKB.out.trans hb1)
        have hl1 : b < w1.heap.size := Nat.lt_of_lt_of_le hb' hk1.1
        have hs1 : C ≤ w1.heap.size := Nat.le_trans hB2 hk1.1
        clear hk1 hn1 hb1 T1 p0 hk1'
        go_wp2_with fail
        refine (T2 _ HK1.out HN1.out hs1).mono ?_
        rintro e w2 ⟨rfl, hk2, hn2, hb2⟩
        have HK2 := hid (HK1.out.trans hk2)
        have p2 := slice_kk HP2.out HK2.out
        have HN2 := hid hn2
        have HB2 := hid (HB1.out.trans hb2)
        have hl2 : b < w2.heap.size := Nat.lt_of_lt_of_le hl1 hk2.1
        have hs2 : C ≤ w2.heap.size := Nat.le_trans hs1 hk2.1
        clear hk2 hn2 hb2 T2 p1
        go_wp2_with fail
        refine (T3 _ HK2.out HN2.out hs2).mono ?_
        rintro e w3 ⟨rfl, hk3, hn3, hb3⟩
        have HK3 := hid (HKK.out.trans (HK2.out.trans hk3))
        have HN3 := hid hn3
        have HB3 := hid (HB2.out.trans hb3)
        clear hk3 hn3 hb3 T3 p2
        go_wp2
        refine ⟨⟨k + 1, Q3, by omega, by go_num, rfl, by have := HQ1.out; have := HQ3.out; have := HQ4.out; have := HQ5.out; omega, by have := HQ2.out; have := HQ3.out; have := HQ4.out; have := HQ5.out; omega, HK3.out, HN3.out, HB3.out⟩, by simp [intOf]; omega⟩
      · have hke : k = n := by omega
        subst hke
        clear hkk hnf
        go_wp2
        go_ret
        exact ⟨⟨Q, rfl⟩, kb⟩
/-- The marks on a tree, whose rows lie in blocks from B on, up to C. -/
theorem markTreeA (B C q n : Nat) (x : Value) (w : World) (hx : PgRow B C w x n) (hn : n ≤ 1048576) (hf : NR B C w) (hC : C ≤ w.heap.size) (hq : 1 ≤ q) (hq2 : q ≤ 1000000) :
    Calls Try.prog 40 #[.agg #[x], .int .i64 q] w fun e w' => ∃ m : Nat, e = .returned (.int .i64 m) ∧ Off (rg B C) w w' := by
  have hbel : ∀ o, Below w.heap.size w (w.alloc (.cells #[x] o)) := fun o => (Below.refl _ _).alloc (Nat.le_refl _) _
  have MP := fun o => markPgA B C n q x (w.alloc (.cells #[x] o)) (hx.kk (KK.below (hbel o))) (hf.below hC (hbel o)) (by simp; omega) hq hq2 hn
  obtain ⟨xa, xc, rfl, _⟩ := hx
  have HAL := hid (fun o => (Off.of (S := rg B C) (hbel o)))
  clear hf hbel
  go_enter Try.func40, Try.ntmps40
  go_wp2_with fail
  refine (MP _).mono ?_
  rintro e w1 ⟨⟨m, rfl⟩, hb⟩
  have kb := (HAL.out _).trans hb
  clear MP hb
  go_wp2
  go_returns
  exact ⟨m, rfl, kb⟩
end Go.Proofs.Ytmmccjdkafojgaa
