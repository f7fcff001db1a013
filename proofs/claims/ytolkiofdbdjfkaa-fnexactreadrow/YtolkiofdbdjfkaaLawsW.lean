/- Contracts of the laws' copies of lists of values, and of how much there is of them. Condition: lists lie in memory. -/
import Derived.Test.YtolkiofdbdjfkaaLawsV
import Derived.Test.YtolkiofdbdjfkaaOwnV
import Derived.Laws.OwnMore
namespace Go.Proofs.Ytolkiofdbdjfkaa
open Go.ChangeShapes Go.WideShapes Go.ChangeAt Go.RowKit Go.Deep
set_option linter.unusedVariables false
attribute [local go_sem ↓] Go.wp_at_zero Go.wp_at_succ

theorem infoVal : (Try.prog.info? 24).map (fun i => (i.zero, i.size, i.bytes)) = some (some (.agg #[.int .i64 0, .int .i64 0, .string ByteArray.empty]), 3, 32) := by kernel_rfl
/-- A row of so many values may be written. -/
theorem ownVals {w : World} {base g n cap : Nat} {xs : List Value} {e : TypeId} (h : w.ownsRow base e 3 (.slice (some ⟨g, 0, none⟩) n cap) n xs) : ∃ f, OwnRow base w g (n * 3) f := by
  rcases h.2 with ⟨h, _⟩ | ⟨g', cap', cur, h, hb, hgg, hn, _, hcs, _⟩
  · cases h
  · simp only [Value.slice.injEq, Option.some.injEq, Addr.mk.injEq, and_true, true_and] at h
    obtain ⟨rfl, rfl⟩ := h
    refine ⟨fun i => cur.getD i default, hb, (Array.getElem?_eq_some_iff.1 hgg).1, fun i hi => ?_, fun i hi => by simp [World.frozen?, hgg]⟩
    have : i < cur.size := by omega
    simp [World.cell?, hgg, Array.getD, this]
/-- A value is written into such a row. -/
theorem valSet {W : World} {g o base n : Nat} {f : Nat → Value} (hO : OwnRow base W g n f) (h : o + 2 < n) (K N : Int) (T : ByteArray) :
    (∃ f', OwnRow base (((W.setCell ⟨g, o, none⟩ (.int .i64 K)).setCell ⟨g, o + 1, none⟩ (.int .i64 N)).setCell ⟨g, o + 2, none⟩ (.string T)) g n f') ∧
    ValAt (((W.setCell ⟨g, o, none⟩ (.int .i64 K)).setCell ⟨g, o + 1, none⟩ (.int .i64 N)).setCell ⟨g, o + 2, none⟩ (.string T)) g o ⟨K, N, T⟩ ∧
    ∀ o' v, (o' + 2 < o ∨ o + 2 < o') → ValAt W g o' v → ValAt (((W.setCell ⟨g, o, none⟩ (.int .i64 K)).setCell ⟨g, o + 1, none⟩ (.int .i64 N)).setCell ⟨g, o + 2, none⟩ (.string T)) g o' v := by
  have h3 := ((hO.set (k := o) (by omega) (.int .i64 K)).set (k := o + 1) (by omega) (.int .i64 N)).set (k := o + 2) (by omega) (.string T)
  refine ⟨⟨_, h3⟩, ⟨?_, ?_, ?_⟩, ?_⟩
  · rw [h3.2.2.1 o (by omega)]; simp
  · rw [h3.2.2.1 (o + 1) (by omega)]; simp
  · rw [h3.2.2.1 (o + 2) (by omega)]; simp
  · rintro o' v hd ⟨a, b, c⟩
    have ne : ∀ i j, i ≠ j → (⟨g, i, none⟩ : Addr) ≠ ⟨g, j, none⟩ := fun i j hij e => hij (by cases e; rfl)
    refine ⟨?_, ?_, ?_⟩
    · rw [World.cell?_setCell_other _ _ _ _ (ne _ _ (by omega)), World.cell?_setCell_other _ _ _ _ (ne _ _ (by omega)), World.cell?_setCell_other _ _ _ _ (ne _ _ (by omega))]; exact a
    · rw [World.cell?_setCell_other _ _ _ _ (ne _ _ (by omega)), World.cell?_setCell_other _ _ _ _ (ne _ _ (by omega)), World.cell?_setCell_other _ _ _ _ (ne _ _ (by omega))]; exact b
    · rw [World.cell?_setCell_other _ _ _ _ (ne _ _ (by omega)), World.cell?_setCell_other _ _ _ _ (ne _ _ (by omega)), World.cell?_setCell_other _ _ _ _ (ne _ _ (by omega))]; exact c
set_option maxHeartbeats 6400000 in
theorem toVals (x : Value) (vs : List VV) (w : World) (h : ValsAt w x vs) (hl : vs.length ≤ 1048576) :
    Calls Try.prog 42 #[x] w fun e w' => ∃ x', e = .returned x' ∧ ValsAt w' x' vs ∧ Below w.heap.size w w' := by
  obtain ⟨i0, hi, hzz⟩ := Option.map_eq_some_iff.1 infoVal
  simp only [Prod.mk.injEq] at hzz
  obtain ⟨hz0, hz1, hz2⟩ := hzz
  obtain ⟨w0, hmk, hown, hg0⟩ := run_make_full (P := Try.prog) w w.heap.size 39 24 i0 _ 3 Try.underlying39 hi hz0 hz1 .i64 .i64 vs.length (by rw [hz2]; omega) (by unfold maxLen; omega) (Nat.le_refl _)
  obtain ⟨f0, hf0⟩ := ownVals hown
  have kb0 : Below w.heap.size w w0 := ⟨hg0.os, hg0.tape, hg0.output, hg0.size, fun k hk => hg0.block k hk (by simp)⟩
  have HF0 : Hid (OwnRow w.heap.size w0 w.heap.size (vs.length * 3) f0) := hf0
  clear hown hg0 hf0
  rcases h with ⟨a0, c0, rfl, rfl⟩ | ⟨b, off, cap, rfl, hb, hcell⟩
  · simp only [List.length_nil] at hmk
    have hmk' : (Instr.makeSlice 39 (.int .i64 0) (.int .i64 0)).run Try.prog w = .ok (.slice (some ⟨w.heap.size, 0, none⟩) 0 0) w0 := hmk
    clear hmk
    go_enter Try.func42, Try.ntmps42
    go_wp2
    go_loopw [4] (fun i wr => i = .int .i64 0 ∧ wr = w0) (fun _ _ => 0)
    case atStart => exact ⟨rfl, rfl⟩
    case round =>
      obtain ⟨rfl, rfl⟩ := hrel
      go_wp2
      go_ret
      exact ⟨_, rfl, .inl ⟨_, _, rfl, rfl⟩, kb0⟩
  · have HC : Hid (∀ i, i < vs.length → ValAt w b (off + i * 3) (vs.getD i v0)) := hcell
    clear hcell
    have hne : b ≠ w.heap.size := by omega
    have hne' : w.heap.size ≠ b := by omega
    go_enter Try.func42, Try.ntmps42
    go_wp2
    go_loopw [4] (fun i wr => ∃ k : Nat, k ≤ vs.length ∧ i = .int .i64 k ∧ (∃ f, OwnRow w.heap.size wr w.heap.size (vs.length * 3) f ∧ ∀ j, j < k → ValAt wr w.heap.size (j * 3) (vs.getD j v0)) ∧ Below w.heap.size w wr) (fun i _ => vs.length - (intOf i).toNat)
    case atStart => exact ⟨0, Nat.zero_le _, rfl, ⟨f0, HF0.out, fun j hj => by omega⟩, kb0⟩
    case round =>
      obtain ⟨k, hk, rfl, ⟨f, hO, hf⟩, kb⟩ := hrel
      have HO : Hid (OwnRow w.heap.size wr w.heap.size (vs.length * 3) f) := hO
      have HF : Hid (∀ j, j < k → ValAt wr w.heap.size (j * 3) (vs.getD j v0)) := hf
      clear hO hf
      have kl := kb.size
      by_cases hlt : k < vs.length
      · obtain ⟨p0, p1, p2⟩ := (HC.out k hlt).below hb kb
        have hbr : b < wr.heap.size := by omega
        have HE := fun W => toVal (vs.getD k v0) W
        have hki : (k : Int) < (vs.length : Int) := by omega
        have hk0 : (0 : Int) ≤ (k : Int) := by omega
        have HV : Hid (vs.getD k v0 = vs.getD k v0) := rfl
        generalize hu : vs.getD k v0 = u at *
        have HU : Hid (vs.getD k v0 = u) := hu
        clear hu HV
        obtain ⟨K, N, T⟩ := u
        unfold encV at HE
        simp only [] at HE p0 p1 p2
        go_wp2_with fail
        refine (HE _).mono ?_
        rintro e w1 ⟨rfl, hb1⟩
        have k1 : Below w.heap.size w w1 := kb.trans (hb1.mono kl)
        have HO1 : Hid (OwnRow w.heap.size w1 w.heap.size (vs.length * 3) f) := HO.out.below hb1
        have HF1 : Hid (∀ j, j < k → ValAt w1 w.heap.size (j * 3) (vs.getD j v0)) := fun j hj => (HF.out j hj).below HO.out.2.1 hb1
        have c0 := HO1.out.2.2.1 (k * 3) (by omega)
        have c1 := HO1.out.2.2.1 (k * 3 + 1) (by omega)
        have c2 := HO1.out.2.2.1 (k * 3 + 2) (by omega)
        have z0 := HO1.out.2.2.2 (k * 3) (by omega)
        have z1 := HO1.out.2.2.2 (k * 3 + 1) (by omega)
        have z2 := HO1.out.2.2.2 (k * 3 + 2) (by omega)
        generalize f (k * 3) = x0 at c0
        generalize f (k * 3 + 1) = x1 at c1
        generalize f (k * 3 + 2) = x2 at c2
        clear hb1 HE p0 p1 p2 HO HF
        obtain ⟨hs1, hs2, hs3⟩ := valSet HO1.out (o := k * 3) (by omega) K N T
        have HS1 := (show Hid _ from hs1)
        have HS2 := (show Hid _ from hs2)
        have HS3 := (show Hid _ from hs3)
        clear hs1 hs2 hs3
        go_wp2
        obtain ⟨f', hf'⟩ := HS1.out
        refine ⟨⟨k + 1, by omega, by go_num, ⟨f', hf', fun j hj => ?_⟩, by go_grown⟩, by simp [intOf]; omega⟩
        by_cases e : j = k
        · rw [e, HU.out]; exact HS2.out
        · exact HS3.out _ _ (by omega) (HF1.out j (by omega))
      · have hke : k = vs.length := by omega
        subst hke
        go_wp2
        go_ret
        exact ⟨_, rfl, .inr ⟨w.heap.size, 0, _, rfl, HO.out.2.1, fun i hi => by rw [Nat.zero_add]; exact HF.out i hi⟩, kb⟩
def sumT (vs : List VV) : Nat := vs.foldl (fun n v => n + v.t.size) 0
theorem sumT_snoc (vs : List VV) (v : VV) : sumT (vs ++ [v]) = sumT vs + v.t.size := by simp [sumT]
theorem sumT_append (a b : List VV) : sumT (a ++ b) = sumT a + sumT b := by
  have : ∀ (l : List VV) (n : Nat), l.foldl (fun n v => n + v.t.size) n = n + l.foldl (fun n v => n + v.t.size) 0 := by
    intro l
    induction l with
    | nil => intro n; simp
    | cons x l ih => intro n; simp only [List.foldl_cons]; rw [ih (n + x.t.size), ih (0 + x.t.size)]; omega
  simp only [sumT, List.foldl_append]; rw [this]
theorem takeV (vs : List VV) (k : Nat) (h : k < vs.length) : vs.take (k + 1) = vs.take k ++ [vs.getD k v0] := by
  rw [List.take_succ_eq_append_getElem h]; simp [List.getD, h]
theorem sumT_take (vs : List VV) (k : Nat) : sumT (vs.take k) ≤ sumT vs := by
  have := sumT_append (vs.take k) (vs.drop k); rw [List.take_append_drop] at this; omega
/-- What is left of z behind the list, or -1. -/
def szRV (z : Nat) (vs : List VV) : Int := if vs.length + sumT vs ≤ z then (z : Int) - ((vs.length + sumT vs : Nat) : Int) else -1
theorem szRV_neg {z : Nat} {vs : List VV} (h : z < vs.length + sumT vs) : szRV z vs = -1 := by unfold szRV; rw [if_neg (by omega)]
theorem szRV_pos {z : Nat} {vs : List VV} (h : vs.length + sumT vs ≤ z) : szRV z vs = ((z - (vs.length + sumT vs) : Nat) : Int) := by unfold szRV; rw [if_pos h]; omega
set_option maxHeartbeats 3200000 in
theorem szVals (x : Value) (vs : List VV) (z : Nat) (w : World) (h : ValsAt w x vs) (hz : z ≤ 1048576) (hlen : vs.length ≤ maxLen) (hsz : ∀ v ∈ vs, v.t.size ≤ maxLen) :
    Calls Try.prog 41 #[x, .int .i64 z] w fun e w' => e = .returned (.int .i64 (szRV z vs)) ∧ Below w.heap.size w w' := by
  unfold maxLen at hlen
  rcases h with ⟨a0, c0, rfl, rfl⟩ | ⟨b, off, cap, rfl, hb, hcell⟩
  · go_enter Try.func41, Try.ntmps41
    go_wp2
    go_loopw [1, 5] (fun x i wr => i = .int .i64 0 ∧ x = .int .i64 z ∧ wr = w) (fun _ _ _ => 0)
    case atStart => exact ⟨rfl, rfl, rfl⟩
    case round =>
      obtain ⟨rfl, rfl, rfl⟩ := hrel
      go_wp2
      go_ret
      exact ⟨ret_int (by simp [szRV, sumT]), Below.refl _ _⟩
  · by_cases hbig : z < vs.length
    · have hl : (z : Int) - (vs.length : Int) < 0 := by omega
      have HR : Hid (szRV z vs = -1) := szRV_neg (by omega)
      clear hcell
      go_enter Try.func41, Try.ntmps41
      go_wp2
      go_ret
      exact ⟨ret_int (by rw [HR.out]), by go_grown⟩
    · have hl : ¬ (z : Int) - (vs.length : Int) < 0 := by omega
      have HC : Hid (∀ i, i < vs.length → ValAt w b (off + i * 3) (vs.getD i v0)) := hcell
      have HZ : Hid (∀ v ∈ vs, v.t.size ≤ maxLen) := hsz
      clear hcell hsz
      go_enter Try.func41, Try.ntmps41
      go_wp2
      go_loopw [1, 5] (fun x i wr => ∃ k : Nat, k ≤ vs.length ∧ vs.length + sumT (vs.take k) ≤ z ∧ i = .int .i64 k ∧ x = .int .i64 ((z : Int) - (vs.length : Int) - (sumT (vs.take k) : Nat)) ∧ Below w.heap.size w wr) (fun _ i _ => vs.length - (intOf i).toNat)
      case atStart => exact ⟨0, Nat.zero_le _, by simp [sumT]; omega, rfl, by simp [sumT], by go_grown⟩
      case round =>
        obtain ⟨k, hk, hle, rfl, rfl, kb⟩ := hrel
        have kl := kb.size
        by_cases hlt : k < vs.length
        · obtain ⟨p0, p1, p2⟩ := (HC.out k hlt).below hb kb
          have hbr : b < wr.heap.size := by omega
          have hm := HZ.out (vs.getD k v0) (by simp [List.getD, hlt])
          have HS : Hid (sumT (vs.take (k + 1)) = sumT (vs.take k) + (vs.getD k v0).t.size) := by
            show _ = _
            rw [takeV vs k hlt]; exact sumT_snoc _ _
          have HT : Hid (sumT (vs.take (k + 1)) ≤ sumT vs) := sumT_take vs (k + 1)
          have hki : (k : Int) < (vs.length : Int) := by omega
          have hk0 : (0 : Int) ≤ (k : Int) := by omega
          obtain ⟨Z, hZ⟩ : ∃ Z : Nat, (z : Int) - (vs.length : Int) - (sumT (vs.take k) : Nat) = (Z : Int) := ⟨z - vs.length - sumT (vs.take k), by omega⟩
          have hZ2 : Z ≤ 1048576 := by omega
          rw [hZ]
          have HZ3 : Hid ((z : Int) - (vs.length : Int) - (sumT (vs.take k) : Nat) = (Z : Int)) := hZ
          clear hZ
          by_cases hout : Z < (vs.getD k v0).t.size
          · have HE := fun W => szValNo (vs.getD k v0) Z W hm hZ2 hout
            have HR : Hid (szRV z vs = -1) := szRV_neg (by have h1 := HS.out; have h2 := HT.out; have h3 := HZ3.out; omega)
            generalize vs.getD k v0 = u at *
            obtain ⟨K, N, T⟩ := u
            unfold encV at HE
            simp only [] at HE p0 p1 p2
            go_wp2_with fail
            refine (HE _).mono ?_
            rintro e w1 ⟨rfl, hb1⟩
            have k1 : Below w.heap.size w w1 := kb.trans (hb1.mono kl)
            clear hb1 HE p0 p1 p2
            go_wp2
            go_ret
            exact ⟨ret_int (by rw [HR.out]), k1⟩
          · have HE := fun W => szValYes (vs.getD k v0) Z W hZ2 (by omega)
            have hzn : ¬ (Z : Int) - ((vs.getD k v0).t.size : Int) < 0 := by omega
            generalize vs.getD k v0 = u at *
            obtain ⟨K, N, T⟩ := u
            unfold encV at HE
            simp only [] at HE p0 p1 p2 hzn hout hm
            have HSZ : Hid ((Z : Int) - (T.size : Int) = (z : Int) - (vs.length : Int) - (sumT (vs.take (k + 1)) : Nat)) := by
              have h1 := HS.out
              have h3 := HZ3.out
              simp only [] at h1
              show _ = _
              rw [h1]; omega
            have HLE : Hid (vs.length + sumT (vs.take (k + 1)) ≤ z) := by
              have h1 := HS.out
              have h3 := HZ3.out
              simp only [] at h1
              show _ ≤ _
              rw [h1]; omega
            generalize (Z : Int) - (T.size : Int) = q at *
            go_wp2_with fail
            refine (HE _).mono ?_
            rintro e w1 ⟨rfl, hb1⟩
            have k1 : Below w.heap.size w w1 := kb.trans (hb1.mono kl)
            clear hb1 HE p0 p1 p2
            go_wp2
            exact ⟨⟨k + 1, by omega, HLE.out, by go_num, by rw [HSZ.out], k1⟩, by simp [intOf]; omega⟩
        · have hke : k = vs.length := by omega
          subst hke
          rw [List.take_length] at hle ⊢
          have HR : Hid (szRV z vs = (z : Int) - (vs.length : Int) - (sumT vs : Nat)) := by
            show _ = _
            unfold szRV; rw [if_pos hle]; omega
          go_wp2
          go_ret
          exact ⟨ret_int (by rw [HR.out]), kb⟩
end Go.Proofs.Ytolkiofdbdjfkaa
