/- Lists of values in memory, three cells a value; contracts of the model's l4Row. Condition: the list lies in memory. -/
import Derived.Test.YtolkiofdbdjfkaaSpecBytes
namespace Go.Proofs.Ytolkiofdbdjfkaa
open Go.ChangeShapes Go.WideShapes Go.ChangeAt Go.RowKit Go.Deep
set_option linter.unusedVariables false
attribute [local go_sem ↓] Go.wp_at_zero Go.wp_at_succ

def v0 : VV := ⟨0, 0, ByteArray.empty⟩
/-- The three cells of a value. -/
def ValAt (w : World) (b o : Nat) (v : VV) : Prop := w.cell? ⟨b, o, none⟩ = some (.int .i64 v.k) ∧ w.cell? ⟨b, o + 1, none⟩ = some (.int .i64 v.n) ∧ w.cell? ⟨b, o + 2, none⟩ = some (.string v.t)
/-- The slice value x reads as the values vs. -/
def ValsAt (w : World) (x : Value) (vs : List VV) : Prop :=
  (∃ a c, x = .slice a 0 c ∧ vs = []) ∨ ∃ b off cap, x = .slice (some ⟨b, off, none⟩) vs.length cap ∧ b < w.heap.size ∧ ∀ i, i < vs.length → ValAt w b (off + i * 3) (vs.getD i v0)
theorem ValAt.below {w w' : World} {b o : Nat} {v : VV} (h : ValAt w b o v) (hl : b < w.heap.size) (hb : Below w.heap.size w w') : ValAt w' b o v :=
  ⟨(hb.cell (p := ⟨b, o, none⟩) hl).trans h.1, (hb.cell (p := ⟨b, o + 1, none⟩) hl).trans h.2.1, (hb.cell (p := ⟨b, o + 2, none⟩) hl).trans h.2.2⟩
theorem ValsAt.below {w w' : World} {x : Value} {vs : List VV} (h : ValsAt w x vs) (hb : Below w.heap.size w w') : ValsAt w' x vs := by
  rcases h with h | ⟨b, off, cap, h1, h2, h3⟩
  · exact .inl h
  · exact .inr ⟨b, off, cap, h1, Nat.lt_of_lt_of_le h2 hb.size, fun i hi => (h3 i hi).below h2 hb⟩

set_option maxHeartbeats 3200000 in
theorem specRowYes (x : Value) (vs : List VV) (w : World) (h : ValsAt w x vs) (hl : vs.length ≤ 6) (hg : AllGood vs) :
    Calls Try.prog 62 #[x] w fun e w' => e = .returned (.bool true) ∧ Below w.heap.size w w' := by
  rcases h with ⟨a0, c0, rfl, rfl⟩ | ⟨b, off, cap, rfl, hb, hcell⟩
  · go_enter Try.func62, Try.ntmps62
    go_wp2
    go_loopw [4, 7] (fun y i wr => i = .int .i64 0 ∧ Below w.heap.size w wr) (fun _ _ _ => 0)
    case atStart => exact ⟨rfl, by go_grown⟩
    case round =>
      obtain ⟨rfl, kb⟩ := hrel
      go_wp2
      go_ret
      exact ⟨rfl, kb⟩
  · have HC : Hid (∀ i, i < vs.length → ValAt w b (off + i * 3) (vs.getD i v0)) := hcell
    have HG : Hid (AllGood vs) := hg
    clear hcell hg
    go_enter Try.func62, Try.ntmps62
    go_wp2
    go_loopw [4, 7] (fun y i wr => ∃ k : Nat, k ≤ vs.length ∧ i = .int .i64 k ∧ Below w.heap.size w wr) (fun _ i _ => vs.length - (intOf i).toNat)
    case atStart => exact ⟨0, Nat.zero_le _, rfl, by go_grown⟩
    case round =>
      obtain ⟨k, hk, rfl, kb⟩ := hrel
      have kl := kb.size
      by_cases hlt : k < vs.length
      · obtain ⟨hv0, hv1, hv2⟩ := ((HC.out k hlt).below hb (show Below w.heap.size w wr from kb))
        have hbr : b < wr.heap.size := by omega
        have hgk : GoodV (vs.getD k v0) := HG.out _ (by simp [List.getD, hlt])
        have HY := fun W => specGoodYes (vs.getD k v0) W hgk
        clear hgk
        generalize vs.getD k v0 = u at *
        obtain ⟨K, N, T⟩ := u
        unfold encV at HY
        simp only [] at HY hv0 hv1 hv2
        have hki : (k : Int) < (vs.length : Int) := by omega
        go_wp2_with fail
        refine (HY _).mono ?_
        rintro e w1 ⟨rfl, hb1⟩
        have k1 : Below w.heap.size w w1 := kb.trans ((Below.trans ((Below.refl wr.heap.size wr).alloc (Nat.le_refl _) _) (hb1.mono (by simp))).mono kl)
        clear hb1 HY hv0 hv1 hv2
        go_wp2
        exact ⟨⟨k + 1, by omega, by go_num, k1⟩, by simp [intOf]; omega⟩
      · have hke : k = vs.length := by omega
        subst hke
        have h6 : (vs.length : Int) ≤ 6 := by omega
        go_wp2
        go_ret
        exact ⟨rfl, kb⟩
theorem allGood_of {vs : List VV} (h : ∀ j, j < vs.length → GoodV (vs.getD j v0)) : AllGood vs := by
  intro v hv
  obtain ⟨j, hj, rfl⟩ := List.getElem_of_mem hv
  have := h j hj
  simpa [List.getD, hj] using this
set_option maxHeartbeats 3200000 in
theorem specRowNo (x : Value) (vs : List VV) (w : World) (h : ValsAt w x vs) (hlen : vs.length ≤ 1048576) (hsz : ∀ v ∈ vs, v.t.size ≤ maxLen) (hn : ¬ (AllGood vs ∧ vs.length ≤ 6)) :
    Calls Try.prog 62 #[x] w fun e w' => e = .returned (.bool false) ∧ Below w.heap.size w w' := by
  rcases h with ⟨a0, c0, rfl, rfl⟩ | ⟨b, off, cap, rfl, hb, hcell⟩
  · exact absurd ⟨fun v hv => by simp at hv, by simp⟩ hn
  · have HC : Hid (∀ i, i < vs.length → ValAt w b (off + i * 3) (vs.getD i v0)) := hcell
    have HZ : Hid (∀ v ∈ vs, v.t.size ≤ maxLen) := hsz
    have HN : Hid (¬ (AllGood vs ∧ vs.length ≤ 6)) := hn
    clear hcell hsz hn
    go_enter Try.func62, Try.ntmps62
    go_wp2
    go_loopw [4, 7] (fun y i wr => ∃ k : Nat, k ≤ vs.length ∧ i = .int .i64 k ∧ (∀ j, j < k → GoodV (vs.getD j v0)) ∧ Below w.heap.size w wr) (fun _ i _ => vs.length - (intOf i).toNat)
    case atStart => exact ⟨0, Nat.zero_le _, rfl, fun j hj => by omega, by go_grown⟩
    case round =>
      obtain ⟨k, hk, rfl, hall, kb⟩ := hrel
      have HA : Hid (∀ j, j < k → GoodV (vs.getD j v0)) := hall
      clear hall
      have kl := kb.size
      by_cases hlt : k < vs.length
      · obtain ⟨hv0, hv1, hv2⟩ := ((HC.out k hlt).below hb (show Below w.heap.size w wr from kb))
        have hbr : b < wr.heap.size := by omega
        have hm := HZ.out (vs.getD k v0) (by simp [List.getD, hlt])
        have HA2 : Hid (GoodV (vs.getD k v0) → ∀ j, j < k + 1 → GoodV (vs.getD j v0)) := by
          intro hg j hj
          by_cases e : j = k
          · rw [e]; exact hg
          · exact HA.out j (by omega)
        generalize vs.getD k v0 = u at *
        have hki : (k : Int) < (vs.length : Int) := by omega
        by_cases hg : GoodV u
        · have HY := fun W => specGoodYes u W hg
          have HA3 := HA2.out hg
          have HA4 : Hid (∀ j, j < k + 1 → GoodV (vs.getD j v0)) := HA3
          clear HA2 HA3 hg
          obtain ⟨K, N, T⟩ := u
          unfold encV at HY
          simp only [] at HY hv0 hv1 hv2
          go_wp2_with fail
          refine (HY _).mono ?_
          rintro e w1 ⟨rfl, hb1⟩
          have k1 : Below w.heap.size w w1 := kb.trans ((Below.trans ((Below.refl wr.heap.size wr).alloc (Nat.le_refl _) _) (hb1.mono (by simp))).mono kl)
          clear hb1 HY hv0 hv1 hv2
          go_wp2
          exact ⟨⟨k + 1, by omega, by go_num, HA4.out, k1⟩, by simp [intOf]; omega⟩
        · have HY := fun W => specGoodNo u W hm hg
          clear HA2 hg hm
          obtain ⟨K, N, T⟩ := u
          unfold encV at HY
          simp only [] at HY hv0 hv1 hv2
          go_wp2_with fail
          refine (HY _).mono ?_
          rintro e w1 ⟨rfl, hb1⟩
          have k1 : Below w.heap.size w w1 := kb.trans ((Below.trans ((Below.refl wr.heap.size wr).alloc (Nat.le_refl _) _) (hb1.mono (by simp))).mono kl)
          clear hb1 HY hv0 hv1 hv2
          go_wp2
          go_ret
          exact ⟨rfl, k1⟩
      · have hke : k = vs.length := by omega
        subst hke
        have h6 : ¬ (vs.length : Int) ≤ 6 := fun g => HN.out ⟨allGood_of HA.out, by omega⟩
        go_wp2
        go_ret
        exact ⟨rfl, kb⟩
def vrowV (vs : List VV) : ByteArray := ⟨(vrowL vs).toArray⟩
theorem vrowV_snoc (vs : List VV) (k : Nat) (h : k < vs.length) : vrowV (vs.take (k + 1)) = vrowV (vs.take k) ++ bytesV (vs.getD k v0) := by
  have e : vs.take (k + 1) = vs.take k ++ [vs.getD k v0] := by
    rw [List.take_succ_eq_append_getElem h]; simp [List.getD, h]
  unfold vrowV bytesV
  rw [e, vrowL_append]
  simp [vrowL]
  rfl
theorem vrowL_len {vs : List VV} (h : AllGood vs) : (vrowL vs).length ≤ 27 * vs.length := by
  induction vs with
  | nil => simp [vrowL]
  | cons v vs ih =>
    have h1 := bytesL_len h.head
    have h2 := ih h.tail
    simp [vrowL]
    omega
set_option maxHeartbeats 3200000 in
theorem specRB (x : Value) (vs : List VV) (w : World) (h : ValsAt w x vs) (hl : vs.length ≤ 6) (hg : AllGood vs) :
    Calls Try.prog 65 #[x] w fun e w' => e = .returned (.string (vrowV vs)) ∧ Below w.heap.size w w' := by
  rcases h with ⟨a0, c0, rfl, rfl⟩ | ⟨b, off, cap, rfl, hb, hcell⟩
  · have HE : Hid (vrowV [] = ⟨#[]⟩) := rfl
    go_enter Try.func65, Try.ntmps65
    go_wp2
    go_loopw [3, 5, 8] (fun s y i wr => i = .int .i64 0 ∧ s = .string ⟨#[]⟩ ∧ Below w.heap.size w wr) (fun _ _ _ _ => 0)
    case atStart => exact ⟨rfl, rfl, by go_grown⟩
    case round =>
      obtain ⟨rfl, rfl, kb⟩ := hrel
      go_wp2
      go_ret
      exact ⟨by rw [HE.out]; rfl, kb⟩
  · have HC : Hid (∀ i, i < vs.length → ValAt w b (off + i * 3) (vs.getD i v0)) := hcell
    have HG : Hid (AllGood vs) := hg
    clear hcell hg
    go_enter Try.func65, Try.ntmps65
    go_wp2
    go_loopw [3, 5, 8] (fun s y i wr => ∃ k : Nat, k ≤ vs.length ∧ i = .int .i64 k ∧ s = .string (vrowV (vs.take k)) ∧ Below w.heap.size w wr) (fun _ _ i _ => vs.length - (intOf i).toNat)
    case atStart => exact ⟨0, Nat.zero_le _, rfl, rfl, by go_grown⟩
    case round =>
      obtain ⟨k, hk, rfl, rfl, kb⟩ := hrel
      have kl := kb.size
      by_cases hlt : k < vs.length
      · obtain ⟨hv0, hv1, hv2⟩ := ((HC.out k hlt).below hb (show Below w.heap.size w wr from kb))
        have hbr : b < wr.heap.size := by omega
        have hgk : GoodV (vs.getD k v0) := HG.out _ (by simp [List.getD, hlt])
        have HY := fun W => specBytes (vs.getD k v0) W hgk
        have HS : Hid (vrowV (vs.take (k + 1)) = vrowV (vs.take k) ++ bytesV (vs.getD k v0)) := vrowV_snoc vs k hlt
        have hz1 : (bytesV (vs.getD k v0)).size ≤ 27 := by
          have := bytesL_len hgk
          simpa [bytesV, ByteArray.size] using this
        have hz2 : (vrowV (vs.take k)).size ≤ 162 := by
          have h1 := vrowL_len (vs := vs.take k) (fun v hv => HG.out v (List.mem_of_mem_take hv))
          have h2 : (vs.take k).length ≤ 6 := by simp; omega
          simp only [vrowV, ByteArray.size, List.size_toArray]
          omega
        clear hgk
        generalize bytesV (vs.getD k v0) = Y at *
        generalize vs.getD k v0 = u at *
        generalize vrowV (vs.take k) = R at *
        obtain ⟨K, N, T⟩ := u
        unfold encV at HY
        simp only [] at HY hv0 hv1 hv2
        have hki : (k : Int) < (vs.length : Int) := by omega
        go_wp2_with fail
        refine (HY _).mono ?_
        rintro e w1 ⟨rfl, hb1⟩
        have k1 : Below w.heap.size w w1 := kb.trans ((Below.trans ((Below.refl wr.heap.size wr).alloc (Nat.le_refl _) _) (hb1.mono (by simp))).mono kl)
        clear hb1 HY hv0 hv1 hv2
        go_wp2
        exact ⟨⟨k + 1, by omega, by go_num, by rw [HS.out], k1⟩, by simp [intOf]; omega⟩
      · have hke : k = vs.length := by omega
        subst hke
        rw [List.take_length]
        go_wp2
        go_ret
        exact ⟨rfl, kb⟩
set_option maxHeartbeats 1600000 in
theorem specRBYes (x : Value) (vs : List VV) (w : World) (h : ValsAt w x vs) (hl : vs.length ≤ 6) (hg : AllGood vs) :
    Calls Try.prog 36 #[x] w fun e w' => e = .returned (.tuple #[.string (vrowV vs), .bool true]) ∧ Below w.heap.size w w' := by
  have HA := specRowYes x vs w h hl hg
  have HB := fun W hW => specRB x vs W hW hl hg
  have HV : Hid (ValsAt w x vs) := h
  clear h hg
  generalize vrowV vs = R at *
  go_enter Try.func36, Try.ntmps36
  go_wp2_with fail
  refine HA.mono ?_
  rintro e w1 ⟨rfl, hb1⟩
  go_wp2_with fail
  refine (HB _ (HV.out.below hb1)).mono ?_
  rintro e w2 ⟨rfl, hb2⟩
  have k2 := hb1.trans (hb2.mono hb1.size)
  clear hb1 hb2 HA HB
  go_wp2
  go_returns
  exact ⟨rfl, k2⟩
set_option maxHeartbeats 1600000 in
theorem specRBNo (x : Value) (vs : List VV) (w : World) (h : ValsAt w x vs) (hlen : vs.length ≤ 1048576) (hsz : ∀ v ∈ vs, v.t.size ≤ maxLen) (hn : ¬ (AllGood vs ∧ vs.length ≤ 6)) :
    Calls Try.prog 36 #[x] w fun e w' => e = .returned (.tuple #[.string ByteArray.empty, .bool false]) ∧ Below w.heap.size w w' := by
  have HA := specRowNo x vs w h hlen hsz hn
  clear h hn hsz
  go_enter Try.func36, Try.ntmps36
  go_wp2_with fail
  refine HA.mono ?_
  rintro e w1 ⟨rfl, hb1⟩
  clear HA
  go_wp2
  go_returns
  exact ⟨rfl, hb1⟩
theorem vrowV_size {vs : List VV} (hl : vs.length ≤ 6) (hg : AllGood vs) : (vrowV vs).size ≤ 162 := by
  have h1 := vrowL_len hg
  simp only [vrowV, ByteArray.size, List.size_toArray]
  omega
set_option maxHeartbeats 1600000 in
theorem specAfterYes (x : Value) (vs : List VV) (w : World) (h : ValsAt w x vs) (hl : vs.length ≤ 6) (hg : AllGood vs) :
    Calls Try.prog 37 #[x] w fun e w' => e = .returned (.tuple #[.string (vrowV vs), .string (vrowV vs ++ ⟨#[255]⟩), .bool true]) ∧ Below w.heap.size w w' := by
  have HA := specRowYes x vs w h hl hg
  have HB := fun W hW => specRB x vs W hW hl hg
  have hz := vrowV_size hl hg
  have hz1 : (⟨#[255]⟩ : ByteArray).size = 1 := rfl
  have HV : Hid (ValsAt w x vs) := h
  clear h hg
  generalize vrowV vs = R at *
  go_enter Try.func37, Try.ntmps37
  go_wp2_with fail
  refine HA.mono ?_
  rintro e w1 ⟨rfl, hb1⟩
  go_wp2_with fail
  refine (HB _ (HV.out.below hb1)).mono ?_
  rintro e w2 ⟨rfl, hb2⟩
  have k2 := hb1.trans (hb2.mono hb1.size)
  clear hb1 hb2 HA HB
  go_wp2
  go_returns
  exact ⟨rfl, k2⟩
set_option maxHeartbeats 1600000 in
theorem specAfterNo (x : Value) (vs : List VV) (w : World) (h : ValsAt w x vs) (hlen : vs.length ≤ 1048576) (hsz : ∀ v ∈ vs, v.t.size ≤ maxLen) (hn : ¬ (AllGood vs ∧ vs.length ≤ 6)) :
    Calls Try.prog 37 #[x] w fun e w' => e = .returned (.tuple #[.string ByteArray.empty, .string ByteArray.empty, .bool false]) ∧ Below w.heap.size w w' := by
  have HA := specRowNo x vs w h hlen hsz hn
  clear h hn hsz
  go_enter Try.func37, Try.ntmps37
  go_wp2_with fail
  refine HA.mono ?_
  rintro e w1 ⟨rfl, hb1⟩
  clear HA
  go_wp2
  go_returns
  exact ⟨rfl, hb1⟩
end Go.Proofs.Ytolkiofdbdjfkaa
