/- The model reads the numbers of a packed list. Condition: its rows lie in memory. -/
import Derived.Test.YtaafdcghafbfhaaListW
import Derived.Test.YtaafdcghafbfhaaSpecPkd
import Derived.Test.YtaafdcghafbfhaaSameL
namespace Go.Proofs.Ytaafdcghafbfhaa
open Go.ChangeShapes Go.WideShapes Go.ChangeAt Go.RowKit Go.Deep
set_option linter.unusedVariables false
attribute [local go_sem ↓] Go.wp_at_zero Go.wp_at_succ

/-- What the model has read when it has gone over j bits. -/
def RuN (p : Pk) (L : Nat) (out : List Int) (c j : Nat) : Prop := ∀ l, PackIs p l → L = lowL l ∧ out = l.take c ∧ c ≤ l.length ∧ upTo (lowL l) l c + c ≤ j ∧ (c < l.length → j ≤ upN (lowL l) (l.getD c 0) + c)
theorem ruN_start (p : Pk) (L : Nat) (h : p.low = (L : Nat)) : RuN p L [] 0 0 := fun l hl => ⟨by have := hl.low; omega, by simp, Nat.zero_le _, by rw [upTo_zero]; omega, fun _ => Nat.zero_le _⟩
theorem ruN_no {p : Pk} {L c j : Nat} {out : List Int} (h : RuN p L out c j) (hb : p.high.getD j false = false) : RuN p L out c (j + 1) := fun l hl => by
  obtain ⟨h1, h2, h3, h4, h5⟩ := h l hl
  refine ⟨h1, h2, h3, by omega, fun hc => ?_⟩
  have h6 := h5 hc
  by_cases e : j = upN (lowL l) (l.getD c 0) + c
  · have := bit_true (k := lowL l) hl.1 c hc
    rw [← e, ← hl.high, hb] at this
    cases this
  · omega
theorem ruN_in {p : Pk} {L c j : Nat} {out : List Int} (h : RuN p L out c j) (hj : j < p.high.length) : ∀ l, PackIs p l → c < l.length := fun l hl => by
  obtain ⟨h1, h2, h3, h4, h5⟩ := h l hl
  rcases Nat.lt_or_ge c l.length with hc | hc
  · exact hc
  · have hce : c = l.length := by omega
    have h6 := hgh_len (k := lowL l) hl.1 l.length (Nat.le_refl _)
    rw [← hl.high] at h6
    rw [hce] at h4
    omega
theorem ruN_yes {p : Pk} {L c j : Nat} {out : List Int} (h : RuN p L out c j) (hj : j < p.high.length) (hb : p.high.getD j false = true) (hcj : c ≤ j) :
    RuN p L (out ++ [IntKind.i64.wrap (((j - c : Nat) : Int) * 2 ^ L + p.lows.getD c 0)]) (c + 1) (j + 1) := fun l hl => by
  obtain ⟨h1, h2, h3, h4, h5⟩ := h l hl
  have hc := ruN_in h hj l hl
  have h6 := h5 hc
  have e : j = upN (lowL l) (l.getD c 0) + c := by
    by_cases e : j = upN (lowL l) (l.getD c 0) + c
    · exact e
    · have := bit_false (k := lowL l) hl.1 c j hc (by omega) (by omega)
      rw [← hl.high] at this
      have hg : p.high.getD j true = p.high.getD j false := by simp [List.getD, hj]
      rw [hg, hb] at this
      cases this
  have h7 := hl.lows.2 c hc
  have h8 := hl.1.2.1 c hc
  have h9 := whole_again (lowL l) (l.getD c 0) h8.1
  have h10 := upTo_succ (lowL l) l c hc
  refine ⟨h1, ?_, by omega, by rw [h10]; omega, fun hc2 => ?_⟩
  · rw [take_sn l c hc, h2, h7, h1, show j - c = upN (lowL l) (l.getD c 0) by omega, h9]
    rw [show IntKind.i64.wrap (l.getD c 0) = l.getD c 0 by rw [IntKind.wrap_i64]; omega]
  · have h11 := upTo_le (k := lowL l) hl.1 (c + 1) hc2
    rw [h10] at h11
    omega
theorem ruN_all {p : Pk} {L c : Nat} {out : List Int} (h : RuN p L out c p.high.length) : ∀ l, PackIs p l → out = l := fun l hl => by
  obtain ⟨h1, h2, h3, h4, h5⟩ := h l hl
  rcases Nat.lt_or_ge c l.length with hc | hc
  · have h6 := h5 hc
    have h7 := bit_lt (k := lowL l) hl.1 c hc
    rw [← hl.high] at h7
    omega
  · rw [h2, List.take_of_length_le hc]
theorem ruN_full {p : Pk} {L c j : Nat} {out : List Int} (h : RuN p L out c j) (hj : j < p.high.length) (hc : (c : Int) = p.many) : ∀ l, ¬ PackIs p l := fun l hl => by
  have h1 := ruN_in h hj l hl
  have h2 := hl.many
  omega
theorem no_pack3 {p : Pk} (h : ¬ (0 ≤ p.many ∧ p.many ≤ 60)) : ∀ l, ¬ PackIs p l := fun l hl => by
  have := hl.many
  have := hl.1.1
  omega
theorem no_pack4 {p : Pk} (h : ¬ (0 ≤ p.low ∧ p.low ≤ 14)) : ∀ l, ¬ PackIs p l := fun l hl => by
  have h1 := hl.low
  have h2 := lowL_le hl.1
  omega
theorem no_pack5 {p : Pk} (h : 200 < p.high.length) : ∀ l, ¬ PackIs p l := fun l hl => by
  have h1 := high_len hl.1
  rw [← hl.high] at h1
  have := hl.1.1
  omega
theorem pow_bd14 (k : Nat) (hk : k ≤ 14) : 1 ≤ (2 : Int) ^ k ∧ (2 : Int) ^ k ≤ 16384 := by
  have h1 : 2 ^ k ≤ 2 ^ 14 := Nat.pow_le_pow_right (by decide) hk
  have h2 : 1 ≤ 2 ^ k := Nat.one_le_two_pow
  have h3 : ((2 : Int) ^ k) = ((2 ^ k : Nat) : Int) := by push_cast; rfl
  have h4 : (2 : Nat) ^ 14 = 16384 := by decide
  rw [h3]; omega
theorem vbound2 (D L : Nat) (hD : D ≤ 200) (h1 : 1 ≤ (2 : Int) ^ L) (h2 : (2 : Int) ^ L ≤ 16384) : 0 ≤ (D : Int) * 2 ^ L ∧ (D : Int) * 2 ^ L ≤ 3276800 := by
  have h3 : (D : Int) * 2 ^ L ≤ 200 * 16384 := Int.mul_le_mul (by omega) h2 (by omega) (by omega)
  exact ⟨Int.mul_nonneg (by omega) (by omega), by omega⟩
theorem ListPost.no {p : Pk} {B : Bool} {A : List Int} {base : Nat} {w' : World} (hA : AnsL p B A) (h : ∀ l, ¬ PackIs p l) : ListPost B A base (.returned (.tuple #[.slice none 0 0, .bool false])) w' := by
  rcases hA with ⟨_, h1⟩ | ⟨h1, h2, _⟩
  · exact absurd h1 (h A)
  · subst h1 h2
    exact ⟨_, rfl, OwnS.nil _ _ _⟩
set_option maxHeartbeats 6400000 in
set_option maxRecDepth 100000 in
theorem specUnpack8 (p : Pk) (B : Bool) (A : List Int) (hA : AnsL p B A) (lv hv : Value) (w : World) (h : PkAt w lv hv p) (l1 : p.lows.length ≤ 1048576) (l2 : p.high.length ≤ 1048576) :
    Calls Try.prog 55 #[.agg #[.int .i64 p.many, .int .i64 p.low, lv, hv]] w fun e w' => ListPost B A w.heap.size e w' ∧ Below w.heap.size w w' := by
  obtain ⟨i0, hi, hzz⟩ := Option.map_eq_some_iff.1 infoI
  simp only [Prod.mk.injEq] at hzz
  obtain ⟨hz0, hz1, hz2⟩ := hzz
  have HS := hid h
  obtain ⟨la, lc, rfl⟩ := h.1.slice
  obtain ⟨ha, hc, rfl⟩ := h.2.slice
  have HNO := hid (fun (hn : ∀ l, ¬ PackIs p l) W => ListPost.no (base := w.heap.size) (w' := W) hA hn)
  obtain ⟨M, hM⟩ : ∃ M, M = p.many := ⟨_, rfl⟩
  obtain ⟨L0, hL⟩ : ∃ L, L = p.low := ⟨_, rfl⟩
  rw [← hM, ← hL]
  have HM := hid hM
  have HL := hid hL
  have HI1 := fun W => l1InB M 0 60 W
  have HI2 := fun W => l1InB L0 0 14 W
  have HAA := hid hA
  clear h
  by_cases h1 : 0 ≤ M ∧ M ≤ 60
  case neg =>
    rw [decide_eq_false h1] at HI1
    have HN := hid (HNO.out (no_pack3 (by rw [← hM]; exact h1)))
    clear hM hL h1 HS HNO HAA hA HI2
    go_enter Try.func55, Try.ntmps55
    go_wp2_with fail
    refine (HI1 _).mono ?_
    rintro e w1 ⟨rfl, rfl⟩
    clear HI1
    go_wp2
    go_returns
    exact ⟨HN.out _, by go_grown⟩
  rw [decide_eq_true h1] at HI1
  by_cases h2 : 0 ≤ L0 ∧ L0 ≤ 14
  case neg =>
    rw [decide_eq_false h2] at HI2
    have HN := hid (HNO.out (no_pack4 (by rw [← hL]; exact h2)))
    clear hM hL h1 h2 HS HNO HAA hA
    go_enter Try.func55, Try.ntmps55
    go_wp2_with fail
    refine (HI1 _).mono ?_
    rintro e w1 ⟨rfl, rfl⟩
    clear HI1
    go_wp2_with fail
    refine (HI2 _).mono ?_
    rintro e w1 ⟨rfl, rfl⟩
    clear HI2
    go_wp2
    go_returns
    exact ⟨HN.out _, by go_grown⟩
  rw [decide_eq_true h2] at HI2
  by_cases h3 : M = (p.lows.length : Int)
  case neg =>
    have hne : ((p.lows.length : Int) != M) = true := by simp; omega
    have HN := hid (HNO.out (no_pack1 (by rw [← hM]; exact h3)))
    clear hM hL h1 h2 h3 HS HNO HAA hA
    go_enter Try.func55, Try.ntmps55
    go_wp2_with fail
    refine (HI1 _).mono ?_
    rintro e w1 ⟨rfl, rfl⟩
    clear HI1
    go_wp2_with fail
    refine (HI2 _).mono ?_
    rintro e w1 ⟨rfl, rfl⟩
    clear HI2
    go_wp2
    go_returns
    exact ⟨HN.out _, by go_grown⟩
  have hne : ((p.lows.length : Int) != M) = false := by rw [h3]; simp
  by_cases h4 : 200 < p.high.length
  case pos =>
    have h4i : (200 : Int) < (p.high.length : Int) := by omega
    have HN := hid (HNO.out (no_pack5 h4))
    clear hM hL h1 h2 h3 HS HNO HAA hA
    go_enter Try.func55, Try.ntmps55
    go_wp2_with fail
    refine (HI1 _).mono ?_
    rintro e w1 ⟨rfl, rfl⟩
    clear HI1
    go_wp2_with fail
    refine (HI2 _).mono ?_
    rintro e w1 ⟨rfl, rfl⟩
    clear HI2
    go_wp2
    go_returns
    exact ⟨HN.out _, by go_grown⟩
  have h4i : decide ((200 : Int) < (p.high.length : Int)) = false := decide_eq_false (by omega)
  obtain ⟨L, hLL⟩ : ∃ L : Nat, L0 = (L : Int) := ⟨L0.toNat, by omega⟩
  subst hLL
  have hL14 : L ≤ 14 := by omega
  have hR0 := ruN_start p L (by omega)
  have HR0 := hid hR0
  have hn60 : p.lows.length ≤ 60 := by omega
  have hh200 : p.high.length ≤ 200 := by omega
  subst h3
  clear hM hL h1 h2 h4 hA hR0
  go_enter Try.func55, Try.ntmps55
  go_wp2_with fail
  refine (HI1 _).mono ?_
  rintro e w1 ⟨rfl, rfl⟩
  clear HI1
  go_wp2_with fail
  refine (HI2 _).mono ?_
  rintro e w1 ⟨rfl, rfl⟩
  clear HI2
  go_upto_region 3 with fail
  obtain ⟨W0, hW0⟩ : ∃ W0, W0 = w.alloc (.cells #[.int .i64 p.lows.length, .int .i64 L, .slice la p.lows.length lc, .slice ha p.high.length hc] 27) := ⟨_, rfl⟩
  have bA : BoxAt W0 w.heap.size [.int .i64 p.lows.length, .int .i64 L, .slice la p.lows.length lc, .slice ha p.high.length hc] := by rw [hW0]; exact boxNew w _ _
  have HK0 : Hid (Below w.heap.size w W0) := by show Below _ _ _; rw [hW0]; exact al_ _ _
  have HZ0 : Hid (w.heap.size + 1 ≤ W0.heap.size) := by show _ ≤ _; rw [hW0]; simp
  rw [← hW0]
  clear hW0
  have HBA := hid bA
  have b3 := bA.2.1 3 _ rfl
  have hbl := bA.1
  clear bA
  go_wp2
  go_loopw [4, 5, 38] (fun x a i wr => ∃ (j c d : Nat) (out : List Int), j ≤ p.high.length ∧ c ≤ p.lows.length ∧ j = c + d ∧ i = .int .i64 j ∧ a = .int .i64 d ∧ out.length = c ∧ Hid (RuN p L out c j) ∧ Hid (OwnS wr (w.heap.size + 1) 3 x c (intsV out)) ∧ Hid (BoxAt wr w.heap.size [.int .i64 p.lows.length, .int .i64 L, .slice la p.lows.length lc, .slice ha p.high.length hc]) ∧ Hid (w.heap.size + 1 ≤ wr.heap.size) ∧ Hid (Below w.heap.size w wr)) (fun _ _ i _ => p.high.length - (intOf i).toNat)
  case atStart => exact ⟨0, 0, 0, [], Nat.zero_le _, Nat.zero_le _, rfl, rfl, rfl, rfl, HR0, OwnS.nil _ _ _, HBA, HZ0, HK0⟩
  case round =>
    obtain ⟨j, c, d, out, hj, hcn, hjd, rfl, rfl, hout, hR, hO, hBX, hSZ, hKB⟩ := hrel
    obtain ⟨xa, xc, hxe⟩ := (rows_of_ownS hO.out).slice
    subst hxe
    clear HBA HK0 HZ0 b3 hbl HR0
    have b0 := hBX.out.2.1 0 _ rfl
    have b1 := hBX.out.2.1 1 _ rfl
    have b2 := hBX.out.2.1 2 _ rfl
    have hbl := hBX.out.1
    by_cases hlt : j < p.high.length
    · have hji : (j : Int) < (p.high.length : Int) := by omega
      obtain ⟨bh, oh, cp, hce, hch⟩ : ∃ bh oh cp, Value.slice ha p.high.length hc = .slice (some ⟨bh, oh, none⟩) p.high.length cp ∧ wr.cell? ⟨bh, oh + j, none⟩ = some (.bool (p.high.getD j false)) := by
        rcases (HS.out.2) with ⟨_, _, _, e⟩ | ⟨b, off, cap, e, hb, hcell⟩
        · rw [e] at hlt; cases hlt
        · exact ⟨b, off, cap, e, (hKB.out.cell (p := ⟨b, off + j, none⟩) hb).trans (hcell j hlt)⟩
      cases hce
      have HJD : Hid (j = c + d) := hjd
      have hd201 : d ≤ 200 := by omega
      cases hb : p.high.getD j false with
      | false =>
        have HR1 := hid (ruN_no hR.out hb)
        rw [hb] at hch
        clear hb hR hjd b0 b1 b2
        go_wp2
        refine ⟨?_, by simp [intOf]; omega⟩
        first | exact ⟨j + 1, c, d + 1, out, by omega, hcn, by have := HJD.out; omega, by go_num, by go_num, hout, HR1.out, hO, hBX, hSZ, hKB⟩ | ((repeat apply Exists.intro); exact ⟨⟨j + 1, c, d + 1, out, by omega, hcn, by have := HJD.out; omega, by go_num, by go_num, hout, HR1.out, hO, hBX, hSZ, hKB⟩, rfl⟩)
      | true =>
        by_cases hcf : c = p.lows.length
        · have hci : ((c : Int) == (p.lows.length : Int)) = true := by rw [hcf]; simp
          have HN := hid (HNO.out (ruN_full hR.out hlt (by rw [hcf]; exact HM.out)))
          rw [hb] at hch
          have hfin := hKB.out
          clear hb hR hjd b1 b2 hcf HNO HAA
          go_wp2
          go_returns
          exact ⟨HN.out _, hfin⟩
        · have hci : ((c : Int) == (p.lows.length : Int)) = false := by simp; omega
          have hcl : c < p.lows.length := by omega
          have HR1 := ruN_yes hR.out hlt hb (by omega)
          obtain ⟨t0, ht0⟩ : ∃ t0, t0 = p.lows.getD c 0 := ⟨_, rfl⟩
          rw [← ht0, show j - c = d by omega] at HR1
          obtain ⟨bl, off, cp2, hce2, hblw, hcl2⟩ : ∃ bl off cp, Value.slice la p.lows.length lc = .slice (some ⟨bl, off, none⟩) p.lows.length cp ∧ bl < w.heap.size ∧ w.cell? ⟨bl, off + c, none⟩ = some (.int .i64 t0) := by
            rcases HS.out.1 with ⟨_, _, _, e⟩ | ⟨b, off, cap, e, hb, hcell⟩
            · rw [e] at hcl; cases hcl
            · exact ⟨b, off, cap, e, hb, by rw [ht0]; exact hcell c hcl⟩
          cases hce2
          have hcw : wr.cell? ⟨bl, off + c, none⟩ = some (.int .i64 t0) := (hKB.out.cell (p := ⟨bl, off + c, none⟩) hblw).trans hcl2
          have HCW : Hid (∀ W, Below wr.heap.size wr W → W.cell? ⟨bl, off + c, none⟩ = some (.int .i64 t0)) := fun W hW => (hW.cell (p := ⟨bl, off + c, none⟩) (Nat.lt_of_lt_of_le hblw hKB.out.size)).trans hcw
          rw [hb] at hch
          have HR2 := hid HR1
          have hO1 := hO.out
          have hnb : w.heap.size ∉ obl (.slice xa c xc) := fun hm => by have := (own_lt hO1 _ hm).1; omega
          obtain ⟨hQ1, hQ2⟩ := pow_bd14 L hL14
          have hd200 : d ≤ 200 := by omega
          have hV := vbound2 d L hd200 hQ1 hQ2
          obtain ⟨V, hVe⟩ : ∃ V, (d : Int) * 2 ^ L = V := ⟨_, rfl⟩
          rw [hVe] at hV HR2
          have hVw : IntKind.i64.wrap V = V := by rw [IntKind.wrap_i64]; omega
          have hLw := conv64 L (by omega)
          obtain ⟨X, hX⟩ : ∃ X, IntKind.i64.wrap (V + t0) = X := ⟨_, rfl⟩
          rw [hX] at HR2
          have hci2 : (c : Int) < (p.lows.length : Int) := by omega
          have hSZ1 := hSZ.out
          clear hb hR hjd HR1 hcl2 ht0 hQ1 hQ2 hd200
          go_upto_region 12 with fail
          have HSK : Hid (∀ W, Below wr.heap.size wr W → (fun w' : World => w'.cell? ⟨w.heap.size, 1, none⟩ = some (.int .i64 (L : Int)) ∧ w'.cell? ⟨w.heap.size, 2, none⟩ = some (.slice (some ⟨bl, off, none⟩) p.lows.length lc) ∧ w'.cell? ⟨bl, off + c, none⟩ = some (.int .i64 t0)) W) := fun W hW => ⟨(hW.cell hbl).trans b1, (hW.cell hbl).trans b2, HCW.out W hW⟩
          have kd : Below wr.heap.size wr wr.drew := Below.drew (Below.refl _ _)
          have hHeld := HSK.out wr.drew kd
          clear b0 b1 b2 hch hcw
          refine wp_region_heldL (n := 16) (S := fun w' : World => w'.cell? ⟨w.heap.size, 1, none⟩ = some (.int .i64 (L : Int)) ∧ w'.cell? ⟨w.heap.size, 2, none⟩ = some (.slice (some ⟨bl, off, none⟩) p.lows.length lc) ∧ w'.cell? ⟨bl, off + c, none⟩ = some (.int .i64 t0)) (by kernel_rfl) rfl ?_
          refine takeL (i := 0) (v := ?_) rfl (by kernel_rfl) (by kernel_rfl) (by kernel_rfl) (fun _ _ _ h => h) rfl ?_ (by assumption) ?_
          rotate_left
          · intro w hSw; (try dsimp only at hSw); go_simp; (try with_reducible rfl)
          (try simp only [Act.put, List.setIfInBounds_toArray, List.set_cons_zero, List.set_cons_succ])
          refine takeL (i := 1) (v := ?_) rfl (by kernel_rfl) (by kernel_rfl) (by kernel_rfl) (fun _ _ _ h => h) rfl ?_ (by assumption) ?_
          rotate_left
          · intro w hSw; (try dsimp only at hSw); go_simp; (try with_reducible rfl)
          (try simp only [Act.put, List.setIfInBounds_toArray, List.set_cons_zero, List.set_cons_succ])
          refine takeL (i := 2) (v := ?_) rfl (by kernel_rfl) (by kernel_rfl) (by kernel_rfl) (fun _ _ _ h => h) rfl ?_ (by assumption) ?_
          rotate_left
          · intro w hSw; (try dsimp only at hSw); go_simp; (try with_reducible rfl)
          (try simp only [Act.put, List.setIfInBounds_toArray, List.set_cons_zero, List.set_cons_succ])
          refine takeL (i := 3) (v := ?_) rfl (by kernel_rfl) (by kernel_rfl) (by kernel_rfl) (fun _ _ _ h => h) rfl ?_ (by assumption) ?_
          rotate_left
          · intro w hSw; (try dsimp only at hSw); go_simp; (try with_reducible rfl)
          (try simp only [Act.put, List.setIfInBounds_toArray, List.set_cons_zero, List.set_cons_succ])
          refine takeL (i := 4) (v := ?_) rfl (by kernel_rfl) (by kernel_rfl) (by kernel_rfl) (fun _ _ _ h => h) rfl ?_ (by assumption) ?_
          rotate_left
          · intro w hSw; (try dsimp only at hSw); go_simp; (try with_reducible rfl)
          (try simp only [Act.put, List.setIfInBounds_toArray, List.set_cons_zero, List.set_cons_succ])
          refine takeL (i := 5) (v := ?_) rfl (by kernel_rfl) (by kernel_rfl) (by kernel_rfl) (fun _ _ _ h => h) rfl ?_ (by assumption) ?_
          rotate_left
          · intro w hSw; (try dsimp only at hSw); go_simp; (try with_reducible rfl)
          (try simp only [Act.put, List.setIfInBounds_toArray, List.set_cons_zero, List.set_cons_succ])
          refine takeL (i := 6) (v := ?_) rfl (by kernel_rfl) (by kernel_rfl) (by kernel_rfl) (fun _ _ _ h => h) rfl ?_ (by assumption) ?_
          rotate_left
          · intro w hSw; (try dsimp only at hSw); go_simp; (try with_reducible rfl)
          (try simp only [Act.put, List.setIfInBounds_toArray, List.set_cons_zero, List.set_cons_succ])
          refine takeL (i := 7) (v := ?_) rfl (by kernel_rfl) (by kernel_rfl) (by kernel_rfl) (fun _ _ _ h => h) rfl ?_ (by assumption) ?_
          rotate_left
          · intro w hSw; (try dsimp only at hSw); go_simp; (try with_reducible rfl)
          (try simp only [Act.put, List.setIfInBounds_toArray, List.set_cons_zero, List.set_cons_succ])
          refine takeL (i := 8) (v := ?_) rfl (by kernel_rfl) (by kernel_rfl) (by kernel_rfl) (fun _ _ _ h => h) rfl ?_ (by assumption) ?_
          rotate_left
          · intro w hSw; (try dsimp only at hSw); go_simp; (try with_reducible rfl)
          (try simp only [Act.put, List.setIfInBounds_toArray, List.set_cons_zero, List.set_cons_succ])
          refine takeL (i := 9) (v := ?_) rfl (by kernel_rfl) (by kernel_rfl) (by kernel_rfl) (fun _ _ _ h => h) rfl ?_ (by assumption) ?_
          rotate_left
          · intro w hSw; (try dsimp only at hSw); go_simp; (try with_reducible rfl)
          (try simp only [Act.put, List.setIfInBounds_toArray, List.set_cons_zero, List.set_cons_succ])
          refine takeL (i := 10) (v := ?_) rfl (by kernel_rfl) (by kernel_rfl) (by kernel_rfl) (fun _ _ _ h => h) rfl ?_ (by assumption) ?_
          rotate_left
          · intro w hSw; (try dsimp only at hSw); go_simp; (try with_reducible rfl)
          (try simp only [Act.put, List.setIfInBounds_toArray, List.set_cons_zero, List.set_cons_succ])
          refine takeL (i := 11) (v := ?_) rfl (by kernel_rfl) (by kernel_rfl) (by kernel_rfl) (fun _ _ _ h => h) rfl ?_ (by assumption) ?_
          rotate_left
          · intro w hSw; (try dsimp only at hSw); go_simp; (try with_reducible rfl)
          (try simp only [Act.put, List.setIfInBounds_toArray, List.set_cons_zero, List.set_cons_succ])
          refine takeL (i := 12) (v := ?_) rfl (by kernel_rfl) (by kernel_rfl) (by kernel_rfl) (fun _ _ _ h => h) rfl ?_ (by assumption) ?_
          rotate_left
          · intro w hSw; (try dsimp only at hSw); go_simp; (try with_reducible rfl)
          (try simp only [Act.put, List.setIfInBounds_toArray, List.set_cons_zero, List.set_cons_succ])
          refine comesL (i := 13) rfl rfl (by kernel_rfl) (fun K hK => ?_)
          go_simp
          obtain ⟨W7, hW7⟩ : ∃ W7, W7 = (wr.alloc (.cells #[.int .i64 X] 3)).drew := ⟨_, rfl⟩
          have hrw7 : RowsAt W7 1 (.slice (some ⟨wr.heap.size, 0, none⟩) 1 1) 1 [.int .i64 X] := by rw [hW7]; exact (news1 wr (.int .i64 X) 3).below (by go_grown)
          have k7 : Below wr.heap.size wr W7 := by rw [hW7]; go_grown
          rw [← hW7]
          clear hW7
          refine hK.out _ _ (HSK.out W7 k7) (fun hH2 => ?_)
          clear hK K
          replace hHeld := hH2
          clear hH2
          (try simp only [Act.put, List.setIfInBounds_toArray, List.set_cons_zero, List.set_cons_succ])
          refine comesL (i := 14) rfl rfl (by kernel_rfl) (fun K hK => ?_)
          refine wpStepI wr k7 rfl (.tmp 51) (.tmp 64) rfl (w.heap.size + 1) hSZ1 (.slice xa c xc) c (intsV out) hO1 (by omega) X hrw7 rfl rfl ?_
          intro qa qc w8 ho8 hg8 he8
          have HB8 := hid ((hBX.out.below k7).offI hg8 hnb)
          have HO8 : Hid (OwnS w8 (w.heap.size + 1) 3 (.slice qa (c + 1) qc) (c + 1) (intsV (out ++ [X]))) := by
            show OwnS _ _ _ _ _ _
            simpa [intsV] using ho8
          have k8 : Below wr.heap.size wr w8 ∨ True := .inr trivial
          have kb8 : Below (w.heap.size + 1) wr w8 := (k7.mono hSZ1).trans ((below_own (hO1.below k7) (Nat.le_trans hSZ1 k7.size) hg8))
          have HK8 : Hid (Below w.heap.size w w8) := hKB.out.trans (kb8.mono (by omega))
          have HS8 : Hid (w.heap.size + 1 ≤ w8.heap.size) := Nat.le_trans hSZ1 kb8.size
          have g1 := HB8.out.2.1 1 _ rfl
          have g2 := HB8.out.2.1 2 _ rfl
          have g3 : w8.cell? ⟨bl, off + c, none⟩ = some (.int .i64 t0) := (kb8.cell (p := ⟨bl, off + c, none⟩) (show bl < w.heap.size + 1 by omega)).trans (HCW.out wr (Below.refl _ _))
          clear ho8 hg8 he8 k8 kb8 k7 hrw7 hO1 hHeld
          (try dsimp only)
          refine hK.out _ _ ⟨g1, g2, g3⟩ (fun hH2 => ?_)
          clear hK K HSK kd HCW
          have hHeld := hH2
          clear hH2
          (try simp only [Act.put, List.setIfInBounds_toArray, List.set_cons_zero, List.set_cons_succ])
          refine takeL (i := 15) (v := ?_) rfl (by kernel_rfl) (by kernel_rfl) (by kernel_rfl) (fun _ _ _ h => h) rfl ?_ (by assumption) ?_
          rotate_left
          · intro w hSw; (try dsimp only at hSw); go_simp; (try with_reducible rfl)
          (try simp only [Act.put, List.setIfInBounds_toArray, List.set_cons_zero, List.set_cons_succ])
          refine wpAnyH_done (by kernel_rfl) ?_ _
          clear hHeld g1 g2 g3
          go_wp2
          refine ⟨?_, by simp [intOf]; omega⟩
          first | exact ⟨j + 1, c + 1, d, _, by omega, by omega, by have := HJD.out; omega, by go_num, by go_num, by simp [hout], HR2.out, HO8.out, HB8.out, HS8.out, HK8.out⟩ | ((repeat apply Exists.intro); exact ⟨⟨j + 1, c + 1, d, _, by omega, by omega, by have := HJD.out; omega, by go_num, by go_num, by simp [hout], HR2.out, HO8.out, HB8.out, HS8.out, HK8.out⟩, rfl⟩)
    · have hje : j = p.high.length := by omega
      have hR2 := hR.out
      rw [hje] at hR2
      have HYES := hid (ruN_all hR2)
      have hji : ¬ (j : Int) < (p.high.length : Int) := by omega
      have hol : out.length ≤ 60 := by omega
      have HOI := hid (OwnA.ofInts (by rw [hout]; exact hO.out : OwnS wr (w.heap.size + 1) 3 (.slice xa c xc) out.length (intsV out))).1.ints
      have HOF : Hid (OwnS wr w.heap.size 3 (.slice xa c xc) out.length (intsV out)) := by
        show OwnS _ _ _ _ _ _
        rw [hout]; exact own_mono hO.out (by omega)
      have HSW := hid (HS.out.below hKB.out)
      have HKW := hid hKB.out
      rw [← hout] at hcn HOI HOF ⊢
      clear hR hR2 hO hKB HS hjd hout b0 b1 b2 hbl
      by_cases hg : GoodL out
      case neg =>
        have HG := fun W hW => specGoodL (.slice xa out.length xc) out false ⟨fun h => (by cases h), fun h => absurd h hg⟩ W hW (by omega)
        have HN := hid (HNO.out (fun l hl => hg (HYES.out l hl ▸ hl.1)))
        clear hg HYES HNO HAA
        go_wp2_with fail
        refine (HG _ HOI.out).mono ?_
        rintro e w1 ⟨rfl, hb1⟩
        have hfin := HKW.out.trans (hb1.mono HKW.out.size)
        clear HG hb1
        go_wp2
        go_returns
        exact ⟨HN.out _, hfin⟩
      have HG := fun W hW => specGoodL (.slice xa out.length xc) out true ⟨fun _ => hg, fun _ => rfl⟩ W hW (by omega)
      have HP := fun W hW => specPacked (.slice xa out.length xc) out W hW hg
      have hhl := high_len hg
      obtain ⟨q, hq⟩ : ∃ q, q = packM out := ⟨_, rfl⟩
      have hq1 : q.many = (out.length : Int) := by rw [hq]; rfl
      have hq2 : q.low = (lowL out : Nat) := by rw [hq]; rfl
      have hq3 : q.high.length ≤ 180 := by rw [hq]; simp only [packM]; omega
      have hq4 : q.lows.length ≤ 60 := by rw [hq]; simp [packM]; omega
      have HNE : Hid (q ≠ p → ∀ W, ListPost B A w.heap.size (.returned (.tuple #[.slice none 0 0, .bool false])) W) := fun hne => HNO.out (fun l hl => hne (by rw [hq, HYES.out l hl]; exact hl.2.symm))
      have HEQ : Hid (q = p → B = true ∧ A = out) := fun he => by
        have hpk : PackIs p out := ⟨hg, by rw [← he, hq]⟩
        rcases HAA.out with ⟨h1, h2⟩ | ⟨_, _, h2⟩
        · exact ⟨h1, (HYES.out A h2).symm⟩
        · exact absurd hpk (h2 out)
      rw [← hq, ← hq2] at HP
      obtain ⟨LL, hLL⟩ : ∃ LL, LL = q.low := ⟨_, rfl⟩
      rw [← hLL] at HP
      have HMM := hid hq1
      have HLL := hid hLL
      clear hg hhl hq hq1 hq2 hLL HNO HAA HYES
      go_wp2_with fail
      refine (HG _ HOI.out).mono ?_
      rintro e w1 ⟨rfl, hb1⟩
      have HOI1 := hid (HOI.out.below hb1)
      have HOF1 := hid (HOF.out.below hb1)
      have HSW1 := hid (HSW.out.below hb1)
      have HBX1 := hid (hBX.out.below hb1)
      have HK1 := hid (HKW.out.trans (hb1.mono HKW.out.size))
      clear HG hb1 HOI HOF HSW hBX HKW hSZ
      go_wp2_with fail
      refine (HP _ HOI1.out).mono ?_
      rintro e w2 ⟨lx, hx, rfl, hpk, hb2⟩
      have HPK := hid hpk.at
      obtain ⟨na, nc, hne2⟩ := hpk.1.slice
      subst hne2
      obtain ⟨ma, mc, hme⟩ := hpk.2.1.slice
      subst hme
      have HOF2 := hid (HOF1.out.below hb2)
      have HSW2 := hid (HSW1.out.below hb2)
      have HBX2 := hid (HBX1.out.below hb2)
      have HK2 := hid (HK1.out.trans (hb2.mono HK1.out.size))
      have hwb := HK2.out.size
      clear HP hb2 hpk HOI1 HOF1 HSW1 HBX1 HK1
      have b0 := HBX2.out.2.1 0 _ rfl
      have b1 := HBX2.out.2.1 1 _ rfl
      have b2 := HBX2.out.2.1 2 _ rfl
      have b3 := HBX2.out.2.1 3 _ rfl
      have hbl := HBX2.out.1
      by_cases e1 : out.length = p.lows.length
      case neg =>
        have HN := hid (HNE.out (fun he => e1 (by have h1 := HMM.out; rw [he] at h1; have h2 := HM.out; omega)))
        have i1 : ((out.length : Int) != (p.lows.length : Int)) = true := by simp; omega
        have hfin := HK2.out
        clear HNE HEQ HMM HLL
        go_wp2
        go_returns
        exact ⟨HN.out _, by go_grown⟩
      have i1 : ((out.length : Int) != (p.lows.length : Int)) = false := by rw [e1]; simp
      by_cases e2 : LL = (L : Int)
      case neg =>
        have HN := hid (HNE.out (fun he => e2 (by have h1 := HLL.out; rw [he] at h1; have h2 := HL.out; omega)))
        have i2 : (LL != (L : Int)) = true := by simpa using e2
        have hfin := HK2.out
        clear HNE HEQ HMM HLL e1
        go_wp2
        go_returns
        exact ⟨HN.out _, by go_grown⟩
      have i2 : (LL != (L : Int)) = false := by rw [e2]; simp
      have HSM := fun W hW hV => l1SameI (.slice na q.lows.length nc) (.slice la p.lows.length lc) q.lows p.lows W hW hV (by omega) l1
      by_cases e3 : q.lows = p.lows
      case neg =>
        rw [decide_eq_false e3] at HSM
        have HN := hid (HNE.out (fun he => e3 (by rw [he])))
        have HKF := hid HK2.out
        clear HNE HEQ HMM HLL e1 e2 e3
        go_wp2_with fail
        refine (HSM _ (HPK.out.1.below (by go_grown)) (HSW2.out.1.below (by go_grown))).mono ?_
        rintro e w3 ⟨rfl, hb3⟩
        have hfin : Below w.heap.size w w3 := HKF.out.trans ((Below.trans (al_ _ _) (hb3.mono (by simp))).mono HKF.out.size)
        clear hb3 HSM
        go_wp2
        go_returns
        exact ⟨HN.out _, hfin⟩
      rw [decide_eq_true e3] at HSM
      by_cases e4 : q.high.length = p.high.length
      case neg =>
        have i4 : ((q.high.length : Int) != (p.high.length : Int)) = true := by simp; omega
        have HN := hid (HNE.out (fun he => e4 (by rw [he])))
        have HKF := hid HK2.out
        clear HNE HEQ HMM HLL e1 e2 e3
        go_wp2_with fail
        refine (HSM _ (HPK.out.1.below (by go_grown)) (HSW2.out.1.below (by go_grown))).mono ?_
        rintro e w3 ⟨rfl, hb3⟩
        have hfin : Below w.heap.size w w3 := HKF.out.trans ((Below.trans (al_ _ _) (hb3.mono (by simp))).mono HKF.out.size)
        have bxx := boxOf1 hb3
        have HBX3 := (HBX2.out.below (al_ _ _)).below hb3
        have y3 := bxx.2.1 3 _ rfl
        have yl := bxx.1
        have z3 := HBX3.2.1 3 _ rfl
        have zl := HBX3.1
        clear hb3 HSM bxx HBX3 b0 b1 b2 b3 hbl
        go_wp2
        go_returns
        exact ⟨HN.out _, hfin⟩
      have i4 : ((q.high.length : Int) != (p.high.length : Int)) = false := by rw [e4]; simp
      have HALL : Hid ((∀ i, i < q.high.length → q.high.getD i false = p.high.getD i false) → B = true ∧ A = out) := fun h => HEQ.out (pk_ext (by have h1 := HMM.out; have h2 := HM.out; omega) (by have h1 := HLL.out; have h2 := HL.out; omega) e3 (ext_getDB e4 h))
      have HDIF : Hid (∀ i, q.high.getD i false ≠ p.high.getD i false → ∀ W, ListPost B A w.heap.size (.returned (.tuple #[.slice none 0 0, .bool false])) W) := fun i hi => HNE.out (fun he => hi (by rw [he]))
      have HKF := hid HK2.out
      have HE4 := hid e4
      clear HNE HEQ HMM HLL e1 e2 e3 e4
      go_wp2_with fail
      refine (HSM _ (HPK.out.1.below (by go_grown)) (HSW2.out.1.below (by go_grown))).mono ?_
      rintro e w3 ⟨rfl, hb3⟩
      have k3 : Below w2.heap.size w2 w3 := Below.trans (al_ _ _) (hb3.mono (by simp))
      have HK3 : Hid (Below w.heap.size w w3) := HKF.out.trans (k3.mono HKF.out.size)
      have bxx := boxOf1 hb3
      have HBX3 := (HBX2.out.below (al_ _ _)).below hb3
      have y3 := bxx.2.1 3 _ rfl
      have yl := bxx.1
      have z3 := HBX3.2.1 3 _ rfl
      have zl := HBX3.1
      have HYC : Hid (∀ W, Below w3.heap.size w3 W → W.cell? ⟨w2.heap.size, 3, none⟩ = some (.slice ma q.high.length mc) ∧ W.cell? ⟨w.heap.size, 3, none⟩ = some (.slice ha p.high.length hc)) := fun W hW => ⟨(hW.cell (p := ⟨w2.heap.size, 3, none⟩) yl).trans (by rw [y3]), (hW.cell (p := ⟨w.heap.size, 3, none⟩) zl).trans (by rw [z3])⟩
      have HPK3 := hid (HPK.out.2.below k3)
      have HSW3 := hid (HSW2.out.2.below k3)
      have HOF3 := hid (HOF2.out.below k3)
      have hwz : w.heap.size < w3.heap.size := zl
      clear hb3 HSM bxx HBX3 b0 b1 b2 b3 hbl k3 HPK HSW2 HOF2 HBX2 HKF HK2
      go_wp2
      clear y3 yl z3 zl
      go_loopw [104] (fun i wx => ∃ k : Nat, k ≤ q.high.length ∧ i = .int .i64 k ∧ Hid (∀ j, j < k → q.high.getD j false = p.high.getD j false) ∧ Below w3.heap.size w3 wx) (fun i _ => q.high.length - (intOf i).toNat)
      case atStart => exact ⟨0, Nat.zero_le _, rfl, fun j hj => by omega, by go_grown⟩
      case round =>
        obtain ⟨k, hk, rfl, hall, kb⟩ := hrel
        by_cases hlt : k < q.high.length
        · have hki : (k : Int) < (q.high.length : Int) := by omega
          have hki2 : (k : Int) < (p.high.length : Int) := by have := HE4.out; omega
          obtain ⟨hy, hz⟩ := HYC.out _ kb
          obtain ⟨b5, o5, c5, hc5, hcell5⟩ : ∃ b o cp, Value.slice ma q.high.length mc = .slice (some ⟨b, o, none⟩) q.high.length cp ∧ wr.cell? ⟨b, o + k, none⟩ = some (.bool (q.high.getD k false)) := by
            rcases HPK3.out with ⟨_, _, _, e⟩ | ⟨b, off, cap, e, hb, hcell⟩
            · rw [e] at hlt; cases hlt
            · exact ⟨b, off, cap, e, (kb.cell (p := ⟨b, off + k, none⟩) hb).trans (hcell k hlt)⟩
          cases hc5
          obtain ⟨b6, o6, c6, hc6, hcell6⟩ : ∃ b o cp, Value.slice ha p.high.length hc = .slice (some ⟨b, o, none⟩) p.high.length cp ∧ wr.cell? ⟨b, o + k, none⟩ = some (.bool (p.high.getD k false)) := by
            rcases HSW3.out with ⟨_, _, _, e⟩ | ⟨b, off, cap, e, hb, hcell⟩
            · rw [e] at hki2; simp at hki2; omega
            · exact ⟨b, off, cap, e, (kb.cell (p := ⟨b, off + k, none⟩) hb).trans (hcell k (by have := HE4.out; omega))⟩
          cases hc6
          have hzl : w.heap.size < wr.heap.size := Nat.lt_of_lt_of_le hwz kb.size
          by_cases he : q.high.getD k false = p.high.getD k false
          · have HA1 : Hid (∀ j, j < k + 1 → q.high.getD j false = p.high.getD j false) := fun j hj => by
              by_cases e : j = k
              · rw [e]; exact he
              · exact hall.out j (by omega)
            rw [he] at hcell5
            generalize p.high.getD k false = t at *
            have ht : (t != t) = false := by cases t <;> rfl
            have HKB := hid kb
            clear hall he kb
            go_wp2
            exact ⟨⟨k + 1, by omega, by go_num, HA1.out, HKB.out⟩, by simp [intOf]; omega⟩
          · have HN := hid (HDIF.out k he)
            have hne2 : (q.high.getD k false != p.high.getD k false) = true := by simpa using he
            have hfin : Below w.heap.size w wr := HK3.out.trans (kb.mono HK3.out.size)
            generalize p.high.getD k false = t at *
            generalize q.high.getD k false = t' at *
            have htt : t' = !t := by cases t <;> cases t' <;> simp_all
            clear hall he kb HDIF HALL hne2
            subst htt
            cases t
            all_goals
              simp only [Bool.not_true, Bool.not_false] at hcell5
              go_wp2
              go_returns
              exact ⟨HN.out _, hfin⟩
        · have hke : k = q.high.length := by omega
          have hki : ¬ (k : Int) < (q.high.length : Int) := by omega
          have HE := hid (HALL.out (fun i hi => hall.out i (by omega)))
          have hfin : Below w.heap.size w wr := HK3.out.trans (kb.mono HK3.out.size)
          have HOFF := hid (HOF3.out.below kb)
          clear hall kb HALL HDIF
          go_wp2
          go_returns
          exact ⟨⟨_, by rw [HE.out.1]; rfl, by rw [HE.out.2]; exact HOFF.out⟩, hfin⟩
end Go.Proofs.Ytaafdcghafbfhaa
