/- Contracts of listOf and what goes through it, of the program. Condition: the packed list's rows lie in memory. -/
import Derived.Test.YtaafdcghafbfhaaImplRdN
import Derived.Test.YtaafdcghafbfhaaSameL
import Derived.Test.YtaafdcghafbfhaaSwapG
namespace Go.Proofs.Ytaafdcghafbfhaa
open Go.ChangeShapes Go.WideShapes Go.ChangeAt Go.RowKit Go.Deep
set_option linter.unusedVariables false
attribute [local go_sem ↓] Go.wp_at_zero Go.wp_at_succ

theorem pk_ext {p q : Pk} (h1 : p.many = q.many) (h2 : p.low = q.low) (h3 : p.lows = q.lows) (h4 : p.high = q.high) : p = q := by
  cases p; cases q; simp_all
set_option maxHeartbeats 3200000 in
theorem implSame (p q : Pk) (B : Bool) (hB : B = true ↔ p = q) (la lb ha hb : Value) (w : World) (h : PkAt w la ha p) (g : PkAt w lb hb q) (l1 : p.lows.length ≤ 1048576) (l2 : q.lows.length ≤ 1048576) (l3 : p.high.length ≤ 1048576) (l4 : q.high.length ≤ 1048576) :
    Calls Try.prog 74 #[.agg #[.int .i64 p.many, .int .i64 p.low, la, ha], .agg #[.int .i64 q.many, .int .i64 q.low, lb, hb]] w fun e w' => e = .returned (.bool B) ∧ Below w.heap.size w w' := by
  have H1 := hid h
  have H2 := hid g
  obtain ⟨xa, xc, rfl⟩ := h.1.slice
  obtain ⟨ya, yc, rfl⟩ := h.2.slice
  obtain ⟨za, zc, rfl⟩ := g.1.slice
  obtain ⟨ua, uc, rfl⟩ := g.2.slice
  have HE := fun W hW hV => equalI (.slice xa p.lows.length xc) (.slice za q.lows.length zc) p.lows q.lows W hW hV l1 l2
  have HF := fun W hW hV => equalB (.slice ya p.high.length yc) (.slice ua q.high.length uc) p.high q.high W hW hV l3 l4
  obtain ⟨M, hM⟩ : ∃ M, M = p.many := ⟨_, rfl⟩
  obtain ⟨L, hL⟩ : ∃ L, L = p.low := ⟨_, rfl⟩
  obtain ⟨M2, hM2⟩ : ∃ M, M = q.many := ⟨_, rfl⟩
  obtain ⟨L2, hL2⟩ : ∃ L, L = q.low := ⟨_, rfl⟩
  rw [← hM, ← hL, ← hM2, ← hL2]
  by_cases e1 : M = M2
  · by_cases e2 : L = L2
    · have i1 : (M == M2) = true := by simp [e1]
      have i2 : (L == L2) = true := by simp [e2]
      by_cases e3 : p.lows = q.lows
      · rw [decide_eq_true e3] at HE
        have hBe : decide (p.high = q.high) = B := by
          cases B
          · simp; intro e4; exact absurd (hB.2 (pk_ext (by rw [← hM, ← hM2, e1]) (by rw [← hL, ← hL2, e2]) e3 e4)) (by simp)
          · simp; exact congrArg Pk.high (hB.1 rfl)
        rw [hBe] at HF
        subst e1
        subst e2
        clear h g hM hL hM2 hL2 e3 hBe hB
        go_enter Try.func74, Try.ntmps74
        go_wp2_with fail
        refine (HE _ (H1.out.1.below (by go_grown)) (H2.out.1.below (by go_grown))).mono ?_
        rintro e w1 ⟨rfl, hb1⟩
        obtain ⟨hc1, hf1⟩ := bcell hb1
        have hz1 := hb1.size
        try simp only [World.size_drew] at hz1
        try simp only [World.size_setCell] at hz1
        try simp only [World.size_alloc] at hz1
        have hz1_0 : w.heap.size < w1.heap.size := by omega
        have hz1_1 : w.heap.size + 1 < w1.heap.size := by omega
        clear hz1
        have k1 : Below w.heap.size w w1 := by
          refine Below.trans ?_ (hb1.mono ?_)
          · go_grown
          · go_size
        have hl1 : w.heap.size ≤ w1.heap.size := k1.size
        clear hb1
        go_wp2_with fail
        refine (HF _ (H1.out.2.below (by go_grown)) (H2.out.2.below (by go_grown))).mono ?_
        rintro e w2 ⟨rfl, hb2⟩
        obtain ⟨hc2, hf2⟩ := bcell hb2
        have hz2 := hb2.size
        try simp only [World.size_drew] at hz2
        try simp only [World.size_setCell] at hz2
        try simp only [World.size_alloc] at hz2
        have hz2_0 : w.heap.size < w2.heap.size := by omega
        have hz2_1 : w.heap.size + 1 < w2.heap.size := by omega
        try have hy2_1 : w1.heap.size < w2.heap.size := (by omega)
        clear hz2
        have k2 : Below w.heap.size w w2 := by
          refine Below.trans ?_ (hb2.mono ?_)
          · go_grown
          · go_size
        have hl2 : w.heap.size ≤ w2.heap.size := k2.size
        clear hb2
        go_wp2
        go_returns
        exact ⟨rfl, by go_grown⟩
      · rw [decide_eq_false e3] at HE
        have HN : Hid (B = false) := by
          show _ = _
          cases B
          · rfl
          · exact absurd (congrArg Pk.lows (hB.1 rfl)) e3
        subst e1
        subst e2
        clear h g hM hL hM2 hL2 e3 hB HF
        go_enter Try.func74, Try.ntmps74
        go_wp2_with fail
        refine (HE _ (H1.out.1.below (by go_grown)) (H2.out.1.below (by go_grown))).mono ?_
        rintro e w1 ⟨rfl, hb1⟩
        obtain ⟨hc1, hf1⟩ := bcell hb1
        have hz1 := hb1.size
        try simp only [World.size_drew] at hz1
        try simp only [World.size_setCell] at hz1
        try simp only [World.size_alloc] at hz1
        have hz1_0 : w.heap.size < w1.heap.size := by omega
        have hz1_1 : w.heap.size + 1 < w1.heap.size := by omega
        clear hz1
        have k1 : Below w.heap.size w w1 := by
          refine Below.trans ?_ (hb1.mono ?_)
          · go_grown
          · go_size
        have hl1 : w.heap.size ≤ w1.heap.size := k1.size
        clear hb1
        go_wp2
        go_returns
        exact ⟨by rw [HN.out]; rfl, by go_grown⟩
    · have i1 : (M == M2) = true := by simp [e1]
      have i2 : (L == L2) = false := by simp [e2]
      have HN : Hid (B = false) := by
        show _ = _
        cases B
        · rfl
        · exact absurd (congrArg Pk.low (hB.1 rfl)) (by rw [← hL, ← hL2]; exact e2)
      clear h g hM hL hM2 hL2 e1 e2 hB HF HE
      go_enter Try.func74, Try.ntmps74
      go_wp2
      go_returns
      exact ⟨by rw [HN.out]; rfl, by go_grown⟩
  · have i1 : (M == M2) = false := by simp [e1]
    have HN : Hid (B = false) := by
      show _ = _
      cases B
      · rfl
      · exact absurd (congrArg Pk.many (hB.1 rfl)) (by rw [← hM, ← hM2]; exact e1)
    clear h g hM hL hM2 hL2 e1 hB HF HE
    go_enter Try.func74, Try.ntmps74
    go_wp2
    go_returns
    exact ⟨by rw [HN.out]; rfl, by go_grown⟩
/-- What a packed list is the packing of, and whether there is such a list. -/
def AnsL (p : Pk) (B : Bool) (A : List Int) : Prop := (B = true ∧ PackIs p A) ∨ (B = false ∧ A = [] ∧ ∀ l, ¬ PackIs p l)
theorem ans_ex (p : Pk) : ∃ B A, AnsL p B A := by
  by_cases h : ∃ l, PackIs p l
  · obtain ⟨l, hl⟩ := h
    exact ⟨true, l, .inl ⟨rfl, hl⟩⟩
  · exact ⟨false, [], .inr ⟨rfl, rfl, fun l hl => h ⟨l, hl⟩⟩⟩
theorem AnsL.len {p : Pk} {B : Bool} {A : List Int} (h : AnsL p B A) : A.length ≤ 60 := by
  rcases h with ⟨_, h⟩ | ⟨_, h, _⟩
  · exact h.1.1
  · rw [h]; simp
/-- The answer of listOf. -/
def ListPost (B : Bool) (A : List Int) (base : Nat) (e : Ending) (w' : World) : Prop := ∃ lv, e = .returned (.tuple #[lv, .bool B]) ∧ OwnS w' base 3 lv A.length (intsV A)
set_option maxHeartbeats 6400000 in
set_option maxRecDepth 100000 in
theorem implListOf (p : Pk) (B : Bool) (A : List Int) (hA : AnsL p B A) (lv hv : Value) (w : World) (h : PkAt w lv hv p) (l1 : p.lows.length ≤ 1048576) (l2 : p.high.length ≤ 1048576) :
    Calls Try.prog 53 #[.agg #[.int .i64 p.many, .int .i64 p.low, lv, hv]] w fun e w' => ListPost B A w.heap.size e w' ∧ Below w.heap.size w w' := by
  have HS := hid h
  obtain ⟨la, lc, rfl⟩ := h.1.slice
  obtain ⟨ha, hc, rfl⟩ := h.2.slice
  have HRD := fun W hW => implRdN p (.slice la p.lows.length lc) (.slice ha p.high.length hc) W hW l1 l2
  have HSM := fun q Bq hq lb hb W hW hV hl1 hl2 => implSame q p Bq hq lb (.slice la p.lows.length lc) hb (.slice ha p.high.length hc) W hW hV hl1 l1 hl2 l2
  obtain ⟨M, hM⟩ : ∃ M, M = p.many := ⟨_, rfl⟩
  obtain ⟨L, hL⟩ : ∃ L, L = p.low := ⟨_, rfl⟩
  rw [← hM, ← hL] at HRD HSM ⊢
  have HAA := hid hA
  clear h hM hL hA
  go_enter Try.func53, Try.ntmps53
  go_wp2_with fail
  refine (HRD _ (HS.out.below (by go_grown))).mono ?_
  rintro e w1 ⟨⟨ok, lv, out, rfl, ho, hlen, hno, hyes⟩, hb1⟩
  have bA := (boxNew w #[.int .i64 M, .int .i64 L, .slice la p.lows.length lc, .slice ha p.high.length hc] 27).below hb1
  have HK1 : Hid (Below w.heap.size w w1) := (al_ w _).trans (hb1.mono (by simp))
  have HO1 := hid (own_mono (base' := w.heap.size) ho (by simp))
  obtain ⟨xa, xc, hxe⟩ := (rows_of_ownS ho).slice
  subst hxe
  have HBA := hid bA
  have HS1 := hid (HS.out.below HK1.out)
  clear HRD hb1 ho bA HS
  cases ok with
  | false =>
    obtain ⟨hnil, hnone⟩ := hno rfl
    have HE : Hid (B = false ∧ A = []) := by
      rcases HAA.out with ⟨_, h⟩ | ⟨h1, h2, _⟩
      · exact absurd h (hnone A)
      · exact ⟨h1, h2⟩
    clear hyes hno hnone hnil
    have hfin := HK1.out
    go_upto_region 2 with fail
    go_region
    all_goals go_wp2
    all_goals go_returns
    all_goals exact ⟨⟨_, by rw [HE.out.1]; rfl, by rw [HE.out.2]; exact OwnS.nil _ _ _⟩, by go_grown⟩
  | true =>
    have HYES := hid hyes
    clear hno hyes
    by_cases hg : GoodL out
    · have h60 := hg.1
      have hhl := high_len hg
      obtain ⟨S, hSe⟩ : ∃ S : Bool, S = true ↔ packM out = p := by
        by_cases e : packM out = p
        · exact ⟨true, by simp [e]⟩
        · exact ⟨false, by simp [e]⟩
      have HG := fun W hW => implGoodL (.slice xa out.length xc) out true ⟨fun _ => hg, fun _ => rfl⟩ W hW (by omega)
      have HP := fun W hW => implPacked (.slice xa out.length xc) out W hW hg
      have HSQ := fun lb hb W hW hV => HSM (packM out) S hSe lb hb W hW hV (by simp [packM]; omega) (by simp only [packM]; omega)
      have HE : Hid ((S = true → B = true ∧ A = out) ∧ (S = false → B = false ∧ A = [])) := by
        refine ⟨fun hs => ?_, fun hs => ?_⟩
        · have hp : PackIs p out := ⟨hg, (hSe.1 hs).symm⟩
          rcases HAA.out with ⟨h1, h⟩ | ⟨_, _, h⟩
          · exact ⟨h1, (HYES.out A h).symm⟩
          · exact absurd hp (h out)
        · rcases HAA.out with ⟨h1, h⟩ | ⟨h1, h2, h⟩
          · have h3 := HYES.out A h
            rw [← h3] at h
            have := hSe.2 h.2.symm
            rw [hs] at this; cases this
          · exact ⟨h1, h2⟩
      obtain ⟨N, hN⟩ : ∃ N : Int, N = (packM out).many := ⟨_, rfl⟩
      obtain ⟨LL, hLL⟩ : ∃ LL : Int, LL = (packM out).low := ⟨_, rfl⟩
      have hN2 : ((out.length : Nat) : Int) = N := by rw [hN]; rfl
      have hLL2 : ((lowL out : Nat) : Int) = LL := by rw [hLL]; rfl
      rw [hN2, hLL2] at HP
      rw [← hN, ← hLL] at HSQ
      have HO2 : Hid (∀ W, Below w1.heap.size w1 W → IntsAt W (.slice xa out.length xc) out) := fun W hW => (OwnA.ofInts HO1.out).1.ints.below hW
      have b0 := HBA.out.2.1 0 _ rfl
      have b1 := HBA.out.2.1 1 _ rfl
      have b2 := HBA.out.2.1 2 _ rfl
      have b3 := HBA.out.2.1 3 _ rfl
      have hbl := HBA.out.1
      clear hg h60 hhl hSe HSM hN hLL hN2 hLL2 HAA HYES
      go_upto_region 2 with fail
      go_region_held3 (fun w' => w'.cell? ⟨w.heap.size, 0, none⟩ = some (.int .i64 M) ∧ w'.cell? ⟨w.heap.size, 1, none⟩ = some (.int .i64 L) ∧ w'.cell? ⟨w.heap.size, 2, none⟩ = some (.slice la p.lows.length lc) ∧ w'.cell? ⟨w.heap.size, 3, none⟩ = some (.slice ha p.high.length hc)) (first | go_keep | trivial)
        (first
          | (go_at_call 48; refine (HG _ (HO2.out _ (by go_grown))).mono ?_; rintro e w2 ⟨rfl, hx2⟩; have hp2 := kept hx2 w.heap.size (by go_size); have k2 : Below w1.heap.size w1 w2 := (by exact Below.trans (by go_grown) (hx2.mono (by go_size))); have kz2 := k2.size; clear hx2)
          | (go_at_call 49; refine (HP _ (HO2.out _ k2)).mono ?_; rintro e w3 ⟨lb, hb, rfl, hpk, hx3⟩; have hp3 := kept hx3 w.heap.size (by omega); have k3 : Below w1.heap.size w1 w3 := (by exact k2.trans (hx3.mono (by omega))); have kz3 := k3.size; have HPK := hid hpk.at; obtain ⟨ya, yc, hye⟩ := hpk.1.slice; subst hye; obtain ⟨za, zc, hze⟩ := hpk.2.1.slice; subst hze; clear hx3 hpk)
          | (go_at_call 74; refine (HSQ _ _ _ HPK.out (HS1.out.below k3)).mono ?_; rintro e w4 ⟨rfl, hx4⟩; have hp4 := kept hx4 w.heap.size (by omega); have k4 : Below w1.heap.size w1 w4 := (by exact k3.trans (hx4.mono (by omega))); have kz4 := k4.size; clear hx4))
      all_goals
        have hfin := HK1.out.trans (k4.mono HK1.out.size)
        have HO4 := hid (HO1.out.below k4)
        cases S
        · have HEE := hid (HE.out.2 rfl)
          clear HE
          go_wp2
          go_returns
          exact ⟨⟨_, by rw [HEE.out.1]; rfl, by rw [HEE.out.2]; exact OwnS.nil _ _ _⟩, hfin⟩
        · have HEE := hid (HE.out.1 rfl)
          clear HE
          go_wp2
          go_returns
          exact ⟨⟨_, by rw [HEE.out.1]; rfl, by rw [HEE.out.2]; exact HO4.out⟩, hfin⟩
    · have HG := fun W hW => implGoodL (.slice xa out.length xc) out false ⟨fun h => (by cases h), fun h => absurd h hg⟩ W hW hlen
      have HE : Hid (B = false ∧ A = []) := by
        rcases HAA.out with ⟨_, h⟩ | ⟨h1, h2, _⟩
        · have h3 := HYES.out A h
          exact absurd (h3 ▸ h.1) hg
        · exact ⟨h1, h2⟩
      have HO2 : Hid (∀ W, Below w1.heap.size w1 W → IntsAt W (.slice xa out.length xc) out) := fun W hW => (OwnA.ofInts HO1.out).1.ints.below hW
      clear hg HSM HAA HYES
      have hbl := HBA.out.1
      have hSZ := HK1.out.size
      go_upto_region 2 with fail
      have hHeld : (fun _ : World => True) w1.drew := trivial
      refine wp_region_heldL (n := 14) (S := fun _ => True) (by kernel_rfl) rfl ?_
      refine takeW (i := 0) (v := ?_) rfl (by kernel_rfl) (by kernel_rfl) (by kernel_rfl) (fun _ _ _ h => h) (by kernel_rfl) ?_ (by assumption) ?_
      rotate_left
      · intro w hSw; (try dsimp only at hSw); go_simp; (try with_reducible rfl)
      (try simp only [Act.put, List.setIfInBounds_toArray, List.set_cons_zero, List.set_cons_succ])
      refine takeW (i := 1) (v := ?_) rfl (by kernel_rfl) (by kernel_rfl) (by kernel_rfl) (fun _ _ _ h => h) (by kernel_rfl) ?_ (by assumption) ?_
      rotate_left
      · intro w hSw; (try dsimp only at hSw); go_simp; (try with_reducible rfl)
      (try simp only [Act.put, List.setIfInBounds_toArray, List.set_cons_zero, List.set_cons_succ])
      refine takeW (i := 2) (v := ?_) rfl (by kernel_rfl) (by kernel_rfl) (by kernel_rfl) (fun _ _ _ h => h) (by kernel_rfl) ?_ (by assumption) ?_
      rotate_left
      · intro w hSw; (try dsimp only at hSw); go_simp; (try with_reducible rfl)
      (try simp only [Act.put, List.setIfInBounds_toArray, List.set_cons_zero, List.set_cons_succ])
      refine takeW (i := 3) (v := ?_) rfl (by kernel_rfl) (by kernel_rfl) (by kernel_rfl) (fun _ _ _ h => h) (by kernel_rfl) ?_ (by assumption) ?_
      rotate_left
      · intro w hSw; (try dsimp only at hSw); go_simp; (try with_reducible rfl)
      (try simp only [Act.put, List.setIfInBounds_toArray, List.set_cons_zero, List.set_cons_succ])
      refine comesW (i := 4) rfl (by kernel_rfl) (by kernel_rfl) (fun K hK => ?_)
      go_simp
      refine (HG _ (HO2.out _ (by go_grown))).mono ?_
      rintro e w2 ⟨rfl, hx2⟩
      have k2 : Below w1.heap.size w1 w2 := (by exact Below.trans (by go_grown) (hx2.mono (by go_size)))
      have hfin := HK1.out.trans (k2.mono HK1.out.size)
      (try dsimp only)
      refine hK.out _ _ trivial (fun hH2 => ?_)
      clear hK K hHeld hx2
      have hHeld := hH2
      clear hH2
      (try simp only [Act.put, List.setIfInBounds_toArray, List.set_cons_zero, List.set_cons_succ])
      refine takeW (i := 5) (v := ?_) rfl (by kernel_rfl) (by kernel_rfl) (by kernel_rfl) (fun _ _ _ h => h) (by kernel_rfl) ?_ (by assumption) ?_
      rotate_left
      · intro w hSw; (try dsimp only at hSw); go_simp; (try with_reducible rfl)
      (try simp only [Act.put, List.setIfInBounds_toArray, List.set_cons_zero, List.set_cons_succ])
      refine takeW (i := 6) (v := ?_) rfl (by kernel_rfl) (by kernel_rfl) (by kernel_rfl) (fun _ _ _ h => h) (by kernel_rfl) ?_ (by assumption) ?_
      rotate_left
      · intro w hSw; (try dsimp only at hSw); go_simp; (try with_reducible rfl)
      (try simp only [Act.put, List.setIfInBounds_toArray, List.set_cons_zero, List.set_cons_succ])
      refine takeW (i := 7) (v := ?_) rfl (by kernel_rfl) (by kernel_rfl) (by kernel_rfl) (fun _ _ _ h => h) (by kernel_rfl) ?_ (by assumption) ?_
      rotate_left
      · intro w hSw; (try dsimp only at hSw); go_simp; (try with_reducible rfl)
      (try simp only [Act.put, List.setIfInBounds_toArray, List.set_cons_zero, List.set_cons_succ])
      refine skipL (i := 8) rfl (by kernel_rfl) (by kernel_rfl) (by kernel_rfl) (fun _ _ _ h => h) (by kernel_rfl) (by assumption) ?_
      (try simp only [Act.put, List.setIfInBounds_toArray, List.set_cons_zero, List.set_cons_succ])
      refine skipL (i := 9) rfl (by kernel_rfl) (by kernel_rfl) (by kernel_rfl) (fun _ _ _ h => h) (by kernel_rfl) (by assumption) ?_
      (try simp only [Act.put, List.setIfInBounds_toArray, List.set_cons_zero, List.set_cons_succ])
      refine skipL (i := 10) rfl (by kernel_rfl) (by kernel_rfl) (by kernel_rfl) (fun _ _ _ h => h) (by kernel_rfl) (by assumption) ?_
      (try simp only [Act.put, List.setIfInBounds_toArray, List.set_cons_zero, List.set_cons_succ])
      refine skipL (i := 11) rfl (by kernel_rfl) (by kernel_rfl) (by kernel_rfl) (fun _ _ _ h => h) (by kernel_rfl) (by assumption) ?_
      (try simp only [Act.put, List.setIfInBounds_toArray, List.set_cons_zero, List.set_cons_succ])
      refine skipL (i := 12) rfl (by kernel_rfl) (by kernel_rfl) (by kernel_rfl) (fun _ _ _ h => h) (by kernel_rfl) (by assumption) ?_
      (try simp only [Act.put, List.setIfInBounds_toArray, List.set_cons_zero, List.set_cons_succ])
      refine takeW (i := 13) (v := ?_) rfl (by kernel_rfl) (by kernel_rfl) (by kernel_rfl) (fun _ _ _ h => h) (by kernel_rfl) ?_ (by assumption) ?_
      rotate_left
      · intro w hSw; (try dsimp only at hSw); go_simp; (try with_reducible rfl)
      (try simp only [Act.put, List.setIfInBounds_toArray, List.set_cons_zero, List.set_cons_succ])
      refine wpAnyH_done (by kernel_rfl) ?_ _
      go_wp2
      go_returns
      exact ⟨⟨_, by rw [HE.out.1]; rfl, by rw [HE.out.2]; exact OwnS.nil _ _ _⟩, hfin⟩
end Go.Proofs.Ytaafdcghafbfhaa
