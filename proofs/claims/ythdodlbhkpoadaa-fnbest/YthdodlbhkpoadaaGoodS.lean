/- Good rows: the model. Condition: the row lies in memory. -/
import Derived.Test.YthdodlbhkpoadaaGoodI
namespace Go.Proofs.Ythdodlbhkpoadaa
open Go.ChangeShapes Go.WideShapes Go.ChangeAt Go.RowKit Go.Deep
set_option linter.unusedVariables false
attribute [local go_sem ↓] Go.wp_at_zero Go.wp_at_succ

set_option maxHeartbeats 6400000 in
set_option maxRecDepth 100000 in
theorem specGood (x : Value) (l : List Sc) (B : Bool) (hB : B = true ↔ GoodR l) (w : World) (h : RdS w x l) (hl : l.length ≤ 1048576) :
    Calls Try.prog 27 #[x] w fun e w' => e = .returned (.bool B) ∧ Below w.heap.size w w' := by
  have HB := hid hB
  clear hB
  rcases h.at with ⟨a0, c0, rfl, rfl⟩ | ⟨b, off, cap, rfl, hb, hcell⟩
  · have HT : Hid (B = true) := HB.out.2 ⟨by simp, fun i hi => by simp at hi⟩
    clear h
    go_enter Try.func27, Try.ntmps27
    go_wp2
    go_loopw [9] (fun i wr => i = .int .i64 0 ∧ Below w.heap.size w wr) (fun _ _ => 0)
    case atStart => exact ⟨rfl, by go_grown⟩
    case round =>
      obtain ⟨rfl, kb⟩ := hrel
      go_wp2
      go_returns
      exact ⟨by rw [HT.out]; rfl, kb⟩
  · have HC := hid hcell
    have hcap : l.length ≤ cap := by obtain ⟨_, ao, c', he, h3, _⟩ := h; cases he; exact h3
    clear hcell h
    go_enter Try.func27, Try.ntmps27
    go_wp2
    go_loopw [9] (fun i wr => ∃ k : Nat, k ≤ l.length ∧ i = .int .i64 k ∧ Hid (∀ i, i < k → GoodI l i) ∧ Below w.heap.size w wr) (fun i _ => l.length - (intOf i).toNat)
    case atStart => exact ⟨0, Nat.zero_le _, rfl, fun i hi => by omega, by go_grown⟩
    case round =>
      obtain ⟨k, hk, rfl, hall, kb⟩ := hrel
      have kl := kb.size
      by_cases hlt : k < l.length
      · generalize wr = wo at *
        obtain ⟨p0, p1⟩ := (HC.out k hlt).below hb kb
        have hki : (k : Int) < (l.length : Int) := by omega
        have hk0 : (0 : Int) ≤ (k : Int) := by omega
        have hkl : (k : Int) ≤ (l.length : Int) := by omega
        have hkc : (k : Int) ≤ (cap : Int) := by omega
        have hbr : b < wo.heap.size := by omega
        obtain ⟨G1, hG1⟩ : ∃ G, G = decide (0 ≤ (gd l k).1 ∧ (gd l k).1 ≤ 99) := ⟨_, rfl⟩
        obtain ⟨G2, hG2⟩ : ∃ G, G = decide (1 ≤ (gd l k).2 ∧ (gd l k).2 ≤ 1000) := ⟨_, rfl⟩
        obtain ⟨G3, hG3⟩ : ∃ G, G = bet (gd l (k - 1)) (gd l k) := ⟨_, rfl⟩
        have HN1 := fun W => specIn (gd l k).1 0 99 G1 hG1 W
        have HN2 := fun W => specIn (gd l k).2 1 1000 G2 hG2 W
        have HBT := fun W => specBet (gd l (k - 1)) (gd l k) W
        rw [← hG3] at HBT
        have HI : Hid (GoodI l k ↔ (G1 = true ∧ G2 = true) ∧ (∀ j, j < k → (gd l j).1 ≠ (gd l k).1) ∧ (0 < k → G3 = true)) := by
          show _ ↔ _
          rw [hG1, hG2, hG3]
          simp only [GoodI, GoodSc, decide_eq_true_eq]
        have HNO : Hid (¬ GoodI l k → B = false) := fun hn => by
          cases hb : B with
          | false => rfl
          | true => exact absurd ((HB.out.1 hb).2 k hlt) hn
        have HYES : Hid (GoodI l k → ∀ i, i < k + 1 → GoodI l i) := fun hy i hi => by
          by_cases e : i = k
          · rw [e]; exact hy
          · exact hall.out i (by omega)
        clear hG1 hG2 hG3
        obtain ⟨W1, hW1⟩ : ∃ W1, W1 = wo.alloc (.cells #[.int .i64 (gd l k).1, .int .i64 (gd l k).2] 33) := ⟨_, rfl⟩
        have hkw : Below wo.heap.size wo W1 := by rw [hW1]; exact al_ _ _
        have bX : BoxAt W1 wo.heap.size [.int .i64 (gd l k).1, .int .i64 (gd l k).2] := by rw [hW1]; exact boxNew wo _ _
        have HW1 := hid hW1
        have hkq : 0 < k → W1.cell? ⟨b, off + (k - 1) * 2, none⟩ = some (.int .i64 (gd l (k - 1)).1) ∧ W1.cell? ⟨b, off + (k - 1) * 2 + 1, none⟩ = some (.int .i64 (gd l (k - 1)).2) := fun h0 =>
          ((HC.out (k - 1) (by omega)).below hb kb).below hbr hkw
        have HKQ := hid hkq
        obtain ⟨u, hu⟩ : ∃ u, u = gd l k := ⟨_, rfl⟩
        obtain ⟨v, hv⟩ : ∃ v, v = gd l (k - 1) := ⟨_, rfl⟩
        obtain ⟨pb, hpb⟩ : ∃ pb, pb = wo.heap.size := ⟨_, rfl⟩
        rw [← hu] at HN1 HN2 HBT p0 p1 bX HW1 HI
        rw [← hv] at HBT HKQ
        have HPB := hid hpb
        rw [← hpb] at bX
        have b0 := bX.2.1 0 _ rfl
        have b1 := bX.2.1 1 _ rfl
        have bl := bX.1
        have hpl : b < W1.heap.size := by have := hkw.size; omega
        have HKW := hid hkw
        have HKB := hid kb
        clear hW1 hkq hu hv hpb hkw bX kb kl
        cases G1 with
        | false =>
          have HF := hid (HNO.out (fun hg => by have := (HI.out.1 hg).1.1; cases this))
          go_upto_region 4 with fail
          rw [← HW1.out, ← HPB.out]
          clear HW1 HPB
          have HSK : Hid (∀ W, Below W1.heap.size W1 W → (fun w' : World => w'.cell? ⟨pb, 0, none⟩ = some (.int .i64 u.1) ∧ w'.cell? ⟨pb, 1, none⟩ = some (.int .i64 u.2)) W) := fun W hW => ⟨(hW.cell bl).trans b0, (hW.cell bl).trans b1⟩
          have kd : Below W1.heap.size W1 W1.drew := Below.drew (Below.refl _ _)
          have hHeld := HSK.out W1.drew kd
          refine wp_region_heldL (n := 24) (S := fun w' : World => w'.cell? ⟨pb, 0, none⟩ = some (.int .i64 u.1) ∧ w'.cell? ⟨pb, 1, none⟩ = some (.int .i64 u.2)) (by kernel_rfl) rfl ?_
          refine takeL (i := 0) (v := ?_) rfl (by kernel_rfl) (by kernel_rfl) (by kernel_rfl) (fun _ _ _ h => h) rfl ?_ (by assumption) ?_
          rotate_left
          · intro w hSw; (try dsimp only at hSw); go_simp; (try with_reducible rfl)
          (try simp only [Act.put, List.setIfInBounds_toArray, List.set_cons_zero, List.set_cons_succ])
          refine takeL (i := 1) (v := ?_) rfl (by kernel_rfl) (by kernel_rfl) (by kernel_rfl) (fun _ _ _ h => h) rfl ?_ (by assumption) ?_
          rotate_left
          · intro w hSw; (try dsimp only at hSw); go_simp; (try with_reducible rfl)
          (try simp only [Act.put, List.setIfInBounds_toArray, List.set_cons_zero, List.set_cons_succ])
          refine comesL (i := 2) rfl rfl (by kernel_rfl) (fun K hK => ?_)
          go_simp
          refine (HN1 _).mono ?_
          rintro e w3 ⟨rfl, hx⟩
          have mw3 : Below W1.heap.size W1 w3 := by rw [hx]; exact kd
          have kw3 : Below w.heap.size w w3 := HKB.out.trans ((HKW.out.trans (mw3.mono HKW.out.size)).mono HKB.out.size)
          clear hx
          (try dsimp only)
          refine hK.out _ _ (HSK.out w3 mw3) (fun hH2 => ?_)
          clear hK K
          replace hHeld := hH2
          clear hH2
          (try simp only [Act.put, List.setIfInBounds_toArray, List.set_cons_zero, List.set_cons_succ])
          refine takeL (i := 3) (v := ?_) rfl (by kernel_rfl) (by kernel_rfl) (by kernel_rfl) (fun _ _ _ h => h) rfl ?_ (by assumption) ?_
          rotate_left
          · intro w hSw; (try dsimp only at hSw); go_simp; (try with_reducible rfl)
          (try simp only [Act.put, List.setIfInBounds_toArray, List.set_cons_zero, List.set_cons_succ])
          refine takeL (i := 4) (v := ?_) rfl (by kernel_rfl) (by kernel_rfl) (by kernel_rfl) (fun _ _ _ h => h) rfl ?_ (by assumption) ?_
          rotate_left
          · intro w hSw; (try dsimp only at hSw); go_simp; (try with_reducible rfl)
          (try simp only [Act.put, List.setIfInBounds_toArray, List.set_cons_zero, List.set_cons_succ])
          refine skipL (i := 5) rfl (by kernel_rfl) (by kernel_rfl) (by kernel_rfl) (fun _ _ _ h => h) (by kernel_rfl) (by assumption) ?_
          (try simp only [Act.put, List.setIfInBounds_toArray, List.set_cons_zero, List.set_cons_succ])
          refine skipL (i := 6) rfl (by kernel_rfl) (by kernel_rfl) (by kernel_rfl) (fun _ _ _ h => h) (by kernel_rfl) (by assumption) ?_
          (try simp only [Act.put, List.setIfInBounds_toArray, List.set_cons_zero, List.set_cons_succ])
          refine skipL (i := 7) rfl (by kernel_rfl) (by kernel_rfl) (by kernel_rfl) (fun _ _ _ h => h) (by kernel_rfl) (by assumption) ?_
          (try simp only [Act.put, List.setIfInBounds_toArray, List.set_cons_zero, List.set_cons_succ])
          refine skipL (i := 8) rfl (by kernel_rfl) (by kernel_rfl) (by kernel_rfl) (fun _ _ _ h => h) (by kernel_rfl) (by assumption) ?_
          (try simp only [Act.put, List.setIfInBounds_toArray, List.set_cons_zero, List.set_cons_succ])
          refine takeL (i := 9) (v := ?_) rfl (by kernel_rfl) (by kernel_rfl) (by kernel_rfl) (fun _ _ _ h => h) rfl ?_ (by assumption) ?_
          rotate_left
          · intro w hSw; (try dsimp only at hSw); go_simp; (try with_reducible rfl)
          (try simp only [Act.put, List.setIfInBounds_toArray, List.set_cons_zero, List.set_cons_succ])
          refine takeL (i := 10) (v := ?_) rfl (by kernel_rfl) (by kernel_rfl) (by kernel_rfl) (fun _ _ _ h => h) rfl ?_ (by assumption) ?_
          rotate_left
          · intro w hSw; (try dsimp only at hSw); go_simp; (try with_reducible rfl)
          (try simp only [Act.put, List.setIfInBounds_toArray, List.set_cons_zero, List.set_cons_succ])
          refine skipL (i := 11) rfl (by kernel_rfl) (by kernel_rfl) (by kernel_rfl) (fun _ _ _ h => h) (by kernel_rfl) (by assumption) ?_
          (try simp only [Act.put, List.setIfInBounds_toArray, List.set_cons_zero, List.set_cons_succ])
          refine skipL (i := 12) rfl (by kernel_rfl) (by kernel_rfl) (by kernel_rfl) (fun _ _ _ h => h) (by kernel_rfl) (by assumption) ?_
          (try simp only [Act.put, List.setIfInBounds_toArray, List.set_cons_zero, List.set_cons_succ])
          refine skipL (i := 13) rfl (by kernel_rfl) (by kernel_rfl) (by kernel_rfl) (fun _ _ _ h => h) (by kernel_rfl) (by assumption) ?_
          (try simp only [Act.put, List.setIfInBounds_toArray, List.set_cons_zero, List.set_cons_succ])
          refine skipL (i := 14) rfl (by kernel_rfl) (by kernel_rfl) (by kernel_rfl) (fun _ _ _ h => h) (by kernel_rfl) (by assumption) ?_
          (try simp only [Act.put, List.setIfInBounds_toArray, List.set_cons_zero, List.set_cons_succ])
          refine skipL (i := 15) rfl (by kernel_rfl) (by kernel_rfl) (by kernel_rfl) (fun _ _ _ h => h) (by kernel_rfl) (by assumption) ?_
          (try simp only [Act.put, List.setIfInBounds_toArray, List.set_cons_zero, List.set_cons_succ])
          refine skipL (i := 16) rfl (by kernel_rfl) (by kernel_rfl) (by kernel_rfl) (fun _ _ _ h => h) (by kernel_rfl) (by assumption) ?_
          (try simp only [Act.put, List.setIfInBounds_toArray, List.set_cons_zero, List.set_cons_succ])
          refine skipL (i := 17) rfl (by kernel_rfl) (by kernel_rfl) (by kernel_rfl) (fun _ _ _ h => h) (by kernel_rfl) (by assumption) ?_
          (try simp only [Act.put, List.setIfInBounds_toArray, List.set_cons_zero, List.set_cons_succ])
          refine skipL (i := 18) rfl (by kernel_rfl) (by kernel_rfl) (by kernel_rfl) (fun _ _ _ h => h) (by kernel_rfl) (by assumption) ?_
          (try simp only [Act.put, List.setIfInBounds_toArray, List.set_cons_zero, List.set_cons_succ])
          refine skipL (i := 19) rfl (by kernel_rfl) (by kernel_rfl) (by kernel_rfl) (fun _ _ _ h => h) (by kernel_rfl) (by assumption) ?_
          (try simp only [Act.put, List.setIfInBounds_toArray, List.set_cons_zero, List.set_cons_succ])
          refine skipL (i := 20) rfl (by kernel_rfl) (by kernel_rfl) (by kernel_rfl) (fun _ _ _ h => h) (by kernel_rfl) (by assumption) ?_
          (try simp only [Act.put, List.setIfInBounds_toArray, List.set_cons_zero, List.set_cons_succ])
          refine skipL (i := 21) rfl (by kernel_rfl) (by kernel_rfl) (by kernel_rfl) (fun _ _ _ h => h) (by kernel_rfl) (by assumption) ?_
          (try simp only [Act.put, List.setIfInBounds_toArray, List.set_cons_zero, List.set_cons_succ])
          refine skipL (i := 22) rfl (by kernel_rfl) (by kernel_rfl) (by kernel_rfl) (fun _ _ _ h => h) (by kernel_rfl) (by assumption) ?_
          (try simp only [Act.put, List.setIfInBounds_toArray, List.set_cons_zero, List.set_cons_succ])
          refine takeL (i := 23) (v := ?_) rfl (by kernel_rfl) (by kernel_rfl) (by kernel_rfl) (fun _ _ _ h => h) rfl ?_ (by assumption) ?_
          rotate_left
          · intro w hSw; (try dsimp only at hSw); go_simp; (try with_reducible rfl)
          (try simp only [Act.put, List.setIfInBounds_toArray, List.set_cons_zero, List.set_cons_succ])
          refine wpAnyH_done (by kernel_rfl) ?_ _
          clear hHeld kd HSK
          all_goals
            go_wp2_with fail
            go_returns
            exact ⟨by rw [HF.out]; rfl, kw3⟩
        | true =>
          cases G2 with
          | false =>
            have HF := hid (HNO.out (fun hg => by have := (HI.out.1 hg).1.2; cases this))
            go_upto_region 4 with fail
            rw [← HW1.out, ← HPB.out]
            clear HW1 HPB
            have HSK : Hid (∀ W, Below W1.heap.size W1 W → (fun w' : World => w'.cell? ⟨pb, 0, none⟩ = some (.int .i64 u.1) ∧ w'.cell? ⟨pb, 1, none⟩ = some (.int .i64 u.2)) W) := fun W hW => ⟨(hW.cell bl).trans b0, (hW.cell bl).trans b1⟩
            have kd : Below W1.heap.size W1 W1.drew := Below.drew (Below.refl _ _)
            have hHeld := HSK.out W1.drew kd
            refine wp_region_heldL (n := 24) (S := fun w' : World => w'.cell? ⟨pb, 0, none⟩ = some (.int .i64 u.1) ∧ w'.cell? ⟨pb, 1, none⟩ = some (.int .i64 u.2)) (by kernel_rfl) rfl ?_
            refine takeL (i := 0) (v := ?_) rfl (by kernel_rfl) (by kernel_rfl) (by kernel_rfl) (fun _ _ _ h => h) rfl ?_ (by assumption) ?_
            rotate_left
            · intro w hSw; (try dsimp only at hSw); go_simp; (try with_reducible rfl)
            (try simp only [Act.put, List.setIfInBounds_toArray, List.set_cons_zero, List.set_cons_succ])
            refine takeL (i := 1) (v := ?_) rfl (by kernel_rfl) (by kernel_rfl) (by kernel_rfl) (fun _ _ _ h => h) rfl ?_ (by assumption) ?_
            rotate_left
            · intro w hSw; (try dsimp only at hSw); go_simp; (try with_reducible rfl)
            (try simp only [Act.put, List.setIfInBounds_toArray, List.set_cons_zero, List.set_cons_succ])
            refine comesL (i := 2) rfl rfl (by kernel_rfl) (fun K hK => ?_)
            go_simp
            refine (HN1 _).mono ?_
            rintro e w3 ⟨rfl, hx⟩
            have mw3 : Below W1.heap.size W1 w3 := by rw [hx]; exact kd
            have kw3 : Below w.heap.size w w3 := HKB.out.trans ((HKW.out.trans (mw3.mono HKW.out.size)).mono HKB.out.size)
            clear hx
            (try dsimp only)
            refine hK.out _ _ (HSK.out w3 mw3) (fun hH2 => ?_)
            clear hK K
            replace hHeld := hH2
            clear hH2
            (try simp only [Act.put, List.setIfInBounds_toArray, List.set_cons_zero, List.set_cons_succ])
            refine takeL (i := 3) (v := ?_) rfl (by kernel_rfl) (by kernel_rfl) (by kernel_rfl) (fun _ _ _ h => h) rfl ?_ (by assumption) ?_
            rotate_left
            · intro w hSw; (try dsimp only at hSw); go_simp; (try with_reducible rfl)
            (try simp only [Act.put, List.setIfInBounds_toArray, List.set_cons_zero, List.set_cons_succ])
            refine takeL (i := 4) (v := ?_) rfl (by kernel_rfl) (by kernel_rfl) (by kernel_rfl) (fun _ _ _ h => h) rfl ?_ (by assumption) ?_
            rotate_left
            · intro w hSw; (try dsimp only at hSw); go_simp; (try with_reducible rfl)
            (try simp only [Act.put, List.setIfInBounds_toArray, List.set_cons_zero, List.set_cons_succ])
            refine takeW (i := 5) (v := ?_) rfl (by kernel_rfl) (by kernel_rfl) (by kernel_rfl) (fun _ _ _ h => h) (by kernel_rfl) ?_ (by assumption) ?_
            rotate_left
            · intro w hSw; (try dsimp only at hSw); go_simp; (try with_reducible rfl)
            (try simp only [Act.put, List.setIfInBounds_toArray, List.set_cons_zero, List.set_cons_succ])
            refine takeW (i := 6) (v := ?_) rfl (by kernel_rfl) (by kernel_rfl) (by kernel_rfl) (fun _ _ _ h => h) (by kernel_rfl) ?_ (by assumption) ?_
            rotate_left
            · intro w hSw; (try dsimp only at hSw); go_simp; (try with_reducible rfl)
            (try simp only [Act.put, List.setIfInBounds_toArray, List.set_cons_zero, List.set_cons_succ])
            refine comesW (i := 7) rfl (by kernel_rfl) (by kernel_rfl) (fun K hK => ?_)
            go_simp
            refine (HN2 _).mono ?_
            rintro e w4 ⟨rfl, hx⟩
            have mw4 : Below W1.heap.size W1 w4 := by rw [hx]; exact mw3
            have kw4 : Below w.heap.size w w4 := HKB.out.trans ((HKW.out.trans (mw4.mono HKW.out.size)).mono HKB.out.size)
            clear hx
            (try dsimp only)
            refine hK.out _ _ (HSK.out w4 mw4) (fun hH2 => ?_)
            clear hK K
            replace hHeld := hH2
            clear hH2
            (try simp only [Act.put, List.setIfInBounds_toArray, List.set_cons_zero, List.set_cons_succ])
            refine takeW (i := 8) (v := ?_) rfl (by kernel_rfl) (by kernel_rfl) (by kernel_rfl) (fun _ _ _ h => h) (by kernel_rfl) ?_ (by assumption) ?_
            rotate_left
            · intro w hSw; (try dsimp only at hSw); go_simp; (try with_reducible rfl)
            (try simp only [Act.put, List.setIfInBounds_toArray, List.set_cons_zero, List.set_cons_succ])
            refine takeL (i := 9) (v := ?_) rfl (by kernel_rfl) (by kernel_rfl) (by kernel_rfl) (fun _ _ _ h => h) rfl ?_ (by assumption) ?_
            rotate_left
            · intro w hSw; (try dsimp only at hSw); go_simp; (try with_reducible rfl)
            (try simp only [Act.put, List.setIfInBounds_toArray, List.set_cons_zero, List.set_cons_succ])
            refine takeL (i := 10) (v := ?_) rfl (by kernel_rfl) (by kernel_rfl) (by kernel_rfl) (fun _ _ _ h => h) rfl ?_ (by assumption) ?_
            rotate_left
            · intro w hSw; (try dsimp only at hSw); go_simp; (try with_reducible rfl)
            (try simp only [Act.put, List.setIfInBounds_toArray, List.set_cons_zero, List.set_cons_succ])
            refine skipL (i := 11) rfl (by kernel_rfl) (by kernel_rfl) (by kernel_rfl) (fun _ _ _ h => h) (by kernel_rfl) (by assumption) ?_
            (try simp only [Act.put, List.setIfInBounds_toArray, List.set_cons_zero, List.set_cons_succ])
            refine skipL (i := 12) rfl (by kernel_rfl) (by kernel_rfl) (by kernel_rfl) (fun _ _ _ h => h) (by kernel_rfl) (by assumption) ?_
            (try simp only [Act.put, List.setIfInBounds_toArray, List.set_cons_zero, List.set_cons_succ])
            refine skipL (i := 13) rfl (by kernel_rfl) (by kernel_rfl) (by kernel_rfl) (fun _ _ _ h => h) (by kernel_rfl) (by assumption) ?_
            (try simp only [Act.put, List.setIfInBounds_toArray, List.set_cons_zero, List.set_cons_succ])
            refine skipL (i := 14) rfl (by kernel_rfl) (by kernel_rfl) (by kernel_rfl) (fun _ _ _ h => h) (by kernel_rfl) (by assumption) ?_
            (try simp only [Act.put, List.setIfInBounds_toArray, List.set_cons_zero, List.set_cons_succ])
            refine skipL (i := 15) rfl (by kernel_rfl) (by kernel_rfl) (by kernel_rfl) (fun _ _ _ h => h) (by kernel_rfl) (by assumption) ?_
            (try simp only [Act.put, List.setIfInBounds_toArray, List.set_cons_zero, List.set_cons_succ])
            refine skipL (i := 16) rfl (by kernel_rfl) (by kernel_rfl) (by kernel_rfl) (fun _ _ _ h => h) (by kernel_rfl) (by assumption) ?_
            (try simp only [Act.put, List.setIfInBounds_toArray, List.set_cons_zero, List.set_cons_succ])
            refine skipL (i := 17) rfl (by kernel_rfl) (by kernel_rfl) (by kernel_rfl) (fun _ _ _ h => h) (by kernel_rfl) (by assumption) ?_
            (try simp only [Act.put, List.setIfInBounds_toArray, List.set_cons_zero, List.set_cons_succ])
            refine skipL (i := 18) rfl (by kernel_rfl) (by kernel_rfl) (by kernel_rfl) (fun _ _ _ h => h) (by kernel_rfl) (by assumption) ?_
            (try simp only [Act.put, List.setIfInBounds_toArray, List.set_cons_zero, List.set_cons_succ])
            refine skipL (i := 19) rfl (by kernel_rfl) (by kernel_rfl) (by kernel_rfl) (fun _ _ _ h => h) (by kernel_rfl) (by assumption) ?_
            (try simp only [Act.put, List.setIfInBounds_toArray, List.set_cons_zero, List.set_cons_succ])
            refine skipL (i := 20) rfl (by kernel_rfl) (by kernel_rfl) (by kernel_rfl) (fun _ _ _ h => h) (by kernel_rfl) (by assumption) ?_
            (try simp only [Act.put, List.setIfInBounds_toArray, List.set_cons_zero, List.set_cons_succ])
            refine skipL (i := 21) rfl (by kernel_rfl) (by kernel_rfl) (by kernel_rfl) (fun _ _ _ h => h) (by kernel_rfl) (by assumption) ?_
            (try simp only [Act.put, List.setIfInBounds_toArray, List.set_cons_zero, List.set_cons_succ])
            refine skipL (i := 22) rfl (by kernel_rfl) (by kernel_rfl) (by kernel_rfl) (fun _ _ _ h => h) (by kernel_rfl) (by assumption) ?_
            (try simp only [Act.put, List.setIfInBounds_toArray, List.set_cons_zero, List.set_cons_succ])
            refine takeL (i := 23) (v := ?_) rfl (by kernel_rfl) (by kernel_rfl) (by kernel_rfl) (fun _ _ _ h => h) rfl ?_ (by assumption) ?_
            rotate_left
            · intro w hSw; (try dsimp only at hSw); go_simp; (try with_reducible rfl)
            (try simp only [Act.put, List.setIfInBounds_toArray, List.set_cons_zero, List.set_cons_succ])
            refine wpAnyH_done (by kernel_rfl) ?_ _
            clear hHeld kd HSK
            all_goals
              go_wp2_with fail
              go_returns
              exact ⟨by rw [HF.out]; rfl, kw4⟩
          | true =>
            by_cases hk1 : 0 < k
            · have hki1 : (0 : Int) < (k : Int) := by omega
              have hk1d : decide ((0 : Int) < (k : Int)) = true := decide_eq_true hki1
              have hk1e : decide (0 < k) = true := decide_eq_true hk1
              obtain ⟨q0, q1⟩ := HKQ.out hk1
              obtain ⟨j, hj⟩ : ∃ j, j = k - 1 := ⟨_, rfl⟩
              rw [← hj] at q0 q1
              have hjk : (k : Int) - 1 = (j : Int) := by omega
              have hjw : IntKind.i64.wrap (j : Int) = (j : Int) := by rw [IntKind.wrap_i64]; omega
              have hjl : (j : Int) < (l.length : Int) := by omega
              have hj0 : (0 : Int) ≤ (j : Int) := by omega
              clear hj
              cases G3 with
              | false =>
                have HF := hid (HNO.out (fun hg => by have := (HI.out.1 hg).2.2 hk1; cases this))
                go_upto_region 4 with fail
                rw [← HW1.out, ← HPB.out]
                clear HW1 HPB
                have HSK : Hid (∀ W, Below W1.heap.size W1 W → (fun w' : World => (w'.cell? ⟨pb, 0, none⟩ = some (.int .i64 u.1) ∧ w'.cell? ⟨pb, 1, none⟩ = some (.int .i64 u.2)) ∧ w'.cell? ⟨b, off + j * 2, none⟩ = some (.int .i64 v.1) ∧ w'.cell? ⟨b, off + j * 2 + 1, none⟩ = some (.int .i64 v.2)) W) := fun W hW => ⟨⟨(hW.cell bl).trans b0, (hW.cell bl).trans b1⟩, (hW.cell hpl).trans q0, (hW.cell hpl).trans q1⟩
                have kd : Below W1.heap.size W1 W1.drew := Below.drew (Below.refl _ _)
                have hHeld := HSK.out W1.drew kd
                refine wp_region_heldL (n := 24) (S := fun w' : World => (w'.cell? ⟨pb, 0, none⟩ = some (.int .i64 u.1) ∧ w'.cell? ⟨pb, 1, none⟩ = some (.int .i64 u.2)) ∧ w'.cell? ⟨b, off + j * 2, none⟩ = some (.int .i64 v.1) ∧ w'.cell? ⟨b, off + j * 2 + 1, none⟩ = some (.int .i64 v.2)) (by kernel_rfl) rfl ?_
                refine takeL (i := 0) (v := ?_) rfl (by kernel_rfl) (by kernel_rfl) (by kernel_rfl) (fun _ _ _ h => h) rfl ?_ (by assumption) ?_
                rotate_left
                · intro w hSw; (try dsimp only at hSw); go_simp; (try with_reducible rfl)
                (try simp only [Act.put, List.setIfInBounds_toArray, List.set_cons_zero, List.set_cons_succ])
                refine takeL (i := 1) (v := ?_) rfl (by kernel_rfl) (by kernel_rfl) (by kernel_rfl) (fun _ _ _ h => h) rfl ?_ (by assumption) ?_
                rotate_left
                · intro w hSw; (try dsimp only at hSw); go_simp; (try with_reducible rfl)
                (try simp only [Act.put, List.setIfInBounds_toArray, List.set_cons_zero, List.set_cons_succ])
                refine comesL (i := 2) rfl rfl (by kernel_rfl) (fun K hK => ?_)
                go_simp
                refine (HN1 _).mono ?_
                rintro e w3 ⟨rfl, hx⟩
                have mw3 : Below W1.heap.size W1 w3 := by rw [hx]; exact kd
                have kw3 : Below w.heap.size w w3 := HKB.out.trans ((HKW.out.trans (mw3.mono HKW.out.size)).mono HKB.out.size)
                clear hx
                (try dsimp only)
                refine hK.out _ _ (HSK.out w3 mw3) (fun hH2 => ?_)
                clear hK K
                replace hHeld := hH2
                clear hH2
                (try simp only [Act.put, List.setIfInBounds_toArray, List.set_cons_zero, List.set_cons_succ])
                refine takeL (i := 3) (v := ?_) rfl (by kernel_rfl) (by kernel_rfl) (by kernel_rfl) (fun _ _ _ h => h) rfl ?_ (by assumption) ?_
                rotate_left
                · intro w hSw; (try dsimp only at hSw); go_simp; (try with_reducible rfl)
                (try simp only [Act.put, List.setIfInBounds_toArray, List.set_cons_zero, List.set_cons_succ])
                refine takeL (i := 4) (v := ?_) rfl (by kernel_rfl) (by kernel_rfl) (by kernel_rfl) (fun _ _ _ h => h) rfl ?_ (by assumption) ?_
                rotate_left
                · intro w hSw; (try dsimp only at hSw); go_simp; (try with_reducible rfl)
                (try simp only [Act.put, List.setIfInBounds_toArray, List.set_cons_zero, List.set_cons_succ])
                refine takeW (i := 5) (v := ?_) rfl (by kernel_rfl) (by kernel_rfl) (by kernel_rfl) (fun _ _ _ h => h) (by kernel_rfl) ?_ (by assumption) ?_
                rotate_left
                · intro w hSw; (try dsimp only at hSw); go_simp; (try with_reducible rfl)
                (try simp only [Act.put, List.setIfInBounds_toArray, List.set_cons_zero, List.set_cons_succ])
                refine takeW (i := 6) (v := ?_) rfl (by kernel_rfl) (by kernel_rfl) (by kernel_rfl) (fun _ _ _ h => h) (by kernel_rfl) ?_ (by assumption) ?_
                rotate_left
                · intro w hSw; (try dsimp only at hSw); go_simp; (try with_reducible rfl)
                (try simp only [Act.put, List.setIfInBounds_toArray, List.set_cons_zero, List.set_cons_succ])
                refine comesW (i := 7) rfl (by kernel_rfl) (by kernel_rfl) (fun K hK => ?_)
                go_simp
                refine (HN2 _).mono ?_
                rintro e w4 ⟨rfl, hx⟩
                have mw4 : Below W1.heap.size W1 w4 := by rw [hx]; exact mw3
                have kw4 : Below w.heap.size w w4 := HKB.out.trans ((HKW.out.trans (mw4.mono HKW.out.size)).mono HKB.out.size)
                clear hx
                (try dsimp only)
                refine hK.out _ _ (HSK.out w4 mw4) (fun hH2 => ?_)
                clear hK K
                replace hHeld := hH2
                clear hH2
                (try simp only [Act.put, List.setIfInBounds_toArray, List.set_cons_zero, List.set_cons_succ])
                refine takeW (i := 8) (v := ?_) rfl (by kernel_rfl) (by kernel_rfl) (by kernel_rfl) (fun _ _ _ h => h) (by kernel_rfl) ?_ (by assumption) ?_
                rotate_left
                · intro w hSw; (try dsimp only at hSw); go_simp; (try with_reducible rfl)
                (try simp only [Act.put, List.setIfInBounds_toArray, List.set_cons_zero, List.set_cons_succ])
                refine takeL (i := 9) (v := ?_) rfl (by kernel_rfl) (by kernel_rfl) (by kernel_rfl) (fun _ _ _ h => h) rfl ?_ (by assumption) ?_
                rotate_left
                · intro w hSw; (try dsimp only at hSw); go_simp; (try with_reducible rfl)
                (try simp only [Act.put, List.setIfInBounds_toArray, List.set_cons_zero, List.set_cons_succ])
                refine takeL (i := 10) (v := ?_) rfl (by kernel_rfl) (by kernel_rfl) (by kernel_rfl) (fun _ _ _ h => h) rfl ?_ (by assumption) ?_
                rotate_left
                · intro w hSw; (try dsimp only at hSw); go_simp; (try with_reducible rfl)
                (try simp only [Act.put, List.setIfInBounds_toArray, List.set_cons_zero, List.set_cons_succ])
                refine takeW (i := 11) (v := ?_) rfl (by kernel_rfl) (by kernel_rfl) (by kernel_rfl) (fun _ _ _ h => h) (by kernel_rfl) ?_ (by assumption) ?_
                rotate_left
                · intro w hSw; (try dsimp only at hSw); go_simp; (try with_reducible rfl)
                (try simp only [Act.put, List.setIfInBounds_toArray, List.set_cons_zero, List.set_cons_succ])
                refine takeW (i := 12) (v := ?_) rfl (by kernel_rfl) (by kernel_rfl) (by kernel_rfl) (fun _ _ _ h => h) (by kernel_rfl) ?_ (by assumption) ?_
                rotate_left
                · intro w hSw; (try dsimp only at hSw); go_simp; (try with_reducible rfl)
                (try simp only [Act.put, List.setIfInBounds_toArray, List.set_cons_zero, List.set_cons_succ])
                refine takeW (i := 13) (v := ?_) rfl (by kernel_rfl) (by kernel_rfl) (by kernel_rfl) (fun _ _ _ h => h) (by kernel_rfl) ?_ (by assumption) ?_
                rotate_left
                · intro w hSw; (try dsimp only at hSw); go_simp; (try with_reducible rfl)
                (try simp only [Act.put, List.setIfInBounds_toArray, List.set_cons_zero, List.set_cons_succ])
                refine takeW (i := 14) (v := ?_) rfl (by kernel_rfl) (by kernel_rfl) (by kernel_rfl) (fun _ _ _ h => h) (by kernel_rfl) ?_ (by assumption) ?_
                rotate_left
                · intro w hSw; (try dsimp only at hSw); go_simp; (try with_reducible rfl)
                (try simp only [Act.put, List.setIfInBounds_toArray, List.set_cons_zero, List.set_cons_succ])
                refine takeW (i := 15) (v := ?_) rfl (by kernel_rfl) (by kernel_rfl) (by kernel_rfl) (fun _ _ _ h => h) (by kernel_rfl) ?_ (by assumption) ?_
                rotate_left
                · intro w hSw; (try dsimp only at hSw); go_simp; (try with_reducible rfl)
                (try simp only [Act.put, List.setIfInBounds_toArray, List.set_cons_zero, List.set_cons_succ])
                refine takeW (i := 16) (v := ?_) rfl (by kernel_rfl) (by kernel_rfl) (by kernel_rfl) (fun _ _ _ h => h) (by kernel_rfl) ?_ (by assumption) ?_
                rotate_left
                · intro w hSw; (try dsimp only at hSw); go_simp; (try with_reducible rfl)
                (try simp only [Act.put, List.setIfInBounds_toArray, List.set_cons_zero, List.set_cons_succ])
                refine takeW (i := 17) (v := ?_) rfl (by kernel_rfl) (by kernel_rfl) (by kernel_rfl) (fun _ _ _ h => h) (by kernel_rfl) ?_ (by assumption) ?_
                rotate_left
                · intro w hSw; (try dsimp only at hSw); go_simp; (try with_reducible rfl)
                (try simp only [Act.put, List.setIfInBounds_toArray, List.set_cons_zero, List.set_cons_succ])
                refine takeW (i := 18) (v := ?_) rfl (by kernel_rfl) (by kernel_rfl) (by kernel_rfl) (fun _ _ _ h => h) (by kernel_rfl) ?_ (by assumption) ?_
                rotate_left
                · intro w hSw; (try dsimp only at hSw); go_simp; (try with_reducible rfl)
                (try simp only [Act.put, List.setIfInBounds_toArray, List.set_cons_zero, List.set_cons_succ])
                refine takeW (i := 19) (v := ?_) rfl (by kernel_rfl) (by kernel_rfl) (by kernel_rfl) (fun _ _ _ h => h) (by kernel_rfl) ?_ (by assumption) ?_
                rotate_left
                · intro w hSw; (try dsimp only at hSw); go_simp; (try with_reducible rfl)
                (try simp only [Act.put, List.setIfInBounds_toArray, List.set_cons_zero, List.set_cons_succ])
                refine comesW (i := 20) rfl (by kernel_rfl) (by kernel_rfl) (fun K hK => ?_)
                go_simp
                refine (HBT _).mono ?_
                rintro e w5 ⟨rfl, hx⟩
                have mw5 : Below W1.heap.size W1 w5 := mw4.trans (hx.mono mw4.size)
                have kw5 : Below w.heap.size w w5 := HKB.out.trans ((HKW.out.trans (mw5.mono HKW.out.size)).mono HKB.out.size)
                clear hx
                (try dsimp only)
                refine hK.out _ _ (HSK.out w5 mw5) (fun hH2 => ?_)
                clear hK K
                replace hHeld := hH2
                clear hH2
                (try simp only [Act.put, List.setIfInBounds_toArray, List.set_cons_zero, List.set_cons_succ])
                refine takeW (i := 21) (v := ?_) rfl (by kernel_rfl) (by kernel_rfl) (by kernel_rfl) (fun _ _ _ h => h) (by kernel_rfl) ?_ (by assumption) ?_
                rotate_left
                · intro w hSw; (try dsimp only at hSw); go_simp; (try with_reducible rfl)
                (try simp only [Act.put, List.setIfInBounds_toArray, List.set_cons_zero, List.set_cons_succ])
                refine takeW (i := 22) (v := ?_) rfl (by kernel_rfl) (by kernel_rfl) (by kernel_rfl) (fun _ _ _ h => h) (by kernel_rfl) ?_ (by assumption) ?_
                rotate_left
                · intro w hSw; (try dsimp only at hSw); go_simp; (try with_reducible rfl)
                (try simp only [Act.put, List.setIfInBounds_toArray, List.set_cons_zero, List.set_cons_succ])
                refine takeL (i := 23) (v := ?_) rfl (by kernel_rfl) (by kernel_rfl) (by kernel_rfl) (fun _ _ _ h => h) rfl ?_ (by assumption) ?_
                rotate_left
                · intro w hSw; (try dsimp only at hSw); go_simp; (try with_reducible rfl)
                (try simp only [Act.put, List.setIfInBounds_toArray, List.set_cons_zero, List.set_cons_succ])
                refine wpAnyH_done (by kernel_rfl) ?_ _
                clear hHeld kd HSK
                all_goals
                  go_wp2_with fail
                  go_returns
                  exact ⟨by rw [HF.out]; rfl, kw5⟩
              | true =>
                go_upto_region 4 with fail
                rw [← HW1.out, ← HPB.out]
                clear HW1 HPB
                have HSK : Hid (∀ W, Below W1.heap.size W1 W → (fun w' : World => (w'.cell? ⟨pb, 0, none⟩ = some (.int .i64 u.1) ∧ w'.cell? ⟨pb, 1, none⟩ = some (.int .i64 u.2)) ∧ w'.cell? ⟨b, off + j * 2, none⟩ = some (.int .i64 v.1) ∧ w'.cell? ⟨b, off + j * 2 + 1, none⟩ = some (.int .i64 v.2)) W) := fun W hW => ⟨⟨(hW.cell bl).trans b0, (hW.cell bl).trans b1⟩, (hW.cell hpl).trans q0, (hW.cell hpl).trans q1⟩
                have kd : Below W1.heap.size W1 W1.drew := Below.drew (Below.refl _ _)
                have hHeld := HSK.out W1.drew kd
                refine wp_region_heldL (n := 24) (S := fun w' : World => (w'.cell? ⟨pb, 0, none⟩ = some (.int .i64 u.1) ∧ w'.cell? ⟨pb, 1, none⟩ = some (.int .i64 u.2)) ∧ w'.cell? ⟨b, off + j * 2, none⟩ = some (.int .i64 v.1) ∧ w'.cell? ⟨b, off + j * 2 + 1, none⟩ = some (.int .i64 v.2)) (by kernel_rfl) rfl ?_
                refine takeL (i := 0) (v := ?_) rfl (by kernel_rfl) (by kernel_rfl) (by kernel_rfl) (fun _ _ _ h => h) rfl ?_ (by assumption) ?_
                rotate_left
                · intro w hSw; (try dsimp only at hSw); go_simp; (try with_reducible rfl)
                (try simp only [Act.put, List.setIfInBounds_toArray, List.set_cons_zero, List.set_cons_succ])
                refine takeL (i := 1) (v := ?_) rfl (by kernel_rfl) (by kernel_rfl) (by kernel_rfl) (fun _ _ _ h => h) rfl ?_ (by assumption) ?_
                rotate_left
                · intro w hSw; (try dsimp only at hSw); go_simp; (try with_reducible rfl)
                (try simp only [Act.put, List.setIfInBounds_toArray, List.set_cons_zero, List.set_cons_succ])
                refine comesL (i := 2) rfl rfl (by kernel_rfl) (fun K hK => ?_)
                go_simp
                refine (HN1 _).mono ?_
                rintro e w3 ⟨rfl, hx⟩
                have mw3 : Below W1.heap.size W1 w3 := by rw [hx]; exact kd
                have kw3 : Below w.heap.size w w3 := HKB.out.trans ((HKW.out.trans (mw3.mono HKW.out.size)).mono HKB.out.size)
                clear hx
                (try dsimp only)
                refine hK.out _ _ (HSK.out w3 mw3) (fun hH2 => ?_)
                clear hK K
                replace hHeld := hH2
                clear hH2
                (try simp only [Act.put, List.setIfInBounds_toArray, List.set_cons_zero, List.set_cons_succ])
                refine takeL (i := 3) (v := ?_) rfl (by kernel_rfl) (by kernel_rfl) (by kernel_rfl) (fun _ _ _ h => h) rfl ?_ (by assumption) ?_
                rotate_left
                · intro w hSw; (try dsimp only at hSw); go_simp; (try with_reducible rfl)
                (try simp only [Act.put, List.setIfInBounds_toArray, List.set_cons_zero, List.set_cons_succ])
                refine takeL (i := 4) (v := ?_) rfl (by kernel_rfl) (by kernel_rfl) (by kernel_rfl) (fun _ _ _ h => h) rfl ?_ (by assumption) ?_
                rotate_left
                · intro w hSw; (try dsimp only at hSw); go_simp; (try with_reducible rfl)
                (try simp only [Act.put, List.setIfInBounds_toArray, List.set_cons_zero, List.set_cons_succ])
                refine takeW (i := 5) (v := ?_) rfl (by kernel_rfl) (by kernel_rfl) (by kernel_rfl) (fun _ _ _ h => h) (by kernel_rfl) ?_ (by assumption) ?_
                rotate_left
                · intro w hSw; (try dsimp only at hSw); go_simp; (try with_reducible rfl)
                (try simp only [Act.put, List.setIfInBounds_toArray, List.set_cons_zero, List.set_cons_succ])
                refine takeW (i := 6) (v := ?_) rfl (by kernel_rfl) (by kernel_rfl) (by kernel_rfl) (fun _ _ _ h => h) (by kernel_rfl) ?_ (by assumption) ?_
                rotate_left
                · intro w hSw; (try dsimp only at hSw); go_simp; (try with_reducible rfl)
                (try simp only [Act.put, List.setIfInBounds_toArray, List.set_cons_zero, List.set_cons_succ])
                refine comesW (i := 7) rfl (by kernel_rfl) (by kernel_rfl) (fun K hK => ?_)
                go_simp
                refine (HN2 _).mono ?_
                rintro e w4 ⟨rfl, hx⟩
                have mw4 : Below W1.heap.size W1 w4 := by rw [hx]; exact mw3
                have kw4 : Below w.heap.size w w4 := HKB.out.trans ((HKW.out.trans (mw4.mono HKW.out.size)).mono HKB.out.size)
                clear hx
                (try dsimp only)
                refine hK.out _ _ (HSK.out w4 mw4) (fun hH2 => ?_)
                clear hK K
                replace hHeld := hH2
                clear hH2
                (try simp only [Act.put, List.setIfInBounds_toArray, List.set_cons_zero, List.set_cons_succ])
                refine takeW (i := 8) (v := ?_) rfl (by kernel_rfl) (by kernel_rfl) (by kernel_rfl) (fun _ _ _ h => h) (by kernel_rfl) ?_ (by assumption) ?_
                rotate_left
                · intro w hSw; (try dsimp only at hSw); go_simp; (try with_reducible rfl)
                (try simp only [Act.put, List.setIfInBounds_toArray, List.set_cons_zero, List.set_cons_succ])
                refine takeL (i := 9) (v := ?_) rfl (by kernel_rfl) (by kernel_rfl) (by kernel_rfl) (fun _ _ _ h => h) rfl ?_ (by assumption) ?_
                rotate_left
                · intro w hSw; (try dsimp only at hSw); go_simp; (try with_reducible rfl)
                (try simp only [Act.put, List.setIfInBounds_toArray, List.set_cons_zero, List.set_cons_succ])
                refine takeL (i := 10) (v := ?_) rfl (by kernel_rfl) (by kernel_rfl) (by kernel_rfl) (fun _ _ _ h => h) rfl ?_ (by assumption) ?_
                rotate_left
                · intro w hSw; (try dsimp only at hSw); go_simp; (try with_reducible rfl)
                (try simp only [Act.put, List.setIfInBounds_toArray, List.set_cons_zero, List.set_cons_succ])
                refine takeW (i := 11) (v := ?_) rfl (by kernel_rfl) (by kernel_rfl) (by kernel_rfl) (fun _ _ _ h => h) (by kernel_rfl) ?_ (by assumption) ?_
                rotate_left
                · intro w hSw; (try dsimp only at hSw); go_simp; (try with_reducible rfl)
                (try simp only [Act.put, List.setIfInBounds_toArray, List.set_cons_zero, List.set_cons_succ])
                refine takeW (i := 12) (v := ?_) rfl (by kernel_rfl) (by kernel_rfl) (by kernel_rfl) (fun _ _ _ h => h) (by kernel_rfl) ?_ (by assumption) ?_
                rotate_left
                · intro w hSw; (try dsimp only at hSw); go_simp; (try with_reducible rfl)
                (try simp only [Act.put, List.setIfInBounds_toArray, List.set_cons_zero, List.set_cons_succ])
                refine takeW (i := 13) (v := ?_) rfl (by kernel_rfl) (by kernel_rfl) (by kernel_rfl) (fun _ _ _ h => h) (by kernel_rfl) ?_ (by assumption) ?_
                rotate_left
                · intro w hSw; (try dsimp only at hSw); go_simp; (try with_reducible rfl)
                (try simp only [Act.put, List.setIfInBounds_toArray, List.set_cons_zero, List.set_cons_succ])
                refine takeW (i := 14) (v := ?_) rfl (by kernel_rfl) (by kernel_rfl) (by kernel_rfl) (fun _ _ _ h => h) (by kernel_rfl) ?_ (by assumption) ?_
                rotate_left
                · intro w hSw; (try dsimp only at hSw); go_simp; (try with_reducible rfl)
                (try simp only [Act.put, List.setIfInBounds_toArray, List.set_cons_zero, List.set_cons_succ])
                refine takeW (i := 15) (v := ?_) rfl (by kernel_rfl) (by kernel_rfl) (by kernel_rfl) (fun _ _ _ h => h) (by kernel_rfl) ?_ (by assumption) ?_
                rotate_left
                · intro w hSw; (try dsimp only at hSw); go_simp; (try with_reducible rfl)
                (try simp only [Act.put, List.setIfInBounds_toArray, List.set_cons_zero, List.set_cons_succ])
                refine takeW (i := 16) (v := ?_) rfl (by kernel_rfl) (by kernel_rfl) (by kernel_rfl) (fun _ _ _ h => h) (by kernel_rfl) ?_ (by assumption) ?_
                rotate_left
                · intro w hSw; (try dsimp only at hSw); go_simp; (try with_reducible rfl)
                (try simp only [Act.put, List.setIfInBounds_toArray, List.set_cons_zero, List.set_cons_succ])
                refine takeW (i := 17) (v := ?_) rfl (by kernel_rfl) (by kernel_rfl) (by kernel_rfl) (fun _ _ _ h => h) (by kernel_rfl) ?_ (by assumption) ?_
                rotate_left
                · intro w hSw; (try dsimp only at hSw); go_simp; (try with_reducible rfl)
                (try simp only [Act.put, List.setIfInBounds_toArray, List.set_cons_zero, List.set_cons_succ])
                refine takeW (i := 18) (v := ?_) rfl (by kernel_rfl) (by kernel_rfl) (by kernel_rfl) (fun _ _ _ h => h) (by kernel_rfl) ?_ (by assumption) ?_
                rotate_left
                · intro w hSw; (try dsimp only at hSw); go_simp; (try with_reducible rfl)
                (try simp only [Act.put, List.setIfInBounds_toArray, List.set_cons_zero, List.set_cons_succ])
                refine takeW (i := 19) (v := ?_) rfl (by kernel_rfl) (by kernel_rfl) (by kernel_rfl) (fun _ _ _ h => h) (by kernel_rfl) ?_ (by assumption) ?_
                rotate_left
                · intro w hSw; (try dsimp only at hSw); go_simp; (try with_reducible rfl)
                (try simp only [Act.put, List.setIfInBounds_toArray, List.set_cons_zero, List.set_cons_succ])
                refine comesW (i := 20) rfl (by kernel_rfl) (by kernel_rfl) (fun K hK => ?_)
                go_simp
                refine (HBT _).mono ?_
                rintro e w5 ⟨rfl, hx⟩
                have mw5 : Below W1.heap.size W1 w5 := mw4.trans (hx.mono mw4.size)
                have kw5 : Below w.heap.size w w5 := HKB.out.trans ((HKW.out.trans (mw5.mono HKW.out.size)).mono HKB.out.size)
                clear hx
                (try dsimp only)
                refine hK.out _ _ (HSK.out w5 mw5) (fun hH2 => ?_)
                clear hK K
                replace hHeld := hH2
                clear hH2
                (try simp only [Act.put, List.setIfInBounds_toArray, List.set_cons_zero, List.set_cons_succ])
                refine takeW (i := 21) (v := ?_) rfl (by kernel_rfl) (by kernel_rfl) (by kernel_rfl) (fun _ _ _ h => h) (by kernel_rfl) ?_ (by assumption) ?_
                rotate_left
                · intro w hSw; (try dsimp only at hSw); go_simp; (try with_reducible rfl)
                (try simp only [Act.put, List.setIfInBounds_toArray, List.set_cons_zero, List.set_cons_succ])
                refine takeW (i := 22) (v := ?_) rfl (by kernel_rfl) (by kernel_rfl) (by kernel_rfl) (fun _ _ _ h => h) (by kernel_rfl) ?_ (by assumption) ?_
                rotate_left
                · intro w hSw; (try dsimp only at hSw); go_simp; (try with_reducible rfl)
                (try simp only [Act.put, List.setIfInBounds_toArray, List.set_cons_zero, List.set_cons_succ])
                refine takeL (i := 23) (v := ?_) rfl (by kernel_rfl) (by kernel_rfl) (by kernel_rfl) (fun _ _ _ h => h) rfl ?_ (by assumption) ?_
                rotate_left
                · intro w hSw; (try dsimp only at hSw); go_simp; (try with_reducible rfl)
                (try simp only [Act.put, List.setIfInBounds_toArray, List.set_cons_zero, List.set_cons_succ])
                refine wpAnyH_done (by kernel_rfl) ?_ _
                clear hHeld kd HSK
                all_goals
                  have HII : Hid ((∀ j, j < k → (gd l j).1 ≠ u.1) → GoodI l k) := fun hh => HI.out.2 ⟨⟨rfl, rfl⟩, hh, fun _ => rfl⟩
                  have bq0 := (mw5.cell (p := ⟨pb, 0, none⟩) bl).trans b0
                  have bql : pb < w5.heap.size := by have := mw5.size; omega
                  have hbl5 : b < w5.heap.size := by have := mw5.size; omega
                  have hbs5 : w.heap.size ≤ w5.heap.size := kw5.size
                  go_wp2_with fail
                  go_loopw [42] (fun i w2 => ∃ t : Nat, t ≤ k ∧ i = .int .i64 t ∧ Hid (∀ j, j < t → (gd l j).1 ≠ u.1) ∧ Below w5.heap.size w5 w2) (fun i _ => k - (intOf i).toNat)
                  case atStart => exact ⟨0, Nat.zero_le _, rfl, fun j hj => by omega, Below.refl _ _⟩
                  case round =>
                    obtain ⟨t, ht, rfl, hno, kb2⟩ := hrel
                    have kl2 := kb2.size
                    have c0 := (kb2.cell (p := ⟨pb, 0, none⟩) bql).trans bq0
                    have k2 : Below w.heap.size w wr := kw5.trans (kb2.mono hbs5)
                    by_cases htl : t < k
                    · obtain ⟨y0, y1⟩ := (HC.out t (by omega)).below hb k2
                      have hti : (t : Int) < (k : Int) := by omega
                      have ht0 : (0 : Int) ≤ (t : Int) := by omega
                      have htk : (t : Int) < (l.length : Int) := by omega
                      have hbw : b < wr.heap.size := by omega
                      have hpw : pb < wr.heap.size := by omega
                      have HSTEP : Hid ((gd l t).1 ≠ u.1 → ∀ j, j < t + 1 → (gd l j).1 ≠ u.1) := fun hh j hj => by
                        by_cases e : j = t
                        · rw [e]; exact hh
                        · exact hno.out j (by omega)
                      have HEQ : Hid ((gd l t).1 = u.1 → B = false) := fun he => HNO.out (fun hg => (HI.out.1 hg).2.1 t htl he)
                      generalize gd l t = y at *
                      by_cases hy : y.1 = u.1
                      · have HF := hid (HEQ.out hy)
                        have hye : (u.1 == y.1) = true := by simp [hy]
                        clear hy HEQ HSTEP
                        go_wp2
                        go_returns
                        exact ⟨by rw [HF.out]; rfl, by go_grown⟩
                      · have HS := hid (HSTEP.out hy)
                        have hye : (u.1 == y.1) = false := by simp; exact fun e => hy e.symm
                        clear hy HEQ HSTEP
                        go_wp2
                        exact ⟨⟨t + 1, by omega, by go_num, HS.out, by go_grown⟩, by simp [intOf]; omega⟩
                    · have hti : ¬ (t : Int) < (k : Int) := by omega
                      have HY := hid (HYES.out (HII.out (fun j hj => hno.out j (by omega))))
                      go_wp2
                      exact ⟨⟨k + 1, by omega, by go_num, HY.out, k2⟩, by simp [intOf]; omega⟩
            · have hk2 : k = 0 := by omega
              subst hk2
              simp only [Nat.zero_mul, Nat.add_zero] at p0 p1
              have HY := hid (HYES.out (HI.out.2 ⟨⟨rfl, rfl⟩, fun j hj => by omega, fun h => absurd h (by omega)⟩))
              go_upto_region 4 with fail
              rw [← HW1.out, ← HPB.out]
              clear HW1 HPB
              have HSK : Hid (∀ W, Below W1.heap.size W1 W → (fun w' : World => w'.cell? ⟨pb, 0, none⟩ = some (.int .i64 u.1) ∧ w'.cell? ⟨pb, 1, none⟩ = some (.int .i64 u.2)) W) := fun W hW => ⟨(hW.cell bl).trans b0, (hW.cell bl).trans b1⟩
              have kd : Below W1.heap.size W1 W1.drew := Below.drew (Below.refl _ _)
              have hHeld := HSK.out W1.drew kd
              refine wp_region_heldL (n := 24) (S := fun w' : World => w'.cell? ⟨pb, 0, none⟩ = some (.int .i64 u.1) ∧ w'.cell? ⟨pb, 1, none⟩ = some (.int .i64 u.2)) (by kernel_rfl) rfl ?_
              refine takeL (i := 0) (v := ?_) rfl (by kernel_rfl) (by kernel_rfl) (by kernel_rfl) (fun _ _ _ h => h) rfl ?_ (by assumption) ?_
              rotate_left
              · intro w hSw; (try dsimp only at hSw); go_simp; (try with_reducible rfl)
              (try simp only [Act.put, List.setIfInBounds_toArray, List.set_cons_zero, List.set_cons_succ])
              refine takeL (i := 1) (v := ?_) rfl (by kernel_rfl) (by kernel_rfl) (by kernel_rfl) (fun _ _ _ h => h) rfl ?_ (by assumption) ?_
              rotate_left
              · intro w hSw; (try dsimp only at hSw); go_simp; (try with_reducible rfl)
              (try simp only [Act.put, List.setIfInBounds_toArray, List.set_cons_zero, List.set_cons_succ])
              refine comesL (i := 2) rfl rfl (by kernel_rfl) (fun K hK => ?_)
              go_simp
              refine (HN1 _).mono ?_
              rintro e w3 ⟨rfl, hx⟩
              have mw3 : Below W1.heap.size W1 w3 := by rw [hx]; exact kd
              have kw3 : Below w.heap.size w w3 := HKB.out.trans ((HKW.out.trans (mw3.mono HKW.out.size)).mono HKB.out.size)
              clear hx
              (try dsimp only)
              refine hK.out _ _ (HSK.out w3 mw3) (fun hH2 => ?_)
              clear hK K
              replace hHeld := hH2
              clear hH2
              (try simp only [Act.put, List.setIfInBounds_toArray, List.set_cons_zero, List.set_cons_succ])
              refine takeL (i := 3) (v := ?_) rfl (by kernel_rfl) (by kernel_rfl) (by kernel_rfl) (fun _ _ _ h => h) rfl ?_ (by assumption) ?_
              rotate_left
              · intro w hSw; (try dsimp only at hSw); go_simp; (try with_reducible rfl)
              (try simp only [Act.put, List.setIfInBounds_toArray, List.set_cons_zero, List.set_cons_succ])
              refine takeL (i := 4) (v := ?_) rfl (by kernel_rfl) (by kernel_rfl) (by kernel_rfl) (fun _ _ _ h => h) rfl ?_ (by assumption) ?_
              rotate_left
              · intro w hSw; (try dsimp only at hSw); go_simp; (try with_reducible rfl)
              (try simp only [Act.put, List.setIfInBounds_toArray, List.set_cons_zero, List.set_cons_succ])
              refine takeW (i := 5) (v := ?_) rfl (by kernel_rfl) (by kernel_rfl) (by kernel_rfl) (fun _ _ _ h => h) (by kernel_rfl) ?_ (by assumption) ?_
              rotate_left
              · intro w hSw; (try dsimp only at hSw); go_simp; (try with_reducible rfl)
              (try simp only [Act.put, List.setIfInBounds_toArray, List.set_cons_zero, List.set_cons_succ])
              refine takeW (i := 6) (v := ?_) rfl (by kernel_rfl) (by kernel_rfl) (by kernel_rfl) (fun _ _ _ h => h) (by kernel_rfl) ?_ (by assumption) ?_
              rotate_left
              · intro w hSw; (try dsimp only at hSw); go_simp; (try with_reducible rfl)
              (try simp only [Act.put, List.setIfInBounds_toArray, List.set_cons_zero, List.set_cons_succ])
              refine comesW (i := 7) rfl (by kernel_rfl) (by kernel_rfl) (fun K hK => ?_)
              go_simp
              refine (HN2 _).mono ?_
              rintro e w4 ⟨rfl, hx⟩
              have mw4 : Below W1.heap.size W1 w4 := by rw [hx]; exact mw3
              have kw4 : Below w.heap.size w w4 := HKB.out.trans ((HKW.out.trans (mw4.mono HKW.out.size)).mono HKB.out.size)
              clear hx
              (try dsimp only)
              refine hK.out _ _ (HSK.out w4 mw4) (fun hH2 => ?_)
              clear hK K
              replace hHeld := hH2
              clear hH2
              (try simp only [Act.put, List.setIfInBounds_toArray, List.set_cons_zero, List.set_cons_succ])
              refine takeW (i := 8) (v := ?_) rfl (by kernel_rfl) (by kernel_rfl) (by kernel_rfl) (fun _ _ _ h => h) (by kernel_rfl) ?_ (by assumption) ?_
              rotate_left
              · intro w hSw; (try dsimp only at hSw); go_simp; (try with_reducible rfl)
              (try simp only [Act.put, List.setIfInBounds_toArray, List.set_cons_zero, List.set_cons_succ])
              refine takeL (i := 9) (v := ?_) rfl (by kernel_rfl) (by kernel_rfl) (by kernel_rfl) (fun _ _ _ h => h) rfl ?_ (by assumption) ?_
              rotate_left
              · intro w hSw; (try dsimp only at hSw); go_simp; (try with_reducible rfl)
              (try simp only [Act.put, List.setIfInBounds_toArray, List.set_cons_zero, List.set_cons_succ])
              refine takeL (i := 10) (v := ?_) rfl (by kernel_rfl) (by kernel_rfl) (by kernel_rfl) (fun _ _ _ h => h) rfl ?_ (by assumption) ?_
              rotate_left
              · intro w hSw; (try dsimp only at hSw); go_simp; (try with_reducible rfl)
              (try simp only [Act.put, List.setIfInBounds_toArray, List.set_cons_zero, List.set_cons_succ])
              refine takeW (i := 11) (v := ?_) rfl (by kernel_rfl) (by kernel_rfl) (by kernel_rfl) (fun _ _ _ h => h) (by kernel_rfl) ?_ (by assumption) ?_
              rotate_left
              · intro w hSw; (try dsimp only at hSw); go_simp; (try with_reducible rfl)
              (try simp only [Act.put, List.setIfInBounds_toArray, List.set_cons_zero, List.set_cons_succ])
              refine takeW (i := 12) (v := ?_) rfl (by kernel_rfl) (by kernel_rfl) (by kernel_rfl) (fun _ _ _ h => h) (by kernel_rfl) ?_ (by assumption) ?_
              rotate_left
              · intro w hSw; (try dsimp only at hSw); go_simp; (try with_reducible rfl)
              (try simp only [Act.put, List.setIfInBounds_toArray, List.set_cons_zero, List.set_cons_succ])
              refine takeW (i := 13) (v := ?_) rfl (by kernel_rfl) (by kernel_rfl) (by kernel_rfl) (fun _ _ _ h => h) (by kernel_rfl) ?_ (by assumption) ?_
              rotate_left
              · intro w hSw; (try dsimp only at hSw); go_simp; (try with_reducible rfl)
              (try simp only [Act.put, List.setIfInBounds_toArray, List.set_cons_zero, List.set_cons_succ])
              refine skipL (i := 14) rfl (by kernel_rfl) (by kernel_rfl) (by kernel_rfl) (fun _ _ _ h => h) (by kernel_rfl) (by assumption) ?_
              (try simp only [Act.put, List.setIfInBounds_toArray, List.set_cons_zero, List.set_cons_succ])
              refine skipL (i := 15) rfl (by kernel_rfl) (by kernel_rfl) (by kernel_rfl) (fun _ _ _ h => h) (by kernel_rfl) (by assumption) ?_
              (try simp only [Act.put, List.setIfInBounds_toArray, List.set_cons_zero, List.set_cons_succ])
              refine skipL (i := 16) rfl (by kernel_rfl) (by kernel_rfl) (by kernel_rfl) (fun _ _ _ h => h) (by kernel_rfl) (by assumption) ?_
              (try simp only [Act.put, List.setIfInBounds_toArray, List.set_cons_zero, List.set_cons_succ])
              refine skipL (i := 17) rfl (by kernel_rfl) (by kernel_rfl) (by kernel_rfl) (fun _ _ _ h => h) (by kernel_rfl) (by assumption) ?_
              (try simp only [Act.put, List.setIfInBounds_toArray, List.set_cons_zero, List.set_cons_succ])
              refine skipL (i := 18) rfl (by kernel_rfl) (by kernel_rfl) (by kernel_rfl) (fun _ _ _ h => h) (by kernel_rfl) (by assumption) ?_
              (try simp only [Act.put, List.setIfInBounds_toArray, List.set_cons_zero, List.set_cons_succ])
              refine skipL (i := 19) rfl (by kernel_rfl) (by kernel_rfl) (by kernel_rfl) (fun _ _ _ h => h) (by kernel_rfl) (by assumption) ?_
              (try simp only [Act.put, List.setIfInBounds_toArray, List.set_cons_zero, List.set_cons_succ])
              refine skipL (i := 20) rfl (by kernel_rfl) (by kernel_rfl) (by kernel_rfl) (fun _ _ _ h => h) (by kernel_rfl) (by assumption) ?_
              (try simp only [Act.put, List.setIfInBounds_toArray, List.set_cons_zero, List.set_cons_succ])
              refine skipL (i := 21) rfl (by kernel_rfl) (by kernel_rfl) (by kernel_rfl) (fun _ _ _ h => h) (by kernel_rfl) (by assumption) ?_
              (try simp only [Act.put, List.setIfInBounds_toArray, List.set_cons_zero, List.set_cons_succ])
              refine takeW (i := 22) (v := ?_) rfl (by kernel_rfl) (by kernel_rfl) (by kernel_rfl) (fun _ _ _ h => h) (by kernel_rfl) ?_ (by assumption) ?_
              rotate_left
              · intro w hSw; (try dsimp only at hSw); go_simp; (try with_reducible rfl)
              (try simp only [Act.put, List.setIfInBounds_toArray, List.set_cons_zero, List.set_cons_succ])
              refine takeL (i := 23) (v := ?_) rfl (by kernel_rfl) (by kernel_rfl) (by kernel_rfl) (fun _ _ _ h => h) rfl ?_ (by assumption) ?_
              rotate_left
              · intro w hSw; (try dsimp only at hSw); go_simp; (try with_reducible rfl)
              (try simp only [Act.put, List.setIfInBounds_toArray, List.set_cons_zero, List.set_cons_succ])
              refine wpAnyH_done (by kernel_rfl) ?_ _
              clear hHeld kd HSK
              all_goals
                go_wp2_with fail
                go_loopw [42] (fun i w2 => i = .int .i64 0 ∧ Below w.heap.size w w2) (fun _ _ => 0)
                case atStart => exact ⟨rfl, kw4⟩
                case round =>
                  obtain ⟨rfl, kb2⟩ := hrel
                  go_wp2
                  exact ⟨⟨1, by omega, by go_num, HY.out, kb2⟩, by simp [intOf]; omega⟩
      · have hki : ¬ (k : Int) < (l.length : Int) := by omega
        by_cases h20 : l.length ≤ 20
        · have HT : Hid (B = true) := HB.out.2 ⟨by omega, fun i hi => hall.out i (by omega)⟩
          have h2i : (l.length : Int) ≤ 20 := by omega
          go_wp2
          go_returns
          exact ⟨by rw [HT.out]; rfl, kb⟩
        · have HT : Hid (B = false) := by
            show _ = _
            cases hb : B with
            | false => rfl
            | true => exact absurd (HB.out.1 hb).1 h20
          have h2i : ¬ (l.length : Int) ≤ 20 := by omega
          go_wp2
          go_returns
          exact ⟨by rw [HT.out]; rfl, kb⟩
end Go.Proofs.Ythdodlbhkpoadaa
