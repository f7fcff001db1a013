/- Contracts of the laws' sameTexts, sameInts and samePosts. Condition: the lists lie in memory. -/
import Derived.Test.YtkkmnegmghllpaaPostY
import Derived.Test.YtkkmnegmghllpaaWordQ
namespace Go.Proofs.Ytkkmnegmghllpaa
open Go.ChangeShapes Go.WideShapes Go.ChangeAt Go.RowKit Go.Deep
set_option linter.unusedVariables false
attribute [local go_sem ↓] Go.wp_at_zero Go.wp_at_succ

theorem ext_getD {zs ys : List Int} (hl : zs.length = ys.length) (h : ∀ i, i < zs.length → zs.getD i 0 = ys.getD i 0) : zs = ys := by
  apply List.ext_getElem hl
  intro i h1 h2
  have := h i h1
  simpa [List.getD, h1, h2] using this

theorem sameStr (v1 v2 : Value) (ss : List ByteArray) (w : World) (h1 : StrsAt w v1 ss) (h2 : StrsAt w v2 ss) (hlen : ss.length ≤ 1048576) :
    Calls Try.prog 21 #[v1, v2] w fun e w' => e = .returned (.bool true) ∧ Below w.heap.size w w' := by
  by_cases h0 : ss = []
  · subst h0
    have f1 : ∃ a c, v1 = .slice a 0 c := by rcases h1 with ⟨a, c, rfl, _⟩ | ⟨b, off, cap, rfl, _, _⟩ <;> exact ⟨_, _, rfl⟩
    have f2 : ∃ a c, v2 = .slice a 0 c := by rcases h2 with ⟨a, c, rfl, _⟩ | ⟨b, off, cap, rfl, _, _⟩ <;> exact ⟨_, _, rfl⟩
    obtain ⟨a1, c1, rfl⟩ := f1
    obtain ⟨a2, c2, rfl⟩ := f2
    clear h1 h2
    go_enter Try.func21, Try.ntmps21
    go_wp2
    go_loop [5, 13] (fun x i => i = .int .i64 0) (fun _ _ => 0)
    case atStart => rfl
    case round =>
      subst hrel
      go_wp2
      go_ret
      exact ⟨rfl, by go_grown⟩
  · rcases h1 with ⟨_, _, _, e⟩ | ⟨b, off, cap, rfl, hb, hcell⟩
    · exact absurd e h0
    rcases h2 with ⟨_, _, _, e⟩ | ⟨b2, off2, cap2, rfl, hb2, hcell2⟩
    · exact absurd e h0
    have HC : Hid (∀ i, i < ss.length → w.cell? ⟨b, off + i, none⟩ = some (.string (ss.getD i ByteArray.empty))) := hcell
    have HD : Hid (∀ i, i < ss.length → w.cell? ⟨b2, off2 + i, none⟩ = some (.string (ss.getD i ByteArray.empty))) := hcell2
    clear hcell hcell2
    go_enter Try.func21, Try.ntmps21
    go_wp2
    go_loopw [5, 13] (fun x i wr => ∃ k : Nat, k ≤ ss.length ∧ i = .int .i64 k ∧ Below w.heap.size w wr) (fun _ i _ => ss.length - (intOf i).toNat)
    case atStart => exact ⟨0, Nat.zero_le _, rfl, by go_grown⟩
    case round =>
      obtain ⟨k, hk, rfl, kb⟩ := hrel
      by_cases hlt : k < ss.length
      · have hc : wr.cell? ⟨b, off + k, none⟩ = some (.string (ss.getD k ByteArray.empty)) := (kb.cell (p := ⟨b, off + k, none⟩) hb).trans (HC.out k hlt)
        have hd : wr.cell? ⟨b2, off2 + k, none⟩ = some (.string (ss.getD k ByteArray.empty)) := (kb.cell (p := ⟨b2, off2 + k, none⟩) hb2).trans (HD.out k hlt)
        generalize ss.getD k ByteArray.empty = t at *
        go_wp2
        go_region
        go_wp2
        exact ⟨⟨k + 1, by omega, by go_num, by go_grown⟩, by simp [intOf]; omega⟩
      · go_wp2
        go_ret
        exact ⟨rfl, by go_grown⟩

set_option maxHeartbeats 1600000 in
theorem sameI (v1 v2 : Value) (zs ys : List Int) (w : World) (h1 : IntsAt w v1 zs) (h2 : IntsAt w v2 ys) (hlen : zs.length ≤ 1048576) (hlen2 : ys.length ≤ 1048576) :
    Calls Try.prog 34 #[v1, v2] w fun e w' => e = .returned (.bool (decide (zs = ys))) ∧ Below w.heap.size w w' := by
  by_cases hl : zs.length = ys.length
  case neg =>
    have hF : decide (zs = ys) = false := by simp; intro e; rw [e] at hl; exact hl rfl
    obtain ⟨a1, c1, rfl⟩ := h1.slice
    obtain ⟨a2, c2, rfl⟩ := h2.slice
    have hne : ((zs.length : Int) != (ys.length : Int)) = true := by simp; omega
    rw [hF]
    clear h1 h2 hl hF
    go_enter Try.func34, Try.ntmps34
    go_wp2
    go_returns
    exact ⟨rfl, by go_grown⟩
  by_cases h0 : zs = []
  · subst h0
    have hy : ys = [] := List.eq_nil_of_length_eq_zero hl.symm
    subst hy
    have f1 : ∃ a c, v1 = .slice a 0 c := by rcases h1 with ⟨a, c, rfl, _⟩ | ⟨b, off, cap, rfl, _, _⟩ <;> exact ⟨_, _, rfl⟩
    have f2 : ∃ a c, v2 = .slice a 0 c := by rcases h2 with ⟨a, c, rfl, _⟩ | ⟨b, off, cap, rfl, _, _⟩ <;> exact ⟨_, _, rfl⟩
    obtain ⟨a1, c1, rfl⟩ := f1
    obtain ⟨a2, c2, rfl⟩ := f2
    clear h1 h2
    go_enter Try.func34, Try.ntmps34
    go_wp2
    go_loop [5, 13] (fun x i => i = .int .i64 0) (fun _ _ => 0)
    case atStart => rfl
    case round =>
      subst hrel
      go_wp2
      go_ret
      exact ⟨rfl, by go_grown⟩
  · rcases h1 with ⟨_, _, _, e⟩ | ⟨b, off, cap, rfl, hb, hcell⟩
    · exact absurd e h0
    rcases h2 with ⟨_, _, _, e⟩ | ⟨b2, off2, cap2, rfl, hb2, hcell2⟩
    · subst e; exact absurd (List.eq_nil_of_length_eq_zero hl) h0
    have HC : Hid (∀ i, i < zs.length → w.cell? ⟨b, off + i, none⟩ = some (.int .i64 (zs.getD i 0))) := hcell
    have HD : Hid (∀ i, i < zs.length → w.cell? ⟨b2, off2 + i, none⟩ = some (.int .i64 (ys.getD i 0))) := by rw [hl]; exact hcell2
    have HE : Hid ((∀ i, i < zs.length → zs.getD i 0 = ys.getD i 0) → decide (zs = ys) = true) := fun h => by simpa using ext_getD hl h
    have HN : Hid (∀ i, zs.getD i 0 ≠ ys.getD i 0 → decide (zs = ys) = false) := fun i h => by simp; intro e; rw [e] at h; exact h rfl
    clear hcell hcell2
    rw [← hl]
    clear hl h0
    generalize decide (zs = ys) = same at *
    go_enter Try.func34, Try.ntmps34
    go_wp2
    go_loopw [5, 13] (fun x i wr => ∃ k : Nat, k ≤ zs.length ∧ i = .int .i64 k ∧ Below w.heap.size w wr ∧ ∀ j, j < k → zs.getD j 0 = ys.getD j 0) (fun _ i _ => zs.length - (intOf i).toNat)
    case atStart => exact ⟨0, Nat.zero_le _, rfl, by go_grown, fun j hj => by omega⟩
    case round =>
      obtain ⟨k, hk, rfl, kb, hall⟩ := hrel
      have HA : Hid (∀ j, j < k → zs.getD j 0 = ys.getD j 0) := hall
      clear hall
      by_cases hlt : k < zs.length
      · have hc : wr.cell? ⟨b, off + k, none⟩ = some (.int .i64 (zs.getD k 0)) := (kb.cell (p := ⟨b, off + k, none⟩) hb).trans (HC.out k hlt)
        have hd : wr.cell? ⟨b2, off2 + k, none⟩ = some (.int .i64 (ys.getD k 0)) := (kb.cell (p := ⟨b2, off2 + k, none⟩) hb2).trans (HD.out k hlt)
        have HNk : Hid (zs.getD k 0 ≠ ys.getD k 0 → same = false) := HN.out k
        have HAk : Hid (zs.getD k 0 = ys.getD k 0 → ∀ j, j < k + 1 → zs.getD j 0 = ys.getD j 0) := by
          intro h j hj
          by_cases e : j = k
          · rw [e]; exact h
          · exact HA.out j (by omega)
        generalize zs.getD k 0 = t at *
        generalize ys.getD k 0 = t' at *
        by_cases ht : t = t'
        · have HAl : Hid (∀ j, j < k + 1 → zs.getD j 0 = ys.getD j 0) := HAk.out ht
          clear HAk HNk
          subst ht
          go_wp2
          go_region
          go_wp2
          exact ⟨⟨k + 1, by omega, by go_num, by go_grown, HAl.out⟩, by simp [intOf]; omega⟩
        · have HS : Hid (same = false) := HNk.out ht
          go_wp2
          go_region
          all_goals go_wp2
          all_goals go_returns
          all_goals exact ⟨by rw [HS.out]; rfl, by go_grown⟩
      · have HS : Hid (same = true) := HE.out (fun i hi => HA.out i (by omega))
        go_wp2
        go_ret
        exact ⟨by rw [HS.out]; rfl, by go_grown⟩

set_option maxHeartbeats 6400000 in
set_option maxRecDepth 100000 in
theorem samePos (x y : Value) (ps : List Po) (w : World) (hx : PosAt w x ps) (hy : PosAt w y ps) (hl : ps.length ≤ 1048576) (hs : ∀ p ∈ ps, p.2.length ≤ 1048576) :
    Calls Try.prog 20 #[x, y] w fun e w' => e = .returned (.bool true) ∧ Below w.heap.size w w' := by
  have HSM := hid hs
  clear hs
  have hln : ((ps.length : Int) != (ps.length : Int)) = false := by simp
  by_cases h0 : ps = []
  · subst h0
    obtain ⟨a1, c1, rfl⟩ := hx.slice
    obtain ⟨a2, c2, rfl⟩ := hy.slice
    clear hx hy hln
    simp only [List.length_nil]
    go_enter Try.func20, Try.ntmps20
    go_wp2
    go_loopw [13] (fun i wr => i = .int .i64 0 ∧ Below w.heap.size w wr) (fun _ _ => 0)
    case atStart => exact ⟨rfl, by go_grown⟩
    case round =>
      obtain ⟨rfl, kb⟩ := hrel
      go_wp2
      go_ret
      exact ⟨rfl, kb⟩
  · rcases hx with ⟨_, _, _, e⟩ | ⟨b1, off1, cap1, rfl, hb1, hc1⟩
    · exact absurd e h0
    rcases hy with ⟨_, _, _, e⟩ | ⟨b2, off2, cap2, rfl, hb2, hc2⟩
    · exact absurd e h0
    have HC1 := hid hc1
    have HC2 := hid hc2
    clear hc1 hc2 h0
    go_enter Try.func20, Try.ntmps20
    go_wp2
    go_loopw [13] (fun i wr => ∃ k : Nat, k ≤ ps.length ∧ i = .int .i64 k ∧ Below w.heap.size w wr) (fun i _ => ps.length - (intOf i).toNat)
    case atStart => exact ⟨0, Nat.zero_le _, rfl, by go_grown⟩
    case round =>
      obtain ⟨k, hk, rfl, kb⟩ := hrel
      have kl := kb.size
      by_cases hlt : k < ps.length
      · obtain ⟨pv, p0, p1, hlp⟩ := (HC1.out k hlt).below hb1 kb
        obtain ⟨qv, q0, q1, hlq⟩ := (HC2.out k hlt).below hb2 kb
        have hb1r : b1 < wr.heap.size := by omega
        have hb2r : b2 < wr.heap.size := by omega
        have HE : Hid (∀ W, Below wr.heap.size wr W → Calls Try.prog 34 #[pv, qv] W fun e w' => e = .returned (.bool true) ∧ Below W.heap.size W w') := fun W hW => by
          have h := sameI pv qv _ _ W (hlp.below hW) (hlq.below hW) (HSM.out _ (by simp [List.getD, hlt])) (HSM.out _ (by simp [List.getD, hlt]))
          rwa [decide_eq_true rfl] at h
        obtain ⟨A1, C1, rfl⟩ := hlp.slice
        obtain ⟨A2, C2, rfl⟩ := hlq.slice
        have hki : (k : Int) < (ps.length : Int) := by omega
        have hk0 : (0 : Int) ≤ (k : Int) := by omega
        have hut : ∀ i : Int, (i != i) = false := fun i => by simp
        clear hlp hlq
        generalize ps.getD k default = u at *
        have hu1 := hut u.1
        clear hut
        obtain ⟨W1, hW1⟩ : ∃ W1, W1 = wr := ⟨_, rfl⟩
        subst hW1
        have HKB := hid kb
        go_upto_region 6 with fail
        have HSK : Hid (∀ W, Below W1.heap.size W1 W → (fun w' : World => (w'.cell? ⟨b1, off1 + k * 2, none⟩ = some (.int .i64 u.1) ∧ w'.cell? ⟨b1, off1 + k * 2 + 1, none⟩ = some (.slice A1 u.2.length C1)) ∧ w'.cell? ⟨b2, off2 + k * 2, none⟩ = some (.int .i64 u.1) ∧ w'.cell? ⟨b2, off2 + k * 2 + 1, none⟩ = some (.slice A2 u.2.length C2)) W) := fun W hW => ⟨⟨(hW.cell (p := ⟨b1, off1 + k * 2, none⟩) hb1r).trans p0, (hW.cell (p := ⟨b1, off1 + k * 2 + 1, none⟩) hb1r).trans p1⟩, (hW.cell (p := ⟨b2, off2 + k * 2, none⟩) hb2r).trans q0, (hW.cell (p := ⟨b2, off2 + k * 2 + 1, none⟩) hb2r).trans q1⟩
        have kd : Below W1.heap.size W1 W1.drew := Below.drew (Below.refl _ _)
        have hHeld := HSK.out W1.drew kd
        refine wp_region_heldL (n := 25) (S := fun w' : World => (w'.cell? ⟨b1, off1 + k * 2, none⟩ = some (.int .i64 u.1) ∧ w'.cell? ⟨b1, off1 + k * 2 + 1, none⟩ = some (.slice A1 u.2.length C1)) ∧ w'.cell? ⟨b2, off2 + k * 2, none⟩ = some (.int .i64 u.1) ∧ w'.cell? ⟨b2, off2 + k * 2 + 1, none⟩ = some (.slice A2 u.2.length C2)) (by kernel_rfl) rfl ?_
        refine takeW (i := 0) (v := ?_) rfl (by kernel_rfl) (by kernel_rfl) (by kernel_rfl) (fun _ _ _ h => h) (by kernel_rfl) ?_ (by assumption) ?_
        rotate_left
        · intro w hSw; (try dsimp only at hSw); go_simp; (try with_reducible rfl)
        (try simp only [Act.put, List.setIfInBounds_toArray, List.set_cons_zero, List.set_cons_succ])
        refine takeW (i := 1) (v := ?_) rfl (by kernel_rfl) (by kernel_rfl) (by kernel_rfl) (fun _ _ _ h => h) (by kernel_rfl) ?_ (by assumption) ?_
        rotate_left
        · intro w hSw; (try dsimp only at hSw); go_simp; (try with_reducible rfl)
        (try simp only [Act.put, List.setIfInBounds_toArray, List.set_cons_zero, List.set_cons_succ])
        refine takeW (i := 2) (v := ?_) rfl (by kernel_rfl) (by kernel_rfl) (by kernel_rfl) (fun _ _ _ h => h) (by kernel_rfl) ?_ (by assumption) ?_
        rotate_left
        · intro w hSw; (try dsimp only at hSw); go_simp; (try with_reducible rfl)
        (try simp only [Act.put, List.setIfInBounds_toArray, List.set_cons_zero, List.set_cons_succ])
        refine takeW (i := 3) (v := ?_) rfl (by kernel_rfl) (by kernel_rfl) (by kernel_rfl) (fun _ _ _ h => h) (by kernel_rfl) ?_ (by assumption) ?_
        rotate_left
        · intro w hSw; (try dsimp only at hSw); go_simp; (try with_reducible rfl)
        (try simp only [Act.put, List.setIfInBounds_toArray, List.set_cons_zero, List.set_cons_succ])
        refine takeW (i := 4) (v := ?_) rfl (by kernel_rfl) (by kernel_rfl) (by kernel_rfl) (fun _ _ _ h => h) (by kernel_rfl) ?_ (by assumption) ?_
        rotate_left
        · intro w hSw; (try dsimp only at hSw); go_simp; (try with_reducible rfl)
        (try simp only [Act.put, List.setIfInBounds_toArray, List.set_cons_zero, List.set_cons_succ])
        refine takeW (i := 5) (v := ?_) rfl (by kernel_rfl) (by kernel_rfl) (by kernel_rfl) (fun _ _ _ h => h) (by kernel_rfl) ?_ (by assumption) ?_
        rotate_left
        · intro w hSw; (try dsimp only at hSw); go_simp; (try with_reducible rfl)
        (try simp only [Act.put, List.setIfInBounds_toArray, List.set_cons_zero, List.set_cons_succ])
        refine takeW (i := 6) (v := ?_) rfl (by kernel_rfl) (by kernel_rfl) (by kernel_rfl) (fun _ _ _ h => h) (by kernel_rfl) ?_ (by assumption) ?_
        rotate_left
        · intro w hSw; (try dsimp only at hSw); go_simp; (try with_reducible rfl)
        (try simp only [Act.put, List.setIfInBounds_toArray, List.set_cons_zero, List.set_cons_succ])
        refine takeW (i := 7) (v := ?_) rfl (by kernel_rfl) (by kernel_rfl) (by kernel_rfl) (fun _ _ _ h => h) (by kernel_rfl) ?_ (by assumption) ?_
        rotate_left
        · intro w hSw; (try dsimp only at hSw); go_simp; (try with_reducible rfl)
        (try simp only [Act.put, List.setIfInBounds_toArray, List.set_cons_zero, List.set_cons_succ])
        refine takeW (i := 8) (v := ?_) rfl (by kernel_rfl) (by kernel_rfl) (by kernel_rfl) (fun _ _ _ h => h) (by kernel_rfl) ?_ (by assumption) ?_
        rotate_left
        · intro w hSw; (try dsimp only at hSw); go_simp; (try with_reducible rfl)
        (try simp only [Act.put, List.setIfInBounds_toArray, List.set_cons_zero, List.set_cons_succ])
        refine takeW (i := 9) (v := ?_) rfl (by kernel_rfl) (by kernel_rfl) (by kernel_rfl) (fun _ _ _ h => h) (by kernel_rfl) ?_ (by assumption) ?_
        rotate_left
        · intro w hSw; (try dsimp only at hSw); go_simp; (try with_reducible rfl)
        (try simp only [Act.put, List.setIfInBounds_toArray, List.set_cons_zero, List.set_cons_succ])
        refine takeW (i := 10) (v := ?_) rfl (by kernel_rfl) (by kernel_rfl) (by kernel_rfl) (fun _ _ _ h => h) (by kernel_rfl) ?_ (by assumption) ?_
        rotate_left
        · intro w hSw; (try dsimp only at hSw); go_simp; (try with_reducible rfl)
        (try simp only [Act.put, List.setIfInBounds_toArray, List.set_cons_zero, List.set_cons_succ])
        refine takeW (i := 11) (v := ?_) rfl (by kernel_rfl) (by kernel_rfl) (by kernel_rfl) (fun _ _ _ h => h) (by kernel_rfl) ?_ (by assumption) ?_
        rotate_left
        · intro w hSw; (try dsimp only at hSw); go_simp; (try with_reducible rfl)
        (try simp only [Act.put, List.setIfInBounds_toArray, List.set_cons_zero, List.set_cons_succ])
        refine takeW (i := 12) (v := ?_) rfl (by kernel_rfl) (by kernel_rfl) (by kernel_rfl) (fun _ _ _ h => h) (by kernel_rfl) ?_ (by assumption) ?_
        rotate_left
        · intro w hSw; (try dsimp only at hSw); go_simp; (try with_reducible rfl)
        (try simp only [Act.put, List.setIfInBounds_toArray, List.set_cons_zero, List.set_cons_succ])
        refine takeW (i := 13) (v := ?_) rfl (by kernel_rfl) (by kernel_rfl) (by kernel_rfl) (fun _ _ _ h => h) (by kernel_rfl) ?_ (by assumption) ?_
        rotate_left
        · intro w hSw; (try dsimp only at hSw); go_simp; (try with_reducible rfl)
        (try simp only [Act.put, List.setIfInBounds_toArray, List.set_cons_zero, List.set_cons_succ])
        refine takeW (i := 14) (v := ?_) rfl (by kernel_rfl) (by kernel_rfl) (by kernel_rfl) (fun _ _ _ h => h) (by kernel_rfl) ?_ (by assumption) ?_
        rotate_left
        · intro w hSw; (try dsimp only at hSw); go_simp; (try with_reducible rfl)
        (try simp only [Act.put, List.setIfInBounds_toArray, List.set_cons_zero, List.set_cons_succ])
        refine takeW (i := 15) (v := ?_) rfl (by kernel_rfl) (by kernel_rfl) (by kernel_rfl) (fun _ _ _ h => h) (by kernel_rfl) ?_ (by assumption) ?_
        rotate_left
        · intro w hSw; (try dsimp only at hSw); go_simp; (try with_reducible rfl)
        (try simp only [Act.put, List.setIfInBounds_toArray, List.set_cons_zero, List.set_cons_succ])
        refine takeW (i := 16) (v := ?_) rfl (by kernel_rfl) (by kernel_rfl) (by kernel_rfl) (fun _ _ _ h => h) (by kernel_rfl) ?_ (by assumption) ?_
        rotate_left
        · intro w hSw; (try dsimp only at hSw); go_simp; (try with_reducible rfl)
        (try simp only [Act.put, List.setIfInBounds_toArray, List.set_cons_zero, List.set_cons_succ])
        refine takeW (i := 17) (v := ?_) rfl (by kernel_rfl) (by kernel_rfl) (by kernel_rfl) (fun _ _ _ h => h) (by kernel_rfl) ?_ (by assumption) ?_
        rotate_left
        · intro w hSw; (try dsimp only at hSw); go_simp; (try with_reducible rfl)
        (try simp only [Act.put, List.setIfInBounds_toArray, List.set_cons_zero, List.set_cons_succ])
        refine takeW (i := 18) (v := ?_) rfl (by kernel_rfl) (by kernel_rfl) (by kernel_rfl) (fun _ _ _ h => h) (by kernel_rfl) ?_ (by assumption) ?_
        rotate_left
        · intro w hSw; (try dsimp only at hSw); go_simp; (try with_reducible rfl)
        (try simp only [Act.put, List.setIfInBounds_toArray, List.set_cons_zero, List.set_cons_succ])
        refine takeW (i := 19) (v := ?_) rfl (by kernel_rfl) (by kernel_rfl) (by kernel_rfl) (fun _ _ _ h => h) (by kernel_rfl) ?_ (by assumption) ?_
        rotate_left
        · intro w hSw; (try dsimp only at hSw); go_simp; (try with_reducible rfl)
        (try simp only [Act.put, List.setIfInBounds_toArray, List.set_cons_zero, List.set_cons_succ])
        refine takeW (i := 20) (v := ?_) rfl (by kernel_rfl) (by kernel_rfl) (by kernel_rfl) (fun _ _ _ h => h) (by kernel_rfl) ?_ (by assumption) ?_
        rotate_left
        · intro w hSw; (try dsimp only at hSw); go_simp; (try with_reducible rfl)
        (try simp only [Act.put, List.setIfInBounds_toArray, List.set_cons_zero, List.set_cons_succ])
        refine takeW (i := 21) (v := ?_) rfl (by kernel_rfl) (by kernel_rfl) (by kernel_rfl) (fun _ _ _ h => h) (by kernel_rfl) ?_ (by assumption) ?_
        rotate_left
        · intro w hSw; (try dsimp only at hSw); go_simp; (try with_reducible rfl)
        (try simp only [Act.put, List.setIfInBounds_toArray, List.set_cons_zero, List.set_cons_succ])
        refine comesW (i := 22) rfl (by kernel_rfl) (by kernel_rfl) (fun K hK => ?_)
        go_simp
        refine (HE.out _ kd).mono ?_
        rintro e wb ⟨rfl, hx2⟩
        have k2 : Below W1.heap.size W1 wb := kd.trans (hx2.mono kd.size)
        have kf : Below w.heap.size w wb := HKB.out.trans (k2.mono HKB.out.size)
        (try dsimp only)
        refine hK.out _ _ (HSK.out _ k2) (fun hH3 => ?_)
        clear hK K hx2
        (try simp only [Act.put, List.setIfInBounds_toArray, List.set_cons_zero, List.set_cons_succ])
        refine takeW (i := 23) (v := ?_) rfl (by kernel_rfl) (by kernel_rfl) (by kernel_rfl) (fun _ _ _ h => h) (by kernel_rfl) ?_ (by assumption) ?_
        rotate_left
        · intro w hSw; (try dsimp only at hSw); go_simp; (try with_reducible rfl)
        (try simp only [Act.put, List.setIfInBounds_toArray, List.set_cons_zero, List.set_cons_succ])
        refine takeW (i := 24) (v := ?_) rfl (by kernel_rfl) (by kernel_rfl) (by kernel_rfl) (fun _ _ _ h => h) (by kernel_rfl) ?_ (by assumption) ?_
        rotate_left
        · intro w hSw; (try dsimp only at hSw); go_simp; (try with_reducible rfl)
        (try simp only [Act.put, List.setIfInBounds_toArray, List.set_cons_zero, List.set_cons_succ])
        refine wpAnyH_done (by kernel_rfl) ?_ _
        clear hHeld HSK
        go_wp2_with fail
        exact ⟨⟨k + 1, by omega, by go_num, kf⟩, by simp [intOf]; omega⟩
      · have hke : k = ps.length := by omega
        subst hke
        go_wp2
        go_ret
        exact ⟨rfl, kb⟩
end Go.Proofs.Ytkkmnegmghllpaa
