/- A score put to its place, and the first few of a list: the model. Condition: the list is the call's own. -/
import Derived.Test.YthdodlbhkpoadaaScB
import Derived.Test.YthdodlbhkpoadaaHeapU
namespace Go.Proofs.Ythdodlbhkpoadaa
open Go.ChangeShapes Go.WideShapes Go.ChangeAt Go.RowKit Go.Deep
set_option linter.unusedVariables false
attribute [local go_sem ↓] Go.wp_at_zero Go.wp_at_succ

theorem wplN {w : World} {ops : Array Oper} {rest : List Oper} {o : Oper} {a : Act} {Q : Exit → Act → World → Prop} (hgd : o.guard = none) (s x : Operand) (t : TypeId) (ht : Try.prog.underlying t = some (.slice 33))
    (ho : o.op = .call { callee := .builtin .append, args := #[s, x], argTypes := #[t, t] })
    (B : Nat) (v : Value) (l : List Sc) (n : Nat) (hln : l.length = n) (hown : OwnH B w v l) (xv : Value) (m : List Sc) (k : Nat) (hk : m.length = k) (hrow : RdS w xv m) (hn : n + k ≤ 2000000) (hB : B ≤ w.heap.size) (hs : a.eval s = v) (hx : a.eval x = xv)
    (h : ∀ qa qc w', OwnH B w' (.slice qa (n + k) qc) (l ++ m) → Off (hbl v) w w' → (∀ g ∈ hbl (.slice qa (n + k) qc), g ∈ hbl v ∨ g = w.heap.size) → wpList Try.prog ops Q rest (a.put o.dst (.slice qa (n + k) qc)) w') :
    wpList Try.prog ops Q (o :: rest) a w := by
  subst hln
  exact wplH hgd s x t ht ho B v l hown xv m k hk hrow hn hB hs hx h
theorem ins_len (l : List Sc) (x : Sc) : (insS l x).length = posS x l + 1 + (l.length - posS x l) := by
  have := posS_le x l
  simp [insS]; omega
set_option maxHeartbeats 12800000 in
set_option maxRecDepth 100000 in
theorem specPut (B : Nat) (v : Value) (l : List Sc) (x : Sc) (w : World) (h : OwnH B w v l) (hB : B ≤ w.heap.size) (hl : l.length ≤ 1000) :
    Calls Try.prog 57 #[v, .agg #[.int .i64 x.1, .int .i64 x.2]] w fun e w' => ∃ qa qc, e = .returned (.slice qa (putS l x).length qc) ∧ OwnH B w' (.slice qa (putS l x).length qc) (putS l x) ∧ Below w.heap.size w w' := by
  obtain ⟨W1, hW1⟩ : ∃ W1, W1 = w.alloc (.cells #[.int .i64 x.1, .int .i64 x.2] 33) := ⟨_, rfl⟩
  have k1 : Below w.heap.size w W1 := by rw [hW1]; exact al_ _ _
  have bX : BoxAt W1 w.heap.size [.int .i64 x.1, .int .i64 x.2] := by rw [hW1]; exact boxNew w _ _
  obtain ⟨xb, hxb⟩ : ∃ xb, xb = w.heap.size := ⟨_, rfl⟩
  rw [← hxb] at bX
  have HXB := hid hxb
  have HW1 := hid hW1
  have HV := hid (h.below k1)
  have HK1 := hid k1
  have hw1 : w.heap.size ≤ W1.heap.size := k1.size
  have hB1 : B ≤ W1.heap.size := Nat.le_trans hB k1.size
  have HLT0 := hid (fun g hg => (h.lt g hg).2 : ∀ g ∈ hbl v, g < w.heap.size)
  have HBX := hid bX
  have hxl := bX.1
  have b0 := bX.2.1 0 _ rfl
  have b1 := bX.2.1 1 _ rfl
  have HPS : Hid (putS l x = if hasD l x.1 = true then l else insS l x) := rfl
  have hPle := posS_le x l
  have HPY := hid (posS_yes x l)
  have HPN := hid (posS_no x l)
  have HIL := hid (ins_len l x)
  have HIS : Hid (insS l x = l.take (posS x l) ++ [x] ++ l.drop (posS x l)) := rfl
  obtain ⟨P, hP⟩ : ∃ P, P = posS x l := ⟨_, rfl⟩
  rw [← hP] at hPle HPY HPN HIL HIS
  obtain ⟨va, vc, rfl⟩ := h.slice
  have hcap := capH h
  clear h hW1 hxb k1 bX hP
  rcases HV.out.2 with ⟨hve, hl0⟩ | ⟨g, cap, cur, hve, hgB, hgh, _⟩
  · obtain ⟨h1, h2, h3⟩ : va = none ∧ l.length = 0 ∧ vc = 0 := by simpa using hve
    subst h1
    subst h3
    have hle : l = [] := List.eq_nil_of_length_eq_zero hl0
    subst hle
    clear h2 hve
    have hP0 : P = 0 := by simpa using hPle
    subst hP0
    have HNP : Hid (putS [] x = insS [] x) := rfl
    go_enter Try.func57, Try.ntmps57
    go_upto_region 1 with fail
    rw [← HW1.out, ← HXB.out]
    clear HW1
    go_wp2
    go_loopw [11] (fun i wr => i = .int .i64 0 ∧ wr = W1) (fun _ _ => 0)
    case atStart => exact ⟨rfl, rfl⟩
    case round =>
      obtain ⟨rfl, hw⟩ := hrel
      subst wr
      simp only [List.length_nil] at *
      go_wp2
      go_loopw [7] (fun i wr => i = .int .i64 0 ∧ wr = W1) (fun _ _ => 0)
      case atStart => exact ⟨rfl, rfl⟩
      case round =>
        obtain ⟨rfl, hw⟩ := hrel
        subst wr
        go_upto_region 8 with fail
        have HSK : Hid (∀ W, Below W1.heap.size W1 W → (fun w' : World => True) W) := fun W hW => trivial
        have kd : Below W1.heap.size W1 W1.drew := Below.drew (Below.refl _ _)
        have hHeld := HSK.out W1.drew kd
        refine wp_region_heldL (n := 12) (S := fun w' : World => True) (by kernel_rfl) rfl ?_
        refine takeL (i := 0) (v := ?_) rfl (by kernel_rfl) (by kernel_rfl) (by kernel_rfl) (fun _ _ _ h => h) rfl ?_ (by assumption) ?_
        rotate_left
        · intro w hSw; (try dsimp only at hSw); go_simp; (try with_reducible rfl)
        (try simp only [Act.put, List.setIfInBounds_toArray, List.set_cons_zero, List.set_cons_succ])
        refine takeL (i := 1) (v := ?_) rfl (by kernel_rfl) (by kernel_rfl) (by kernel_rfl) (fun _ _ _ h => h) rfl ?_ (by assumption) ?_
        rotate_left
        · intro w hSw; (try dsimp only at hSw); go_simp; (try with_reducible rfl)
        (try simp only [Act.put, List.setIfInBounds_toArray, List.set_cons_zero, List.set_cons_succ])
        refine takeL (i := 2) (v := ?_) rfl (by kernel_rfl) (by kernel_rfl) (by kernel_rfl) (fun _ _ _ h => h) rfl ?_ (by assumption) ?_
        rotate_left
        · intro w hSw; (try dsimp only at hSw); go_simp; (try with_reducible rfl)
        (try simp only [Act.put, List.setIfInBounds_toArray, List.set_cons_zero, List.set_cons_succ])
        refine takeL (i := 3) (v := ?_) rfl (by kernel_rfl) (by kernel_rfl) (by kernel_rfl) (fun _ _ _ h => h) rfl ?_ (by assumption) ?_
        rotate_left
        · intro w hSw; (try dsimp only at hSw); go_simp; (try with_reducible rfl)
        (try simp only [Act.put, List.setIfInBounds_toArray, List.set_cons_zero, List.set_cons_succ])
        refine takeL (i := 4) (v := ?_) rfl (by kernel_rfl) (by kernel_rfl) (by kernel_rfl) (fun _ _ _ h => h) rfl ?_ (by assumption) ?_
        rotate_left
        · intro w hSw; (try dsimp only at hSw); go_simp; (try with_reducible rfl)
        (try simp only [Act.put, List.setIfInBounds_toArray, List.set_cons_zero, List.set_cons_succ])
        refine skipL (i := 5) rfl (by kernel_rfl) (by kernel_rfl) (by kernel_rfl) (fun _ _ _ h => h) (by kernel_rfl) (by assumption) ?_
        (try simp only [Act.put, List.setIfInBounds_toArray, List.set_cons_zero, List.set_cons_succ])
        refine skipL (i := 6) rfl (by kernel_rfl) (by kernel_rfl) (by kernel_rfl) (fun _ _ _ h => h) (by kernel_rfl) (by assumption) ?_
        (try simp only [Act.put, List.setIfInBounds_toArray, List.set_cons_zero, List.set_cons_succ])
        refine skipL (i := 7) rfl (by kernel_rfl) (by kernel_rfl) (by kernel_rfl) (fun _ _ _ h => h) (by kernel_rfl) (by assumption) ?_
        (try simp only [Act.put, List.setIfInBounds_toArray, List.set_cons_zero, List.set_cons_succ])
        refine skipL (i := 8) rfl (by kernel_rfl) (by kernel_rfl) (by kernel_rfl) (fun _ _ _ h => h) (by kernel_rfl) (by assumption) ?_
        (try simp only [Act.put, List.setIfInBounds_toArray, List.set_cons_zero, List.set_cons_succ])
        refine skipL (i := 9) rfl (by kernel_rfl) (by kernel_rfl) (by kernel_rfl) (fun _ _ _ h => h) (by kernel_rfl) (by assumption) ?_
        (try simp only [Act.put, List.setIfInBounds_toArray, List.set_cons_zero, List.set_cons_succ])
        refine skipL (i := 10) rfl (by kernel_rfl) (by kernel_rfl) (by kernel_rfl) (fun _ _ _ h => h) (by kernel_rfl) (by assumption) ?_
        (try simp only [Act.put, List.setIfInBounds_toArray, List.set_cons_zero, List.set_cons_succ])
        refine takeL (i := 11) (v := ?_) rfl (by kernel_rfl) (by kernel_rfl) (by kernel_rfl) (fun _ _ _ h => h) rfl ?_ (by assumption) ?_
        rotate_left
        · intro w hSw; (try dsimp only at hSw); go_simp; (try with_reducible rfl)
        (try simp only [Act.put, List.setIfInBounds_toArray, List.set_cons_zero, List.set_cons_succ])
        refine wpAnyH_done (by kernel_rfl) ?_ _
        clear hHeld kd HSK
        all_goals
          have kbb : Below W1.heap.size W1 W1.drew := (Below.refl _ _).drew
          rw [show ({ heap := W1.heap, tape := W1.tape, drawn := W1.drawn + 1, os := W1.os, output := W1.output } : World) = W1.drew from rfl]
          generalize W1.drew = wz at *
          have HBZ : Hid (B ≤ wz.heap.size) := by show _ ≤ _; have := kbb.size; omega
          have HVZ := hid (HV.out.below kbb)
          have HXZ := hid (HBX.out.below kbb)
          have HKZ := hid (HK1.out.trans (kbb.mono hw1))
          have hwz : w.heap.size ≤ wz.heap.size := HKZ.out.size
          have hT : (([] : List Sc).take 0).length = 0 := by first | (simp; done) | (simp; omega)
          have hD : (([] : List Sc).drop 0).length = (0 - 0) := by simp
          have HDZ : Hid (RdS wz (.slice none 0 0) (([] : List Sc).drop 0)) := RdS.nil _
          have HTZ : Hid (RdS (wz.alloc (.cells #[] 33)) (.slice (none) 0 0) (([] : List Sc).take 0)) := (HVZ.out.rd.take rfl hPle).below (al_ wz (.cells #[] 33))
          have HE := hid (own0 wz B HBZ.out)
          obtain ⟨T, D, hT2, hD2, HTZ2, HDZ2, HIS2⟩ : ∃ T D : List Sc, T.length = 0 ∧ D.length = (0 - 0) ∧ Hid (RdS (wz.alloc (.cells #[] 33)) (.slice (none) 0 0) T) ∧ Hid (RdS wz (.slice none 0 0) D) ∧ Hid (insS [] x = T ++ [x] ++ D) := ⟨_, _, hT, hD, HTZ, HDZ, HIS⟩
          clear hT hD HTZ HDZ HIS
          have hT := hT2
          have hD := hD2
          have HTZ := HTZ2
          have HDZ := HDZ2
          have HIS := HIS2
          clear hT2 hD2 HTZ2 HDZ2 HIS2
          have hPi : (0 : Int) ≤ (0 : Int) := by omega
          have hPi2 : (0 : Int) ≤ (0 : Int) := by omega
          have hPi0 : (0 : Int) ≤ (0 : Int) := by omega
          have hPl : 0 ≤ 1000 := by omega
          go_wp2_with (first | (at_builtin; refine wplN rfl _ _ 26 Try.underlying26 rfl B _ [] 0 rfl HE.out _ T 0 hT HTZ.out (by omega) (Nat.le_trans HBZ.out (al_ _ _).size) rfl rfl ?_) | fail)
          intro qa qc w6 ho6 hf6 hg6
          try simp only [Nat.zero_add, List.nil_append] at ho6 hg6 ⊢
          have k6 : Below wz.heap.size wz w6 := (al_ wz (.cells #[] 33)).trans (hf6.below (al_ _ _).size (fun q hq => by simp [hbl, Value.ownBlock] at hq; omega))
          have HO6 := hid ho6
          have hg6b : ∀ q ∈ hbl (.slice qa 0 qc), wz.heap.size ≤ q := fun q hq => by
            rcases hg6 q hq with h9 | h9
            · simp [hbl, Value.ownBlock] at h9; omega
            · have h8 := (al_ wz (.cells #[] 33)).size; omega
          have HX6 := hid (HXZ.out.below k6)
          have x0 := HX6.out.2.1 0 _ rfl
          have x1 := HX6.out.2.1 1 _ rfl
          have xl := HX6.out.1
          have h6B : B ≤ w6.heap.size := by have := HBZ.out; have := k6.size; omega
          have HO6a := hid (HO6.out.below (al_ w6 (.cells #[.int .i64 x.1, .int .i64 x.2] 33)))
          have HK6 := hid k6
          have HG6 := hid hg6b
          clear ho6 hf6 hg6 k6 hg6b HE HTZ
          go_wp2_with (first | (at_builtin; refine wplN rfl _ _ 26 Try.underlying26 rfl B _ T 0 hT HO6a.out _ [x] 1 rfl (rd1 w6 x _) (by omega) (Nat.le_trans h6B (al_ _ _).size) rfl rfl ?_) | fail)
          intro ra rc w7 ho7 hf7 hg7
          have k7 : Below wz.heap.size wz w7 := HK6.out.trans (((al_ w6 (.cells #[.int .i64 x.1, .int .i64 x.2] 33)).mono HK6.out.size).trans (hf7.below (Nat.le_trans HK6.out.size (al_ _ _).size) HG6.out))
          have HO7 := hid ho7
          have HD7 := hid (HDZ.out.below k7)
          have hT7 : (T ++ [x]).length = 0 + 1 := by simp [hT]
          have hg7b : ∀ q ∈ hbl (.slice ra (0 + 1) rc), wz.heap.size ≤ q := fun q hq => by
            rcases hg7 q hq with h9 | h9
            · exact HG6.out q h9
            · have h8 := (al_ w6 (.cells #[.int .i64 x.1, .int .i64 x.2] 33)).size; have h7 := HK6.out.size; omega
          have h7B : B ≤ w7.heap.size := by have := HBZ.out; have := k7.size; omega
          have HK7 := hid k7
          have HG7 := hid hg7b
          clear ho7 hf7 hg7 k7 hg7b x0 x1 xl HX6 HO6 HO6a HK6 HG6 HXZ HVZ
          go_wp2_with (first | (at_builtin; refine wplN rfl _ _ 26 Try.underlying26 rfl B _ (T ++ [x]) (0 + 1) hT7 HO7.out _ D (0 - 0) hD HD7.out (by omega) h7B rfl rfl ?_) | fail)
          intro sa sc w8 ho8 hf8 hg8
          have HFO : Hid (OwnH B w8 (.slice sa (0 + 1 + (0 - 0)) sc) (insS [] x)) := by show OwnH _ _ _ _; rw [HIS.out]; simpa using ho8
          have HFK : Hid (Below w.heap.size w w8) := HKZ.out.trans ((HK7.out.mono hwz).trans (hf8.below (by have := HK7.out.size; omega) (fun q hq => by have := HG7.out q hq; omega)))
          clear ho8 hf8 hg8
          go_wp2
          go_returns
          refine ⟨sa, sc, ?_, ?_, HFK.out⟩
          · rw [HNP.out, HIL.out]; rfl
          · rw [HNP.out, HIL.out]; exact HFO.out
  · cases hve
    have hgl := HV.out.lt1.2
    have hgx : g ≠ xb := by have h8 := HLT0.out g (by simp [hbl, Value.ownBlock]); have h9 := HXB.out; omega
    go_enter Try.func57, Try.ntmps57
    go_upto_region 1 with fail
    rw [← HW1.out, ← HXB.out]
    clear HW1
    go_wp2
    go_loopw [11] (fun i wr => ∃ k : Nat, k ≤ l.length ∧ i = .int .i64 k ∧ Hid (∀ j, j < k → (gd l j).1 ≠ x.1) ∧ Below W1.heap.size W1 wr) (fun i _ => l.length - (intOf i).toNat)
    case atStart => exact ⟨0, Nat.zero_le _, rfl, fun j hj => by omega, Below.refl _ _⟩
    case round =>
      obtain ⟨k, hk, rfl, hall, kb⟩ := hrel
      have kl := kb.size
      by_cases hlt : k < l.length
      · have HVr := HV.out.below kb
        have p0 := HVr.c0 hlt
        have p1 := HVr.c1 hlt
        have hki : (k : Int) < (l.length : Int) := by omega
        have hk0 : (0 : Int) ≤ (k : Int) := by omega
        have hgr : g < wr.heap.size := by omega
        have hxr : xb < wr.heap.size := by omega
        have x0 := (kb.cell (p := ⟨xb, 0, none⟩) hxl).trans b0
        have HSTEP : Hid ((gd l k).1 ≠ x.1 → ∀ j, j < k + 1 → (gd l j).1 ≠ x.1) := fun hh j hj => by
          by_cases e : j = k
          · rw [e]; exact hh
          · exact hall.out j (by omega)
        have HYES : Hid ((gd l k).1 = x.1 → putS l x = l) := fun he => by rw [HPS.out, if_pos (hasD_iff.2 ⟨gd l k, gd_mem hlt, he⟩)]
        have HVR := hid HVr
        clear HVr
        generalize gd l k = u at *
        by_cases hd : u.1 = x.1
        · have HPE := hid (HYES.out hd)
          have hde : (u.1 == x.1) = true := by simp [hd]
          clear hd HSTEP HYES
          have HKF : Hid (Below w.heap.size w (wr.alloc (.cells #[.int .i64 u.1, .int .i64 u.2] 33))) := (HK1.out.trans (kb.mono hw1)).alloc (by omega) _
          have HVF := hid (HVR.out.below (al_ wr (.cells #[.int .i64 u.1, .int .i64 u.2] 33)))
          go_wp2
          go_returns
          refine ⟨some ⟨g, 0, none⟩, vc, ?_, ?_, HKF.out⟩
          · rw [HPE.out]; rfl
          · rw [HPE.out]; exact HVF.out
        · have HA := hid (HSTEP.out hd)
          have hde : (u.1 == x.1) = false := by simp [hd]
          clear hd HSTEP HYES
          go_wp2
          exact ⟨⟨k + 1, by omega, by go_num, HA.out, by go_grown⟩, by simp [intOf]; omega⟩
      · have hki : ¬ (k : Int) < (l.length : Int) := by omega
        have HNP : Hid (putS l x = insS l x) := by
          show _ = _
          rw [HPS.out, if_neg (by rw [Bool.not_eq_true]; exact hasD_no.2 (fun y hy => by obtain ⟨i, hi, rfl⟩ := mem_gd hy; exact hall.out i (by omega)))]
        generalize wr = wo at *
        have HKO := hid kb
        clear hall kb
        go_wp2
        go_loopw [7] (fun i wr => ∃ k : Nat, k ≤ P ∧ i = .int .i64 k ∧ Below W1.heap.size W1 wr) (fun i _ => P - (intOf i).toNat)
        case atStart => exact ⟨0, Nat.zero_le _, rfl, HKO.out⟩
        case round =>
          obtain ⟨j, hj, rfl, kb⟩ := hrel
          have kl2 := kb.size
          by_cases hjl : j < l.length
          · have HVr := HV.out.below kb
            have c0 := HVr.c0 hjl
            have c1 := HVr.c1 hjl
            have x0 := (kb.cell (p := ⟨xb, 0, none⟩) hxl).trans b0
            have x1 := (kb.cell (p := ⟨xb, 1, none⟩) hxl).trans b1
            have hgr : g < wr.heap.size := by omega
            have hxr : xb < wr.heap.size := by omega
            have hji : (j : Int) < (l.length : Int) := by omega
            have hj0 : (0 : Int) ≤ (j : Int) := by omega
            have HBE := fun W => specBet (gd l j) x W
            obtain ⟨C, hC⟩ : ∃ C, C = bet (gd l j) x := ⟨_, rfl⟩
            rw [← hC] at HBE
            have HYY : Hid (C = true → j < P) := fun hc => by
              rcases Nat.lt_or_ge j P with h9 | h9
              · exact h9
              · have he : j = P := by omega
                have := HPN.out (by omega)
                rw [← he, ← hC, hc] at this
                cases this
            have HNN : Hid (C = false → j = P) := fun hc => by
              rcases Nat.lt_or_ge j P with h9 | h9
              · have := HPY.out j h9
                rw [← hC, hc] at this
                cases this
              · omega
            clear hC HVr
            generalize gd l j = u at *
            go_upto_region 8 with fail
            have HSK : Hid (∀ W, Below wr.heap.size wr W → (fun w' : World => (w'.cell? ⟨g, j * 2, none⟩ = some (.int .i64 u.1) ∧ w'.cell? ⟨g, j * 2 + 1, none⟩ = some (.int .i64 u.2)) ∧ w'.cell? ⟨xb, 0, none⟩ = some (.int .i64 x.1) ∧ w'.cell? ⟨xb, 1, none⟩ = some (.int .i64 x.2)) W) := fun W hW => ⟨⟨(hW.cell hgr).trans c0, (hW.cell hgr).trans c1⟩, (hW.cell hxr).trans x0, (hW.cell hxr).trans x1⟩
            have kd : Below wr.heap.size wr wr.drew := Below.drew (Below.refl _ _)
            have hHeld := HSK.out wr.drew kd
            refine wp_region_heldL (n := 12) (S := fun w' : World => (w'.cell? ⟨g, j * 2, none⟩ = some (.int .i64 u.1) ∧ w'.cell? ⟨g, j * 2 + 1, none⟩ = some (.int .i64 u.2)) ∧ w'.cell? ⟨xb, 0, none⟩ = some (.int .i64 x.1) ∧ w'.cell? ⟨xb, 1, none⟩ = some (.int .i64 x.2)) (by kernel_rfl) rfl ?_
            refine takeL (i := 0) (v := ?_) rfl (by kernel_rfl) (by kernel_rfl) (by kernel_rfl) (fun _ _ _ h => h) rfl ?_ (by assumption) ?_
            rotate_left
            · intro w hSw; (try dsimp only at hSw); go_simp; (try with_reducible rfl)
            (try simp only [Act.put, List.setIfInBounds_toArray, List.set_cons_zero, List.set_cons_succ])
            refine takeL (i := 1) (v := ?_) rfl (by kernel_rfl) (by kernel_rfl) (by kernel_rfl) (fun _ _ _ h => h) rfl ?_ (by assumption) ?_
            rotate_left
            · intro w hSw; (try dsimp only at hSw); go_simp; (try with_reducible rfl)
            (try simp only [Act.put, List.setIfInBounds_toArray, List.set_cons_zero, List.set_cons_succ])
            refine takeL (i := 2) (v := ?_) rfl (by kernel_rfl) (by kernel_rfl) (by kernel_rfl) (fun _ _ _ h => h) rfl ?_ (by assumption) ?_
            rotate_left
            · intro w hSw; (try dsimp only at hSw); go_simp; (try with_reducible rfl)
            (try simp only [Act.put, List.setIfInBounds_toArray, List.set_cons_zero, List.set_cons_succ])
            refine takeL (i := 3) (v := ?_) rfl (by kernel_rfl) (by kernel_rfl) (by kernel_rfl) (fun _ _ _ h => h) rfl ?_ (by assumption) ?_
            rotate_left
            · intro w hSw; (try dsimp only at hSw); go_simp; (try with_reducible rfl)
            (try simp only [Act.put, List.setIfInBounds_toArray, List.set_cons_zero, List.set_cons_succ])
            refine takeL (i := 4) (v := ?_) rfl (by kernel_rfl) (by kernel_rfl) (by kernel_rfl) (fun _ _ _ h => h) rfl ?_ (by assumption) ?_
            rotate_left
            · intro w hSw; (try dsimp only at hSw); go_simp; (try with_reducible rfl)
            (try simp only [Act.put, List.setIfInBounds_toArray, List.set_cons_zero, List.set_cons_succ])
            refine takeW (i := 5) (v := ?_) rfl (by kernel_rfl) (by kernel_rfl) (by kernel_rfl) (fun _ _ _ h => h) (by kernel_rfl) ?_ (by assumption) ?_
            rotate_left
            · intro w hSw; (try dsimp only at hSw); go_simp; (try with_reducible rfl)
            (try simp only [Act.put, List.setIfInBounds_toArray, List.set_cons_zero, List.set_cons_succ])
            refine takeW (i := 6) (v := ?_) rfl (by kernel_rfl) (by kernel_rfl) (by kernel_rfl) (fun _ _ _ h => h) (by kernel_rfl) ?_ (by assumption) ?_
            rotate_left
            · intro w hSw; (try dsimp only at hSw); go_simp; (try with_reducible rfl)
            (try simp only [Act.put, List.setIfInBounds_toArray, List.set_cons_zero, List.set_cons_succ])
            refine takeW (i := 7) (v := ?_) rfl (by kernel_rfl) (by kernel_rfl) (by kernel_rfl) (fun _ _ _ h => h) (by kernel_rfl) ?_ (by assumption) ?_
            rotate_left
            · intro w hSw; (try dsimp only at hSw); go_simp; (try with_reducible rfl)
            (try simp only [Act.put, List.setIfInBounds_toArray, List.set_cons_zero, List.set_cons_succ])
            refine takeW (i := 8) (v := ?_) rfl (by kernel_rfl) (by kernel_rfl) (by kernel_rfl) (fun _ _ _ h => h) (by kernel_rfl) ?_ (by assumption) ?_
            rotate_left
            · intro w hSw; (try dsimp only at hSw); go_simp; (try with_reducible rfl)
            (try simp only [Act.put, List.setIfInBounds_toArray, List.set_cons_zero, List.set_cons_succ])
            refine takeW (i := 9) (v := ?_) rfl (by kernel_rfl) (by kernel_rfl) (by kernel_rfl) (fun _ _ _ h => h) (by kernel_rfl) ?_ (by assumption) ?_
            rotate_left
            · intro w hSw; (try dsimp only at hSw); go_simp; (try with_reducible rfl)
            (try simp only [Act.put, List.setIfInBounds_toArray, List.set_cons_zero, List.set_cons_succ])
            refine comesW (i := 10) rfl (by kernel_rfl) (by kernel_rfl) (fun K hK => ?_)
            go_simp
            refine (HBE _).mono ?_
            rintro e w5 ⟨rfl, hx⟩
            have mw5 : Below wr.heap.size wr w5 := kd.trans (hx.mono kd.size)
            clear hx
            (try dsimp only)
            refine hK.out _ _ (HSK.out w5 mw5) (fun hH2 => ?_)
            clear hK K
            replace hHeld := hH2
            clear hH2
            (try simp only [Act.put, List.setIfInBounds_toArray, List.set_cons_zero, List.set_cons_succ])
            refine takeL (i := 11) (v := ?_) rfl (by kernel_rfl) (by kernel_rfl) (by kernel_rfl) (fun _ _ _ h => h) rfl ?_ (by assumption) ?_
            rotate_left
            · intro w hSw; (try dsimp only at hSw); go_simp; (try with_reducible rfl)
            (try simp only [Act.put, List.setIfInBounds_toArray, List.set_cons_zero, List.set_cons_succ])
            refine wpAnyH_done (by kernel_rfl) ?_ _
            clear hHeld kd HSK
            all_goals
              have k5 := kb.trans (mw5.mono kl2)
              cases C with
              | true =>
                have hjP := HYY.out rfl
                go_wp2_with fail
                exact ⟨⟨j + 1, by omega, by go_num, k5⟩, by simp [intOf]; omega⟩
              | false =>
                have hjP := HNN.out rfl
                subst hjP
                clear kb kl2 mw5 HKO
                have kbb := k5
                generalize w5 = wz at *
                clear c0 c1 x0 x1 hgr hxr
                have hjci : (j : Int) < (vc : Int) := by omega
                have hjc : j < vc := by omega
                have HBZ : Hid (B ≤ wz.heap.size) := by show _ ≤ _; have := kbb.size; omega
                have HVZ := hid (HV.out.below kbb)
                have HXZ := hid (HBX.out.below kbb)
                have HKZ := hid (HK1.out.trans (kbb.mono hw1))
                have hwz : w.heap.size ≤ wz.heap.size := HKZ.out.size
                have hT : (l.take j).length = j := by first | (simp; done) | (simp; omega)
                have hD : (l.drop j).length = (l.length - j) := by simp
                have HDZ : Hid (RdS wz (.slice (some ⟨g, j * 2, none⟩) (l.length - j) (vc - j)) (l.drop j)) := (by have h9 := HVZ.out.rd.drop rfl hPle; rwa [Nat.zero_add] at h9)
                have HTZ : Hid (RdS (wz.alloc (.cells #[] 33)) (.slice (some ⟨g, 0, none⟩) j vc) (l.take j)) := (HVZ.out.rd.take rfl hPle).below (al_ wz (.cells #[] 33))
                have HE := hid (own0 wz B HBZ.out)
                obtain ⟨T, D, hT2, hD2, HTZ2, HDZ2, HIS2⟩ : ∃ T D : List Sc, T.length = j ∧ D.length = (l.length - j) ∧ Hid (RdS (wz.alloc (.cells #[] 33)) (.slice (some ⟨g, 0, none⟩) j vc) T) ∧ Hid (RdS wz (.slice (some ⟨g, j * 2, none⟩) (l.length - j) (vc - j)) D) ∧ Hid (insS l x = T ++ [x] ++ D) := ⟨_, _, hT, hD, HTZ, HDZ, HIS⟩
                clear hT hD HTZ HDZ HIS
                have hT := hT2
                have hD := hD2
                have HTZ := HTZ2
                have HDZ := HDZ2
                have HIS := HIS2
                clear hT2 hD2 HTZ2 HDZ2 HIS2
                have hPi : (j : Int) ≤ (vc : Int) := by omega
                have hPi2 : (j : Int) ≤ (l.length : Int) := by omega
                have hPi0 : (0 : Int) ≤ (j : Int) := by omega
                have hPl : j ≤ 1000 := by omega
                go_wp2_with (first | (at_builtin; refine wplN rfl _ _ 26 Try.underlying26 rfl B _ [] 0 rfl HE.out _ T j hT HTZ.out (by omega) (Nat.le_trans HBZ.out (al_ _ _).size) rfl rfl ?_) | fail)
                intro qa qc w6 ho6 hf6 hg6
                try simp only [Nat.zero_add, List.nil_append] at ho6 hg6 ⊢
                have k6 : Below wz.heap.size wz w6 := (al_ wz (.cells #[] 33)).trans (hf6.below (al_ _ _).size (fun q hq => by simp [hbl, Value.ownBlock] at hq; omega))
                have HO6 := hid ho6
                have hg6b : ∀ q ∈ hbl (.slice qa j qc), wz.heap.size ≤ q := fun q hq => by
                  rcases hg6 q hq with h9 | h9
                  · simp [hbl, Value.ownBlock] at h9; omega
                  · have h8 := (al_ wz (.cells #[] 33)).size; omega
                have HX6 := hid (HXZ.out.below k6)
                have x0 := HX6.out.2.1 0 _ rfl
                have x1 := HX6.out.2.1 1 _ rfl
                have xl := HX6.out.1
                have h6B : B ≤ w6.heap.size := by have := HBZ.out; have := k6.size; omega
                have HO6a := hid (HO6.out.below (al_ w6 (.cells #[.int .i64 x.1, .int .i64 x.2] 33)))
                have HK6 := hid k6
                have HG6 := hid hg6b
                clear ho6 hf6 hg6 k6 hg6b HE HTZ
                go_wp2_with (first | (at_builtin; refine wplN rfl _ _ 26 Try.underlying26 rfl B _ T j hT HO6a.out _ [x] 1 rfl (rd1 w6 x _) (by omega) (Nat.le_trans h6B (al_ _ _).size) rfl rfl ?_) | fail)
                intro ra rc w7 ho7 hf7 hg7
                have k7 : Below wz.heap.size wz w7 := HK6.out.trans (((al_ w6 (.cells #[.int .i64 x.1, .int .i64 x.2] 33)).mono HK6.out.size).trans (hf7.below (Nat.le_trans HK6.out.size (al_ _ _).size) HG6.out))
                have HO7 := hid ho7
                have HD7 := hid (HDZ.out.below k7)
                have hT7 : (T ++ [x]).length = j + 1 := by simp [hT]
                have hg7b : ∀ q ∈ hbl (.slice ra (j + 1) rc), wz.heap.size ≤ q := fun q hq => by
                  rcases hg7 q hq with h9 | h9
                  · exact HG6.out q h9
                  · have h8 := (al_ w6 (.cells #[.int .i64 x.1, .int .i64 x.2] 33)).size; have h7 := HK6.out.size; omega
                have h7B : B ≤ w7.heap.size := by have := HBZ.out; have := k7.size; omega
                have HK7 := hid k7
                have HG7 := hid hg7b
                clear ho7 hf7 hg7 k7 hg7b x0 x1 xl HX6 HO6 HO6a HK6 HG6 HXZ HVZ
                go_wp2_with (first | (at_builtin; refine wplN rfl _ _ 26 Try.underlying26 rfl B _ (T ++ [x]) (j + 1) hT7 HO7.out _ D (l.length - j) hD HD7.out (by omega) h7B rfl rfl ?_) | fail)
                intro sa sc w8 ho8 hf8 hg8
                have HFO : Hid (OwnH B w8 (.slice sa (j + 1 + (l.length - j)) sc) (insS l x)) := by show OwnH _ _ _ _; rw [HIS.out]; simpa using ho8
                have HFK : Hid (Below w.heap.size w w8) := HKZ.out.trans ((HK7.out.mono hwz).trans (hf8.below (by have := HK7.out.size; omega) (fun q hq => by have := HG7.out q hq; omega)))
                clear ho8 hf8 hg8
                go_wp2
                go_returns
                refine ⟨sa, sc, ?_, ?_, HFK.out⟩
                · rw [HNP.out, HIL.out]; rfl
                · rw [HNP.out, HIL.out]; exact HFO.out
          · have hji : ¬ (j : Int) < (l.length : Int) := by omega
            have hjd : decide ((j : Int) < (l.length : Int)) = false := decide_eq_false hji
            have hjP : j = l.length := by omega
            have hPe : P = l.length := by omega
            rw [hPe] at HIS HIL
            have HISO := HIS
            have HILO := HIL
            clear HIS HIL HPY HPN hj hPle hPe hji
            subst hjP
            have hPle : l.length ≤ l.length := Nat.le_refl _
            go_upto_region 8 with fail
            have HSK : Hid (∀ W, Below wr.heap.size wr W → (fun w' : World => True) W) := fun W hW => trivial
            have kd : Below wr.heap.size wr wr.drew := Below.drew (Below.refl _ _)
            have hHeld := HSK.out wr.drew kd
            refine wp_region_heldL (n := 12) (S := fun w' : World => True) (by kernel_rfl) rfl ?_
            refine takeL (i := 0) (v := ?_) rfl (by kernel_rfl) (by kernel_rfl) (by kernel_rfl) (fun _ _ _ h => h) rfl ?_ (by assumption) ?_
            rotate_left
            · intro w hSw; (try dsimp only at hSw); go_simp; (try with_reducible rfl)
            (try simp only [Act.put, List.setIfInBounds_toArray, List.set_cons_zero, List.set_cons_succ])
            refine takeL (i := 1) (v := ?_) rfl (by kernel_rfl) (by kernel_rfl) (by kernel_rfl) (fun _ _ _ h => h) rfl ?_ (by assumption) ?_
            rotate_left
            · intro w hSw; (try dsimp only at hSw); go_simp; (try with_reducible rfl)
            (try simp only [Act.put, List.setIfInBounds_toArray, List.set_cons_zero, List.set_cons_succ])
            refine takeL (i := 2) (v := ?_) rfl (by kernel_rfl) (by kernel_rfl) (by kernel_rfl) (fun _ _ _ h => h) rfl ?_ (by assumption) ?_
            rotate_left
            · intro w hSw; (try dsimp only at hSw); go_simp; (try with_reducible rfl)
            (try simp only [Act.put, List.setIfInBounds_toArray, List.set_cons_zero, List.set_cons_succ])
            refine takeL (i := 3) (v := ?_) rfl (by kernel_rfl) (by kernel_rfl) (by kernel_rfl) (fun _ _ _ h => h) rfl ?_ (by assumption) ?_
            rotate_left
            · intro w hSw; (try dsimp only at hSw); go_simp; (try with_reducible rfl)
            (try simp only [Act.put, List.setIfInBounds_toArray, List.set_cons_zero, List.set_cons_succ])
            refine takeL (i := 4) (v := ?_) rfl (by kernel_rfl) (by kernel_rfl) (by kernel_rfl) (fun _ _ _ h => h) rfl ?_ (by assumption) ?_
            rotate_left
            · intro w hSw; (try dsimp only at hSw); go_simp; (try with_reducible rfl)
            (try simp only [Act.put, List.setIfInBounds_toArray, List.set_cons_zero, List.set_cons_succ])
            refine skipL (i := 5) rfl (by kernel_rfl) (by kernel_rfl) (by kernel_rfl) (fun _ _ _ h => h) (by kernel_rfl) (by assumption) ?_
            (try simp only [Act.put, List.setIfInBounds_toArray, List.set_cons_zero, List.set_cons_succ])
            refine skipL (i := 6) rfl (by kernel_rfl) (by kernel_rfl) (by kernel_rfl) (fun _ _ _ h => h) (by kernel_rfl) (by assumption) ?_
            (try simp only [Act.put, List.setIfInBounds_toArray, List.set_cons_zero, List.set_cons_succ])
            refine skipL (i := 7) rfl (by kernel_rfl) (by kernel_rfl) (by kernel_rfl) (fun _ _ _ h => h) (by kernel_rfl) (by assumption) ?_
            (try simp only [Act.put, List.setIfInBounds_toArray, List.set_cons_zero, List.set_cons_succ])
            refine skipL (i := 8) rfl (by kernel_rfl) (by kernel_rfl) (by kernel_rfl) (fun _ _ _ h => h) (by kernel_rfl) (by assumption) ?_
            (try simp only [Act.put, List.setIfInBounds_toArray, List.set_cons_zero, List.set_cons_succ])
            refine skipL (i := 9) rfl (by kernel_rfl) (by kernel_rfl) (by kernel_rfl) (fun _ _ _ h => h) (by kernel_rfl) (by assumption) ?_
            (try simp only [Act.put, List.setIfInBounds_toArray, List.set_cons_zero, List.set_cons_succ])
            refine skipL (i := 10) rfl (by kernel_rfl) (by kernel_rfl) (by kernel_rfl) (fun _ _ _ h => h) (by kernel_rfl) (by assumption) ?_
            (try simp only [Act.put, List.setIfInBounds_toArray, List.set_cons_zero, List.set_cons_succ])
            refine takeL (i := 11) (v := ?_) rfl (by kernel_rfl) (by kernel_rfl) (by kernel_rfl) (fun _ _ _ h => h) rfl ?_ (by assumption) ?_
            rotate_left
            · intro w hSw; (try dsimp only at hSw); go_simp; (try with_reducible rfl)
            (try simp only [Act.put, List.setIfInBounds_toArray, List.set_cons_zero, List.set_cons_succ])
            refine wpAnyH_done (by kernel_rfl) ?_ _
            clear hHeld kd HSK
            all_goals
              have kbb := kb.drew
              rw [show ({ heap := wr.heap, tape := wr.tape, drawn := wr.drawn + 1, os := wr.os, output := wr.output } : World) = wr.drew from rfl]
              generalize wr.drew = wz at *
              have HIS : Hid (insS l x = l ++ [x] ++ []) := by show _ = _; rw [HISO.out, List.take_length, List.drop_length]
              have HIL : Hid ((insS l x).length = l.length + 1 + 0) := by show _ = _; rw [HILO.out, Nat.sub_self]
              by_cases hjc : l.length < vc
              · have hjci : (l.length : Int) < (vc : Int) := by omega
                have HBZ : Hid (B ≤ wz.heap.size) := by show _ ≤ _; have := kbb.size; omega
                have HVZ := hid (HV.out.below kbb)
                have HXZ := hid (HBX.out.below kbb)
                have HKZ := hid (HK1.out.trans (kbb.mono hw1))
                have hwz : w.heap.size ≤ wz.heap.size := HKZ.out.size
                have hT : (l).length = l.length := rfl
                have hD : (([] : List Sc)).length = 0 := rfl
                have HDZ : Hid (RdS wz (.slice (some ⟨g, l.length * 2, none⟩) 0 (vc - l.length)) (([] : List Sc))) := ⟨rfl, _, _, rfl, Nat.zero_le _, (fun e => by cases e), .inl rfl⟩
                have HTZ : Hid (RdS (wz.alloc (.cells #[] 33)) (.slice (some ⟨g, 0, none⟩) l.length vc) (l)) := HVZ.out.rd.below (al_ wz (.cells #[] 33))
                have HE := hid (own0 wz B HBZ.out)
                obtain ⟨T, D, hT2, hD2, HTZ2, HDZ2, HIS2⟩ : ∃ T D : List Sc, T.length = l.length ∧ D.length = 0 ∧ Hid (RdS (wz.alloc (.cells #[] 33)) (.slice (some ⟨g, 0, none⟩) l.length vc) T) ∧ Hid (RdS wz (.slice (some ⟨g, l.length * 2, none⟩) 0 (vc - l.length)) D) ∧ Hid (insS l x = T ++ [x] ++ D) := ⟨_, _, hT, hD, HTZ, HDZ, HIS⟩
                clear hT hD HTZ HDZ HIS
                have hT := hT2
                have hD := hD2
                have HTZ := HTZ2
                have HDZ := HDZ2
                have HIS := HIS2
                clear hT2 hD2 HTZ2 HDZ2 HIS2
                have hPi : (l.length : Int) ≤ (vc : Int) := by omega
                have hPi2 : (l.length : Int) ≤ (l.length : Int) := by omega
                have hPi0 : (0 : Int) ≤ (l.length : Int) := by omega
                have hPl : l.length ≤ 1000 := by omega
                go_wp2_with (first | (at_builtin; refine wplN rfl _ _ 26 Try.underlying26 rfl B _ [] 0 rfl HE.out _ T l.length hT HTZ.out (by omega) (Nat.le_trans HBZ.out (al_ _ _).size) rfl rfl ?_) | fail)
                intro qa qc w6 ho6 hf6 hg6
                try simp only [Nat.zero_add, List.nil_append] at ho6 hg6 ⊢
                have k6 : Below wz.heap.size wz w6 := (al_ wz (.cells #[] 33)).trans (hf6.below (al_ _ _).size (fun q hq => by simp [hbl, Value.ownBlock] at hq; omega))
                have HO6 := hid ho6
                have hg6b : ∀ q ∈ hbl (.slice qa l.length qc), wz.heap.size ≤ q := fun q hq => by
                  rcases hg6 q hq with h9 | h9
                  · simp [hbl, Value.ownBlock] at h9; omega
                  · have h8 := (al_ wz (.cells #[] 33)).size; omega
                have HX6 := hid (HXZ.out.below k6)
                have x0 := HX6.out.2.1 0 _ rfl
                have x1 := HX6.out.2.1 1 _ rfl
                have xl := HX6.out.1
                have h6B : B ≤ w6.heap.size := by have := HBZ.out; have := k6.size; omega
                have HO6a := hid (HO6.out.below (al_ w6 (.cells #[.int .i64 x.1, .int .i64 x.2] 33)))
                have HK6 := hid k6
                have HG6 := hid hg6b
                clear ho6 hf6 hg6 k6 hg6b HE HTZ
                go_wp2_with (first | (at_builtin; refine wplN rfl _ _ 26 Try.underlying26 rfl B _ T l.length hT HO6a.out _ [x] 1 rfl (rd1 w6 x _) (by omega) (Nat.le_trans h6B (al_ _ _).size) rfl rfl ?_) | fail)
                intro ra rc w7 ho7 hf7 hg7
                have k7 : Below wz.heap.size wz w7 := HK6.out.trans (((al_ w6 (.cells #[.int .i64 x.1, .int .i64 x.2] 33)).mono HK6.out.size).trans (hf7.below (Nat.le_trans HK6.out.size (al_ _ _).size) HG6.out))
                have HO7 := hid ho7
                have HD7 := hid (HDZ.out.below k7)
                have hT7 : (T ++ [x]).length = l.length + 1 := by simp [hT]
                have hg7b : ∀ q ∈ hbl (.slice ra (l.length + 1) rc), wz.heap.size ≤ q := fun q hq => by
                  rcases hg7 q hq with h9 | h9
                  · exact HG6.out q h9
                  · have h8 := (al_ w6 (.cells #[.int .i64 x.1, .int .i64 x.2] 33)).size; have h7 := HK6.out.size; omega
                have h7B : B ≤ w7.heap.size := by have := HBZ.out; have := k7.size; omega
                have HK7 := hid k7
                have HG7 := hid hg7b
                clear ho7 hf7 hg7 k7 hg7b x0 x1 xl HX6 HO6 HO6a HK6 HG6 HXZ HVZ
                go_wp2_with (first | (at_builtin; refine wplN rfl _ _ 26 Try.underlying26 rfl B _ (T ++ [x]) (l.length + 1) hT7 HO7.out _ D 0 hD HD7.out (by omega) h7B rfl rfl ?_) | fail)
                intro sa sc w8 ho8 hf8 hg8
                have HFO : Hid (OwnH B w8 (.slice sa (l.length + 1 + 0) sc) (insS l x)) := by show OwnH _ _ _ _; rw [HIS.out]; simpa using ho8
                have HFK : Hid (Below w.heap.size w w8) := HKZ.out.trans ((HK7.out.mono hwz).trans (hf8.below (by have := HK7.out.size; omega) (fun q hq => by have := HG7.out q hq; omega)))
                clear ho8 hf8 hg8
                go_wp2
                go_returns
                refine ⟨sa, sc, ?_, ?_, HFK.out⟩
                · rw [HNP.out, HIL.out]; rfl
                · rw [HNP.out, HIL.out]; exact HFO.out
              · obtain rfl : vc = l.length := by omega
                have HBZ : Hid (B ≤ wz.heap.size) := by show _ ≤ _; have := kbb.size; omega
                have HVZ := hid (HV.out.below kbb)
                have HXZ := hid (HBX.out.below kbb)
                have HKZ := hid (HK1.out.trans (kbb.mono hw1))
                have hwz : w.heap.size ≤ wz.heap.size := HKZ.out.size
                have hT : (l).length = l.length := rfl
                have hD : (([] : List Sc)).length = 0 := rfl
                have HDZ : Hid (RdS wz (.slice (some ⟨g, 0, none⟩) 0 0) (([] : List Sc))) := ⟨rfl, _, _, rfl, Nat.zero_le _, (fun e => by cases e), .inl rfl⟩
                have HTZ : Hid (RdS (wz.alloc (.cells #[] 33)) (.slice (some ⟨g, 0, none⟩) l.length l.length) (l)) := HVZ.out.rd.below (al_ wz (.cells #[] 33))
                have HE := hid (own0 wz B HBZ.out)
                obtain ⟨T, D, hT2, hD2, HTZ2, HDZ2, HIS2⟩ : ∃ T D : List Sc, T.length = l.length ∧ D.length = 0 ∧ Hid (RdS (wz.alloc (.cells #[] 33)) (.slice (some ⟨g, 0, none⟩) l.length l.length) T) ∧ Hid (RdS wz (.slice (some ⟨g, 0, none⟩) 0 0) D) ∧ Hid (insS l x = T ++ [x] ++ D) := ⟨_, _, hT, hD, HTZ, HDZ, HIS⟩
                clear hT hD HTZ HDZ HIS
                have hT := hT2
                have hD := hD2
                have HTZ := HTZ2
                have HDZ := HDZ2
                have HIS := HIS2
                clear hT2 hD2 HTZ2 HDZ2 HIS2
                have hPi : (l.length : Int) ≤ (l.length : Int) := by omega
                have hPi2 : (l.length : Int) ≤ (l.length : Int) := by omega
                have hPi0 : (0 : Int) ≤ (l.length : Int) := by omega
                have hPl : l.length ≤ 1000 := by omega
                go_wp2_with (first | (at_builtin; refine wplN rfl _ _ 26 Try.underlying26 rfl B _ [] 0 rfl HE.out _ T l.length hT HTZ.out (by omega) (Nat.le_trans HBZ.out (al_ _ _).size) rfl rfl ?_) | fail)
                intro qa qc w6 ho6 hf6 hg6
                try simp only [Nat.zero_add, List.nil_append] at ho6 hg6 ⊢
                have k6 : Below wz.heap.size wz w6 := (al_ wz (.cells #[] 33)).trans (hf6.below (al_ _ _).size (fun q hq => by simp [hbl, Value.ownBlock] at hq; omega))
                have HO6 := hid ho6
                have hg6b : ∀ q ∈ hbl (.slice qa l.length qc), wz.heap.size ≤ q := fun q hq => by
                  rcases hg6 q hq with h9 | h9
                  · simp [hbl, Value.ownBlock] at h9; omega
                  · have h8 := (al_ wz (.cells #[] 33)).size; omega
                have HX6 := hid (HXZ.out.below k6)
                have x0 := HX6.out.2.1 0 _ rfl
                have x1 := HX6.out.2.1 1 _ rfl
                have xl := HX6.out.1
                have h6B : B ≤ w6.heap.size := by have := HBZ.out; have := k6.size; omega
                have HO6a := hid (HO6.out.below (al_ w6 (.cells #[.int .i64 x.1, .int .i64 x.2] 33)))
                have HK6 := hid k6
                have HG6 := hid hg6b
                clear ho6 hf6 hg6 k6 hg6b HE HTZ
                go_wp2_with (first | (at_builtin; refine wplN rfl _ _ 26 Try.underlying26 rfl B _ T l.length hT HO6a.out _ [x] 1 rfl (rd1 w6 x _) (by omega) (Nat.le_trans h6B (al_ _ _).size) rfl rfl ?_) | fail)
                intro ra rc w7 ho7 hf7 hg7
                have k7 : Below wz.heap.size wz w7 := HK6.out.trans (((al_ w6 (.cells #[.int .i64 x.1, .int .i64 x.2] 33)).mono HK6.out.size).trans (hf7.below (Nat.le_trans HK6.out.size (al_ _ _).size) HG6.out))
                have HO7 := hid ho7
                have HD7 := hid (HDZ.out.below k7)
                have hT7 : (T ++ [x]).length = l.length + 1 := by simp [hT]
                have hg7b : ∀ q ∈ hbl (.slice ra (l.length + 1) rc), wz.heap.size ≤ q := fun q hq => by
                  rcases hg7 q hq with h9 | h9
                  · exact HG6.out q h9
                  · have h8 := (al_ w6 (.cells #[.int .i64 x.1, .int .i64 x.2] 33)).size; have h7 := HK6.out.size; omega
                have h7B : B ≤ w7.heap.size := by have := HBZ.out; have := k7.size; omega
                have HK7 := hid k7
                have HG7 := hid hg7b
                clear ho7 hf7 hg7 k7 hg7b x0 x1 xl HX6 HO6 HO6a HK6 HG6 HXZ HVZ
                go_wp2_with (first | (at_builtin; refine wplN rfl _ _ 26 Try.underlying26 rfl B _ (T ++ [x]) (l.length + 1) hT7 HO7.out _ D 0 hD HD7.out (by omega) h7B rfl rfl ?_) | fail)
                intro sa sc w8 ho8 hf8 hg8
                have HFO : Hid (OwnH B w8 (.slice sa (l.length + 1 + 0) sc) (insS l x)) := by show OwnH _ _ _ _; rw [HIS.out]; simpa using ho8
                have HFK : Hid (Below w.heap.size w w8) := HKZ.out.trans ((HK7.out.mono hwz).trans (hf8.below (by have := HK7.out.size; omega) (fun q hq => by have := HG7.out q hq; omega)))
                clear ho8 hf8 hg8
                go_wp2
                go_returns
                refine ⟨sa, sc, ?_, ?_, HFK.out⟩
                · rw [HNP.out, HIL.out]; rfl
                · rw [HNP.out, HIL.out]; exact HFO.out

end Go.Proofs.Ythdodlbhkpoadaa
