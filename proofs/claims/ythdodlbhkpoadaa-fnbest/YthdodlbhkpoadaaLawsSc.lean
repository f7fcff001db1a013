/- What the laws' own helpers do with lists of scores: sizes, copies, sameness, marks. Condition: the list lies in memory. -/
import Derived.Test.YthdodlbhkpoadaaScB
import Derived.Test.YthdodlbhkpoadaaBoxW
namespace Go.Proofs.Ythdodlbhkpoadaa
open Go.ChangeShapes Go.WideShapes Go.ChangeAt Go.RowKit Go.Joins Go.Deep
set_option linter.unusedVariables false
attribute [local go_sem ↓] Go.wp_at_zero Go.wp_at_succ

theorem szScO (a : Option Addr) (n c : Nat) (z : Nat) (w : World) (hz : z ≤ 1048576) (hlen : n ≤ maxLen) :
    Calls Try.prog 36 #[.slice a n c, .int .i64 z] w fun e w' => e = .returned (.int .i64 (if n ≤ z then ((z - n : Nat) : Int) else -1)) ∧ w' = w := by
  unfold maxLen at hlen
  by_cases h1 : n ≤ z
  · rw [if_pos h1]
    have h2 : ¬ (z : Int) - (n : Int) < 0 := by omega
    have h3 : ((z - n : Nat) : Int) = (z : Int) - (n : Int) := by omega
    rw [h3]
    clear h3
    go_enter Try.func36, Try.ntmps36
    go_wp2
    go_ret
    exact ⟨rfl, rfl⟩
  · rw [if_neg h1]
    have h2 : (z : Int) - (n : Int) < 0 := by omega
    go_enter Try.func36, Try.ntmps36
    go_wp2
    go_ret
    exact ⟨rfl, rfl⟩
theorem zeros2 (n : Nat) : (madeCells #[.int .i64 0, .int .i64 0] (n * 2)).toList = flS (List.replicate n ((0, 0) : Sc)) := by
  have hl : (flS (List.replicate n ((0, 0) : Sc))).length = n * 2 := by rw [flS_len]; simp
  have hz : ∀ (m j : Nat) (u : Value), (flS (List.replicate m ((0, 0) : Sc)))[j]? = some u → u = .int .i64 0 := by
    intro m
    induction m with
    | zero => intro j u h; simp [flS] at h
    | succ m ih =>
      intro j u h
      rw [List.replicate_succ] at h
      match j, h with
      | 0, h => simp [flS] at h; exact h.symm
      | 1, h => simp [flS] at h; exact h.symm
      | j + 2, h => simp [flS] at h; exact ih j u h
  apply List.ext_getElem?
  intro j
  by_cases hj : j < n * 2
  · have h1 : (madeCells #[.int .i64 0, .int .i64 0] (n * 2)).toList[j]? = some (.int .i64 0) := by
      have h2 : j % 2 < 2 := Nat.mod_lt _ (by decide)
      rcases (show j % 2 = 0 ∨ j % 2 = 1 by omega) with e | e <;> simp [madeCells, hj, e]
    have h3 := List.getElem?_eq_getElem (show j < (flS (List.replicate n ((0, 0) : Sc))).length by omega)
    rw [h1, h3, hz n j _ h3]
  · have h1 : (madeCells #[.int .i64 0, .int .i64 0] (n * 2)).toList.length ≤ j := by simp [size_madeCells]; omega
    have h2 : (flS (List.replicate n ((0, 0) : Sc))).length ≤ j := by omega
    rw [List.getElem?_eq_none h1, List.getElem?_eq_none h2]
theorem makeS (w : World) (n : Nat) (hn : n ≤ 1048576) : ∃ w0, (Instr.makeSlice 26 (.int .i64 (n : Int)) (.int .i64 (n : Int))).run Try.prog w = .ok (.slice (some ⟨w.heap.size, 0, none⟩) n n) w0 ∧ OwnH w.heap.size w0 (.slice (some ⟨w.heap.size, 0, none⟩) n n) (List.replicate n (0, 0)) ∧ Below w.heap.size w w0 := by
  obtain ⟨i0, hi, hzz⟩ := Option.map_eq_some_iff.1 infoSc
  simp only [Prod.mk.injEq] at hzz
  obtain ⟨hz0, hz1, hz2⟩ := hzz
  obtain ⟨w0, hmk, hown, hg0⟩ := run_make_full (P := Try.prog) w w.heap.size 26 33 i0 _ 2 Try.underlying26 hi hz0 hz1 .i64 .i64 n (by rw [hz2]; omega) (by unfold maxLen; omega) (Nat.le_refl _)
  refine ⟨w0, hmk, ?_, hg0.os, hg0.tape, hg0.output, hg0.size, fun k hk => hg0.block k hk (by simp)⟩
  unfold OwnH
  have : (Value.agg #[Value.int .i64 0, Value.int .i64 0]).cells = #[.int .i64 0, .int .i64 0] := rfl
  rw [this, zeros2] at hown
  simpa using hown
theorem toSc (p : Sc) (w : World) : Calls Try.prog 45 #[.agg #[.int .i64 p.1, .int .i64 p.2]] w fun e w' => e = .returned (.agg #[.int .i64 p.1, .int .i64 p.2]) ∧ Below w.heap.size w w' := by
  generalize p.1 = p1
  generalize p.2 = p2
  go_enter Try.func45, Try.ntmps45
  go_wp2
  go_returns
  exact ⟨rfl, by go_grown⟩
theorem eqSc (p : Sc) (w : World) : Calls Try.prog 46 #[.agg #[.int .i64 p.1, .int .i64 p.2], .agg #[.int .i64 p.1, .int .i64 p.2]] w fun e w' => e = .returned (.bool true) ∧ Below w.heap.size w w' := by
  have h1 : (p.1 != p.1) = false := by simp
  have h2 : (p.2 != p.2) = false := by simp
  generalize p.1 = p1 at *
  generalize p.2 = p2 at *
  go_enter Try.func46, Try.ntmps46
  go_wp2
  go_returns
  exact ⟨rfl, by go_grown⟩
set_option maxHeartbeats 3200000 in
set_option maxRecDepth 100000 in
theorem toScS (x : Value) (l : List Sc) (w : World) (h : ScsAt w x l) (hl : l.length ≤ 1048576) :
    Calls Try.prog 37 #[x] w fun e w' => ∃ a c, e = .returned (.slice a l.length c) ∧ OwnH w.heap.size w' (.slice a l.length c) l ∧ Below w.heap.size w w' := by
  obtain ⟨w0, hmk, hown, kb0⟩ := makeS w l.length hl
  have HF0 := hid hown
  clear hown
  rcases h with ⟨a0, c0, rfl, rfl⟩ | ⟨b, off, cap, rfl, hb, hcell⟩
  · simp only [List.length_nil] at hmk HF0
    have hmk' : (Instr.makeSlice 26 (.int .i64 0) (.int .i64 0)).run Try.prog w = .ok (.slice (some ⟨w.heap.size, 0, none⟩) 0 0) w0 := hmk
    clear hmk
    go_enter Try.func37, Try.ntmps37
    go_wp2
    go_loopw [4] (fun i wr => i = .int .i64 0 ∧ wr = w0) (fun _ _ => 0)
    case atStart => exact ⟨rfl, rfl⟩
    case round =>
      obtain ⟨rfl, rfl⟩ := hrel
      go_wp2
      go_ret
      exact ⟨_, _, rfl, HF0.out, kb0⟩
  · have HC := hid hcell
    clear hcell
    have hne : b ≠ w.heap.size := by omega
    have hne' : w.heap.size ≠ b := by omega
    obtain ⟨G, hG⟩ : ∃ G, G = w.heap.size := ⟨_, rfl⟩
    go_enter Try.func37, Try.ntmps37
    go_wp2
    rw [← hG] at hmk HF0 ⊢
    have HGG := hid hG
    clear hmk
    go_loopw [4] (fun i wr => ∃ (k : Nat) (L : List Sc), k ≤ l.length ∧ i = .int .i64 k ∧ L.length = l.length ∧ Hid (∀ j, j < k → gd L j = gd l j) ∧ Hid (OwnH G wr (.slice (some ⟨G, 0, none⟩) l.length l.length) L) ∧ Below G w wr) (fun i _ => l.length - (intOf i).toNat)
    case atStart => exact ⟨0, _, Nat.zero_le _, rfl, by simp, fun j hj => by omega, HF0.out, by rw [hG]; exact kb0⟩
    case round =>
      obtain ⟨k, L, hk, rfl, hLl, HJ, HO, kb⟩ := hrel
      have hgl := HO.out.lt1
      by_cases hlt : k < l.length
      · obtain ⟨p0, p1⟩ := (HC.out k hlt).below hb (by rw [← hG]; exact kb)
        have kl := kb.size
        have hbr : b < wr.heap.size := by have := kb.size; omega
        have HE := fun W => toSc (gd l k) W
        have hki : (k : Int) < (l.length : Int) := by omega
        have hk0 : (0 : Int) ≤ (k : Int) := by omega
        have HST : Hid (∀ W, OwnH G W (.slice (some ⟨G, 0, none⟩) l.length l.length) L → OwnH G (putC W G k (gd l k)) (.slice (some ⟨G, 0, none⟩) l.length l.length) (L.set k (gd l k))) := fun W h => h.put k _
        have HSJ : Hid (∀ j, j < k + 1 → gd (L.set k (gd l k)) j = gd l j) := fun j hj => by
          rw [gd_set _ _ _ _ (by omega)]
          by_cases e : j = k
          · rw [if_pos e, e]
          · rw [if_neg e]; exact HJ.out j (by omega)
        have hgb : G ≠ b := by omega
        obtain ⟨u, hu⟩ : ∃ u, u = gd l k := ⟨_, rfl⟩
        rw [← hu] at HE p0 p1 HST HSJ
        clear hu hG
        go_wp2_with fail
        refine (HE _).mono ?_
        rintro e w1 ⟨rfl, hb1⟩
        have HO1 := hid (HO.out.below hb1)
        have hc0 := HO1.out.c0 (k := k) (by omega)
        have hc1 := HO1.out.c1 (k := k) (by omega)
        have hf0 := HO1.out.fz (k * 2)
        have hf1 := HO1.out.fz (k * 2 + 1)
        have hgl1 := HO1.out.lt1.2
        have HPN := hid (HST.out _ HO1.out)
        have HKN : Hid (Below G w (putC w1 G k u)) := (kb.trans (hb1.mono (Nat.le_of_lt hgl.2))).trans ((putC_off w1 G k u).below (by have := kb.size; have := hb1.size; omega) (fun g hg => by simp at hg; omega))
        generalize gd L k = vv at *
        unfold putC at HPN HKN
        clear hb1 HE HO HO1 HST p0 p1
        go_wp2
        exact ⟨⟨k + 1, L.set k u, by omega, by go_num, by simp [hLl], HSJ.out, HPN.out, HKN.out⟩, by simp [intOf]; omega⟩
      · have hke : k = l.length := by omega
        subst hke
        have hLe : L = l := by
          apply List.ext_getElem hLl
          intro i h1 h2
          have := HJ.out i h2
          simpa [gd, List.getD, h1, h2] using this
        have hki : ¬ (l.length : Int) < (l.length : Int) := by omega
        rw [hLe] at HO
        have hw : G = w.heap.size := hG
        clear hLe hG
        go_wp2
        go_ret
        exact ⟨_, _, rfl, (by rw [← hw]; exact HO.out), (by rw [← hw]; exact kb)⟩
set_option maxHeartbeats 3200000 in
set_option maxRecDepth 100000 in
theorem eqScS (x y : Value) (l : List Sc) (w : World) (hx : ScsAt w x l) (hy : ScsAt w y l) (hl : l.length ≤ 1048576) :
    Calls Try.prog 38 #[x, y] w fun e w' => e = .returned (.bool true) ∧ Below w.heap.size w w' := by
  by_cases h0 : l = []
  · subst h0
    obtain ⟨a1, c1, rfl⟩ := hx.slice
    obtain ⟨a2, c2, rfl⟩ := hy.slice
    clear hx hy
    simp only [List.length_nil]
    go_enter Try.func38, Try.ntmps38
    go_wp2
    go_loopw [5] (fun i wr => i = .int .i64 0 ∧ Below w.heap.size w wr) (fun _ _ => 0)
    case atStart => exact ⟨rfl, by go_grown⟩
    case round =>
      obtain ⟨rfl, kb⟩ := hrel
      go_wp2
      go_ret
      exact ⟨rfl, kb⟩
  · rcases hx with ⟨_, _, _, e⟩ | ⟨b1, off1, cap1, rfl, hb1, hc1⟩
    · exact absurd e h0
    rcases hy with ⟨_, _, _, e⟩ | ⟨b2, off2, cap2, rfl, hb2, hc2⟩
    · exact absurd e h0
    have HC1 := hid hc1
    have HC2 := hid hc2
    have hll : ((l.length : Int) != (l.length : Int)) = false := by simp
    clear hc1 hc2 h0
    go_enter Try.func38, Try.ntmps38
    go_wp2
    go_loopw [5] (fun i wr => ∃ k : Nat, k ≤ l.length ∧ i = .int .i64 k ∧ Below w.heap.size w wr) (fun i _ => l.length - (intOf i).toNat)
    case atStart => exact ⟨0, Nat.zero_le _, rfl, by go_grown⟩
    case round =>
      obtain ⟨k, hk, rfl, kb⟩ := hrel
      have kl := kb.size
      by_cases hlt : k < l.length
      · obtain ⟨p0, p1⟩ := (HC1.out k hlt).below hb1 kb
        obtain ⟨q0, q1⟩ := (HC2.out k hlt).below hb2 kb
        have hb1r : b1 < wr.heap.size := by omega
        have hb2r : b2 < wr.heap.size := by omega
        have HE := fun W => eqSc (gd l k) W
        have hki : (k : Int) < (l.length : Int) := by omega
        have hk0 : (0 : Int) ≤ (k : Int) := by omega
        generalize gd l k = u at *
        go_upto_region 6 with fail
        go_region_held3 (fun w' => (w'.cell? ⟨b1, off1 + k * 2, none⟩ = some (.int .i64 u.1) ∧ w'.cell? ⟨b1, off1 + k * 2 + 1, none⟩ = some (.int .i64 u.2)) ∧ w'.cell? ⟨b2, off2 + k * 2, none⟩ = some (.int .i64 u.1) ∧ w'.cell? ⟨b2, off2 + k * 2 + 1, none⟩ = some (.int .i64 u.2)) (go_keep)
          (first
            | (go_at_call 46; refine (HE _).mono ?_; rintro e w3 ⟨rfl, hx3⟩; have hp3 := kept hx3 b1 (by simp; omega); have hq3 := kept hx3 b2 (by simp; omega); have k3 : Below w.heap.size w w3 := (by exact kb.trans ((Below.trans ((Below.refl wr.heap.size wr).drew) (hx3.mono (by simp))).mono kl)); clear hx3))
        all_goals
          go_wp2_with fail
          exact ⟨⟨k + 1, by omega, by go_num, k3⟩, by simp [intOf]; omega⟩
      · have hke : k = l.length := by omega
        subst hke
        go_wp2
        go_ret
        exact ⟨rfl, kb⟩
end Go.Proofs.Ythdodlbhkpoadaa
