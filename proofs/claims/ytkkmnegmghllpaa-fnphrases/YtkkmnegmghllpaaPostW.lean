/- What the laws' own helpers do with lists of posts: sizes, copies, sameness, marks. Condition: the posts lie in memory. -/
import Derived.Test.YtkkmnegmghllpaaPostL
namespace Go.Proofs.Ytkkmnegmghllpaa
open Go.ChangeShapes Go.WideShapes Go.ChangeAt Go.RowKit Go.Deep
set_option linter.unusedVariables false
attribute [local go_sem ↓] Go.wp_at_zero Go.wp_at_succ

theorem eqPo (p : Po) (av bv : Value) (w : World) (h : IntsAt w av p.2) (g : IntsAt w bv p.2) (hl : p.2.length ≤ 1048576) :
    Calls Try.prog 77 #[.agg #[.int .i64 p.1, av], .agg #[.int .i64 p.1, bv]] w fun e w' => e = .returned (.bool true) ∧ Below w.heap.size w w' := by
  have H := hid h
  have G := hid g
  have HE := fun W h1 h2 => eqIntB av bv p.2 p.2 W h1 h2 hl hl rfl
  obtain ⟨a1, c1, rfl⟩ := h.slice
  obtain ⟨a2, c2, rfl⟩ := g.slice
  generalize p.1 = d
  clear h g
  go_enter Try.func77, Try.ntmps77
  go_wp2_with fail
  refine (HE _ (H.out.below (by go_grown)) (G.out.below (by go_grown))).mono ?_
  rintro e w1 ⟨rfl, hb1⟩
  obtain ⟨hc1, hf1⟩ := bcell hb1
  have hz1 := hb1.size
  try simp only [World.size_drew] at hz1
  try simp only [World.size_setCell] at hz1
  try simp only [World.size_alloc] at hz1
  have hz1_0 : w.heap.size < w1.heap.size := by omega
  have hz1_1 : w.heap.size + 1 < w1.heap.size := by omega
  clear hz1
  have k1 : Below w.heap.size w w1 := by
    refine Below.trans ?_ (hb1.mono ?_)
    · go_grown
    · go_size
  have hl1 : w.heap.size ≤ w1.heap.size := k1.size
  clear hb1
  go_wp2
  go_returns
  exact ⟨rfl, by go_grown⟩
set_option maxHeartbeats 3200000 in
theorem eqPos (x y : Value) (ps : List Po) (w : World) (hx : PosAt w x ps) (hy : PosAt w y ps) (hl : ps.length ≤ 1048576) (hs : ∀ p ∈ ps, p.2.length ≤ 1048576) :
    Calls Try.prog 44 #[x, y] w fun e w' => e = .returned (.bool true) ∧ Below w.heap.size w w' := by
  have HSM := hid hs
  clear hs
  by_cases h0 : ps = []
  · subst h0
    obtain ⟨a1, c1, rfl⟩ := hx.slice
    obtain ⟨a2, c2, rfl⟩ := hy.slice
    clear hx hy
    simp only [List.length_nil]
    go_enter Try.func44, Try.ntmps44
    go_wp2
    go_loopw [5] (fun i wr => i = .int .i64 0 ∧ Below w.heap.size w wr) (fun _ _ => 0)
    case atStart => exact ⟨rfl, by go_grown⟩
    case round =>
      obtain ⟨rfl, kb⟩ := hrel
      go_wp2
      go_ret
      exact ⟨rfl, kb⟩
  · rcases hx with ⟨_, _, _, e⟩ | ⟨b1, off1, cap1, rfl, hb1, hc1⟩
    · exact absurd e h0
    rcases hy with ⟨_, _, _, e⟩ | ⟨b2, off2, cap2, rfl, hb2, hc2⟩
    · exact absurd e h0
    have HC1 := hid hc1
    have HC2 := hid hc2
    clear hc1 hc2 h0
    go_enter Try.func44, Try.ntmps44
    go_wp2
    go_loopw [5] (fun i wr => ∃ k : Nat, k ≤ ps.length ∧ i = .int .i64 k ∧ Below w.heap.size w wr) (fun i _ => ps.length - (intOf i).toNat)
    case atStart => exact ⟨0, Nat.zero_le _, rfl, by go_grown⟩
    case round =>
      obtain ⟨k, hk, rfl, kb⟩ := hrel
      have kl := kb.size
      by_cases hlt : k < ps.length
      · obtain ⟨pv, p0, p1, hlp⟩ := (HC1.out k hlt).below hb1 kb
        obtain ⟨qv, q0, q1, hlq⟩ := (HC2.out k hlt).below hb2 kb
        have hb1r : b1 < wr.heap.size := by omega
        have hb2r : b2 < wr.heap.size := by omega
        have HE := fun W (hW : Below wr.heap.size wr W) => eqPo (ps.getD k default) pv qv W (hlp.below hW) (hlq.below hW) (HSM.out _ (by simp [List.getD, hlt]))
        obtain ⟨A1, C1, rfl⟩ := hlp.slice
        obtain ⟨A2, C2, rfl⟩ := hlq.slice
        have hki : (k : Int) < (ps.length : Int) := by omega
        have hk0 : (0 : Int) ≤ (k : Int) := by omega
        clear hlp hlq
        generalize ps.getD k default = u at *
        go_upto_region 6 with fail
        go_region_held3 (fun w' => (w'.cell? ⟨b1, off1 + k * 2, none⟩ = some (.int .i64 u.1) ∧ w'.cell? ⟨b1, off1 + k * 2 + 1, none⟩ = some (.slice A1 u.2.length C1)) ∧ w'.cell? ⟨b2, off2 + k * 2, none⟩ = some (.int .i64 u.1) ∧ w'.cell? ⟨b2, off2 + k * 2 + 1, none⟩ = some (.slice A2 u.2.length C2)) (go_keep)
          (first
            | (go_at_call 77; refine (HE _ (Below.drew (Below.refl _ _))).mono ?_; rintro e w3 ⟨rfl, hx3⟩; have hp3 := kept hx3 b1 (by simp; omega); have hq3 := kept hx3 b2 (by simp; omega); have k3 : Below w.heap.size w w3 := (by exact kb.trans ((Below.trans ((Below.refl wr.heap.size wr).drew) (hx3.mono (by simp))).mono kl)); clear hx3))
        all_goals
          go_wp2_with fail
          exact ⟨⟨k + 1, by omega, by go_num, k3⟩, by simp [intOf]; omega⟩
      · have hke : k = ps.length := by omega
        subst hke
        go_wp2
        go_ret
        exact ⟨rfl, kb⟩
theorem szPo (p : Po) (z : Nat) (pv : Value) (w : World) (h : IntsAt w pv p.2) (hz : z ≤ 1048576) (hm : p.2.length ≤ maxLen) :
    Calls Try.prog 78 #[.agg #[.int .i64 p.1, pv], .int .i64 z] w fun e w' => e = .returned (.int .i64 (if p.2.length ≤ z then ((z - p.2.length : Nat) : Int) else -1)) ∧ Below w.heap.size w w' := by
  obtain ⟨a, c, rfl⟩ := h.slice
  have HZ := fun W => szIntO a p.2.length c z W hz hm
  generalize p.1 = d
  clear h
  by_cases h1 : p.2.length ≤ z
  · rw [if_pos h1] at HZ ⊢
    generalize z - p.2.length = y at *
    have hy : ¬ (y : Int) < 0 := by omega
    go_enter Try.func78, Try.ntmps78
    go_wp2_with fail
    refine (HZ _).mono ?_
    rintro e w1 ⟨rfl, rfl⟩
    go_wp2
    go_returns
    exact ⟨rfl, by go_grown⟩
  · rw [if_neg h1] at HZ ⊢
    go_enter Try.func78, Try.ntmps78
    go_wp2_with fail
    refine (HZ _).mono ?_
    rintro e w1 ⟨rfl, rfl⟩
    go_wp2
    go_returns
    exact ⟨rfl, by go_grown⟩
def szRPo (z : Nat) (ps : List Po) : Int := if ps.length + sumL ps ≤ z then ((z - (ps.length + sumL ps) : Nat) : Int) else -1
set_option maxHeartbeats 3200000 in
theorem szPos (x : Value) (ps : List Po) (z : Nat) (w : World) (h : PosAt w x ps) (hz : z ≤ 1048576) (hm : RePs ps) :
    Calls Try.prog 50 #[x, .int .i64 z] w fun e w' => e = .returned (.int .i64 (szRPo z ps)) ∧ Below w.heap.size w w' := by
  obtain ⟨hlen, hre⟩ := hm
  unfold maxLen at hlen
  rcases h with ⟨a0, c0, rfl, rfl⟩ | ⟨b, off, cap, rfl, hb, hcell⟩
  · have HR : Hid (szRPo z [] = (z : Int)) := by show _ = _; simp [szRPo, sumL]
    go_enter Try.func50, Try.ntmps50
    go_wp2
    go_loopw [1, 5] (fun x i wr => i = .int .i64 0 ∧ x = .int .i64 z ∧ wr = w) (fun _ _ _ => 0)
    case atStart => exact ⟨rfl, rfl, rfl⟩
    case round =>
      obtain ⟨rfl, rfl, rfl⟩ := hrel
      go_wp2
      go_ret
      exact ⟨ret_int (by rw [HR.out]), Below.refl _ _⟩
  · by_cases hbig : z < ps.length
    · have hl : (z : Int) - (ps.length : Int) < 0 := by omega
      have HR : Hid (szRPo z ps = -1) := by show _ = _; unfold szRPo; rw [if_neg (by omega)]
      clear hcell
      go_enter Try.func50, Try.ntmps50
      go_wp2
      go_ret
      exact ⟨ret_int (by rw [HR.out]), by go_grown⟩
    · have hl : ¬ (z : Int) - (ps.length : Int) < 0 := by omega
      have HC := hid hcell
      have HZ := hid hre
      clear hcell hre
      go_enter Try.func50, Try.ntmps50
      go_wp2
      go_loopw [1, 5] (fun x i wr => ∃ k : Nat, k ≤ ps.length ∧ ps.length + sumL (ps.take k) ≤ z ∧ i = .int .i64 k ∧ x = .int .i64 ((z : Int) - (ps.length : Int) - (sumL (ps.take k) : Nat)) ∧ Below w.heap.size w wr) (fun _ i _ => ps.length - (intOf i).toNat)
      case atStart => exact ⟨0, Nat.zero_le _, by simp [sumL]; omega, rfl, by simp [sumL], by go_grown⟩
      case round =>
        obtain ⟨k, hk, hle, rfl, rfl, kb⟩ := hrel
        have kl := kb.size
        by_cases hlt : k < ps.length
        · obtain ⟨pv, p0, p1, hlp⟩ := (HC.out k hlt).below hb kb
          have hbr : b < wr.heap.size := by omega
          have hmp := HZ.out (ps.getD k default) (by simp [List.getD, hlt])
          have HS : Hid (sumL (ps.take (k + 1)) = sumL (ps.take k) + (ps.getD k default).2.length) := sumL_step ps k hlt
          have HT : Hid (sumL (ps.take (k + 1)) ≤ sumL ps) := sumL_take ps (k + 1)
          have hki : (k : Int) < (ps.length : Int) := by omega
          have hk0 : (0 : Int) ≤ (k : Int) := by omega
          obtain ⟨Z, hZ⟩ : ∃ Z : Nat, (z : Int) - (ps.length : Int) - (sumL (ps.take k) : Nat) = (Z : Int) := ⟨z - ps.length - sumL (ps.take k), by omega⟩
          have hZ2 : Z ≤ 1048576 := by omega
          rw [hZ]
          have HZ3 := hid hZ
          clear hZ
          have HE := fun W (hW : Below wr.heap.size wr W) => szPo (ps.getD k default) Z pv W (hlp.below hW) hZ2 hmp
          obtain ⟨_, _, rfl⟩ := hlp.slice
          clear hlp hmp
          by_cases hout : Z < (ps.getD k default).2.length
          · rw [if_neg (by omega)] at HE
            have HR : Hid (szRPo z ps = -1) := by show _ = _; unfold szRPo; have h1 := HS.out; have h2 := HT.out; have h3 := HZ3.out; rw [if_neg (by omega)]
            clear hout
            generalize ps.getD k default = u at *
            go_wp2_with fail
            refine (HE _ (by go_grown)).mono ?_
            rintro e w1 ⟨rfl, hb1⟩
            have k1 : Below w.heap.size w w1 := kb.trans (hb1.mono kl)
            clear hb1 HE p0 p1
            go_wp2
            go_ret
            exact ⟨ret_int (by rw [HR.out]), k1⟩
          · rw [if_pos (by omega)] at HE
            have HV : Hid (((Z - (ps.getD k default).2.length : Nat) : Int) = (z : Int) - (ps.length : Int) - (sumL (ps.take (k + 1)) : Nat)) := by
              show _ = _
              have h1 := HS.out; have h3 := HZ3.out; omega
            have HLE : Hid (ps.length + sumL (ps.take (k + 1)) ≤ z) := by
              have h1 := HS.out; have h3 := HZ3.out; show _ ≤ _; omega
            generalize Z - (ps.getD k default).2.length = Y at *
            have hY : ¬ (Y : Int) < 0 := by omega
            clear hout
            generalize ps.getD k default = u at *
            go_wp2_with fail
            refine (HE _ (by go_grown)).mono ?_
            rintro e w1 ⟨rfl, hb1⟩
            have k1 : Below w.heap.size w w1 := kb.trans (hb1.mono kl)
            clear hb1 HE p0 p1
            go_wp2
            exact ⟨⟨k + 1, by omega, HLE.out, by go_num, by rw [HV.out], k1⟩, by simp [intOf]; omega⟩
        · have hke : k = ps.length := by omega
          subst hke
          rw [List.take_length] at hle
          have HR : Hid (szRPo z ps = (z : Int) - (ps.length : Int) - (sumL ps : Nat)) := by show _ = _; unfold szRPo; rw [if_pos hle]; omega
          rw [List.take_length]
          go_wp2
          go_ret
          exact ⟨ret_int (by rw [HR.out]), kb⟩
end Go.Proofs.Ytkkmnegmghllpaa
