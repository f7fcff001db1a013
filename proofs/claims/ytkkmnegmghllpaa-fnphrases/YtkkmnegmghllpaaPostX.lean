/- What the laws' own helpers make of lists of posts: copies and marks. Condition: the posts lie in memory. -/
import Derived.Test.YtkkmnegmghllpaaPostW
namespace Go.Proofs.Ytkkmnegmghllpaa
open Go.ChangeShapes Go.WideShapes Go.ChangeAt Go.RowKit Go.Deep
set_option linter.unusedVariables false
attribute [local go_sem ↓] Go.wp_at_zero Go.wp_at_succ

theorem toIntA (v : Value) (zs : List Int) (w : World) (h : IntsAt w v zs) (hlen : zs.length ≤ 1048576) :
    Calls Try.prog 90 #[v] w fun e w' => ∃ x, e = .returned x ∧ OwnA w.heap.size w' x zs.length (fun t => .int .i64 (zs.getD t 0)) ∧ Below w.heap.size w w' := by
  refine (toIntO v zs w h hlen).mono ?_
  rintro e w' ⟨rfl, h1, h2⟩
  exact ⟨_, rfl, .ofRow h1 _, h2⟩
theorem bel_setP {a b : World} {B g : Nat} (h : Below B a b) (hg : B ≤ g) (o : Nat) (v : Value) : Below B a (b.setCell ⟨g, o, none⟩ v) := Below.setCell h (p := ⟨g, o, none⟩) hg v
set_option maxHeartbeats 3200000 in
theorem toPo (p : Po) (pv : Value) (w : World) (h : IntsAt w pv p.2) (hs : p.2.length ≤ 1048576) :
    Calls Try.prog 79 #[.agg #[.int .i64 p.1, pv]] w fun e w' => ∃ x, e = .returned (.agg #[.int .i64 p.1, x]) ∧ OwnA (w.heap.size + 3) w' x p.2.length (fun t => .int .i64 (p.2.getD t 0)) ∧ Below w.heap.size w w' := by
  have H := hid h
  obtain ⟨xa, xc, rfl⟩ := h.slice
  have T1 := fun W hW => toIntA (.slice xa p.2.length xc) p.2 W hW hs
  clear h
  obtain ⟨D, hD⟩ : ∃ D, D = p.1 := ⟨_, rfl⟩
  rw [← hD]
  clear hD
  obtain ⟨W0, hW0⟩ : ∃ W0, W0 = ((w.alloc (.cells #[.int .i64 D, .slice xa p.2.length xc] 100)).alloc (.cells #[.int .i64 0, .slice none 0 0] 39)).alloc (.cells #[.int .i64 0, .slice none 0 0] 39) := ⟨_, rfl⟩
  have kb0 : Below w.heap.size w W0 := by rw [hW0]; exact (((Below.refl _ _).alloc (Nat.le_refl _) _).alloc (by simp) _).alloc (by simp; omega) _
  have hz0 : W0.heap.size = w.heap.size + 3 := by rw [hW0]; simp
  have bx3 : BoxAt W0 w.heap.size [.int .i64 D, .slice xa p.2.length xc] ∧ BoxAt W0 (w.heap.size + 1) [.int .i64 0, .slice none 0 0] ∧ BoxAt W0 (w.heap.size + 1 + 1) [.int .i64 0, .slice none 0 0] := by
    rw [hW0]; exact boxOf3 (Below.refl _ _)
  obtain ⟨bA, bR, bO⟩ := bx3
  obtain ⟨ob, hob⟩ : ∃ ob, ob = w.heap.size + 1 + 1 := ⟨_, rfl⟩
  obtain ⟨rb, hrb⟩ : ∃ rb, rb = w.heap.size + 1 := ⟨_, rfl⟩
  obtain ⟨ab, hab⟩ : ∃ ab, ab = w.heap.size := ⟨_, rfl⟩
  have d2 : ob ≠ rb := by omega
  have d3 : ob ≠ ab := by omega
  have d4 : rb ≠ ab := by omega
  rw [← hob] at bO
  rw [← hrb] at bR
  rw [← hab] at bA
  have dr : w.heap.size ≤ rb := by omega
  have dO : w.heap.size ≤ ob := by omega
  have HL3 : Hid (W0.heap.size = w.heap.size + 3 ∧ ob < W0.heap.size ∧ rb < W0.heap.size) := by refine ⟨hz0, ?_, ?_⟩ <;> omega
  have a0 := bA.2.1 0 _ rfl
  have hA := bA.1
  have o0 := bO.2.1 0 _ rfl
  have z0 := bO.2.2 0 (by simp)
  have hO := bO.1
  go_enter Try.func79, Try.ntmps79
  go_upto_region 2 with fail
  rw [← hW0, ← hob, ← hrb]
  rw [show (Value.pointer (some ⟨w.heap.size, 0, none⟩)) = Value.pointer (some ⟨ab, 0, none⟩) by rw [hab]]
  clear hW0 hob hrb hz0 hab
  go_upto_region 3 with fail
  have bA1 := bA.other (i := 0) d3 (.int .i64 D)
  have bR1 := bR.other (i := 0) d2 (.int .i64 D)
  have bO1 := bO.set (i := 0) (by simp) (.int .i64 D)
  have kb1 := bel_setP kb0 dO 0 (.int .i64 D)
  have hs1 : (W0.setCell ⟨ob, 0, none⟩ (.int .i64 D)).heap.size = W0.heap.size := by simp
  generalize hW1 : W0.setCell ⟨ob, 0, none⟩ (.int .i64 D) = W1 at *
  have HL4 : Hid (W1.heap.size = w.heap.size + 3 ∧ ob < W1.heap.size ∧ rb < W1.heap.size) := by rw [hs1]; exact HL3.out
  clear hW1 hs1 HL3 bA bR bO kb0 a0 hA o0 z0 hO
  have a1 := bA1.2.1 1 _ rfl
  have hA := bA1.1
  go_wp2_with fail
  refine (T1 _ (H.out.below kb1)).mono ?_
  rintro e w1 ⟨x1, rfl, g1, k1⟩
  have bR2 := bR1.below k1
  have bO2 := bO1.below k1
  have kb2 : Below w.heap.size w w1 := kb1.trans (k1.mono kb1.size)
  have hg : ∀ g ∈ ablk x1, w.heap.size + 3 ≤ g := fun g hg => by have h9 := (g1.lt g hg).1; have h8 := HL4.out.1; omega
  have HG := hid (((g1.off (offset1 w1 ob 1 x1) (fun x hx hm => by have h9 := (g1.lt x hx).1; have h8 := HL4.out.2.1; simp at hm; omega)).off (offset1 (w1.setCell ⟨ob, 1, none⟩ x1) rb 0 (.int .i64 D)) (fun x hx hm => by have h9 := (g1.lt x hx).1; have h8 := HL4.out.2.2; simp at hm; omega)).off (offset1 _ rb 1 x1) (fun x hx hm => by have h9 := (g1.lt x hx).1; have h8 := HL4.out.2.2; simp at hm; omega))
  rw [HL4.out.1] at HG
  obtain ⟨ua, uc, rfl⟩ := g1.slice
  have o1 := bO2.2.1 1 _ rfl
  have y0 := bO2.2.1 0 _ rfl
  have z1 := bO2.2.2 1 (by simp)
  have hO := bO2.1
  have bR3 := bR2.other (i := 1) d2 (.slice ua p.2.length uc)
  have bO3 := bO2.set (i := 1) (by simp) (.slice ua p.2.length uc)
  have kb3 := bel_setP kb2 dO 1 (.slice ua p.2.length uc)
  clear g1 k1 kb2 hg bA1 bR1 bO1 kb1 T1 a1 hA bR2 bO2
  go_upto_region 4 with fail
  generalize w1.setCell ⟨ob, 1, none⟩ (.slice ua p.2.length uc) = W2 at *
  clear o1 y0 z1 hO
  have o0 := bO3.2.1 0 _ rfl
  have o1 := bO3.2.1 1 _ rfl
  have hO := bO3.1
  have r0 := bR3.2.1 0 _ rfl
  have r1 := bR3.2.1 1 _ rfl
  have y0 := bR3.2.2 0 (by simp)
  have y1 := bR3.2.2 1 (by simp)
  have hR := bR3.1
  have c1 := ((bR3.set (i := 0) (by simp) (.int .i64 D)).set (i := 1) (by simp) (.slice ua p.2.length uc))
  have x0 := c1.2.1 0 _ rfl
  have x1 := c1.2.1 1 _ rfl
  have HK2 := hid (bel_setP (bel_setP kb3 dr 0 (.int .i64 D)) dr 1 (.slice ua p.2.length uc))
  clear bR3 bO3 kb3 c1
  go_wp2_with fail
  (try simp only [Exit.inBlock, Exit.then])
  refine bodyPost_ret (v := .agg #[.int .i64 D, .slice ua p.2.length uc]) ?r rfl ?_
  case r => simp [x0, x1, results, Try.results79, go_sem]; try rfl
  exact ⟨_, rfl, HG.out, HK2.out⟩
/-- A copy under way: its first k posts. -/
def PInv (B G : Nat) (w : World) (n k : Nat) (ps : List Po) : Prop := ∃ (f : Nat → Value) (pl : Nat → Value), OwnRow B w G (n * 2) f ∧
  (∀ j, j < k → f (j * 2) = .int .i64 (ps.getD j default).1 ∧ f (j * 2 + 1) = pl j ∧ OwnA (G + 1) w (pl j) (ps.getD j default).2.length (fun t => .int .i64 ((ps.getD j default).2.getD t 0))) ∧
  ∀ i j, i < k → j < k → i ≠ j → ∀ x ∈ ablk (pl i), x ∉ ablk (pl j)
theorem PInv.below {B G n k : Nat} {w w' : World} {ps : List Po} (h : PInv B G w n k ps) (hb : Below w.heap.size w w') : PInv B G w' n k ps := by
  obtain ⟨f, pl, h1, h2, h3⟩ := h
  exact ⟨f, pl, h1.below hb, fun j hj => ⟨(h2 j hj).1, (h2 j hj).2.1, (h2 j hj).2.2.below hb⟩, h3⟩
theorem PInv.lt {B G n k : Nat} {w : World} {ps : List Po} (h : PInv B G w n k ps) : G < w.heap.size := by
  obtain ⟨f, pl, h1, _⟩ := h
  exact h1.2.1
theorem PInv.snoc {B G n k N : Nat} {w : World} {ps : List Po} (h : PInv B G w n k ps) (hk : k < n) {x : Value}
    (hx : OwnA N w x (ps.getD k default).2.length (fun t => .int .i64 ((ps.getD k default).2.getD t 0))) (hN : G < N) (hnew : ∀ (pl : Nat → Value) (f : Nat → Value), OwnRow B w G (n * 2) f → (∀ j, j < k → f (j * 2 + 1) = pl j) → ∀ j, j < k → ∀ g ∈ ablk (pl j), g < N) :
    PInv B G ((w.setCell ⟨G, k * 2, none⟩ (.int .i64 (ps.getD k default).1)).setCell ⟨G, k * 2 + 1, none⟩ x) n (k + 1) ps := by
  obtain ⟨f, pl, h1, h2, h3⟩ := h
  have h4 := (h1.set (k := k * 2) (by omega) (.int .i64 (ps.getD k default).1)).set (k := k * 2 + 1) (by omega) x
  have ho : Off [G] w ((w.setCell ⟨G, k * 2, none⟩ (.int .i64 (ps.getD k default).1)).setCell ⟨G, k * 2 + 1, none⟩ x) := (offset1 _ _ _ _).trans (offset1 _ _ _ _)
  have hlt := hnew pl f h1 (fun j hj => (h2 j hj).2.1)
  refine ⟨_, fun j => if j = k then x else pl j, h4, fun j hj => ?_, fun i j hi hj hne y hy => ?_⟩
  · by_cases e : j = k
    · subst e
      have e1 : j * 2 ≠ j * 2 + 1 := by omega
      simp only [if_true, if_neg e1]
      exact ⟨trivial, trivial, (hx.mono (by omega)).off ho fun y hy hm => by simp at hm; subst hm; have := (hx.lt y hy).1; omega⟩
    · have e1 : j * 2 ≠ k * 2 := by omega
      have e2 : j * 2 ≠ k * 2 + 1 := by omega
      have e3 : j * 2 + 1 ≠ k * 2 + 1 := by omega
      have e4 : j * 2 + 1 ≠ k * 2 := by omega
      obtain ⟨g1, g2, g3⟩ := h2 j (by omega)
      simp only [if_neg e, if_neg e1, if_neg e2, if_neg e3, if_neg e4]
      exact ⟨g1, g2, g3.off ho fun y hy hm => by simp at hm; subst hm; have := (g3.lt y hy).1; omega⟩
  · by_cases ei : i = k
    · subst ei
      have ej : j ≠ i := Ne.symm hne
      simp only [if_true] at hy
      simp only [if_neg ej]
      intro hm
      have h5 := (hx.lt y hy).1
      have h6 := hlt j (by omega) y hm
      omega
    · simp only [if_neg ei] at hy
      by_cases ej : j = k
      · subst ej
        simp only [if_true]
        intro hm
        have h5 := (hx.lt y hm).1
        have h6 := hlt i (by omega) y hy
        omega
      · simp only [if_neg ej]
        exact h3 i j (by omega) (by omega) hne y hy
theorem PInv.done {B G : Nat} {w : World} {ps : List Po} (h : PInv B G w ps.length ps.length ps) (cap : Nat) : ∃ pl, OwnsP B w (.slice (some ⟨G, 0, none⟩) ps.length cap) ps pl := by
  obtain ⟨f, pl, h1, h2, h3⟩ := h
  refine ⟨pl, ?_⟩
  rcases Nat.eq_zero_or_pos ps.length with h0 | h0
  · exact .inl ⟨h0, some ⟨G, 0, none⟩, cap, by rw [h0]⟩
  · refine .inr ⟨h0, G, cap, rfl, ⟨h1.congr fun j hj => ?_, fun i hi => ((h2 i hi).2.2).mono ?_, fun i hi hm => ?_, h3⟩⟩
    · by_cases e : j % 2 = 0
      · simp only [if_pos e]
        have := (h2 (j / 2) (by omega)).1
        rw [show j / 2 * 2 = j by omega] at this
        exact this
      · simp only [if_neg e]
        have := (h2 (j / 2) (by omega)).2.1
        rw [show j / 2 * 2 + 1 = j by omega] at this
        exact this
    · have := h1.1; omega
    · have := ((h2 i hi).2.2.lt G hm).1
      omega
theorem infoPo : (Try.prog.info? 39).map (fun i => (i.zero, i.size, i.bytes)) = some (some (.agg #[.int .i64 0, .slice none 0 0]), 2, 32) := by kernel_rfl
theorem ownPoRow {w : World} {base g n cap : Nat} {xs : List Value} {e : TypeId} (h : w.ownsRow base e 2 (.slice (some ⟨g, 0, none⟩) n cap) n xs) : ∃ f, OwnRow base w g (n * 2) f := by
  rcases h.2 with ⟨h, _⟩ | ⟨g', cap', cur, h, hb, hgg, hn, _, hcs, _⟩
  · cases h
  · simp only [Value.slice.injEq, Option.some.injEq, Addr.mk.injEq, and_true, true_and] at h
    obtain ⟨rfl, rfl⟩ := h
    refine ⟨fun i => cur.getD i default, hb, (Array.getElem?_eq_some_iff.1 hgg).1, fun i hi => ?_, fun i hi => by simp [World.frozen?, hgg]⟩
    have : i < cur.size := by omega
    simp [World.cell?, hgg, Array.getD, this]
set_option maxHeartbeats 6400000 in
theorem toPos (x : Value) (ps : List Po) (w : World) (h : PosAt w x ps) (hl : ps.length ≤ 1048576) (hs : ∀ p ∈ ps, p.2.length ≤ 1048576) :
    Calls Try.prog 51 #[x] w fun e w' => ∃ x' pl, e = .returned x' ∧ OwnsP w.heap.size w' x' ps pl ∧ Below w.heap.size w w' := by
  obtain ⟨i0, hi, hzz⟩ := Option.map_eq_some_iff.1 infoPo
  simp only [Prod.mk.injEq] at hzz
  obtain ⟨hz0, hz1, hz2⟩ := hzz
  obtain ⟨w0, hmk, hown, hg0⟩ := run_make_full (P := Try.prog) w w.heap.size 26 39 i0 _ 2 Try.underlying26 hi hz0 hz1 .i64 .i64 ps.length (by rw [hz2]; omega) (by unfold maxLen; omega) (Nat.le_refl _)
  obtain ⟨f0, hf0⟩ := ownPoRow hown
  have kb0 : Below w.heap.size w w0 := ⟨hg0.os, hg0.tape, hg0.output, hg0.size, fun k hk => hg0.block k hk (by simp)⟩
  have HF0 : Hid (OwnRow w.heap.size w0 w.heap.size (ps.length * 2) f0) := hf0
  have HSM := hid hs
  clear hown hg0 hf0 hs
  rcases h with ⟨a0, c0, rfl, rfl⟩ | ⟨b, off, cap, rfl, hb, hcell⟩
  · simp only [List.length_nil] at hmk
    have hmk' : (Instr.makeSlice 26 (.int .i64 0) (.int .i64 0)).run Try.prog w = .ok (.slice (some ⟨w.heap.size, 0, none⟩) 0 0) w0 := hmk
    clear hmk
    go_enter Try.func51, Try.ntmps51
    go_wp2
    go_loopw [4] (fun i wr => i = .int .i64 0 ∧ wr = w0) (fun _ _ => 0)
    case atStart => exact ⟨rfl, rfl⟩
    case round =>
      obtain ⟨rfl, rfl⟩ := hrel
      go_wp2
      go_ret
      exact ⟨_, fun _ => .slice none 0 0, rfl, .inl ⟨rfl, _, _, rfl⟩, kb0⟩
  · have HC : Hid (∀ i, i < ps.length → PoAt w b (off + i * 2) (ps.getD i default)) := hcell
    clear hcell
    have hne : b ≠ w.heap.size := by omega
    have hne' : w.heap.size ≠ b := by omega
    go_enter Try.func51, Try.ntmps51
    go_wp2
    go_loopw [4] (fun i wr => ∃ k : Nat, k ≤ ps.length ∧ i = .int .i64 k ∧ Hid (PInv w.heap.size w.heap.size wr ps.length k ps) ∧ Below w.heap.size w wr) (fun i _ => ps.length - (intOf i).toNat)
    case atStart => exact ⟨0, Nat.zero_le _, rfl, ⟨f0, fun _ => .slice none 0 0, HF0.out, fun j hj => by omega, fun i j hi => by omega⟩, kb0⟩
    case round =>
      obtain ⟨k, hk, rfl, HI, kb⟩ := hrel
      have hgl := HI.out.lt
      have kl := kb.size
      by_cases hlt : k < ps.length
      · obtain ⟨pv, p0, p1, hlp⟩ := (HC.out k hlt).below hb kb
        have hbr : b < wr.heap.size := by omega
        have HE := fun W (hW : Below wr.heap.size wr W) => toPo (ps.getD k default) pv W (hlp.below hW) (HSM.out _ (by simp [List.getD, hlt]))
        obtain ⟨ca, cc, rfl⟩ := hlp.slice
        have hki : (k : Int) < (ps.length : Int) := by omega
        have hk0 : (0 : Int) ≤ (k : Int) := by omega
        have HPL : Hid (∀ (pl : Nat → Value) (f : Nat → Value), OwnRow w.heap.size wr w.heap.size (ps.length * 2) f → (∀ j, j < k → f (j * 2 + 1) = pl j) → ∀ j, j < k → ∀ g ∈ ablk (pl j), g < wr.heap.size) := by
          intro pl f hf hp j hj g hg
          obtain ⟨f1, pl1, q1, q2, _⟩ := HI.out
          have e1 := q1.2.2.1 (j * 2 + 1) (by omega)
          have e2 := hf.2.2.1 (j * 2 + 1) (by omega)
          rw [e1] at e2
          obtain ⟨_, q3, q4⟩ := q2 j hj
          rw [q3, hp j hj] at e2
          rw [← Option.some.inj e2] at hg
          exact (q4.lt g hg).2
        obtain ⟨u, hu⟩ : ∃ u, ps.getD k default = u := ⟨_, rfl⟩
        rw [hu] at HE p0 p1
        have HU := hid hu
        clear hu hlp
        go_wp2_with fail
        refine (HE _ (by go_grown)).mono ?_
        rintro e w1 ⟨cu, rfl, hp, hb1⟩
        have k1 : Below w.heap.size w w1 := kb.trans (hb1.mono kl)
        have HI1 := hid (HI.out.below hb1)
        have HS1 : Hid (PInv w.heap.size w.heap.size ((w1.setCell ⟨w.heap.size, k * 2, none⟩ (.int .i64 u.1)).setCell ⟨w.heap.size, k * 2 + 1, none⟩ cu) ps.length (k + 1) ps) := by
          show PInv _ _ _ _ _ _
          have h9 := PInv.snoc (N := wr.heap.size + 3) HI1.out hlt (x := cu) (by rw [HU.out]; exact hp) (by omega) (by
            intro pl f hf hq j hj g hg
            obtain ⟨f1, pl1, q1, q2, _⟩ := HI.out
            have e1 := (q1.below hb1).2.2.1 (j * 2 + 1) (by omega)
            have e2 := hf.2.2.1 (j * 2 + 1) (by omega)
            rw [e1] at e2
            obtain ⟨_, q3, q4⟩ := q2 j hj
            rw [q3, hq j hj] at e2
            rw [← Option.some.inj e2] at hg
            have := (q4.lt g hg).2
            omega)
          rw [HU.out] at h9
          exact h9
        obtain ⟨f, pl, hr0, _⟩ := HI1.out
        obtain ⟨za, zc, rfl⟩ := hp.slice
        have c0 := hr0.2.2.1 (k * 2) (by omega)
        have c1 := hr0.2.2.1 (k * 2 + 1) (by omega)
        have z0 := hr0.2.2.2 (k * 2) (by omega)
        have z1 := hr0.2.2.2 (k * 2 + 1) (by omega)
        have hgl1 : w.heap.size < w1.heap.size := hr0.2.1
        generalize f (k * 2) = x0 at c0
        generalize f (k * 2 + 1) = x1 at c1
        clear hb1 HE p0 p1 HI HI1 hp hr0 HPL
        go_wp2
        exact ⟨⟨k + 1, by omega, by go_num, HS1, by go_grown⟩, by simp [intOf]; omega⟩
      · have hke : k = ps.length := by omega
        subst hke
        obtain ⟨pl, hp⟩ := HI.out.done ps.length
        have HP := hid hp
        clear hp
        go_wp2
        go_ret
        exact ⟨_, pl, rfl, HP.out, kb⟩
/-- The mark that a list's post number i gets. -/
def qAt (q : Nat) (ln : Nat → Nat) : Nat → Nat
  | 0 => q
  | i + 1 => qAt q ln i + 1 + ln i
theorem qAt_mono (q : Nat) (ln : Nat → Nat) : ∀ d i, qAt q ln i ≤ qAt q ln (i + d)
  | 0, i => Nat.le_refl _
  | d + 1, i => by
    have h := qAt_mono q ln d i
    show _ ≤ qAt q ln (i + d) + 1 + ln (i + d)
    omega
theorem qAt_le (q : Nat) (ln : Nat → Nat) {i n : Nat} (h : i ≤ n) : qAt q ln i ≤ qAt q ln n := by
  obtain ⟨d, rfl⟩ : ∃ d, n = i + d := ⟨n - i, by omega⟩
  exact qAt_mono q ln d i
theorem qAt_sum (q : Nat) (ps : List Po) : ∀ k, k ≤ ps.length → qAt q (fun i => (ps.getD i default).2.length) k = q + k + sumL (ps.take k)
  | 0, _ => by simp [qAt, sumL]
  | k + 1, h => by
    have := sumL_step ps k (by omega)
    rw [qAt, qAt_sum q ps k (by omega), this]; omega
def MarkPs (base : Nat) (w : World) (v : Value) (n q : Nat) (pl : Nat → Value) (ln : Nat → Nat) : Prop := OwnPs base w v n (fun i => (qAt q ln i : Nat)) pl ln (fun i t => ((qAt q ln i + 1 + t : Nat) : Int))
theorem OwnPo.c0 {base : Nat} {w : World} {g n k : Nat} {dc : Nat → Int} {pl : Nat → Value} {ln : Nat → Nat} {vl : Nat → Nat → Int} (h : OwnPo base w g n dc pl ln vl) (hk : k < n) : w.cell? ⟨g, k * 2, none⟩ = some (.int .i64 (dc k)) := by
  have h9 := h.row.2.2.1 (k * 2) (by omega)
  have e1 : (k * 2) % 2 = 0 := by omega
  have e2 : (k * 2) / 2 = k := by omega
  simpa [e1, e2] using h9
theorem OwnPo.c1 {base : Nat} {w : World} {g n k : Nat} {dc : Nat → Int} {pl : Nat → Value} {ln : Nat → Nat} {vl : Nat → Nat → Int} (h : OwnPo base w g n dc pl ln vl) (hk : k < n) : w.cell? ⟨g, k * 2 + 1, none⟩ = some (pl k) := by
  have h9 := h.row.2.2.1 (k * 2 + 1) (by omega)
  have e1 : (k * 2 + 1) % 2 ≠ 0 := by omega
  have e2 : (k * 2 + 1) / 2 = k := by omega
  simpa [e2] using h9
theorem OwnPo.below {base : Nat} {w w' : World} {g n : Nat} {dc : Nat → Int} {pl : Nat → Value} {ln : Nat → Nat} {vl : Nat → Nat → Int} (h : OwnPo base w g n dc pl ln vl) (hb : Below w.heap.size w w') : OwnPo base w' g n dc pl ln vl :=
  ⟨h.row.below hb, fun i hi => (h.own i hi).below hb, h.apart, h.disj⟩
set_option maxHeartbeats 6400000 in
theorem markPos (base q n : Nat) (v : Value) (dc : Nat → Int) (pl : Nat → Value) (ln : Nat → Nat) (vl : Nat → Nat → Int) (w : World) (h : OwnPs base w v n dc pl ln vl) (hn : ((qAt q ln n : Nat) : Int) < 10000000000000) :
    Calls Try.prog 45 #[v, .int .i64 q] w fun e w' => e = .returned (.int .i64 ((qAt q ln n : Nat) : Int)) ∧ MarkPs base w' v n q pl ln ∧ Off (fpP v n pl) w w' := by
  rcases h with ⟨h0, a, c, rfl⟩ | ⟨h0, g, cap, rfl, ho⟩
  · subst h0
    have hk : ((qAt q ln 0 : Nat) : Int) = (q : Int) := rfl
    rw [hk]
    clear hn hk
    go_enter Try.func45, Try.ntmps45
    go_wp2
    go_loopw [1, 5] (fun r i wr => i = .int .i64 0 ∧ r = .int .i64 q ∧ wr = w) (fun _ _ _ => 0)
    case atStart => exact ⟨rfl, rfl, rfl⟩
    case round =>
      obtain ⟨rfl, rfl, hw⟩ := hrel
      subst wr
      go_wp2
      go_ret
      exact ⟨rfl, .inl ⟨rfl, a, c, rfl⟩, Off.refl _ _⟩
  · have HO := hid ho
    have HNN : Hid (((qAt q ln n : Nat) : Int) < 10000000000000) := hn
    have HQ : Hid (qAt q ln 0 = q) := rfl
    have hqn : (n : Int) < 10000000000000 := by
      have : ∀ i, i ≤ qAt q ln i := fun i => by
        induction i with
        | zero => exact Nat.zero_le _
        | succ i ih => show i + 1 ≤ qAt q ln i + 1 + ln i; omega
      have := this n; omega
    have HFP : Hid (∀ x, x ∈ fpP (.slice (some ⟨g, 0, none⟩) n cap) n pl ↔ x = g ∨ ∃ i, i < n ∧ x ∈ ablk (pl i)) := fun x => by rw [mem_fpP, ablk_row h0]; simp
    clear ho hn
    go_enter Try.func45, Try.ntmps45
    go_wp2
    go_loopw [1, 5] (fun r i wr => ∃ k Q : Nat, k ≤ n ∧ Hid (Q = qAt q ln k) ∧ i = .int .i64 k ∧ r = .int .i64 Q ∧ Hid (OwnPo base wr g n (fun i => if i < k then ((qAt q ln i : Nat) : Int) else dc i) pl ln (fun i t => if i < k then ((qAt q ln i + 1 + t : Nat) : Int) else vl i t)) ∧ Hid (Off (fpP (.slice (some ⟨g, 0, none⟩) n cap) n pl) w wr)) (fun _ i _ => n - (intOf i).toNat)
    case atStart => exact ⟨0, q, Nat.zero_le _, rfl, rfl, rfl, HO.out.congr (fun i _ => by simp) (fun i _ t _ => by simp), Off.refl _ _⟩
    case round =>
      obtain ⟨k, Q, hk, hQ, rfl, rfl, HP, HF⟩ := hrel
      have hki0 : (0 : Int) ≤ (k : Int) := by omega
      by_cases hlt : k < n
      · have hki : (k : Int) < (n : Int) := by omega
        have hst : qAt q ln (k + 1) = qAt q ln k + 1 + ln k := rfl
        have hle := qAt_le q ln (show k + 1 ≤ n by omega)
        have hQb : Q + 1 + ln k < 10000000000000 := by have := HNN.out; have := hQ.out; omega
        have hQw : IntKind.i64.wrap ((Q : Int) + 1) = (Q : Int) + 1 := by rw [IntKind.wrap_i64]; omega
        have hkw : IntKind.i64.wrap ((k : Int) + 1) = (k : Int) + 1 := by rw [IntKind.wrap_i64]; omega
        have HST : Hid (Q + 1 + ln k = qAt q ln (k + 1)) := by show _ = _; rw [hst, ← hQ.out]
        have HP2 := hid (HP.out.setDoc hlt (Q : Int))
        have HF2 := hid (HF.out.trans ((offset1 wr g (k * 2) (.int .i64 (Q : Int))).mono (fun x hx => .inl ((HFP.out x).2 (.inl (by simpa using hx))))))
        have c0 := HP.out.c0 hlt
        have z0 := HP.out.row.2.2.2 (k * 2) (by omega)
        have hgl := HP.out.row.2.1
        generalize (if k < k then ((qAt q ln k : Nat) : Int) else dc k) = d0 at c0
        clear hst hle HP HF
        go_upto_region 5 with fail
        generalize wr.setCell ⟨g, k * 2, none⟩ (.int .i64 (Q : Int)) = W1 at *
        clear c0 z0 hgl
        have c1 : W1.cell? ⟨g, k * 2 + 1, none⟩ = some (pl k) := HP2.out.c1 hlt
        have hgl := HP2.out.row.2.1
        have HOA : Hid (OwnA base W1 (pl k) (ln k) (fun t => .int .i64 (vl k t))) := by
          have h9 := HP2.out.own k hlt
          have e3 : ¬ k < k := by omega
          show OwnA _ _ _ _ _
          simpa [e3] using h9
        have HMI2 := markIntE base (Q + 1) (ln k) (pl k) (fun t => .int .i64 (vl k t)) W1 HOA.out (by omega) (fun i _ => ⟨_, rfl⟩)
        obtain ⟨pa, pc, hpk⟩ := HOA.out.slice
        have HPK := hid hpk
        rw [hpk] at c1
        rw [hpk] at HMI2
        clear hpk
        obtain ⟨E, hE⟩ : ∃ E, E = Q + 1 + ln k := ⟨_, rfl⟩
        rw [← hE] at HMI2 HST hQb
        simp only [show ((Q + 1 : Nat) : Int) = (Q : Int) + 1 from by omega] at HMI2
        clear hE hQb hqn
        go_wp2_with fail
        refine HMI2.mono ?_
        rintro e w2 ⟨rfl, h1, h2⟩
        have HP3 : Hid (OwnPo base w2 g n (fun i => if i < k + 1 then ((qAt q ln i : Nat) : Int) else dc i) pl ln (fun i t => if i < k + 1 then ((qAt q ln i + 1 + t : Nat) : Int) else vl i t)) := by
          show OwnPo _ _ _ _ _ _ _ _
          refine (HP2.out.places hlt (fun t => ((Q + 1 + t : Nat) : Int)) (by rw [HPK.out]; exact h2) (by rw [HPK.out]; exact h1)).congr (fun i hi => ?_) (fun i hi t ht => ?_)
          · by_cases e : i = k
            · subst e
              rw [if_pos rfl, if_pos (by omega), ← hQ.out]
            · by_cases e2 : i < k
              · rw [if_neg e, if_pos e2, if_pos (by omega)]
              · rw [if_neg e, if_neg e2, if_neg (by omega)]
          · by_cases e : i = k
            · subst e
              rw [if_pos rfl, if_pos (by omega), ← hQ.out]
            · by_cases e2 : i < k
              · rw [if_neg e, if_pos e2, if_pos (by omega)]
              · rw [if_neg e, if_neg e2, if_neg (by omega)]
        have HF3 : Hid (Off (fpP (.slice (some ⟨g, 0, none⟩) n cap) n pl) w w2) := HF2.out.trans (h2.mono (fun x hx => .inl ((HFP.out x).2 (.inr ⟨k, hlt, by rw [HPK.out]; exact hx⟩))))
        clear h1 h2 HMI2
        go_wp2
        exact ⟨⟨k + 1, E, by omega, HST.out, by go_num, rfl, HP3, HF3⟩, by simp [intOf]; omega⟩
      · have hke : k = n := by omega
        subst hke
        have hki : ¬ (k : Int) < (k : Int) := by omega
        have HFin : Hid (MarkPs base wr (.slice (some ⟨g, 0, none⟩) k cap) k q pl ln) := .inr ⟨h0, g, cap, rfl, HP.out.congr (fun i hi => by rw [if_pos hi]) (fun i hi t ht => by rw [if_pos hi])⟩
        go_wp2
        go_ret
        exact ⟨by rw [← hQ.out]; rfl, HFin.out, HF.out⟩
set_option maxHeartbeats 6400000 in
set_option maxRecDepth 100000 in
theorem heldPos (base q n : Nat) (v : Value) (pl : Nat → Value) (ln : Nat → Nat) (w : World) (h : MarkPs base w v n q pl ln) (hn : ((qAt q ln n : Nat) : Int) < 10000000000000) :
    Calls Try.prog 46 #[v, .int .i64 q] w fun e w' => e = .returned (.int .i64 ((qAt q ln n : Nat) : Int)) ∧ Below w.heap.size w w' := by
  rcases h with ⟨h0, a, c, rfl⟩ | ⟨h0, g, cap, rfl, ho⟩
  · subst h0
    have hk : ((qAt q ln 0 : Nat) : Int) = (q : Int) := rfl
    rw [hk]
    clear hn hk
    go_enter Try.func46, Try.ntmps46
    go_wp2
    go_loopw [1, 5] (fun r i wr => i = .int .i64 0 ∧ r = .int .i64 q ∧ wr = w) (fun _ _ _ => 0)
    case atStart => exact ⟨rfl, rfl, rfl⟩
    case round =>
      obtain ⟨rfl, rfl, hw⟩ := hrel
      subst wr
      go_wp2
      go_ret
      exact ⟨rfl, Below.refl _ _⟩
  · have HO := hid ho
    have HNN : Hid (((qAt q ln n : Nat) : Int) < 10000000000000) := hn
    have HQ : Hid (qAt q ln 0 = q) := rfl
    have hqn : (n : Int) < 10000000000000 := by
      have : ∀ i, i ≤ qAt q ln i := fun i => by
        induction i with
        | zero => exact Nat.zero_le _
        | succ i ih => show i + 1 ≤ qAt q ln i + 1 + ln i; omega
      have := this n; omega
    have hgw := ho.row.2.1
    clear ho hn
    go_enter Try.func46, Try.ntmps46
    go_wp2
    go_loopw [1, 5] (fun r i wr => ∃ k Q : Nat, k ≤ n ∧ Hid (Q = qAt q ln k) ∧ i = .int .i64 k ∧ r = .int .i64 Q ∧ Below w.heap.size w wr) (fun _ i _ => n - (intOf i).toNat)
    case atStart => exact ⟨0, q, Nat.zero_le _, rfl, rfl, rfl, Below.refl _ _⟩
    case round =>
      obtain ⟨k, Q, hk, hQ, rfl, rfl, kb⟩ := hrel
      have hki0 : (0 : Int) ≤ (k : Int) := by omega
      have kl := kb.size
      by_cases hlt : k < n
      · have hki : (k : Int) < (n : Int) := by omega
        have hst : qAt q ln (k + 1) = qAt q ln k + 1 + ln k := rfl
        have hle := qAt_le q ln (show k + 1 ≤ n by omega)
        have hQb : Q + 1 + ln k < 10000000000000 := by have := HNN.out; have := hQ.out; omega
        have hQw : IntKind.i64.wrap ((Q : Int) + 1) = (Q : Int) + 1 := by rw [IntKind.wrap_i64]; omega
        have hkw : IntKind.i64.wrap ((k : Int) + 1) = (k : Int) + 1 := by rw [IntKind.wrap_i64]; omega
        have HST : Hid (Q + 1 + ln k = qAt q ln (k + 1)) := by show _ = _; rw [hst, ← hQ.out]
        have c0 : wr.cell? ⟨g, k * 2, none⟩ = some (.int .i64 (Q : Int)) := by
          rw [(HO.out.below kb).c0 hlt, hQ.out]
        have c1 : wr.cell? ⟨g, k * 2 + 1, none⟩ = some (pl k) := (HO.out.below kb).c1 hlt
        have HOA : Hid (OwnA base wr (pl k) (ln k) (fun t => .int .i64 ((Q + 1 + t : Nat) : Int))) := by
          have h9 := (HO.out.own k hlt).below kb
          rw [← hQ.out] at h9
          exact h9
        have hgl : g < wr.heap.size := by omega
        have HMI2 := heldIntE base (Q + 1) (ln k) (pl k) wr HOA.out (by omega)
        have hQn : ((Q : Int) != (Q : Int)) = false := by simp
        obtain ⟨pa, pc, hpk⟩ := HOA.out.slice
        rw [hpk] at c1 HMI2
        clear hpk
        obtain ⟨E, hE⟩ : ∃ E, E = Q + 1 + ln k := ⟨_, rfl⟩
        rw [← hE] at HMI2 HST hQb
        have hE0 : ¬ (E : Int) < 0 := by omega
        simp only [show ((Q + 1 : Nat) : Int) = (Q : Int) + 1 from by omega] at HMI2
        clear hE hst hle hQb hqn
        go_wp2_with fail
        refine HMI2.mono ?_
        rintro e w2 ⟨rfl, h1⟩
        have k2 : Below w.heap.size w w2 := kb.trans (h1.mono kl)
        clear h1 HMI2 c0 c1 hQn hQw hgl kl hgw kb
        have hE1 : decide ((E : Int) < 0) = false := decide_eq_false (by omega)
        go_wp2_with fail
        exact ⟨⟨k + 1, E, by omega, HST.out, by go_num, rfl, k2⟩, by simp [intOf]; omega⟩
      · have hke : k = n := by omega
        subst hke
        have hki : ¬ (k : Int) < (k : Int) := by omega
        go_wp2
        go_ret
        exact ⟨by rw [← hQ.out]; rfl, kb⟩
end Go.Proofs.Ytkkmnegmghllpaa
