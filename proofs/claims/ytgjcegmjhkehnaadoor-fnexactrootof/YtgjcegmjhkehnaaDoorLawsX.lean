/- Contracts of the laws' copies of trees, of whether two are alike, and of how much there is of one. Condition: the pages lie in memory. -/
import Derived.Test.YtgjcegmjhkehnaaDoorLawsU
namespace Go.Proofs.YtgjcegmjhkehnaaDoor
open Go.ChangeShapes Go.WideShapes Go.ChangeAt Go.RowKit Go.Deep
set_option linter.unusedVariables false
attribute [local go_sem ↓] Go.wp_at_zero Go.wp_at_succ

theorem infoPg : (Tryd.prog.info? 179).map (fun i => (i.zero, i.size, i.bytes)) = some (some (.agg #[.slice none 0 0, .slice none 0 0, .slice none 0 0]), 3, 72) := by kernel_rfl
theorem ownPgs {w : World} {base g n cap : Nat} {xs : List Value} {e : TypeId} (h : w.ownsRow base e 3 (.slice (some ⟨g, 0, none⟩) n cap) n xs) : ∃ f, OwnRow base w g (n * 3) f := by
  rcases h.2 with ⟨h, _⟩ | ⟨g', cap', cur, h, hb, hgg, hn, _, hcs, _⟩
  · cases h
  · simp only [Value.slice.injEq, Option.some.injEq, Addr.mk.injEq, and_true, true_and] at h
    obtain ⟨rfl, rfl⟩ := h
    refine ⟨fun i => cur.getD i default, hb, (Array.getElem?_eq_some_iff.1 hgg).1, fun i hi => ?_, fun i hi => by simp [World.frozen?, hgg]⟩
    have : i < cur.size := by omega
    simp [World.cell?, hgg, Array.getD, this]
/-- A page within a row of the call's own, its rows in later blocks. -/
def PgN (w : World) (g o : Nat) (p : Pg) : Prop := ∃ kv vv cv, w.cell? ⟨g, o, none⟩ = some kv ∧ w.cell? ⟨g, o + 1, none⟩ = some vv ∧ w.cell? ⟨g, o + 2, none⟩ = some cv ∧ PgP (fun b => g < b) w kv vv cv p
theorem PgN.below {w w' : World} {g o : Nat} {p : Pg} (h : PgN w g o p) (hl : g < w.heap.size) (hb : Below w.heap.size w w') : PgN w' g o p := by
  obtain ⟨kv, vv, cv, h1, h2, h3, h4⟩ := h
  exact ⟨kv, vv, cv, (hb.cell (p := ⟨g, o, none⟩) hl).trans h1, (hb.cell (p := ⟨g, o + 1, none⟩) hl).trans h2, (hb.cell (p := ⟨g, o + 2, none⟩) hl).trans h3, h4.off (Off.of (S := []) hb) (by simp)⟩
theorem pgSet {W : World} {g o base n : Nat} {f : Nat → Value} {p : Pg} (hO : OwnRow base W g n f) (h : o + 2 < n) {a b c : Value} (hp : PgP (fun b => g < b) W a b c p) :
    (∃ f', OwnRow base (((W.setCell ⟨g, o, none⟩ a).setCell ⟨g, o + 1, none⟩ b).setCell ⟨g, o + 2, none⟩ c) g n f') ∧
    PgN (((W.setCell ⟨g, o, none⟩ a).setCell ⟨g, o + 1, none⟩ b).setCell ⟨g, o + 2, none⟩ c) g o p ∧
    ∀ o' q, (o' + 2 < o ∨ o + 2 < o') → PgN W g o' q → PgN (((W.setCell ⟨g, o, none⟩ a).setCell ⟨g, o + 1, none⟩ b).setCell ⟨g, o + 2, none⟩ c) g o' q := by
  have h3 := ((hO.set (k := o) (by omega) a).set (k := o + 1) (by omega) b).set (k := o + 2) (by omega) c
  have hoff : Off [g] W (((W.setCell ⟨g, o, none⟩ a).setCell ⟨g, o + 1, none⟩ b).setCell ⟨g, o + 2, none⟩ c) := ((off1 _ _ _ _).trans (off1 _ _ _ _)).trans (off1 _ _ _ _)
  have hn : ∀ x, g < x → x ∉ [g] := fun x hx hm => by simp at hm; omega
  refine ⟨⟨_, h3⟩, ⟨a, b, c, ?_, ?_, ?_, hp.off hoff hn⟩, ?_⟩
  · rw [h3.2.2.1 o (by omega)]; simp
  · rw [h3.2.2.1 (o + 1) (by omega)]; simp
  · rw [h3.2.2.1 (o + 2) (by omega)]; simp
  · rintro o' q hd ⟨x, y, z, h1, h2, h3, h4⟩
    have ne : ∀ i j, i ≠ j → (⟨g, i, none⟩ : Addr) ≠ ⟨g, j, none⟩ := fun i j hij e => hij (by cases e; rfl)
    refine ⟨x, y, z, ?_, ?_, ?_, h4.off hoff hn⟩
    · rw [World.cell?_setCell_other _ _ _ _ (ne _ _ (by omega)), World.cell?_setCell_other _ _ _ _ (ne _ _ (by omega)), World.cell?_setCell_other _ _ _ _ (ne _ _ (by omega))]; exact h1
    · rw [World.cell?_setCell_other _ _ _ _ (ne _ _ (by omega)), World.cell?_setCell_other _ _ _ _ (ne _ _ (by omega)), World.cell?_setCell_other _ _ _ _ (ne _ _ (by omega))]; exact h2
    · rw [World.cell?_setCell_other _ _ _ _ (ne _ _ (by omega)), World.cell?_setCell_other _ _ _ _ (ne _ _ (by omega)), World.cell?_setCell_other _ _ _ _ (ne _ _ (by omega))]; exact h3
/-- Pages, all of them in blocks from B on. -/
def PgsO (B : Nat) (w : World) (x : Value) (pages : List Pg) : Prop :=
  (∃ a c, x = .slice a 0 c ∧ pages = []) ∨ ∃ b off cap, x = .slice (some ⟨b, off, none⟩) pages.length cap ∧ b < w.heap.size ∧ B ≤ b ∧ ∀ i, i < pages.length → ∃ kv vv cv,
    w.cell? ⟨b, off + i * 3, none⟩ = some kv ∧ w.cell? ⟨b, off + i * 3 + 1, none⟩ = some vv ∧ w.cell? ⟨b, off + i * 3 + 2, none⟩ = some cv ∧ PgP (fun g => B ≤ g) w kv vv cv (pages.getD i default)
theorem PgsO.off {B : Nat} {S : List Nat} {w w' : World} {x : Value} {pages : List Pg} (h : PgsO B w x pages) (ho : Off S w w') (hS : ∀ g ∈ S, g < B) : PgsO B w' x pages := by
  rcases h with h | ⟨b, off, cap, rfl, hb, hne, h⟩
  · exact .inl h
  · refine .inr ⟨b, off, cap, rfl, Nat.lt_of_lt_of_le hb ho.size, hne, fun i hi => ?_⟩
    obtain ⟨kv, vv, cv, h1, h2, h3, h4⟩ := h i hi
    have hS' : ∀ g, B ≤ g → g ∉ S := fun g hg hm => by have := hS g hm; omega
    have e := ho.block b hb (hS' b hne)
    exact ⟨kv, vv, cv, by simp only [World.cell?, e]; exact h1, by simp only [World.cell?, e]; exact h2, by simp only [World.cell?, e]; exact h3, h4.off ho hS'⟩
theorem PgsO.at {B : Nat} {w : World} {x : Value} {pages : List Pg} (h : PgsO B w x pages) : PgsAt w x pages := by
  rcases h with h | ⟨b, off, cap, h1, h2, h3, h4⟩
  · exact .inl h
  · refine .inr ⟨b, off, cap, h1, h2, fun i hi => ?_⟩
    obtain ⟨kv, vv, cv, g1, g2, g3, g4⟩ := h4 i hi
    exact ⟨kv, vv, cv, g1, g2, g3, g4.1.1, g4.2.1.1, g4.2.2.1⟩
theorem PgsO.le {B C : Nat} {w : World} {x : Value} {pages : List Pg} (h : PgsO B w x pages) (hC : C ≤ B) : PgsO C w x pages := by
  rcases h with h | ⟨b, off, cap, h1, h2, h3, h4⟩
  · exact .inl h
  · refine .inr ⟨b, off, cap, h1, h2, by omega, fun i hi => ?_⟩
    obtain ⟨kv, vv, cv, g1, g2, g3, g4⟩ := h4 i hi
    exact ⟨kv, vv, cv, g1, g2, g3, g4.mono (fun g hg _ => by omega)⟩
set_option maxHeartbeats 6400000 in
theorem toPgs (x : Value) (ps : List Pg) (w : World) (h : LPgsAt w x ps) (hs : Small ps) :
    Calls Tryd.prog 63 #[x] w fun e w' => ∃ x', e = .returned x' ∧ PgsO w.heap.size w' x' ps ∧ Below w.heap.size w w' := by
  obtain ⟨hl, hsm⟩ := hs
  obtain ⟨i0, hi, hzz⟩ := Option.map_eq_some_iff.1 infoPg
  simp only [Prod.mk.injEq] at hzz
  obtain ⟨hz0, hz1, hz2⟩ := hzz
  obtain ⟨w0, hmk, hown, hg0⟩ := run_make_full (P := Tryd.prog) w w.heap.size 42 179 i0 _ 3 Tryd.underlying42 hi hz0 hz1 .i64 .i64 ps.length (by rw [hz2]; omega) (by unfold maxLen; omega) (Nat.le_refl _)
  obtain ⟨f0, hf0⟩ := ownPgs hown
  have kb0 : Below w.heap.size w w0 := ⟨hg0.os, hg0.tape, hg0.output, hg0.size, fun k hk => hg0.block k hk (by simp)⟩
  have HF0 : Hid (OwnRow w.heap.size w0 w.heap.size (ps.length * 3) f0) := hf0
  have HSM := hid hsm
  clear hown hg0 hf0 hsm
  rcases h with ⟨a0, c0, rfl, rfl⟩ | ⟨b, off, cap, rfl, hb, hcell⟩
  · simp only [List.length_nil] at hmk
    have hmk' : (Instr.makeSlice 42 (.int .i64 0) (.int .i64 0)).run Tryd.prog w = .ok (.slice (some ⟨w.heap.size, 0, none⟩) 0 0) w0 := hmk
    clear hmk
    go_enter Tryd.func63, Tryd.ntmps63
    go_wp2
    go_loopw [4] (fun i wr => i = .int .i64 0 ∧ wr = w0) (fun _ _ => 0)
    case atStart => exact ⟨rfl, rfl⟩
    case round =>
      obtain ⟨rfl, rfl⟩ := hrel
      go_wp2
      go_ret
      exact ⟨_, rfl, .inl ⟨_, _, rfl, rfl⟩, kb0⟩
  · have HC : Hid (∀ i, i < ps.length → LPgAt w b (off + i * 3) (ps.getD i default)) := hcell
    clear hcell
    have hne : b ≠ w.heap.size := by omega
    have hne' : w.heap.size ≠ b := by omega
    go_enter Tryd.func63, Tryd.ntmps63
    go_wp2
    go_loopw [4] (fun i wr => ∃ k : Nat, k ≤ ps.length ∧ i = .int .i64 k ∧ (∃ f, OwnRow w.heap.size wr w.heap.size (ps.length * 3) f ∧ ∀ j, j < k → PgN wr w.heap.size (j * 3) (ps.getD j default)) ∧ Below w.heap.size w wr) (fun i _ => ps.length - (intOf i).toNat)
    case atStart => exact ⟨0, Nat.zero_le _, rfl, ⟨f0, HF0.out, fun j hj => by omega⟩, kb0⟩
    case round =>
      obtain ⟨k, hk, rfl, ⟨f, hO, hf⟩, kb⟩ := hrel
      have HO : Hid (OwnRow w.heap.size wr w.heap.size (ps.length * 3) f) := hO
      have HF : Hid (∀ j, j < k → PgN wr w.heap.size (j * 3) (ps.getD j default)) := hf
      have hgl := hO.2.1
      clear hO hf
      have kl := kb.size
      by_cases hlt : k < ps.length
      · obtain ⟨kv, vv, cv, p0, p1, p2, hlp⟩ := (HC.out k hlt).below hb kb
        have hbr : b < wr.heap.size := by omega
        have HE := fun W (hW : Below wr.heap.size wr W) => toPg (ps.getD k default) kv vv cv W (hlp.below hW) (HSM.out _ (by simp [List.getD, hlt]))
        obtain ⟨ka, kc, rfl⟩ := strs_len hlp.1
        obtain ⟨va, vc, rfl⟩ := strs_len hlp.2.1
        obtain ⟨ca, cc, rfl⟩ := ints_len hlp.2.2
        have hki : (k : Int) < (ps.length : Int) := by omega
        have hk0 : (0 : Int) ≤ (k : Int) := by omega
        obtain ⟨u, hu⟩ : ∃ u, ps.getD k default = u := ⟨_, rfl⟩
        rw [hu] at HE p0 p1 p2
        have HU := hid hu
        clear hu hlp
        go_wp2_with fail
        refine (HE _ (by go_grown)).mono ?_
        rintro e w1 ⟨ku, vu, cu, rfl, hp, hb1⟩
        have k1 : Below w.heap.size w w1 := kb.trans (hb1.mono kl)
        have HO1 : Hid (OwnRow w.heap.size w1 w.heap.size (ps.length * 3) f) := HO.out.below hb1
        have HF1 : Hid (∀ j, j < k → PgN w1 w.heap.size (j * 3) (ps.getD j default)) := fun j hj => (HF.out j hj).below HO.out.2.1 hb1
        have hp2 : PgP (fun b => w.heap.size < b) w1 ku vu cu u := hp.mono (fun b hb _ => by omega)
        obtain ⟨hs1, hs2, hs3⟩ := pgSet HO1.out (o := k * 3) (by omega) hp2
        obtain ⟨xa, xc, rfl⟩ := hp.1.1.slice
        obtain ⟨ya, yc, rfl⟩ := hp.2.1.1.slice
        obtain ⟨za, zc, rfl⟩ := hp.2.2.1.slice
        have c0 := HO1.out.2.2.1 (k * 3) (by omega)
        have c1 := HO1.out.2.2.1 (k * 3 + 1) (by omega)
        have c2 := HO1.out.2.2.1 (k * 3 + 2) (by omega)
        have z0 := HO1.out.2.2.2 (k * 3) (by omega)
        have z1 := HO1.out.2.2.2 (k * 3 + 1) (by omega)
        have z2 := HO1.out.2.2.2 (k * 3 + 2) (by omega)
        generalize f (k * 3) = x0 at c0
        generalize f (k * 3 + 1) = x1 at c1
        generalize f (k * 3 + 2) = x2 at c2
        clear hb1 HE p0 p1 p2 HO HF hp hp2
        have HS1 := (show Hid _ from hs1)
        have HS2 := (show Hid _ from hs2)
        have HS3 := (show Hid _ from hs3)
        clear hs1 hs2 hs3
        have hgl1 : w.heap.size < w1.heap.size := HO1.out.2.1
        go_wp2
        obtain ⟨f', hf'⟩ := HS1.out
        refine ⟨⟨k + 1, by omega, by go_num, ⟨f', hf', fun j hj => ?_⟩, by go_grown⟩, by simp [intOf]; omega⟩
        by_cases e : j = k
        · rw [e, HU.out]; exact HS2.out
        · exact HS3.out _ _ (by omega) (HF1.out j (by omega))
      · have hke : k = ps.length := by omega
        subst hke
        go_wp2
        go_ret
        refine ⟨_, rfl, .inr ⟨w.heap.size, 0, _, rfl, HO.out.2.1, Nat.le_refl _, fun i hi => ?_⟩, kb⟩
        rw [Nat.zero_add]
        obtain ⟨kv, vv, cv, h1, h2, h3, h4⟩ := HF.out i hi
        exact ⟨kv, vv, cv, h1, h2, h3, h4.mono (fun b hb _ => by omega)⟩
set_option maxHeartbeats 3200000 in
theorem toTreeIs (x : Value) (ps : List Pg) (w : World) (h : LPgsAt w x ps) (hs : Small ps) :
    Calls Tryd.prog 19 #[.agg #[x]] w fun e w' => ∃ x', e = .returned (.agg #[x']) ∧ PgsO w.heap.size w' x' ps ∧ Below w.heap.size w w' := by
  have H := hid h
  obtain ⟨xa, xc, rfl⟩ := h.slice
  clear h
  obtain ⟨W0, hW0⟩ : ∃ W0, W0 = ((w.alloc (.cells #[.slice xa ps.length xc] 39)).alloc (.cells #[.slice none 0 0] 44)).alloc (.cells #[.slice none 0 0] 44) := ⟨_, rfl⟩
  have kb0 : Below w.heap.size w W0 := by rw [hW0]; exact (((Below.refl _ _).alloc (Nat.le_refl _) _).alloc (by simp) _).alloc (by simp; omega) _
  have hz0 : W0.heap.size = w.heap.size + 3 := by rw [hW0]; simp
  have bx3 : BoxAt W0 w.heap.size [.slice xa ps.length xc] ∧ BoxAt W0 (w.heap.size + 1) [.slice none 0 0] ∧ BoxAt W0 (w.heap.size + 1 + 1) [.slice none 0 0] := by
    rw [hW0]; exact boxOf3 (Below.refl _ _)
  obtain ⟨bA, bR, bO⟩ := bx3
  have T1 := fun W hW => toPgs (.slice xa ps.length xc) ps W hW hs
  have a0 := bA.2.1 0 _ rfl
  have hA := bA.1
  obtain ⟨ob, hob⟩ : ∃ ob, ob = w.heap.size + 1 + 1 := ⟨_, rfl⟩
  obtain ⟨rb, hrb⟩ : ∃ rb, rb = w.heap.size + 1 := ⟨_, rfl⟩
  have d2 : ob ≠ rb := by omega
  have dr : w.heap.size ≤ rb := by omega
  have dO : w.heap.size ≤ ob := by omega
  rw [← hob] at bO
  rw [← hrb] at bR
  go_enter Tryd.func19, Tryd.ntmps19
  go_upto_region 2 with fail
  rw [← hW0, ← hob, ← hrb]
  have HLO : Hid (ob < W0.heap.size ∧ rb < W0.heap.size) := by constructor <;> omega
  clear hW0 hob hrb hz0
  go_wp2_with fail
  refine (T1 _ (H.out.below kb0)).mono ?_
  rintro e w1 ⟨x1, rfl, g1, kb1⟩
  obtain ⟨ua, uc, rfl⟩ := g1.at.slice
  have bR1 := bR.below kb1
  have bO1 := bO.below kb1
  have k1 : Below w.heap.size w w1 := kb0.trans (kb1.mono kb0.size)
  have o0 := bO1.2.1 0 _ rfl
  have z0 := bO1.2.2 0 (by simp)
  have hO := bO1.1
  have r0 := bR1.2.1 0 _ rfl
  have y0 := bR1.2.2 0 (by simp)
  have hR := bR1.1
  have HG2 := hid ((g1.off (off1 w1 ob 0 (.slice ua ps.length uc)) (by have := HLO.out.1; simpa using this)).off (off1 _ rb 0 (.slice ua ps.length uc)) (by have := HLO.out.2; simpa using this))
  have c1 := (bR1.setOther (g := ob) (o := 0) (u := .slice ua ps.length uc) (Ne.symm d2)).set 0 (.slice ua ps.length uc)
  have x0 := c1.2.1 0 _ rfl
  have HK2 := hid (bel_set (bel_set k1 dO 0 (.slice ua ps.length uc)) dr 0 (.slice ua ps.length uc))
  have HB0 := hid kb0.size
  clear g1 kb1 bR1 bO1 k1 T1 a0 hA bA bR bO kb0 c1
  go_wp2_with fail
  (try simp only [Exit.inBlock, Exit.then])
  refine bodyPost_ret (v := .agg #[.slice ua ps.length uc]) ?r rfl ?_
  case r => simp [x0, results, Tryd.results19, go_sem]; try rfl
  exact ⟨_, rfl, HG2.out.le HB0.out, HK2.out⟩
set_option maxHeartbeats 3200000 in
theorem eqPgs (x y : Value) (ps : List Pg) (w : World) (hx : LPgsAt w x ps) (hy : LPgsAt w y ps) (hs : Small ps) :
    Calls Tryd.prog 66 #[x, y] w fun e w' => e = .returned (.bool true) ∧ Below w.heap.size w w' := by
  obtain ⟨hl, hsm⟩ := hs
  have HSM := hid hsm
  clear hsm
  by_cases h0 : ps = []
  · subst h0
    obtain ⟨a1, c1, rfl⟩ := hx.slice
    obtain ⟨a2, c2, rfl⟩ := hy.slice
    clear hx hy
    simp only [List.length_nil]
    go_enter Tryd.func66, Tryd.ntmps66
    go_wp2
    go_loopw [5] (fun i wr => i = .int .i64 0 ∧ Below w.heap.size w wr) (fun _ _ => 0)
    case atStart => exact ⟨rfl, by go_grown⟩
    case round =>
      obtain ⟨rfl, kb⟩ := hrel
      go_wp2
      go_ret
      exact ⟨rfl, kb⟩
  · rcases hx with ⟨_, _, _, e⟩ | ⟨b1, off1, cap1, rfl, hb1, hc1⟩
    · exact absurd e h0
    rcases hy with ⟨_, _, _, e⟩ | ⟨b2, off2, cap2, rfl, hb2, hc2⟩
    · exact absurd e h0
    have HC1 := hid hc1
    have HC2 := hid hc2
    clear hc1 hc2 h0
    go_enter Tryd.func66, Tryd.ntmps66
    go_wp2
    go_loopw [5] (fun i wr => ∃ k : Nat, k ≤ ps.length ∧ i = .int .i64 k ∧ Below w.heap.size w wr) (fun i _ => ps.length - (intOf i).toNat)
    case atStart => exact ⟨0, Nat.zero_le _, rfl, by go_grown⟩
    case round =>
      obtain ⟨k, hk, rfl, kb⟩ := hrel
      have kl := kb.size
      by_cases hlt : k < ps.length
      · obtain ⟨kv, vv, cv, p0, p1, p2, hlp⟩ := (HC1.out k hlt).below hb1 kb
        obtain ⟨ku, vu, cu, q0, q1, q2, hlq⟩ := (HC2.out k hlt).below hb2 kb
        have hb1r : b1 < wr.heap.size := by omega
        have hb2r : b2 < wr.heap.size := by omega
        have HE := fun W (hW : Below wr.heap.size wr W) => eqPg (ps.getD k default) kv vv cv ku vu cu W (hlp.below hW) (hlq.below hW) (HSM.out _ (by simp [List.getD, hlt]))
        obtain ⟨_, _, rfl⟩ := strs_len hlp.1
        obtain ⟨_, _, rfl⟩ := strs_len hlp.2.1
        obtain ⟨_, _, rfl⟩ := ints_len hlp.2.2
        obtain ⟨_, _, rfl⟩ := strs_len hlq.1
        obtain ⟨_, _, rfl⟩ := strs_len hlq.2.1
        obtain ⟨_, _, rfl⟩ := ints_len hlq.2.2
        have hki : (k : Int) < (ps.length : Int) := by omega
        have hk0 : (0 : Int) ≤ (k : Int) := by omega
        clear hlp hlq
        rename_i A1 C1 A2 C2 A3 C3 A4 C4 A5 C5 A6 C6
        generalize ps.getD k default = u at *
        go_upto_region 6 with fail
        go_region_held3 (fun w' => (w'.cell? ⟨b1, off1 + k * 3, none⟩ = some (.slice A1 u.keys.length C1) ∧ w'.cell? ⟨b1, off1 + k * 3 + 1, none⟩ = some (.slice A2 u.vals.length C2) ∧ w'.cell? ⟨b1, off1 + k * 3 + 2, none⟩ = some (.slice A3 u.kids.length C3)) ∧ w'.cell? ⟨b2, off2 + k * 3, none⟩ = some (.slice A4 u.keys.length C4) ∧ w'.cell? ⟨b2, off2 + k * 3 + 1, none⟩ = some (.slice A5 u.vals.length C5) ∧ w'.cell? ⟨b2, off2 + k * 3 + 2, none⟩ = some (.slice A6 u.kids.length C6)) (first | go_keep | trivial)
          (first
            | (go_at_call 124; refine (HE _ (Below.drew (Below.refl _ _))).mono ?_; rintro e w3 ⟨rfl, hx3⟩; have hp3 := kept hx3 b1 (by simp; omega); have hq3 := kept hx3 b2 (by simp; omega); have k3 : Below w.heap.size w w3 := (by exact kb.trans ((Below.trans ((Below.refl wr.heap.size wr).drew) (hx3.mono (by simp))).mono kl)); clear hx3))
        all_goals
          go_wp2_with fail
          exact ⟨⟨k + 1, by omega, by go_num, k3⟩, by simp [intOf]; omega⟩
      · have hke : k = ps.length := by omega
        subst hke
        go_wp2
        go_ret
        exact ⟨rfl, kb⟩
set_option maxHeartbeats 1600000 in
theorem eqTreeIs (x y : Value) (ps : List Pg) (w : World) (hx : LPgsAt w x ps) (hy : LPgsAt w y ps) (hs : Small ps) :
    Calls Tryd.prog 21 #[.agg #[x], .agg #[y]] w fun e w' => e = .returned (.bool true) ∧ Below w.heap.size w w' := by
  have HX := hid hx
  have HY := hid hy
  obtain ⟨a1, c1, rfl⟩ := hx.slice
  obtain ⟨a2, c2, rfl⟩ := hy.slice
  have HE := fun W h1 h2 => eqPgs (.slice a1 ps.length c1) (.slice a2 ps.length c2) ps W h1 h2 hs
  clear hx hy
  go_enter Tryd.func21, Tryd.ntmps21
  go_wp2_with fail
  refine (HE _ (HX.out.below (by go_grown)) (HY.out.below (by go_grown))).mono ?_
  rintro e w1 ⟨rfl, hb1⟩
  obtain ⟨hc1, hf1⟩ := bcell hb1
  have hz1 := hb1.size
  try simp only [World.size_drew] at hz1
  try simp only [World.size_setCell] at hz1
  try simp only [World.size_alloc] at hz1
  have hz1_0 : w.heap.size < w1.heap.size := by omega
  have hz1_1 : w.heap.size + 1 < w1.heap.size := by omega
  clear hz1
  have k1 : Below w.heap.size w w1 := by
    refine Below.trans ?_ (hb1.mono ?_)
    · go_grown
    · go_size
  have hl1 : w.heap.size ≤ w1.heap.size := k1.size
  clear hb1
  go_wp2
  go_returns
  exact ⟨rfl, by go_grown⟩
end Go.Proofs.YtgjcegmjhkehnaaDoor
