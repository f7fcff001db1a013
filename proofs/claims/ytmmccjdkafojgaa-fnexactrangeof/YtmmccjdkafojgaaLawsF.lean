/- The laws' copies of trees once more: what they make may be written. Condition: the pages lie in memory. -/
import Derived.Test.YtmmccjdkafojgaaLawsX
namespace Go.Proofs.Ytmmccjdkafojgaa
open Go.ChangeShapes Go.WideShapes Go.ChangeAt Go.RowKit Go.Deep
set_option linter.unusedVariables false
attribute [local go_sem ↓] Go.wp_at_zero Go.wp_at_succ

/-- Nothing in the blocks from B on is frozen. -/
def NoFz (B : Nat) (w : World) : Prop := ∀ g o, B ≤ g → w.frozen? ⟨g, o, none⟩ = false
theorem nf_refl (w : World) : NoFz w.heap.size w := fun g o hg => by
  have : w.heap[g]? = none := by simp; omega
  simp [World.frozen?, this]
theorem NoFz.alloc {B : Nat} {w : World} (h : NoFz B w) (cs : Array Value) (T : TypeId) : NoFz B (w.alloc (.cells cs T)) := fun g o hg => by
  by_cases e : g < w.heap.size
  · rw [((Below.refl w.heap.size w).alloc (Nat.le_refl _) (.cells cs T)).frozen (p := ⟨g, o, none⟩) e]; exact h g o hg
  · by_cases e2 : g = w.heap.size
    · subst e2; exact World.frozen?_alloc_new w cs T o
    · have : (w.alloc (.cells cs T)).heap[g]? = none := by simp; omega
      simp [World.frozen?, this]
theorem NoFz.set {B : Nat} {w : World} (h : NoFz B w) (a : Addr) (v : Value) : NoFz B (w.setCell a v) := fun g o hg => by
  have h0 := h g o hg
  simpa using h0
theorem NoFz.below {B : Nat} {w w1 : World} (h : NoFz B w) (hb : Below w.heap.size w w1) (h1 : NoFz w.heap.size w1) : NoFz B w1 := fun g o hg => by
  by_cases e : g < w.heap.size
  · rw [hb.frozen (p := ⟨g, o, none⟩) e]; exact h g o hg
  · exact h1 g o (by omega)
theorem NoFz.mono {B C : Nat} {w : World} (h : NoFz B w) (hC : B ≤ C) : NoFz C w := fun g o hg => h g o (by omega)
theorem toStrF (v : Value) (ss : List ByteArray) (w : World) (h : StrsAt w v ss) (hlen : ss.length ≤ 1048576) :
    Calls Try.prog 48 #[v] w fun e w' => e = .returned (.slice (some ⟨w.heap.size, 0, none⟩) ss.length ss.length) ∧ StrsAt w' (.slice (some ⟨w.heap.size, 0, none⟩) ss.length ss.length) ss ∧ NoFz w.heap.size w' ∧ Below w.heap.size w w' := by
  have hmk := fun w => run_make_row' (P := Try.prog) 34 9 (.string ByteArray.empty) 16 Try.underlying34 (by kernel_rfl) rfl .i64 .i64 ss.length (by omega) (by omega) w
  rcases h with ⟨a0, c0, rfl, rfl⟩ | ⟨b, off, cap, rfl, hb, hcell⟩
  · have hmk0 : ∀ w, (Instr.makeSlice 34 (.int .i64 0) (.int .i64 0)).run Try.prog w = .ok (.slice (some ⟨w.heap.size, 0, none⟩) 0 0) (w.alloc (.cells #[] 9)) := fun w => by
      have := hmk w
      simp only [List.length_nil] at this
      rw [Array.eq_empty_of_size_eq_zero (size_madeCells _ _)] at this
      simpa using this
    clear hmk
    go_enter Try.func48, Try.ntmps48
    go_wp2
    go_loop [4] (fun i => i = .int .i64 0) (fun _ => 0)
    case atStart => rfl
    case round =>
      subst hrel
      go_wp2
      go_ret
      exact ⟨rfl, .inr ⟨_, _, _, rfl, by simp, fun i hi => by simp at hi⟩, (nf_refl w).alloc _ _, by go_grown⟩
  · have HC : Hid (∀ i, i < ss.length → w.cell? ⟨b, off + i, none⟩ = some (.string (ss.getD i ByteArray.empty))) := hcell
    clear hcell
    have hne : b ≠ w.heap.size := by omega
    go_enter Try.func48, Try.ntmps48
    go_wp2
    go_loopw [4] (fun i wr => ∃ k : Nat, k ≤ ss.length ∧ i = .int .i64 k ∧ wr = w.alloc (.cells (fill ss k) 9)) (fun i _ => ss.length - (intOf i).toNat)
    case atStart => exact ⟨0, Nat.zero_le _, rfl, rfl⟩
    case round =>
      obtain ⟨k, hk, rfl, rfl⟩ := hrel
      by_cases hlt : k < ss.length
      · have hc := HC.out k hlt
        have hfs := fill_size ss k
        have hsrc : ∀ C, (w.alloc C).cell? ⟨b, off + k, none⟩ = some (.string (ss.getD k ByteArray.empty)) := fun C => by
          rw [((Below.refl w.heap.size w).alloc (Nat.le_refl _) C).cell (p := ⟨b, off + k, none⟩) hb]; exact hc
        go_wp2
        exact ⟨⟨k + 1, by omega, by go_num, by simp [fill, List.getD, hlt]⟩, by simp [intOf]; omega⟩
      · have hke : k = ss.length := by omega
        subst hke
        go_wp2
        go_ret
        refine ⟨rfl, .inr ⟨_, _, _, rfl, by simp, fun i hi => ?_⟩, (nf_refl w).alloc _ _, by go_grown⟩
        have := fill_at ss ss.length i hi hi
        simp [World.cell?_alloc_new, this]
theorem toIntF (v : Value) (zs : List Int) (w : World) (h : IntsAt w v zs) (hlen : zs.length ≤ 1048576) :
    Calls Try.prog 157 #[v] w fun e w' => e = .returned (.slice (some ⟨w.heap.size, 0, none⟩) zs.length zs.length) ∧ IntsAt w' (.slice (some ⟨w.heap.size, 0, none⟩) zs.length zs.length) zs ∧ NoFz w.heap.size w' ∧ Below w.heap.size w w' := by
  have hmk := fun w => run_make_row' (P := Try.prog) 107 3 (.int .i64 0) 8 Try.underlying107 (by kernel_rfl) rfl .i64 .i64 zs.length (by omega) (by omega) w
  rcases h with ⟨a0, c0, rfl, rfl⟩ | ⟨b, off, cap, rfl, hb, hcell⟩
  · have hmk0 : ∀ w, (Instr.makeSlice 107 (.int .i64 0) (.int .i64 0)).run Try.prog w = .ok (.slice (some ⟨w.heap.size, 0, none⟩) 0 0) (w.alloc (.cells #[] 3)) := fun w => by
      have := hmk w
      simp only [List.length_nil] at this
      rw [Array.eq_empty_of_size_eq_zero (size_madeCells _ _)] at this
      simpa using this
    clear hmk
    go_enter Try.func157, Try.ntmps157
    go_wp2
    go_loop [4] (fun i => i = .int .i64 0) (fun _ => 0)
    case atStart => rfl
    case round =>
      subst hrel
      go_wp2
      go_ret
      exact ⟨rfl, .inr ⟨_, _, _, rfl, by simp, fun i hi => by simp at hi⟩, (nf_refl w).alloc _ _, by go_grown⟩
  · have HC : Hid (∀ i, i < zs.length → w.cell? ⟨b, off + i, none⟩ = some (.int .i64 (zs.getD i 0))) := hcell
    clear hcell
    have hne : b ≠ w.heap.size := by omega
    go_enter Try.func157, Try.ntmps157
    go_wp2
    go_loopw [4] (fun i wr => ∃ k : Nat, k ≤ zs.length ∧ i = .int .i64 k ∧ wr = w.alloc (.cells (fillZ zs k) 3)) (fun i _ => zs.length - (intOf i).toNat)
    case atStart => exact ⟨0, Nat.zero_le _, rfl, rfl⟩
    case round =>
      obtain ⟨k, hk, rfl, rfl⟩ := hrel
      by_cases hlt : k < zs.length
      · have hc := HC.out k hlt
        have hfs := fillZ_size zs k
        have hsrc : ∀ C, (w.alloc C).cell? ⟨b, off + k, none⟩ = some (.int .i64 (zs.getD k 0)) := fun C => by
          rw [((Below.refl w.heap.size w).alloc (Nat.le_refl _) C).cell (p := ⟨b, off + k, none⟩) hb]; exact hc
        go_wp2
        exact ⟨⟨k + 1, by omega, by go_num, by simp [fillZ, List.getD, hlt]⟩, by simp [intOf]; omega⟩
      · have hke : k = zs.length := by omega
        subst hke
        go_wp2
        go_ret
        refine ⟨rfl, .inr ⟨_, _, _, rfl, by simp, fun i hi => ?_⟩, (nf_refl w).alloc _ _, by go_grown⟩
        have := fillZ_at zs zs.length i hi hi
        simp [World.cell?_alloc_new, this]
set_option maxHeartbeats 6400000 in
set_option maxRecDepth 100000 in
theorem toPgF (p : Pg) (kv vv cv : Value) (w : World) (h : LPg w kv vv cv p) (hs : p.keys.length ≤ 1048576 ∧ p.vals.length ≤ 1048576 ∧ p.kids.length ≤ 1048576) :
    Calls Try.prog 129 #[.agg #[kv, vv, cv]] w fun e w' => ∃ ku vu cu, e = .returned (.agg #[ku, vu, cu]) ∧ PgP (fun b => w.heap.size ≤ b) w' ku vu cu p ∧ NoFz w.heap.size w' ∧ Below w.heap.size w w' := by
  have HS := hid h
  obtain ⟨l1, l2, l3⟩ := hs
  obtain ⟨ka, kc, rfl⟩ := strs_len h.1
  obtain ⟨va, vc, rfl⟩ := strs_len h.2.1
  obtain ⟨ca, cc, rfl⟩ := ints_len h.2.2
  clear h
  obtain ⟨W0, hW0⟩ : ∃ W0, W0 = ((w.alloc (.cells #[.slice ka p.keys.length kc, .slice va p.vals.length vc, .slice ca p.kids.length cc] 155)).alloc (.cells #[.slice none 0 0, .slice none 0 0, .slice none 0 0] 109)).alloc (.cells #[.slice none 0 0, .slice none 0 0, .slice none 0 0] 109) := ⟨_, rfl⟩
  have kb0 : Below w.heap.size w W0 := by rw [hW0]; exact (((Below.refl _ _).alloc (Nat.le_refl _) _).alloc (by simp) _).alloc (by simp; omega) _
  have nf0 : NoFz w.heap.size W0 := by rw [hW0]; exact (((nf_refl w).alloc _ _).alloc _ _).alloc _ _
  have hz0 : W0.heap.size = w.heap.size + 3 := by rw [hW0]; simp
  have bx3 : BoxAt W0 w.heap.size [.slice ka p.keys.length kc, .slice va p.vals.length vc, .slice ca p.kids.length cc] ∧ BoxAt W0 (w.heap.size + 1) [.slice none 0 0, .slice none 0 0, .slice none 0 0] ∧ BoxAt W0 (w.heap.size + 1 + 1) [.slice none 0 0, .slice none 0 0, .slice none 0 0] := by
    rw [hW0]; exact boxOf3 (Below.refl _ _)
  obtain ⟨bA, bR, bO⟩ := bx3
  have T1 := fun W hW => toStrF (.slice ka p.keys.length kc) p.keys W hW l1
  have T2 := fun W hW => toStrF (.slice va p.vals.length vc) p.vals W hW l2
  have T3 := fun W hW => toIntF (.slice ca p.kids.length cc) p.kids W hW l3
  have a0 := bA.2.1 0 _ rfl
  have hA := bA.1
  have hO := bO.1
  have hR := bR.1
  obtain ⟨ob, hob⟩ : ∃ ob, ob = w.heap.size + 1 + 1 := ⟨_, rfl⟩
  obtain ⟨rb, hrb⟩ : ∃ rb, rb = w.heap.size + 1 := ⟨_, rfl⟩
  have d1 : ob ≠ w.heap.size := by omega
  have d2 : ob ≠ rb := by omega
  have d3 : rb ≠ w.heap.size := by omega
  have dr : w.heap.size ≤ rb := by omega
  have dO : w.heap.size ≤ ob := by omega
  have e1 : ob < W0.heap.size := by omega
  have e2 : rb < W0.heap.size := by omega
  rw [← hob] at bO hO
  rw [← hrb] at bR hR
  go_enter Try.func129, Try.ntmps129
  go_upto_region 2 with fail
  rw [← hW0, ← hob, ← hrb]
  have HB0 : Hid (w.heap.size ≤ W0.heap.size) := kb0.size
  clear hW0 hob hrb hz0
  go_wp2_with fail
  refine (T1 _ (HS.out.1.below kb0)).mono ?_
  rintro e w1 ⟨rfl, g1, n1, kb1⟩
  have nf1 := nf0.below kb1 n1
  have r1 := newStrs (B := W0.heap.size) g1 (Nat.le_refl _)
  have bA1 := bA.below kb1
  have bR1 := bR.below kb1
  have bO1 := bO.below kb1
  have k1 : Below w.heap.size w w1 := kb0.trans (kb1.mono kb0.size)
  have hz1 := kb1.size
  clear a0 hA hO hR bA bR bO kb1 T1 g1
  have o0 := bO1.2.1 0 _ rfl
  have z0 := bO1.2.2 0 (by simp)
  have hO := bO1.1
  obtain ⟨u1, hu1⟩ : ∃ u1, u1 = W0.heap.size := ⟨_, rfl⟩
  replace r1 : RowP (fun b => W0.heap.size ≤ b) w1 1 (.slice (some ⟨u1, 0, none⟩) p.keys.length p.keys.length) p.keys.length (strsV p.keys) := by rw [hu1]; exact r1
  rw [← hu1]
  have f1 := off1 w1 ob 0 (.slice (some ⟨u1, 0, none⟩) p.keys.length p.keys.length)
  have HR1 := hid (r1.off f1 (fun b hb hm => by simp at hm; omega))
  have BA2 := hid (bA1.setOther (g := ob) (o := 0) (u := .slice (some ⟨u1, 0, none⟩) p.keys.length p.keys.length) (Ne.symm d1))
  have BR2 := hid (bR1.setOther (g := ob) (o := 0) (u := .slice (some ⟨u1, 0, none⟩) p.keys.length p.keys.length) (Ne.symm d2))
  have BO2 := hid (bO1.set 0 (.slice (some ⟨u1, 0, none⟩) p.keys.length p.keys.length))
  have HK2 := hid (bel_set k1 dO 0 (.slice (some ⟨u1, 0, none⟩) p.keys.length p.keys.length))
  have q1 : W0.heap.size ≤ u1 := by omega
  have HN2 := hid (nf1.set ⟨ob, 0, none⟩ (.slice (some ⟨u1, 0, none⟩) p.keys.length p.keys.length))
  clear bA1 bR1 bO1 k1 r1 f1 hu1 nf0 nf1 n1
  go_upto_region 3 with fail
  obtain ⟨W1, hW1⟩ : ∃ W1, W1 = w1.setCell ⟨ob, 0, none⟩ (.slice (some ⟨u1, 0, none⟩) p.keys.length p.keys.length) := ⟨_, rfl⟩
  rw [← hW1] at HR1 BA2 BR2 BO2 HK2 HN2 ⊢
  have hs1 : W0.heap.size ≤ W1.heap.size := by rw [hW1]; simpa using hz1
  clear hW1 o0 z0 hO hz1
  have a1 := BA2.out.2.1 1 _ rfl
  have hA := BA2.out.1
  go_wp2_with fail
  refine (T2 _ (HS.out.2.1.below HK2.out)).mono ?_
  rintro e w2 ⟨rfl, g2, n2, kb2⟩
  have nf1 := HN2.out.below kb2 n2
  have r2 := newStrs (B := W0.heap.size) g2 hs1
  have r1 := HR1.out.off (Off.of (S := []) kb2) (by simp)
  have bA1 := BA2.out.below kb2
  have bR1 := BR2.out.below kb2
  have bO1 := BO2.out.below kb2
  have k1 : Below w.heap.size w w2 := HK2.out.trans (kb2.mono HK2.out.size)
  have hz2 : W0.heap.size ≤ w2.heap.size := Nat.le_trans hs1 kb2.size
  clear a1 hA kb2 T2 BA2 BR2 BO2 HR1 HK2 g2
  have o0 := bO1.2.1 1 _ rfl
  have z0 := bO1.2.2 1 (by simp)
  have hO := bO1.1
  obtain ⟨u2, hu2⟩ : ∃ u2, u2 = W1.heap.size := ⟨_, rfl⟩
  rw [← hu2] at r2 ⊢
  have f1 := off1 w2 ob 1 (.slice (some ⟨u2, 0, none⟩) p.vals.length p.vals.length)
  have HR1 := hid (r1.off f1 (fun b hb hm => by simp at hm; omega))
  have HR2 := hid (r2.off f1 (fun b hb hm => by simp at hm; omega))
  have BA2 := hid (bA1.setOther (g := ob) (o := 1) (u := .slice (some ⟨u2, 0, none⟩) p.vals.length p.vals.length) (Ne.symm d1))
  have BR2 := hid (bR1.setOther (g := ob) (o := 1) (u := .slice (some ⟨u2, 0, none⟩) p.vals.length p.vals.length) (Ne.symm d2))
  have BO2 := hid (bO1.set 1 (.slice (some ⟨u2, 0, none⟩) p.vals.length p.vals.length))
  have HK2 := hid (bel_set k1 dO 1 (.slice (some ⟨u2, 0, none⟩) p.vals.length p.vals.length))
  have HN3 := hid (nf1.set ⟨ob, 1, none⟩ (.slice (some ⟨u2, 0, none⟩) p.vals.length p.vals.length))
  clear HN2 nf1 n2
  have HN2 := hid HN3.out
  clear HN3 bA1 bR1 bO1 k1 r1 r2 f1 hu2 hs1
  go_upto_region 4 with fail
  obtain ⟨W2, hW2⟩ : ∃ W2, W2 = w2.setCell ⟨ob, 1, none⟩ (.slice (some ⟨u2, 0, none⟩) p.vals.length p.vals.length) := ⟨_, rfl⟩
  rw [← hW2] at HR1 HR2 BA2 BR2 BO2 HK2 HN2 ⊢
  have hs2 : W0.heap.size ≤ W2.heap.size := by rw [hW2]; simpa using hz2
  clear hW2 o0 z0 hO hz2
  have a1 := BA2.out.2.1 2 _ rfl
  have hA := BA2.out.1
  go_wp2_with fail
  refine (T3 _ (HS.out.2.2.below HK2.out)).mono ?_
  rintro e w3 ⟨rfl, g3, n3, kb3⟩
  have nf1 := HN2.out.below kb3 n3
  have r3 := newInts (B := W0.heap.size) g3 hs2
  have r1 := HR1.out.off (Off.of (S := []) kb3) (by simp)
  have r2 := HR2.out.off (Off.of (S := []) kb3) (by simp)
  have bR1 := BR2.out.below kb3
  have bO1 := BO2.out.below kb3
  have k1 : Below w.heap.size w w3 := HK2.out.trans (kb3.mono HK2.out.size)
  clear a1 hA kb3 T3 BA2 BR2 BO2 HR1 HR2 HK2 g3
  have o0 := bO1.2.1 2 _ rfl
  have z0 := bO1.2.2 2 (by simp)
  have hO := bO1.1
  obtain ⟨u3, hu3⟩ : ∃ u3, u3 = W2.heap.size := ⟨_, rfl⟩
  rw [← hu3] at r3 ⊢
  have f1 := off1 w3 ob 2 (.slice (some ⟨u3, 0, none⟩) p.kids.length p.kids.length)
  have HP : Hid (PgP (fun b => W0.heap.size ≤ b) (w3.setCell ⟨ob, 2, none⟩ (.slice (some ⟨u3, 0, none⟩) p.kids.length p.kids.length)) (.slice (some ⟨u1, 0, none⟩) p.keys.length p.keys.length) (.slice (some ⟨u2, 0, none⟩) p.vals.length p.vals.length) (.slice (some ⟨u3, 0, none⟩) p.kids.length p.kids.length) p) :=
    ⟨r1.off f1 (fun b hb hm => by simp at hm; omega), r2.off f1 (fun b hb hm => by simp at hm; omega), r3.off f1 (fun b hb hm => by simp at hm; omega)⟩
  have BR2 := hid (bR1.setOther (g := ob) (o := 2) (u := .slice (some ⟨u3, 0, none⟩) p.kids.length p.kids.length) (Ne.symm d2))
  have BO2 := hid (bO1.set 2 (.slice (some ⟨u3, 0, none⟩) p.kids.length p.kids.length))
  have HK2 := hid (bel_set k1 dO 2 (.slice (some ⟨u3, 0, none⟩) p.kids.length p.kids.length))
  have HN3 := hid (nf1.set ⟨ob, 2, none⟩ (.slice (some ⟨u3, 0, none⟩) p.kids.length p.kids.length))
  clear HN2 nf1 n3
  have HN2 := hid HN3.out
  clear HN3 bR1 bO1 k1 r1 r2 r3 f1 hu3 hs2
  go_upto_region 5 with fail
  obtain ⟨W3, hW3⟩ : ∃ W3, W3 = w3.setCell ⟨ob, 2, none⟩ (.slice (some ⟨u3, 0, none⟩) p.kids.length p.kids.length) := ⟨_, rfl⟩
  rw [← hW3] at HP BR2 BO2 HK2 HN2 ⊢
  clear hW3 o0 z0 hO
  have o0 := BO2.out.2.1 0 _ rfl
  have o1 := BO2.out.2.1 1 _ rfl
  have o2 := BO2.out.2.1 2 _ rfl
  have hO := BO2.out.1
  have r0 := BR2.out.2.1 0 _ rfl
  have r1 := BR2.out.2.1 1 _ rfl
  have r2 := BR2.out.2.1 2 _ rfl
  have y0 := BR2.out.2.2 0 (by simp)
  have y1 := BR2.out.2.2 1 (by simp)
  have y2 := BR2.out.2.2 2 (by simp)
  have hR := BR2.out.1
  go_wp2_with fail
  have c3 := ((BR2.out.set 0 (.slice (some ⟨u1, 0, none⟩) p.keys.length p.keys.length)).set 1 (.slice (some ⟨u2, 0, none⟩) p.vals.length p.vals.length)).set 2 (.slice (some ⟨u3, 0, none⟩) p.kids.length p.kids.length)
  have x0 := c3.2.1 0 _ rfl
  have x1 := c3.2.1 1 _ rfl
  have x2 := c3.2.1 2 _ rfl
  clear r0 r1 r2 y0 y1 y2 c3
  (try simp only [Exit.inBlock, Exit.then])
  refine bodyPost_ret (v := .agg #[.slice (some ⟨u1, 0, none⟩) p.keys.length p.keys.length, .slice (some ⟨u2, 0, none⟩) p.vals.length p.vals.length, .slice (some ⟨u3, 0, none⟩) p.kids.length p.kids.length]) ?r rfl ?_
  case r => simp [x0, x1, x2, results, Try.results129, go_sem]; try rfl
  refine ⟨_, _, _, rfl, ?_, ((HN2.out.set _ _).set _ _).set _ _, bel_set (bel_set (bel_set HK2.out dr _ _) dr _ _) dr _ _⟩
  refine PgP.mono ((((HP.out.off (off1 _ rb 0 _) ?_).off (off1 _ rb 1 _) ?_).off (off1 _ rb 2 _) ?_)) (fun b hb _ => Nat.le_trans HB0.out hb) <;> (intro b hb hm; simp at hm; omega)
set_option maxHeartbeats 6400000 in
theorem toPgsF (x : Value) (ps : List Pg) (w : World) (h : LPgsAt w x ps) (hs : Small ps) :
    Calls Try.prog 93 #[x] w fun e w' => ∃ x', e = .returned x' ∧ PgsO w.heap.size w' x' ps ∧ NoFz w.heap.size w' ∧ Below w.heap.size w w' := by
  obtain ⟨hl, hsm⟩ := hs
  obtain ⟨i0, hi, hzz⟩ := Option.map_eq_some_iff.1 infoPg
  simp only [Prod.mk.injEq] at hzz
  obtain ⟨hz0, hz1, hz2⟩ := hzz
  obtain ⟨w0, hmk, hown, hg0⟩ := run_make_full (P := Try.prog) w w.heap.size 23 109 i0 _ 3 Try.underlying23 hi hz0 hz1 .i64 .i64 ps.length (by rw [hz2]; omega) (by unfold maxLen; omega) (Nat.le_refl _)
  obtain ⟨f0, hf0⟩ := ownPgs hown
  have kb0 : Below w.heap.size w w0 := ⟨hg0.os, hg0.tape, hg0.output, hg0.size, fun k hk => hg0.block k hk (by simp)⟩
  have HF0 : Hid (OwnRow w.heap.size w0 w.heap.size (ps.length * 3) f0) := hf0
  have HSM := hid hsm
  have nf0 : NoFz w.heap.size w0 := by
    have hr := run_make (P := Try.prog) w 23 109 i0 _ Try.underlying23 hi hz0 .i64 .i64 (ps.length : Int) (ps.length : Int) (by omega) (Int.le_refl _) (by rw [hz2]; omega) (by omega)
    rw [hmk] at hr
    injection hr with h1 h2
    rw [h2]; exact (nf_refl w).alloc _ _
  have HN0 := hid nf0
  clear hown hg0 hf0 hsm nf0
  rcases h with ⟨a0, c0, rfl, rfl⟩ | ⟨b, off, cap, rfl, hb, hcell⟩
  · simp only [List.length_nil] at hmk
    have hmk' : (Instr.makeSlice 23 (.int .i64 0) (.int .i64 0)).run Try.prog w = .ok (.slice (some ⟨w.heap.size, 0, none⟩) 0 0) w0 := hmk
    clear hmk
    go_enter Try.func93, Try.ntmps93
    go_wp2
    go_loopw [4] (fun i wr => i = .int .i64 0 ∧ wr = w0) (fun _ _ => 0)
    case atStart => exact ⟨rfl, rfl⟩
    case round =>
      obtain ⟨rfl, rfl⟩ := hrel
      go_wp2
      go_ret
      exact ⟨_, rfl, .inl ⟨_, _, rfl, rfl⟩, HN0.out, kb0⟩
  · have HC : Hid (∀ i, i < ps.length → LPgAt w b (off + i * 3) (ps.getD i default)) := hcell
    clear hcell
    have hne : b ≠ w.heap.size := by omega
    have hne' : w.heap.size ≠ b := by omega
    go_enter Try.func93, Try.ntmps93
    go_wp2
    go_loopw [4] (fun i wr => ∃ k : Nat, k ≤ ps.length ∧ i = .int .i64 k ∧ (∃ f, OwnRow w.heap.size wr w.heap.size (ps.length * 3) f ∧ ∀ j, j < k → PgN wr w.heap.size (j * 3) (ps.getD j default)) ∧ NoFz w.heap.size wr ∧ Below w.heap.size w wr) (fun i _ => ps.length - (intOf i).toNat)
    case atStart => exact ⟨0, Nat.zero_le _, rfl, ⟨f0, HF0.out, fun j hj => by omega⟩, HN0.out, kb0⟩
    case round =>
      obtain ⟨k, hk, rfl, ⟨f, hO, hf⟩, nf, kb⟩ := hrel
      have HNF := hid nf
      clear nf
      have HO : Hid (OwnRow w.heap.size wr w.heap.size (ps.length * 3) f) := hO
      have HF : Hid (∀ j, j < k → PgN wr w.heap.size (j * 3) (ps.getD j default)) := hf
      have hgl := hO.2.1
      clear hO hf
      have kl := kb.size
      by_cases hlt : k < ps.length
      · obtain ⟨kv, vv, cv, p0, p1, p2, hlp⟩ := (HC.out k hlt).below hb kb
        have hbr : b < wr.heap.size := by omega
        have HE := fun W (hW : Below wr.heap.size wr W) => toPgF (ps.getD k default) kv vv cv W (hlp.below hW) (HSM.out _ (by simp [List.getD, hlt]))
        obtain ⟨ka, kc, rfl⟩ := strs_len hlp.1
        obtain ⟨va, vc, rfl⟩ := strs_len hlp.2.1
        obtain ⟨ca, cc, rfl⟩ := ints_len hlp.2.2
        have hki : (k : Int) < (ps.length : Int) := by omega
        have hk0 : (0 : Int) ≤ (k : Int) := by omega
        obtain ⟨u, hu⟩ : ∃ u, ps.getD k default = u := ⟨_, rfl⟩
        rw [hu] at HE p0 p1 p2
        have HU := hid hu
        clear hu hlp
        go_wp2_with fail
        refine (HE _ (by go_grown)).mono ?_
        rintro e w1 ⟨ku, vu, cu, rfl, hp, n1, hb1⟩
        have HN1 := hid (HNF.out.below hb1 n1)
        clear n1
        have k1 : Below w.heap.size w w1 := kb.trans (hb1.mono kl)
        have HO1 : Hid (OwnRow w.heap.size w1 w.heap.size (ps.length * 3) f) := HO.out.below hb1
        have HF1 : Hid (∀ j, j < k → PgN w1 w.heap.size (j * 3) (ps.getD j default)) := fun j hj => (HF.out j hj).below HO.out.2.1 hb1
        have hp2 : PgP (fun b => w.heap.size < b) w1 ku vu cu u := hp.mono (fun b hb _ => by omega)
        obtain ⟨hs1, hs2, hs3⟩ := pgSet HO1.out (o := k * 3) (by omega) hp2
        obtain ⟨xa, xc, rfl⟩ := hp.1.1.slice
        obtain ⟨ya, yc, rfl⟩ := hp.2.1.1.slice
        obtain ⟨za, zc, rfl⟩ := hp.2.2.1.slice
        have c0 := HO1.out.2.2.1 (k * 3) (by omega)
        have c1 := HO1.out.2.2.1 (k * 3 + 1) (by omega)
        have c2 := HO1.out.2.2.1 (k * 3 + 2) (by omega)
        have z0 := HO1.out.2.2.2 (k * 3) (by omega)
        have z1 := HO1.out.2.2.2 (k * 3 + 1) (by omega)
        have z2 := HO1.out.2.2.2 (k * 3 + 2) (by omega)
        generalize f (k * 3) = x0 at c0
        generalize f (k * 3 + 1) = x1 at c1
        generalize f (k * 3 + 2) = x2 at c2
        clear hb1 HE p0 p1 p2 HO HF hp hp2
        have HS1 := (show Hid _ from hs1)
        have HS2 := (show Hid _ from hs2)
        have HS3 := (show Hid _ from hs3)
        clear hs1 hs2 hs3
        have hgl1 : w.heap.size < w1.heap.size := HO1.out.2.1
        go_wp2
        obtain ⟨f', hf'⟩ := HS1.out
        refine ⟨⟨k + 1, by omega, by go_num, ⟨f', hf', fun j hj => ?_⟩, ((HN1.out.set _ _).set _ _).set _ _, by go_grown⟩, by simp [intOf]; omega⟩
        by_cases e : j = k
        · rw [e, HU.out]; exact HS2.out
        · exact HS3.out _ _ (by omega) (HF1.out j (by omega))
      · have hke : k = ps.length := by omega
        subst hke
        go_wp2
        go_ret
        refine ⟨_, rfl, .inr ⟨w.heap.size, 0, _, rfl, HO.out.2.1, Nat.le_refl _, fun i hi => ?_⟩, HNF.out, kb⟩
        rw [Nat.zero_add]
        obtain ⟨kv, vv, cv, h1, h2, h3, h4⟩ := HF.out i hi
        exact ⟨kv, vv, cv, h1, h2, h3, h4.mono (fun b hb _ => by omega)⟩
set_option maxHeartbeats 3200000 in
theorem toTreeF (x : Value) (ps : List Pg) (w : World) (h : LPgsAt w x ps) (hs : Small ps) :
    Calls Try.prog 43 #[.agg #[x]] w fun e w' => ∃ x', e = .returned (.agg #[x']) ∧ PgsO w.heap.size w' x' ps ∧ NoFz w.heap.size w' ∧ Below w.heap.size w w' := by
  have H := hid h
  obtain ⟨xa, xc, rfl⟩ := h.slice
  clear h
  obtain ⟨W0, hW0⟩ : ∃ W0, W0 = ((w.alloc (.cells #[.slice xa ps.length xc] 56)).alloc (.cells #[.slice none 0 0] 25)).alloc (.cells #[.slice none 0 0] 25) := ⟨_, rfl⟩
  have kb0 : Below w.heap.size w W0 := by rw [hW0]; exact (((Below.refl _ _).alloc (Nat.le_refl _) _).alloc (by simp) _).alloc (by simp; omega) _
  have nf0 : NoFz w.heap.size W0 := by rw [hW0]; exact (((nf_refl w).alloc _ _).alloc _ _).alloc _ _
  have hz0 : W0.heap.size = w.heap.size + 3 := by rw [hW0]; simp
  have bx3 : BoxAt W0 w.heap.size [.slice xa ps.length xc] ∧ BoxAt W0 (w.heap.size + 1) [.slice none 0 0] ∧ BoxAt W0 (w.heap.size + 1 + 1) [.slice none 0 0] := by
    rw [hW0]; exact boxOf3 (Below.refl _ _)
  obtain ⟨bA, bR, bO⟩ := bx3
  have T1 := fun W hW => toPgsF (.slice xa ps.length xc) ps W hW hs
  have a0 := bA.2.1 0 _ rfl
  have hA := bA.1
  obtain ⟨ob, hob⟩ : ∃ ob, ob = w.heap.size + 1 + 1 := ⟨_, rfl⟩
  obtain ⟨rb, hrb⟩ : ∃ rb, rb = w.heap.size + 1 := ⟨_, rfl⟩
  have d2 : ob ≠ rb := by omega
  have dr : w.heap.size ≤ rb := by omega
  have dO : w.heap.size ≤ ob := by omega
  rw [← hob] at bO
  rw [← hrb] at bR
  go_enter Try.func43, Try.ntmps43
  go_upto_region 2 with fail
  rw [← hW0, ← hob, ← hrb]
  have HLO : Hid (ob < W0.heap.size ∧ rb < W0.heap.size) := by constructor <;> omega
  clear hW0 hob hrb hz0
  go_wp2_with fail
  refine (T1 _ (H.out.below kb0)).mono ?_
  rintro e w1 ⟨x1, rfl, g1, n1, kb1⟩
  have nf1 := hid (nf0.below kb1 n1)
  clear n1 nf0
  obtain ⟨ua, uc, rfl⟩ := g1.at.slice
  have bR1 := bR.below kb1
  have bO1 := bO.below kb1
  have k1 : Below w.heap.size w w1 := kb0.trans (kb1.mono kb0.size)
  have o0 := bO1.2.1 0 _ rfl
  have z0 := bO1.2.2 0 (by simp)
  have hO := bO1.1
  have r0 := bR1.2.1 0 _ rfl
  have y0 := bR1.2.2 0 (by simp)
  have hR := bR1.1
  have HG2 := hid ((g1.off (off1 w1 ob 0 (.slice ua ps.length uc)) (by have := HLO.out.1; simpa using this)).off (off1 _ rb 0 (.slice ua ps.length uc)) (by have := HLO.out.2; simpa using this))
  have c1 := (bR1.setOther (g := ob) (o := 0) (u := .slice ua ps.length uc) (Ne.symm d2)).set 0 (.slice ua ps.length uc)
  have x0 := c1.2.1 0 _ rfl
  have HK2 := hid (bel_set (bel_set k1 dO 0 (.slice ua ps.length uc)) dr 0 (.slice ua ps.length uc))
  have HB0 := hid kb0.size
  clear g1 kb1 bR1 bO1 k1 T1 a0 hA bA bR bO kb0 c1
  go_wp2_with fail
  (try simp only [Exit.inBlock, Exit.then])
  refine bodyPost_ret (v := .agg #[.slice ua ps.length uc]) ?r rfl ?_
  case r => simp [x0, results, Try.results43, go_sem]; try rfl
  exact ⟨_, rfl, HG2.out.le HB0.out, (nf1.out.set _ _).set _ _, HK2.out⟩
end Go.Proofs.Ytmmccjdkafojgaa
