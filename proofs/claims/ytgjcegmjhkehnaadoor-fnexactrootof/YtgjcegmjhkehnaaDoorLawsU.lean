/- Contracts of the laws' copies of pages and trees, and whether two are alike. Condition: the pages lie in memory. -/
import Derived.Test.YtgjcegmjhkehnaaDoorLawsT
import Derived.Test.YtgjcegmjhkehnaaDoorImplN
namespace Go.Proofs.YtgjcegmjhkehnaaDoor
open Go.ChangeShapes Go.WideShapes Go.ChangeAt Go.RowKit Go.Deep
set_option linter.unusedVariables false
attribute [local go_sem ↓] Go.wp_at_zero Go.wp_at_succ

theorem rows_of_ints {w : World} {v : Value} {zs : List Int} (h : IntsAt w v zs) (hc : CapOk v) : RowsAt w 1 v zs.length (zs.map (Value.int .i64)) := by
  obtain ⟨a, n, c, hv, h1, h2⟩ := hc
  refine ⟨by simp, ?_⟩
  rcases h with ⟨a0, c0, rfl, rfl⟩ | ⟨b, off, cap, rfl, hb, hcell⟩
  · cases hv
    exact ⟨_, _, rfl, h1, h2, .inl rfl⟩
  · cases hv
    refine ⟨_, _, rfl, h1, h2, .inr ⟨b, off, rfl, hb, fun j u hj => ?_⟩⟩
    obtain ⟨hj1, hj2⟩ := List.getElem?_eq_some_iff.1 hj
    simp only [List.length_map] at hj1
    rw [hcell j hj1]
    simp [List.getD, hj1] at hj2 ⊢
    exact hj2
theorem newStrs {w : World} {g B : Nat} {ss : List ByteArray} (h : StrsAt w (.slice (some ⟨g, 0, none⟩) ss.length ss.length) ss) (hB : B ≤ g) : RowP (fun b => B ≤ b) w 1 (.slice (some ⟨g, 0, none⟩) ss.length ss.length) ss.length (strsV ss) :=
  ⟨rows_of_strs h ⟨_, _, _, rfl, Nat.le_refl _, fun e => by cases e⟩, fun b off sp n c e => by cases e; exact .inr hB⟩
theorem newInts {w : World} {g B : Nat} {zs : List Int} (h : IntsAt w (.slice (some ⟨g, 0, none⟩) zs.length zs.length) zs) (hB : B ≤ g) : RowP (fun b => B ≤ b) w 1 (.slice (some ⟨g, 0, none⟩) zs.length zs.length) zs.length (intsV zs) :=
  ⟨rows_of_ints h ⟨_, _, _, rfl, Nat.le_refl _, fun e => by cases e⟩, fun b off sp n c e => by cases e; exact .inr hB⟩
/-- A page's rows, in blocks of the kind P. -/
def PgP (P : Nat → Prop) (w : World) (kv vv cv : Value) (p : Pg) : Prop := RowP P w 1 kv p.keys.length (strsV p.keys) ∧ RowP P w 1 vv p.vals.length (strsV p.vals) ∧ RowP P w 1 cv p.kids.length (intsV p.kids)
theorem PgP.off {P : Nat → Prop} {S : List Nat} {w w' : World} {kv vv cv : Value} {p : Pg} (h : PgP P w kv vv cv p) (ho : Off S w w') (hS : ∀ b, P b → b ∉ S) : PgP P w' kv vv cv p := ⟨h.1.off ho hS, h.2.1.off ho hS, h.2.2.off ho hS⟩
theorem PgP.mono {P Q : Nat → Prop} {w : World} {kv vv cv : Value} {p : Pg} (h : PgP P w kv vv cv p) (hPQ : ∀ b, P b → b < w.heap.size → Q b) : PgP Q w kv vv cv p := ⟨h.1.mono hPQ, h.2.1.mono hPQ, h.2.2.mono hPQ⟩
theorem off1 (W : World) (g o : Nat) (u : Value) : Off [g] W (W.setCell ⟨g, o, none⟩ u) := ⟨rfl, rfl, rfl, by simp [World.setCell], fun k hk hn => setCell_other _ _ _ _ _ (by simpa using hn)⟩
theorem ala (w : World) (o : Obj) : Below w.heap.size w (w.alloc o) := (Below.refl _ _).alloc (Nat.le_refl _) o
set_option maxHeartbeats 3200000 in
theorem toPg (p : Pg) (kv vv cv : Value) (w : World) (h : LPg w kv vv cv p) (hs : p.keys.length ≤ 1048576 ∧ p.vals.length ≤ 1048576 ∧ p.kids.length ≤ 1048576) :
    Calls Tryd.prog 122 #[.agg #[kv, vv, cv]] w fun e w' => ∃ ku vu cu, e = .returned (.agg #[ku, vu, cu]) ∧ PgP (fun b => w.heap.size ≤ b) w' ku vu cu p ∧ Below w.heap.size w w' := by
  have HS := hid h
  obtain ⟨l1, l2, l3⟩ := hs
  obtain ⟨ka, kc, rfl⟩ := strs_len h.1
  obtain ⟨va, vc, rfl⟩ := strs_len h.2.1
  obtain ⟨ca, cc, rfl⟩ := ints_len h.2.2
  clear h
  obtain ⟨W0, hW0⟩ : ∃ W0, W0 = ((w.alloc (.cells #[.slice ka p.keys.length kc, .slice va p.vals.length vc, .slice ca p.kids.length cc] 170)).alloc (.cells #[.slice none 0 0, .slice none 0 0, .slice none 0 0] 179)).alloc (.cells #[.slice none 0 0, .slice none 0 0, .slice none 0 0] 179) := ⟨_, rfl⟩
  have kb0 : Below w.heap.size w W0 := by rw [hW0]; exact (((Below.refl _ _).alloc (Nat.le_refl _) _).alloc (by simp) _).alloc (by simp; omega) _
  have hz0 : W0.heap.size = w.heap.size + 3 := by rw [hW0]; simp
  have bx3 : BoxAt W0 w.heap.size [.slice ka p.keys.length kc, .slice va p.vals.length vc, .slice ca p.kids.length cc] ∧ BoxAt W0 (w.heap.size + 1) [.slice none 0 0, .slice none 0 0, .slice none 0 0] ∧ BoxAt W0 (w.heap.size + 1 + 1) [.slice none 0 0, .slice none 0 0, .slice none 0 0] := by
    rw [hW0]; exact boxOf3 (Below.refl _ _)
  obtain ⟨bA, bR, bO⟩ := bx3
  have T1 := fun W hW => toStrR (.slice ka p.keys.length kc) p.keys W hW l1
  have T2 := fun W hW => toStrR (.slice va p.vals.length vc) p.vals W hW l2
  have T3 := fun W hW => toIntR (.slice ca p.kids.length cc) p.kids W hW l3
  have a0 := bA.2.1 0 _ rfl
  have hA := bA.1
  have hO := bO.1
  have hR := bR.1
  obtain ⟨ob, hob⟩ : ∃ ob, ob = w.heap.size + 1 + 1 := ⟨_, rfl⟩
  obtain ⟨rb, hrb⟩ : ∃ rb, rb = w.heap.size + 1 := ⟨_, rfl⟩
  have d1 : ob ≠ w.heap.size := by omega
  have d2 : ob ≠ rb := by omega
  have d3 : rb ≠ w.heap.size := by omega
  have dr : w.heap.size ≤ rb := by omega
  have dO : w.heap.size ≤ ob := by omega
  have e1 : ob < W0.heap.size := by omega
  have e2 : rb < W0.heap.size := by omega
  rw [← hob] at bO hO
  rw [← hrb] at bR hR
  go_enter Tryd.func122, Tryd.ntmps122
  go_upto_region 2 with fail
  rw [← hW0, ← hob, ← hrb]
  have HB0 : Hid (w.heap.size ≤ W0.heap.size) := kb0.size
  clear hW0 hob hrb hz0
  go_wp2_with fail
  refine (T1 _ (HS.out.1.below kb0)).mono ?_
  rintro e w1 ⟨rfl, g1, kb1⟩
  have r1 := newStrs (B := W0.heap.size) g1 (Nat.le_refl _)
  have bA1 := bA.below kb1
  have bR1 := bR.below kb1
  have bO1 := bO.below kb1
  have k1 : Below w.heap.size w w1 := kb0.trans (kb1.mono kb0.size)
  have hz1 := kb1.size
  clear a0 hA hO hR bA bR bO kb1 T1 g1
  have o0 := bO1.2.1 0 _ rfl
  have z0 := bO1.2.2 0 (by simp)
  have hO := bO1.1
  obtain ⟨u1, hu1⟩ : ∃ u1, u1 = W0.heap.size := ⟨_, rfl⟩
  replace r1 : RowP (fun b => W0.heap.size ≤ b) w1 1 (.slice (some ⟨u1, 0, none⟩) p.keys.length p.keys.length) p.keys.length (strsV p.keys) := by rw [hu1]; exact r1
  rw [← hu1]
  have f1 := off1 w1 ob 0 (.slice (some ⟨u1, 0, none⟩) p.keys.length p.keys.length)
  have HR1 := hid (r1.off f1 (fun b hb hm => by simp at hm; omega))
  have BA2 := hid (bA1.setOther (g := ob) (o := 0) (u := .slice (some ⟨u1, 0, none⟩) p.keys.length p.keys.length) (Ne.symm d1))
  have BR2 := hid (bR1.setOther (g := ob) (o := 0) (u := .slice (some ⟨u1, 0, none⟩) p.keys.length p.keys.length) (Ne.symm d2))
  have BO2 := hid (bO1.set 0 (.slice (some ⟨u1, 0, none⟩) p.keys.length p.keys.length))
  have HK2 := hid (bel_set k1 dO 0 (.slice (some ⟨u1, 0, none⟩) p.keys.length p.keys.length))
  have q1 : W0.heap.size ≤ u1 := by omega
  clear bA1 bR1 bO1 k1 r1 f1 hu1
  go_upto_region 3 with fail
  obtain ⟨W1, hW1⟩ : ∃ W1, W1 = w1.setCell ⟨ob, 0, none⟩ (.slice (some ⟨u1, 0, none⟩) p.keys.length p.keys.length) := ⟨_, rfl⟩
  rw [← hW1] at HR1 BA2 BR2 BO2 HK2 ⊢
  have hs1 : W0.heap.size ≤ W1.heap.size := by rw [hW1]; simpa using hz1
  clear hW1 o0 z0 hO hz1
  have a1 := BA2.out.2.1 1 _ rfl
  have hA := BA2.out.1
  go_wp2_with fail
  refine (T2 _ (HS.out.2.1.below HK2.out)).mono ?_
  rintro e w2 ⟨rfl, g2, kb2⟩
  have r2 := newStrs (B := W0.heap.size) g2 hs1
  have r1 := HR1.out.off (Off.of (S := []) kb2) (by simp)
  have bA1 := BA2.out.below kb2
  have bR1 := BR2.out.below kb2
  have bO1 := BO2.out.below kb2
  have k1 : Below w.heap.size w w2 := HK2.out.trans (kb2.mono HK2.out.size)
  have hz2 : W0.heap.size ≤ w2.heap.size := Nat.le_trans hs1 kb2.size
  clear a1 hA kb2 T2 BA2 BR2 BO2 HR1 HK2 g2
  have o0 := bO1.2.1 1 _ rfl
  have z0 := bO1.2.2 1 (by simp)
  have hO := bO1.1
  obtain ⟨u2, hu2⟩ : ∃ u2, u2 = W1.heap.size := ⟨_, rfl⟩
  rw [← hu2] at r2 ⊢
  have f1 := off1 w2 ob 1 (.slice (some ⟨u2, 0, none⟩) p.vals.length p.vals.length)
  have HR1 := hid (r1.off f1 (fun b hb hm => by simp at hm; omega))
  have HR2 := hid (r2.off f1 (fun b hb hm => by simp at hm; omega))
  have BA2 := hid (bA1.setOther (g := ob) (o := 1) (u := .slice (some ⟨u2, 0, none⟩) p.vals.length p.vals.length) (Ne.symm d1))
  have BR2 := hid (bR1.setOther (g := ob) (o := 1) (u := .slice (some ⟨u2, 0, none⟩) p.vals.length p.vals.length) (Ne.symm d2))
  have BO2 := hid (bO1.set 1 (.slice (some ⟨u2, 0, none⟩) p.vals.length p.vals.length))
  have HK2 := hid (bel_set k1 dO 1 (.slice (some ⟨u2, 0, none⟩) p.vals.length p.vals.length))
  clear bA1 bR1 bO1 k1 r1 r2 f1 hu2 hs1
  go_upto_region 4 with fail
  obtain ⟨W2, hW2⟩ : ∃ W2, W2 = w2.setCell ⟨ob, 1, none⟩ (.slice (some ⟨u2, 0, none⟩) p.vals.length p.vals.length) := ⟨_, rfl⟩
  rw [← hW2] at HR1 HR2 BA2 BR2 BO2 HK2 ⊢
  have hs2 : W0.heap.size ≤ W2.heap.size := by rw [hW2]; simpa using hz2
  clear hW2 o0 z0 hO hz2
  have a1 := BA2.out.2.1 2 _ rfl
  have hA := BA2.out.1
  go_wp2_with fail
  refine (T3 _ (HS.out.2.2.below HK2.out)).mono ?_
  rintro e w3 ⟨rfl, g3, kb3⟩
  have r3 := newInts (B := W0.heap.size) g3 hs2
  have r1 := HR1.out.off (Off.of (S := []) kb3) (by simp)
  have r2 := HR2.out.off (Off.of (S := []) kb3) (by simp)
  have bR1 := BR2.out.below kb3
  have bO1 := BO2.out.below kb3
  have k1 : Below w.heap.size w w3 := HK2.out.trans (kb3.mono HK2.out.size)
  clear a1 hA kb3 T3 BA2 BR2 BO2 HR1 HR2 HK2 g3
  have o0 := bO1.2.1 2 _ rfl
  have z0 := bO1.2.2 2 (by simp)
  have hO := bO1.1
  obtain ⟨u3, hu3⟩ : ∃ u3, u3 = W2.heap.size := ⟨_, rfl⟩
  rw [← hu3] at r3 ⊢
  have f1 := off1 w3 ob 2 (.slice (some ⟨u3, 0, none⟩) p.kids.length p.kids.length)
  have HP : Hid (PgP (fun b => W0.heap.size ≤ b) (w3.setCell ⟨ob, 2, none⟩ (.slice (some ⟨u3, 0, none⟩) p.kids.length p.kids.length)) (.slice (some ⟨u1, 0, none⟩) p.keys.length p.keys.length) (.slice (some ⟨u2, 0, none⟩) p.vals.length p.vals.length) (.slice (some ⟨u3, 0, none⟩) p.kids.length p.kids.length) p) :=
    ⟨r1.off f1 (fun b hb hm => by simp at hm; omega), r2.off f1 (fun b hb hm => by simp at hm; omega), r3.off f1 (fun b hb hm => by simp at hm; omega)⟩
  have BR2 := hid (bR1.setOther (g := ob) (o := 2) (u := .slice (some ⟨u3, 0, none⟩) p.kids.length p.kids.length) (Ne.symm d2))
  have BO2 := hid (bO1.set 2 (.slice (some ⟨u3, 0, none⟩) p.kids.length p.kids.length))
  have HK2 := hid (bel_set k1 dO 2 (.slice (some ⟨u3, 0, none⟩) p.kids.length p.kids.length))
  clear bR1 bO1 k1 r1 r2 r3 f1 hu3 hs2
  go_upto_region 5 with fail
  obtain ⟨W3, hW3⟩ : ∃ W3, W3 = w3.setCell ⟨ob, 2, none⟩ (.slice (some ⟨u3, 0, none⟩) p.kids.length p.kids.length) := ⟨_, rfl⟩
  rw [← hW3] at HP BR2 BO2 HK2 ⊢
  clear hW3 o0 z0 hO
  have o0 := BO2.out.2.1 0 _ rfl
  have o1 := BO2.out.2.1 1 _ rfl
  have o2 := BO2.out.2.1 2 _ rfl
  have hO := BO2.out.1
  have r0 := BR2.out.2.1 0 _ rfl
  have r1 := BR2.out.2.1 1 _ rfl
  have r2 := BR2.out.2.1 2 _ rfl
  have y0 := BR2.out.2.2 0 (by simp)
  have y1 := BR2.out.2.2 1 (by simp)
  have y2 := BR2.out.2.2 2 (by simp)
  have hR := BR2.out.1
  go_wp2_with fail
  have c3 := ((BR2.out.set 0 (.slice (some ⟨u1, 0, none⟩) p.keys.length p.keys.length)).set 1 (.slice (some ⟨u2, 0, none⟩) p.vals.length p.vals.length)).set 2 (.slice (some ⟨u3, 0, none⟩) p.kids.length p.kids.length)
  have x0 := c3.2.1 0 _ rfl
  have x1 := c3.2.1 1 _ rfl
  have x2 := c3.2.1 2 _ rfl
  clear r0 r1 r2 y0 y1 y2 c3
  (try simp only [Exit.inBlock, Exit.then])
  refine bodyPost_ret (v := .agg #[.slice (some ⟨u1, 0, none⟩) p.keys.length p.keys.length, .slice (some ⟨u2, 0, none⟩) p.vals.length p.vals.length, .slice (some ⟨u3, 0, none⟩) p.kids.length p.kids.length]) ?r rfl ?_
  case r => simp [x0, x1, x2, results, Tryd.results122, go_sem]; try rfl
  refine ⟨_, _, _, rfl, ?_, bel_set (bel_set (bel_set HK2.out dr _ _) dr _ _) dr _ _⟩
  refine PgP.mono ((((HP.out.off (off1 _ rb 0 _) ?_).off (off1 _ rb 1 _) ?_).off (off1 _ rb 2 _) ?_)) (fun b hb _ => Nat.le_trans HB0.out hb) <;> (intro b hb hm; simp at hm; omega)
end Go.Proofs.YtgjcegmjhkehnaaDoor
