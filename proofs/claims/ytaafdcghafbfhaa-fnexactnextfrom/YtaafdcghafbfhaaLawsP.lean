/- Contracts of the laws' helpers on packed lists. Condition: their lists lie in memory. -/
import Derived.Test.YtaafdcghafbfhaaLawsB
import Derived.Test.YtaafdcghafbfhaaBoxW
namespace Go.Proofs.Ytaafdcghafbfhaa
open Go.ChangeShapes Go.WideShapes Go.ChangeAt Go.RowKit Go.Deep
set_option linter.unusedVariables false
attribute [local go_sem ↓] Go.wp_at_zero Go.wp_at_succ

/-- A packed list that is read. -/
def PkAt (w : World) (lv hv : Value) (p : Pk) : Prop := IntsAt w lv p.lows ∧ BoolsAt w hv p.high
theorem PkAt.below {w w' : World} {lv hv : Value} {p : Pk} (h : PkAt w lv hv p) (hb : Below w.heap.size w w') : PkAt w' lv hv p := ⟨h.1.below hb, h.2.below hb⟩
/-- A packed list of the call's own, whose rows lie in the blocks g and q. -/
def PkOwn (base : Nat) (w : World) (g q : Nat) (p : Pk) : Prop := OwnRow base w g p.lows.length (fun i => .int .i64 (p.lows.getD i 0)) ∧ OwnRow base w q p.high.length (fun i => .bool (p.high.getD i false)) ∧ g ≠ q
theorem PkOwn.below {base : Nat} {w w' : World} {g q : Nat} {p : Pk} (h : PkOwn base w g q p) (hb : Below w.heap.size w w') : PkOwn base w' g q p := ⟨h.1.below hb, h.2.1.below hb, h.2.2⟩
theorem PkOwn.at {base : Nat} {w : World} {g q : Nat} {p : Pk} (h : PkOwn base w g q p) (c d : Nat) : PkAt w (.slice (some ⟨g, 0, none⟩) p.lows.length c) (.slice (some ⟨q, 0, none⟩) p.high.length d) p := ⟨h.1.intsL c, h.2.1.boolsL d⟩
theorem OwnRow.setOffI {base : Nat} {w : World} {g n b o : Nat} {v : Value} {f : Nat → Value} (h : OwnRow base w g n f) (hne : g ≠ b) : OwnRow base (w.setCell ⟨b, o, none⟩ v) g n f := by
  have e := setCell_other w b g o v hne
  exact ⟨h.1, by simpa using h.2.1, fun i hi => by simp only [World.cell?, e]; exact h.2.2.1 i hi, fun i hi => by simp only [World.frozen?, e]; exact h.2.2.2 i hi⟩
theorem IntsAt.box {w : World} {v u x : Value} {zs : List Int} {b o : Nat} (h : IntsAt w v zs) (hb : ∀ i, i < zs.length → ∀ c off n, v = .slice (some ⟨c, off, none⟩) zs.length n → c ≠ b) : IntsAt (w.setCell ⟨b, o, none⟩ u) v zs := by
  rcases h with h | ⟨b', off, cap, h1, h2, h3⟩
  · exact .inl h
  · refine .inr ⟨b', off, cap, h1, by simpa using h2, fun j hj => ?_⟩
    rw [World.cell?_setCell_other w ⟨b, o, none⟩ ⟨b', off + j, none⟩ _ (fun e => hb j hj b' off cap h1 (by cases e; rfl)), h3 j hj]
theorem OwnRow.mono' {base base' : Nat} {w : World} {g n : Nat} {f : Nat → Value} (h : OwnRow base w g n f) (hb : base' ≤ g) : OwnRow base' w g n f := ⟨hb, h.2⟩
set_option maxHeartbeats 3200000 in
theorem toPk (p : Pk) (lv hv : Value) (w : World) (h : PkAt w lv hv p) (l1 : p.lows.length ≤ 1048576) (l2 : p.high.length ≤ 1048576) :
    Calls Try.prog 45 #[.agg #[.int .i64 p.many, .int .i64 p.low, lv, hv]] w fun e w' => ∃ g q, e = .returned (.agg #[.int .i64 p.many, .int .i64 p.low, .slice (some ⟨g, 0, none⟩) p.lows.length p.lows.length, .slice (some ⟨q, 0, none⟩) p.high.length p.high.length]) ∧ PkOwn w.heap.size w' g q p ∧ Below w.heap.size w w' := by
  have HS := hid h
  obtain ⟨la, lc, rfl⟩ := h.1.slice
  obtain ⟨ha, hc, rfl⟩ := h.2.slice
  obtain ⟨M, hM⟩ : ∃ M, M = p.many := ⟨_, rfl⟩
  obtain ⟨L, hL⟩ : ∃ L, L = p.low := ⟨_, rfl⟩
  rw [← hM, ← hL]
  clear h hM hL
  obtain ⟨W1, hW1⟩ : ∃ W1, W1 = ((w.alloc (.cells #[.int .i64 M, .int .i64 L, .slice la p.lows.length lc, .slice ha p.high.length hc] 55)).alloc (.cells #[.int .i64 0, .int .i64 0, .slice none 0 0, .slice none 0 0] 27)).alloc (.cells #[.int .i64 M, .int .i64 L, .slice none 0 0, .slice none 0 0] 27) := ⟨_, rfl⟩
  have k1 : Below w.heap.size w W1 := by rw [hW1]; exact (((Below.refl _ _).alloc (Nat.le_refl _) _).alloc (by simp) _).alloc (by simp; omega) _
  have bx3 : BoxAt W1 w.heap.size [.int .i64 M, .int .i64 L, .slice la p.lows.length lc, .slice ha p.high.length hc] ∧ BoxAt W1 (w.heap.size + 1) [.int .i64 0, .int .i64 0, .slice none 0 0, .slice none 0 0] ∧ BoxAt W1 (w.heap.size + 1 + 1) [.int .i64 M, .int .i64 L, .slice none 0 0, .slice none 0 0] := by
    rw [hW1]; exact boxOf3 (Below.refl _ _)
  obtain ⟨bA1, bR1, bO1⟩ := bx3
  obtain ⟨ob, hob⟩ : ∃ ob, ob = w.heap.size + 1 + 1 := ⟨_, rfl⟩
  obtain ⟨rb, hrb⟩ : ∃ rb, rb = w.heap.size + 1 := ⟨_, rfl⟩
  have d1 : ob ≠ w.heap.size := by omega
  have d2 : ob ≠ rb := by omega
  have d3 : rb ≠ w.heap.size := by omega
  have dr : w.heap.size ≤ rb := by omega
  have dO : w.heap.size ≤ ob := by omega
  rw [← hob] at bO1
  rw [← hrb] at bR1
  have HW1 := hid hW1
  have HOB := hid hob
  have HRB := hid hrb
  clear hW1 hob hrb
  have T1 := fun W hW => toIntO (.slice la p.lows.length lc) p.lows W hW l1
  have T2 := fun W hW => toBoolO (.slice ha p.high.length hc) p.high W hW l2
  have BA1 := hid bA1
  have BR1 := hid bR1
  have BO1 := hid bO1
  have HK1 := hid k1
  clear bA1 bR1 bO1 k1
  go_enter Try.func45, Try.ntmps45
  go_upto_region 4 with fail
  rw [← HW1.out, ← HOB.out, ← HRB.out]
  clear HW1 HOB HRB
  have a2 := BA1.out.2.1 2 _ rfl
  have hA := BA1.out.1
  go_wp2_with fail
  refine (T1 _ (HS.out.below HK1.out).1).mono ?_
  rintro e w2 ⟨rfl, g1, kb1⟩
  have hne1 : W1.heap.size ≠ ob := by have := BO1.out.1; omega
  have BA2 := hid ((BA1.out.below kb1).setOther (g := ob) (o := 2) (u := .slice (some ⟨W1.heap.size, 0, none⟩) p.lows.length p.lows.length) (Ne.symm d1))
  have BR2 := hid ((BR1.out.below kb1).setOther (g := ob) (o := 2) (u := .slice (some ⟨W1.heap.size, 0, none⟩) p.lows.length p.lows.length) (Ne.symm d2))
  have BO2 := hid ((BO1.out.below kb1).set 2 (.slice (some ⟨W1.heap.size, 0, none⟩) p.lows.length p.lows.length))
  have HK2 : Hid (Below w.heap.size w (w2.setCell ⟨ob, 2, none⟩ (.slice (some ⟨W1.heap.size, 0, none⟩) p.lows.length p.lows.length))) := bel_set (HK1.out.trans (kb1.mono HK1.out.size)) dO _ _
  have hne1 : W1.heap.size ≠ ob := by have := BO1.out.1; omega
  have e1 : W1.heap.size ≠ rb := by have := BR1.out.1; omega
  have HG1 := hid (g1.setOffI (b := ob) (o := 2) (v := .slice (some ⟨W1.heap.size, 0, none⟩) p.lows.length p.lows.length) hne1)
  have o0 := (BO1.out.below kb1).2.1 2 _ rfl
  have z0 := (BO1.out.below kb1).2.2 2 (by simp)
  have hO := (BO1.out.below kb1).1
  have hs1 := HK1.out.size
  have hg1 : w.heap.size ≤ W1.heap.size := hs1
  obtain ⟨G1, hG1⟩ : ∃ G1, G1 = W1.heap.size := ⟨_, rfl⟩
  rw [← hG1] at BA2 BR2 BO2 HK2 HG1 hne1 hg1 e1 ⊢
  clear g1 kb1 BA1 BR1 BO1 HK1 a2 hA hs1 T1 hG1
  go_upto_region 5 with fail
  obtain ⟨W2, hW2⟩ : ∃ W2, W2 = w2.setCell ⟨ob, 2, none⟩ (.slice (some ⟨G1, 0, none⟩) p.lows.length p.lows.length) := ⟨_, rfl⟩
  rw [← hW2] at BA2 BR2 BO2 HK2 HG1 ⊢
  clear hW2 o0 z0 hO
  have a3 := BA2.out.2.1 3 _ rfl
  have hA := BA2.out.1
  go_wp2_with fail
  refine (T2 _ (HS.out.below HK2.out).2).mono ?_
  rintro e w3 ⟨rfl, g2, kb2⟩
  have hne2 : W2.heap.size ≠ ob := by have := BO2.out.1; omega
  have e2 : W2.heap.size ≠ rb := by have := BR2.out.1; omega
  have hne3 : G1 ≠ W2.heap.size := by have := HG1.out.2.1; omega
  have BR3 := hid ((BR2.out.below kb2).setOther (g := ob) (o := 3) (u := .slice (some ⟨W2.heap.size, 0, none⟩) p.high.length p.high.length) (Ne.symm d2))
  have BO3 := hid ((BO2.out.below kb2).set 3 (.slice (some ⟨W2.heap.size, 0, none⟩) p.high.length p.high.length))
  have HK3 : Hid (Below w.heap.size w (w3.setCell ⟨ob, 3, none⟩ (.slice (some ⟨W2.heap.size, 0, none⟩) p.high.length p.high.length))) := bel_set (HK2.out.trans (kb2.mono HK2.out.size)) dO _ _
  have HP3 := hid ((HG1.out.below kb2).setOffI (b := ob) (o := 3) (v := .slice (some ⟨W2.heap.size, 0, none⟩) p.high.length p.high.length) hne1)
  have HQ3 := hid (g2.setOffI (b := ob) (o := 3) (v := .slice (some ⟨W2.heap.size, 0, none⟩) p.high.length p.high.length) hne2)
  have o0 := (BO2.out.below kb2).2.1 3 _ rfl
  have z0 := (BO2.out.below kb2).2.2 3 (by simp)
  have hO := (BO2.out.below kb2).1
  have hg2 : w.heap.size ≤ W2.heap.size := HK2.out.size
  obtain ⟨G2, hG2⟩ : ∃ G2, G2 = W2.heap.size := ⟨_, rfl⟩
  rw [← hG2] at BR3 BO3 HK3 HP3 HQ3 hne2 hne3 hg2 e2 ⊢
  clear g2 kb2 BA2 BR2 BO2 HK2 HG1 a3 hA T2 hG2
  go_upto_region 6 with fail
  obtain ⟨W3, hW3⟩ : ∃ W3, W3 = w3.setCell ⟨ob, 3, none⟩ (.slice (some ⟨G2, 0, none⟩) p.high.length p.high.length) := ⟨_, rfl⟩
  rw [← hW3] at BR3 BO3 HK3 HP3 HQ3 ⊢
  clear hW3 o0 z0 hO
  simp only [List.set_cons_zero, List.set_cons_succ] at BO3
  have o0 := BO3.out.2.1 0 _ rfl
  have o1 := BO3.out.2.1 1 _ rfl
  have o2 := BO3.out.2.1 2 _ rfl
  have o3 := BO3.out.2.1 3 _ rfl
  have hO := BO3.out.1
  have r0 := BR3.out.2.1 0 _ rfl
  have r1 := BR3.out.2.1 1 _ rfl
  have r2 := BR3.out.2.1 2 _ rfl
  have r3 := BR3.out.2.1 3 _ rfl
  have y0 := BR3.out.2.2 0 (by simp)
  have y1 := BR3.out.2.2 1 (by simp)
  have y2 := BR3.out.2.2 2 (by simp)
  have y3 := BR3.out.2.2 3 (by simp)
  have hR := BR3.out.1
  go_wp2_with fail
  have c1 := BR3.out.set 0 (.int .i64 M)
  have c2 := c1.set 1 (.int .i64 L)
  have c3 := c2.set 2 (.slice (some ⟨G1, 0, none⟩) p.lows.length p.lows.length)
  have c4 := c3.set 3 (.slice (some ⟨G2, 0, none⟩) p.high.length p.high.length)
  have x0 := c4.2.1 0 _ rfl
  have x1 := c4.2.1 1 _ rfl
  have x2 := c4.2.1 2 _ rfl
  have x3 := c4.2.1 3 _ rfl
  clear r0 r1 r2 r3 y0 y1 y2 y3 c1 c2 c3 c4
  (try simp only [Exit.inBlock, Exit.then])
  refine bodyPost_ret (v := .agg #[.int .i64 M, .int .i64 L, .slice (some ⟨G1, 0, none⟩) p.lows.length p.lows.length, .slice (some ⟨G2, 0, none⟩) p.high.length p.high.length]) ?r rfl ?_
  case r => simp [x0, x1, x2, x3, results, Try.results45, go_sem]; try rfl
  exact ⟨_, _, rfl, ⟨(((HP3.out.setOffI e1).setOffI e1).setOffI e1).setOffI e1 |>.mono' hg1, ((((HQ3.out.setOffI e2).setOffI e2).setOffI e2).setOffI e2).mono' hg2, hne3⟩, bel_set (bel_set (bel_set (bel_set HK3.out dr _ _) dr _ _) dr _ _) dr _ _⟩
/-- How much there is of a packed list. -/
def amountP (p : Pk) : Nat := p.lows.length + p.high.length
set_option maxHeartbeats 1600000 in
theorem szPkYes (p : Pk) (la ha : Option Addr) (lc hc : Nat) (M L : Int) (z : Nat) (w : World) (hz : z ≤ 1048576) (m1 : p.lows.length ≤ maxLen) (m2 : p.high.length ≤ maxLen) (h : amountP p ≤ z) :
    Calls Try.prog 43 #[.agg #[.int .i64 M, .int .i64 L, .slice la p.lows.length lc, .slice ha p.high.length hc], .int .i64 z] w fun e w' => e = .returned (.int .i64 ((z - amountP p : Nat) : Int)) ∧ Below w.heap.size w w' := by
  unfold amountP at h ⊢
  have G1 := fun W => szIntO la p.lows.length lc z W hz m1
  have G2 := fun W => szBoolO ha p.high.length hc (z - p.lows.length) W (by omega) m2
  rw [if_pos (by omega)] at G1 G2
  rw [show z - (p.lows.length + p.high.length) = z - p.lows.length - p.high.length by omega]
  clear h m1 m2
  generalize z - p.lows.length = y at *
  generalize y - p.high.length = x at *
  have hy : ¬ (y : Int) < 0 := by omega
  have hx : ¬ (x : Int) < 0 := by omega
  go_enter Try.func43, Try.ntmps43
  go_wp2_with fail
  refine (G1 _).mono ?_
  rintro e w1 ⟨rfl, rfl⟩
  go_wp2_with fail
  refine (G2 _).mono ?_
  rintro e w2 ⟨rfl, rfl⟩
  clear G1 G2
  go_wp2
  go_returns
  exact ⟨rfl, by go_grown⟩
set_option maxHeartbeats 1600000 in
theorem szPkNo (p : Pk) (la ha : Option Addr) (lc hc : Nat) (M L : Int) (z : Nat) (w : World) (hz : z ≤ 1048576) (m1 : p.lows.length ≤ maxLen) (m2 : p.high.length ≤ maxLen) (h : z < amountP p) :
    Calls Try.prog 43 #[.agg #[.int .i64 M, .int .i64 L, .slice la p.lows.length lc, .slice ha p.high.length hc], .int .i64 z] w fun e w' => e = .returned (.int .i64 (-1)) ∧ Below w.heap.size w w' := by
  unfold amountP at h
  have G1 := fun W => szIntO la p.lows.length lc z W hz m1
  by_cases h1 : z < p.lows.length
  · rw [if_neg (by omega)] at G1
    clear h m1 m2
    go_enter Try.func43, Try.ntmps43
    go_wp2_with fail
    refine (G1 _).mono ?_
    rintro e w1 ⟨rfl, rfl⟩
    clear G1
    go_wp2
    go_returns
    exact ⟨rfl, by go_grown⟩
  · have G2 := fun W => szBoolO ha p.high.length hc (z - p.lows.length) W (by omega) m2
    rw [if_pos (by omega)] at G1
    rw [if_neg (by omega)] at G2
    clear h m1 m2
    generalize z - p.lows.length = y at *
    have hy : ¬ (y : Int) < 0 := by omega
    go_enter Try.func43, Try.ntmps43
    go_wp2_with fail
    refine (G1 _).mono ?_
    rintro e w1 ⟨rfl, rfl⟩
    go_wp2_with fail
    refine (G2 _).mono ?_
    rintro e w2 ⟨rfl, rfl⟩
    clear G1 G2
    go_wp2
    go_returns
    exact ⟨rfl, by go_grown⟩
set_option maxHeartbeats 1600000 in
theorem eqPk (p : Pk) (lv hv ku vu : Value) (w : World) (h : PkAt w lv hv p) (g : PkAt w ku vu p) (l1 : p.lows.length ≤ 1048576) (l2 : p.high.length ≤ 1048576) :
    Calls Try.prog 38 #[.agg #[.int .i64 p.many, .int .i64 p.low, lv, hv], .agg #[.int .i64 p.many, .int .i64 p.low, ku, vu]] w fun e w' => e = .returned (.bool true) ∧ Below w.heap.size w w' := by
  have H1 := hid h
  have H2 := hid g
  have hn1 : (p.many != p.many) = false := by simp
  have hn2 : (p.low != p.low) = false := by simp
  obtain ⟨M, hM⟩ : ∃ M, M = p.many := ⟨_, rfl⟩
  obtain ⟨L, hL⟩ : ∃ L, L = p.low := ⟨_, rfl⟩
  rw [← hM] at hn1 ⊢
  rw [← hL] at hn2 ⊢
  clear h g hM hL
  go_enter Try.func38, Try.ntmps38
  go_wp2_with fail
  refine (eqIntB lv ku p.lows p.lows _ (H1.out.1.below (by go_grown)) (H2.out.1.below (by go_grown)) l1 l1 rfl).mono ?_
  rintro e w1 ⟨rfl, hb1⟩
  obtain ⟨hc1, hf1⟩ := bcell hb1
  have hz1 := hb1.size
  try simp only [World.size_drew] at hz1
  try simp only [World.size_setCell] at hz1
  try simp only [World.size_alloc] at hz1
  have hz1_0 : w.heap.size < w1.heap.size := by omega
  have hz1_1 : w.heap.size + 1 < w1.heap.size := by omega
  clear hz1
  have k1 : Below w.heap.size w w1 := by
    refine Below.trans ?_ (hb1.mono ?_)
    · go_grown
    · go_size
  have hl1 : w.heap.size ≤ w1.heap.size := k1.size
  clear hb1
  go_wp2_with fail
  refine (eqBoolB hv vu p.high p.high _ (H1.out.2.below (by go_grown)) (H2.out.2.below (by go_grown)) l2 l2 rfl).mono ?_
  rintro e w2 ⟨rfl, hb2⟩
  obtain ⟨hc2, hf2⟩ := bcell hb2
  have hz2 := hb2.size
  try simp only [World.size_drew] at hz2
  try simp only [World.size_setCell] at hz2
  try simp only [World.size_alloc] at hz2
  have hz2_0 : w.heap.size < w2.heap.size := by omega
  have hz2_1 : w.heap.size + 1 < w2.heap.size := by omega
  try have hy2_1 : w1.heap.size < w2.heap.size := (by omega)
  clear hz2
  have k2 : Below w.heap.size w w2 := by
    refine Below.trans ?_ (hb2.mono ?_)
    · go_grown
    · go_size
  have hl2 : w.heap.size ≤ w2.heap.size := k2.size
  clear hb2
  go_wp2
  go_returns
  exact ⟨rfl, by go_grown⟩
end Go.Proofs.Ytaafdcghafbfhaa
