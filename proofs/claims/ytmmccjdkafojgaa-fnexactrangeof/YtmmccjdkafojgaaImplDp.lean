/- Contracts of the program's depth of a tree. Condition: the pages lie in memory. -/
import Derived.Test.YtmmccjdkafojgaaImplT
namespace Go.Proofs.Ytmmccjdkafojgaa
open Go.ChangeShapes Go.WideShapes Go.ChangeAt Go.RowKit Go.Deep
set_option linter.unusedVariables false
attribute [local go_sem ↓] Go.wp_at_zero Go.wp_at_succ

/-- A kid of a node, where it lies. -/
theorem NodeP.kid {P : Nat → Prop} {w : World} {p : List Pr} {kids : List Nd} {kv vv cv : Value} (h : NodeP P w (.mk p kids) kv vv cv) {i : Nat} (hi : i < kids.length) :
    ∃ b off c x y z, cv = .slice (some ⟨b, off, none⟩) kids.length c ∧ b < w.heap.size ∧ w.cell? ⟨b, off + i * 3, none⟩ = some x ∧ w.cell? ⟨b, off + i * 3 + 1, none⟩ = some y ∧ w.cell? ⟨b, off + i * 3 + 2, none⟩ = some z ∧ NodeP P w (kids.getD i default) x y z := by
  obtain ⟨_, _, xs, hr, hn⟩ := h
  obtain ⟨⟨hl, ao, c, rfl, _, _, hc⟩, _⟩ := hr
  rcases hc with hc | ⟨b, off, rfl, hb, hcell⟩
  · omega
  · obtain ⟨x, y, z, h1, h2, h3, h4⟩ := hn.get i hi
    exact ⟨b, off, c, x, y, z, rfl, hb, hcell _ _ h1, by rw [Nat.add_assoc]; exact hcell _ _ h2, by rw [Nat.add_assoc]; exact hcell _ _ h3, h4⟩
theorem shape_kid {p : List Pr} {kids : List Nd} (h : Shape (.mk p kids)) {i : Nat} (hi : i < kids.length) : Shape (kids.getD i default) := by
  cases h with
  | mk _ _ _ _ hk => exact hk _ (by simp [List.getD, hi])
theorem shape_kids {t : Nd} (h : Shape t) : t.kids.length ≤ 5 ∧ t.prs.length ≤ 4 := by
  cases h with
  | mk p kids h4 hk _ =>
    simp only [Nd.kids, Nd.prs]
    refine ⟨?_, h4⟩
    rcases hk with rfl | hk
    · simp
    · omega
set_option maxHeartbeats 3200000 in
theorem implDepth : ∀ (d : Nat), d ≤ 1000 → ∀ (t : Nd) (kv vv cv : Value) (w : World), Even d t → Shape t → NodeP (fun _ => True) w t kv vv cv →
    Calls Try.prog 87 #[.agg #[kv, vv, cv]] w fun e w' => e = .returned (.int .i64 d) ∧ Below w.heap.size w w' := by
  intro d
  induction d with
  | zero => intro _ t kv vv cv w h; exact h.elim
  | succ d ih =>
    intro hd t kv vv cv w he hsh hn
    obtain ⟨a1, k1, a2, k2, a3, k3, rfl, rfl, rfl⟩ := hn.slices
    have hk5 := (shape_kids hsh).1
    cases t with
    | mk p kids =>
      simp only [Nd.prs, Nd.kids] at hn hk5 ⊢
      have HL := fun W => implLeaf a1 a2 a3 p.length p.length kids.length k1 k2 k3 W (by omega)
      by_cases h0 : kids.length = 0
      · have hd0 : d = 0 := by
          cases d with
          | zero => rfl
          | succ e => exact absurd (List.eq_nil_of_length_eq_zero h0) he.1
        subst hd0
        rw [decide_eq_true h0] at HL
        clear ih he hsh hn h0
        go_enter Try.func87, Try.ntmps87
        go_wp2_with fail
        refine (HL _).mono ?_
        rintro e w1 ⟨rfl, hb1⟩
        obtain ⟨hc1, hf1⟩ := bcell hb1
        have hz1 := hb1.size
        try simp only [World.size_drew] at hz1
        try simp only [World.size_setCell] at hz1
        try simp only [World.size_alloc] at hz1
        have hz1_0 : w.heap.size < w1.heap.size := by omega
        clear hz1
        have k1 : Below w.heap.size w w1 := by
          refine Below.trans ?_ (hb1.mono ?_)
          · go_grown
          · go_size
        have hl1 : w.heap.size ≤ w1.heap.size := k1.size
        clear hb1
        go_wp2
        go_returns
        exact ⟨rfl, by go_grown⟩
      · obtain ⟨e, rfl⟩ : ∃ e, d = e + 1 := by
          cases d with
          | zero => exact absurd (Even.leaf.1 he) (fun h => h0 (by have : kids = [] := h; rw [this]; rfl))
          | succ e => exact ⟨e, rfl⟩
        have hev : Even (e + 1) (kids.getD 0 default) := (he.2 _ (by simp [List.getD, (by omega : 0 < kids.length), Nd.kids])).1
        obtain ⟨b, off, c, x, y, z, hce, hb, c0, c1, c2, hnk⟩ := hn.kid (i := 0) (by omega)
        cases hce
        have hsk := shape_kid hsh (i := 0) (by omega)
        obtain ⟨K, hK⟩ : ∃ K, kids.getD 0 default = K := ⟨_, rfl⟩
        rw [hK] at hev hnk hsk
        clear hK
        have HI := fun W (hW : Below w.heap.size w W) => ih (by omega) _ _ _ _ W hev hsk (hnk.below hW)
        obtain ⟨x1, l1, x2, l2, x3, l3, rfl, rfl, rfl⟩ := hnk.slices
        rw [decide_eq_false h0] at HL
        have hki : (0 : Int) < (kids.length : Int) := by omega
        simp only [Nat.zero_mul, Nat.add_zero] at c0 c1 c2
        clear ih he hsh hn h0 hnk hev hsk
        have hbn : b ≠ w.heap.size := by omega
        have hdd : ((e + 1 + 1 : Nat) : Int) = 1 + ((e + 1 : Nat) : Int) := by omega
        rw [hdd]
        generalize (e + 1) = D at *
        have hD : (D : Int) ≤ 1000 := by omega
        go_enter Try.func87, Try.ntmps87
        go_wp2_with fail
        refine (HL _).mono ?_
        rintro e w1 ⟨rfl, hb1⟩
        obtain ⟨hc1, hf1⟩ := bcell hb1
        have hz1 := hb1.size
        try simp only [World.size_drew] at hz1
        try simp only [World.size_setCell] at hz1
        try simp only [World.size_alloc] at hz1
        have hz1_0 : w.heap.size < w1.heap.size := by omega
        clear hz1
        have k1 : Below w.heap.size w w1 := by
          refine Below.trans ?_ (hb1.mono ?_)
          · go_grown
          · go_size
        have hl1 : w.heap.size ≤ w1.heap.size := k1.size
        clear hb1
        go_wp2_with fail
        refine (HI _ k1).mono ?_
        rintro e w2 ⟨rfl, hb2⟩
        obtain ⟨hc2, hf2⟩ := bcell hb2
        have hz2 := hb2.size
        try simp only [World.size_drew] at hz2
        try simp only [World.size_setCell] at hz2
        try simp only [World.size_alloc] at hz2
        have hz2_0 : w.heap.size < w2.heap.size := by omega
        try have hy2_1 : w1.heap.size < w2.heap.size := (by omega)
        clear hz2
        have k2 : Below w.heap.size w w2 := by
          refine Below.trans ?_ (hb2.mono ?_)
          · go_grown
          · go_size
        have hl2 : w.heap.size ≤ w2.heap.size := k2.size
        clear hb2
        go_wp2
        go_returns
        exact ⟨rfl, by go_grown⟩
set_option maxHeartbeats 1600000 in
theorem implDpYes {pages : List Pg} {t : Nd} (hh : Hand pages) (ht : TreeIs pages t) (d : Nat) (hd : Even d t) (w : World) (x : Value) (hx : PgsAt w x pages) :
    Calls Try.prog 30 #[.agg #[x]] w fun e w' => e = .returned (.tuple #[.int .i64 d, .bool true]) ∧ Below w.heap.size w w' := by
  have HO := fun o => wholeYes hh ht (w.alloc o) x (hx.below (al1 w o))
  have hd3 : d ≤ 3 := good_depth ht.shape hd ht.2.2.1 ht.2.2.2.2
  have HD := hid (fun kv vv cv W => implDepth d (by omega) t kv vv cv W hd ht.shape)
  obtain ⟨a, c, rfl⟩ := hx.slice
  clear hx ht hh hd
  go_enter Try.func30, Try.ntmps30
  go_wp2_with fail
  refine (HO _).mono ?_
  rintro e w1 ⟨a1, k1, a2, k2, a3, k3, rfl, hn, hb⟩
  have kb := belA hb
  have HN := hid hn
  have HDD := HD.out _ _ _ (w1.alloc (.cells #[.slice a1 t.prs.length k1, .slice a2 t.prs.length k2, .slice a3 t.kids.length k3] 92)) (HN.out.below (al1 _ _))
  clear hb hn HO
  go_wp2_with fail
  refine HDD.mono ?_
  rintro e w2 ⟨rfl, hb2⟩
  have kb2 : Below w.heap.size w w2 := kb.trans ((belA hb2).mono kb.size)
  clear hb2 HDD HD
  go_wp2_with fail
  go_returns
  exact ⟨rfl, kb2⟩
set_option maxHeartbeats 1600000 in
theorem implDpNo {pages : List Pg} (hh : Hand pages) (ht : ∀ t, ¬ TreeIs pages t) (w : World) (x : Value) (hx : PgsAt w x pages) :
    Calls Try.prog 30 #[.agg #[x]] w fun e w' => e = .returned (.tuple #[.int .i64 0, .bool false]) ∧ Below w.heap.size w w' := by
  have HO := fun o => wholeNo hh ht (w.alloc o) x (hx.below (al1 w o))
  obtain ⟨a, c, rfl⟩ := hx.slice
  clear hx ht hh
  go_enter Try.func30, Try.ntmps30
  go_wp2_with fail
  refine (HO _).mono ?_
  rintro e w1 ⟨rfl, hb⟩
  have kb := belA hb
  clear hb HO
  go_wp2_with fail
  go_returns
  exact ⟨rfl, kb.alloc kb.size _⟩
end Go.Proofs.Ytmmccjdkafojgaa
