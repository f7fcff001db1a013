/- Contracts of the laws' copies of lists, that tell where a copy lies; what the laws ask of trees. Condition: lists lie in memory. -/
import Derived.Test.YtgjcegmjhkehnaaDoorPgs
import Derived.Test.YtgjcegmjhkehnaaDoorShn
import Derived.Test.YtgjcegmjhkehnaaDoorSzT
import Derived.Test.YtgjcegmjhkehnaaDoorOwnV
import Derived.Laws.OwnMore
namespace Go.Proofs.YtgjcegmjhkehnaaDoor
open Go.ChangeShapes Go.WideShapes Go.ChangeAt Go.RowKit Go.Deep
set_option linter.unusedVariables false
attribute [local go_sem ↓] Go.wp_at_zero Go.wp_at_succ

set_option maxHeartbeats 1600000 in
theorem toStrR (v : Value) (ss : List ByteArray) (w : World) (h : StrsAt w v ss) (hlen : ss.length ≤ 1048576) :
    Calls Tryd.prog 130 #[v] w fun e w' => e = .returned (.slice (some ⟨w.heap.size, 0, none⟩) ss.length ss.length) ∧ StrsAt w' (.slice (some ⟨w.heap.size, 0, none⟩) ss.length ss.length) ss ∧ Below w.heap.size w w' := by
  have hmk := fun w => run_make_row' (P := Tryd.prog) 26 9 (.string ByteArray.empty) 16 Tryd.underlying26 (by kernel_rfl) rfl .i64 .i64 ss.length (by omega) (by omega) w
  rcases h with ⟨a0, c0, rfl, rfl⟩ | ⟨b, off, cap, rfl, hb, hcell⟩
  · have hmk0 : ∀ w, (Instr.makeSlice 26 (.int .i64 0) (.int .i64 0)).run Tryd.prog w = .ok (.slice (some ⟨w.heap.size, 0, none⟩) 0 0) (w.alloc (.cells #[] 9)) := fun w => by
      have := hmk w
      simp only [List.length_nil] at this
      rw [Array.eq_empty_of_size_eq_zero (size_madeCells _ _)] at this
      simpa using this
    clear hmk
    go_enter Tryd.func130, Tryd.ntmps130
    go_wp2
    go_loop [4] (fun i => i = .int .i64 0) (fun _ => 0)
    case atStart => rfl
    case round =>
      subst hrel
      go_wp2
      go_ret
      exact ⟨rfl, .inr ⟨_, _, _, rfl, by simp, fun i hi => by simp at hi⟩, by go_grown⟩
  · have HC : Hid (∀ i, i < ss.length → w.cell? ⟨b, off + i, none⟩ = some (.string (ss.getD i ByteArray.empty))) := hcell
    clear hcell
    have hne : b ≠ w.heap.size := by omega
    go_enter Tryd.func130, Tryd.ntmps130
    go_wp2
    go_loopw [4] (fun i wr => ∃ k : Nat, k ≤ ss.length ∧ i = .int .i64 k ∧ wr = w.alloc (.cells (fill ss k) 9)) (fun i _ => ss.length - (intOf i).toNat)
    case atStart => exact ⟨0, Nat.zero_le _, rfl, rfl⟩
    case round =>
      obtain ⟨k, hk, rfl, rfl⟩ := hrel
      by_cases hlt : k < ss.length
      · have hc := HC.out k hlt
        have hfs := fill_size ss k
        have hsrc : ∀ C, (w.alloc C).cell? ⟨b, off + k, none⟩ = some (.string (ss.getD k ByteArray.empty)) := fun C => by
          rw [((Below.refl w.heap.size w).alloc (Nat.le_refl _) C).cell (p := ⟨b, off + k, none⟩) hb]; exact hc
        go_wp2
        exact ⟨⟨k + 1, by omega, by go_num, by simp [fill, List.getD, hlt]⟩, by simp [intOf]; omega⟩
      · have hke : k = ss.length := by omega
        subst hke
        go_wp2
        go_ret
        refine ⟨rfl, .inr ⟨_, _, _, rfl, by simp, fun i hi => ?_⟩, by go_grown⟩
        have := fill_at ss ss.length i hi hi
        simp [World.cell?_alloc_new, this]
set_option maxHeartbeats 1600000 in
theorem toIntR (v : Value) (zs : List Int) (w : World) (h : IntsAt w v zs) (hlen : zs.length ≤ 1048576) :
    Calls Tryd.prog 94 #[v] w fun e w' => e = .returned (.slice (some ⟨w.heap.size, 0, none⟩) zs.length zs.length) ∧ IntsAt w' (.slice (some ⟨w.heap.size, 0, none⟩) zs.length zs.length) zs ∧ Below w.heap.size w w' := by
  have hmk := fun w => run_make_row' (P := Tryd.prog) 60 3 (.int .i64 0) 8 Tryd.underlying60 (by kernel_rfl) rfl .i64 .i64 zs.length (by omega) (by omega) w
  rcases h with ⟨a0, c0, rfl, rfl⟩ | ⟨b, off, cap, rfl, hb, hcell⟩
  · have hmk0 : ∀ w, (Instr.makeSlice 60 (.int .i64 0) (.int .i64 0)).run Tryd.prog w = .ok (.slice (some ⟨w.heap.size, 0, none⟩) 0 0) (w.alloc (.cells #[] 3)) := fun w => by
      have := hmk w
      simp only [List.length_nil] at this
      rw [Array.eq_empty_of_size_eq_zero (size_madeCells _ _)] at this
      simpa using this
    clear hmk
    go_enter Tryd.func94, Tryd.ntmps94
    go_wp2
    go_loop [4] (fun i => i = .int .i64 0) (fun _ => 0)
    case atStart => rfl
    case round =>
      subst hrel
      go_wp2
      go_ret
      exact ⟨rfl, .inr ⟨_, _, _, rfl, by simp, fun i hi => by simp at hi⟩, by go_grown⟩
  · have HC : Hid (∀ i, i < zs.length → w.cell? ⟨b, off + i, none⟩ = some (.int .i64 (zs.getD i 0))) := hcell
    clear hcell
    have hne : b ≠ w.heap.size := by omega
    go_enter Tryd.func94, Tryd.ntmps94
    go_wp2
    go_loopw [4] (fun i wr => ∃ k : Nat, k ≤ zs.length ∧ i = .int .i64 k ∧ wr = w.alloc (.cells (fillZ zs k) 3)) (fun i _ => zs.length - (intOf i).toNat)
    case atStart => exact ⟨0, Nat.zero_le _, rfl, rfl⟩
    case round =>
      obtain ⟨k, hk, rfl, rfl⟩ := hrel
      by_cases hlt : k < zs.length
      · have hc := HC.out k hlt
        have hfs := fillZ_size zs k
        have hsrc : ∀ C, (w.alloc C).cell? ⟨b, off + k, none⟩ = some (.int .i64 (zs.getD k 0)) := fun C => by
          rw [((Below.refl w.heap.size w).alloc (Nat.le_refl _) C).cell (p := ⟨b, off + k, none⟩) hb]; exact hc
        go_wp2
        exact ⟨⟨k + 1, by omega, by go_num, by simp [fillZ, List.getD, hlt]⟩, by simp [intOf]; omega⟩
      · have hke : k = zs.length := by omega
        subst hke
        go_wp2
        go_ret
        refine ⟨rfl, .inr ⟨_, _, _, rfl, by simp, fun i hi => ?_⟩, by go_grown⟩
        have := fillZ_at zs zs.length i hi hi
        simp [World.cell?_alloc_new, this]
theorem szInt (v : Value) (zs : List Int) (z : Nat) (w : World) (h : IntsAt w v zs) (hz : z ≤ 1048576) (hlen : zs.length ≤ maxLen) :
    Calls Tryd.prog 90 #[v, .int .i64 z] w fun e w' => e = .returned (.int .i64 (if zs.length ≤ z then ((z - zs.length : Nat) : Int) else -1)) ∧ w' = w := by
  unfold maxLen at hlen
  have hv : ∃ a c, v = .slice a zs.length c := by
    rcases h with ⟨a, c, rfl, rfl⟩ | ⟨b, off, cap, rfl, _, _⟩ <;> exact ⟨_, _, rfl⟩
  obtain ⟨a, c, rfl⟩ := hv
  clear h
  by_cases h1 : zs.length ≤ z
  · rw [if_pos h1]
    have h2 : ¬ (z : Int) - (zs.length : Int) < 0 := by omega
    have h3 : ((z - zs.length : Nat) : Int) = (z : Int) - (zs.length : Int) := by omega
    rw [h3]
    clear h3
    go_enter Tryd.func90, Tryd.ntmps90
    go_wp2
    go_ret
    exact ⟨rfl, rfl⟩
  · rw [if_neg h1]
    have h2 : (z : Int) - (zs.length : Int) < 0 := by omega
    go_enter Tryd.func90, Tryd.ntmps90
    go_wp2
    go_ret
    exact ⟨rfl, rfl⟩
/-- A page that is read, whatever its rows' room. -/
def LPg (w : World) (kv vv cv : Value) (p : Pg) : Prop := StrsAt w kv p.keys ∧ StrsAt w vv p.vals ∧ IntsAt w cv p.kids
theorem LPg.below {w w' : World} {kv vv cv : Value} {p : Pg} (h : LPg w kv vv cv p) (hb : Below w.heap.size w w') : LPg w' kv vv cv p := ⟨h.1.below hb, h.2.1.below hb, h.2.2.below hb⟩
def LPgAt (w : World) (b o : Nat) (p : Pg) : Prop := ∃ kv vv cv, w.cell? ⟨b, o, none⟩ = some kv ∧ w.cell? ⟨b, o + 1, none⟩ = some vv ∧ w.cell? ⟨b, o + 2, none⟩ = some cv ∧ LPg w kv vv cv p
theorem LPgAt.below {w w' : World} {b o : Nat} {p : Pg} (h : LPgAt w b o p) (hl : b < w.heap.size) (hb : Below w.heap.size w w') : LPgAt w' b o p := by
  obtain ⟨kv, vv, cv, h1, h2, h3, h4⟩ := h
  exact ⟨kv, vv, cv, (hb.cell (p := ⟨b, o, none⟩) hl).trans h1, (hb.cell (p := ⟨b, o + 1, none⟩) hl).trans h2, (hb.cell (p := ⟨b, o + 2, none⟩) hl).trans h3, h4.below hb⟩
def LPgsAt (w : World) (x : Value) (pages : List Pg) : Prop :=
  (∃ a c, x = .slice a 0 c ∧ pages = []) ∨ ∃ b off cap, x = .slice (some ⟨b, off, none⟩) pages.length cap ∧ b < w.heap.size ∧ ∀ i, i < pages.length → LPgAt w b (off + i * 3) (pages.getD i default)
theorem LPgsAt.below {w w' : World} {x : Value} {ps : List Pg} (h : LPgsAt w x ps) (hb : Below w.heap.size w w') : LPgsAt w' x ps := by
  rcases h with h | ⟨b, off, cap, h1, h2, h3⟩
  · exact .inl h
  · exact .inr ⟨b, off, cap, h1, Nat.lt_of_lt_of_le h2 hb.size, fun i hi => (h3 i hi).below h2 hb⟩
theorem LPgsAt.slice {w : World} {x : Value} {ps : List Pg} (h : LPgsAt w x ps) : ∃ a c, x = .slice a ps.length c := by
  rcases h with ⟨a, c, rfl, rfl⟩ | ⟨b, off, cap, rfl, _⟩
  · exact ⟨a, c, rfl⟩
  · exact ⟨_, cap, rfl⟩
theorem PgsAt.read {w : World} {x : Value} {ps : List Pg} (h : PgsAt w x ps) : LPgsAt w x ps := by
  rcases h with h | ⟨b, off, cap, h1, h2, h3⟩
  · exact .inl h
  · refine .inr ⟨b, off, cap, h1, h2, fun i hi => ?_⟩
    obtain ⟨kv, vv, cv, g1, g2, g3, g4, g5, g6⟩ := h3 i hi
    exact ⟨kv, vv, cv, g1, g2, g3, strs_of_rows g4, strs_of_rows g5, ints_of_rows g6⟩
theorem ints_len {w : World} {v : Value} {zs : List Int} (h : IntsAt w v zs) : ∃ a c, v = .slice a zs.length c := by
  rcases h with ⟨a0, c0, h1, rfl⟩ | ⟨b, off, cap, h1, h2, h3⟩
  · exact ⟨_, _, h1⟩
  · exact ⟨_, _, h1⟩
/-- How much there is of a page. -/
def amtP (p : Pg) : Nat := (p.keys.length + sumS p.keys) + (p.vals.length + sumS p.vals) + p.kids.length
/-- What the laws' own reach lets through. -/
def RePg (p : Pg) : Prop := (p.keys.length ≤ maxLen ∧ p.vals.length ≤ maxLen ∧ p.kids.length ≤ maxLen) ∧ (∀ s ∈ p.keys, s.size ≤ maxLen) ∧ ∀ s ∈ p.vals, s.size ≤ maxLen
def amtR (z : Nat) (p : Pg) : Int := if amtP p ≤ z then ((z - amtP p : Nat) : Int) else -1
set_option maxHeartbeats 3200000 in
theorem szPg (p : Pg) (kv vv cv : Value) (z : Nat) (w : World) (h : LPg w kv vv cv p) (hz : z ≤ 1048576) (hm : RePg p) :
    Calls Tryd.prog 117 #[.agg #[kv, vv, cv], .int .i64 z] w fun e w' => e = .returned (.int .i64 (amtR z p)) ∧ Below w.heap.size w w' := by
  obtain ⟨⟨m1, m2, m3⟩, s1, s2⟩ := hm
  have H1 : Hid (StrsAt w kv p.keys) := h.1
  have H2 : Hid (StrsAt w vv p.vals) := h.2.1
  have H3 : Hid (IntsAt w cv p.kids) := h.2.2
  have G1 := fun W hW => szStrK kv p.keys z W hW hz m1 s1
  by_cases h1 : z < p.keys.length + sumS p.keys
  · rw [szRK_neg h1] at G1
    have HR : Hid (amtR z p = -1) := by show _ = _; unfold amtR amtP; rw [if_neg (by omega)]
    clear h m1 m2 m3 s1 s2 h1
    go_enter Tryd.func117, Tryd.ntmps117
    go_wp2_with fail
    refine (G1 _ (H1.out.below (by go_grown))).mono ?_
    rintro e w1 ⟨rfl, rfl⟩
    clear G1
    go_wp2
    go_returns
    exact ⟨by rw [HR.out]; rfl, by go_grown⟩
  · have G2 := fun W hW => szStrK vv p.vals (z - (p.keys.length + sumS p.keys)) W hW (by omega) m2 s2
    rw [szRK_pos (by omega)] at G1
    by_cases h2 : z - (p.keys.length + sumS p.keys) < p.vals.length + sumS p.vals
    · rw [szRK_neg h2] at G2
      have HR : Hid (amtR z p = -1) := by show _ = _; unfold amtR amtP; rw [if_neg (by omega)]
      clear h m1 m2 m3 s1 s2 h1 h2
      generalize z - (p.keys.length + sumS p.keys) = y at *
      have hy : ¬ (y : Int) < 0 := by omega
      go_enter Tryd.func117, Tryd.ntmps117
      go_wp2_with fail
      refine (G1 _ (H1.out.below (by go_grown))).mono ?_
      rintro e w1 ⟨rfl, rfl⟩
      go_wp2_with fail
      refine (G2 _ (H2.out.below (by go_grown))).mono ?_
      rintro e w2 ⟨rfl, rfl⟩
      clear G1 G2
      go_wp2
      go_returns
      exact ⟨by rw [HR.out]; rfl, by go_grown⟩
    · have G3 := fun W hW => szInt cv p.kids (z - (p.keys.length + sumS p.keys) - (p.vals.length + sumS p.vals)) W hW (by omega) m3
      rw [szRK_pos (by omega)] at G2
      by_cases h3 : p.kids.length ≤ z - (p.keys.length + sumS p.keys) - (p.vals.length + sumS p.vals)
      · rw [if_pos h3] at G3
        have HR : Hid (amtR z p = ((z - (p.keys.length + sumS p.keys) - (p.vals.length + sumS p.vals) - p.kids.length : Nat) : Int)) := by show _ = _; unfold amtR amtP; rw [if_pos (by omega)]; omega
        clear h m1 m2 m3 s1 s2 h1 h2 h3
        generalize z - (p.keys.length + sumS p.keys) = y at *
        generalize y - (p.vals.length + sumS p.vals) = x at *
        generalize x - p.kids.length = u at *
        have hy : ¬ (y : Int) < 0 := by omega
        have hx : ¬ (x : Int) < 0 := by omega
        have hu : ¬ (u : Int) < 0 := by omega
        go_enter Tryd.func117, Tryd.ntmps117
        go_wp2_with fail
        refine (G1 _ (H1.out.below (by go_grown))).mono ?_
        rintro e w1 ⟨rfl, rfl⟩
        go_wp2_with fail
        refine (G2 _ (H2.out.below (by go_grown))).mono ?_
        rintro e w2 ⟨rfl, rfl⟩
        go_wp2_with fail
        refine (G3 _ (H3.out.below (by go_grown))).mono ?_
        rintro e w3 ⟨rfl, rfl⟩
        clear G1 G2 G3
        go_wp2
        go_returns
        exact ⟨by rw [HR.out]; rfl, by go_grown⟩
      · rw [if_neg h3] at G3
        have HR : Hid (amtR z p = -1) := by show _ = _; unfold amtR amtP; rw [if_neg (by omega)]
        clear h m1 m2 m3 s1 s2 h1 h2 h3
        generalize z - (p.keys.length + sumS p.keys) = y at *
        generalize y - (p.vals.length + sumS p.vals) = x at *
        have hy : ¬ (y : Int) < 0 := by omega
        have hx : ¬ (x : Int) < 0 := by omega
        go_enter Tryd.func117, Tryd.ntmps117
        go_wp2_with fail
        refine (G1 _ (H1.out.below (by go_grown))).mono ?_
        rintro e w1 ⟨rfl, rfl⟩
        go_wp2_with fail
        refine (G2 _ (H2.out.below (by go_grown))).mono ?_
        rintro e w2 ⟨rfl, rfl⟩
        go_wp2_with fail
        refine (G3 _ (H3.out.below (by go_grown))).mono ?_
        rintro e w3 ⟨rfl, rfl⟩
        clear G1 G2 G3
        go_wp2
        go_returns
        exact ⟨by rw [HR.out]; rfl, by go_grown⟩
set_option maxHeartbeats 1600000 in
theorem eqPg (p : Pg) (kv vv cv ku vu cu : Value) (w : World) (h : LPg w kv vv cv p) (g : LPg w ku vu cu p) (hs : p.keys.length ≤ 1048576 ∧ p.vals.length ≤ 1048576 ∧ p.kids.length ≤ 1048576) :
    Calls Tryd.prog 124 #[.agg #[kv, vv, cv], .agg #[ku, vu, cu]] w fun e w' => e = .returned (.bool true) ∧ Below w.heap.size w w' := by
  have H1 := hid h
  have H2 := hid g
  obtain ⟨l1, l2, l3⟩ := hs
  clear h g
  go_enter Tryd.func124, Tryd.ntmps124
  go_wp2_with fail
  refine (eqStr kv ku p.keys _ (H1.out.1.below (by go_grown)) (H2.out.1.below (by go_grown)) l1).mono ?_
  rintro e w1 ⟨rfl, hb1⟩
  obtain ⟨hc1, hf1⟩ := bcell hb1
  have hz1 := hb1.size
  try simp only [World.size_drew] at hz1
  try simp only [World.size_setCell] at hz1
  try simp only [World.size_alloc] at hz1
  have hz1_0 : w.heap.size < w1.heap.size := by omega
  have hz1_1 : w.heap.size + 1 < w1.heap.size := by omega
  clear hz1
  have k1 : Below w.heap.size w w1 := by
    refine Below.trans ?_ (hb1.mono ?_)
    · go_grown
    · go_size
  have hl1 : w.heap.size ≤ w1.heap.size := k1.size
  clear hb1
  go_wp2_with fail
  refine (eqStr vv vu p.vals _ (H1.out.2.1.below (by go_grown)) (H2.out.2.1.below (by go_grown)) l2).mono ?_
  rintro e w2 ⟨rfl, hb2⟩
  obtain ⟨hc2, hf2⟩ := bcell hb2
  have hz2 := hb2.size
  try simp only [World.size_drew] at hz2
  try simp only [World.size_setCell] at hz2
  try simp only [World.size_alloc] at hz2
  have hz2_0 : w.heap.size < w2.heap.size := by omega
  have hz2_1 : w.heap.size + 1 < w2.heap.size := by omega
  try have hy2_1 : w1.heap.size < w2.heap.size := (by omega)
  clear hz2
  have k2 : Below w.heap.size w w2 := by
    refine Below.trans ?_ (hb2.mono ?_)
    · go_grown
    · go_size
  have hl2 : w.heap.size ≤ w2.heap.size := k2.size
  clear hb2
  go_wp2_with fail
  refine (eqInt cv cu p.kids _ (H1.out.2.2.below (by go_grown)) (H2.out.2.2.below (by go_grown)) l3).mono ?_
  rintro e w3 ⟨rfl, hb3⟩
  obtain ⟨hc3, hf3⟩ := bcell hb3
  have hz3 := hb3.size
  try simp only [World.size_drew] at hz3
  try simp only [World.size_setCell] at hz3
  try simp only [World.size_alloc] at hz3
  have hz3_0 : w.heap.size < w3.heap.size := by omega
  have hz3_1 : w.heap.size + 1 < w3.heap.size := by omega
  try have hy3_1 : w1.heap.size < w3.heap.size := (by omega)
  try have hy3_2 : w2.heap.size < w3.heap.size := (by omega)
  clear hz3
  have k3 : Below w.heap.size w w3 := by
    refine Below.trans ?_ (hb3.mono ?_)
    · go_grown
    · go_size
  have hl3 : w.heap.size ≤ w3.heap.size := k3.size
  clear hb3
  go_wp2
  go_returns
  exact ⟨rfl, by go_grown⟩
end Go.Proofs.YtgjcegmjhkehnaaDoor
