/- Contracts of the program's pairs: one more of them, and two lists of them one behind the other. Condition: the pairs lie in memory. -/
import Derived.Test.YtmmccjdkafojgaaListP
namespace Go.Proofs.Ytmmccjdkafojgaa
open Go.ChangeShapes Go.WideShapes Go.ChangeAt Go.RowKit Go.Deep
set_option linter.unusedVariables false
attribute [local go_sem ↓] Go.wp_at_zero Go.wp_at_succ

theorem one_keys (p : List Pr) : ∀ u ∈ keysV p, u.oneCell' = true := by
  intro u hu
  obtain ⟨q, _, rfl⟩ := List.mem_map.1 hu
  rfl
theorem one_vals (p : List Pr) : ∀ u ∈ valsV p, u.oneCell' = true := by
  intro u hu
  obtain ⟨q, _, rfl⟩ := List.mem_map.1 hu
  rfl
theorem rows_set {w : World} {x v : Value} {m g o : Nat} {xs : List Value} (h : RowsAt w 1 x m xs) (hs : ∀ u ∈ xs, ∃ s, u = .string s) (hp : ∀ s, w.cell? ⟨g, o, none⟩ ≠ some (.string s)) : RowsAt (w.setCell ⟨g, o, none⟩ v) 1 x m xs := by
  obtain ⟨h1, ao, c, rfl, h3, h4, h5⟩ := h
  refine ⟨h1, ao, c, rfl, h3, h4, ?_⟩
  rcases h5 with h5 | ⟨b, off, rfl, hl, hc⟩
  · exact .inl h5
  · refine .inr ⟨b, off, rfl, by simpa using hl, fun j u hj => ?_⟩
    obtain ⟨s, rfl⟩ := hs u (List.mem_of_getElem? hj)
    rw [World.cell?_setCell_other w ⟨g, o, none⟩ ⟨b, off + j, none⟩ _ (fun e => hp s (by rw [e]; exact hc j _ hj))]
    exact hc j _ hj
theorem str_keys (p : List Pr) : ∀ u ∈ keysV p, ∃ s, u = .string s := by
  intro u hu
  obtain ⟨q, _, rfl⟩ := List.mem_map.1 hu
  exact ⟨_, rfl⟩
theorem str_vals (p : List Pr) : ∀ u ∈ valsV p, ∃ s, u = .string s := by
  intro u hu
  obtain ⟨q, _, rfl⟩ := List.mem_map.1 hu
  exact ⟨_, rfl⟩
/-- Pairs as two rows. -/
def PrsAt (w : World) (kv vv : Value) (p : List Pr) : Prop := RowsAt w 1 kv p.length (keysV p) ∧ RowsAt w 1 vv p.length (valsV p)
theorem PrsAt.below {w w' : World} {kv vv : Value} {p : List Pr} (h : PrsAt w kv vv p) (hb : Below w.heap.size w w') : PrsAt w' kv vv p := ⟨h.1.below hb, h.2.below hb⟩
theorem PrsAt.set {w : World} {kv vv v : Value} {p : List Pr} {b i : Nat} {vs : List Value} (h : PrsAt w kv vv p) (hb : BoxAt w b vs) (hi : i < vs.length) (hn : ∀ s, vs.getD i default ≠ .string s) : PrsAt (w.setCell ⟨b, i, none⟩ v) kv vv p := by
  have hc := hb.2.1 i (vs.getD i default) (by simp [List.getD, hi])
  have hp : ∀ s, w.cell? ⟨b, i, none⟩ ≠ some (.string s) := fun s e => hn s (by rw [hc] at e; exact Option.some.inj e)
  exact ⟨rows_set h.1 (str_keys p) hp, rows_set h.2 (str_vals p) hp⟩
set_option maxHeartbeats 3200000 in
set_option maxRecDepth 100000 in
theorem pairsWith (p : List Pr) (m : Nat) (key val : ByteArray) (kv vv : Value) (w : World) (h : PrsAt w kv vv p) (hm : m ≤ p.length) (hn : p.length ≤ 50000) :
    Calls Try.prog 107 #[.agg #[kv, vv], .int .i64 m, .string key, .string val] w fun e w' => ∃ ku vu, e = .returned (.agg #[ku, vu]) ∧ PrsAt w' ku vu (p.take m ++ [(key, val)] ++ p.drop m) ∧ Below w.heap.size w w' := by
  have H := hid h
  obtain ⟨a1, k1, rfl⟩ := h.1.slice
  obtain ⟨a2, k2, rfl⟩ := h.2.slice
  have HWK := fun W (hW : Below w.heap.size w W) => withS a1 p.length k1 m key (keysV p) W (H.out.1.below hW) (one_keys p) hn hm
  have HWV := fun W (hW : Below w.heap.size w W) => withS a2 p.length k2 m val (valsV p) W (H.out.2.below hW) (one_vals p) hn hm
  have eK : (keysV p).take (m * 1) ++ [.string key] ++ (keysV p).drop (m * 1) = keysV (p.take m ++ [(key, val)] ++ p.drop m) := by simp [keysV, List.map_take, List.map_drop]
  have eV : (valsV p).take (m * 1) ++ [.string val] ++ (valsV p).drop (m * 1) = valsV (p.take m ++ [(key, val)] ++ p.drop m) := by simp [valsV, List.map_take, List.map_drop]
  have eL : p.length + 1 = (p.take m ++ [(key, val)] ++ p.drop m).length := by simp; omega
  rw [eK] at HWK
  rw [eV] at HWV
  obtain ⟨P2, hP2⟩ : ∃ P2, P2 = p.take m ++ [(key, val)] ++ p.drop m := ⟨_, rfl⟩
  rw [← hP2] at HWK HWV eL ⊢
  rw [eL] at HWK HWV
  clear h eK eV eL hP2
  obtain ⟨W0, hW0⟩ : ∃ W0, W0 = (w.alloc (.cells #[.slice a1 p.length k1, .slice a2 p.length k2] 88)).alloc (.cells #[.slice none 0 0, .slice none 0 0] 88) := ⟨_, rfl⟩
  have kb0 : Below w.heap.size w W0 := by rw [hW0]; exact ((Below.refl _ _).alloc (Nat.le_refl _) _).alloc (by simp) _
  have bA : BoxAt W0 w.heap.size [.slice a1 p.length k1, .slice a2 p.length k2] := by rw [hW0]; exact (boxNew w _ _).below (al1 _ _)
  have bR : BoxAt W0 (w.heap.size + 1) [.slice none 0 0, .slice none 0 0] := by
    rw [hW0]
    have := boxNew (w.alloc (.cells #[.slice a1 p.length k1, .slice a2 p.length k2] 88)) #[.slice none 0 0, .slice none 0 0] 88
    rwa [World.size_alloc] at this
  have hal := bA.1
  have hrl := bR.1
  have p0 := bA.2.1 0 _ rfl
  have p1 := bA.2.1 1 _ rfl
  have HBR := hid bR
  go_enter Try.func107, Try.ntmps107
  go_upto_region 1 with fail
  rw [← hW0]
  clear hW0 bA bR
  obtain ⟨rb, hrb⟩ : ∃ rb, rb = w.heap.size + 1 := ⟨_, rfl⟩
  rw [← hrb] at hrl HBR ⊢
  have hrw : w.heap.size ≤ rb := by omega
  have hrn : rb ≠ w.heap.size := by omega
  clear hrb
  have HWK0 := HWK W0.drew (kb0.trans ((Below.drew (Below.refl W0.heap.size W0)).mono kb0.size))
  have r0 := HBR.out.2.1 0 _ rfl
  have r1 := HBR.out.2.1 1 _ rfl
  have s0 := HBR.out.2.2 0 (by simp)
  have s1 := HBR.out.2.2 1 (by simp)
  go_region_held3 (fun w' => w'.cell? ⟨w.heap.size, 0, none⟩ = some (.slice a1 p.length k1) ∧ w'.cell? ⟨w.heap.size, 1, none⟩ = some (.slice a2 p.length k2)) (first | go_keep | trivial)
    (first
      | (go_at_call_of 141 (Value.slice a1 p.length k1); refine HWK0.mono ?_; rintro e wK ⟨vK, aK, cK, rfl, hvK, hoK, bK⟩; subst hvK; have dK : Below W0.heap.size W0 wK := (by exact Below.trans (Below.drew (Below.refl _ _)) (bK.mono (by simp))); have HWV0 := HWV wK (Below.trans kb0 (dK.mono kb0.size)); have q0 := (dK.cell (p := ⟨w.heap.size, 0, none⟩) hal).trans p0; have q1 := (dK.cell (p := ⟨w.heap.size, 1, none⟩) hal).trans p1; have lK := dK.size; clear bK)
      | (go_at_call_of 141 (Value.slice a2 p.length k2); refine HWV0.mono ?_; rintro e wV ⟨vV, aV, cV, rfl, hvV, hoV, bV⟩; subst hvV; have dV : Below W0.heap.size W0 wV := (by exact belT dK bV lK); have x0 := (dV.cell (p := ⟨w.heap.size, 0, none⟩) hal).trans p0; have x1 := (dV.cell (p := ⟨w.heap.size, 1, none⟩) hal).trans p1; have lV := dV.size; have brV := HBR.out.below dV; have t0 := brV.2.1 0 _ rfl; have t1 := brV.2.1 1 _ rfl; have u0 := brV.2.2 0 (by simp); have u1 := brV.2.2 1 (by simp); have hrv := brV.1))
  all_goals
    have HP := hid (show PrsAt wV (.slice aK P2.length cK) (.slice aV P2.length cV) P2 from ⟨hoK.below (belT (Below.refl _ _) bV (Nat.le_refl _)), hoV⟩)
    have c1 := brV.set 0 (.slice aK P2.length cK)
    have c2 := c1.set 1 (.slice aV P2.length cV)
    have HP2 := hid ((HP.out.set (v := .slice aK P2.length cK) brV (i := 0) (by simp) (by simp)).set (v := .slice aV P2.length cV) c1 (i := 1) (by simp) (by simp))
    have y0 := c2.2.1 0 _ rfl
    have y1 := c2.2.1 1 _ rfl
    have HKV := hid (bel_set (bel_set (kb0.trans (dV.mono kb0.size)) hrw 0 (.slice aK P2.length cK)) hrw 1 (.slice aV P2.length cV))
    clear hoK hoV bV c1 c2 brV HP dK dV
    go_wp2_with fail
    (try simp only [Exit.inBlock, Exit.then])
    refine bodyPost_ret (v := .agg #[.slice aK P2.length cK, .slice aV P2.length cV]) ?r rfl ?_
    case r => simp [y0, y1, results, Try.results107, go_sem]; try rfl
    exact ⟨_, _, rfl, HP2.out, HKV.out⟩
set_option maxHeartbeats 3200000 in
set_option maxRecDepth 100000 in
theorem pairsAnd (p q : List Pr) (kv vv kv2 vv2 : Value) (w : World) (h : PrsAt w kv vv p) (g : PrsAt w kv2 vv2 q) (hn : p.length ≤ 50000) (hm : q.length ≤ 50000) :
    Calls Try.prog 117 #[.agg #[kv, vv], .agg #[kv2, vv2]] w fun e w' => ∃ ku vu, e = .returned (.agg #[ku, vu]) ∧ PrsAt w' ku vu (p ++ q) ∧ Below w.heap.size w w' := by
  have H := hid h
  have G := hid g
  obtain ⟨a1, k1, rfl⟩ := h.1.slice
  obtain ⟨a2, k2, rfl⟩ := h.2.slice
  obtain ⟨a3, k3, rfl⟩ := g.1.slice
  obtain ⟨a4, k4, rfl⟩ := g.2.slice
  have HWK := fun W (hW : Below w.heap.size w W) => andS a1 a3 p.length k1 q.length k3 (keysV p) (keysV q) W (H.out.1.below hW) (G.out.1.below hW) (one_keys q) (by omega) (by omega)
  have HWV := fun W (hW : Below w.heap.size w W) => andS a2 a4 p.length k2 q.length k4 (valsV p) (valsV q) W (H.out.2.below hW) (G.out.2.below hW) (one_vals q) (by omega) (by omega)
  have eK : keysV p ++ keysV q = keysV (p ++ q) := by simp [keysV]
  have eV : valsV p ++ valsV q = valsV (p ++ q) := by simp [valsV]
  have eL : p.length + q.length = (p ++ q).length := by simp
  rw [eK] at HWK
  rw [eV] at HWV
  obtain ⟨P2, hP2⟩ : ∃ P2, P2 = p ++ q := ⟨_, rfl⟩
  rw [← hP2] at HWK HWV eL ⊢
  rw [eL] at HWK HWV
  clear h g eK eV eL hP2
  obtain ⟨W0, hW0⟩ : ∃ W0, W0 = ((w.alloc (.cells #[.slice a1 p.length k1, .slice a2 p.length k2] 88)).alloc (.cells #[.slice a3 q.length k3, .slice a4 q.length k4] 88)).alloc (.cells #[.slice none 0 0, .slice none 0 0] 88) := ⟨_, rfl⟩
  have kb0 : Below w.heap.size w W0 := by rw [hW0]; exact (((Below.refl _ _).alloc (Nat.le_refl _) _).alloc (by simp) _).alloc (by simp; omega) _
  have bx3 : BoxAt W0 w.heap.size [.slice a1 p.length k1, .slice a2 p.length k2] ∧ BoxAt W0 (w.heap.size + 1) [.slice a3 q.length k3, .slice a4 q.length k4] ∧ BoxAt W0 (w.heap.size + 1 + 1) [.slice none 0 0, .slice none 0 0] := by
    rw [hW0]; exact boxOf3 (Below.refl _ _)
  obtain ⟨bA, bB, bR⟩ := bx3
  have hal := bA.1
  have hrl := bR.1
  have p0 := bA.2.1 0 _ rfl
  have p1 := bA.2.1 1 _ rfl
  have hbl := bB.1
  have p2 := bB.2.1 0 _ rfl
  have p3 := bB.2.1 1 _ rfl
  have HBR := hid bR
  go_enter Try.func117, Try.ntmps117
  go_upto_region 1 with fail
  rw [← hW0]
  clear hW0 bA bB bR
  obtain ⟨rb, hrb⟩ : ∃ rb, rb = w.heap.size + 1 + 1 := ⟨_, rfl⟩
  rw [← hrb] at hrl HBR ⊢
  have hrw : w.heap.size ≤ rb := by omega
  have hrn : rb ≠ w.heap.size := by omega
  have hrn2 : rb ≠ w.heap.size + 1 := by omega
  clear hrb
  have HWK0 := HWK W0.drew (kb0.trans ((Below.drew (Below.refl W0.heap.size W0)).mono kb0.size))
  have r0 := HBR.out.2.1 0 _ rfl
  have r1 := HBR.out.2.1 1 _ rfl
  have s0 := HBR.out.2.2 0 (by simp)
  have s1 := HBR.out.2.2 1 (by simp)
  go_region_held3 (fun w' => w'.cell? ⟨w.heap.size, 0, none⟩ = some (.slice a1 p.length k1) ∧ w'.cell? ⟨w.heap.size, 1, none⟩ = some (.slice a2 p.length k2) ∧ w'.cell? ⟨w.heap.size + 1, 0, none⟩ = some (.slice a3 q.length k3) ∧ w'.cell? ⟨w.heap.size + 1, 1, none⟩ = some (.slice a4 q.length k4)) (first | go_keep | trivial)
    (first
      | (go_at_call_of 150 (Value.slice a1 p.length k1); refine HWK0.mono ?_; rintro e wK ⟨vK, aK, cK, rfl, hvK, hoK, bK⟩; subst hvK; have dK : Below W0.heap.size W0 wK := (by exact Below.trans (Below.drew (Below.refl _ _)) (bK.mono (by simp))); have HWV0 := HWV wK (Below.trans kb0 (dK.mono kb0.size)); have q0 := (dK.cell (p := ⟨w.heap.size, 0, none⟩) hal).trans p0; have q1 := (dK.cell (p := ⟨w.heap.size, 1, none⟩) hal).trans p1; have q2 := (dK.cell (p := ⟨w.heap.size + 1, 0, none⟩) hbl).trans p2; have q3 := (dK.cell (p := ⟨w.heap.size + 1, 1, none⟩) hbl).trans p3; have lK := dK.size; clear bK)
      | (go_at_call_of 150 (Value.slice a2 p.length k2); refine HWV0.mono ?_; rintro e wV ⟨vV, aV, cV, rfl, hvV, hoV, bV⟩; subst hvV; have dV : Below W0.heap.size W0 wV := (by exact belT dK bV lK); have x0 := (dV.cell (p := ⟨w.heap.size, 0, none⟩) hal).trans p0; have x1 := (dV.cell (p := ⟨w.heap.size, 1, none⟩) hal).trans p1; have x2 := (dV.cell (p := ⟨w.heap.size + 1, 0, none⟩) hbl).trans p2; have x3 := (dV.cell (p := ⟨w.heap.size + 1, 1, none⟩) hbl).trans p3; have lV := dV.size; have brV := HBR.out.below dV; have t0 := brV.2.1 0 _ rfl; have t1 := brV.2.1 1 _ rfl; have u0 := brV.2.2 0 (by simp); have u1 := brV.2.2 1 (by simp); have hrv := brV.1))
  all_goals
    have HP := hid (show PrsAt wV (.slice aK P2.length cK) (.slice aV P2.length cV) P2 from ⟨hoK.below (belT (Below.refl _ _) bV (Nat.le_refl _)), hoV⟩)
    have c1 := brV.set 0 (.slice aK P2.length cK)
    have c2 := c1.set 1 (.slice aV P2.length cV)
    have HP2 := hid ((HP.out.set (v := .slice aK P2.length cK) brV (i := 0) (by simp) (by simp)).set (v := .slice aV P2.length cV) c1 (i := 1) (by simp) (by simp))
    have y0 := c2.2.1 0 _ rfl
    have y1 := c2.2.1 1 _ rfl
    have HKV := hid (bel_set (bel_set (kb0.trans (dV.mono kb0.size)) hrw 0 (.slice aK P2.length cK)) hrw 1 (.slice aV P2.length cV))
    clear hoK hoV bV c1 c2 brV HP dK dV
    go_wp2_with fail
    (try simp only [Exit.inBlock, Exit.then])
    refine bodyPost_ret (v := .agg #[.slice aK P2.length cK, .slice aV P2.length cV]) ?r rfl ?_
    case r => simp [y0, y1, results, Try.results117, go_sem]; try rfl
    exact ⟨_, _, rfl, HP2.out, HKV.out⟩
end Go.Proofs.Ytmmccjdkafojgaa
