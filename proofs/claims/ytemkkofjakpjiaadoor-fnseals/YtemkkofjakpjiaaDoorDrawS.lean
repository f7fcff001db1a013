/- Contracts of what the cursor draws for chapter 3: signers, leaves, ways, seals. Condition: the cursor's block and its bytes lie in memory. -/
import Derived.Test.YtemkkofjakpjiaaDoorMessD
import Derived.Test.YtemkkofjakpjiaaDoorLaw3
namespace Go.Proofs.YtemkkofjakpjiaaDoor
open Go.ChangeShapes Go.WideShapes Go.ChangeAt Go.RowKit Go.Deep
set_option linter.unusedVariables false

def tseeds : List ByteArray := [⟨#[115, 101, 101, 100]⟩, ⟨#[111, 116, 104, 101, 114]⟩, ⟨#[120]⟩]
def tseedRow : Array Value := #[.string ⟨#[115, 101, 101, 100]⟩, .string ⟨#[111, 116, 104, 101, 114]⟩, .string ⟨#[120]⟩]
theorem tseed_cells (w : World) (t : TypeId) : ∀ i, i < tseeds.length → (w.alloc (.cells tseedRow t)).cell? ⟨w.heap.size, i, none⟩ = some (.string (tseeds.getD i ByteArray.empty)) := by
  intro i hi
  have h3 : i < 3 := hi
  match i, h3 with
  | 0, _ => simp [tseedRow, tseeds]
  | 1, _ => simp [tseedRow, tseeds]
  | 2, _ => simp [tseedRow, tseeds]
theorem tseed_small (x : ByteArray) (h : x ∈ tseeds) : x.size ≤ 9 := by
  simp only [tseeds, List.mem_cons, List.not_mem_nil, or_false] at h
  rcases h with rfl | rfl | rfl <;> decide
def bseeds : List ByteArray := [⟨#[]⟩, ⟨#[110, 105, 110, 101, 32, 98, 121, 116, 101]⟩]
def bseedRow : Array Value := #[.string ⟨#[]⟩, .string ⟨#[110, 105, 110, 101, 32, 98, 121, 116, 101]⟩]
theorem bseed_cells (w : World) (t : TypeId) : ∀ i, i < bseeds.length → (w.alloc (.cells bseedRow t)).cell? ⟨w.heap.size, i, none⟩ = some (.string (bseeds.getD i ByteArray.empty)) := by
  intro i hi
  have h3 : i < 2 := hi
  match i, h3 with
  | 0, _ => simp [bseedRow, bseeds]
  | 1, _ => simp [bseedRow, bseeds]
theorem bseed_small (x : ByteArray) (h : x ∈ bseeds) : x.size ≤ 9 := by
  simp only [bseeds, List.mem_cons, List.not_mem_nil, or_false] at h
  rcases h with rfl | rfl <;> decide
def busy : List Int := [-1, 8, 9]
def busyRow : Array Value := #[.int .i64 (-1), .int .i64 8, .int .i64 9]
theorem busy_cells (w : World) (t : TypeId) : ∀ i, i < busy.length → (w.alloc (.cells busyRow t)).cell? ⟨w.heap.size, i, none⟩ = some (.int .i64 (busy.getD i 0)) := by
  intro i hi
  have h3 : i < 3 := hi
  match i, h3 with
  | 0, _ => simp [busyRow, busy]
  | 1, _ => simp [busyRow, busy]
  | 2, _ => simp [busyRow, busy]
theorem busy_small (x : Int) (h : x ∈ busy) : -1 ≤ x ∧ x ≤ 9 := by
  simp only [busy, List.mem_cons, List.not_mem_nil, or_false] at h
  rcases h with rfl | rfl | rfl <;> decide
theorem fieldSigner (s : ByteArray) (u : Int) (W : World) : (Instr.field 45 (.agg #[.string s, .int .i64 u]) 0).run Tryd.prog W = .ok (.string s) W := by kernel_rfl
theorem drawnBelow {a b : World} {g : Nat} {v : Value} {n m : Nat} (h : Drawn a b g v n m) : a.heap.size ≤ b.heap.size := h.2.2.size

set_option maxHeartbeats 6400000 in
set_option maxRecDepth 100000 in
theorem signerIn (g : Nat) (v : Value) (n m : Nat) (w : World) (hc : CurAt w g v m) (hb : BytesAt w g v n) (hm : m ≤ 1000000 - 8) :
    Calls Tryd.prog 85 #[.pointer (some ⟨g, 0, none⟩)] w fun e w' => ∃ (s : ByteArray) (u : Int), e = .returned (.agg #[.string s, .int .i64 u]) ∧ s.size ≤ 9 ∧ -1 ≤ u ∧ u ≤ 9 ∧ Drawn w w' g v n (m + 8) := by
  have hgl := hc.lt
  have hbel0 : Below w.heap.size w (w.alloc (.cells #[.string ⟨#[]⟩, .int .i64 0] 45)) := (Below.refl _ w).alloc (Nat.le_refl _) _
  have hbel : Below w.heap.size w ((w.alloc (.cells #[.string ⟨#[]⟩, .int .i64 0] 45)).alloc (.cells tseedRow 9)) := hbel0.alloc (by simp) _
  have HP := ofIn g v n m tseeds (w.heap.size + 1) 3 _ (hc.below hbel) (hb.kept (gb_of_below hbel)) (by omega) (by decide) (by decide) (by omega) (by have := tseed_cells (w.alloc (.cells #[.string ⟨#[]⟩, .int .i64 0] 45)) 9; rwa [World.size_alloc] at this)
  have HB0 : Hid (BytesAt w g v n) := hb
  have HR0 := hide ((boxNew w #[.string ⟨#[]⟩, .int .i64 0] 45).below ((Below.refl _ _).alloc (Nat.le_refl _) (.cells tseedRow 9)))
  have HBE := hide hbel
  clear hc hb hbel0 hbel
  go_enter Tryd.func85, Tryd.ntmps85
  go_wp2_with fail
  refine HP.mono ?_
  rintro e w1 ⟨s, rfl, hs, hd1⟩
  clear HP
  have hs9 := tseed_small s hs
  have HR1 := hide ((unhide HR0).otherBy hd1.2.2 (by omega))
  have HD1 : Hid (Drawn w w1 g v n (m + 2)) := hd1.start (unhide HBE)
  clear hd1 hs HR0 HBE
  go_wp2_with fail
  refine (pickIn g v n (m + 2) 9 w1 (unhide HD1).1 (unhide HD1).2.1 (by omega) (by omega) (by omega)).mono ?_
  rintro e w2 ⟨u, rfl, hu0, hu1, hd2⟩
  have HR2 := hide ((unhide HR1).otherBy hd2.2.2 (by omega))
  have HD2 : Hid (Drawn w w2 g v n (m + 2 + 2)) := (unhide HD1).trans hd2
  have hl2 : w.heap.size < w2.heap.size := (unhide HR2).1
  clear hd2 HD1 HR1
  have hal : Below w2.heap.size w2 (w2.alloc (.cells #[.string s, .int .i64 u] 45)) := (Below.refl _ w2).alloc (Nat.le_refl _) _
  have HX2 := hide (boxNew w2 #[.string s, .int .i64 u] 45)
  replace HR2 := hide ((unhide HR2).below hal)
  replace HD2 : Hid (Drawn w _ g v n (m + 2 + 2)) := (unhide HD2).below hal
  clear hal
  have hg2 : g < w2.heap.size := by have := (unhide HD2).1.lt; simp at this; have := (unhide HR2).1; simp at this; omega
  go_wp2_with fail
  refine (pickIn g v n (m + 2 + 2) 20 _ (unhide HD2).1 (unhide HD2).2.1 (by omega) (by omega) (by omega)).mono ?_
  rintro e w3 ⟨x, rfl, hx0, hx1, hd3⟩
  have hR3 := (unhide HR2).otherBy hd3.2.2 (by omega)
  have hX3 := (unhide HX2).otherBy hd3.2.2 (by omega)
  have HD3 : Hid (Drawn w w3 g v n (m + 2 + 2 + 2)) := (unhide HD2).trans hd3
  clear hd3 HD2 HR2 HX2
  have hl1 := (unhide HD3).2.2.size
  have hg3 : g < w3.heap.size := (unhide HD3).1.lt
  have hR0z := hR3.1
  have hR0c := hR3.2.1 0 _ rfl
  have hR1c := hR3.2.1 1 _ rfl
  have hR0f := hR3.2.2 0 (by simp)
  have hR1f := hR3.2.2 1 (by simp)
  have hX0z := hX3.1
  have hX0c := hX3.2.1 0 _ rfl
  have hX1c := hX3.2.1 1 _ rfl
  have hX0f := hX3.2.2 0 (by simp)
  have hX1f := hX3.2.2 1 (by simp)
  have HR3 := hide hR3
  have HX3 := hide hX3
  have hne1 : w.heap.size ≠ w2.heap.size := by omega
  have hne2 : w2.heap.size ≠ w.heap.size := by omega
  clear hR3 hX3
  by_cases hxa : x = 0
  · subst hxa
    have hbel : Below w3.heap.size w3 (w3.alloc (.cells bseedRow 9)) := (Below.refl _ w3).alloc (Nat.le_refl _) _
    have HD3b : Hid (Drawn w _ g v n (m + 2 + 2 + 2)) := (unhide HD3).below hbel
    have HA := ofIn g v n (m + 2 + 2 + 2) bseeds w3.heap.size 2 _ (unhide HD3b).1 (unhide HD3b).2.1 (by omega) (by decide) (by decide) (by omega) (bseed_cells w3 9)
    clear hR0z hR0c hR1c hR0f hR1f hX0z hX0c hX1c hX0f hX1f
    go_wp2_with fail
    refine HA.mono ?_
    rintro e w4 ⟨s2, rfl, hs2, hd4⟩
    have hs29 := bseed_small s2 hs2
    have hR4 := ((unhide HR3).below hbel).otherBy hd4.2.2 (by omega)
    have hX4 := ((unhide HX3).below hbel).otherBy hd4.2.2 (by omega)
    have HD4 : Hid (Drawn w w4 g v n (m + 2 + 2 + 2 + 2)) := (unhide HD3b).trans hd4
    have hR0z := hR4.1
    have hR0c := hR4.2.1 0 _ rfl
    have hR1c := hR4.2.1 1 _ rfl
    have hR0f := hR4.2.2 0 (by simp)
    have hR1f := hR4.2.2 1 (by simp)
    have hX0z := hX4.1
    have hX0c := hX4.2.1 0 _ rfl
    have hX1c := hX4.2.1 1 _ rfl
    have hX0f := hX4.2.2 0 (by simp)
    have hX1f := hX4.2.2 1 (by simp)
    clear HA hd4 HD3 HD3b HR3 HX3 hR4 hX4 hbel hs2
    go_wp2
    (try simp only [Exit.inBlock, Exit.then])
    refine bodyPost_ret (by simp [*, results, Tryd.results85, go_sem]; try rfl) rfl ?_
    exact ⟨s2, u, rfl, by omega, by omega, by omega, (((unhide HD4).set (unhide HB0) _ (by simp; omega) (by simp; omega) _).set (unhide HB0) _ (by simp; omega) (by simp) _).set (unhide HB0) _ (by simp; omega) (by simp) _⟩
  · by_cases hxb : x = 1
    · subst hxb
      have hbel : Below w3.heap.size w3 (w3.alloc (.cells busyRow 3)) := (Below.refl _ w3).alloc (Nat.le_refl _) _
      have HD3b : Hid (Drawn w _ g v n (m + 2 + 2 + 2)) := (unhide HD3).below hbel
      have HA := amongIn g v n (m + 2 + 2 + 2) busy w3.heap.size 3 _ (unhide HD3b).1 (unhide HD3b).2.1 (by omega) (by decide) (by decide) (by omega) (busy_cells w3 3)
      clear hR0z hR0c hR1c hR0f hR1f hX0z hX0c hX1c hX0f hX1f hxa
      go_wp2_with fail
      refine HA.mono ?_
      rintro e w4 ⟨u2, rfl, hu2, hd4⟩
      obtain ⟨hu20, hu21⟩ := busy_small u2 hu2
      have hR4 := ((unhide HR3).below hbel).otherBy hd4.2.2 (by omega)
      have hX4 := ((unhide HX3).below hbel).otherBy hd4.2.2 (by omega)
      have HD4 : Hid (Drawn w w4 g v n (m + 2 + 2 + 2 + 2)) := (unhide HD3b).trans hd4
      have hR0z := hR4.1
      have hR0c := hR4.2.1 0 _ rfl
      have hR1c := hR4.2.1 1 _ rfl
      have hR0f := hR4.2.2 0 (by simp)
      have hR1f := hR4.2.2 1 (by simp)
      have hX0z := hX4.1
      have hX0c := hX4.2.1 0 _ rfl
      have hX1c := hX4.2.1 1 _ rfl
      have hX0f := hX4.2.2 0 (by simp)
      have hX1f := hX4.2.2 1 (by simp)
      clear HA hd4 HD3 HD3b HR3 HX3 hR4 hX4 hbel hu2
      go_wp2
      (try simp only [Exit.inBlock, Exit.then])
      refine bodyPost_ret (by simp [*, results, Tryd.results85, go_sem]; try rfl) rfl ?_
      exact ⟨s, u2, rfl, by omega, by omega, by omega, (((unhide HD4).set (unhide HB0) _ (by simp; omega) (by simp; omega) _).set (unhide HB0) _ (by simp; omega) (by simp) _).set (unhide HB0) _ (by simp; omega) (by simp) _⟩
    · clear HR3 HX3
      go_wp2
      (try simp only [Exit.inBlock, Exit.then])
      refine bodyPost_ret (by simp [*, results, Tryd.results85, go_sem]; try rfl) rfl ?_
      exact ⟨s, u, rfl, by omega, by omega, by omega, (((unhide HD3).set (unhide HB0) _ (by simp; omega) (by simp) _).set (unhide HB0) _ (by simp; omega) (by simp) _).mono (by omega)⟩

set_option maxHeartbeats 1600000 in
set_option maxRecDepth 100000 in
theorem drawSealText (v : Value) (n : Nat) (w : World) (h : CodeAt w v n) :
    Calls Tryd.prog 30 #[v] w fun e w' => ∃ (s : ByteArray) (u : Int) (t : ByteArray), e = .returned (.tuple #[.agg #[.string s, .int .i64 u], .string t]) ∧ s.size ≤ 9 ∧ (-1 ≤ u ∧ u ≤ 9) ∧ t.size ≤ 201 ∧ Below w.heap.size w w' := by
  obtain ⟨ad, c, rfl⟩ : ∃ ad c, v = .slice ad n c := by
    obtain ⟨ad, c, e, _⟩ := h
    exact ⟨ad, c, e⟩
  have hbel0 := (Below.refl w.heap.size w).alloc (Nat.le_refl _) (.cells #[.string ⟨#[]⟩, .int .i64 0] 45)
  have hbel := hbel0.alloc (by simp) (.cells #[.slice ad n c, .int .i64 0, .int .u64 0] 87)
  have hcn := cur_new (w.alloc (.cells #[.string ⟨#[]⟩, .int .i64 0] 45)) (.slice ad n c) 87
  rw [World.size_alloc] at hcn
  have HK := signerIn (w.heap.size + 1) (.slice ad n c) n 0 _ hcn (h.bytes hbel (by omega)) (by omega)
  have HR0 := hide ((boxNew w #[.string ⟨#[]⟩, .int .i64 0] 45).below ((Below.refl _ _).alloc (Nat.le_refl _) (.cells #[.slice ad n c, .int .i64 0, .int .u64 0] 87)))
  have HBE := hide hbel
  clear h hbel hbel0 hcn
  go_enter Tryd.func30, Tryd.ntmps30
  go_wp2_with fail
  refine HK.mono ?_
  rintro e w1 ⟨s, u, rfl, hs, hu0, hu1, hd⟩
  clear HK
  have HR1 := hide ((unhide HR0).otherBy hd.2.2 (by omega))
  have HD1 := hide hd
  clear hd HR0
  go_wp2_with fail
  refine (messIn (w.heap.size + 1) (.slice ad n c) n 8 _ (unhide HD1).1 (unhide HD1).2.1 (by omega)).mono ?_
  rintro e w2 ⟨t, rfl, htt, hd2⟩
  have hR2 := (unhide HR1).otherBy hd2.2.2 (by omega)
  have hd3 := (unhide HD1).trans hd2
  have HB1 : Hid (Below w.heap.size w w2) := (unhide HBE).trans (gb_below hd3.2.2 (by omega) (by simp; omega))
  have hR0z := hR2.1
  have hR0c := hR2.2.1 0 _ rfl
  have hR1c := hR2.2.1 1 _ rfl
  have hR0f := hR2.2.2 0 (by simp)
  have hR1f := hR2.2.2 1 (by simp)
  clear hd2 hd3 HBE HD1 HR1 hR2
  go_wp2
  (try simp only [Exit.inBlock, Exit.then])
  refine bodyPost_ret (by simp [*, results, Tryd.results30, go_sem]; try rfl) rfl ?_
  exact ⟨s, u, t, rfl, hs, ⟨hu0, hu1⟩, htt, ((unhide HB1).setCell (p := ⟨w.heap.size, 0, none⟩) (Nat.le_refl _) _).setCell (p := ⟨w.heap.size, 1, none⟩) (Nat.le_refl _) _⟩

set_option maxHeartbeats 1600000 in
set_option maxRecDepth 100000 in
theorem drawLeaf (v : Value) (n : Nat) (w : World) (h : CodeAt w v n) :
    Calls Tryd.prog 95 #[v] w fun e w' => ∃ (s : ByteArray) (u : Int), e = .returned (.tuple #[.string s, .int .i64 u]) ∧ s.size ≤ 9 ∧ (-1 ≤ u ∧ u ≤ 8) ∧ Below w.heap.size w w' := by
  obtain ⟨ad, c, rfl⟩ : ∃ ad c, v = .slice ad n c := by
    obtain ⟨ad, c, e, _⟩ := h
    exact ⟨ad, c, e⟩
  have hbel := (Below.refl w.heap.size w).alloc (Nat.le_refl _) (.cells #[.slice ad n c, .int .i64 0, .int .u64 0] 87)
  have HK := signerIn w.heap.size (.slice ad n c) n 0 _ (cur_new w (.slice ad n c) 87) (h.bytes hbel (Nat.le_refl _)) (by omega)
  have HBE := hide hbel
  clear h hbel
  have hfd := fieldSigner
  go_enter Tryd.func95, Tryd.ntmps95
  go_wp2_with fail
  refine HK.mono ?_
  rintro e w1 ⟨s, u, rfl, hs, hu0, hu1, hd⟩
  clear HK
  have HD1 := hide hd
  clear hd
  go_wp2_with fail
  refine (pickIn w.heap.size (.slice ad n c) n 8 10 _ (unhide HD1).1 (unhide HD1).2.1 (by omega) (by omega) (by omega)).mono ?_
  rintro e w2 ⟨x, rfl, hx0, hx1, hd2⟩
  have hd3 := (unhide HD1).trans hd2
  have hb1 : Below w.heap.size w w2 := (unhide HBE).trans (gb_below hd3.2.2 (Nat.le_refl _) (by simp))
  clear hd2 hd3 HBE HD1
  go_wp2
  go_returns
  exact ⟨s, x - 1, rfl, hs, ⟨by omega, by omega⟩, hb1⟩
theorem drawWay (v : Value) (n : Nat) (w : World) (h : CodeAt w v n) :
    Calls Tryd.prog 41 #[v] w fun e w' => ∃ (s : ByteArray) (u : Int), e = .returned (.tuple #[.string s, .int .i64 u]) ∧ s.size ≤ 9 ∧ (-1 ≤ u ∧ u ≤ 8) ∧ Below w.heap.size w w' := by
  have HL := drawLeaf v n w h
  clear h
  go_enter Tryd.func41, Tryd.ntmps41
  go_wp2_with fail
  refine HL.mono ?_
  rintro e w1 ⟨s, u, rfl, hs, hu, hb1⟩
  go_wp2
  go_returns
  exact ⟨s, u, rfl, hs, hu, hb1⟩
set_option maxHeartbeats 1600000 in
set_option maxRecDepth 100000 in
theorem drawTop (v : Value) (n : Nat) (w : World) (h : CodeAt w v n) :
    Calls Tryd.prog 49 #[v] w fun e w' => ∃ (s : ByteArray), e = .returned (.string s) ∧ s.size ≤ 9 ∧ Below w.heap.size w w' := by
  obtain ⟨ad, c, rfl⟩ : ∃ ad c, v = .slice ad n c := by
    obtain ⟨ad, c, e, _⟩ := h
    exact ⟨ad, c, e⟩
  have hbel := (Below.refl w.heap.size w).alloc (Nat.le_refl _) (.cells #[.slice ad n c, .int .i64 0, .int .u64 0] 87)
  have HK := signerIn w.heap.size (.slice ad n c) n 0 _ (cur_new w (.slice ad n c) 87) (h.bytes hbel (Nat.le_refl _)) (by omega)
  have HBE := hide hbel
  clear h hbel
  have hfd := fieldSigner
  go_enter Tryd.func49, Tryd.ntmps49
  go_wp2_with fail
  refine HK.mono ?_
  rintro e w1 ⟨s, u, rfl, hs, hu0, hu1, hd⟩
  clear HK
  have hb1 : Below w.heap.size w w1 := (unhide HBE).trans (gb_below hd.2.2 (Nat.le_refl _) (by simp))
  clear hd HBE
  go_wp2
  go_returns
  exact ⟨s, rfl, hs, hb1⟩
/-- Whatever row of at most three texts. -/
theorem OwnRow.strs3 {base : Nat} {w : World} {g : Nat} {f : Nat → ByteArray} (h : OwnRow base w g 3 (fun i => .string (f i))) (cap : Nat) : StrsAt w (.slice (some ⟨g, 0, none⟩) 3 cap) ((List.range 3).map f) :=
  .inr ⟨g, 0, cap, by simp, h.2.1, fun i hi => by
    have hi' : i < 3 := by simpa using hi
    rw [Nat.zero_add, h.2.2.1 i hi', getD_range f _ 3 i hi']⟩
theorem OwnRow.strsTail3 {base : Nat} {w : World} {g : Nat} {f : Nat → ByteArray} (h : OwnRow base w g 3 (fun i => .string (f i))) (cap : Nat) : StrsAt w (.slice (some ⟨g, 1, none⟩) 2 cap) ((List.range 2).map fun i => f (1 + i)) :=
  .inr ⟨g, 1, cap, by simp, h.2.1, fun i hi => by
    have hi' : i < 2 := by simpa using hi
    rw [h.2.2.1 (1 + i) (by omega), getD_range _ _ 2 i hi']⟩
theorem OwnRow.strsTail30 {base : Nat} {w : World} {g : Nat} {f : Nat → ByteArray} (h : OwnRow base w g 3 (fun i => .string (f i))) (cap : Nat) : StrsAt w (.slice (some ⟨g, 0, none⟩) 2 cap) ((List.range 2).map f) :=
  .inr ⟨g, 0, cap, by simp, h.2.1, fun i hi => by
    have hi' : i < 2 := by simpa using hi
    rw [Nat.zero_add, h.2.2.1 i (by omega), getD_range f _ 2 i hi']⟩
set_option maxHeartbeats 3200000 in
set_option maxRecDepth 100000 in
theorem drawTopFrom (v : Value) (n : Nat) (w : World) (h : CodeAt w v n) :
    Calls Tryd.prog 47 #[v] w fun e w' => ∃ (u : Int) (l : ByteArray) (v' : Value) (ss : List ByteArray), e = .returned (.tuple #[.int .i64 u, .string l, v']) ∧ (-1 ≤ u ∧ u ≤ 8) ∧ l.size ≤ 4 ∧ StrsAt w' v' ss ∧ ss.length ≤ 3 ∧ Below w.heap.size w w' := by
  have HL := drawLeaf v n w h
  have HC := hide h
  obtain ⟨ad, c, rfl⟩ : ∃ ad c, v = .slice ad n c := by
    obtain ⟨ad, c, e, _⟩ := h
    exact ⟨ad, c, e⟩
  clear h
  go_enter Tryd.func47, Tryd.ntmps47
  go_wp2_with fail
  refine HL.mono ?_
  rintro e w1 ⟨s, u, rfl, hs, hu, hb1⟩
  have hsm : s.size ≤ maxLen := by unfold maxLen; omega
  have hbel := (Below.refl w1.heap.size w1).alloc (Nat.le_refl _) (.cells #[.slice ad n c, .int .i64 0, .int .u64 0] 87)
  have HC1 := hide (cur_new w1 (.slice ad n c) 87)
  have HB1 := hide (((unhide HC).below hb1).bytes hbel (Nat.le_refl _))
  have hl1 := hb1.size
  have HK := hide (hb1.trans (hbel.mono hl1))
  clear HL HC hbel hb1
  by_cases hyes : (1 ≤ s.size ∧ s.size ≤ 8) ∧ 0 ≤ u ∧ u ≤ 7
  · obtain ⟨⟨h0, h1⟩, h2, h3⟩ := hyes
    obtain ⟨N, rfl⟩ := Int.eq_ofNat_of_zero_le h2
    have hlz := leafB_size s N
    have HLF := fun W => specLeafYes s N W h0 h1 (by omega)
    generalize leafB s N = LF at *
    go_wp2_with fail
    refine (HLF _).mono ?_
    rintro e w2 ⟨rfl, hb2⟩
    replace HC1 := hide ((unhide HC1).below hb2)
    replace HB1 := hide ((unhide HB1).kept (gb_of_below hb2))
    replace HK := hide ((unhide HK).trans (hb2.mono (unhide HK).size))
    have hg2 := (unhide HC1).lt
    clear HLF hb2
    go_wp2_with fail
    refine (specWayYes s N _ h0 h1 (by omega)).mono ?_
    rintro e w3 ⟨g3, cap3, rfl, ho3, hb3⟩
    have hne : w1.heap.size ≠ g3 := by have := ho3.1; omega
    have HO3 : Hid (∃ f : Nat → ByteArray, OwnRow w2.heap.size w3 g3 3 (fun i => .string (f i))) := ⟨_, ho3⟩
    replace HC1 := hide ((unhide HC1).below hb3)
    replace HB1 := hide ((unhide HB1).kept (gb_of_below hb3))
    replace HK := hide ((unhide HK).trans (hb3.mono (unhide HK).size))
    clear ho3 hb3
    go_wp2_with fail
    refine (oneIn w1.heap.size (.slice ad n c) n 0 6 _ (unhide HC1) (unhide HB1) (by omega) (by omega) (by omega)).mono ?_
    rintro e w4 ⟨o4, rfl, hd4⟩
    have HO4 : Hid (∃ f : Nat → ByteArray, OwnRow w2.heap.size w4 g3 3 (fun i => .string (f i))) := by
      obtain ⟨f, hf⟩ := HO3.out
      exact ⟨f, hf.otherBy hd4.2.2 hne⟩
    have hk4 : Below w.heap.size w w4 := (unhide HK).trans (gb_below hd4.2.2 hl1 (unhide HK).size)
    clear hd4 HO3 HC1 HB1 HK
    cases o4
    · go_wp2
      go_returns
      obtain ⟨f, hf⟩ := HO4.out
      exact ⟨N, LF, _, _, rfl, hu, by omega, hf.strs3 cap3, by simp, hk4⟩
    · by_cases hcap : cap3 = 1
      · subst hcap
        go_wp2
        go_returns
        obtain ⟨f, hf⟩ := HO4.out
        exact ⟨N, LF, _, _, rfl, hu, by omega, hf.strsTail30 0, by simp, hk4⟩
      · go_wp2
        go_returns
        obtain ⟨f, hf⟩ := HO4.out
        exact ⟨N, LF, _, _, rfl, hu, by omega, hf.strsTail3 _, by simp, hk4⟩
  · have HLN := fun W => specLeafNo s u W hsm hyes
    have HWN := fun W => specWayNo s u W hsm hyes
    clear hyes
    go_wp2_with fail
    refine (HLN _).mono ?_
    rintro e w2 ⟨rfl, hb2⟩
    replace HK := hide ((unhide HK).trans (hb2.mono (unhide HK).size))
    clear HLN hb2
    go_wp2_with fail
    refine (HWN _).mono ?_
    rintro e w3 ⟨rfl, hb3⟩
    replace HK := hide ((unhide HK).trans (hb3.mono (unhide HK).size))
    have hfin := unhide HK
    clear HWN hb3
    go_wp2
    go_returns
    exact ⟨u, ByteArray.empty, _, [], rfl, hu, by simp, .inl ⟨_, _, rfl, rfl⟩, by simp, hfin⟩
end Go.Proofs.YtemkkofjakpjiaaDoor
