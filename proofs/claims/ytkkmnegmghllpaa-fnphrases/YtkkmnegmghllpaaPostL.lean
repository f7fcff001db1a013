/- Lists of posts in memory, as they are read and as an answer's own; how they come in. No condition. -/
import Derived.Test.YtkkmnegmghllpaaWS
import Derived.Lib.SmallJoins
namespace Go.Proofs.Ytkkmnegmghllpaa
open Go.ChangeShapes Go.WideShapes Go.ChangeAt Go.RowKit Go.Joins Go.Deep
set_option linter.unusedVariables false

abbrev Po := Int × List Int
def PoAt (w : World) (b o : Nat) (p : Po) : Prop := ∃ pv, w.cell? ⟨b, o, none⟩ = some (.int .i64 p.1) ∧ w.cell? ⟨b, o + 1, none⟩ = some pv ∧ IntsAt w pv p.2
theorem PoAt.below {w w' : World} {b o : Nat} {p : Po} (h : PoAt w b o p) (hb : b < w.heap.size) (kb : Below w.heap.size w w') : PoAt w' b o p := by
  obtain ⟨pv, h1, h2, h3⟩ := h
  exact ⟨pv, (kb.cell (p := ⟨b, o, none⟩) hb).trans h1, (kb.cell (p := ⟨b, o + 1, none⟩) hb).trans h2, h3.below kb⟩
/-- The slice value x reads as the posts ps. -/
def PosAt (w : World) (x : Value) (ps : List Po) : Prop :=
  (∃ a c, x = .slice a 0 c ∧ ps = []) ∨ ∃ b off cap, x = .slice (some ⟨b, off, none⟩) ps.length cap ∧ b < w.heap.size ∧ ∀ i, i < ps.length → PoAt w b (off + i * 2) (ps.getD i default)
theorem PosAt.slice {w : World} {x : Value} {ps : List Po} (h : PosAt w x ps) : ∃ a c, x = .slice a ps.length c := by
  rcases h with ⟨a, c, rfl, rfl⟩ | ⟨b, off, cap, rfl, _, _⟩ <;> exact ⟨_, _, rfl⟩
theorem PosAt.below {w w' : World} {x : Value} {ps : List Po} (h : PosAt w x ps) (kb : Below w.heap.size w w') : PosAt w' x ps := by
  rcases h with h | ⟨b, off, cap, h1, h2, h3⟩
  · exact .inl h
  · exact .inr ⟨b, off, cap, h1, Nat.lt_of_lt_of_le h2 kb.size, fun i hi => (h3 i hi).below h2 kb⟩
/-- What the laws' own reach lets through. -/
def RePs (ps : List Po) : Prop := ps.length ≤ maxLen ∧ ∀ p ∈ ps, p.2.length ≤ maxLen
def sumL (ps : List Po) : Nat := ps.foldl (fun n p => n + p.2.length) 0
theorem sumL_snoc (ps : List Po) (p : Po) : sumL (ps ++ [p]) = sumL ps + p.2.length := by simp [sumL]
theorem sumL_append (a b : List Po) : sumL (a ++ b) = sumL a + sumL b := by
  have : ∀ (l : List Po) (n : Nat), l.foldl (fun n p => n + p.2.length) n = n + l.foldl (fun n p => n + p.2.length) 0 := by
    intro l
    induction l with
    | nil => intro n; simp
    | cons x l ih => intro n; simp only [List.foldl_cons]; rw [ih (n + x.2.length), ih (0 + x.2.length)]; omega
  simp only [sumL, List.foldl_append]; rw [this]
theorem sumL_take (ps : List Po) (k : Nat) : sumL (ps.take k) ≤ sumL ps := by
  have := sumL_append (ps.take k) (ps.drop k); rw [List.take_append_drop] at this; omega
theorem takeL2 (ps : List Po) (k : Nat) (h : k < ps.length) : ps.take (k + 1) = ps.take k ++ [ps.getD k default] := by
  rw [List.take_succ_eq_append_getElem h]; simp [List.getD, h]
theorem getD_memL (ps : List Po) (k : Nat) (h : k < ps.length) : ps.getD k default ∈ ps := by simp [List.getD, h]
theorem sumL_step (ps : List Po) (k : Nat) (h : k < ps.length) : sumL (ps.take (k + 1)) = sumL (ps.take k) + (ps.getD k default).2.length := by rw [takeL2 ps k h, sumL_snoc]
theorem sumL_mem {ps : List Po} {p : Po} (h : p ∈ ps) : p.2.length ≤ sumL ps := by
  obtain ⟨a, b, rfl⟩ := List.append_of_mem h
  rw [sumL_append, show p :: b = [p] ++ b from rfl, sumL_append]
  simp [sumL]; omega
/-! ### an answer's own -/
structure OwnPo (base : Nat) (w : World) (g n : Nat) (dc : Nat → Int) (pl : Nat → Value) (ln : Nat → Nat) (vl : Nat → Nat → Int) : Prop where
  row : OwnRow base w g (n * 2) (fun j => if j % 2 = 0 then .int .i64 (dc (j / 2)) else pl (j / 2))
  own : ∀ i, i < n → OwnA base w (pl i) (ln i) (fun t => .int .i64 (vl i t))
  apart : ∀ i, i < n → g ∉ ablk (pl i)
  disj : ∀ i j, i < n → j < n → i ≠ j → ∀ x ∈ ablk (pl i), x ∉ ablk (pl j)
theorem offset1 (W : World) (g o : Nat) (u : Value) : Off [g] W (W.setCell ⟨g, o, none⟩ u) := ⟨rfl, rfl, rfl, by simp [World.setCell], fun k hk hn => Below.heap_setCell W ⟨g, o, none⟩ u k (by simpa using hn)⟩
theorem OwnPo.setDoc {base : Nat} {w : World} {g n k : Nat} {dc : Nat → Int} {pl : Nat → Value} {ln : Nat → Nat} {vl : Nat → Nat → Int} (h : OwnPo base w g n dc pl ln vl) (hk : k < n) (z : Int) :
    OwnPo base (w.setCell ⟨g, k * 2, none⟩ (.int .i64 z)) g n (fun i => if i = k then z else dc i) pl ln vl := by
  refine ⟨(h.row.set (k := k * 2) (by omega) (.int .i64 z)).congr fun j hj => ?_, fun i hi => (h.own i hi).off (offset1 _ _ _ _) fun x hx hm => ?_, h.apart, h.disj⟩
  · by_cases e : j = k * 2
    · subst e
      have e1 : k * 2 % 2 = 0 := by omega
      have e2 : k * 2 / 2 = k := by omega
      simp [e1, e2]
    · by_cases e3 : j % 2 = 0
      · have e4 : j / 2 ≠ k := by omega
        simp [e, e3, e4]
      · simp [e, e3]
  · simp at hm
    subst hm
    exact h.apart i hi hx
theorem OwnPo.places {base : Nat} {w w' : World} {g n k : Nat} {dc : Nat → Int} {pl : Nat → Value} {ln : Nat → Nat} {vl : Nat → Nat → Int} (h : OwnPo base w g n dc pl ln vl) (hk : k < n) (v' : Nat → Int)
    (ho : Off (ablk (pl k)) w w') (ha : OwnA base w' (pl k) (ln k) (fun t => .int .i64 (v' t))) : OwnPo base w' g n dc pl ln (fun i t => if i = k then v' t else vl i t) := by
  have hg := ho.block g h.row.2.1 (h.apart k hk)
  refine ⟨⟨h.row.1, Nat.lt_of_lt_of_le h.row.2.1 ho.size, fun i hi => by simp only [World.cell?, hg]; exact h.row.2.2.1 i hi, fun i hi => by simp only [World.frozen?, hg]; exact h.row.2.2.2 i hi⟩, fun i hi => ?_, h.apart, h.disj⟩
  by_cases e : i = k
  · subst e
    simpa using ha
  · simp only [if_neg e]
    exact (h.own i hi).off ho (h.disj i k hi hk e)
theorem OwnPo.congr {base : Nat} {w : World} {g n : Nat} {dc dc' : Nat → Int} {pl : Nat → Value} {ln : Nat → Nat} {vl vl' : Nat → Nat → Int} (h : OwnPo base w g n dc pl ln vl)
    (h1 : ∀ i, i < n → dc i = dc' i) (h2 : ∀ i, i < n → ∀ t, t < ln i → vl i t = vl' i t) : OwnPo base w g n dc' pl ln vl' := by
  refine ⟨h.row.congr fun j hj => ?_, fun i hi => ?_, h.apart, h.disj⟩
  · by_cases e : j % 2 = 0
    · simp only [if_pos e]; rw [h1 _ (by omega)]
    · simp only [if_neg e]
  · rcases h.own i hi with h3 | ⟨h0, q, cap, hv, ho⟩
    · exact .inl h3
    · exact .inr ⟨h0, q, cap, hv, ho.congr fun t ht => by rw [h2 i hi t ht]⟩
def fpP (v : Value) (n : Nat) (pl : Nat → Value) : List Nat := ablk v ++ (List.range n).flatMap (fun i => ablk (pl i))
theorem mem_fpP {v : Value} {n : Nat} {pl : Nat → Value} {x : Nat} : x ∈ fpP v n pl ↔ x ∈ ablk v ∨ ∃ i, i < n ∧ x ∈ ablk (pl i) := by simp [fpP]
/-- An answer's list of posts. -/
def OwnPs (base : Nat) (w : World) (v : Value) (n : Nat) (dc : Nat → Int) (pl : Nat → Value) (ln : Nat → Nat) (vl : Nat → Nat → Int) : Prop :=
  (n = 0 ∧ ∃ a c, v = .slice a 0 c) ∨ (0 < n ∧ ∃ g cap, v = .slice (some ⟨g, 0, none⟩) n cap ∧ OwnPo base w g n dc pl ln vl)
theorem OwnPs.slice {base : Nat} {w : World} {v : Value} {n : Nat} {dc : Nat → Int} {pl : Nat → Value} {ln : Nat → Nat} {vl : Nat → Nat → Int} (h : OwnPs base w v n dc pl ln vl) : ∃ a c, v = .slice a n c := by
  rcases h with ⟨rfl, a, c, rfl⟩ | ⟨_, g, cap, rfl, _⟩
  · exact ⟨a, c, rfl⟩
  · exact ⟨_, cap, rfl⟩
theorem OwnPs.lt {base : Nat} {w : World} {v : Value} {n : Nat} {dc : Nat → Int} {pl : Nat → Value} {ln : Nat → Nat} {vl : Nat → Nat → Int} (h : OwnPs base w v n dc pl ln vl) : ∀ x ∈ fpP v n pl, base ≤ x ∧ x < w.heap.size := by
  intro x hx
  rcases h with ⟨rfl, a, c, rfl⟩ | ⟨h0, g, cap, rfl, ho⟩
  · rcases mem_fpP.1 hx with hx | ⟨i, hi, _⟩
    · rw [ablk_zero] at hx; cases hx
    · omega
  · rcases mem_fpP.1 hx with hx | ⟨i, hi, hx⟩
    · rw [ablk_row h0] at hx; simp at hx; subst hx; exact ⟨ho.row.1, ho.row.2.1⟩
    · exact (ho.own i hi).lt x hx
theorem OwnPs.off {base : Nat} {w w' : World} {v : Value} {n : Nat} {dc : Nat → Int} {pl : Nat → Value} {ln : Nat → Nat} {vl : Nat → Nat → Int} {S : List Nat} (h : OwnPs base w v n dc pl ln vl) (hb : Off S w w') (hd : ∀ x ∈ fpP v n pl, x ∉ S) : OwnPs base w' v n dc pl ln vl := by
  rcases h with h | ⟨h0, g, cap, rfl, ho⟩
  · exact .inl h
  · have hg := hb.block g ho.row.2.1 (hd g (mem_fpP.2 (.inl (by rw [ablk_row h0]; simp))))
    exact .inr ⟨h0, g, cap, rfl, ⟨⟨ho.row.1, Nat.lt_of_lt_of_le ho.row.2.1 hb.size, fun i hi => by simp only [World.cell?, hg]; exact ho.row.2.2.1 i hi, fun i hi => by simp only [World.frozen?, hg]; exact ho.row.2.2.2 i hi⟩,
      fun i hi => (ho.own i hi).off hb fun x hx => hd x (mem_fpP.2 (.inr ⟨i, hi, hx⟩)), ho.apart, ho.disj⟩⟩
theorem OwnPs.below {base : Nat} {w w' : World} {v : Value} {n : Nat} {dc : Nat → Int} {pl : Nat → Value} {ln : Nat → Nat} {vl : Nat → Nat → Int} (h : OwnPs base w v n dc pl ln vl) (hb : Below w.heap.size w w') : OwnPs base w' v n dc pl ln vl := h.off (Off.of (S := []) hb) (by simp)
theorem OwnPs.mono {base base' : Nat} {w : World} {v : Value} {n : Nat} {dc : Nat → Int} {pl : Nat → Value} {ln : Nat → Nat} {vl : Nat → Nat → Int} (h : OwnPs base w v n dc pl ln vl) (hb : base' ≤ base) : OwnPs base' w v n dc pl ln vl := by
  rcases h with h | ⟨h0, g, cap, rfl, ho⟩
  · exact .inl h
  · exact .inr ⟨h0, g, cap, rfl, ⟨ho.row.mono hb, fun i hi => (ho.own i hi).mono hb, ho.apart, ho.disj⟩⟩
/-- The list ps. -/
def OwnsP (base : Nat) (w : World) (v : Value) (ps : List Po) (pl : Nat → Value) : Prop := OwnPs base w v ps.length (fun i => (ps.getD i default).1) pl (fun i => (ps.getD i default).2.length) (fun i t => (ps.getD i default).2.getD t 0)
theorem OwnsP.at {base : Nat} {w : World} {v : Value} {ps : List Po} {pl : Nat → Value} (h : OwnsP base w v ps pl) : PosAt w v ps := by
  rcases h with ⟨h0, a, c, rfl⟩ | ⟨h0, g, cap, rfl, ho⟩
  · exact .inl ⟨a, c, rfl, List.eq_nil_of_length_eq_zero h0⟩
  · refine .inr ⟨g, 0, cap, rfl, ho.row.2.1, fun i hi => ⟨pl i, ?_, ?_, (ho.own i hi).ints⟩⟩
    · have := ho.row.2.2.1 (i * 2) (by omega)
      rw [Nat.zero_add, this]
      simp
    · have := ho.row.2.2.1 (i * 2 + 1) (by omega)
      rw [Nat.zero_add, this]
      have e1 : (i * 2 + 1) % 2 ≠ 0 := by omega
      have e2 : (i * 2 + 1) / 2 = i := by omega
      simp [e2]
theorem PosAt.rows {w : World} {v : Value} {ps : List Po} (h : PosAt w v ps) {i : Nat} (hi : i < ps.length) : ∃ b off cap, v = .slice (some ⟨b, off, none⟩) ps.length cap ∧ b < w.heap.size ∧ PoAt w b (off + i * 2) (ps.getD i default) := by
  rcases h with ⟨_, _, _, rfl⟩ | ⟨b, off, cap, h1, h2, h3⟩
  · simp at hi
  · exact ⟨b, off, cap, h1, h2, h3 i hi⟩
/-! ### how posts come in -/
theorem ints_of1 {H : Type} {enc : TypeId × Value → H} {W : World} {base n : Nat} {held : Bool} {v : Value} {y : DataW H × List MemPlace}
    (h : DataW.trod enc Try.prog W base (fun _ => true) held n 37 [v] = some y) : ∃ zs, IntsAt W v zs ∧ zs.length ≤ maxLen := by
  have hv : ∃ ad len cap, v = .slice ad len cap := by
    rcases open_slice Try.underlying37 h with ⟨hcs, _⟩ | ⟨x, l, c, m, n, D, Pl, hcs, _⟩
    · simp at hcs; exact ⟨_, _, _, hcs⟩
    · simp at hcs; exact ⟨_, _, _, hcs⟩
  obtain ⟨ad, len, cap, hv⟩ := hv
  subst hv
  exact ints_of (d := y.1) (p := y.2) ⟨n, h⟩
theorem cellsLPo : Try.prog.cellsOf 100 = 2 := by kernel_rfl
theorem choose_lt2 {α : Type} [Inhabited α] {l : Nat} {p : Nat → α → Prop} (h : ∀ i, i < l → ∃ x, p i x) : ∃ f : Nat → α, ∀ i, i < l → p i (f i) := by
  classical
  refine ⟨fun i => if hi : i < l then Classical.choose (h i hi) else default, fun i hi => ?_⟩
  simp only [dif_pos hi]
  exact Classical.choose_spec (h i hi)
set_option maxRecDepth 100000 in
theorem onePo {H : Type} {enc : TypeId × Value → H} {W : World} {base : Nat} {held : Bool} {n : Nat} {b off : Nat} {cs : List Value} {x : DataW H × List MemPlace}
    (hc : W.cells? base ⟨b, off, none⟩ 2 = some cs) (h : DataW.trod enc Try.prog W base (fun _ => true) held n 100 cs = some x) : ∃ p : Po, PoAt W b off p ∧ p.2.length ≤ maxLen := by
  obtain ⟨_, hlen, hcell⟩ := World.cells?_some hc
  obtain ⟨xs, k, hk, hxy, _, hxl, hf⟩ := DataW.trod_struct Try.underlying100 h
  match xs, hxl, cs, hlen with
  | [y0, y1], _, [c0, c1], _ =>
    have g0 := hf 0 _ rfl
    have g1 := hf 1 _ rfl
    have q0 : DataW.trod enc Try.prog W base (fun _ => true) held k 3 [c0] = some y0 := g0
    have q1 : DataW.trod enc Try.prog W base (fun _ => true) held k 37 [c1] = some y1 := g1
    obtain ⟨a, e0, x0, wa⟩ := DataW.trod_int Try.underlying3 q0
    simp at e0
    obtain ⟨zs, h7, h8⟩ := ints_of1 q1
    have d0 := hcell 0 (by omega)
    have d1 := hcell 1 (by omega)
    simp [Addr.add] at d0 d1
    exact ⟨(a, zs), ⟨_, by rw [d0, e0], d1, h7⟩, h8⟩
set_option maxRecDepth 100000 in
theorem pos_of {H : Type} {enc : TypeId × Value → H} {W : World} {base b0 : Nat} {held : Bool} {r : Reach} {v : Value} {d : DataW H} {p : List MemPlace}
    (hvk : Value.okWide Try.prog W r b0 62 v) (h : DataW.Trod enc Try.prog W base (fun _ => true) held 62 v d p) : ∃ ps, PosAt W v ps ∧ RePs ps := by
  obtain ⟨ad, len, cap, rfl⟩ := okWide_slice Try.underlying62 hvk
  obtain ⟨fuel, hf⟩ := h
  have hf : DataW.trod enc Try.prog W base (fun _ => true) held fuel 62 [.slice ad len cap] = some (d, p) := hf
  rcases open_slice Try.underlying62 hf with ⟨hcs, _⟩ | ⟨x, l, c, m, n, D, Pl, hcs, hb, hl, hm, hmm, _, hx⟩
  · simp at hcs
    obtain ⟨rfl, rfl, rfl⟩ := hcs
    exact ⟨[], .inl ⟨_, _, rfl, rfl⟩, by simp, by simp⟩
  · simp at hcs
    obtain ⟨rfl, rfl, rfl⟩ := hcs
    have hlm : len ≤ m := by rw [hmm]; simp; omega
    by_cases h0 : len = 0
    · subst h0
      exact ⟨[], .inl ⟨_, _, rfl, rfl⟩, by simp, by simp⟩
    · obtain ⟨b, off, spot⟩ := x
      have hspot : spot = none := by
        obtain ⟨cs', h1, _⟩ := hx 0 (by omega)
        rw [cellsLPo] at h1
        obtain ⟨_, hlen, hcell⟩ := World.cells?_some h1
        have hc := hcell 0 (by omega)
        cases cs' with
        | nil => simp at hlen
        | cons c cs =>
          have hc' : W.cell? ((⟨b, off, spot⟩ : Addr).add (0 * 2 + 0)) = some c := by rw [← add_add]; exact hc
          simpa [Addr.add] using World.cell?_spot hc'
      subst hspot
      have hadd : ∀ i, ((⟨b, off, none⟩ : Addr).add i) = ⟨b, off + i, none⟩ := fun i => by simp [Addr.add]
      have each : ∀ i, i < len → ∃ p : Po, PoAt W b (off + i * 2) p ∧ p.2.length ≤ maxLen := by
        intro i hi
        obtain ⟨cs', h1, h2⟩ := hx i (by omega)
        rw [cellsLPo, hadd] at h1
        exact onePo h1 h2
      obtain ⟨f, hf'⟩ := choose_lt2 each
      have hbl : b < W.heap.size := by
        obtain ⟨kv, h1, _⟩ := (hf' 0 (by omega)).1
        exact World.block_lt_of_cell? W ⟨b, off + 0 * 2, none⟩ h1
      refine ⟨(List.range len).map f, .inr ⟨b, off, _, by simp; rfl, hbl, fun i hi => ?_⟩, by simp; omega, fun v hv => ?_⟩
      · have hi' : i < len := by simpa using hi
        have := (hf' i hi').1
        simpa [List.getD, hi'] using this
      · simp only [List.mem_map, List.mem_range] at hv
        obtain ⟨i, hi, rfl⟩ := hv
        exact (hf' i hi).2
end Go.Proofs.Ytkkmnegmghllpaa
