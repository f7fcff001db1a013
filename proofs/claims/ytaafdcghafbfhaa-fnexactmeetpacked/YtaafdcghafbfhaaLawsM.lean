/- Marks on an answer's lists, and on packed lists. Condition: they lie in memory, and may be written. -/
import Derived.Test.YtaafdcghafbfhaaLawsP
namespace Go.Proofs.Ytaafdcghafbfhaa
open Go.ChangeShapes Go.WideShapes Go.ChangeAt Go.RowKit Go.Deep
set_option linter.unusedVariables false
attribute [local go_sem ↓] Go.wp_at_zero Go.wp_at_succ

/-- The block of a list that has elements. -/
def ablk : Value → List Nat
  | .slice (some a) (_ + 1) _ => [a.block]
  | _ => []
/-- An answer's list: its own, from base on. -/
def OwnA (base : Nat) (w : World) (v : Value) (n : Nat) (f : Nat → Value) : Prop := (n = 0 ∧ ∃ a c, v = .slice a 0 c) ∨ (0 < n ∧ ∃ g cap, v = .slice (some ⟨g, 0, none⟩) n cap ∧ OwnRow base w g n f)
theorem OwnA.slice {base : Nat} {w : World} {v : Value} {n : Nat} {f : Nat → Value} (h : OwnA base w v n f) : ∃ a c, v = .slice a n c := by
  rcases h with ⟨rfl, a, c, rfl⟩ | ⟨_, g, cap, rfl, _⟩
  · exact ⟨a, c, rfl⟩
  · exact ⟨_, cap, rfl⟩
theorem ablk_row {g n cap : Nat} (h : 0 < n) : ablk (.slice (some ⟨g, 0, none⟩) n cap) = [g] := by
  cases n with
  | zero => omega
  | succ n => rfl
theorem ablk_zero (a : Option Addr) (c : Nat) : ablk (.slice a 0 c) = [] := by cases a <;> rfl
theorem OwnA.lt {base : Nat} {w : World} {v : Value} {n : Nat} {f : Nat → Value} (h : OwnA base w v n f) : ∀ g ∈ ablk v, base ≤ g ∧ g < w.heap.size := by
  rcases h with ⟨rfl, a, c, rfl⟩ | ⟨h0, g, cap, rfl, ho⟩
  · intro g hg; rw [ablk_zero] at hg; cases hg
  · intro x hx; rw [ablk_row h0] at hx; simp at hx; subst hx; exact ⟨ho.1, ho.2.1⟩
theorem OwnA.below {base : Nat} {w w' : World} {v : Value} {n : Nat} {f : Nat → Value} (h : OwnA base w v n f) (hb : Below w.heap.size w w') : OwnA base w' v n f := by
  rcases h with h | ⟨h0, g, cap, rfl, ho⟩
  · exact .inl h
  · exact .inr ⟨h0, g, cap, rfl, ho.below hb⟩
theorem OwnA.off {base : Nat} {w w' : World} {v : Value} {n : Nat} {f : Nat → Value} {S : List Nat} (h : OwnA base w v n f) (hb : Off S w w') (hd : ∀ g ∈ ablk v, g ∉ S) : OwnA base w' v n f := by
  rcases h with h | ⟨h0, g, cap, rfl, ho⟩
  · exact .inl h
  · have hg := hb.block g ho.2.1 (hd g (by rw [ablk_row h0]; simp))
    exact .inr ⟨h0, g, cap, rfl, ho.1, Nat.lt_of_lt_of_le ho.2.1 hb.size, fun i hi => by simp only [World.cell?, hg]; exact ho.2.2.1 i hi, fun i hi => by simp only [World.frozen?, hg]; exact ho.2.2.2 i hi⟩
theorem OwnA.mono {base base' : Nat} {w : World} {v : Value} {n : Nat} {f : Nat → Value} (h : OwnA base w v n f) (hb : base' ≤ base) : OwnA base' w v n f := by
  rcases h with h | ⟨h0, g, cap, rfl, ho⟩
  · exact .inl h
  · exact .inr ⟨h0, g, cap, rfl, ho.mono hb⟩
theorem OwnA.ints {base : Nat} {w : World} {v : Value} {zs : List Int} (h : OwnA base w v zs.length (fun i => .int .i64 (zs.getD i 0))) : IntsAt w v zs := by
  rcases h with ⟨h0, a, c, rfl⟩ | ⟨h0, g, cap, rfl, ho⟩
  · exact .inl ⟨a, c, rfl, List.eq_nil_of_length_eq_zero h0⟩
  · exact ho.intsL cap
theorem OwnA.bools {base : Nat} {w : World} {v : Value} {zs : List Bool} (h : OwnA base w v zs.length (fun i => .bool (zs.getD i false))) : BoolsAt w v zs := by
  rcases h with ⟨h0, a, c, rfl⟩ | ⟨h0, g, cap, rfl, ho⟩
  · exact .inl ⟨a, c, rfl, List.eq_nil_of_length_eq_zero h0⟩
  · exact ho.boolsL cap
theorem OwnA.ofRow {base : Nat} {w : World} {g n : Nat} {f : Nat → Value} (h : OwnRow base w g n f) (cap : Nat) : OwnA base w (.slice (some ⟨g, 0, none⟩) n cap) n f := by
  rcases Nat.eq_zero_or_pos n with h0 | h0
  · subst h0; exact .inl ⟨rfl, _, _, rfl⟩
  · exact .inr ⟨h0, g, cap, rfl, h⟩
def intsV (zs : List Int) : List Value := zs.map (Value.int .i64)
def boolsV (zs : List Bool) : List Value := zs.map Value.bool
theorem OwnA.ofInts {base : Nat} {w : World} {v : Value} {zs : List Int} {e : TypeId} (h : OwnS w base e v zs.length (intsV zs)) : OwnA base w v zs.length (fun i => .int .i64 (zs.getD i 0)) ∧ ∀ g ∈ ablk v, g ∈ obl v := by
  rcases row_of_ownS h with ⟨h0, a, c, rfl⟩ | ⟨h0, g, cap, rfl, hg, ho⟩
  · exact ⟨.inl ⟨h0, a, c, rfl⟩, fun g hg => by rw [ablk_zero] at hg; cases hg⟩
  · exact ⟨.inr ⟨h0, g, cap, rfl, ho.congr fun i hi => by simp [intsV, List.getD, hi]⟩, fun x hx => by rw [ablk_row h0] at hx; simp at hx; subst hx; exact hg⟩
theorem OwnA.ofBools {base : Nat} {w : World} {v : Value} {zs : List Bool} {e : TypeId} (h : OwnS w base e v zs.length (boolsV zs)) : OwnA base w v zs.length (fun i => .bool (zs.getD i false)) ∧ ∀ g ∈ ablk v, g ∈ obl v := by
  rcases row_of_ownS h with ⟨h0, a, c, rfl⟩ | ⟨h0, g, cap, rfl, hg, ho⟩
  · exact ⟨.inl ⟨h0, a, c, rfl⟩, fun g hg => by rw [ablk_zero] at hg; cases hg⟩
  · exact ⟨.inr ⟨h0, g, cap, rfl, ho.congr fun i hi => by simp [boolsV, List.getD, hi]⟩, fun x hx => by rw [ablk_row h0] at hx; simp at hx; subst hx; exact hg⟩
theorem off_gb {w w' : World} {g : Nat} (h : w.grownBy w' (some g)) : Off [g] w w' := ⟨h.os, h.tape, h.output, h.size, fun k hk hn => h.block k hk (fun e => by cases e; exact hn (by simp))⟩
set_option maxHeartbeats 1600000 in
theorem markIntE (base q n : Nat) (v : Value) (f : Nat → Value) (w : World) (h : OwnA base w v n f) (hn : ((q + n : Nat) : Int) < 10000000000000) (hf : ∀ i, i < n → ∃ x, f i = .int .i64 x) :
    Calls Try.prog 40 #[v, .int .i64 q] w fun e w' => e = .returned (.int .i64 ((q + n : Nat) : Int)) ∧ OwnA base w' v n (fun i => .int .i64 ((q + i : Nat) : Int)) ∧ Off (ablk v) w w' := by
  rcases h with ⟨h0, a, c, rfl⟩ | ⟨h0, g, cap, rfl, ho⟩
  · subst h0
    have hk : ((q + 0 : Nat) : Int) = (q : Int) := rfl
    rw [hk]
    clear hn hk
    go_enter Try.func40, Try.ntmps40
    go_wp2
    go_loopw [1, 5] (fun r i wr => i = .int .i64 0 ∧ r = .int .i64 q ∧ wr = w) (fun _ _ _ => 0)
    case atStart => exact ⟨rfl, rfl, rfl⟩
    case round =>
      obtain ⟨rfl, rfl, hw⟩ := hrel
      subst wr
      go_wp2
      go_ret
      exact ⟨rfl, .inl ⟨rfl, a, c, rfl⟩, Off.refl _ _⟩
  · refine (markIntO base g n cap q f w ho hn hf).mono ?_
    rintro e w' ⟨rfl, h1, h2⟩
    exact ⟨rfl, .inr ⟨h0, g, cap, rfl, h1⟩, by rw [ablk_row h0]; exact off_gb h2⟩
set_option maxHeartbeats 1600000 in
theorem heldIntE (base q n : Nat) (v : Value) (w : World) (h : OwnA base w v n (fun i => .int .i64 ((q + i : Nat) : Int))) (hn : ((q + n : Nat) : Int) < 10000000000000) :
    Calls Try.prog 46 #[v, .int .i64 q] w fun e w' => e = .returned (.int .i64 ((q + n : Nat) : Int)) ∧ Below w.heap.size w w' := by
  rcases h with ⟨h0, a, c, rfl⟩ | ⟨h0, g, cap, rfl, ho⟩
  · subst h0
    have hk : ((q + 0 : Nat) : Int) = (q : Int) := rfl
    rw [hk]
    clear hn hk
    go_enter Try.func46, Try.ntmps46
    go_wp2
    go_loopw [1, 5] (fun r i wr => i = .int .i64 0 ∧ r = .int .i64 q ∧ wr = w) (fun _ _ _ => 0)
    case atStart => exact ⟨rfl, rfl, rfl⟩
    case round =>
      obtain ⟨rfl, rfl, hw⟩ := hrel
      subst wr
      go_wp2
      go_ret
      exact ⟨rfl, Below.refl _ _⟩
  · refine (heldIntO base g n cap q w ho hn).mono ?_
    rintro e w' ⟨rfl, rfl⟩
    exact ⟨rfl, Below.refl _ _⟩
set_option maxHeartbeats 1600000 in
theorem markBoolE (base q n : Nat) (v : Value) (f : Nat → Value) (w : World) (h : OwnA base w v n f) (hn : ((q + n : Nat) : Int) < 10000000000000) (hf : ∀ i, i < n → ∃ x, f i = .bool x) :
    Calls Try.prog 64 #[v, .int .i64 q] w fun e w' => e = .returned (.int .i64 ((q + n : Nat) : Int)) ∧ OwnA base w' v n (fun i => .bool (mk3 (q + i))) ∧ Off (ablk v) w w' := by
  rcases h with ⟨h0, a, c, rfl⟩ | ⟨h0, g, cap, rfl, ho⟩
  · subst h0
    have hk : ((q + 0 : Nat) : Int) = (q : Int) := rfl
    rw [hk]
    clear hn hk
    go_enter Try.func64, Try.ntmps64
    go_wp2
    go_loopw [1, 5] (fun r i wr => i = .int .i64 0 ∧ r = .int .i64 q ∧ wr = w) (fun _ _ _ => 0)
    case atStart => exact ⟨rfl, rfl, rfl⟩
    case round =>
      obtain ⟨rfl, rfl, hw⟩ := hrel
      subst wr
      go_wp2
      go_ret
      exact ⟨rfl, .inl ⟨rfl, a, c, rfl⟩, Off.refl _ _⟩
  · refine (markBoolO base g n cap q f w ho hn hf).mono ?_
    rintro e w' ⟨rfl, h1, h2⟩
    exact ⟨rfl, .inr ⟨h0, g, cap, rfl, h1⟩, by rw [ablk_row h0]; exact off_gb h2⟩
set_option maxHeartbeats 1600000 in
theorem heldBoolE (base q n : Nat) (v : Value) (w : World) (h : OwnA base w v n (fun i => .bool (mk3 (q + i)))) (hn : ((q + n : Nat) : Int) < 10000000000000) :
    Calls Try.prog 65 #[v, .int .i64 q] w fun e w' => e = .returned (.int .i64 ((q + n : Nat) : Int)) ∧ Below w.heap.size w w' := by
  rcases h with ⟨h0, a, c, rfl⟩ | ⟨h0, g, cap, rfl, ho⟩
  · subst h0
    have hk : ((q + 0 : Nat) : Int) = (q : Int) := rfl
    rw [hk]
    clear hn hk
    go_enter Try.func65, Try.ntmps65
    go_wp2
    go_loopw [1, 5] (fun r i wr => i = .int .i64 0 ∧ r = .int .i64 q ∧ wr = w) (fun _ _ _ => 0)
    case atStart => exact ⟨rfl, rfl, rfl⟩
    case round =>
      obtain ⟨rfl, rfl, hw⟩ := hrel
      subst wr
      go_wp2
      go_ret
      exact ⟨rfl, Below.refl _ _⟩
  · refine (heldBoolO base g n cap q w ho hn).mono ?_
    rintro e w' ⟨rfl, rfl⟩
    exact ⟨rfl, Below.refl _ _⟩
/-- A packed list whose rows are its own, and lie apart. -/
def PkA (base : Nat) (w : World) (lv hv : Value) (p : Pk) : Prop := OwnA base w lv p.lows.length (fun i => .int .i64 (p.lows.getD i 0)) ∧ OwnA base w hv p.high.length (fun i => .bool (p.high.getD i false)) ∧ ∀ g ∈ ablk lv, g ∉ ablk hv
theorem PkA.at {base : Nat} {w : World} {lv hv : Value} {p : Pk} (h : PkA base w lv hv p) : PkAt w lv hv p := ⟨h.1.ints, h.2.1.bools⟩
theorem PkA.below {base : Nat} {w w' : World} {lv hv : Value} {p : Pk} (h : PkA base w lv hv p) (hb : Below w.heap.size w w') : PkA base w' lv hv p := ⟨h.1.below hb, h.2.1.below hb, h.2.2⟩
theorem PkA.off {base : Nat} {w w' : World} {lv hv : Value} {p : Pk} {S : List Nat} (h : PkA base w lv hv p) (hb : Off S w w') (hd : ∀ g ∈ ablk lv ++ ablk hv, g ∉ S) : PkA base w' lv hv p :=
  ⟨h.1.off hb fun g hg => hd g (by simp [hg]), h.2.1.off hb fun g hg => hd g (by simp [hg]), h.2.2⟩
theorem PkOwn.a {base : Nat} {w : World} {g q : Nat} {p : Pk} (h : PkOwn base w g q p) (c d : Nat) : PkA base w (.slice (some ⟨g, 0, none⟩) p.lows.length c) (.slice (some ⟨q, 0, none⟩) p.high.length d) p := by
  refine ⟨.ofRow h.1 c, .ofRow h.2.1 d, fun x hx hy => ?_⟩
  rcases Nat.eq_zero_or_pos p.lows.length with h0 | h0
  · rw [h0, ablk_zero] at hx; cases hx
  · rcases Nat.eq_zero_or_pos p.high.length with h1 | h1
    · rw [h1, ablk_zero] at hy; cases hy
    · rw [ablk_row h0] at hx
      rw [ablk_row h1] at hy
      simp at hx hy
      exact h.2.2 (hx.symm.trans hy)
/-- The same with marks from k on. -/
def PkMk (base : Nat) (w : World) (lv hv : Value) (n m k : Nat) : Prop := OwnA base w lv n (fun i => .int .i64 ((k + i : Nat) : Int)) ∧ OwnA base w hv m (fun i => .bool (mk3 (k + n + i))) ∧ ∀ g ∈ ablk lv, g ∉ ablk hv
theorem PkMk.below {base : Nat} {w w' : World} {lv hv : Value} {n m k : Nat} (h : PkMk base w lv hv n m k) (hb : Below w.heap.size w w') : PkMk base w' lv hv n m k := ⟨h.1.below hb, h.2.1.below hb, h.2.2⟩
theorem off_below {S : List Nat} {a b c : World} (h : Off S a b) (hb : Below b.heap.size b c) : Off S a c := h.trans (Off.of hb)
set_option maxHeartbeats 3200000 in
theorem markPk (base k : Nat) (p : Pk) (M L : Int) (lv hv : Value) (w : World) (h : PkA base w lv hv p) (hn : ((k + p.lows.length + p.high.length : Nat) : Int) < 10000000000000) :
    Calls Try.prog 41 #[.agg #[.int .i64 M, .int .i64 L, lv, hv], .int .i64 k] w fun e w' => e = .returned (.int .i64 ((k + p.lows.length + p.high.length : Nat) : Int)) ∧ PkMk base w' lv hv p.lows.length p.high.length k ∧ Off (ablk lv ++ ablk hv) w w' := by
  have T1 := fun W (hW : OwnA base W lv p.lows.length (fun i => .int .i64 (p.lows.getD i 0))) => markIntE base k p.lows.length lv _ W hW (by omega) (fun i _ => ⟨_, rfl⟩)
  have T2 := fun W (hW : OwnA base W hv p.high.length (fun i => .bool (p.high.getD i false))) => markBoolE base (k + p.lows.length) p.high.length hv _ W hW (by omega) (fun i _ => ⟨_, rfl⟩)
  have HS := hid h
  obtain ⟨la, lc, rfl⟩ := h.1.slice
  obtain ⟨ha, hc, rfl⟩ := h.2.1.slice
  obtain ⟨N, hN⟩ : ∃ N, N = k + p.lows.length := ⟨_, rfl⟩
  obtain ⟨E, hE⟩ : ∃ E, E = N + p.high.length := ⟨_, rfl⟩
  rw [← hN] at hn T1 T2 ⊢
  rw [← hE] at hn T2 ⊢
  have HN := hid hN
  clear h hn hN hE
  go_enter Try.func41, Try.ntmps41
  go_wp2_with fail
  refine (T1 _ (HS.out.below (by go_grown)).1).mono ?_
  rintro e w1 ⟨rfl, h1, o1⟩
  have H1 := hid h1
  have O1 : Hid (Off (ablk (.slice la p.lows.length lc)) w w1) := by
    refine Off.trans (Off.of ?_) o1
    go_grown
  have hb1 : w.heap.size < w1.heap.size := by have := o1.size; simp at this; omega
  have c3 : w1.cell? ⟨w.heap.size, 3, none⟩ = some (.slice ha p.high.length hc) := by
    have hk := o1.block w.heap.size (by simp) (fun hm => by have := (HS.out.1.lt _ hm).2; omega)
    have h0 : (w.alloc (.cells #[.int .i64 M, .int .i64 L, .slice la p.lows.length lc, .slice ha p.high.length hc] 27)).cell? ⟨w.heap.size, 3, none⟩ = some (.slice ha p.high.length hc) := by simp [World.cell?_alloc_new]
    simp only [World.cell?] at h0 ⊢
    rw [hk]
    exact h0
  have H2 := hid ((HS.out.2.1).off O1.out (fun g hg hm => HS.out.2.2 g hm hg))
  clear h1 o1 T1
  go_wp2_with fail
  refine (T2 _ H2.out).mono ?_
  rintro e w2 ⟨rfl, h2, o2⟩
  have HF : Hid (PkMk base w2 (.slice la p.lows.length lc) (.slice ha p.high.length hc) p.lows.length p.high.length k) :=
    ⟨H1.out.off o2 HS.out.2.2, by rw [← HN.out]; exact h2, HS.out.2.2⟩
  have HO : Hid (Off (ablk (.slice la p.lows.length lc) ++ ablk (.slice ha p.high.length hc)) w w2) := (O1.out.mono (fun g hg => .inl (by simp [hg]))).trans (o2.mono (fun g hg => .inl (by simp [hg])))
  clear h2 o2 T2 c3
  go_wp2
  go_returns
  exact ⟨rfl, HF.out, HO.out⟩
set_option maxHeartbeats 3200000 in
theorem heldPk (base n m k : Nat) (M L : Int) (lv hv : Value) (w : World) (h : PkMk base w lv hv n m k) (hn : ((k + n + m : Nat) : Int) < 10000000000000) :
    Calls Try.prog 42 #[.agg #[.int .i64 M, .int .i64 L, lv, hv], .int .i64 k] w fun e w' => e = .returned (.int .i64 ((k + n + m : Nat) : Int)) ∧ Below w.heap.size w w' := by
  have T1 := fun W hW => heldIntE base k n lv W hW (by omega)
  have T2 := fun W hW => heldBoolE base (k + n) m hv W hW (by omega)
  have HS := hid h
  obtain ⟨la, lc, rfl⟩ := h.1.slice
  obtain ⟨ha, hc, rfl⟩ := h.2.1.slice
  obtain ⟨N, hN⟩ : ∃ N, N = k + n := ⟨_, rfl⟩
  obtain ⟨E, hE⟩ : ∃ E, E = N + m := ⟨_, rfl⟩
  rw [← hN] at T1 T2 hn ⊢
  rw [← hE] at T2 hn ⊢
  have hN0 : ¬ (N : Int) < 0 := by omega
  have hE0 : ¬ (E : Int) < 0 := by omega
  have HN : Hid (N = k + n) := hN
  clear h hn hN hE
  go_enter Try.func42, Try.ntmps42
  go_wp2_with fail
  refine (T1 _ (HS.out.1.below (by go_grown))).mono ?_
  rintro e w1 ⟨rfl, hb1⟩
  obtain ⟨hc1, hf1⟩ := bcell hb1
  have hz1 := hb1.size
  try simp only [World.size_drew] at hz1
  try simp only [World.size_setCell] at hz1
  try simp only [World.size_alloc] at hz1
  have hz1_0 : w.heap.size < w1.heap.size := by omega
  clear hz1
  have k1 : Below w.heap.size w w1 := by
    refine Below.trans ?_ (hb1.mono ?_)
    · go_grown
    · go_size
  have hl1 : w.heap.size ≤ w1.heap.size := k1.size
  clear hb1
  go_wp2_with fail
  refine (T2 _ (by rw [HN.out]; exact HS.out.2.1.below (by go_grown))).mono ?_
  rintro e w2 ⟨rfl, hb2⟩
  obtain ⟨hc2, hf2⟩ := bcell hb2
  have hz2 := hb2.size
  try simp only [World.size_drew] at hz2
  try simp only [World.size_setCell] at hz2
  try simp only [World.size_alloc] at hz2
  have hz2_0 : w.heap.size < w2.heap.size := by omega
  try have hy2_1 : w1.heap.size < w2.heap.size := (by omega)
  clear hz2
  have k2 : Below w.heap.size w w2 := by
    refine Below.trans ?_ (hb2.mono ?_)
    · go_grown
    · go_size
  have hl2 : w.heap.size ≤ w2.heap.size := k2.size
  clear hb2
  go_wp2
  go_returns
  exact ⟨rfl, by go_grown⟩
end Go.Proofs.Ytaafdcghafbfhaa
