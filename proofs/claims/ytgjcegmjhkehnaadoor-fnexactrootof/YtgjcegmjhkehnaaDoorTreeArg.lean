/- Contract of the laws' measure of trees; trees that came in, opened. Condition: the pages lie in memory. -/
import Derived.Test.YtgjcegmjhkehnaaDoorLawsX
import Derived.Deep.Slices
import Derived.Lib.SmallJoins
namespace Go.Proofs.YtgjcegmjhkehnaaDoor
open Go.ChangeShapes Go.WideShapes Go.ChangeAt Go.RowKit Go.Joins Go.Deep
set_option linter.unusedVariables false
attribute [local go_sem ↓] Go.wp_at_zero Go.wp_at_succ

def sumP (ps : List Pg) : Nat := ps.foldl (fun n p => n + amtP p) 0
theorem sumP_snoc (ps : List Pg) (p : Pg) : sumP (ps ++ [p]) = sumP ps + amtP p := by simp [sumP]
theorem sumP_append (a b : List Pg) : sumP (a ++ b) = sumP a + sumP b := by
  have : ∀ (l : List Pg) (n : Nat), l.foldl (fun n v => n + amtP v) n = n + l.foldl (fun n v => n + amtP v) 0 := by
    intro l
    induction l with
    | nil => intro n; simp
    | cons x l ih => intro n; simp only [List.foldl_cons]; rw [ih (n + amtP x), ih (0 + amtP x)]; omega
  simp only [sumP, List.foldl_append]; rw [this]
theorem takeP (ps : List Pg) (k : Nat) (h : k < ps.length) : ps.take (k + 1) = ps.take k ++ [ps.getD k default] := by
  rw [List.take_succ_eq_append_getElem h]; simp [List.getD, h]
theorem sumP_take (ps : List Pg) (k : Nat) : sumP (ps.take k) ≤ sumP ps := by
  have := sumP_append (ps.take k) (ps.drop k); rw [List.take_append_drop] at this; omega
theorem amt_le {ps : List Pg} {p : Pg} (h : p ∈ ps) : amtP p ≤ sumP ps := by
  obtain ⟨i, hi, he⟩ := List.getElem_of_mem h
  have h1 := sumP_take ps (i + 1)
  rw [takeP ps i hi, sumP_snoc] at h1
  have : ps.getD i default = p := by simp [List.getD, hi, he]
  rw [this] at h1
  omega
/-- What is left of z behind the pages, or -1. -/
def szRP (z : Nat) (ps : List Pg) : Int := if ps.length + sumP ps ≤ z then ((z - (ps.length + sumP ps) : Nat) : Int) else -1
/-- Pages that the form's own reach lets in. -/
def ReTree (ps : List Pg) : Prop := ps.length ≤ maxLen ∧ ∀ p ∈ ps, RePg p
theorem ReTree.small {ps : List Pg} (h : ReTree ps) (ha : ps.length + sumP ps ≤ 1048576) : Small ps ∧ Texts ps := by
  refine ⟨⟨by omega, fun p hp => ?_⟩, fun p hp => ⟨(h.2 p hp).2.1, (h.2 p hp).2.2⟩⟩
  have := amt_le hp
  unfold amtP at this
  omega
set_option maxHeartbeats 3200000 in
theorem szPgs (x : Value) (ps : List Pg) (z : Nat) (w : World) (h : LPgsAt w x ps) (hz : z ≤ 1048576) (hm : ReTree ps) :
    Calls Tryd.prog 60 #[x, .int .i64 z] w fun e w' => e = .returned (.int .i64 (szRP z ps)) ∧ Below w.heap.size w w' := by
  obtain ⟨hlen, hre⟩ := hm
  unfold maxLen at hlen
  rcases h with ⟨a0, c0, rfl, rfl⟩ | ⟨b, off, cap, rfl, hb, hcell⟩
  · have HR : Hid (szRP z [] = (z : Int)) := by show _ = _; simp [szRP, sumP]
    go_enter Tryd.func60, Tryd.ntmps60
    go_wp2
    go_loopw [1, 5] (fun x i wr => i = .int .i64 0 ∧ x = .int .i64 z ∧ wr = w) (fun _ _ _ => 0)
    case atStart => exact ⟨rfl, rfl, rfl⟩
    case round =>
      obtain ⟨rfl, rfl, rfl⟩ := hrel
      go_wp2
      go_ret
      exact ⟨ret_int (by rw [HR.out]), Below.refl _ _⟩
  · by_cases hbig : z < ps.length
    · have hl : (z : Int) - (ps.length : Int) < 0 := by omega
      have HR : Hid (szRP z ps = -1) := by show _ = _; unfold szRP; rw [if_neg (by omega)]
      clear hcell
      go_enter Tryd.func60, Tryd.ntmps60
      go_wp2
      go_ret
      exact ⟨ret_int (by rw [HR.out]), by go_grown⟩
    · have hl : ¬ (z : Int) - (ps.length : Int) < 0 := by omega
      have HC := hid hcell
      have HZ := hid hre
      clear hcell hre
      go_enter Tryd.func60, Tryd.ntmps60
      go_wp2
      go_loopw [1, 5] (fun x i wr => ∃ k : Nat, k ≤ ps.length ∧ ps.length + sumP (ps.take k) ≤ z ∧ i = .int .i64 k ∧ x = .int .i64 ((z : Int) - (ps.length : Int) - (sumP (ps.take k) : Nat)) ∧ Below w.heap.size w wr) (fun _ i _ => ps.length - (intOf i).toNat)
      case atStart => exact ⟨0, Nat.zero_le _, by simp [sumP]; omega, rfl, by simp [sumP], by go_grown⟩
      case round =>
        obtain ⟨k, hk, hle, rfl, rfl, kb⟩ := hrel
        have kl := kb.size
        by_cases hlt : k < ps.length
        · obtain ⟨kv, vv, cv, p0, p1, p2, hlp⟩ := (HC.out k hlt).below hb kb
          have hbr : b < wr.heap.size := by omega
          have hmp := HZ.out (ps.getD k default) (by simp [List.getD, hlt])
          have HS : Hid (sumP (ps.take (k + 1)) = sumP (ps.take k) + amtP (ps.getD k default)) := by
            show _ = _
            rw [takeP ps k hlt]; exact sumP_snoc _ _
          have HT : Hid (sumP (ps.take (k + 1)) ≤ sumP ps) := sumP_take ps (k + 1)
          have hki : (k : Int) < (ps.length : Int) := by omega
          have hk0 : (0 : Int) ≤ (k : Int) := by omega
          obtain ⟨Z, hZ⟩ : ∃ Z : Nat, (z : Int) - (ps.length : Int) - (sumP (ps.take k) : Nat) = (Z : Int) := ⟨z - ps.length - sumP (ps.take k), by omega⟩
          have hZ2 : Z ≤ 1048576 := by omega
          rw [hZ]
          have HZ3 := hid hZ
          clear hZ
          have HE := fun W (hW : Below wr.heap.size wr W) => szPg (ps.getD k default) kv vv cv Z W (hlp.below hW) hZ2 hmp
          obtain ⟨_, _, rfl⟩ := strs_len hlp.1
          obtain ⟨_, _, rfl⟩ := strs_len hlp.2.1
          obtain ⟨_, _, rfl⟩ := ints_len hlp.2.2
          clear hlp hmp
          by_cases hout : Z < amtP (ps.getD k default)
          · have HA : Hid (amtR Z (ps.getD k default) = -1) := by show _ = _; unfold amtR; rw [if_neg (by omega)]
            rw [HA.out] at HE
            have HR : Hid (szRP z ps = -1) := by show _ = _; unfold szRP; have h1 := HS.out; have h2 := HT.out; have h3 := HZ3.out; rw [if_neg (by omega)]
            clear HA hout
            generalize ps.getD k default = u at *
            go_wp2_with fail
            refine (HE _ (by go_grown)).mono ?_
            rintro e w1 ⟨rfl, hb1⟩
            have k1 : Below w.heap.size w w1 := kb.trans (hb1.mono kl)
            clear hb1 HE p0 p1 p2
            go_wp2
            go_ret
            exact ⟨ret_int (by rw [HR.out]), k1⟩
          · have HA : Hid (amtR Z (ps.getD k default) = ((Z - amtP (ps.getD k default) : Nat) : Int)) := by show _ = _; unfold amtR; rw [if_pos (by omega)]
            rw [HA.out] at HE
            have hout2 : amtP (ps.getD k default) ≤ Z := by omega
            have HV : Hid (((Z - amtP (ps.getD k default) : Nat) : Int) = (z : Int) - (ps.length : Int) - (sumP (ps.take (k + 1)) : Nat)) := by
              show _ = _
              have h1 := HS.out; have h3 := HZ3.out; omega
            have HLE : Hid (ps.length + sumP (ps.take (k + 1)) ≤ z) := by
              have h1 := HS.out; have h3 := HZ3.out; show _ ≤ _; omega
            generalize Z - amtP (ps.getD k default) = Y at *
            have hY : ¬ (Y : Int) < 0 := by omega
            clear HA hout hout2
            generalize ps.getD k default = u at *
            go_wp2_with fail
            refine (HE _ (by go_grown)).mono ?_
            rintro e w1 ⟨rfl, hb1⟩
            have k1 : Below w.heap.size w w1 := kb.trans (hb1.mono kl)
            clear hb1 HE p0 p1 p2
            go_wp2
            exact ⟨⟨k + 1, by omega, HLE.out, by go_num, by rw [HV.out], k1⟩, by simp [intOf]; omega⟩
        · have hke : k = ps.length := by omega
          subst hke
          rw [List.take_length] at hle
          have HR : Hid (szRP z ps = (z : Int) - (ps.length : Int) - (sumP ps : Nat)) := by show _ = _; unfold szRP; rw [if_pos hle]; omega
          rw [List.take_length]
          go_wp2
          go_ret
          exact ⟨ret_int (by rw [HR.out]), kb⟩
set_option maxHeartbeats 1600000 in
theorem szTreeIs (x : Value) (ps : List Pg) (z : Nat) (w : World) (h : LPgsAt w x ps) (hz : z ≤ 1048576) (hm : ReTree ps) :
    Calls Tryd.prog 17 #[.agg #[x], .int .i64 z] w fun e w' => e = .returned (.int .i64 (szRP z ps)) ∧ Below w.heap.size w w' := by
  have H := hid h
  have HZ := fun W h => szPgs x ps z W h hz hm
  obtain ⟨a, c, rfl⟩ := h.slice
  clear h hm
  by_cases hl : ps.length + sumP ps ≤ z
  · have HR : Hid (szRP z ps = ((z - (ps.length + sumP ps) : Nat) : Int)) := by show _ = _; unfold szRP; rw [if_pos hl]
    rw [HR.out] at HZ ⊢
    generalize z - (ps.length + sumP ps) = y at *
    have hy : ¬ (y : Int) < 0 := by omega
    clear HR hl
    go_enter Tryd.func17, Tryd.ntmps17
    go_wp2_with fail
    refine (HZ _ (H.out.below (by go_grown))).mono ?_
    rintro e w1 ⟨rfl, hb1⟩
    obtain ⟨hc1, hf1⟩ := bcell hb1
    have hz1 := hb1.size
    try simp only [World.size_drew] at hz1
    try simp only [World.size_setCell] at hz1
    try simp only [World.size_alloc] at hz1
    have hz1_0 : w.heap.size < w1.heap.size := by omega
    clear hz1
    have k1 : Below w.heap.size w w1 := by
      refine Below.trans ?_ (hb1.mono ?_)
      · go_grown
      · go_size
    have hl1 : w.heap.size ≤ w1.heap.size := k1.size
    clear hb1
    go_wp2
    go_returns
    exact ⟨rfl, by go_grown⟩
  · have HR : Hid (szRP z ps = -1) := by show _ = _; unfold szRP; rw [if_neg hl]
    rw [HR.out] at HZ ⊢
    clear HR hl
    go_enter Tryd.func17, Tryd.ntmps17
    go_wp2_with fail
    refine (HZ _ (H.out.below (by go_grown))).mono ?_
    rintro e w1 ⟨rfl, hb1⟩
    obtain ⟨hc1, hf1⟩ := bcell hb1
    have hz1 := hb1.size
    try simp only [World.size_drew] at hz1
    try simp only [World.size_setCell] at hz1
    try simp only [World.size_alloc] at hz1
    have hz1_0 : w.heap.size < w1.heap.size := by omega
    clear hz1
    have k1 : Below w.heap.size w w1 := by
      refine Below.trans ?_ (hb1.mono ?_)
      · go_grown
      · go_size
    have hl1 : w.heap.size ≤ w1.heap.size := k1.size
    clear hb1
    go_wp2
    go_returns
    exact ⟨rfl, by go_grown⟩
theorem strs_of1 {H : Type} {enc : TypeId × Value → H} {W : World} {base : Nat} {held : Bool} {n : Nat} {v : Value} {y : DataW H × List MemPlace}
    (h : DataW.trod enc Tryd.prog W base (fun _ => true) held n 26 [v] = some y) : ∃ ss, StrsAt W v ss ∧ ss.length ≤ maxLen ∧ ∀ s ∈ ss, s.size ≤ maxLen := by
  obtain ⟨ad, len, cap, hv⟩ := slice_form Tryd.underlying26 h
  simp at hv
  subst hv
  exact strs_of (d := y.1) (p := y.2) ⟨n, h⟩
theorem ints_of1 {H : Type} {enc : TypeId × Value → H} {W : World} {base : Nat} {held : Bool} {n : Nat} {v : Value} {y : DataW H × List MemPlace}
    (h : DataW.trod enc Tryd.prog W base (fun _ => true) held n 60 [v] = some y) : ∃ zs, IntsAt W v zs ∧ zs.length ≤ maxLen := by
  obtain ⟨ad, len, cap, hv⟩ := slice_form Tryd.underlying60 h
  simp at hv
  subst hv
  exact ints_of (d := y.1) (p := y.2) ⟨n, h⟩
theorem cellsLP : Tryd.prog.cellsOf 170 = 3 := by kernel_rfl
set_option maxRecDepth 100000 in
theorem onePg {H : Type} {enc : TypeId × Value → H} {W : World} {base : Nat} {held : Bool} {n : Nat} {b off : Nat} {cs : List Value} {x : DataW H × List MemPlace}
    (hc : W.cells? base ⟨b, off, none⟩ 3 = some cs) (h : DataW.trod enc Tryd.prog W base (fun _ => true) held n 170 cs = some x) : ∃ p : Pg, LPgAt W b off p ∧ RePg p := by
  obtain ⟨_, hlen, hcell⟩ := World.cells?_some hc
  obtain ⟨xs, k, hk, hxy, _, hxl, hf⟩ := DataW.trod_struct Tryd.underlying170 h
  match xs, hxl, cs, hlen with
  | [y0, y1, y2], _, [c0, c1, c2], _ =>
    have g0 := hf 0 _ rfl
    have g1 := hf 1 _ rfl
    have g2 := hf 2 _ rfl
    have q0 : DataW.trod enc Tryd.prog W base (fun _ => true) held k 26 [c0] = some y0 := g0
    have q1 : DataW.trod enc Tryd.prog W base (fun _ => true) held k 26 [c1] = some y1 := g1
    have q2 : DataW.trod enc Tryd.prog W base (fun _ => true) held k 60 [c2] = some y2 := g2
    obtain ⟨ss, h1, h2, h3⟩ := strs_of1 q0
    obtain ⟨ws, h4, h5, h6⟩ := strs_of1 q1
    obtain ⟨zs, h7, h8⟩ := ints_of1 q2
    have d0 := hcell 0 (by omega)
    have d1 := hcell 1 (by omega)
    have d2 := hcell 2 (by omega)
    simp [Addr.add] at d0 d1 d2
    exact ⟨⟨ss, ws, zs⟩, ⟨_, _, _, d0, d1, d2, h1, h4, h7⟩, ⟨h2, h5, h8⟩, h3, h6⟩
set_option maxRecDepth 100000 in
theorem pgs_of {H : Type} {enc : TypeId × Value → H} {W : World} {base : Nat} {held : Bool} {n : Nat} {v : Value} {y : DataW H × List MemPlace}
    (hf : DataW.trod enc Tryd.prog W base (fun _ => true) held n 37 [v] = some y) : ∃ ps, LPgsAt W v ps ∧ ReTree ps := by
  rcases open_slice Tryd.underlying37 hf with ⟨hcs, _⟩ | ⟨x, l, c, m, n, D, Pl, hcs, hb, hl, hm, hmm, _, hx⟩
  · simp at hcs
    subst hcs
    exact ⟨[], .inl ⟨_, _, rfl, rfl⟩, by simp, by simp⟩
  · simp at hcs
    subst hcs
    have hlm : l ≤ m := by rw [hmm]; simp; omega
    by_cases h0 : l = 0
    · subst h0
      exact ⟨[], .inl ⟨_, _, rfl, rfl⟩, by simp, by simp⟩
    · obtain ⟨b, off, spot⟩ := x
      have hspot : spot = none := by
        obtain ⟨cs', h1, _⟩ := hx 0 (by omega)
        rw [cellsLP] at h1
        obtain ⟨_, hlen, hcell⟩ := World.cells?_some h1
        have hc := hcell 0 (by omega)
        cases cs' with
        | nil => simp at hlen
        | cons c cs =>
          have hc' : W.cell? ((⟨b, off, spot⟩ : Addr).add (0 * 3 + 0)) = some c := by rw [← add_add]; exact hc
          simpa [Addr.add] using World.cell?_spot hc'
      subst hspot
      have hadd : ∀ i, ((⟨b, off, none⟩ : Addr).add i) = ⟨b, off + i, none⟩ := fun i => by simp [Addr.add]
      have each : ∀ i, i < l → ∃ p : Pg, LPgAt W b (off + i * 3) p ∧ RePg p := by
        intro i hi
        obtain ⟨cs', h1, h2⟩ := hx i (by omega)
        rw [cellsLP, hadd] at h1
        exact onePg h1 h2
      obtain ⟨f, hf'⟩ := choose_lt each
      have hbl : b < W.heap.size := by
        obtain ⟨kv, vv, cv, h1, _⟩ := (hf' 0 (by omega)).1
        exact World.block_lt_of_cell? W ⟨b, off + 0 * 3, none⟩ h1
      refine ⟨(List.range l).map f, .inr ⟨b, off, c, by simp, hbl, fun i hi => ?_⟩, by simp; omega, fun v hv => ?_⟩
      · have hi' : i < l := by simpa using hi
        have := (hf' i hi').1
        simpa [List.getD, hi'] using this
      · simp only [List.mem_map, List.mem_range] at hv
        obtain ⟨i, hi, rfl⟩ := hv
        exact (hf' i hi).2
open Go.ChangeShapes Go.WideShapes Go.ChangeAt Go.RowKit Go.Joins Go.Deep

theorem cellsLT : Tryd.prog.cellsOf 39 = 1 := by kernel_rfl
set_option maxRecDepth 100000 in
theorem openTree {H : Type} {enc : TypeId × Value → H} {W : World} {base b0 : Nat} {held : Bool} {r : Reach} {v : Value} {d : DataW H} {p : List MemPlace}
    (hv : Value.okWide Tryd.prog W r b0 39 v) (h : DataW.Trod enc Tryd.prog W base (fun _ => true) held 39 v d p) : ∃ x ps, v = .agg #[x] ∧ LPgsAt W x ps ∧ ReTree ps := by
  obtain ⟨cs, rfl, hsz⟩ := okWide_struct Tryd.underlying39 hv
  rw [cellsLT] at hsz
  obtain ⟨l⟩ := cs
  match l, hsz with
  | [c0], _ =>
    obtain ⟨fuel, hf⟩ := h
    obtain ⟨xs, k, _, _, _, hxl, hg⟩ := DataW.trod_struct Tryd.underlying39 hf
    match xs, hxl with
    | [y0], _ =>
      have g0 := hg 0 _ rfl
      have q0 : DataW.trod enc Tryd.prog W base (fun _ => true) held k 37 [c0] = some y0 := g0
      obtain ⟨ps, h1, h2⟩ := pgs_of q0
      exact ⟨c0, ps, rfl, h1, h2⟩
end Go.Proofs.YtgjcegmjhkehnaaDoor
