/- What the reader of pages has made sure of, kid by kid, in plain mathematics. -/
import Derived.Test.YtgjcegmjhkehnaaDoorImplRs
namespace Go.Proofs.YtgjcegmjhkehnaaDoor
open Go.ChangeShapes Go.WideShapes Go.ChangeAt Go.RowKit Go.Deep
set_option linter.unusedVariables false

theorem preN_take (p : List Pr) (L : List Nd) (k : Nat) : preN p L k = preN p (L.take k) k := by
  unfold preN
  have : (L.zip p).take k = ((L.take k).zip p).take k := by
    simp [List.zip, List.take_zipWith, List.take_take]
  rw [this]
theorem all_split (p : List Pr) (kids : List Nd) (hl : kids.length = p.length + 1) : ∀ k, k ≤ p.length → ∃ R, allN (.mk p kids) = preN p kids k ++ allN (kids.getD k default) ++ R ∧ p.length - k ≤ R.length := by
  intro i hi
  obtain ⟨j, hj⟩ : ∃ j, p.length - i = j := ⟨_, rfl⟩
  induction j generalizing i with
  | zero =>
    have : i = p.length := by omega
    subst this
    exact ⟨[], by rw [allN_eq p kids hl]; simp, by simp⟩
  | succ j ihj =>
    obtain ⟨R, h1, h2⟩ := ihj (i + 1) (by omega) (by omega)
    rw [preN_succ p kids i (by omega) (by omega)] at h1
    exact ⟨[p.getD i default] ++ allN (kids.getD (i + 1) default) ++ R, by rw [h1]; simp, by simp; omega⟩
theorem doneN_succ (p : List Pr) (l : List Nd) (t : Nd) (k : Nat) (hl : l.length = k) : doneN p (l ++ [t]) (k + 1) = preN p l k ++ allN t := by
  show preN p (l ++ [t]) k ++ allN ((l ++ [t]).getD k default) = _
  rw [preN_take p (l ++ [t]) k]
  have h1 : (l ++ [t]).take k = l := by rw [← hl]; simp
  have h2 : (l ++ [t]).getD k default = t := by rw [← hl]; simp [List.getD]
  rw [h1, h2]
theorem pre_done (p : List Pr) (l : List Nd) (k : Nat) (hl : l.length = k + 1) (hk : k < p.length) : preN p l (k + 1) = doneN p l (k + 1) ++ [p.getD k default] := by
  rw [preN_succ p l k hk (by omega)]
  rfl
/-- A kid of a node that the reader takes is taken. -/
theorem kidOk {p : List Pr} {L : List Nd} {d h nx many leaf : Nat} {last : ByteArray} (hl : L.length = p.length + 1) (hok : OkR (.mk p L) d ⟨nx, many, last, leaf⟩ h) :
    ∃ h0, h = h0 + 1 ∧ 1 ≤ h0 ∧ ∀ k, k ≤ p.length → ∀ n lf, n ≠ 0 → (k = 0 → lf = leaf) → (k ≠ 0 → lf = d + h0) → OkR (L.getD k default) (d + 1) ⟨n, many + (preN p L k).length + (p.length - k), lastK last (preN p L k), lf⟩ h0 := by
  obtain ⟨h1, h2, h3, h4, h5⟩ := hok
  have hne : L ≠ [] := by intro e; rw [e] at hl; simp at hl
  have hp := h2.pos
  obtain ⟨h0, rfl⟩ : ∃ h0, h = h0 + 1 := ⟨h - 1, by omega⟩
  have hh0 : 1 ≤ h0 := by
    rcases Nat.eq_zero_or_pos h0 with e | e
    · subst e; exact absurd (by simpa [Even, Nd.kids] using h2) hne
    · exact e
  obtain ⟨_, hev⟩ := (Even.up hh0).1 h2
  refine ⟨h0, rfl, hh0, fun k hk n lf hn hlf0 hlf1 => ?_⟩
  have hm : L.getD k default ∈ (Nd.mk p L).kids := by simp [Nd.kids, List.getD, show k < L.length by omega]
  obtain ⟨e1, e2⟩ := hev _ hm
  obtain ⟨R, hR, hRl⟩ := all_split p L hl k hk
  simp only [] at h3 h4 h5
  rw [hR, rise_append, rise_append] at h4
  rw [hR] at h5
  simp only [List.length_append] at h5
  refine ⟨?_, e1, ?_, h4.1.2, ?_⟩
  · simp only []
    rw [if_neg hn]; exact e2
  · simp only []
    rcases Nat.eq_zero_or_pos k with e | e
    · rw [hlf0 e]; omega
    · rw [hlf1 (by omega)]; omega
  · simp only []
    omega
/-- The whole, from its kids. -/
theorem wholeOk {p : List Pr} {l : List Nd} {d nx many leaf lf : Nat} {last : ByteArray} (hl : l.length = p.length + 1) (hg : GoodK p l (p.length + 1) last leaf d lf) (hp : if nx = 0 then 1 ≤ p.length else 2 ≤ p.length)
    (hm : many + (doneN p l (p.length + 1)).length ≤ 40) :
    ∃ h, OkR (.mk p l) d ⟨nx, many, last, leaf⟩ h ∧ doneN p l (p.length + 1) = allN (.mk p l) ∧ lf = d + h - 1 := by
  obtain ⟨h1, h2⟩ := hg
  rw [if_neg (by omega)] at h2
  obtain ⟨h, hh1, hh2, hh3, hh4⟩ := h2
  have he : doneN p l (p.length + 1) = allN (.mk p l) := by rw [allN_eq p l hl]; rfl
  rw [he] at h1 hm
  have hne : l ≠ [] := by intro e; rw [e] at hl; simp at hl
  refine ⟨h + 1, ⟨?_, (Even.up hh1).2 ⟨hne, hh4⟩, ?_, h1, hm⟩, he, by omega⟩
  · simp only [Nd.kids, Nd.prs]
    split
    · rename_i e; rw [if_pos e] at hp; exact .inr hp
    · rename_i e; rw [if_neg e] at hp; exact hp
  · simp only []
    omega
/-- One kid more. -/
theorem goodK_next {p : List Pr} {l : List Nd} {t : Nd} {k d n many leaf lf h : Nat} {last : ByteArray} (hl : l.length = k) (hn : n ≠ 0) (hrise : Rise last (preN p l k)) (hg : GoodK p l k last leaf d lf)
    (hok : OkR t (d + 1) ⟨n, many, lastK last (preN p l k), lf⟩ h) : GoodK p (l ++ [t]) (k + 1) last leaf d (d + h) := by
  obtain ⟨h1, h2, h3, h4, h5⟩ := hok
  simp only [] at h1 h3 h4
  rw [if_neg hn] at h1
  have hp := h2.pos
  refine ⟨?_, ?_⟩
  · rw [doneN_succ p l t k hl, rise_append]; exact ⟨hrise, h4⟩
  · rw [if_neg (by omega)]
    obtain ⟨_, hg2⟩ := hg
    split at hg2
    · subst hg2
      rename_i e
      have hl0 : l = [] := List.eq_nil_of_length_eq_zero (by omega)
      refine ⟨h, hp, rfl, by omega, fun x hx => ?_⟩
      rw [hl0] at hx
      simp at hx
      subst hx
      exact ⟨h2, h1⟩
    · obtain ⟨h', g1, g2, g3, g4⟩ := hg2
      have : h' = h := by omega
      subst this
      refine ⟨h', hp, rfl, by omega, fun x hx => ?_⟩
      rcases List.mem_append.1 hx with hx | hx
      · exact g4 x hx
      · simp at hx; subst hx; exact ⟨h2, h1⟩
theorem cnt_eq (p : List Pr) (l : List Nd) (many k : Nat) (hl : l.length = k) (hk : k ≤ p.length) : many + (doneN p l k).length + (p.length - (k - 1)) = many + (preN p l k).length + (p.length - k) := by
  cases k with
  | zero => simp [doneN, preN_zero]
  | succ j =>
    rw [pre_done p l j hl (by omega)]
    simp only [List.length_append, List.length_singleton]
    omega
/-- Where the whole is taken, so is the next kid. -/
theorem kid_must {pages : List Pg} {F nx n many cnt leaf lf d h k nx' : Nat} {p : List Pr} {c : List Int} {l L : List Nd} {last : ByteArray} {no : Int} (hl : L.length = p.length + 1) (hc : c.length = p.length + 1) (hk : k ≤ p.length)
    (hread : readL (readM pages F) (c.take k) (nx + 1) = some (l, n)) (hL : readL (readM pages F) c (nx + 1) = some (L, nx')) (hno : c.getD k 0 = no) (hn : n ≠ 0)
    (hok : OkR (.mk p L) d ⟨nx, many, last, leaf⟩ h) (hg : GoodK p l k last leaf d lf) (hcnt : cnt = many + (preN p l k).length + (p.length - k)) :
    no = n ∧ ∃ e h0, ReadIs pages F (d + 1) ⟨n, cnt, lastK last (preN p l k), lf⟩ (L.getD k default) e h0 := by
  obtain ⟨e', he'⟩ := readL_take hL (k + 1) (by omega)
  obtain ⟨e0, he0⟩ := readL_take hL k (by omega)
  rw [hread] at he0
  simp at he0
  have hlk : L.take k = l := he0.1.symm
  rw [show c.take (k + 1) = c.take k ++ [no] by rw [List.take_succ_eq_append_getElem (by omega), ← hno]; simp [List.getD, show k < c.length by omega], readL_snoc, hread] at he'
  simp only [] at he'
  split at he'
  · rename_i hnn
    split at he'
    · simp at he'
    · rename_i t2 e2 hr2
      simp at he'
      obtain ⟨h1, rfl⟩ := he'
      have ht2 : t2 = L.getD k default := by
        rw [List.take_succ_eq_append_getElem (by omega), hlk] at h1
        have := List.append_cancel_left h1
        simp at this
        rw [this]; simp [List.getD, show k < L.length by omega]
      subst ht2
      obtain ⟨h0, rfl, hh0, hkid⟩ := kidOk hl hok
      have := hkid k hk n lf hn (fun e => by have := hg.2; rw [if_pos e] at this; exact this) (fun e => by
        have h2 := hg.2
        rw [if_neg e] at h2
        obtain ⟨h', g1, g2, g3, g4⟩ := h2
        have hne : L ≠ [] := by intro e; rw [e] at hl; simp at hl
        have hl0 : 0 < l.length := by rw [← hlk]; simp; omega
        have hm : l.getD 0 default ∈ l := by simp [List.getD, hl0]
        have hmL : l.getD 0 default ∈ (Nd.mk p L).kids := by
          have : l.getD 0 default ∈ L.take k := by rw [hlk]; exact hm
          exact List.mem_of_mem_take this
        have e1 := (g4 _ hm).1
        have e2 := (((Even.up hh0).1 hok.2.1).2 _ hmL).1
        rw [g2, e1.one e2])
      rw [preN_take p L k, hlk] at this
      refine ⟨hnn, e2, h0, hr2, ?_⟩
      rw [hcnt]; exact this
  · simp at he'
theorem lf_le {pages : List Pg} {F nx n leaf lf d k : Nat} {p : List Pr} {c : List Int} {l : List Nd} {last : ByteArray} (hread : readL (readM pages F) c (nx + 1) = some (l, n)) (hl : l.length = k) (hg : GoodK p l k last leaf d lf) (h1 : leaf ≤ 1000) (h2 : d + F ≤ 1000) : lf ≤ 1000 := by
  have h3 := hg.2
  split at h3
  · omega
  · obtain ⟨h', g1, g2, g3, g4⟩ := h3
    have hl0 : 0 < l.length := by omega
    have hm : l.getD 0 default ∈ l := by simp [List.getD, hl0]
    obtain ⟨a, b, hr⟩ := readL_mem hread _ hm
    have := (readM_fit hr).even (g4 _ hm).1
    omega
theorem news3 (w : World) (a b c : Value) (t : TypeId) : RowsAt (w.alloc (.cells #[a, b, c] t)) 3 (.slice (some ⟨w.heap.size, 0, none⟩) 1 1) 1 [a, b, c] := by
  refine ⟨rfl, _, 1, rfl, Nat.le_refl _, by simp, .inr ⟨w.heap.size, 0, rfl, by simp, fun j u hj => ?_⟩⟩
  have : (#[a, b, c] : Array Value)[j]? = some u := by simpa using hj
  simp [this]
theorem news3g (w : World) (g : Nat) (a b c : Value) (t : TypeId) (hg : g = w.heap.size) : RowsAt (w.alloc (.cells #[a, b, c] t)) 3 (.slice (some ⟨g, 0, none⟩) 1 1) 1 [a, b, c] := by
  subst hg
  exact news3 w a b c t
theorem infoN : (Tryd.prog.info? 117).map (fun i => (i.zero, i.size, i.bytes)) = some (some zeroN, 3, 72) := by kernel_rfl
/-- The kids' rows, where one kid more has been put behind them. -/
theorem nodes_next {Q : Nat → Prop} {w3 w5 w6 : World} {nb : Nat} {l : List Nd} {t : Nd} {xs : List Value} {kv2 vv2 cv2 : Value} {ob ob' : Option Nat} {u : Value} (hb5 : Below w3.heap.size w3 w5)
    (hno : NodesP (fun g => Q g ∧ g ≠ nb ∧ g ∉ ob.toList) w3 l xs) (hkid : NodeP (fun g => Q g ∧ g ≠ nb ∧ g ∉ ob.toList) w3 t kv2 vv2 cv2)
    (hg : w5.grownBy w6 ob) (he : ob' = ob ∨ ob' = some w5.heap.size) :
    NodesP (fun g => Q g ∧ g ≠ nb ∧ g ∉ ob'.toList) (w6.setCell ⟨nb, 2, none⟩ u) (l ++ [t]) (xs ++ [kv2, vv2, cv2]) := by
  have hs5 := hb5.size
  have ho : Off (nb :: ob.toList) w3 (w6.setCell ⟨nb, 2, none⟩ u) := by
    refine ⟨hg.os.trans hb5.os, hg.tape.trans hb5.tape, hg.output.trans hb5.output, Nat.le_trans hb5.size (Nat.le_trans hg.size (by simp [World.setCell])), fun k hk hn => ?_⟩
    simp only [List.mem_cons, not_or] at hn
    rw [setCell_other _ _ _ _ _ hn.1, hg.block k (by omega) (fun e => hn.2 (by rw [← e]; simp)), hb5.block k hk]
  have h1 := NodesP.snoc hno hkid
  have h2 := NodesP.mono (Q := fun g => (Q g ∧ g ≠ nb ∧ g ∉ ob.toList) ∧ g < w3.heap.size) (fun g hg hl => ⟨hg, hl⟩) h1
  have h3 := h2.off ho (fun g hg hm => by
    simp only [List.mem_cons] at hm
    rcases hm with e | e
    · exact hg.1.2.1 e
    · exact hg.1.2.2 e)
  refine NodesP.mono (fun g hg _ => ⟨hg.1.1, hg.1.2.1, fun hm => ?_⟩) h3
  rcases he with e | e
  · rw [e] at hm; exact hg.1.2.2 hm
  · rw [e] at hm; simp at hm; have := hg.2; omega
theorem off_comb {S T : List Nat} {w W W' : World} (h : Off S w W) (g : Off T W W') (ht : ∀ x ∈ T, x ∈ S ∨ w.heap.size ≤ x) : Off S w W' :=
  ⟨g.os.trans h.os, g.tape.trans h.tape, g.output.trans h.output, Nat.le_trans h.size g.size, fun k hk hn => (g.block k (Nat.lt_of_lt_of_le hk h.size) (fun hm => by rcases ht k hm with e | e; exact hn e; omega)).trans (h.block k hk hn)⟩
end Go.Proofs.YtgjcegmjhkehnaaDoor
