/- Contracts of the model's all and even. Condition: the tree lies in memory. -/
import Derived.Test.YtgjcegmjhkehnaaDoorSpecAll
namespace Go.Proofs.YtgjcegmjhkehnaaDoor
open Go.ChangeShapes Go.WideShapes Go.ChangeAt Go.RowKit Go.Deep
set_option linter.unusedVariables false
attribute [local go_sem ↓] Go.wp_at_zero Go.wp_at_succ

theorem infoS : (Tryd.prog.info? 9).map (fun i => (i.zero, i.size, i.bytes)) = some (some (.string ByteArray.empty), 1, 16) := by kernel_rfl
/-- Keys and values that are written on, from B on, in two rows. -/
def Acc (w : World) (B : Nat) (kv vv : Value) (A : List Pr) : Prop :=
  OwnS w B 9 kv A.length (keysV A) ∧ OwnS w B 9 vv A.length (valsV A) ∧ ∀ g ∈ obl kv, g ∉ obl vv
theorem Acc.nil (w : World) (B : Nat) : Acc w B (.slice none 0 0) (.slice none 0 0) [] := ⟨OwnS.nil _ _ _, OwnS.nil _ _ _, by simp [obl]⟩
theorem Acc.below {w w' : World} {B : Nat} {kv vv : Value} {A : List Pr} (h : Acc w B kv vv A) (hb : Below w.heap.size w w') : Acc w' B kv vv A :=
  ⟨own_keep h.1 fun g hg => hb.block g (own_lt h.1 g hg).2, own_keep h.2.1 fun g hg => hb.block g (own_lt h.2.1 g hg).2, h.2.2⟩
theorem below_own {w w' : World} {B : Nat} {e : TypeId} {v : Value} {n : Nat} {xs : List Value} (h : OwnS w B e v n xs) (hB : B ≤ w.heap.size) (hg : Off (obl v) w w') : Below B w w' := hg.below hB fun g hm => (own_lt h g hm).1
theorem keysV_app (a b : List Pr) : keysV (a ++ b) = keysV a ++ keysV b := by simp [keysV]
theorem valsV_app (a b : List Pr) : valsV (a ++ b) = valsV a ++ valsV b := by simp [valsV]
theorem news1 (w : World) (s : Value) (t : TypeId) : RowsAt (w.alloc (.cells #[s] t)) 1 (.slice (some ⟨w.heap.size, 0, none⟩) 1 1) 1 [s] := by
  refine ⟨rfl, _, 1, rfl, Nat.le_refl _, by simp, .inr ⟨w.heap.size, 0, rfl, by simp, fun j u hj => ?_⟩⟩
  match j, hj with
  | 0, hj => simp at hj; subst hj; simp
/-- One pair more: first the key, then the value. -/
theorem Acc.snoc {w w1 w2 : World} {B : Nat} {kv vv kv' vv' : Value} {A : List Pr} {q : Pr} {o1 o2 : Obj} (h : Acc w B kv vv A) (hB : B ≤ w.heap.size)
    (h1 : OwnS w1 B 9 kv' (A.length + 1) (keysV A ++ [.string q.1])) (g1 : Off (obl kv) (w.alloc o1) w1) (e1 : ∀ g ∈ obl kv', g ∈ obl kv ∨ w.heap.size + 1 ≤ g)
    (h2 : OwnS w2 B 9 vv' (A.length + 1) (valsV A ++ [.string q.2])) (g2 : Off (obl vv) (w1.alloc o2) w2) (e2 : ∀ g ∈ obl vv', g ∈ obl vv ∨ w1.heap.size + 1 ≤ g) : Acc w2 B kv' vv' (A ++ [q]) := by
  have hkk : ∀ g ∈ obl kv', g ∉ obl vv := by
    intro g hg hv
    have hvl := (own_lt h.2.1 g hv).2
    rcases e1 g hg with e | e
    · exact h.2.2 g e hv
    · omega
  refine ⟨?_, ?_, ?_⟩
  · have := (h1.alloc o2).off g2 hkk
    rw [keysV_app]; simpa [keysV] using this
  · rw [valsV_app]; simpa [valsV] using h2
  · intro g hg hv
    have hvl := (own_lt h1 g hg).2
    rcases e2 g hv with e | e
    · exact hkk g hg e
    · omega
theorem getPr (p : List Pr) (i : Nat) (h : i < p.length) : p.take (i + 1) = p.take i ++ [p.getD i default] := by
  rw [List.take_succ_eq_append_getElem h]; simp [List.getD, h]
/-- What stays told of a page while only what lies from B on is written. -/
theorem OwnT.partsK {w : World} {base B : Nat} {p : List Pr} {kids : List Nd} {v : Value} {F : List Nat} (h : OwnT w base (.mk p kids) v F) (hF : ∀ g ∈ F, g < B) :
    ∃ b kv vv cv ps Fc, v = .pointer (some ⟨b, 0, none⟩) ∧ b < B ∧ (∀ g ∈ Fc, g < B) ∧ ∀ W, Below B w W → OwnT W base (.mk p kids) v F ∧ W.cell? ⟨b, 0, none⟩ = some kv ∧ W.cell? ⟨b, 1, none⟩ = some vv ∧ W.cell? ⟨b, 2, none⟩ = some cv ∧
      RowsAt W 1 kv p.length (keysV p) ∧ RowsAt W 1 vv p.length (valsV p) ∧ RowsAt W 1 cv kids.length ps ∧ OwnTs W base kids ps Fc := by
  obtain ⟨b, kv, vv, cv, ps, Fc, rfl, h2, h3, h4, h5, h6, h7, rfl, h9⟩ := h
  refine ⟨b, kv, vv, cv, ps, Fc, rfl, hF b (by simp), fun g hg => hF g (by simp [hg]), fun W hw => ?_⟩
  have hb := (hw.block b (hF b (by simp))).trans h3
  have k4 := own_keep (w' := W) h4 fun g hg => hw.block g (hF g (by simp [hg]))
  have k5 := own_keep (w' := W) h5 fun g hg => hw.block g (hF g (by simp [hg]))
  have k6 := own_keep (w' := W) h6 fun g hg => hw.block g (hF g (by simp [hg]))
  have k7 := h7.keep (w' := W) fun g hg => hw.block g (hF g (by simp [hg]))
  exact ⟨⟨b, kv, vv, cv, ps, Fc, rfl, h2, hb, k4, k5, k6, k7, rfl, h9⟩, by rw [cell_of_heap hb]; rfl, by rw [cell_of_heap hb]; rfl, by rw [cell_of_heap hb]; rfl, rows_of_ownS k4, rows_of_ownS k5, rows_of_ownS k6, k7⟩
/-- The kid at a place, and where it lies. -/
theorem OwnTs.getF {w : World} {base : Nat} : ∀ {ks : List Nd} {ps : List Value} {F : List Nat}, OwnTs w base ks ps F → ∀ i, i < ks.length → ∃ F1, OwnT w base (ks.getD i default) (ps.getD i default) F1 ∧ ∀ g ∈ F1, g ∈ F
  | [], ps, F, h, i, hi => by simp at hi
  | k :: ks, ps, F, h, i, hi => by
    obtain ⟨p, ps', F1, F2, rfl, rfl, h3, h4⟩ := h
    cases i with
    | zero => exact ⟨F1, by simpa using h3, fun g hg => by simp [hg]⟩
    | succ i =>
      obtain ⟨F3, h5, h6⟩ := OwnTs.getF h4 i (by simpa using hi)
      exact ⟨F3, by simpa using h5, fun g hg => by simp [h6 g hg]⟩
def upN (p : List Pr) (kids : List Nd) (k : Nat) : List Pr := if k ≤ p.length then preN p kids k else allN (.mk p kids)
set_option maxHeartbeats 12800000 in
set_option maxRecDepth 100000 in
theorem specAllLeaf (w : World) (base B : Nat) (p : List Pr) (v kv vv : Value) (F : List Nat) (A : List Pr) (ht : OwnT w base (.mk p []) v F) (hF : ∀ g ∈ F, g < B) (hB : B ≤ w.heap.size) (ha : Acc w B kv vv A) (hp : p.length ≤ 4) (hA : A.length ≤ 1000000000) :
    Calls Tryd.prog 119 #[v, kv, vv] w fun e w' => ∃ kv' vv', e = .returned (.tuple #[kv', vv']) ∧ Acc w' B kv' vv' (A ++ p) ∧ Below B w w' := by
  obtain ⟨i0, hi, hzz⟩ := Option.map_eq_some_iff.1 infoS
  simp only [Prod.mk.injEq] at hzz
  obtain ⟨hz0, hz1, hz2⟩ := hzz
  obtain ⟨b, kv0, vv0, cv0, ps, Fc, rfl, hbB, hFc, HK⟩ := ht.partsK hF
  have HT := hid HK
  have HA0 := hid ha
  clear ht hF ha HK
  go_enter Tryd.func119, Tryd.ntmps119
  go_wp2_with fail
  go_loopw [1, 2, 8] (fun x y i wr => ∃ k : Nat, k ≤ p.length + 1 ∧ i = .int .i64 k ∧ Acc wr B x y (A ++ p.take k) ∧ Below B w wr) (fun _ _ i _ => p.length + 1 - (intOf i).toNat)
  case atStart => exact ⟨0, Nat.zero_le _, rfl, by simpa using HA0.out, Below.refl _ _⟩
  case round =>
    obtain ⟨k, hk, rfl, hacc, kb⟩ := hrel
    have HC := hid hacc
    clear hacc
    have kl := kb.size
    obtain ⟨htr, hk0, hv0, hc0, rk, rv, rc, hts⟩ := HT.out wr kb
    have HL := leafYes htr
    have hbr : b < wr.heap.size := by omega
    by_cases hlt : k < p.length
    · obtain ⟨b2, off, c2, rfl, hb2, hcell⟩ := rk.cell1 (i := k) hlt
      rw [keysV_get p _ hlt] at hcell
      have HS : Hid (A ++ p.take (k + 1) = (A ++ p.take k) ++ [p.getD k default]) := by show _ = _; rw [getPr p k hlt]; simp
      have hAl : (A ++ p.take k).length ≤ 1000000004 := by simp; omega
      generalize A ++ p.take k = S at *
      obtain ⟨q, hq⟩ : ∃ q, p.getD k default = q := ⟨_, rfl⟩
      rw [hq] at hcell HS
      have HQ := hid hq
      have hki : (k : Int) < (p.length : Int) := by omega
      have hki2 : (k : Int) ≤ (p.length : Int) := by omega
      have hkk : (0 : Int) ≤ (k : Int) := by omega
      have hok := HC.out.1
      clear htr rc hts rk rv hv0 hc0 hq
      go_wp2_with (first | (go_at_call 121; refine HL.mono ?_; rintro e w2 ⟨rfl, hw2⟩; subst w2) | (at_builtin; refine wplS rfl _ _ 26 rfl B 9 i0 (.string ByteArray.empty) 16 Tryd.underlying26 hi hz0 hz1 hz2 rfl _ _ _ rfl (hok.alloc _) _ 1 [.string q.1] rfl (news1 _ _ _) ?c1 ?c2 ?c3 ?c4 ?_) | fail)
      case c1 => intro u hu; simp at hu; subst hu; rfl
      case c2 => unfold maxLen; omega
      case c3 => omega
      case c4 => simp; omega
      intro x1 w1 ho1 hg1 he1
      have k1 : Below B wr w1 := (((Below.refl B wr).alloc (by omega) _).trans (below_own (hok.alloc _) (by simp; omega) hg1))
      have hs1 := k1.size
      obtain ⟨_, _, hv1, _, _, rv1, _, _⟩ := HT.out w1 (kb.trans k1)
      obtain ⟨b3, off3, c3, hce, hb3, hcell3⟩ := rv1.cell1 (i := k) hlt
      subst hce
      rw [valsV_get p _ hlt, HQ.out] at hcell3
      have hov := (HC.out.2.1.alloc _).off hg1 (fun g h1 h2 => HC.out.2.2 g h2 h1)
      clear rv1
      go_wp2_with (first | (at_builtin; refine wplS rfl _ _ 26 rfl B 9 i0 (.string ByteArray.empty) 16 Tryd.underlying26 hi hz0 hz1 hz2 rfl _ _ _ rfl (hov.alloc _) _ 1 [.string q.2] rfl (news1 _ _ _) ?d1 ?d2 ?d3 ?d4 ?_) | fail)
      case d1 => intro u hu; simp at hu; subst hu; rfl
      case d2 => unfold maxLen; omega
      case d3 => omega
      case d4 => simp; omega
      intro x2 w2 ho2 hg2 he2
      have k2 : Below B w1 w2 := (((Below.refl B w1).alloc (by omega) _).trans (below_own (hov.alloc _) (by simp; omega) hg2))
      have HN := hid (Acc.snoc HC.out (by omega) ho1 hg1 he1 ho2 hg2 he2)
      rw [← HS.out] at HN
      have k3 : Below B w w2 := (kb.trans k1).trans k2
      clear ho1 hg1 he1 ho2 hg2 he2 hok hov
      go_wp2
      refine ⟨?_, by simp [intOf]; omega⟩
      first | exact ⟨k + 1, by omega, by go_num, HN.out, k3⟩ | ((repeat apply Exists.intro); exact ⟨⟨k + 1, by omega, by go_num, HN.out, k3⟩, rfl⟩)
    · obtain ⟨a0, c0, rfl⟩ := rk.slice
      clear htr rc hts rk rv hv0 hc0
      by_cases hke : k = p.length
      · subst hke
        have HN0 := HC.out
        rw [show p.take p.length = p.take (p.length + 1) by simp [List.take_of_length_le]] at HN0
        have HN := hid HN0
        clear HN0
        have hki : ¬ (p.length : Int) < (p.length : Int) := by omega
        go_wp2_with (first | (go_at_call 121; refine HL.mono ?_; rintro e w2 ⟨rfl, hw2⟩; subst w2) | fail)
        refine ⟨?_, by simp [intOf]⟩
        first | exact ⟨p.length + 1, by omega, by go_num, HN.out, kb⟩ | ((repeat apply Exists.intro); exact ⟨⟨p.length + 1, by omega, by go_num, HN.out, kb⟩, rfl⟩)
      · have hke : k = p.length + 1 := by omega
        subst hke
        have HN := HC.out
        rw [List.take_of_length_le (by omega)] at HN
        have HN2 := hid HN
        clear HN
        go_wp2_with fail
        go_returns
        exact ⟨_, _, rfl, HN2.out, kb⟩
set_option maxHeartbeats 12800000 in
set_option maxRecDepth 100000 in
theorem specAllNode (w : World) (base B : Nat) (p : List Pr) (kids : List Nd) (v kv vv : Value) (F : List Nat) (A : List Pr) (ht : OwnT w base (.mk p kids) v F) (hF : ∀ g ∈ F, g < B) (hB : B ≤ w.heap.size) (ha : Acc w B kv vv A) (hp : p.length ≤ 4) (hkl : kids.length = p.length + 1)
    (hA : A.length + (allN (.mk p kids)).length ≤ 1000000000)
    (ih : ∀ k ∈ kids, ∀ (w : World) (v kv vv : Value) (F : List Nat) (A : List Pr), OwnT w base k v F → (∀ g ∈ F, g < B) → B ≤ w.heap.size → Acc w B kv vv A → A.length + (allN k).length ≤ 1000000000 →
      Calls Tryd.prog 119 #[v, kv, vv] w fun e w' => ∃ kv' vv', e = .returned (.tuple #[kv', vv']) ∧ Acc w' B kv' vv' (A ++ allN k) ∧ Below B w w') :
    Calls Tryd.prog 119 #[v, kv, vv] w fun e w' => ∃ kv' vv', e = .returned (.tuple #[kv', vv']) ∧ Acc w' B kv' vv' (A ++ allN (.mk p kids)) ∧ Below B w w' := by
  obtain ⟨i0, hi, hzz⟩ := Option.map_eq_some_iff.1 infoS
  simp only [Prod.mk.injEq] at hzz
  obtain ⟨hz0, hz1, hz2⟩ := hzz
  obtain ⟨b, kv0, vv0, cv0, ps, Fc, rfl, hbB, hFc, HK⟩ := ht.partsK hF
  have hne : kids ≠ [] := by intro h; rw [h] at hkl; simp at hkl
  have hpl : ∀ i, i ≤ p.length → (preN p kids i).length + (allN (kids.getD i default)).length + (p.length - i) ≤ (allN (.mk p kids)).length := by
    intro i hi
    obtain ⟨j, hj⟩ : ∃ j, p.length - i = j := ⟨_, rfl⟩
    induction j generalizing i with
    | zero =>
      have : i = p.length := by omega
      subst this
      rw [allN_eq p kids hkl]; simp
    | succ j ihj =>
      have := ihj (i + 1) (by omega) (by omega)
      rw [preN_succ p kids i (by omega) (by omega)] at this
      simp only [List.length_append, List.length_singleton] at this
      omega
  have HPL := hid hpl
  have HE := hid (allN_eq p kids hkl)
  have IH := hid ih
  have HT := hid HK
  have HA0 := hid ha
  have HAL := hid hA
  have HFC := hid hFc
  clear ht hF ha HK ih hpl hA hFc
  go_enter Tryd.func119, Tryd.ntmps119
  go_wp2_with fail
  go_loopw [1, 2, 8] (fun x y i wr => ∃ k : Nat, k ≤ p.length + 1 ∧ i = .int .i64 k ∧ Acc wr B x y (A ++ upN p kids k) ∧ Below B w wr) (fun _ _ i _ => p.length + 1 - (intOf i).toNat)
  case atStart => exact ⟨0, Nat.zero_le _, rfl, by simpa [upN, preN_zero] using HA0.out, Below.refl _ _⟩
  case round =>
    obtain ⟨k, hk, rfl, hacc, kb⟩ := hrel
    have HC0 := hid hacc
    clear hacc
    have kl := kb.size
    obtain ⟨htr, hk0, hv0, hc0, rk, rv, rc, hts⟩ := HT.out wr kb
    have HL := leafNo htr hne
    have hbr : b < wr.heap.size := by omega
    obtain ⟨a0, c0, hce⟩ := rk.slice
    subst hce
    by_cases hle : k ≤ p.length
    · have hkk2 : k < kids.length := by omega
      obtain ⟨b4, off4, c4, rfl, hb4, hcell4⟩ := rc.cell1 (i := k) hkk2
      obtain ⟨F1, hkid, hF1⟩ := hts.getF k hkk2
      have hup : upN p kids k = preN p kids k := by unfold upN; rw [if_pos hle]
      have hpk := HPL.out k hle
      have hAL := HAL.out
      have HC1 := HC0.out
      rw [hup] at HC1
      have HI := IH.out (kids.getD k default) (by simp [List.getD, hkk2]) wr _ _ _ F1 _ hkid (fun g hg => HFC.out g (hF1 g hg)) (by omega) HC1 (by simp only [List.length_append]; omega)
      have hAl : (A ++ preN p kids k ++ allN (kids.getD k default)).length ≤ 1000000004 := by simp only [List.length_append]; omega
      have HSn : Hid (k < p.length → A ++ upN p kids (k + 1) = (A ++ preN p kids k ++ allN (kids.getD k default)) ++ [p.getD k default]) := by
        intro h
        unfold upN
        rw [if_pos (by omega), preN_succ p kids k h hkk2]; simp
      have HSe : Hid (k = p.length → A ++ upN p kids (k + 1) = A ++ preN p kids k ++ allN (kids.getD k default)) := by
        intro h
        unfold upN
        rw [if_neg (by omega), HE.out, h]; simp
      clear htr hts rk rv rc hv0 HC1 hpk hAL
      generalize ps.getD k default = kp at *
      generalize A ++ preN p kids k ++ allN (kids.getD k default) = S at *
      have hki2 : (k : Int) ≤ (p.length : Int) := by omega
      have hki3 : (k : Int) < (kids.length : Int) := by omega
      have hkk : (0 : Int) ≤ (k : Int) := by omega
      by_cases hlt : k < p.length
      · have HS := hid (HSn.out hlt)
        obtain ⟨q, hq⟩ : ∃ q, p.getD k default = q := ⟨_, rfl⟩
        rw [hq] at HS
        have HQ := hid hq
        have hki : (k : Int) < (p.length : Int) := by omega
        clear hq HSn HSe
        go_wp2_with (first | (go_at_call 121; refine HL.mono ?_; rintro e w2 ⟨rfl, hw2⟩; subst w2) | (go_at_call 119; refine HI.mono ?_; rintro e w0 ⟨xk, xv, rfl, hacc, k0⟩; obtain ⟨_, hk0', _, _, rk', _⟩ := HT.out w0 (kb.trans k0); obtain ⟨b2', off', c2', hce, hb2', hcell'⟩ := rk'.cell1 (i := k) hlt; cases hce; rw [keysV_get p _ hlt, HQ.out] at hcell'; have hbr0 : b < w0.heap.size := Nat.lt_of_lt_of_le hbr k0.size; have hok := hacc.1; have HC := hid hacc; have kb0 : Below B w w0 := kb.trans k0; have kl0 := kb0.size; clear rk' hacc) | (at_builtin; refine wplS rfl _ _ 26 rfl B 9 i0 (.string ByteArray.empty) 16 Tryd.underlying26 hi hz0 hz1 hz2 rfl _ _ _ rfl (hok.alloc _) _ 1 [.string q.1] rfl (news1 _ _ _) ?c1 ?c2 ?c3 ?c4 ?_) | fail)
        case c1 => intro u hu; simp at hu; subst hu; rfl
        case c2 => unfold maxLen; omega
        case c3 => omega
        case c4 => simp; omega
        intro x1 w1 ho1 hg1 he1
        have k1 : Below B w0 w1 := (((Below.refl B w0).alloc (by omega) _).trans (below_own (hok.alloc _) (by simp; omega) hg1))
        have hs1 := k1.size
        obtain ⟨_, _, hv1, _, _, rv1, _, _⟩ := HT.out w1 (kb0.trans k1)
        obtain ⟨b3, off3, c3, hce, hb3, hcell3⟩ := rv1.cell1 (i := k) hlt
        subst hce
        rw [valsV_get p _ hlt, HQ.out] at hcell3
        have hov := (HC.out.2.1.alloc _).off hg1 (fun g h1 h2 => HC.out.2.2 g h2 h1)
        clear rv1
        go_wp2_with (first | (at_builtin; refine wplS rfl _ _ 26 rfl B 9 i0 (.string ByteArray.empty) 16 Tryd.underlying26 hi hz0 hz1 hz2 rfl _ _ _ rfl (hov.alloc _) _ 1 [.string q.2] rfl (news1 _ _ _) ?d1 ?d2 ?d3 ?d4 ?_) | fail)
        case d1 => intro u hu; simp at hu; subst hu; rfl
        case d2 => unfold maxLen; omega
        case d3 => omega
        case d4 => simp; omega
        intro x2 w2 ho2 hg2 he2
        have k2 : Below B w1 w2 := (((Below.refl B w1).alloc (by omega) _).trans (below_own (hov.alloc _) (by simp; omega) hg2))
        have HN := hid (Acc.snoc HC.out (by omega) ho1 hg1 he1 ho2 hg2 he2)
        rw [← HS.out] at HN
        have k3 : Below B w w2 := (kb0.trans k1).trans k2
        clear ho1 hg1 he1 ho2 hg2 he2 hok hov
        go_wp2
        refine ⟨?_, by simp [intOf]; omega⟩
        first | exact ⟨k + 1, by omega, by go_num, HN.out, k3⟩ | ((repeat apply Exists.intro); exact ⟨⟨k + 1, by omega, by go_num, HN.out, k3⟩, rfl⟩)
      · have hke : k = p.length := by omega
        have HS := hid (HSe.out hke)
        have hki : ¬ (k : Int) < (p.length : Int) := by omega
        clear HSn HSe hke hkl
        go_wp2_with (first | (go_at_call 121; refine HL.mono ?_; rintro e w2 ⟨rfl, hw2⟩; subst w2) | (go_at_call 119; refine HI.mono ?_; rintro e w0 ⟨xk, xv, rfl, hacc, k0⟩; obtain ⟨_, hk0', _⟩ := HT.out w0 (kb.trans k0); have hbr0 : b < w0.heap.size := Nat.lt_of_lt_of_le hbr k0.size; have HC := hid hacc; have kb0 : Below B w w0 := kb.trans k0; have kl0 := kb0.size; clear hacc) | fail)
        have HN := HC.out
        rw [← HS.out] at HN
        have HN2 := hid HN
        refine ⟨?_, by simp [intOf]; omega⟩
        first | exact ⟨k + 1, by omega, by go_num, HN2.out, kb0⟩ | ((repeat apply Exists.intro); exact ⟨⟨k + 1, by omega, by go_num, HN2.out, kb0⟩, rfl⟩)
    · have hke : k = p.length + 1 := by omega
      subst hke
      have HN := HC0.out
      have hup : upN p kids (p.length + 1) = allN (.mk p kids) := by unfold upN; rw [if_neg (by omega)]
      rw [hup] at HN
      have HN2 := hid HN
      clear HN htr hts rk rv rc hv0
      go_wp2_with fail
      go_returns
      exact ⟨_, _, rfl, HN2.out, kb⟩
/-- The pairs in order, behind others. -/
theorem specAll (base B : Nat) : ∀ (t : Nd), Shape t → ∀ (w : World) (v kv vv : Value) (F : List Nat) (A : List Pr), OwnT w base t v F → (∀ g ∈ F, g < B) → B ≤ w.heap.size → Acc w B kv vv A → A.length + (allN t).length ≤ 1000000000 →
    Calls Tryd.prog 119 #[v, kv, vv] w fun e w' => ∃ kv' vv', e = .returned (.tuple #[kv', vv']) ∧ Acc w' B kv' vv' (A ++ allN t) ∧ Below B w w' := by
  intro t
  induction t using Nd.ind with
  | h p kids ih =>
    intro hs w v kv vv F A ht hF hB ha hA
    cases hs with
    | mk _ _ h4 hk hsk =>
      rcases hk with rfl | hk
      · rw [allN_leaf] at hA ⊢
        exact specAllLeaf w base B p v kv vv F A ht hF hB ha h4 (by omega)
      · exact specAllNode w base B p kids v kv vv F A ht hF hB ha h4 hk hA (fun k hk => ih k hk (hsk k hk))
end Go.Proofs.YtgjcegmjhkehnaaDoor
