/- The program's nodes in memory: three cells a node. Contracts of its small tests. -/
import Derived.Test.YtgjcegmjhkehnaaDoorSpecOf
import Derived.Test.YtgjcegmjhkehnaaDoorBoxes
import Derived.Laws.Cover1
import Derived.Deep.RegionHeld3
import Derived.Deep.DeepCutAuto
import Derived.BigQuiet
namespace Go.Proofs.YtgjcegmjhkehnaaDoor
open Go.ChangeShapes Go.WideShapes Go.ChangeAt Go.RowKit Go.Deep
set_option linter.unusedVariables false
attribute [local go_sem ↓] Go.wp_at_zero Go.wp_at_succ

theorem BoxAt.set {W : World} {b : Nat} {vs : List Value} (h : BoxAt W b vs) (i : Nat) (u : Value) : BoxAt (W.setCell ⟨b, i, none⟩ u) b (vs.set i u) := by
  obtain ⟨h1, h2, h3⟩ := h
  refine ⟨by simpa using h1, fun j v hj => ?_, fun j hj => ?_⟩
  · by_cases e : i = j
    · subst e
      have hl : i < vs.length := by
        have := (List.getElem?_eq_some_iff.1 hj).1
        simpa using this
      have hc := h2 i _ (List.getElem?_eq_getElem hl)
      rw [List.getElem?_set_self hl] at hj
      cases hj
      simp [*, go_sem]
    · rw [List.getElem?_set_ne e] at hj
      rw [World.cell?_setCell_other W ⟨b, i, none⟩ ⟨b, j, none⟩ _ (fun h => e (by cases h; rfl))]
      exact h2 j v hj
  · have := h3 j (by simpa using hj)
    simp [*, go_sem]
theorem BoxAt.setOther {W : World} {b g o : Nat} {vs : List Value} {u : Value} (h : BoxAt W b vs) (hne : b ≠ g) : BoxAt (W.setCell ⟨g, o, none⟩ u) b vs := by
  obtain ⟨h1, h2, h3⟩ := h
  have e := setCell_other W g b o u hne
  exact ⟨by simpa using h1, fun j v hj => by simp only [World.cell?, e]; exact h2 j v hj, fun j hj => by simp only [World.frozen?, e]; exact h3 j hj⟩
theorem BoxAt.off {W W' : World} {b : Nat} {vs : List Value} {S : List Nat} (h : BoxAt W b vs) (ho : Off S W W') (hn : b ∉ S) : BoxAt W' b vs := by
  obtain ⟨h1, h2, h3⟩ := h
  have e := ho.block b h1 hn
  exact ⟨Nat.lt_of_lt_of_le h1 ho.size, fun j v hj => by simp only [World.cell?, e]; exact h2 j v hj, fun j hj => by simp only [World.frozen?, e]; exact h3 j hj⟩
/-- The row lies in a block of the kind P, if there is anything in it. -/
def InP (P : Nat → Prop) (x : Value) : Prop := ∀ b off sp n c, x = .slice (some ⟨b, off, sp⟩) n c → n = 0 ∨ P b
def RowP (P : Nat → Prop) (w : World) (size : Nat) (x : Value) (m : Nat) (xs : List Value) : Prop := RowsAt w size x m xs ∧ InP P x
theorem RowP.off {P : Nat → Prop} {S : List Nat} {w w' : World} {size m : Nat} {x : Value} {xs : List Value} (h : RowP P w size x m xs) (ho : Off S w w') (hS : ∀ b, P b → b ∉ S) : RowP P w' size x m xs := by
  obtain ⟨⟨h1, ao, c, rfl, h3, h4, h5⟩, h6⟩ := h
  refine ⟨⟨h1, ao, c, rfl, h3, h4, ?_⟩, h6⟩
  rcases h5 with h5 | ⟨b, off, rfl, hl, hc⟩
  · exact .inl h5
  · rcases h6 b off none m c rfl with h0 | h0
    · exact .inl h0
    · have e := ho.block b hl (hS b h0)
      exact .inr ⟨b, off, rfl, Nat.lt_of_lt_of_le hl ho.size, fun j u hj => by simp only [World.cell?, e]; exact hc j u hj⟩
theorem RowP.mono {P Q : Nat → Prop} {w : World} {size m : Nat} {x : Value} {xs : List Value} (h : RowP P w size x m xs) (hPQ : ∀ b, P b → b < w.heap.size → Q b) : RowP Q w size x m xs := by
  obtain ⟨h0, h6⟩ := h
  refine ⟨h0, fun b off sp n c e => ?_⟩
  obtain ⟨h1, ao, c', he, h3, h4, h5⟩ := h0
  rw [e] at he
  cases he
  rcases h5 with h5 | ⟨b', off', he', hl, hc⟩
  · exact .inl h5
  · cases he'
    rcases h6 _ _ _ _ _ e with g | g
    · exact .inl g
    · exact .inr (hPQ b g hl)
mutual
/-- The three cells that a node is, and what they lead to; all of it in blocks of the kind P. -/
def NodeP (P : Nat → Prop) (w : World) : Nd → Value → Value → Value → Prop
  | .mk p kids, kv, vv, cv => RowP P w 1 kv p.length (keysV p) ∧ RowP P w 1 vv p.length (valsV p) ∧ ∃ xs, RowP P w 3 cv kids.length xs ∧ NodesP P w kids xs
def NodesP (P : Nat → Prop) (w : World) : List Nd → List Value → Prop
  | [], xs => xs = []
  | k :: ks, xs => ∃ a b c xs', xs = a :: b :: c :: xs' ∧ NodeP P w k a b c ∧ NodesP P w ks xs'
end
mutual
theorem NodeP.off {P : Nat → Prop} {S : List Nat} {w w' : World} (ho : Off S w w') (hS : ∀ b, P b → b ∉ S) : ∀ {t : Nd} {kv vv cv : Value}, NodeP P w t kv vv cv → NodeP P w' t kv vv cv
  | .mk p kids, kv, vv, cv, h => by
    obtain ⟨h1, h2, xs, h3, h4⟩ := h
    exact ⟨h1.off ho hS, h2.off ho hS, xs, h3.off ho hS, NodesP.off ho hS h4⟩
theorem NodesP.off {P : Nat → Prop} {S : List Nat} {w w' : World} (ho : Off S w w') (hS : ∀ b, P b → b ∉ S) : ∀ {ks : List Nd} {xs : List Value}, NodesP P w ks xs → NodesP P w' ks xs
  | [], xs, h => h
  | k :: ks, xs, h => by
    obtain ⟨a, b, c, xs', h1, h2, h3⟩ := h
    exact ⟨a, b, c, xs', h1, NodeP.off ho hS h2, NodesP.off ho hS h3⟩
end
mutual
theorem NodeP.mono {P Q : Nat → Prop} {w : World} (hPQ : ∀ b, P b → b < w.heap.size → Q b) : ∀ {t : Nd} {kv vv cv : Value}, NodeP P w t kv vv cv → NodeP Q w t kv vv cv
  | .mk p kids, kv, vv, cv, h => by
    obtain ⟨h1, h2, xs, h3, h4⟩ := h
    exact ⟨h1.mono hPQ, h2.mono hPQ, xs, h3.mono hPQ, NodesP.mono hPQ h4⟩
theorem NodesP.mono {P Q : Nat → Prop} {w : World} (hPQ : ∀ b, P b → b < w.heap.size → Q b) : ∀ {ks : List Nd} {xs : List Value}, NodesP P w ks xs → NodesP Q w ks xs
  | [], xs, h => h
  | k :: ks, xs, h => by
    obtain ⟨a, b, c, xs', h1, h2, h3⟩ := h
    exact ⟨a, b, c, xs', h1, NodeP.mono hPQ h2, NodesP.mono hPQ h3⟩
end
theorem NodeP.below {P : Nat → Prop} {w w' : World} (hb : Below w.heap.size w w') {t : Nd} {kv vv cv : Value} (h : NodeP P w t kv vv cv) : NodeP P w' t kv vv cv := h.off (Off.of (S := []) hb) (by simp)
theorem NodesP.snoc {P : Nat → Prop} {w : World} : ∀ {ks : List Nd} {xs : List Value} {t : Nd} {a b c : Value}, NodesP P w ks xs → NodeP P w t a b c → NodesP P w (ks ++ [t]) (xs ++ [a, b, c])
  | [], xs, t, a, b, c, h, g => by
    have : xs = [] := h
    subst this
    exact ⟨a, b, c, [], rfl, g, rfl⟩
  | k :: ks, xs, t, a, b, c, h, g => by
    obtain ⟨x, y, z, xs', rfl, h2, h3⟩ := h
    exact ⟨x, y, z, xs' ++ [a, b, c], rfl, h2, NodesP.snoc h3 g⟩
theorem NodesP.get {P : Nat → Prop} {w : World} : ∀ {ks : List Nd} {xs : List Value}, NodesP P w ks xs → ∀ i, i < ks.length → ∃ a b c, xs[i * 3]? = some a ∧ xs[i * 3 + 1]? = some b ∧ xs[i * 3 + 2]? = some c ∧ NodeP P w (ks.getD i default) a b c
  | [], xs, h, i, hi => by simp at hi
  | k :: ks, xs, h, i, hi => by
    obtain ⟨x, y, z, xs', rfl, h2, h3⟩ := h
    cases i with
    | zero => exact ⟨x, y, z, rfl, rfl, rfl, by simpa using h2⟩
    | succ i =>
      obtain ⟨a, b, c, g1, g2, g3, g4⟩ := NodesP.get h3 i (by simpa using hi)
      have e : (i + 1) * 3 = i * 3 + 1 + 1 + 1 := by omega
      refine ⟨a, b, c, ?_, ?_, ?_, by simpa using g4⟩
      · rw [e]; simpa using g1
      · rw [e, show i * 3 + 1 + 1 + 1 + 1 = (i * 3 + 1) + 1 + 1 + 1 by omega]; simpa using g2
      · rw [e, show i * 3 + 1 + 1 + 1 + 2 = (i * 3 + 2) + 1 + 1 + 1 by omega]; simpa using g3
theorem NodesP.len {P : Nat → Prop} {w : World} : ∀ {ks : List Nd} {xs : List Value}, NodesP P w ks xs → xs.length = ks.length * 3
  | [], xs, h => by have : xs = [] := h; subst this; rfl
  | k :: ks, xs, h => by
    obtain ⟨x, y, z, xs', rfl, h2, h3⟩ := h
    simp [NodesP.len h3]; omega
theorem NodeP.slices {P : Nat → Prop} {w : World} {t : Nd} {kv vv cv : Value} (h : NodeP P w t kv vv cv) : ∃ a1 c1 a2 c2 a3 c3, kv = .slice a1 t.prs.length c1 ∧ vv = .slice a2 t.prs.length c2 ∧ cv = .slice a3 t.kids.length c3 := by
  cases t with
  | mk p kids =>
    obtain ⟨h1, h2, xs, h3, h4⟩ := h
    obtain ⟨a1, c1, rfl⟩ := h1.1.slice
    obtain ⟨a2, c2, rfl⟩ := h2.1.slice
    obtain ⟨a3, c3, rfl⟩ := h3.1.slice
    exact ⟨a1, c1, a2, c2, a3, c3, rfl, rfl, rfl⟩
theorem goodKeyYes (k : ByteArray) (w : World) (h1 : k.size ≠ 0) (h2 : k.size ≤ 12) : Calls Tryd.prog 69 #[.string k] w fun e w' => e = .returned (.bool true) ∧ w' = w := by
  have i1 : (1 : Int) ≤ (k.size : Int) := by omega
  have i2 : (k.size : Int) ≤ 12 := by omega
  go_enter Tryd.func69, Tryd.ntmps69
  go_wp2
  go_ret
  exact ⟨rfl, rfl⟩
theorem goodKeyNo (k : ByteArray) (w : World) (hm : k.size ≤ maxLen) (h : ¬ (k.size ≠ 0 ∧ k.size ≤ 12)) : Calls Tryd.prog 69 #[.string k] w fun e w' => e = .returned (.bool false) ∧ w' = w := by
  unfold maxLen at hm
  by_cases h1 : k.size = 0
  · have i1 : ¬ ((1 : Int) ≤ (k.size : Int)) := by omega
    clear h h1
    go_enter Tryd.func69, Tryd.ntmps69
    go_wp2
    go_ret
    exact ⟨rfl, rfl⟩
  · have i1 : (1 : Int) ≤ (k.size : Int) := by omega
    have i2 : ¬ ((k.size : Int) ≤ 12) := by omega
    clear h h1
    go_enter Tryd.func69, Tryd.ntmps69
    go_wp2
    go_ret
    exact ⟨rfl, rfl⟩
theorem goodValIs (v : ByteArray) (w : World) (hm : v.size ≤ maxLen) : Calls Tryd.prog 116 #[.string v] w fun e w' => e = .returned (.bool (decide (v.size ≤ 12))) ∧ w' = w := by
  unfold maxLen at hm
  by_cases h1 : v.size ≤ 12
  · have i1 : (v.size : Int) ≤ 12 := by omega
    rw [decide_eq_true h1]
    go_enter Tryd.func116, Tryd.ntmps116
    go_wp2
    go_ret
    exact ⟨rfl, rfl⟩
  · have i1 : ¬ ((v.size : Int) ≤ 12) := by omega
    rw [decide_eq_false h1]
    go_enter Tryd.func116, Tryd.ntmps116
    go_wp2
    go_ret
    exact ⟨rfl, rfl⟩
theorem pairFitsYes (rb : Nat) (x v1 v2 v4 : Value) (last k v : ByteArray) (w : World) (hb : BoxAt w rb [x, v1, v2, .string last, v4]) (h : goodP (k, v)) (hl : ltT last k) :
    Calls Tryd.prog 153 #[.pointer (some ⟨rb, 0, none⟩), .string k, .string v] w fun e w' => e = .returned (.bool true) ∧ w' = w.setCell ⟨rb, 3, none⟩ (.string k) := by
  obtain ⟨h1, h2, h3⟩ := h
  simp only [] at h1 h2 h3
  have HK := goodKeyYes k w h1 h2
  have HV := goodValIs v w (by unfold maxLen; omega)
  rw [decide_eq_true h3] at HV
  have c3 := hb.2.1 3 _ rfl
  have z3 := hb.2.2 3 (by simp)
  have hbl := hb.1
  have hlt : Go.Op.bytesLess last.toList k.toList = true := hl
  have hn1 : Go.Op.bytesLess k.toList last.toList = false := by
    cases h : Go.Op.bytesLess k.toList last.toList
    · rfl
    · exact absurd h (ltT_asymm hl)
  have hn2 : (k.toList == last.toList) = false := by
    rw [beq_eq_false_iff_ne]
    intro h
    have := ba_inj h
    subst this
    exact ltT_irr _ hl
  clear hb hl h1 h2 h3
  go_enter Tryd.func153, Tryd.ntmps153
  go_wp2_with (first | (go_at_call 69; refine HK.mono ?_; rintro e w9 ⟨rfl, hw9⟩; subst w9) | (go_at_call 116; refine HV.mono ?_; rintro e w9 ⟨rfl, hw9⟩; subst w9) | fail)
  go_ret
  exact ⟨rfl, rfl⟩
theorem pairFitsNo (rb : Nat) (x v1 v2 v4 : Value) (last k v : ByteArray) (w : World) (hb : BoxAt w rb [x, v1, v2, .string last, v4]) (hm : k.size ≤ maxLen) (hm2 : v.size ≤ maxLen) (h : ¬ (goodP (k, v) ∧ ltT last k)) :
    Calls Tryd.prog 153 #[.pointer (some ⟨rb, 0, none⟩), .string k, .string v] w fun e w' => e = .returned (.bool false) ∧ w' = w := by
  have HV := goodValIs v w hm2
  have c3 := hb.2.1 3 _ rfl
  have z3 := hb.2.2 3 (by simp)
  have hbl := hb.1
  by_cases hk : k.size ≠ 0 ∧ k.size ≤ 12
  · have HK := goodKeyYes k w hk.1 hk.2
    by_cases hv : v.size ≤ 12
    · rw [decide_eq_true hv] at HV
      have hl : ¬ ltT last k := fun hl => h ⟨⟨hk.1, hk.2, hv⟩, hl⟩
      have hle : (Go.Op.bytesLess k.toList last.toList || k.toList == last.toList) = true := by
        rcases ltT_tri last k with g | g | g
        · exact absurd g hl
        · subst g; simp
        · have : Go.Op.bytesLess k.toList last.toList = true := g
          simp [this]
      clear hb hl h hk hv
      go_enter Tryd.func153, Tryd.ntmps153
      go_wp2_with (first | (go_at_call 69; refine HK.mono ?_; rintro e w9 ⟨rfl, hw9⟩; subst w9) | (go_at_call 116; refine HV.mono ?_; rintro e w9 ⟨rfl, hw9⟩; subst w9) | fail)
      go_ret
      exact ⟨rfl, rfl⟩
    · rw [decide_eq_false hv] at HV
      clear hb h hk hv
      go_enter Tryd.func153, Tryd.ntmps153
      go_wp2_with (first | (go_at_call 69; refine HK.mono ?_; rintro e w9 ⟨rfl, hw9⟩; subst w9) | (go_at_call 116; refine HV.mono ?_; rintro e w9 ⟨rfl, hw9⟩; subst w9) | fail)
      go_ret
      exact ⟨rfl, rfl⟩
  · have HK := goodKeyNo k w hm hk
    clear hb h hk
    go_enter Tryd.func153, Tryd.ntmps153
    go_wp2_with (first | (go_at_call 69; refine HK.mono ?_; rintro e w9 ⟨rfl, hw9⟩; subst w9) | (go_at_call 116; refine HV.mono ?_; rintro e w9 ⟨rfl, hw9⟩; subst w9) | fail)
    go_ret
    exact ⟨rfl, rfl⟩
theorem sameDepthNew (rb : Nat) (x v1 v2 v3 : Value) (d : Nat) (w : World) (hb : BoxAt w rb [x, v1, v2, v3, .int .i64 0]) :
    Calls Tryd.prog 152 #[.pointer (some ⟨rb, 0, none⟩), .int .i64 d] w fun e w' => e = .returned (.bool true) ∧ w' = w.setCell ⟨rb, 4, none⟩ (.int .i64 d) := by
  have c4 := hb.2.1 4 _ rfl
  have z4 := hb.2.2 4 (by simp)
  have hbl := hb.1
  clear hb
  go_enter Tryd.func152, Tryd.ntmps152
  go_wp2
  go_ret
  exact ⟨by first | rfl | simp, rfl⟩
theorem sameDepthOld (rb : Nat) (x v1 v2 v3 : Value) (d l : Nat) (w : World) (hb : BoxAt w rb [x, v1, v2, v3, .int .i64 l]) (hl : l ≠ 0) :
    Calls Tryd.prog 152 #[.pointer (some ⟨rb, 0, none⟩), .int .i64 d] w fun e w' => e = .returned (.bool (decide (l = d))) ∧ w' = w := by
  have c4 := hb.2.1 4 _ rfl
  have z4 := hb.2.2 4 (by simp)
  have hbl := hb.1
  have hl0 : ((l : Int) == 0) = false := beq_false_of_ne (by omega)
  have he : ((l : Int) == (d : Int)) = decide (l = d) := by
    by_cases h : l = d
    · subst h; simp
    · rw [decide_eq_false h]; exact beq_false_of_ne (by omega)
  clear hb
  rw [← he]
  clear he
  go_enter Tryd.func152, Tryd.ntmps152
  go_wp2
  go_ret
  exact ⟨rfl, rfl⟩
/-- As many of each as a page may have. -/
def cntW (n m c : Nat) (whole : Bool) : Prop := n ≤ 4 ∧ m = n ∧ (c = 0 ∨ c = n + 1) ∧ (if whole = true then 0 < n ∨ c = 0 else 2 ≤ n)
instance (n m c : Nat) (whole : Bool) : Decidable (cntW n m c whole) := by unfold cntW; exact inferInstance
theorem bel_ad (w : World) (o : Obj) (n : Nat) : Below w.heap.size w ((w.alloc o).drewN n) := ((Below.refl w.heap.size w).alloc (Nat.le_refl _) o).trans ⟨rfl, rfl, rfl, Nat.le_refl _, fun _ _ => rfl⟩
set_option maxHeartbeats 3200000 in
theorem goodCountsIs (a1 a2 a3 : Option Addr) (n m c c1 c2 c3 : Nat) (whole : Bool) (w : World) (hn : n ≤ 1048576) (hm : m ≤ 1048576) (hc : c ≤ 1048576) :
    Calls Tryd.prog 151 #[.agg #[.slice a1 n c1, .slice a2 m c2, .slice a3 c c3], .bool whole] w fun e w' => e = .returned (.bool (decide (cntW n m c whole))) ∧ Below w.heap.size w w' := by
  obtain ⟨R, hR⟩ : ∃ R, R = decide (cntW n m c whole) := ⟨_, rfl⟩
  rw [← hR]
  by_cases h1 : 4 < n
  · have i1 : (4 : Int) < (n : Int) := by omega
    have : R = false := by rw [hR]; exact decide_eq_false (fun h => by have := h.1; omega)
    subst this
    clear hR
    go_enter Tryd.func151, Tryd.ntmps151
    go_wp2_with fail
    go_quiet (fail)
    go_wp2
    go_ret
    exact ⟨rfl, bel_ad _ _ _⟩
  · have i1 : ¬ ((4 : Int) < (n : Int)) := by omega
    by_cases h2 : m = n
    · subst h2
      have i2 : ((m : Int) != (m : Int)) = false := by simp
      by_cases h3 : c = 0
      · subst h3
        have i3 : (((0 : Nat) : Int) != 0) = false := rfl
        have i30 : (((0 : Nat) : Int) == 0) = true := rfl
        cases whole
        · have : R = decide ((2 : Int) ≤ (m : Int)) := by rw [hR]; apply decide_eq_decide.2; simp [cntW]; omega
          subst this
          clear hR
          go_enter Tryd.func151, Tryd.ntmps151
          go_wp2_with fail
          go_quiet (fail)
          go_wp2
          go_ret
          exact ⟨rfl, bel_ad _ _ _⟩
        · have : R = true := by rw [hR]; apply decide_eq_true; simp [cntW]; omega
          subst this
          clear hR
          by_cases h0 : 0 < m
          · have i0 : (0 : Int) < (m : Int) := by omega
            go_enter Tryd.func151, Tryd.ntmps151
            go_wp2_with fail
            go_quiet (fail)
            go_wp2
            go_ret
            exact ⟨rfl, bel_ad _ _ _⟩
          · have i0 : ¬ ((0 : Int) < (m : Int)) := by omega
            go_enter Tryd.func151, Tryd.ntmps151
            go_wp2_with fail
            go_quiet (fail)
            go_wp2
            go_ret
            exact ⟨rfl, bel_ad _ _ _⟩
      · have i3 : ((c : Int) != 0) = true := by rw [bne, beq_false_of_ne (by omega)]; rfl
        have i30 : ((c : Int) == 0) = false := beq_false_of_ne (by omega)
        by_cases h4 : c = m + 1
        · have i4 : ((c : Int) != (m : Int) + 1) = false := by rw [h4]; simp
          cases whole
          · have : R = decide ((2 : Int) ≤ (m : Int)) := by rw [hR]; apply decide_eq_decide.2; simp [cntW, h4]; omega
            subst this
            clear hR h4
            go_enter Tryd.func151, Tryd.ntmps151
            go_wp2_with fail
            go_quiet (fail)
            go_wp2
            go_ret
            exact ⟨rfl, bel_ad _ _ _⟩
          · have : R = decide ((0 : Int) < (m : Int)) := by rw [hR]; apply decide_eq_decide.2; simp [cntW, h4]; omega
            subst this
            clear hR h4
            by_cases h0 : 0 < m
            · have i0 : (0 : Int) < (m : Int) := by omega
              go_enter Tryd.func151, Tryd.ntmps151
              go_wp2_with fail
              go_quiet (fail)
              go_wp2
              go_ret
              exact ⟨by first | rfl | (simp; omega), bel_ad _ _ _⟩
            · have i0 : ¬ ((0 : Int) < (m : Int)) := by omega
              go_enter Tryd.func151, Tryd.ntmps151
              go_wp2_with fail
              go_quiet (fail)
              go_wp2
              go_ret
              exact ⟨by first | rfl | (simp; omega), bel_ad _ _ _⟩
        · have i4 : ((c : Int) != (m : Int) + 1) = true := by rw [bne, beq_false_of_ne (by omega)]; rfl
          have : R = false := by rw [hR]; exact decide_eq_false (fun h => by rcases h.2.2.1 with h | h; exact h3 h; exact h4 h)
          subst this
          clear hR
          go_enter Tryd.func151, Tryd.ntmps151
          go_wp2_with fail
          go_quiet (fail)
          go_wp2
          go_ret
          exact ⟨rfl, bel_ad _ _ _⟩
    · have i2 : ((m : Int) != (n : Int)) = true := by rw [bne, beq_false_of_ne (by omega)]; rfl
      have : R = false := by rw [hR]; exact decide_eq_false (fun h => h2 h.2.1)
      subst this
      clear hR
      go_enter Tryd.func151, Tryd.ntmps151
      go_wp2_with fail
      go_quiet (fail)
      go_wp2
      go_ret
      exact ⟨rfl, bel_ad _ _ _⟩
end Go.Proofs.YtgjcegmjhkehnaaDoor
