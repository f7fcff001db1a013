/- Contracts of the program's words of a text. No condition. -/
import Derived.Test.YtkkmnegmghllpaaSpecWo
import Derived.Test.YtkkmnegmghllpaaSwapG
import Derived.WalkSmall
namespace Go.Proofs.Ytkkmnegmghllpaa
open Go.ChangeShapes Go.WideShapes Go.ChangeAt Go.RowKit Go.Deep
set_option linter.unusedVariables false
attribute [local go_sem ↓] Go.wp_at_zero Go.wp_at_succ

theorem setCell_sameI {w : World} {g : Nat} {cs : Array Value} {t : TypeId} {fz : Nat × Nat} (h : w.heap[g]? = some (.cells cs t fz)) (o : Nat) (v : Value) : (w.setCell ⟨g, o, none⟩ v).heap[g]? = some (.cells (cs.setIfInBounds o v) t fz) := by
  unfold World.setCell
  simp only [Array.getElem?_modify, h]
  simp
theorem ownS_set {w : World} {base : Nat} {e : TypeId} {n g cap k : Nat} {u : Value} {xs : List Value} (h : OwnS w base e (.slice (some ⟨g, 0, none⟩) n cap) n xs) (hk : k < n) :
    OwnS (w.setCell ⟨g, k, none⟩ u) base e (.slice (some ⟨g, 0, none⟩) n cap) n (xs.set k u) := by
  rcases h with h | ⟨h0, _⟩
  · obtain ⟨hl, ⟨h1, _⟩ | ⟨g', cap', cur, he, hb, hcur, h1, h2, h3, h4⟩⟩ := h
    · cases h1
    · cases he
      refine .inl ⟨by simp [hl], .inr ⟨g, cap, cur.setIfInBounds k u, rfl, hb, setCell_sameI hcur k u, h1, h2, by simp [h3], ?_⟩⟩
      rw [Array.toList_setIfInBounds, List.take_set, h4]
  · omega
theorem own_iterAt {w : World} {b base : Nat} {e : TypeId} {n : Nat} {v : Value} {xs : List Value} (h : OwnS w base e v n xs) (hb : b < base) (s : ByteArray) (p : Nat) : OwnS (w.iterAt b s p) base e v n xs :=
  own_keep h fun g hg => Lib.iterAt_other w b g s p (by have := (own_lt h g hg).1; omega)
/-- What a letter comes to. -/
def smN (n : Nat) : Nat := if letN n = 0 then n else letN n
set_option maxHeartbeats 1600000 in
theorem implSmall (n : Nat) (hn : n ≤ 2147483647) (w : World) :
    Calls Try.prog 63 #[.int .i32 n] w fun e w' => e = .returned (.tuple #[.int .i32 (smN n : Nat), .bool (decide (letN n ≠ 0))]) ∧ w' = w := by
  by_cases h1 : 97 ≤ n ∧ n ≤ 122
  · have hl : letN n = n := by unfold letN; rw [if_pos h1]
    have hs : smN n = n := by unfold smN; rw [hl]; simp
    have hd : decide (letN n ≠ 0) = true := by rw [hl]; simp; omega
    rw [hs, hd]
    clear hl hs hd
    have i2 : ¬ ((n : Int) ≤ 90) := by omega
    have d1 : decide ((n : Int) ≤ 122) = true := by simp; omega
    go_enter Try.func63, Try.ntmps63
    go_wp2
    go_returns
    exact ⟨rfl, rfl⟩
  · by_cases h2 : 65 ≤ n ∧ n ≤ 90
    · have hl : letN n = n + 32 := by unfold letN; rw [if_neg h1, if_pos h2]
      have hs : smN n = n + 32 := by unfold smN; rw [hl]; simp
      have hd : decide (letN n ≠ 0) = true := by rw [hl]; simp
      rw [hs, hd]
      clear hl hs hd
      have hw1 : IntKind.i32.wrap ((n : Int) - 65) = (n : Int) - 65 := by rw [IntKind.wrap_i32]; omega
      have hw : IntKind.i32.wrap ((n : Int) - 65 + 97) = (n : Int) + 32 := by rw [IntKind.wrap_i32]; omega
      go_enter Try.func63, Try.ntmps63
      go_wp2
      go_returns
      exact ⟨by first | rfl | (simp; omega), rfl⟩
    · have hl : letN n = 0 := by unfold letN; rw [if_neg h1, if_neg h2]
      have hs : smN n = n := by unfold smN; rw [hl]; simp
      have hd : decide (letN n ≠ 0) = false := by rw [hl]; simp
      rw [hs, hd]
      clear hl hs hd
      by_cases h3 : 122 < n
      · have i1 : ¬ ((n : Int) ≤ 122) := by omega
        have i2 : ¬ ((n : Int) ≤ 90) := by omega
        go_enter Try.func63, Try.ntmps63
        go_wp2
        go_returns
        exact ⟨rfl, rfl⟩
      · by_cases h4 : 90 < n
        · have i1 : ¬ ((97 : Int) ≤ (n : Int)) := by omega
          have i2 : ¬ ((n : Int) ≤ 90) := by omega
          go_enter Try.func63, Try.ntmps63
          go_wp2
          go_returns
          exact ⟨rfl, rfl⟩
        · have i1 : ¬ ((97 : Int) ≤ (n : Int)) := by omega
          have i2 : ¬ ((65 : Int) ≤ (n : Int)) := by omega
          go_enter Try.func63, Try.ntmps63
          go_wp2
          go_returns
          exact ⟨rfl, rfl⟩
/-- Whether a text's words may stand in documents; which they are, or none. -/
def docB (s : ByteArray) : Bool := decide (s.size ≤ 120 ∧ (wordsL s).length ≤ 20)
def docA (s : ByteArray) : List ByteArray := if docB s then wordsL s else []
set_option maxHeartbeats 6400000 in
set_option maxRecDepth 100000 in
theorem implWords (s : ByteArray) (hs : s.size ≤ maxLen) (w : World) :
    Calls Try.prog 24 #[.string s] w fun e w' => ∃ v, e = .returned (.tuple #[v, .bool (docB s)]) ∧ OwnS w' w.heap.size 9 v (docA s).length (strsV (docA s)) ∧ Below w.heap.size w w' := by
  unfold maxLen at hs
  by_cases h120 : 120 < s.size
  · have hb : docB s = false := by simp [docB]; omega
    have ha : docA s = [] := by unfold docA; rw [hb]; rfl
    rw [ha, hb]
    have hi : (120 : Int) < (s.size : Int) := by omega
    clear ha hb
    go_enter Try.func24, Try.ntmps24
    go_wp2
    go_returns
    exact ⟨_, rfl, OwnS.nil _ _ _, Below.refl _ _⟩
  obtain ⟨i0, hi, hzz⟩ := Option.map_eq_some_iff.1 infoTx
  simp only [Prod.mk.injEq] at hzz
  obtain ⟨hz0, hz1, hz2⟩ := hzz
  have h120i : ¬ (120 : Int) < (s.size : Int) := by omega
  have hs120 : s.size ≤ 120 := by omega
  clear hs h120
  go_enter Try.func24, Try.ntmps24
  go_wp2
  go_loopw [4, 5] (fun o b wr => ∃ (pos : Nat) (st : List ByteArray), pos ≤ s.size ∧ wr.heap[w.heap.size]? = some (.stringIter s pos) ∧ b = .bool (decide ((walkW s pos).2.size ≠ 0)) ∧ Hid (endW (walkW s pos) = st) ∧ st.length ≤ pos ∧ Hid (OwnS wr (w.heap.size + 1) 9 o st.length (strsV st)) ∧ Below w.heap.size w wr) (fun _ _ wr => s.size - wr.iterPos w.heap.size)
  case atStart => exact ⟨0, [], Nat.zero_le _, World.iter_heap w s 0, rfl, rfl, by simp, OwnS.nil _ _ _, (Below.refl _ _).alloc (Nat.le_refl _) _⟩
  case round =>
    obtain ⟨pos, st, hps, hit, rfl, hst, hsl, hO, kb⟩ := hrel
    have hpos0 := iterPos_of hit
    obtain ⟨va, vc, hve⟩ := (rows_of_ownS hO.out).slice
    subst hve
    by_cases hp : pos < s.size
    · have hnx : ∀ ty, (Instr.next (.pointer (some ⟨w.heap.size, 0, none⟩)) true ty).run Try.prog wr = _ := fun ty => Lib.run_next_any_at wr w.heap.size s pos ty hit hp
      have hit2 := Lib.iterAt_heap wr w.heap.size s pos (pos + (Utf8.decode s pos).2) hit
      have hbw2 := Lib.below_iterAt kb (k := w.heap.size) (Nat.le_refl _) s (pos + (Utf8.decode s pos).2)
      have HO2 := hid (own_iterAt hO.out (b := w.heap.size) (by omega) s (pos + (Utf8.decode s pos).2))
      have hrle := decode_le s pos
      obtain ⟨W1, hW1⟩ : ∃ W1, W1 = wr.iterAt w.heap.size s (pos + (Utf8.decode s pos).2) := ⟨_, rfl⟩
      rw [← hW1] at hnx hit2 hbw2 HO2
      have hW1s : w.heap.size < W1.heap.size := (Array.getElem?_eq_some_iff.1 hit2).1
      clear hW1 hit hO kb
      have hcases : (letN (Utf8.decode s pos).1 = 0 ∧ endW (walkW s (pos + (Utf8.decode s pos).2)) = st ∧ (walkW s (pos + (Utf8.decode s pos).2)).2.size = 0 ∧ pos + (Utf8.decode s pos).2 ≤ s.size ∧ 1 ≤ (Utf8.decode s pos).2) ∨ (letN (Utf8.decode s pos).1 ≠ 0 ∧ (Utf8.decode s pos).2 = 1 ∧ walkW s (pos + 1) = stepW (walkW s pos) (Utf8.decode s pos).1) := by
        by_cases hh : 128 ≤ byN s pos
        · obtain ⟨r1, r2, r3, r4, r5⟩ := rune_high s pos hp hh
          left
          exact ⟨by unfold letN; rw [if_neg (by omega), if_neg (by omega)], r4.trans hst.out, r5, r1, r3⟩
        · have hd := rune_low s pos hp (by omega)
          rw [hd]
          by_cases hl : letN (byN s pos) = 0
          · left
            obtain ⟨e1, e2⟩ := step_none (st := walkW s pos) hl
            exact ⟨hl, e1.trans hst.out, e2, by show pos + 1 ≤ _; omega, Nat.le_refl _⟩
          · exact .inr ⟨hl, rfl, rfl⟩
      have HSM := fun W => implSmall (Utf8.decode s pos).1 hrle W
      generalize (Utf8.decode s pos).1 = r at *
      generalize (Utf8.decode s pos).2 = wd at *
      rcases hcases with ⟨hl, hE, hZ, hle, hw1⟩ | ⟨hl, hw1, hE⟩
      · have hd : decide (letN r ≠ 0) = false := by rw [hl]; rfl
        rw [hd] at HSM
        have HZ : Hid (decide ((walkW s (pos + wd)).2.size ≠ 0) = false) := by show _ = _; rw [hZ]; rfl
        have HE := hid hE
        clear hl hd hE hZ hst
        go_wp2_with fail
        refine (HSM _).mono ?_
        rintro e w9 ⟨rfl, rfl⟩
        clear HSM hnx
        generalize decide ((walkW s pos).2.size ≠ 0) = B at *
        go_wp2
        refine ⟨⟨pos + wd, st, hle, hit2, by rw [HZ.out], HE, by omega, HO2, hbw2⟩, by rw [iterPos_of hit2, hpos0]; omega⟩
      · subst hw1
        have hsm : smN r = letN r := by unfold smN; rw [if_neg hl]
        have hd : decide (letN r ≠ 0) = true := by simp [hl]
        rw [hd, hsm] at HSM
        have hlb : 97 ≤ letN r ∧ letN r ≤ 122 := (letN_bd r).resolve_left hl
        have henc : Utf8.encode ((letN r : Nat) : Int) = oneB (letN r) := encode_low _ (by omega)
        have hob1 : (oneB (letN r)).size = 1 := oneB_size _
        obtain ⟨hn1, hn2, hn3⟩ := step_let (st := walkW s pos) hl
        rw [← hE] at hn1 hn2 hn3
        have HZ : Hid (decide ((walkW s (pos + 1)).2.size ≠ 0) = true) := by show _ = _; simp [hn2]
        have HE := hid hn3
        have hwl := (walk_len s pos).2
        have hst0 := hst.out
        clear hE hn1 hn2 hn3 hl hd hsm hst
        generalize letN r = q at *
        generalize oneB q = ob at *
        obtain ⟨o, c, hoc0⟩ : ∃ o c, walkW s pos = (o, c) := ⟨_, _, rfl⟩
        rw [hoc0] at hwl HE hst0 ⊢
        dsimp only at hwl HE hst0 ⊢
        by_cases hc0 : c.size = 0
        · have hdc : decide (c.size ≠ 0) = false := by simp [hc0]
          have hce : c = ⟨#[]⟩ := ba_empty hc0
          have hso : o = st := by rw [← hst0]; unfold endW; rw [if_pos hc0]
          subst hso
          have HE2 : Hid (endW (walkW s (pos + 1)) = o ++ [ob]) := by
            show _ = _
            rw [HE.out, hce]
            rw [show (⟨#[]⟩ : ByteArray) ++ ob = ob from empty_app ob]
          rw [hdc]
          have how := HO2.out
          clear hst0 HE hdc hce hc0 hwl
          go_wp2_with fail
          refine (HSM _).mono ?_
          rintro e w9 ⟨rfl, rfl⟩
          clear HSM hnx
          go_wp2_with (first | (at_builtin; refine wplS rfl _ _ 23 rfl (w.heap.size + 1) 9 i0 (.string ByteArray.empty) 16 Try.underlying23 hi hz0 hz1 hz2 rfl _ _ _ rfl (how.alloc _) _ 1 [.string ⟨#[]⟩] rfl (news1 _ _ _) ?c1 ?c2 ?c3 ?c4 ?_) | fail)
          case c1 => first | rfl | (intro u hu; simp at hu; subst hu; rfl)
          case c2 => unfold maxLen; omega
          case c3 => omega
          case c4 => first | omega | (simp; omega)
          intro x1 w4 ho1 hg1 he1
          have hit4 : w4.heap[w.heap.size]? = some (.stringIter s (pos + 1)) := by
            rw [hg1.block w.heap.size (by simp; omega) (fun hm => by
              have h9 := (own_lt how _ hm).1
              omega), Below.heap_alloc _ _ _ hW1s]; exact hit2
          have HK4 : Below w.heap.size w w4 := (hbw2.alloc (by omega) _).trans (below_own (how.alloc _) (by omega) hg1 (by simp; omega))
          obtain ⟨h0, _⟩ | ⟨h0, g, cap, hve, hgo, hor⟩ := row_of_ownS ho1
          · omega
          subst hve
          have hoc := hor.2.2.1 o.length (by omega)
          have hof := hor.2.2.2 o.length (by omega)
          have hgl := hor.2.1
          have hgb := hor.1
          have hoc2 : w4.cell? ⟨g, o.length, none⟩ = some (.string ⟨#[]⟩) := by
            rw [hoc]; simp [strsV, List.getD]
          have HO4 : Hid (OwnS (w4.setCell ⟨g, o.length, none⟩ (.string (⟨#[]⟩ ++ ob))) (w.heap.size + 1) 9 (.slice (some ⟨g, 0, none⟩) (o.length + 1) cap) (o ++ [ob]).length (strsV (o ++ [ob]))) := by
            show OwnS _ _ _ _ _ _
            have := ownS_set (k := o.length) (u := .string (⟨#[]⟩ ++ ob)) ho1 (by omega)
            rw [show (⟨#[]⟩ : ByteArray) ++ ob = ob from empty_app ob] at this ⊢
            simpa [strsV] using this
          have hit5 : (w4.setCell ⟨g, o.length, none⟩ (.string (⟨#[]⟩ ++ ob))).heap[w.heap.size]? = some (.stringIter s (pos + 1)) := by
            rw [Below.heap_setCell _ _ _ _ (by show w.heap.size ≠ g; omega)]; exact hit4
          have HK5 : Below w.heap.size w (w4.setCell ⟨g, o.length, none⟩ (.string (⟨#[]⟩ ++ ob))) := Below.setCell HK4 (p := ⟨g, o.length, none⟩) (by show w.heap.size ≤ g; omega) _
          have hlw : IntKind.i64.wrap ((o.length : Int)) = (o.length : Int) := by rw [IntKind.wrap_i64]; omega
          have hlw2 : (o.length : Int) + 1 - 1 = (o.length : Int) := by omega
          have hes : (⟨#[]⟩ : ByteArray).size = 0 := rfl
          have hls : (o ++ [ob]).length ≤ pos + 1 := by simp; omega
          clear ho1 hg1 he1 how hoc hor hit4 HK4
          generalize ho : o.length = L at *
          go_wp2
          refine ⟨⟨pos + 1, o ++ [ob], by omega, hit5, by rw [HZ.out], HE2, hls, HO4, HK5⟩, by rw [iterPos_of hit5, hpos0]; omega⟩
        · have hdc : decide (c.size ≠ 0) = true := by simp [hc0]
          have hso : o ++ [c] = st := by rw [← hst0]; unfold endW; rw [if_neg hc0]
          have hsl2 : st.length = o.length + 1 := by rw [← hso]; simp
          have HE2 : Hid (endW (walkW s (pos + 1)) = o ++ [c ++ ob]) := HE
          rw [hdc]
          have how := HO2.out
          have hst1 := hid hso
          rw [hsl2] at how ⊢
          clear hst0 HE hdc hc0
          obtain ⟨h0, _⟩ | ⟨h0, g, cap, hve, hgo, hor⟩ := row_of_ownS how
          · omega
          cases hve
          have hgb := hor.1
          have hor2 := hid hor
          have HOW := hid how
          have hss := hsl2
          clear hor how hsl2
          go_wp2_with fail
          refine (HSM _).mono ?_
          rintro e w9 ⟨rfl, rfl⟩
          clear HSM hnx
          have hoc := hor2.out.2.2.1 o.length (by omega)
          have hof := hor2.out.2.2.2 o.length (by omega)
          have hgl := hor2.out.2.1
          have hoc2 : w9.cell? ⟨g, o.length, none⟩ = some (.string c) := by
            rw [hoc, ← hst1.out]; simp [strsV, List.getD]
          have HO4 : Hid (OwnS (w9.setCell ⟨g, o.length, none⟩ (.string (c ++ ob))) (w.heap.size + 1) 9 (.slice (some ⟨g, 0, none⟩) (o.length + 1) vc) (o ++ [c ++ ob]).length (strsV (o ++ [c ++ ob]))) := by
            show OwnS _ _ _ _ _ _
            have h8 := ownS_set (k := o.length) (u := .string (c ++ ob)) HOW.out (by omega)
            rw [← hst1.out] at h8
            simpa [strsV] using h8
          have hit5 : (w9.setCell ⟨g, o.length, none⟩ (.string (c ++ ob))).heap[w.heap.size]? = some (.stringIter s (pos + 1)) := by
            rw [Below.heap_setCell _ _ _ _ (by show w.heap.size ≠ g; omega)]; exact hit2
          have HK5 : Below w.heap.size w (w9.setCell ⟨g, o.length, none⟩ (.string (c ++ ob))) := Below.setCell hbw2 (p := ⟨g, o.length, none⟩) (by show w.heap.size ≤ g; omega) _
          have hlw : IntKind.i64.wrap ((o.length : Int)) = (o.length : Int) := by rw [IntKind.wrap_i64]; omega
          have hlw2 : (o.length : Int) + 1 - 1 = (o.length : Int) := by omega
          have hls : (o ++ [c ++ ob]).length ≤ pos + 1 := by simp; omega
          clear hoc hor2 HOW
          generalize ho : o.length = L at *
          go_wp2
          refine ⟨⟨pos + 1, o ++ [c ++ ob], by omega, hit5, by rw [HZ.out], HE2, hls, HO4, HK5⟩, by rw [iterPos_of hit5, hpos0]; omega⟩
    · have hnx : ∀ ty, (Instr.next (.pointer (some ⟨w.heap.size, 0, none⟩)) true ty).run Try.prog wr = _ := fun ty => Lib.run_next_end_at wr w.heap.size s pos ty hit hp
      have hke : pos = s.size := by omega
      subst hke
      have HF : Hid (wordsL s = st) := hst.out
      clear hit hst
      by_cases h20 : 20 < st.length
      · have hb : docB s = false := by simp [docB]; rw [HF.out]; omega
        have ha : docA s = [] := by unfold docA; rw [hb]; rfl
        have HA := hid ha
        have HB := hid hb
        have hi20 : (20 : Int) < (st.length : Int) := by omega
        clear ha hb hO
        go_wp2
        go_returns
        exact ⟨_, by rw [HB.out]; rfl, by rw [HA.out]; exact OwnS.nil _ _ _, kb⟩
      · have hb : docB s = true := by simp [docB]; rw [HF.out]; omega
        have ha : docA s = st := by unfold docA; rw [hb, if_pos rfl]; exact HF.out
        have HA := hid ha
        have HB := hid hb
        have hi20 : ¬ (20 : Int) < (st.length : Int) := by omega
        have HO3 := hid (own_mono (base' := w.heap.size) hO.out (by omega))
        clear ha hb hO
        go_wp2
        go_returns
        exact ⟨_, by rw [HB.out]; rfl, by rw [HA.out]; exact HO3.out, kb⟩
end Go.Proofs.Ytkkmnegmghllpaa
