/- Contracts of the model's words of a text. No condition. -/
import Derived.Test.YtkkmnegmghllpaaWS
import Derived.Test.YtkkmnegmghllpaaWd
import Derived.Laws.Concat
import Derived.Lib.OthersKept
namespace Go.Proofs.Ytkkmnegmghllpaa
open Go.ChangeShapes Go.WideShapes Go.ChangeAt Go.RowKit Go.Deep
set_option linter.unusedVariables false
attribute [local go_sem ↓] Go.wp_at_zero Go.wp_at_succ

theorem infoTx : (Try.prog.info? 9).map (fun i => (i.zero, i.size, i.bytes)) = some (some (.string ByteArray.empty), 1, 16) := by kernel_rfl
theorem specLetter (n : Nat) (hn : n < 256) (w : World) :
    Calls Try.prog 84 #[.int .u8 n] w fun e w' => e = .returned (.int .u8 (letN n : Nat)) ∧ w' = w := by
  by_cases h1 : 97 ≤ n ∧ n ≤ 122
  · have hl : letN n = n := by unfold letN; rw [if_pos h1]
    rw [hl]
    clear hl
    go_enter Try.func84, Try.ntmps84
    go_wp2
    go_ret
    exact ⟨rfl, rfl⟩
  · by_cases h2 : 65 ≤ n ∧ n ≤ 90
    · have hl : letN n = n + 32 := by unfold letN; rw [if_neg h1, if_pos h2]
      have hw : IntKind.u8.wrap ((n : Int) + 32) = (n : Int) + 32 := by rw [IntKind.wrap_u8]; omega
      have i1 : ¬ ((97 : Int) ≤ (n : Int)) := by omega
      rw [hl]
      clear hl
      go_enter Try.func84, Try.ntmps84
      go_wp2
      go_ret
      exact ⟨rfl, rfl⟩
    · have hl : letN n = 0 := by unfold letN; rw [if_neg h1, if_neg h2]
      rw [hl]
      clear hl
      by_cases h3 : 122 < n
      · have i1 : ¬ ((n : Int) ≤ 122) := by omega
        have i2 : ¬ ((n : Int) ≤ 90) := by omega
        go_enter Try.func84, Try.ntmps84
        go_wp2
        go_ret
        exact ⟨rfl, rfl⟩
      · by_cases h4 : 90 < n
        · have i1 : ¬ ((97 : Int) ≤ (n : Int)) := by omega
          have i2 : ¬ ((n : Int) ≤ 90) := by omega
          go_enter Try.func84, Try.ntmps84
          go_wp2
          go_ret
          exact ⟨rfl, rfl⟩
        · have i1 : ¬ ((97 : Int) ≤ (n : Int)) := by omega
          have i2 : ¬ ((65 : Int) ≤ (n : Int)) := by omega
          go_enter Try.func84, Try.ntmps84
          go_wp2
          go_ret
          exact ⟨rfl, rfl⟩
theorem news1 (W : World) (u : Value) (tt : TypeId) : RowsAt (W.alloc (.cells #[u] tt)) 1 (.slice (some ⟨W.heap.size, 0, none⟩) 1 1) 1 [u] := by
  refine ⟨rfl, _, 1, rfl, Nat.le_refl _, by simp, .inr ⟨W.heap.size, 0, rfl, by simp, fun j u' hj => ?_⟩⟩
  cases j with
  | zero => simp at hj; subst hj; simp [World.cell?_alloc_new]
  | succ j => simp at hj
theorem below_own {B base n : Nat} {e : TypeId} {v : Value} {xs : List Value} {W w' : World} (h : OwnS W base e v n xs) (hb : B ≤ base) (ho : Off (obl v) W w') (hB : B ≤ W.heap.size) : Below B W w' :=
  ho.below hB fun g hg => Nat.le_trans hb (own_lt h g hg).1
set_option maxHeartbeats 6400000 in
set_option maxRecDepth 100000 in
theorem specWords (s : ByteArray) (hs : s.size ≤ 1048576) (w : World) :
    Calls Try.prog 60 #[.string s] w fun e w' => ∃ v, e = .returned v ∧ OwnS w' w.heap.size 9 v (wordsL s).length (strsV (wordsL s)) ∧ Below w.heap.size w w' := by
  obtain ⟨i0, hi, hzz⟩ := Option.map_eq_some_iff.1 infoTx
  simp only [Prod.mk.injEq] at hzz
  obtain ⟨hz0, hz1, hz2⟩ := hzz
  have hcv := mconv1
  have HW : Hid (wordsL s = endW (walkW s s.size)) := rfl
  go_enter Try.func60, Try.ntmps60
  go_wp2
  go_loopw [3, 4, 5] (fun o c i wr => ∃ (k : Nat) (st : WSt), k ≤ s.size ∧ i = .int .i64 k ∧ c = .string st.2 ∧ Hid (walkW s k = st) ∧ Hid (OwnS wr w.heap.size 9 o st.1.length (strsV st.1)) ∧ Below w.heap.size w wr) (fun _ _ i _ => s.size - (intOf i).toNat)
  case atStart => exact ⟨0, _, Nat.zero_le _, rfl, rfl, rfl, OwnS.nil _ _ _, Below.refl _ _⟩
  case round =>
    obtain ⟨k, st, hk, rfl, rfl, hst, hO, kb⟩ := hrel
    obtain ⟨va, vc, hve⟩ := (rows_of_ownS hO.out).slice
    subst hve
    have hln := walk_len s k
    rw [hst.out] at hln
    obtain ⟨o, c⟩ := st
    have hlo : o.length ≤ k := hln.1
    have hlc : c.size ≤ k := hln.2
    have HO : Hid (OwnS wr w.heap.size 9 (.slice va o.length vc) o.length (strsV o)) := hO
    clear hO hln
    by_cases hlt : k < s.size
    · have hix : ∀ W, (Instr.index 9 (.string s) (.int .i64 (k : Int))).run Try.prog W = .ok (.int .u8 (byN s k : Nat)) W := fun W => by
        rw [run_index_string (h := Try.underlying9), dif_pos ⟨by omega, by omega⟩]
        have := byN_get s k hlt
        simp only [Int.toNat_natCast]
        rw [this]
      have hbn : byN s k < 256 := by unfold byN; exact UInt8.toNat_lt _
      have HLT := fun W => specLetter (byN s k) hbn W
      have hki : (k : Int) < (s.size : Int) := by omega
      have HS1 : Hid (walkW s (k + 1) = stepW (o, c) (byN s k)) := by
        show _ = _
        rw [← hst.out]; rfl
      generalize byN s k = n at *
      by_cases hl : letN n = 0
      · rw [hl] at HLT
        by_cases h0 : c.size = 0
        · have hce : c = ⟨#[]⟩ := ba_empty h0
          subst hce
          have HST : Hid (walkW s (k + 1) = (o, ⟨#[]⟩)) := by
            show _ = _
            rw [HS1.out]; unfold stepW; rw [if_pos hl, if_pos h0]
          clear HS1 hst h0 hlc
          have hq : ((0 : Nat) : Int) = 0 := rfl
          go_wp2_with fail
          refine (HLT _).mono ?_
          rintro e w9 ⟨rfl, rfl⟩
          clear HLT
          go_wp2
          refine ⟨?_, by simp [intOf]; omega⟩
          first | exact ⟨k + 1, _, hlt, by go_num, rfl, HST, HO, kb⟩ | ((repeat apply Exists.intro); exact ⟨⟨k + 1, _, hlt, by go_num, rfl, HST, HO, kb⟩, rfl⟩)
        · obtain ⟨d0, l0, hcl⟩ := cons_of h0
          have HST : Hid (walkW s (k + 1) = (o ++ [c], ⟨#[]⟩)) := by
            show _ = _
            rw [HS1.out]; unfold stepW; rw [if_pos hl, if_neg h0]; rfl
          have how := HO.out
          have hsz := kb.size
          clear HS1 hst h0
          go_wp2_with fail
          refine (HLT _).mono ?_
          rintro e w9 ⟨rfl, rfl⟩
          clear HLT
          go_wp2_with (first | (at_builtin; refine wplS rfl _ _ 23 rfl w.heap.size 9 i0 (.string ByteArray.empty) 16 Try.underlying23 hi hz0 hz1 hz2 rfl _ _ _ rfl (how.alloc _) _ 1 [.string c] rfl (news1 _ _ _) ?c1 ?c2 ?c3 ?c4 ?_) | fail)
          case c1 => first | rfl | (intro u hu; simp at hu; subst hu; rfl)
          case c2 => unfold maxLen; omega
          case c3 => omega
          case c4 => first | omega | (simp; omega)
          intro x1 w4 ho1 hg1 he1
          obtain ⟨va2, vc2, hve⟩ := (rows_of_ownS ho1).slice
          subst hve
          have HO4 : Hid (OwnS w4 w.heap.size 9 (.slice va2 (o.length + 1) vc2) (o ++ [c]).length (strsV (o ++ [c]))) := by
            show OwnS _ _ _ _ _ _
            simpa [strsV] using ho1
          have HK4 : Below w.heap.size w w4 := (kb.alloc kb.size _).trans (below_own (how.alloc _) (Nat.le_refl _) hg1 (by simp; omega))
          clear ho1 hg1 he1 how
          go_wp2
          refine ⟨?_, by simp [intOf]; omega⟩
          first | exact ⟨k + 1, _, hlt, by go_num, rfl, HST, HO4, HK4⟩ | ((repeat apply Exists.intro); exact ⟨⟨k + 1, _, hlt, by go_num, rfl, HST, HO4, HK4⟩, rfl⟩)
      · have HST : Hid (walkW s (k + 1) = (o, c ++ oneB (letN n))) := by
          show _ = _
          rw [HS1.out]; unfold stepW; rw [if_neg hl]
        have hnz : ((letN n : Nat) : Int) ≠ 0 := by omega
        have HOB : Hid (strOfNums [((letN n : Nat) : Int)] = oneB (letN n)) := rfl
        clear HS1 hst hl
        generalize letN n = q at *
        generalize hob : oneB q = ob at *
        have hob1 : ob.size = 1 := by rw [← hob]; exact oneB_size q
        have hcv2 : ∀ (W : World) (tt : TypeId), (convert 22 9 (.slice (some ⟨W.heap.size, 0, none⟩) 1 1)).run Try.prog (W.alloc (.cells #[.int .u8 (q : Int)] tt)) = .ok (.string ob) (W.alloc (.cells #[.int .u8 (q : Int)] tt)) := fun W tt => by
          rw [← HOB.out]; exact hcv W _ tt _ rfl
        clear hob HOB
        go_wp2_with fail
        refine (HLT _).mono ?_
        rintro e w9 ⟨rfl, rfl⟩
        clear HLT hcv
        go_wp2
        refine ⟨?_, by simp [intOf]; omega⟩
        first | exact ⟨k + 1, _, hlt, by go_num, rfl, HST, HO.out.alloc _, kb.alloc kb.size _⟩ | ((repeat apply Exists.intro); exact ⟨⟨k + 1, _, hlt, by go_num, rfl, HST, HO.out.alloc _, kb.alloc kb.size _⟩, rfl⟩)
    · have hke : k = s.size := by omega
      subst hke
      have hki : ¬ ((s.size : Int) < (s.size : Int)) := by omega
      have HF : Hid (wordsL s = endW (o, c)) := by show _ = _; rw [← hst.out]; rfl
      clear hst HW hcv
      by_cases h0 : c.size = 0
      · have hce : c = ⟨#[]⟩ := ba_empty h0
        subst hce
        have HF2 : Hid (wordsL s = o) := by show _ = _; rw [HF.out]; rfl
        clear HF h0
        go_wp2
        go_ret
        exact ⟨_, rfl, by rw [HF2.out]; exact HO.out, kb⟩
      · obtain ⟨d0, l0, hcl⟩ := cons_of h0
        have HF2 : Hid (wordsL s = o ++ [c]) := by show _ = _; rw [HF.out]; unfold endW; rw [if_neg h0]
        have how := HO.out
        have hsz := kb.size
        clear HF h0
        go_wp2_with (first | (at_builtin; refine wplS rfl _ _ 23 rfl w.heap.size 9 i0 (.string ByteArray.empty) 16 Try.underlying23 hi hz0 hz1 hz2 rfl _ _ _ rfl (how.alloc _) _ 1 [.string c] rfl (news1 _ _ _) ?c1 ?c2 ?c3 ?c4 ?_) | fail)
        case c1 => first | rfl | (intro u hu; simp at hu; subst hu; rfl)
        case c2 => unfold maxLen; omega
        case c3 => omega
        case c4 => first | omega | (simp; omega)
        intro x1 w4 ho1 hg1 he1
        obtain ⟨va2, vc2, hve⟩ := (rows_of_ownS ho1).slice
        subst hve
        have HO4 : Hid (OwnS w4 w.heap.size 9 (.slice va2 (o.length + 1) vc2) (o ++ [c]).length (strsV (o ++ [c]))) := by
          show OwnS _ _ _ _ _ _
          simpa [strsV] using ho1
        have HK4 : Below w.heap.size w w4 := (kb.alloc kb.size _).trans (below_own (how.alloc _) (Nat.le_refl _) hg1 (by simp; omega))
        clear ho1 hg1 he1 how
        go_wp2
        go_ret
        exact ⟨_, rfl, by rw [HF2.out]; exact HO4.out, HK4⟩
end Go.Proofs.Ytkkmnegmghllpaa
