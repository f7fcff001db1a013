/- The program reads the numbers of a packed list. Condition: its lists lie in memory. -/
import Derived.Test.YtaafdcghafbfhaaPackL
import Derived.Deep.LoopGhost
import Derived.WalkMore
namespace Go.Proofs.Ytaafdcghafbfhaa
open Go.ChangeShapes Go.WideShapes Go.ChangeAt Go.RowKit Go.Deep
set_option linter.unusedVariables false
attribute [local go_sem ↓] Go.wp_at_zero Go.wp_at_succ

/-- What is known of a packed list that is one. -/
theorem PackIs.many {p : Pk} {l : List Int} (h : PackIs p l) : p.many = l.length := by rw [h.2]; rfl
theorem PackIs.low {p : Pk} {l : List Int} (h : PackIs p l) : p.low = (lowL l : Nat) := by rw [h.2]; rfl
theorem PackIs.lows {p : Pk} {l : List Int} (h : PackIs p l) : p.lows.length = l.length ∧ ∀ k, k < l.length → p.lows.getD k 0 = l.getD k 0 % 2 ^ lowL l := by
  rw [h.2]
  refine ⟨by simp [packM], fun k hk => ?_⟩
  simp [packM, List.getD, hk]
theorem PackIs.high {p : Pk} {l : List Int} (h : PackIs p l) : p.high = hgh (lowL l) l l.length := by rw [h.2]; rfl
/-- Where the reader stands: it has read out, and is at a. -/
def RdN (p : Pk) (L : Nat) (out : List Int) (k a : Nat) : Prop := ∀ l, PackIs p l → L = lowL l ∧ out = l.take k ∧ a = upTo (lowL l) l k + k
/-- Where it looks for the next one. -/
def RdJ (p : Pk) (L k j : Nat) : Prop := ∀ l, PackIs p l → k < l.length → j ≤ upN (lowL l) (l.getD k 0) + k
theorem rdN_start (p : Pk) (L : Nat) (h : p.low = (L : Nat)) : RdN p L [] 0 0 := fun l hl => ⟨by have := hl.low; omega, by simp, by rw [upTo_zero]⟩
theorem rdJ_start {p : Pk} {L k a : Nat} {out : List Int} (h : RdN p L out k a) : RdJ p L k a := fun l hl hk => by
  have h1 := (h l hl).2.2
  have h2 := upTo_le (k := lowL l) hl.1 k hk
  omega
theorem rdJ_next {p : Pk} {L k j a : Nat} {out : List Int} (h0 : RdN p L out k a) (h : RdJ p L k j) (hb : p.high.getD j false = false) : RdJ p L k (j + 1) := fun l hl hk => by
  have h1 := h l hl hk
  by_cases e : j = upN (lowL l) (l.getD k 0) + k
  · have := bit_true (k := lowL l) hl.1 k hk
    rw [← e, ← hl.high, hb] at this
    cases this
  · omega
theorem rdN_next {p : Pk} {L k j a : Nat} {out : List Int} (h0 : RdN p L out k a) (h : RdJ p L k j) (haj : a ≤ j) (hj : j < p.high.length) (hb : p.high.getD j false = true) (hk : k < p.lows.length) :
    RdN p L (out ++ [IntKind.i64.wrap (((j - k : Nat) : Int) * 2 ^ L + p.lows.getD k 0)]) (k + 1) (j + 1) := fun l hl => by
  obtain ⟨h1, h2, h3⟩ := h0 l hl
  have hlen := hl.lows.1
  have hk2 : k < l.length := by omega
  have h4 := h l hl hk2
  have e : j = upN (lowL l) (l.getD k 0) + k := by
    by_cases e : j = upN (lowL l) (l.getD k 0) + k
    · exact e
    · have := bit_false (k := lowL l) hl.1 k j hk2 (by omega) (by omega)
      rw [← hl.high] at this
      have hg : p.high.getD j true = p.high.getD j false := by simp [List.getD, hj]
      rw [hg, hb] at this
      cases this
  have h5 := hl.lows.2 k hk2
  have h6 := (hl.1.2.1 k hk2)
  have h7 := whole_again (lowL l) (l.getD k 0) h6.1
  have h8 := upTo_succ (lowL l) l k hk2
  refine ⟨h1, ?_, by rw [h8]; omega⟩
  rw [take_sn l k hk2, h2, h5, h1, show j - k = upN (lowL l) (l.getD k 0) by omega, h7]
  rw [show IntKind.i64.wrap (l.getD k 0) = l.getD k 0 by rw [IntKind.wrap_i64]; omega]
theorem rd_none {p : Pk} {L k a j : Nat} {out : List Int} (h0 : RdN p L out k a) (h : RdJ p L k j) (hj : p.high.length ≤ j) (hk : k < p.lows.length) : ∀ l, ¬ PackIs p l := fun l hl => by
  have hlen := hl.lows.1
  have hk2 : k < l.length := by omega
  have h1 := h l hl hk2
  have h2 := bit_lt (k := lowL l) hl.1 k hk2
  rw [← hl.high] at h2
  omega
theorem rd_all {p : Pk} {L k a : Nat} {out : List Int} (h0 : RdN p L out k a) (hk : k = p.lows.length) : ∀ l, PackIs p l → out = l := fun l hl => by
  have h1 := (h0 l hl).2.1
  rw [h1, hk, hl.lows.1, List.take_length]
theorem no_pack1 {p : Pk} (h : p.many ≠ p.lows.length) : ∀ l, ¬ PackIs p l := fun l hl => by
  have := hl.many
  have := hl.lows.1
  omega
theorem no_pack2 {p : Pk} (h : p.low < 0 ∨ 13 < p.low) : ∀ l, ¬ PackIs p l := fun l hl => by
  have h1 := hl.low
  have h2 := lowL_le hl.1
  omega

theorem vbound (D L : Nat) (hD : D ≤ 1048576) (h1 : 1 ≤ (2 : Int) ^ L) (h2 : (2 : Int) ^ L ≤ 8192) : 0 ≤ (D : Int) * 2 ^ L ∧ (D : Int) * 2 ^ L ≤ 8589934592 := by
  have h3 : (D : Int) * 2 ^ L ≤ 1048576 * 8192 := Int.mul_le_mul (by omega) h2 (by omega) (by omega)
  exact ⟨Int.mul_nonneg (by omega) (by omega), by omega⟩
/-- What reading answers: numbers of its own, those of the list where there is one. -/
def RdPost (p : Pk) (base : Nat) (e : Ending) (w' : World) : Prop := ∃ (ok : Bool) (lv : Value) (out : List Int), e = .returned (.tuple #[lv, .bool ok]) ∧ OwnS w' base 3 lv out.length (intsV out) ∧ out.length ≤ 1048576 ∧ (ok = false → lv = .slice none 0 0 ∧ ∀ l, ¬ PackIs p l) ∧ ∀ l, PackIs p l → out = l
theorem RdPost.no {p : Pk} {w' : World} {base : Nat} (h : ∀ l, ¬ PackIs p l) : RdPost p base (.returned (.tuple #[.slice none 0 0, .bool false])) w' :=
  ⟨false, _, [], rfl, OwnS.nil _ _ _, by simp, fun _ => ⟨rfl, h⟩, fun l hl => absurd hl (h l)⟩
set_option maxHeartbeats 3200000 in
set_option maxRecDepth 100000 in
theorem implRdN (p : Pk) (lv hv : Value) (w : World) (h : PkAt w lv hv p) (l1 : p.lows.length ≤ 1048576) (l2 : p.high.length ≤ 1048576) :
    Calls Try.prog 73 #[.agg #[.int .i64 p.many, .int .i64 p.low, lv, hv]] w fun e w' => RdPost p w.heap.size e w' ∧ Below w.heap.size w w' := by
  obtain ⟨i0, hi, hzz⟩ := Option.map_eq_some_iff.1 infoI
  simp only [Prod.mk.injEq] at hzz
  obtain ⟨hz0, hz1, hz2⟩ := hzz
  have HS := hid h
  obtain ⟨la, lc, rfl⟩ := h.1.slice
  obtain ⟨ha, hc, rfl⟩ := h.2.slice
  clear h
  obtain ⟨M, hM⟩ : ∃ M, M = p.many := ⟨_, rfl⟩
  obtain ⟨L0, hL⟩ : ∃ L, L = p.low := ⟨_, rfl⟩
  rw [← hM, ← hL]
  have HM := hid hM
  have HL := hid hL
  by_cases h1 : M = (p.lows.length : Int)
  · have hne : ((p.lows.length : Int) != M) = false := by rw [h1]; simp
    by_cases h2 : L0 < 0
    · have HN : Hid (∀ l, ¬ PackIs p l) := no_pack2 (.inl (by omega))
      clear hM hL h1 HS
      go_enter Try.func73, Try.ntmps73
      go_wp2
      go_step3
      go_wp2
      (try rw [Exit.noGoto_ret])
      go_returns
      exact ⟨RdPost.no HN.out, by go_grown⟩
    · by_cases h3 : 13 < L0
      · have HN : Hid (∀ l, ¬ PackIs p l) := no_pack2 (.inr (by omega))
        clear hM hL h1 HS
        go_enter Try.func73, Try.ntmps73
        go_wp2
        go_step3
        go_wp2
        (try rw [Exit.noGoto_ret])
        go_returns
        exact ⟨RdPost.no HN.out, by go_grown⟩
      · obtain ⟨L, hLL⟩ : ∃ L : Nat, L0 = (L : Int) := ⟨L0.toNat, by omega⟩
        subst hLL
        have hL13 : L ≤ 13 := by omega
        have HR0 : Hid (RdN p L [] 0 0) := rdN_start p L (by omega)
        have hd3 : decide ((13 : Int) < (L : Int)) = false := decide_eq_false h3
        subst h1
        clear hM hL h2 h3
        go_enter Try.func73, Try.ntmps73
        go_wp2
        go_step3
        go_upto_region 3 with fail
        have bA0 := boxNew w #[.int .i64 p.lows.length, .int .i64 L, .slice la p.lows.length lc, .slice ha p.high.length hc] 27
        have k0 : Below w.heap.size w (w.alloc (.cells #[.int .i64 p.lows.length, .int .i64 L, .slice la p.lows.length lc, .slice ha p.high.length hc] 27)) := al_ _ _
        obtain ⟨Wm, hmk, hom, hgm⟩ := run_make_own (P := Try.prog) (w.alloc (.cells #[.int .i64 p.lows.length, .int .i64 L, .slice la p.lows.length lc, .slice ha p.high.length hc] 27)) (w.heap.size + 1) 23 3 i0 (.int .i64 0) 1 Try.underlying23 hi hz0 hz1 .i64 .i64 p.lows.length (by rw [hz2]; omega) (by unfold maxLen; omega) (by simp)
        have hbm : Below (w.alloc (.cells #[.int .i64 p.lows.length, .int .i64 L, .slice la p.lows.length lc, .slice ha p.high.length hc] 27)).heap.size (w.alloc (.cells #[.int .i64 p.lows.length, .int .i64 L, .slice la p.lows.length lc, .slice ha p.high.length hc] 27)) Wm := ⟨hgm.os, hgm.tape, hgm.output, hgm.size, fun k hk => hgm.block k hk (by simp)⟩
        have HBA : Hid (BoxAt Wm w.heap.size [.int .i64 p.lows.length, .int .i64 L, .slice la p.lows.length lc, .slice ha p.high.length hc]) := bA0.below hbm
        have HKM : Hid (Below w.heap.size w Wm) := k0.trans (hbm.mono k0.size)
        have HOM : Hid (OwnS Wm (w.heap.size + 1) 3 (.slice (some ⟨w.heap.size + 1, 0, none⟩) 0 p.lows.length) 0 (intsV [])) := by
          rw [World.size_alloc] at hom
          exact .inl hom
        have HSM : Hid (w.heap.size + 1 ≤ Wm.heap.size) := by show _ ≤ _; have := hbm.size; rw [World.size_alloc] at this; exact this
        rw [World.size_alloc] at hmk
        clear hom hgm hbm bA0 k0
        go_upto_region 5 with fail
        clear hmk
        have b2 := HBA.out.2.1 2 _ rfl
        have hbl := HBA.out.1
        go_wp2
        go_step3
        go_wp2
        go_loopg [4, 5, 30] p.lows.length (fun g lx ax ix wr => ∃ (k aa : Nat) (out : List Int), k ≤ p.lows.length ∧ g = p.lows.length - k ∧ ix = .int .i64 k ∧ ax = .int .i64 aa ∧ k ≤ aa ∧ aa ≤ p.high.length ∧ out.length = k ∧ Hid (RdN p L out k aa) ∧ Hid (OwnS wr (w.heap.size + 1) 3 lx k (intsV out)) ∧ Hid (BoxAt wr w.heap.size [.int .i64 p.lows.length, .int .i64 L, .slice la p.lows.length lc, .slice ha p.high.length hc]) ∧ Hid (w.heap.size + 1 ≤ wr.heap.size) ∧ Hid (Below w.heap.size w wr))
        case atStart => exact ⟨0, 0, [], Nat.zero_le _, by omega, rfl, rfl, Nat.le_refl _, Nat.zero_le _, rfl, HR0, HOM, HBA, HSM, HKM⟩
        case round =>
          obtain ⟨k, aa, out, hk, rfl, rfl, rfl, hka, haH, hout, hR, hO, hBX, hSZ, hKB⟩ := hrel
          clear HBA HOM HSM HKM b2 hbl
          generalize wr = wo at *
          obtain ⟨xa, xc, hxe⟩ := (rows_of_ownS hO.out).slice
          subst hxe
          by_cases hlt : k < p.lows.length
          · obtain ⟨t0, ht0⟩ : ∃ t0, t0 = p.lows.getD k 0 := ⟨_, rfl⟩
            obtain ⟨bl, off, cp, hce, hbl, hcl⟩ : ∃ bl off cp, Value.slice la p.lows.length lc = .slice (some ⟨bl, off, none⟩) p.lows.length cp ∧ bl < w.heap.size ∧ w.cell? ⟨bl, off + k, none⟩ = some (.int .i64 t0) := by
              rcases HS.out.1 with ⟨_, _, _, e⟩ | ⟨b, off, cap, e, hb, hcell⟩
              · rw [e] at hlt; cases hlt
              · exact ⟨b, off, cap, e, hb, by rw [ht0]; exact hcell k hlt⟩
            cases hce
            have hcw : wo.cell? ⟨bl, off + k, none⟩ = some (.int .i64 t0) := (hKB.out.cell (p := ⟨bl, off + k, none⟩) hbl).trans hcl
            have HJ0 : Hid (RdJ p L k aa) := rdJ_start hR.out
            have HT0 := hid ht0
            have hki : (k : Int) < (p.lows.length : Int) := by omega
            have b3 := hBX.out.2.1 3 _ rfl
            have b1 := hBX.out.2.1 1 _ rfl
            have hpl := hBX.out.1
            have HHC : Hid (∀ j, j < p.high.length → ∃ bh oh cp, Value.slice ha p.high.length hc = .slice (some ⟨bh, oh, none⟩) p.high.length cp ∧ wo.cell? ⟨bh, oh + j, none⟩ = some (.bool (p.high.getD j false))) := fun j hj => by
              rcases (HS.out.2) with ⟨_, _, _, e⟩ | ⟨b, off, cap, e, hb, hcell⟩
              · rw [e] at hj; cases hj
              · exact ⟨b, off, cap, e, (hKB.out.cell (p := ⟨b, off + j, none⟩) hb).trans (hcell j hj)⟩
            clear hcl ht0
            go_wp2
            go_loopg [4, 5] (p.high.length - aa) (fun g lx ax wx => wo = wx ∧ lx = .slice xa k xc ∧ ∃ j : Nat, aa ≤ j ∧ j ≤ p.high.length ∧ g = p.high.length - j ∧ ax = .int .i64 j ∧ Hid (RdJ p L k j))
            case atStart => exact ⟨rfl, rfl, aa, Nat.le_refl _, haH, rfl, rfl, HJ0⟩
            case round =>
              obtain ⟨hw, rfl, j, hj1, hj2, rfl, rfl, hJ⟩ := hrel
              subst hw
              by_cases hjl : j < p.high.length
              · obtain ⟨bh, oh, cp2, hce2, hch⟩ := HHC.out j hjl
                cases hce2
                have hji : (j : Int) < (p.high.length : Int) := by omega
                cases hb : p.high.getD j false with
                | false =>
                  have HJ1 : Hid (RdJ p L k (j + 1)) := rdJ_next hR.out hJ.out hb
                  rw [hb] at hch
                  clear hb hJ
                  go_wp2
                  go_roundg (p.high.length - (j + 1))
                  case measure => omega
                  case rel => exact ⟨rfl, rfl, j + 1, by omega, by omega, rfl, by go_num, HJ1⟩
                | true =>
                  have HRN := rdN_next hR.out hJ.out hj1 hjl hb hlt
                  rw [← HT0.out] at HRN
                  have HRN1 := hid HRN
                  rw [hb] at hch
                  have hO1 := hO.out
                  have hnb : w.heap.size ∉ obl (.slice xa k xc) := fun hm => by have := (own_lt hO1 _ hm).1; omega
                  have hSZ1 := hSZ.out
                  have hjk : (j : Int) - (k : Int) = ((j - k : Nat) : Int) := by omega
                  have HXE : Hid (wrap64 (wrap64 (((j - k : Nat) : Int) * 2 ^ L) + t0) = IntKind.i64.wrap (((j - k : Nat) : Int) * 2 ^ L + t0)) := by
                    show _ = _
                    obtain ⟨hQ1, hQ2⟩ := pow_bd L (by omega)
                    have := vbound (j - k) L (by omega) hQ1 hQ2
                    rw [IntWalk.i64_left, IntWalk.wrap64_in (((j - k : Nat) : Int) * 2 ^ L) (by omega)]
                  clear hb hJ HRN
                  go_wp2_with (first | (at_builtin; refine wplS rfl _ _ 23 rfl (w.heap.size + 1) 3 i0 (.int .i64 0) 8 Try.underlying23 hi hz0 hz1 hz2 rfl _ _ _ rfl (hO1.alloc _) _ 1 [.int .i64 (wrap64 (wrap64 (((j - k : Nat) : Int) * 2 ^ L) + t0))] rfl (news1 _ _ _) ?c1 ?c2 ?c3 ?c4 ?_) | fail)
                  case c1 => first | rfl | (intro u hu; simp at hu; subst hu; rfl)
                  case c2 => unfold maxLen; omega
                  case c3 => omega
                  case c4 => first | omega | (simp; omega)
                  intro x1 w4 ho1 hg1 he1
                  obtain ⟨ya, yc, hye⟩ := (rows_of_ownS ho1).slice
                  subst hye
                  rw [HXE.out] at ho1
                  have HO4 : Hid (OwnS w4 (w.heap.size + 1) 3 (.slice ya (k + 1) yc) (k + 1) (intsV (out ++ [IntKind.i64.wrap (((j - k : Nat) : Int) * 2 ^ L + t0)]))) := by
                    show OwnS _ _ _ _ _ _
                    simpa [intsV] using ho1
                  have HB4 := hid ((hBX.out.below (al_ _ _)).offI hg1 hnb)
                  have HS4 : Hid (w.heap.size + 1 ≤ w4.heap.size) := by show _ ≤ _; have := hg1.size; simp at this; omega
                  have HK4 : Hid (Below w.heap.size w w4) := (hKB.out.alloc hKB.out.size _).trans ((below_own (hO1.alloc _) (by simp; omega) hg1).mono (by omega))
                  clear ho1 hg1 he1 hO1 HXE
                  go_wp2
                  go_roundg (p.lows.length - (k + 1))
                  case measure => omega
                  case rel => exact ⟨k + 1, j + 1, _, by omega, rfl, by go_num, by go_num, by omega, by omega, by simp [hout], HRN1.out, HO4.out, HB4.out, HS4.out, HK4.out⟩
              · have HN : Hid (∀ l, ¬ PackIs p l) := rd_none hR.out hJ.out (by omega) hlt
                have hji : ¬ (j : Int) < (p.high.length : Int) := by omega
                have hfin := hKB.out
                clear hJ hR
                go_wp2
                (try rw [Exit.noGoto_ret])
                go_returns
                exact ⟨RdPost.no HN.out, hfin⟩
          · have hke : k = p.lows.length := by omega
            have HA := hid (rd_all hR.out hke)
            have hki : ¬ (k : Int) < (p.lows.length : Int) := by omega
            have hfin := hKB.out
            have hO1 := own_mono (base' := w.heap.size) hO.out (by omega)
            rw [hke] at hO1 hout
            have HO1 := hid hO1
            clear hO1 hR hO
            go_wp2
            (try rw [Exit.noGoto_ret])
            go_returns
            exact ⟨⟨true, _, out, rfl, by rw [hout]; exact HO1.out, by omega, fun h => (by cases h), HA.out⟩, hfin⟩
  · have hne : ((p.lows.length : Int) != M) = true := by simp; omega
    have HN : Hid (∀ l, ¬ PackIs p l) := no_pack1 (by omega)
    clear hM hL h1 HS
    go_enter Try.func73, Try.ntmps73
    go_wp2
    go_step3
    go_wp2
    (try rw [Exit.noGoto_ret])
    go_returns
    exact ⟨RdPost.no HN.out, by go_grown⟩
end Go.Proofs.Ytaafdcghafbfhaa
