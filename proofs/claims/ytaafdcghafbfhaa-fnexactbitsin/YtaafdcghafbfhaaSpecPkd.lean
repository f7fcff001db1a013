/- Contracts of the model's packing. Condition: the list lies in memory. -/
import Derived.Test.YtaafdcghafbfhaaSpecLow8
namespace Go.Proofs.Ytaafdcghafbfhaa
open Go.ChangeShapes Go.WideShapes Go.ChangeAt Go.RowKit Go.Deep
set_option linter.unusedVariables false
attribute [local go_sem ↓] Go.wp_at_zero Go.wp_at_succ

theorem and_pow (k : Nat) (hk : k ≤ 13) (n : Int) (h0 : 0 ≤ n) (h1 : n ≤ 10000) : bits .and .i64 n (2 ^ k - 1) = n % 2 ^ k := by
  have hall : ∀ j, j < 14 → (BitVec.ofInt 64 ((2 : Int) ^ j - 1)).toNat = 2 ^ j - 1 := by decide
  have key : (BitVec.ofInt 64 n &&& BitVec.ofInt 64 ((2 : Int) ^ k - 1)).toNat = (n % ((2 ^ 64 : Nat) : Int)).toNat % 2 ^ k := by
    rw [BitVec.toNat_and, BitVec.toNat_ofInt, hall k (by omega), Nat.and_two_pow_sub_one_eq_mod]
  show IntKind.i64.wrap ((BitVec.ofInt 64 n &&& BitVec.ofInt 64 ((2 : Int) ^ k - 1)).toNat : Nat) = n % 2 ^ k
  obtain ⟨q, rfl⟩ : ∃ q : Nat, n = q := ⟨n.toNat, by omega⟩
  have h2 : ((q : Int) % ((2 ^ 64 : Nat) : Int)).toNat = q := by omega
  have h3 : ((q : Int) % 2 ^ k) = ((q % 2 ^ k : Nat) : Int) := by push_cast; rfl
  have h4 : q % 2 ^ k ≤ q := Nat.mod_le _ _
  rw [key, h2, h3, IntKind.wrap_i64]
  omega
set_option maxHeartbeats 3200000 in
set_option maxRecDepth 100000 in
theorem specPacked (v : Value) (l : List Int) (w : World) (h : IntsAt w v l) (hg : GoodL l) :
    Calls Try.prog 51 #[v] w fun e w' => ∃ lv hv, e = .returned (.agg #[.int .i64 l.length, .int .i64 (lowL l : Nat), lv, hv]) ∧ PkA w.heap.size w' lv hv (packM l) ∧ Below w.heap.size w w' := by
  obtain ⟨i0, hi, hzz⟩ := Option.map_eq_some_iff.1 infoI
  simp only [Prod.mk.injEq] at hzz
  obtain ⟨hz0, hz1, hz2⟩ := hzz
  obtain ⟨j0, hj, hyy⟩ := Option.map_eq_some_iff.1 infoB
  simp only [Prod.mk.injEq] at hyy
  obtain ⟨hy0, hy1, hy2⟩ := hyy
  by_cases he : l = []
  · subst he
    obtain ⟨va, vc, rfl⟩ := h.slice
    have hl0 : lowL [] = 0 := rfl
    rw [hl0]
    have HP : Hid (PkA w.heap.size ((w.alloc (.cells #[.int .i64 0, .int .i64 0, .slice none 0 0, .slice none 0 0] 27)).alloc (.cells #[.int .i64 0, .int .i64 0, .slice none 0 0, .slice none 0 0] 27)) (.slice none 0 0) (.slice none 0 0) (packM [])) := ⟨.inl ⟨rfl, _, _, rfl⟩, .inl ⟨rfl, _, _, rfl⟩, fun g hg => by simp [ablk] at hg⟩
    clear h hg
    go_enter Try.func51, Try.ntmps51
    go_wp2
    go_loopw [4, 6, 25] (fun u t i wr => u = .int .i64 0 ∧ i = .int .i64 0 ∧ wr = (w.alloc (.cells #[.int .i64 0, .int .i64 0, .slice none 0 0, .slice none 0 0] 27)).alloc (.cells #[.int .i64 0, .int .i64 0, .slice none 0 0, .slice none 0 0] 27)) (fun _ _ _ _ => 0)
    case atStart => exact ⟨rfl, rfl, rfl⟩
    case round =>
      obtain ⟨rfl, rfl, hw⟩ := hrel
      subst wr
      go_wp2
      refine bodyPost_ret (v := .agg #[.int .i64 0, .int .i64 0, .slice none 0 0, .slice none 0 0]) ?r rfl ?_
      case r => simp [results, Try.results51, go_sem]; try rfl
      exact ⟨_, _, rfl, HP.out, by go_grown⟩
  have HS := hid h
  have hp : 0 < l.length := List.length_pos_iff.2 he
  obtain ⟨va, vc, hv⟩ := h.slice
  subst hv
  have hL13 := lowL_le hg
  have h60 := hg.1
  have HG := hid hg
  obtain ⟨m, hm⟩ : ∃ m, l.length = m + 1 := ⟨l.length - 1, by omega⟩
  have hbd0 := last_bd hg he
  have hLe : lowL l = lowN l.length (l.getD (l.length - 1) 0).toNat := by unfold lowL; rw [if_neg he]
  rw [show l.length - 1 = m by omega] at hbd0 hLe
  obtain ⟨b0, off0, cp0, hce0, hbl0, hc0⟩ : ∃ bl off cp, Value.slice va l.length vc = .slice (some ⟨bl, off, none⟩) l.length cp ∧ bl < w.heap.size ∧ w.cell? ⟨bl, off + m, none⟩ = some (.int .i64 (l.getD m 0)) := by
    rcases HS.out with ⟨_, _, _, e⟩ | ⟨b, off, cap, e, hb, hcell⟩
    · exact absurd e he
    · exact ⟨b, off, cap, e, hb, hcell m (by omega)⟩
  cases hce0
  obtain ⟨q, hq⟩ : ∃ q : Nat, l.getD m 0 = (q : Int) := ⟨(l.getD m 0).toNat, by omega⟩
  rw [hq] at hc0 hbd0 hLe
  simp only [Int.toNat_natCast] at hLe
  have HLOW := fun W => specLow8 l.length q W (by omega) (by omega)
  obtain ⟨L, hL⟩ : ∃ L, L = lowL l := ⟨_, rfl⟩
  have HL := hid hL
  rw [← hLe, ← hL] at HLOW
  rw [← hL] at hL13 ⊢
  obtain ⟨hQ1, hQ2⟩ := pow_bd L (by omega)
  have hpi : (0 : Int) < (l.length : Int) := by omega
  have hmi : (l.length : Int) - 1 = (m : Int) := by omega
  have hm60 : m ≤ 60 := by omega
  clear h hg hL hLe hq hbd0 he hm
  go_enter Try.func51, Try.ntmps51
  go_wp2_with fail
  refine (HLOW _).mono ?_
  rintro e w1 ⟨rfl, rfl⟩
  clear HLOW
  go_upto_region 4 with fail
  obtain ⟨W1, hW1⟩ : ∃ W1, W1 = (w.alloc (.cells #[.int .i64 0, .int .i64 0, .slice none 0 0, .slice none 0 0] 27)).alloc (.cells #[.int .i64 l.length, .int .i64 L, .slice none 0 0, .slice none 0 0] 27) := ⟨_, rfl⟩
  rw [← hW1]
  have st : PkSt W1 (w.heap.size + 1 + 1) w.heap.size (w.heap.size + 1) l.length L (.slice none 0 0) (.slice none 0 0) [] [] := by
    have b1 : BoxAt W1 w.heap.size [.int .i64 0, .int .i64 0, .slice none 0 0, .slice none 0 0] ∧ BoxAt W1 (w.heap.size + 1) [.int .i64 l.length, .int .i64 L, .slice none 0 0, .slice none 0 0] := by
      rw [hW1]; exact boxOf2 (Below.refl _ _)
    exact ⟨b1.2, b1.1, OwnS.nil _ _ _, OwnS.nil _ _ _, fun g hg => by simp [obl] at hg, by omega, by omega, by omega⟩
  have HK1 : Hid (Below w.heap.size w W1) := by show Below _ _ _; rw [hW1]; exact ((Below.refl _ _).alloc (Nat.le_refl _) _).alloc (by simp) _
  have HST := hid st
  have hpbB : w.heap.size ≤ w.heap.size + 1 := by omega
  have HBW : Hid (w.heap.size + 1 + 1 ≤ W1.heap.size) := by show _ ≤ _; rw [hW1]; simp
  obtain ⟨pb, hpb⟩ : ∃ pb, pb = w.heap.size + 1 := ⟨_, rfl⟩
  obtain ⟨B, hB⟩ : ∃ B, B = pb + 1 := ⟨_, rfl⟩
  rw [← hpb] at HST hpbB HBW ⊢
  rw [← hB] at HST HBW
  have hbB : w.heap.size ≤ B := by omega
  clear st hW1 hpb hB hc0 hpi hmi hm60
  go_wp2
  go_loopw [4, 6, 25] (fun u t i wr => ∃ k : Nat, ∃ lv hv, k ≤ l.length ∧ i = .int .i64 k ∧ u = .int .i64 (upTo L l k : Nat) ∧ Hid (PkSt wr B w.heap.size pb l.length L lv hv ((l.take k).map (· % 2 ^ L)) (hgh L l k)) ∧ Hid (B ≤ wr.heap.size) ∧ Below w.heap.size w wr) (fun _ _ i _ => l.length - (intOf i).toNat)
  case atStart => exact ⟨0, _, _, Nat.zero_le _, rfl, by rw [upTo_zero]; rfl, by rw [hgh_zero]; exact HST.out, HBW.out, HK1.out⟩
  case round =>
    obtain ⟨k, lv, hv, hk, rfl, rfl, hst, hBS, kb⟩ := hrel
    by_cases hlt : k < l.length
    · obtain ⟨t0, ht0⟩ : ∃ t0, t0 = l.getD k 0 := ⟨_, rfl⟩
      have hbd := HG.out.2.1 k hlt
      have hule := upTo_le (k := L) HG.out k hlt
      have hub := up_bd L _ hbd.1 hbd.2
      have hdiv := up_div L _ hbd.1
      have hlen0 := hgh_len (k := L) HG.out k (by omega)
      have HNH := hid (hgh_succ L l k hlt)
      have HNU := hid (upTo_succ L l k hlt)
      have HNL : Hid ((l.take (k + 1)).map (· % 2 ^ L) = (l.take k).map (· % 2 ^ L) ++ [t0 % 2 ^ L]) := by show _ = _; rw [take_sn l k hlt, ht0]; simp
      obtain ⟨bl, off, cp, hce, hbl, hc⟩ : ∃ bl off cp, Value.slice (some ⟨b0, off0, none⟩) l.length vc = .slice (some ⟨bl, off, none⟩) l.length cp ∧ bl < w.heap.size ∧ w.cell? ⟨bl, off + k, none⟩ = some (.int .i64 t0) := by
        rcases HS.out with ⟨_, _, _, e⟩ | ⟨b, off, cap, e, hb, hcell⟩
        · rw [e] at hlt; cases hlt
        · exact ⟨b, off, cap, e, hb, by rw [ht0]; exact hcell k hlt⟩
      cases hce
      have hcw : wr.cell? ⟨b0, off0 + k, none⟩ = some (.int .i64 t0) := (kb.cell (p := ⟨b0, off0 + k, none⟩) hbl).trans hc
      rw [← ht0] at hbd hule hub hdiv HNH HNU
      obtain ⟨U, hU⟩ : ∃ U, U = upN L t0 := ⟨_, rfl⟩
      rw [← hU] at hule hub hdiv HNH HNU
      obtain ⟨u0, hu0⟩ : ∃ u0, u0 = upTo L l k := ⟨_, rfl⟩
      rw [← hu0] at hule HNH hlen0 ⊢
      have hki : (k : Int) < (l.length : Int) := by omega
      have HKB := hid kb
      obtain ⟨Hs, hHs⟩ : ∃ Hs, Hs = hgh L l k := ⟨_, rfl⟩
      rw [← hHs] at hst HNH hlen0
      obtain ⟨Ls, hLs⟩ : ∃ Ls, Ls = (l.take k).map (· % 2 ^ L) := ⟨_, rfl⟩
      rw [← hLs] at hst HNL
      have hLsl : Ls.length = k := by rw [hLs]; simp; omega
      have HST2 := hst
      clear hst hc hHs hLs hU hu0 ht0 HST kb HBW
      have st0 := HST2.out
      have b0 := st0.1
      have hol := st0.2.2.1
      rw [hLsl] at hol
      obtain ⟨za, zc, hze⟩ := (rows_of_ownS hol).slice
      subst hze
      have e1 := b0.2.1 1 _ rfl
      have e2 := b0.2.1 2 _ rfl
      have hpl := b0.1
      have hBS5 := hBS.out
      have hnb5 : pb ∉ obl (.slice za k zc) := fun hm => by have := (own_lt hol _ hm).1; have := st0.2.2.2.2.2.1; omega
      obtain ⟨Z, hZ⟩ : ∃ Z, Z = t0 % 2 ^ L := ⟨_, rfl⟩
      obtain ⟨Q, hQ⟩ : ∃ Q, Q = (2 : Int) ^ L := ⟨_, rfl⟩
      have hand : bits .and .i64 t0 (Q - 1) = Z := by rw [hZ, hQ]; exact and_pow L hL13 t0 hbd.1 (by omega)
      rw [← hZ] at HNL
      rw [← hQ] at hZ hQ1 hQ2 hdiv
      have hQe := hQ.symm
      have hQw : IntKind.i64.wrap Q = Q := by rw [IntKind.wrap_i64]; omega
      have hQ0 : ¬ Q = 0 := by omega
      have hZ0 : 0 ≤ Z := by rw [hZ]; exact Int.emod_nonneg _ hQ0
      have hZ1 : Z < 8192 := by have := Int.emod_lt_of_pos t0 (show 0 < Q by omega); omega
      have hLw := conv64 L (by omega)
      clear hQ hZ b0
      go_wp2_with (first | (at_builtin; refine wplS rfl _ _ 23 rfl B 3 i0 (.int .i64 0) 8 Try.underlying23 hi hz0 hz1 hz2 rfl _ _ _ rfl (hol.alloc _) _ 1 [.int .i64 Z] rfl (news1 _ _ _) ?c1 ?c2 ?c3 ?c4 ?_) | fail)
      case c1 => first | rfl | (intro u hu; simp at hu; subst hu; rfl)
      case c2 => unfold maxLen; omega
      case c3 => omega
      case c4 => first | omega | (simp; omega)
      intro x1 w4 ho1 hg1 he1
      obtain ⟨qa, qc, hqe⟩ := (rows_of_ownS ho1).slice
      subst hqe
      have b8 := (st0.1.below (al_ wr (.cells #[.int .i64 Z] 3))).offI hg1 hnb5
      have HN8 := hid (PkSt.low (x := Z) st0 (al_ _ _) (by rw [hLsl]; exact ho1) hg1 (by simpa using he1))
      obtain ⟨Ls8, hLs8⟩ : ∃ Ls8, Ls8 = (l.take (k + 1)).map (· % 2 ^ L) := ⟨_, rfl⟩
      have HLS8 := hid hLs8
      rw [← HNL.out, ← hLs8] at HN8
      clear hLs8
      have k8 : Below w.heap.size wr w4 := ((Below.refl _ _).alloc (by omega) _).trans ((below_own (hol.alloc _) (by simp; omega) hg1).mono hbB)
      have HK8 := hid (bel_set (HKB.out.trans k8) hpbB 2 (.slice qa (k + 1) qc))
      have HB8 : Hid (B ≤ (w4.setCell ⟨pb, 2, none⟩ (.slice qa (k + 1) qc)).heap.size) := by
        show _ ≤ _
        have := hg1.size
        simp at this ⊢; omega
      have g2 := b8.2.1 2 _ rfl
      have gf := b8.2.2 2 (by simp)
      have gl := b8.1
      clear ho1 hg1 he1 k8 b8 hol HST2 hBS st0 e1 e2 hpl hBS5 hnb5 HKB hcw
      go_wp2
      go_loopw [4] (fun u wr2 => ∃ j : Nat, ∃ hv, u0 ≤ j ∧ j ≤ U ∧ u = .int .i64 j ∧ Hid (PkSt wr2 B w.heap.size pb l.length L (.slice qa (k + 1) qc) hv Ls8 (Hs ++ List.replicate (j - u0) false)) ∧ Hid (B ≤ wr2.heap.size) ∧ Below w.heap.size w wr2) (fun u _ => U - (intOf u).toNat)
      case atStart => exact ⟨u0, hv, Nat.le_refl _, hule, rfl, by rw [Nat.sub_self, List.replicate_zero, List.append_nil]; exact HN8.out, HB8.out, HK8.out⟩
      case round =>
        obtain ⟨j, hv2, hj1, hj2, rfl, hst2, hBS2, kb2⟩ := hrel
        have how := hst2.out.2.2.2.1
        have hlen2 : (Hs ++ List.replicate (j - u0) false).length = j + k := by simp; omega
        rw [hlen2] at how
        have b0 := hst2.out.1
        have c1 := b0.2.1 1 _ rfl
        have c3 := b0.2.1 3 _ rfl
        have hpl := b0.1
        have hnb : pb ∉ obl hv2 := fun hm => by have := (own_lt how _ hm).1; have := hst2.out.2.2.2.2.2.1; omega
        have hBS3 := hBS2.out
        obtain ⟨xa, xc, hxe⟩ := (rows_of_ownS how).slice
        subst hxe
        have HKB2 := hid kb2
        by_cases hju : j < U
        · have hji : (j : Int) < (U : Int) := by omega
          have HH : Hid (Hs ++ List.replicate (j - u0) false ++ [false] = Hs ++ List.replicate (j + 1 - u0) false) := by
            show _ = _
            rw [List.append_assoc, show j + 1 - u0 = (j - u0) + 1 by omega, List.replicate_succ']
          clear kb2 b0
          go_wp2_with (first | (at_builtin; refine wplS rfl _ _ 25 rfl B 4 j0 (.bool false) 1 Try.underlying25 hj hy0 hy1 hy2 rfl _ _ _ rfl (how.alloc _) _ 1 [.bool false] rfl (news1 _ _ _) ?c1 ?c2 ?c3 ?c4 ?_) | fail)
          case c1 => first | rfl | (intro u hu; simp at hu; subst hu; rfl)
          case c2 => unfold maxLen; omega
          case c3 => omega
          case c4 => first | omega | (simp; omega)
          intro x1 w4 ho1 hg1 he1
          obtain ⟨ya, yc, hye⟩ := (rows_of_ownS ho1).slice
          subst hye
          have b1 := (hst2.out.1.below (al_ wr (.cells #[.bool false] 4))).offI hg1 hnb
          have HN := hid (PkSt.high (x := false) hst2.out (al_ _ _) (by rw [hlen2]; exact ho1) hg1 (by simpa using he1))
          rw [HH.out] at HN
          have k4 : Below w.heap.size wr w4 := ((Below.refl _ _).alloc (by omega) _).trans ((below_own (how.alloc _) (by simp; omega) hg1).mono hbB)
          have HK4 := hid (bel_set (HKB2.out.trans k4) hpbB 3 (.slice ya (j + k + 1) yc))
          have HB4 : Hid (B ≤ (w4.setCell ⟨pb, 3, none⟩ (.slice ya (j + k + 1) yc)).heap.size) := by
            show _ ≤ _
            have := hg1.size
            simp at this ⊢; omega
          have d3 := b1.2.1 3 _ rfl
          have f3 := b1.2.2 3 (by simp)
          have hpl4 := b1.1
          clear ho1 hg1 he1 b1 k4 c1 c3 hpl how
          go_wp2
          refine ⟨?_, by simp [intOf]; omega⟩
          first | exact ⟨j + 1, _, by omega, by omega, by go_num, HN.out, HB4.out, HK4.out⟩ | ((repeat apply Exists.intro); exact ⟨⟨j + 1, _, by omega, by omega, by go_num, HN.out, HB4.out, HK4.out⟩, rfl⟩)
        · have hje : j = U := by omega
          subst hje
          have hji : ¬ (j : Int) < (j : Int) := by omega
          clear kb2 b0
          go_wp2_with (first | (at_builtin; refine wplS rfl _ _ 25 rfl B 4 j0 (.bool false) 1 Try.underlying25 hj hy0 hy1 hy2 rfl _ _ _ rfl (how.alloc _) _ 1 [.bool true] rfl (news1 _ _ _) ?c1 ?c2 ?c3 ?c4 ?_) | fail)
          case c1 => first | rfl | (intro u hu; simp at hu; subst hu; rfl)
          case c2 => unfold maxLen; omega
          case c3 => omega
          case c4 => first | omega | (simp; omega)
          intro x1 w4 ho1 hg1 he1
          obtain ⟨ya, yc, hye⟩ := (rows_of_ownS ho1).slice
          subst hye
          have b1 := (hst2.out.1.below (al_ wr (.cells #[.bool true] 4))).offI hg1 hnb
          have HN := hid (PkSt.high (x := true) hst2.out (al_ _ _) (by rw [hlen2]; exact ho1) hg1 (by simpa using he1))
          rw [List.append_assoc, ← HNH.out] at HN
          have k4 : Below w.heap.size wr w4 := ((Below.refl _ _).alloc (by omega) _).trans ((below_own (how.alloc _) (by simp; omega) hg1).mono hbB)
          have HK4 := hid (bel_set (HKB2.out.trans k4) hpbB 3 (.slice ya (j + k + 1) yc))
          have HB4 : Hid (B ≤ (w4.setCell ⟨pb, 3, none⟩ (.slice ya (j + k + 1) yc)).heap.size) := by
            show _ ≤ _
            have := hg1.size
            simp at this ⊢; omega
          have d3 := b1.2.1 3 _ rfl
          have f3 := b1.2.2 3 (by simp)
          have hpl4 := b1.1
          clear ho1 hg1 he1 b1 k4 c1 c3 hpl how
          go_wp2
          refine ⟨?_, by simp [intOf]; omega⟩
          first | exact ⟨k + 1, _, _, by omega, by go_num, by rw [HNU.out], by rw [← HLS8.out]; exact HN.out, HB4.out, HK4.out⟩ | ((repeat apply Exists.intro); exact ⟨⟨k + 1, _, _, by omega, by go_num, by rw [HNU.out], by rw [← HLS8.out]; exact HN.out, HB4.out, HK4.out⟩, rfl⟩)
    · have hke : k = l.length := by omega
      subst hke
      have hki : ¬ (l.length : Int) < (l.length : Int) := by omega
      have hst2 := hst.out
      rw [List.take_length] at hst2
      have HP := hid hst2
      obtain ⟨za, zc, hze⟩ := (rows_of_ownS hst2.2.2.1).slice
      obtain ⟨ya, yc, hye⟩ := (rows_of_ownS hst2.2.2.2.1).slice
      subst hze
      subst hye
      have b0 := hst2.1
      have bR := hst2.2.1
      have x0 := b0.2.1 0 _ rfl
      have x1 := b0.2.1 1 _ rfl
      have x2 := b0.2.1 2 _ rfl
      have x3 := b0.2.1 3 _ rfl
      have hpl := b0.1
      have r0 := bR.2.1 0 _ rfl
      have r1 := bR.2.1 1 _ rfl
      have r2 := bR.2.1 2 _ rfl
      have r3 := bR.2.1 3 _ rfl
      have s0 := bR.2.2 0 (by simp)
      have s1 := bR.2.2 1 (by simp)
      have s2 := bR.2.2 2 (by simp)
      have s3 := bR.2.2 3 (by simp)
      have hrl := bR.1
      have hne := hst2.2.2.2.2.2.2.2
      have HBR := hid bR
      have HKB := hid kb
      clear hst hst2 b0 bR kb hBS
      go_wp2_with fail
      have c1 := HBR.out.set 0 (.int .i64 l.length)
      have c2 := c1.set 1 (.int .i64 L)
      have c3 := c2.set 2 (.slice za ((l.map (· % 2 ^ L))).length zc)
      have c4 := c3.set 3 (.slice ya (hgh L l l.length).length yc)
      rw [List.length_map] at c3 c4
      have y0 := c4.2.1 0 _ rfl
      have y1 := c4.2.1 1 _ rfl
      have y2 := c4.2.1 2 _ rfl
      have y3 := c4.2.1 3 _ rfl
      clear x0 x1 x2 x3 r0 r1 r2 r3 s0 s1 s2 s3 c1 c2 c3 c4
      refine bodyPost_ret (v := .agg #[.int .i64 l.length, .int .i64 L, .slice za l.length zc, .slice ya (hgh L l l.length).length yc]) ?r rfl ?_
      case r => simp [y0, y1, y2, y3, results, Try.results51, go_sem]; try rfl
      have hfin := HP.out.fin (base := w.heap.size) (u0 := .int .i64 l.length) (u1 := .int .i64 L) (u2 := .slice za l.length zc) (u3 := .slice ya (hgh L l l.length).length yc) hbB
      refine ⟨_, _, rfl, ?_, bel_set (bel_set (bel_set (bel_set HKB.out (Nat.le_refl _) _ _) (Nat.le_refl _) _ _) (Nat.le_refl _) _ _) (Nat.le_refl _) _ _⟩
      unfold packM
      rw [← HL.out]
      simpa using hfin
end Go.Proofs.Ytaafdcghafbfhaa
