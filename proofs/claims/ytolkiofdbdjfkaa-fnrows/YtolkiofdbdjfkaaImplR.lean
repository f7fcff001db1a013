/- Contracts of the program's fields of a row. Condition: the list of values lies in memory. -/
import Derived.Test.YtolkiofdbdjfkaaImplF
import Derived.Test.YtolkiofdbdjfkaaBoxes
import Derived.Test.YtolkiofdbdjfkaaSpecCmpR
namespace Go.Proofs.Ytolkiofdbdjfkaa
open Go.ChangeShapes Go.WideShapes Go.ChangeAt Go.RowKit Go.Deep
set_option linter.unusedVariables false
attribute [local go_sem ↓] Go.wp_at_zero Go.wp_at_succ

theorem infoFld : (Try.prog.info? 73).map (fun i => (i.zero, i.size, i.bytes)) = some (some .nilIface, 1, 16) := by kernel_rfl
/-- The fields of the values vs, in memory that may be written, from base on. -/
def OwnF (w : World) (base : Nat) (x : Value) (vs : List VV) : Prop := w.ownsRow base 73 1 x vs.length (vs.map fld)
theorem OwnF.below {w w' : World} {base : Nat} {x : Value} {vs : List VV} (h : OwnF w base x vs) (hb : Below w.heap.size w w') : OwnF w' base x vs :=
  World.ownsRow.kept (row := none) h ⟨hb.os, hb.tape, hb.output, hb.size, fun k hk _ => hb.block k hk⟩ (by cases x.ownBlock <;> simp)
theorem OwnF.mono {w : World} {base base' : Nat} {x : Value} {vs : List VV} (h : OwnF w base x vs) (hb : base' ≤ base) : OwnF w base' x vs := by
  obtain ⟨h1, h2 | ⟨g, cap, cur, e, hg, h3⟩⟩ := h
  · exact ⟨h1, .inl h2⟩
  · exact ⟨h1, .inr ⟨g, cap, cur, e, Nat.le_trans hb hg, h3⟩⟩
theorem takeS (vs : List VV) (k : Nat) (h : k < vs.length) : vs.take (k + 1) = vs.take k ++ [vs.getD k v0] := by
  rw [List.take_succ_eq_append_getElem h]; simp [List.getD, h]
theorem fld_one (v : VV) : (fld v).oneCell' = true := by unfold fld; repeat' split
                                                         all_goals rfl

theorem fld_iface (v : VV) : ∃ a b, fld v = .iface a b := by
  unfold fld
  repeat' split
  all_goals exact ⟨_, _, rfl⟩

set_option maxHeartbeats 6400000 in
set_option maxRecDepth 100000 in
theorem implFsYes (x : Value) (vs : List VV) (w : World) (h : ValsAt w x vs) (hl : vs.length ≤ 6) (hg : AllGood vs) :
    Calls Try.prog 60 #[x] w fun e w' => ∃ y, e = .returned (.tuple #[y, .bool true]) ∧ OwnF w' w.heap.size y vs ∧ Below w.heap.size w w' := by
  obtain ⟨i0, hi, hzz⟩ := Option.map_eq_some_iff.1 infoFld
  simp only [Prod.mk.injEq] at hzz
  obtain ⟨hz0, hz1, hz2⟩ := hzz
  obtain ⟨ad, cap, rfl, hcell⟩ := h.cases
  clear h
  obtain ⟨w0, hmk, hown0, hg0⟩ := run_make_own (P := Try.prog) w w.heap.size 89 73 i0 _ 1 Try.underlying89 hi hz0 hz1 .i64 .i64 vs.length (by rw [hz2]; omega) (by unfold maxLen; omega) (Nat.le_refl _)
  have kb0 : Below w.heap.size w w0 := ⟨hg0.os, hg0.tape, hg0.output, hg0.size, fun k hk => hg0.block k hk (by simp)⟩
  have HC : Hid (∀ k, k < vs.length → ∃ b off, ad = some ⟨b, off, none⟩ ∧ b < w.heap.size ∧ ValAt w b (off + k * 3) (vs.getD k v0)) := hcell
  have HG : Hid (AllGood vs) := hg
  have HO0 : Hid (OwnF w0 w.heap.size (.slice (some ⟨w.heap.size, 0, none⟩) 0 vs.length) (vs.take 0)) := by
    show OwnF _ _ _ _
    unfold OwnF
    rw [List.take_zero]
    exact hown0
  have hl6 : ¬ (6 : Int) < (vs.length : Int) := by omega
  clear hcell hg hg0 hown0
  go_enter Try.func60, Try.ntmps60
  go_wp2
  go_loopw [4, 6, 7, 8, 17] (fun y p q r i wr => ∃ k : Nat, k ≤ vs.length ∧ i = .int .i64 k ∧ OwnF wr w.heap.size y (vs.take k) ∧ Below w.heap.size w wr) (fun _ _ _ _ i _ => vs.length - (intOf i).toNat)
  case atStart => exact ⟨0, Nat.zero_le _, rfl, HO0.out, kb0⟩
  case round =>
    obtain ⟨k, hk, rfl, hown, kb⟩ := hrel
    have kl := kb.size
    by_cases hlt : k < vs.length
    · obtain ⟨b, off, rfl, hb, hv⟩ := HC.out k hlt
      obtain ⟨hv0, hv1, hv2⟩ := hv.below hb kb
      clear hv
      have hbr : b < wr.heap.size := by omega
      have hgk : GoodV (vs.getD k v0) := HG.out _ (by simp [List.getD, hlt])
      have HY := fun W => implFieldYes (vs.getD k v0) W hgk
      obtain ⟨ft, fp, hF⟩ := fld_iface (vs.getD k v0)
      have HT : Hid (vs.take (k + 1) = vs.take k ++ [vs.getD k v0]) := takeS vs k hlt
      have HM : Hid ((vs.take (k + 1)).map fld = (vs.take k).map fld ++ [fld (vs.getD k v0)]) := by
        show _ = _
        rw [HT.out]; simp
      have hlk : (vs.take k).length ≤ 6 := by simp; omega
      have HL : Hid ((vs.take (k + 1)).length = (vs.take k).length + 1) := by show _ = _; rw [HT.out]; simp
      have HO := hid hown
      clear hgk HT hown
      rw [hF] at HY HM
      clear hF
      generalize vs.getD k v0 = u at *
      obtain ⟨K, N, T⟩ := u
      unfold encV at HY
      simp only [] at HY hv0 hv1 hv2
      have hki : (k : Int) < (vs.length : Int) := by omega
      go_wp2_with fail
      refine (HY _).mono ?_
      rintro e w1 ⟨rfl, hb1⟩
      have hx1 : Below wr.heap.size wr w1 := Below.trans ((Below.refl wr.heap.size wr).alloc (Nat.le_refl _) _) (hb1.mono (by simp))
      have k1 : Below w.heap.size w w1 := kb.trans (hx1.mono kl)
      have kl1 := k1.size
      have hown := HO.out.below hx1
      unfold OwnF at hown
      generalize (vs.take k).map fld = FS at hown HM
      generalize (vs.take k).length = n at hown HL hlk
      clear hb1 hx1 HY hv0 hv1 hv2 HO
      go_wp2_with (first | (at_builtin; refine wpList_append_own _ rfl _ _ 89 rfl w.heap.size 73 i0 .nilIface 1 16 Try.underlying89 hi hz0 hz1 hz2 rfl (by decide) _ _ _ rfl (hown.alloc _) ⟨w1.heap.size, 0, none⟩ 1 1 [.iface ft fp] rfl rfl ?c1 ?c2 ?c3 ?c4 ?c5 ?_) | fail)
      case c1 => exact newsAt _ #[.iface ft fp] _ _ rfl
      case c2 => intro u hu; simp at hu; subst hu; rfl
      case c3 => unfold maxLen; omega
      case c4 => omega
      case c5 => simp; omega
      intro v2 w2 hown2 hg2 _
      have k2 : Below w.heap.size w w2 := (k1.alloc (by omega) _).grown hg2 (by simp; omega) (fun r hr => (hown.lt r hr).1)
      rw [← HM.out, ← HL.out] at hown2
      clear hg2 hown
      go_wp2
      exact ⟨⟨k + 1, by omega, by go_num, hown2, k2⟩, by simp [intOf]; omega⟩
    · have hke : k = vs.length := by omega
      subst hke
      rw [List.take_length] at hown
      have HO := hid hown
      clear hown
      go_wp2
      go_returns
      exact ⟨_, rfl, HO.out, kb⟩
set_option maxHeartbeats 6400000 in
set_option maxRecDepth 100000 in
theorem implFsNo (x : Value) (vs : List VV) (w : World) (h : ValsAt w x vs) (hlen : vs.length ≤ 1048576) (hsz : ∀ v ∈ vs, v.t.size ≤ maxLen) (hn : ¬ (AllGood vs ∧ vs.length ≤ 6)) :
    Calls Try.prog 60 #[x] w fun e w' => e = .returned (.tuple #[.slice none 0 0, .bool false]) ∧ Below w.heap.size w w' := by
  obtain ⟨i0, hi, hzz⟩ := Option.map_eq_some_iff.1 infoFld
  simp only [Prod.mk.injEq] at hzz
  obtain ⟨hz0, hz1, hz2⟩ := hzz
  obtain ⟨ad, cap, rfl, hcell⟩ := h.cases
  clear h
  by_cases h6 : 6 < vs.length
  · have hl6 : (6 : Int) < (vs.length : Int) := by omega
    clear hcell hsz hn
    go_enter Try.func60, Try.ntmps60
    go_wp2
    go_returns
    exact ⟨rfl, by go_grown⟩
  obtain ⟨w0, hmk, hown0, hg0⟩ := run_make_own (P := Try.prog) w w.heap.size 89 73 i0 _ 1 Try.underlying89 hi hz0 hz1 .i64 .i64 vs.length (by rw [hz2]; omega) (by unfold maxLen; omega) (Nat.le_refl _)
  have kb0 : Below w.heap.size w w0 := ⟨hg0.os, hg0.tape, hg0.output, hg0.size, fun k hk => hg0.block k hk (by simp)⟩
  have HC : Hid (∀ k, k < vs.length → ∃ b off, ad = some ⟨b, off, none⟩ ∧ b < w.heap.size ∧ ValAt w b (off + k * 3) (vs.getD k v0)) := hcell
  have HN : Hid (¬ AllGood vs) := fun g => hn ⟨g, by omega⟩
  have HZ : Hid (∀ v ∈ vs, v.t.size ≤ maxLen) := hsz
  have HO0 : Hid (OwnF w0 w.heap.size (.slice (some ⟨w.heap.size, 0, none⟩) 0 vs.length) (vs.take 0)) := by
    show OwnF _ _ _ _
    unfold OwnF
    rw [List.take_zero]
    exact hown0
  have hl6 : ¬ (6 : Int) < (vs.length : Int) := by omega
  clear hcell hn hg0 hown0 hsz
  go_enter Try.func60, Try.ntmps60
  go_wp2
  go_loopw [4, 6, 7, 8, 17] (fun y p q r i wr => ∃ k : Nat, k ≤ vs.length ∧ i = .int .i64 k ∧ (∀ j, j < k → GoodV (vs.getD j v0)) ∧ OwnF wr w.heap.size y (vs.take k) ∧ Below w.heap.size w wr) (fun _ _ _ _ i _ => vs.length - (intOf i).toNat)
  case atStart => exact ⟨0, Nat.zero_le _, rfl, fun j hj => by omega, HO0.out, kb0⟩
  case round =>
    obtain ⟨k, hk, rfl, hall, hown, kb⟩ := hrel
    have HA : Hid (∀ j, j < k → GoodV (vs.getD j v0)) := hall
    clear hall
    have kl := kb.size
    by_cases hlt : k < vs.length
    · obtain ⟨b, off, rfl, hb, hv⟩ := HC.out k hlt
      obtain ⟨hv0, hv1, hv2⟩ := hv.below hb kb
      clear hv
      have hbr : b < wr.heap.size := by omega
      have hm := HZ.out (vs.getD k v0) (by simp [List.getD, hlt])
      have hki : (k : Int) < (vs.length : Int) := by omega
      by_cases hgk : GoodV (vs.getD k v0)
      · have HA2 : Hid (∀ j, j < k + 1 → GoodV (vs.getD j v0)) := by
          intro j hj
          by_cases e : j = k
          · rw [e]; exact hgk
          · exact HA.out j (by omega)
        have HY := fun W => implFieldYes (vs.getD k v0) W hgk
        obtain ⟨ft, fp, hF⟩ := fld_iface (vs.getD k v0)
        have HT : Hid (vs.take (k + 1) = vs.take k ++ [vs.getD k v0]) := takeS vs k hlt
        have HM : Hid ((vs.take (k + 1)).map fld = (vs.take k).map fld ++ [fld (vs.getD k v0)]) := by
          show _ = _
          rw [HT.out]; simp
        have hlk : (vs.take k).length ≤ 6 := by simp; omega
        have HL : Hid ((vs.take (k + 1)).length = (vs.take k).length + 1) := by show _ = _; rw [HT.out]; simp
        have HO := hid hown
        clear hgk HT hown hm
        rw [hF] at HY HM
        clear hF
        generalize vs.getD k v0 = u at *
        obtain ⟨K, N, T⟩ := u
        unfold encV at HY
        simp only [] at HY hv0 hv1 hv2
        go_wp2_with fail
        refine (HY _).mono ?_
        rintro e w1 ⟨rfl, hb1⟩
        have hx1 : Below wr.heap.size wr w1 := Below.trans ((Below.refl wr.heap.size wr).alloc (Nat.le_refl _) _) (hb1.mono (by simp))
        have k1 : Below w.heap.size w w1 := kb.trans (hx1.mono kl)
        have kl1 := k1.size
        have hown := HO.out.below hx1
        unfold OwnF at hown
        generalize (vs.take k).map fld = FS at hown HM
        generalize (vs.take k).length = n at hown HL hlk
        clear hb1 hx1 HY hv0 hv1 hv2 HO
        go_wp2_with (first | (at_builtin; refine wpList_append_own _ rfl _ _ 89 rfl w.heap.size 73 i0 .nilIface 1 16 Try.underlying89 hi hz0 hz1 hz2 rfl (by decide) _ _ _ rfl (hown.alloc _) ⟨w1.heap.size, 0, none⟩ 1 1 [.iface ft fp] rfl rfl ?c1 ?c2 ?c3 ?c4 ?c5 ?_) | fail)
        case c1 => exact newsAt _ #[.iface ft fp] _ _ rfl
        case c2 => intro u hu; simp at hu; subst hu; rfl
        case c3 => unfold maxLen; omega
        case c4 => omega
        case c5 => simp; omega
        intro v2 w2 hown2 hg2 _
        have k2 : Below w.heap.size w w2 := (k1.alloc (by omega) _).grown hg2 (by simp; omega) (fun r hr => (hown.lt r hr).1)
        rw [← HM.out, ← HL.out] at hown2
        clear hg2 hown
        go_wp2
        exact ⟨⟨k + 1, by omega, by go_num, HA2.out, hown2, k2⟩, by simp [intOf]; omega⟩
      · have HY := fun W => implFieldNo (vs.getD k v0) W hm hgk
        clear hgk hown hm
        generalize vs.getD k v0 = u at *
        obtain ⟨K, N, T⟩ := u
        unfold encV at HY
        simp only [] at HY hv0 hv1 hv2
        go_wp2_with fail
        refine (HY _).mono ?_
        rintro e w1 ⟨F, rfl, hb1⟩
        have hx1 : Below wr.heap.size wr w1 := Below.trans ((Below.refl wr.heap.size wr).alloc (Nat.le_refl _) _) (hb1.mono (by simp))
        have k1 : Below w.heap.size w w1 := kb.trans (hx1.mono kl)
        clear hb1 hx1 HY hv0 hv1 hv2
        go_wp2
        go_returns
        exact ⟨rfl, k1⟩
    · have hke : k = vs.length := by omega
      subst hke
      exact absurd (allGood_of HA.out) HN.out
end Go.Proofs.Ytolkiofdbdjfkaa
