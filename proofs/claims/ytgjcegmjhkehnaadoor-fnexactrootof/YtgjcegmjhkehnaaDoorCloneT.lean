/- Contract of the program's copy of a list of texts. Condition: the list lies in memory, its texts short. -/
import Derived.Test.YtgjcegmjhkehnaaDoorSpecRd
import Derived.Test.YtgjcegmjhkehnaaDoorShelf
import Derived.Laws.OwnMore
import Derived.Laws.MakeOwn
namespace Go.Proofs.YtgjcegmjhkehnaaDoor
open Go.ChangeShapes Go.WideShapes Go.ChangeAt Go.RowKit Go.Deep
set_option linter.unusedVariables false
attribute [local go_sem ↓] Go.wp_at_zero Go.wp_at_succ

theorem infoTx : (Tryd.prog.info? 9).map (fun i => (i.zero, i.size, i.bytes)) = some (some (.string ByteArray.empty), 1, 16) := by kernel_rfl
theorem cloneTx (s : ByteArray) (w : World) (h1 : s.size ≤ 12) :
    Calls Tryd.prog 56 #[.string s] w fun e w' => e = .returned (.string s) ∧ Below w.heap.size w w' := by
  go_enter Tryd.func56, Tryd.ntmps56
  go_wp2_with (first | (go_at_call 111; refine (stringsliteClone _ _ (by omega)).mono ?_; rintro e w2 ⟨rfl, hb2⟩) | go_in)
  go_returns
  exact ⟨rfl, hb2⟩
set_option maxHeartbeats 3200000 in
set_option maxRecDepth 100000 in
theorem implCloneT (ss : List ByteArray) (x : Value) (w : World) (hx : RowsAt w 1 x ss.length (strsV ss)) (hz : ∀ s ∈ ss, s.size ≤ 12) (hl : ss.length ≤ 1048576) :
    Calls Tryd.prog 101 #[x] w fun e w' => ∃ y, e = .returned y ∧ OwnS w' w.heap.size 9 y ss.length (strsV ss) ∧ Below w.heap.size w w' := by
  obtain ⟨i0, hi, hzz⟩ := Option.map_eq_some_iff.1 infoTx
  simp only [Prod.mk.injEq] at hzz
  obtain ⟨hz0, hz1, hz2⟩ := hzz
  obtain ⟨w0, hmk, hown, hg0⟩ := run_make_own (P := Tryd.prog) w w.heap.size 26 9 i0 _ 1 Tryd.underlying26 hi hz0 hz1 .i64 .i64 ss.length (by rw [hz2]; omega) (by unfold maxLen; omega) (Nat.le_refl _)
  have kb0 : Below w.heap.size w w0 := ⟨hg0.os, hg0.tape, hg0.output, hg0.size, fun k hk => hg0.block k hk (by simp)⟩
  have HO0 : Hid (OwnS w0 w.heap.size 9 (.slice (some ⟨w.heap.size, 0, none⟩) 0 ss.length) 0 (strsV (ss.take 0))) := .inl hown
  have HX := hid hx
  have HZ := hid hz
  obtain ⟨a, c, rfl⟩ := hx.slice
  clear hx hz hown hg0
  go_enter Tryd.func101, Tryd.ntmps101
  go_wp2_with fail
  go_loopw [3, 5, 11] (fun y s5 i wr => ∃ k : Nat, k ≤ ss.length ∧ i = .int .i64 k ∧ OwnS wr w.heap.size 9 y k (strsV (ss.take k)) ∧ Below w.heap.size w wr) (fun _ _ i _ => ss.length - (intOf i).toNat)
  case atStart => exact ⟨0, Nat.zero_le _, rfl, HO0.out, kb0⟩
  case round =>
    obtain ⟨k, hk, rfl, hown, kb⟩ := hrel
    have kl := kb.size
    by_cases hlt : k < ss.length
    · obtain ⟨b, off, c', hce, hb, hcell⟩ := (HX.out.below kb).cell1 hlt
      cases hce
      rw [strsV_get _ _ hlt] at hcell
      have hki : (k : Int) < (ss.length : Int) := by omega
      have hk0 : (0 : Int) ≤ (k : Int) := by omega
      have hts := HZ.out _ (getD_mem ss k hlt)
      have HS : Hid (strsV (ss.take (k + 1)) = strsV (ss.take k) ++ [.string (ss.getD k ByteArray.empty)]) := by
        show _ = _
        rw [take_snocS ss k hlt]; simp [strsV]
      obtain ⟨t, ht⟩ : ∃ t, ss.getD k ByteArray.empty = t := ⟨_, rfl⟩
      rw [ht] at hcell hts HS
      clear ht
      have HC := fun W => cloneTx t W hts
      have HOW := hid hown
      obtain ⟨ya, yc, rfl⟩ := (rows_of_ownS hown).slice
      clear hown
      go_wp2_with fail
      refine (HC _).mono ?_
      rintro e w2 ⟨rfl, hb2⟩
      have hown2 := HOW.out.below hb2
      have kb2 : Below w.heap.size w w2 := kb.trans (hb2.mono kl)
      have kl2 := kb2.size
      clear hb2 HC hcell
      go_wp2_with (first | (at_builtin; refine wplS rfl _ _ 26 rfl w.heap.size 9 i0 (.string ByteArray.empty) 16 Tryd.underlying26 hi hz0 hz1 hz2 rfl _ _ _ rfl (hown2.alloc _) _ 1 [.string t] rfl (news1 _ _ _) ?c1 ?c2 ?c3 ?c4 ?_) | fail)
      case c1 => first | rfl | (intro u hu; simp at hu; subst hu; rfl)
      case c2 => unfold maxLen; omega
      case c3 => omega
      case c4 => simp; omega
      intro v' w3 hown3 hoff3 hsub3
      have kb3 : Below w.heap.size w w3 := (kb2.alloc kl2 _).trans (hoff3.below (by simp; omega) (fun g hg => (own_lt hown2 g hg).1))
      have HO3 := hid hown3
      rw [← HS.out] at HO3
      clear hown2 hown3 hoff3 hsub3
      go_wp2_with fail
      refine ⟨?_, by simp [intOf]; omega⟩
      first | exact ⟨k + 1, by omega, by go_num, HO3.out, kb3⟩ | ((repeat apply Exists.intro); exact ⟨⟨k + 1, by omega, by go_num, HO3.out, kb3⟩, rfl⟩)
    · have hke : k = ss.length := by omega
      subst hke
      have hki : ¬ ((ss.length : Int) < (ss.length : Int)) := by omega
      rw [List.take_length] at hown
      have HOW := hid hown
      clear hown
      go_wp2_with fail
      go_returns
      exact ⟨_, rfl, HOW.out, kb⟩
end Go.Proofs.YtgjcegmjhkehnaaDoor
