/- Contract of the program's reading of texts. Condition: at most six hundred bytes, and a place within them. -/
import Derived.Test.YtolkiofdbdjfkaaImplRead
namespace Go.Proofs.Ytolkiofdbdjfkaa
open Go.ChangeShapes Go.WideShapes Go.ChangeAt Go.RowKit Go.Deep
set_option linter.unusedVariables false
attribute [local go_sem ↓] Go.wp_at_zero Go.wp_at_succ

/-- What is told where a text is asked for at a place. -/
def ToldT (s : ByteArray) (a : Nat) (e : Ending) : Prop :=
  (∃ t r, s.data.toList.drop a = esc t ++ r ∧ t.length ≤ 600 ∧ e = .returned (.tuple #[.string ⟨t.toArray⟩, .int .i64 ((a : Int) + ((esc t).length : Int)), .bool true])) ∨ ((∀ t r, s.data.toList.drop a ≠ esc t ++ r) ∧ e = .returned (.tuple #[.string ByteArray.empty, .int .i64 0, .bool false]))
set_option maxHeartbeats 6400000 in
set_option maxRecDepth 100000 in
theorem implRT (s : ByteArray) (a : Nat) (w : World) (hs : s.size ≤ 600) (ha : a ≤ s.size) :
    Calls Try.prog 53 #[.string s, .int .i64 a] w fun e w' => ToldT s a e ∧ Below w.heap.size w w' := by
  obtain ⟨i0, hi, hzz⟩ := Option.map_eq_some_iff.1 info8
  simp only [Prod.mk.injEq] at hzz
  obtain ⟨hz0, hz1, hz2⟩ := hzz
  have HO0 := hid (OwnB.nil w w.heap.size)
  have HG0 := hid (gone_0 (s.data.toList.drop a))
  have HK0 := hid (kept_0 (s.data.toList.drop a))
  go_enter Try.func53, Try.ntmps53
  go_wp2_with fail
  go_loopw [1, 7] (fun i x wr => ∃ (b : List UInt8) (k : Nat), a + k ≤ s.size ∧ i = .int .i64 ((a + k : Nat) : Int) ∧ b.length ≤ k ∧ Gone (s.data.toList.drop a) b k ∧ Kept (s.data.toList.drop a) b k ∧ OwnB wr w.heap.size x b ∧ Below w.heap.size w wr) (fun i _ _ => s.size - (intOf i).toNat)
  case atStart => exact ⟨[], 0, by omega, rfl, Nat.le_refl _, HG0.out, HK0.out, HO0.out, Below.refl _ _⟩
  case round =>
    obtain ⟨b, k, hk, rfl, hbl, hgone, hkept, hown, kb⟩ := hrel
    have HGo := hid hgone
    have HKe := hid hkept
    have kl := kb.size
    clear hgone hkept
    obtain ⟨j, hj⟩ : ∃ j, a + k = j := ⟨_, rfl⟩
    rw [hj]
    by_cases hlt : j + 1 < s.size
    · have hd : (s.data.toList.drop a).drop k = s[j] :: s[j + 1] :: s.data.toList.drop (j + 1 + 1) := by rw [List.drop_drop, hj, drop_cons s j (by omega), drop_cons s (j + 1) hlt]
      have HD := hid hd
      clear hd
      have hji1 : (j : Int) + 1 < (s.size : Int) := by omega
      have hji : (j : Int) < (s.size : Int) := by omega
      have hj0 : (0 : Int) ≤ (j : Int) := by omega
      have hj1 : (0 : Int) ≤ (j : Int) + 1 := by omega
      obtain ⟨c, hc⟩ : ∃ c : UInt8, s[j] = c := ⟨_, rfl⟩
      obtain ⟨d, hdd⟩ : ∃ d : UInt8, s[j + 1] = d := ⟨_, rfl⟩
      rw [hc, hdd] at HD
      have hown' : wr.ownsRow w.heap.size 5 1 _ b.length (u8s b) := hown
      by_cases hz : c = 0
      · subst hz
        have hc0 : (s[j].toNat : Int) = 0 := by rw [hc]; rfl
        by_cases hd0 : d = 0
        · subst hd0
          have hdd0 : (s[j + 1].toNat : Int) = 0 := by rw [hdd]; rfl
          obtain ⟨f1, f2⟩ := kept_end HKe.out HD.out
          have hcv := conv_own wr w.heap.size _ b hown
          have HT : Hid (ToldT s a (.returned (.tuple #[.string ⟨b.toArray⟩, .int .i64 ((j : Int) + 2), .bool true]))) := by
            refine .inl ⟨b, _, f1, by omega, ?_⟩
            rw [show ((a : Int) + ((esc b).length : Int)) = (j : Int) + 2 from by omega]
          clear f1 f2 hown hown' HGo HKe HD hc hdd
          go_wp2
          go_returns
          exact ⟨HT.out, kb⟩
        · have hdn : ¬ (s[j + 1].toNat : Int) = 0 := by rw [hdd]; exact fun e => hd0 (UInt8.toNat_inj.1 (by show d.toNat = 0; omega))
          by_cases hd5 : d = 255
          · subst hd5
            have hd255 : (s[j + 1].toNat : Int) = 255 := by rw [hdd]; rfl
            have HG2 := hid (gone_step HGo.out HD.out (fun e => hd0 e.2))
            rw [if_pos rfl] at HG2
            have HK2 := hid (kept_two HKe.out HD.out)
            have HE2 : Hid (u8s b ++ [Value.int .u8 0] = u8s (b ++ [0])) := by show _ = _; rw [u8s_append]; rfl
            have HL2 : Hid (b.length + 1 = (b ++ [0]).length) := by show _ = _; simp
            clear hown HGo HKe HD hc hdd
            go_wp2_with (first | (at_builtin; refine wpList_append_own _ rfl _ _ 22 rfl w.heap.size 5 i0 (.int .u8 0) 1 1 Try.underlying22 hi hz0 hz1 hz2 rfl (by decide) _ _ _ rfl (hown'.alloc _) ⟨wr.heap.size, 0, none⟩ 1 1 [.int .u8 0] rfl rfl ?c1 ?c2 ?c3 ?c4 ?c5 ?_) | fail)
            case c1 => exact newsAt _ #[.int .u8 0] _ _ rfl
            case c2 => intro u hu; simp at hu; subst hu; rfl
            case c3 => unfold maxLen; omega
            case c4 => omega
            case c5 => simp; omega
            intro v1 w1 hown1 hg1 _
            have kb1 : Below w.heap.size w w1 := (kb.alloc (by omega) _).grown hg1 (by simp; omega) (fun r hr => (hown'.lt r hr).1)
            rw [HE2.out, HL2.out] at hown1
            have HO1 : Hid (OwnB w1 w.heap.size v1 (b ++ [0])) := hown1
            have hbl2 : (b ++ [0]).length ≤ k + 2 := by simp; omega
            clear hown1 hg1 hown'
            go_wp2
            refine ⟨?_, by simp [intOf]; omega⟩
            first | exact ⟨b ++ [0], k + 2, by omega, by congr 1; omega, hbl2, HG2.out, HK2.out, HO1.out, kb1⟩ | ((repeat apply Exists.intro); exact ⟨⟨b ++ [0], k + 2, by omega, by congr 1; omega, hbl2, HG2.out, HK2.out, HO1.out, kb1⟩, rfl⟩)
          · have hd255 : ¬ (s[j + 1].toNat : Int) = 255 := by rw [hdd]; exact fun e => hd5 (UInt8.toNat_inj.1 (by show d.toNat = 255; omega))
            have HT : Hid (ToldT s a (.returned (.tuple #[.string ByteArray.empty, .int .i64 0, .bool false]))) := .inr ⟨fun t r => gone_bad HGo.out HD.out hd0 hd5 t r, rfl⟩
            clear hown hown' HGo HKe HD hc hdd
            go_wp2
            go_returns
            exact ⟨HT.out, kb⟩
      · have hcn : ¬ (s[j].toNat : Int) = 0 := by rw [hc]; exact fun e => hz (UInt8.toNat_inj.1 (by show c.toNat = 0; omega))
        have HG2 := hid (gone_step HGo.out HD.out (fun e => hz e.1))
        rw [if_neg hz] at HG2
        have HK2 := hid (kept_one HKe.out HD.out hz)
        have hct : (s[j].toNat : Int) = (c.toNat : Int) := by rw [hc]
        have HE2 : Hid (u8s b ++ [Value.int .u8 (c.toNat : Int)] = u8s (b ++ [c])) := by show _ = _; rw [u8s_append]; rfl
        have HL2 : Hid (b.length + 1 = (b ++ [c]).length) := by show _ = _; simp
        clear hown HGo HKe HD hc hdd
        go_wp2_with (first | (at_builtin; refine wpList_append_own _ rfl _ _ 22 rfl w.heap.size 5 i0 (.int .u8 0) 1 1 Try.underlying22 hi hz0 hz1 hz2 rfl (by decide) _ _ _ rfl (hown'.alloc _) ⟨wr.heap.size, 0, none⟩ 1 1 [.int .u8 (c.toNat : Int)] rfl rfl ?c1 ?c2 ?c3 ?c4 ?c5 ?_) | fail)
        case c1 => exact newsAt _ #[.int .u8 (c.toNat : Int)] _ _ rfl
        case c2 => intro u hu; simp at hu; subst hu; rfl
        case c3 => unfold maxLen; omega
        case c4 => omega
        case c5 => simp; omega
        intro v1 w1 hown1 hg1 _
        have kb1 : Below w.heap.size w w1 := (kb.alloc (by omega) _).grown hg1 (by simp; omega) (fun r hr => (hown'.lt r hr).1)
        rw [HE2.out, HL2.out] at hown1
        have HO1 : Hid (OwnB w1 w.heap.size v1 (b ++ [c])) := hown1
        have hbl2 : (b ++ [c]).length ≤ k + 1 := by simp; omega
        clear hown1 hg1 hown'
        go_wp2
        refine ⟨?_, by simp [intOf]; omega⟩
        first | exact ⟨b ++ [c], k + 1, by omega, by congr 1; omega, hbl2, HG2.out, HK2.out, HO1.out, kb1⟩ | ((repeat apply Exists.intro); exact ⟨⟨b ++ [c], k + 1, by omega, by congr 1; omega, hbl2, HG2.out, HK2.out, HO1.out, kb1⟩, rfl⟩)
    · have hji1 : ¬ (j : Int) + 1 < (s.size : Int) := by omega
      have HT : Hid (ToldT s a (.returned (.tuple #[.string ByteArray.empty, .int .i64 0, .bool false]))) := .inr ⟨fun t r => gone_short HGo.out (by have : s.data.toList.length = s.size := by simp
                                                                                                                                                     simp only [List.length_drop]; omega) t r, rfl⟩
      clear hown HGo HKe
      go_wp2
      go_returns
      exact ⟨HT.out, kb⟩
end Go.Proofs.Ytolkiofdbdjfkaa
