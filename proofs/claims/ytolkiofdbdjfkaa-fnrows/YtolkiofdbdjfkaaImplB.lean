/- Contracts of the program's bytes of values and rows. Condition: the bytes that are written on are the call's own. -/
import Derived.Test.YtolkiofdbdjfkaaImplF
import Derived.Test.YtolkiofdbdjfkaaVals
namespace Go.Proofs.Ytolkiofdbdjfkaa
open Go.ChangeShapes Go.WideShapes Go.ChangeAt Go.RowKit Go.Deep
set_option linter.unusedVariables false
attribute [local go_sem ↓] Go.wp_at_zero Go.wp_at_succ

/-- The bytes R in memory that may be written on, from base on. -/
def OwnB (w : World) (base : Nat) (x : Value) (R : List UInt8) : Prop := w.ownsRow base 5 1 x R.length (u8s R)
theorem OwnB.alloc {w : World} {base : Nat} {x : Value} {R : List UInt8} (h : OwnB w base x R) (o : Obj) : OwnB (w.alloc o) base x R := World.ownsRow.alloc h o
theorem OwnB.below {w w' : World} {base : Nat} {x : Value} {R : List UInt8} (h : OwnB w base x R) (hb : Below w.heap.size w w') : OwnB w' base x R :=
  World.ownsRow.kept (row := none) h ⟨hb.os, hb.tape, hb.output, hb.size, fun k hk _ => hb.block k hk⟩ (by cases x.ownBlock <;> simp)
theorem OwnB.nil (w : World) (base : Nat) : OwnB w base (.slice none 0 0) [] := ⟨rfl, .inl ⟨rfl, rfl⟩⟩

set_option maxHeartbeats 3200000 in
set_option maxRecDepth 100000 in
theorem implText (x : Value) (R : List UInt8) (t : ByteArray) (base : Nat) (w : World) (h : OwnB w base x R) (hb : base ≤ w.heap.size) (hR : R.length ≤ 10000) (ht : t.size ≤ 12) :
    Calls Try.prog 76 #[x, .string t] w fun e w' => ∃ y, e = .returned y ∧ OwnB w' base y (R ++ esc t.data.toList) ∧ Below base w w' := by
  obtain ⟨i0, hi, hzz⟩ := Option.map_eq_some_iff.1 info8
  simp only [Prod.mk.injEq] at hzz
  obtain ⟨hz0, hz1, hz2⟩ := hzz
  have hown0 : w.ownsRow base 5 1 x (R ++ escP (t.data.toList.take 0)).length (u8s (R ++ escP (t.data.toList.take 0))) := by have h' := h; unfold OwnB at h'; simpa [escP] using h'
  clear h
  have HE : Hid (esc t.data.toList = escP t.data.toList ++ [0, 0]) := esc_P _
  go_enter Try.func76, Try.ntmps76
  go_wp2_with fail
  go_loopw [0, 5] (fun y i wr => ∃ k : Nat, k ≤ t.size ∧ i = .int .i64 k ∧ wr.ownsRow base 5 1 y (R ++ escP (t.data.toList.take k)).length (u8s (R ++ escP (t.data.toList.take k))) ∧ Below base w wr) (fun _ i _ => t.size - (intOf i).toNat)
  case atStart => exact ⟨0, Nat.zero_le _, rfl, hown0, Below.refl _ _⟩
  case round =>
    obtain ⟨k, hk, rfl, hown, kb⟩ := hrel
    have kl := kb.size
    have hR2 : (R ++ escP (t.data.toList.take k)).length ≤ 10024 := by
      have h1 := escP_len (t.data.toList.take k)
      have h2 : (t.data.toList.take k).length ≤ 12 := by simp; omega
      simp; omega
    by_cases hlt : k < t.size
    · have HS : Hid (R ++ escP (t.data.toList.take (k + 1)) = (R ++ escP (t.data.toList.take k)) ++ escP [t[k]]) := by
        show _ = _
        rw [takeU t k hlt, escP_append, List.append_assoc]
      generalize R ++ escP (t.data.toList.take k) = S at *
      have hki : (k : Int) < (t.size : Int) := by omega
      have hk0 : (0 : Int) ≤ (k : Int) := by omega
      obtain ⟨c, hc⟩ : ∃ c : UInt8, c = t[k] := ⟨_, rfl⟩
      have HC : Hid (c = t[k]) := hc
      clear hc
      rw [← HC.out] at HS
      go_wp2_with (first | (at_builtin; refine wpList_append_own _ rfl _ _ 22 rfl base 5 i0 (.int .u8 0) 1 1 Try.underlying22 hi hz0 hz1 hz2 rfl (by decide) _ _ _ rfl (hown.alloc _) ⟨wr.heap.size, 0, none⟩ 1 1 [.int .u8 (t[k].toNat : Int)] rfl rfl ?c1 ?c2 ?c3 ?c4 ?c5 ?_) | fail)
      case c1 => exact newsAt _ #[.int .u8 (t[k].toNat : Int)] _ _ rfl
      case c2 => intro u hu; simp at hu; subst hu; rfl
      case c3 => unfold maxLen; omega
      case c4 => omega
      case c5 => simp; omega
      intro v1 w1 hown1 hg1 _
      have kb1 : Below base w w1 := (kb.alloc (by omega) _).grown hg1 (by simp; omega) (fun r hr => (hown.lt r hr).1)
      have kl1 := kb1.size
      rw [← HC.out] at hown1
      have e1 : S.length + 1 = (S ++ [c]).length := by simp
      have e2 : u8s S ++ [Value.int .u8 (c.toNat : Int)] = u8s (S ++ [c]) := by rw [u8s_append]; rfl
      rw [e1, e2] at hown1
      clear hg1 hown e1 e2
      by_cases hz : c = 0
      · have hzt : (t[k].toNat : Int) = 0 := by rw [← HC.out, hz]; rfl
        have HSz : Hid (R ++ escP (t.data.toList.take (k + 1)) = S ++ [c] ++ [255]) := by
          show _ = _
          rw [HS.out, hz]; simp [escP]
        generalize hS2 : S ++ [c] = S2 at *
        have hS2l : S2.length ≤ 10025 := by rw [← hS2]; simp; omega
        clear hS2
        go_wp2_with (first | (at_builtin; refine wpList_append_own _ rfl _ _ 22 rfl base 5 i0 (.int .u8 0) 1 1 Try.underlying22 hi hz0 hz1 hz2 rfl (by decide) _ _ _ rfl (hown1.alloc _) ⟨w1.heap.size, 0, none⟩ 1 1 [.int .u8 255] rfl rfl ?d1 ?d2 ?d3 ?d4 ?d5 ?_) | fail)
        case d1 => exact newsAt _ #[.int .u8 255] _ _ rfl
        case d2 => intro u hu; simp at hu; subst hu; rfl
        case d3 => unfold maxLen; omega
        case d4 => omega
        case d5 => simp; omega
        intro v2 w2 hown2 hg2 _
        have kb2 : Below base w w2 := (kb1.alloc (by omega) _).grown hg2 (by simp; omega) (fun r hr => (hown1.lt r hr).1)
        have e1 : S2.length + 1 = (S2 ++ [255]).length := by simp
        have e2 : u8s S2 ++ [Value.int .u8 255] = u8s (S2 ++ [255]) := by rw [u8s_append]; rfl
        rw [e1, e2, ← HSz.out] at hown2
        clear hg2 hown1 e1 e2
        go_wp2
        exact ⟨⟨k + 1, by omega, by go_num, hown2, kb2⟩, by simp [intOf]; omega⟩
      · have hzt : ¬ (t[k].toNat : Int) = 0 := by
          rw [← HC.out]
          intro e
          exact hz (UInt8.toNat_inj.1 (by show c.toNat = 0; omega))
        have HSz : Hid (R ++ escP (t.data.toList.take (k + 1)) = S ++ [c]) := by
          show _ = _
          rw [HS.out]; simp [escP, hz]
        rw [← HSz.out] at hown1
        go_wp2
        exact ⟨⟨k + 1, by omega, by go_num, hown1, kb1⟩, by simp [intOf]; omega⟩
    · have hke : k = t.size := by omega
      subst hke
      have hfull : t.data.toList.take t.size = t.data.toList := List.take_of_length_le (by simp)
      rw [hfull] at hown hR2
      clear hfull
      have HF : Hid (R ++ esc t.data.toList = (R ++ escP t.data.toList) ++ [0, 0]) := by
        show _ = _
        rw [HE.out, List.append_assoc]
      generalize R ++ escP t.data.toList = S at *
      go_wp2_with (first | (at_builtin; refine wpList_append_own _ rfl _ _ 22 rfl base 5 i0 (.int .u8 0) 1 1 Try.underlying22 hi hz0 hz1 hz2 rfl (by decide) _ _ _ rfl (hown.alloc _) ⟨wr.heap.size, 0, none⟩ 2 2 [.int .u8 0, .int .u8 0] rfl rfl ?c1 ?c2 ?c3 ?c4 ?c5 ?_) | fail)
      case c1 => exact newsAt _ #[.int .u8 0, .int .u8 0] _ _ rfl
      case c2 => intro u hu; simp at hu; subst hu; rfl
      case c3 => unfold maxLen; omega
      case c4 => omega
      case c5 => simp; omega
      intro v1 w1 hown1 hg1 _
      have kb1 : Below base w w1 := (kb.alloc (by omega) _).grown hg1 (by simp; omega) (fun r hr => (hown.lt r hr).1)
      have e1 : S.length + 2 = (S ++ [0, 0]).length := by simp
      have e2 : u8s S ++ [Value.int .u8 0, Value.int .u8 0] = u8s (S ++ [0, 0]) := by rw [u8s_append]; rfl
      rw [e1, e2, ← HF.out] at hown1
      clear hg1 hown e1 e2
      go_wp2
      go_ret
      exact ⟨v1, rfl, hown1, kb1⟩
end Go.Proofs.Ytolkiofdbdjfkaa
