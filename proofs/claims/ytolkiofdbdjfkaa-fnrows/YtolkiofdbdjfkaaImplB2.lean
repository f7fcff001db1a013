/- Contracts of the program's bytes of numbers and of fields. Condition: the bytes that are written on are the call's own. -/
import Derived.Test.YtolkiofdbdjfkaaImplB
import Derived.Test.YtolkiofdbdjfkaaImplK
import Derived.Test.YtolkiofdbdjfkaaBoxes
namespace Go.Proofs.Ytolkiofdbdjfkaa
open Go.ChangeShapes Go.WideShapes Go.ChangeAt Go.RowKit Go.Deep
set_option linter.unusedVariables false
attribute [local go_sem ↓] Go.wp_at_zero Go.wp_at_succ

set_option maxHeartbeats 3200000 in
set_option maxRecDepth 100000 in
theorem implNum1 (x : Value) (R : List UInt8) (n : Int) (base : Nat) (w : World) (h : OwnB w base x R) (hb : base ≤ w.heap.size) (hR : R.length ≤ 10000) (hn0 : 0 ≤ n) (hn1 : n ≤ 1) :
    Calls Try.prog 75 #[x, .int .i64 n, .int .i64 1] w fun e w' => ∃ y, e = .returned y ∧ OwnB w' base y (R ++ [UInt8.ofNat n.toNat]) ∧ Below base w w' := by
  obtain ⟨i0, hi, hzz⟩ := Option.map_eq_some_iff.1 info8
  simp only [Prod.mk.injEq] at hzz
  obtain ⟨hz0, hz1, hz2⟩ := hzz
  have hown : w.ownsRow base 5 1 x R.length (u8s R) := h
  clear h
  have hwu : IntKind.u8.wrap n = n := by rw [IntKind.wrap_u8]; omega
  have hof : ((UInt8.ofNat n.toNat).toNat : Int) = n := by
    rw [UInt8.toNat_ofNat', Nat.mod_eq_of_lt (by omega)]; omega
  have HV : Hid (u8s R ++ [Value.int .u8 n] = u8s (R ++ [UInt8.ofNat n.toNat])) := by show _ = _; rw [u8s_append]; simp only [u8s, List.map_cons, List.map_nil, hof]
  generalize UInt8.ofNat n.toNat = c at *
  clear hof
  go_enter Try.func75, Try.ntmps75
  go_wp2_with fail
  refine wp_loop_rounds 2 ?_
  rw [rounds_succ]
  go_wp2_with (first | (at_builtin; refine wpList_append_own _ rfl _ _ 22 rfl base 5 i0 (.int .u8 0) 1 1 Try.underlying22 hi hz0 hz1 hz2 rfl (by decide) _ _ _ rfl (hown.alloc _) ⟨w.heap.size, 0, none⟩ 1 1 [.int .u8 n] rfl rfl ?c1 ?c2 ?c3 ?c4 ?c5 ?_) | fail)
  case c1 => exact newsAt _ #[.int .u8 n] _ _ rfl
  case c2 => intro u hu; simp at hu; subst hu; rfl
  case c3 => unfold maxLen; omega
  case c4 => omega
  case c5 => simp; omega
  intro v1 w1 hown1 hg1 _
  have kb1 : Below base w w1 := ((Below.refl base w).alloc hb _).grown hg1 (by simp; omega) (fun r hr => (hown.lt r hr).1)
  rw [HV.out, show R.length + 1 = (R ++ [c]).length from by simp] at hown1
  clear hg1 hown
  go_wp2
  rw [rounds_succ]
  go_wp2
  go_ret
  exact ⟨v1, rfl, hown1, kb1⟩
set_option maxHeartbeats 6400000 in
set_option maxRecDepth 100000 in
theorem implNum4 (x : Value) (R : List UInt8) (m : Nat) (base : Nat) (w : World) (h : OwnB w base x R) (hb : base ≤ w.heap.size) (hR : R.length ≤ 10000) (hm : m ≤ 2000000000) :
    Calls Try.prog 75 #[x, .int .i64 (m : Int), .int .i64 4] w fun e w' => ∃ y, e = .returned y ∧ OwnB w' base y (R ++ be4 m) ∧ Below base w w' := by
  obtain ⟨i0, hi, hzz⟩ := Option.map_eq_some_iff.1 info8
  simp only [Prod.mk.injEq] at hzz
  obtain ⟨hz0, hz1, hz2⟩ := hzz
  have hown : w.ownsRow base 5 1 x R.length (u8s R) := h
  clear h
  have HV : Hid (u8s R ++ [Value.int .u8 ((m : Int) / 16777216), .int .u8 ((m : Int) / 65536 % 256), .int .u8 ((m : Int) / 256 % 256), .int .u8 ((m : Int) % 256)] = u8s (R ++ be4 m)) := by show _ = _; rw [u8s_append, be4_u8 m hm]
  have HL : Hid ((R ++ be4 m).length = R.length + 1 + 1 + 1 + 1) := by show _ = _; simp [be4]
  go_enter Try.func75, Try.ntmps75
  go_wp2_with fail
  refine wp_loop_rounds 5 ?_
  rw [rounds_succ]
  go_wp2_with (first | (at_builtin; refine wpList_append_own _ rfl _ _ 22 rfl base 5 i0 (.int .u8 0) 1 1 Try.underlying22 hi hz0 hz1 hz2 rfl (by decide) _ _ _ rfl (hown.alloc _) ⟨w.heap.size, 0, none⟩ 1 1 [.int .u8 ((m : Int) / 16777216)] rfl rfl ?c01 ?c02 ?c03 ?c04 ?c05 ?_) | fail)
  case c01 => exact newsAt _ #[.int .u8 ((m : Int) / 16777216)] _ _ rfl
  case c02 => intro u hu; simp at hu; subst hu; rfl
  case c03 => unfold maxLen; omega
  case c04 => omega
  case c05 => simp; omega
  intro v1 w1 hown1 hg1 _
  have kb1 : Below base w w1 := ((Below.refl base w).alloc hb _).grown hg1 (by simp; omega) (fun r hr => (hown.lt r hr).1)
  have kl1 := kb1.size
  clear hg1 hown
  go_wp2
  rw [rounds_succ]
  go_wp2_with (first | (at_builtin; refine wpList_append_own _ rfl _ _ 22 rfl base 5 i0 (.int .u8 0) 1 1 Try.underlying22 hi hz0 hz1 hz2 rfl (by decide) _ _ _ rfl (hown1.alloc _) ⟨w1.heap.size, 0, none⟩ 1 1 [.int .u8 ((m : Int) / 65536 % 256)] rfl rfl ?c11 ?c12 ?c13 ?c14 ?c15 ?_) | fail)
  case c11 => exact newsAt _ #[.int .u8 ((m : Int) / 65536 % 256)] _ _ rfl
  case c12 => intro u hu; simp at hu; subst hu; rfl
  case c13 => unfold maxLen; omega
  case c14 => omega
  case c15 => simp; omega
  intro v2 w2 hown2 hg2 _
  have kb2 : Below base w w2 := (kb1.alloc (by omega) _).grown hg2 (by simp; omega) (fun r hr => (hown1.lt r hr).1)
  have kl2 := kb2.size
  clear hg2 hown1
  go_wp2
  rw [rounds_succ]
  go_wp2_with (first | (at_builtin; refine wpList_append_own _ rfl _ _ 22 rfl base 5 i0 (.int .u8 0) 1 1 Try.underlying22 hi hz0 hz1 hz2 rfl (by decide) _ _ _ rfl (hown2.alloc _) ⟨w2.heap.size, 0, none⟩ 1 1 [.int .u8 ((m : Int) / 256 % 256)] rfl rfl ?c21 ?c22 ?c23 ?c24 ?c25 ?_) | fail)
  case c21 => exact newsAt _ #[.int .u8 ((m : Int) / 256 % 256)] _ _ rfl
  case c22 => intro u hu; simp at hu; subst hu; rfl
  case c23 => unfold maxLen; omega
  case c24 => omega
  case c25 => simp; omega
  intro v3 w3 hown3 hg3 _
  have kb3 : Below base w w3 := (kb2.alloc (by omega) _).grown hg3 (by simp; omega) (fun r hr => (hown2.lt r hr).1)
  have kl3 := kb3.size
  clear hg3 hown2
  go_wp2
  rw [rounds_succ]
  go_wp2_with (first | (at_builtin; refine wpList_append_own _ rfl _ _ 22 rfl base 5 i0 (.int .u8 0) 1 1 Try.underlying22 hi hz0 hz1 hz2 rfl (by decide) _ _ _ rfl (hown3.alloc _) ⟨w3.heap.size, 0, none⟩ 1 1 [.int .u8 ((m : Int) % 256)] rfl rfl ?c31 ?c32 ?c33 ?c34 ?c35 ?_) | fail)
  case c31 => exact newsAt _ #[.int .u8 ((m : Int) % 256)] _ _ rfl
  case c32 => intro u hu; simp at hu; subst hu; rfl
  case c33 => unfold maxLen; omega
  case c34 => omega
  case c35 => simp; omega
  intro v4 w4 hown4 hg4 _
  have kb4 : Below base w w4 := (kb3.alloc (by omega) _).grown hg4 (by simp; omega) (fun r hr => (hown3.lt r hr).1)
  have kl4 := kb4.size
  clear hg4 hown3
  go_wp2
  rw [rounds_succ]
  go_wp2
  go_ret
  refine ⟨v4, rfl, ?_, kb4⟩
  unfold OwnB
  rw [← HV.out, HL.out]
  simpa [List.append_assoc] using hown4
set_option maxHeartbeats 6400000 in
set_option maxRecDepth 100000 in
theorem implFB (x : Value) (R : List UInt8) (v : VV) (base : Nat) (w : World) (h : OwnB w base x R) (hb : base ≤ w.heap.size) (hR : R.length ≤ 9000) (hg : GoodV v) :
    Calls Try.prog 64 #[x, fld v] w fun e w' => ∃ y, e = .returned y ∧ OwnB w' base y (R ++ bytesL v) ∧ Below base w w' := by
  obtain ⟨i0, hi, hzz⟩ := Option.map_eq_some_iff.1 info8
  simp only [Prod.mk.injEq] at hzz
  obtain ⟨hz0, hz1, hz2⟩ := hzz
  obtain ⟨k, n, t⟩ := v
  unfold GoodV at hg
  simp only [] at hg
  rcases hg with ⟨rfl, rfl, rfl⟩ | ⟨rfl, h2, rfl⟩ | ⟨rfl, h2, rfl⟩ | ⟨rfl, rfl, h3⟩
  · rw [fld_1, bytesL_1 rfl]
    (try simp only [])
    have f2 := as12 
    have f3 := as13 
    have f4 := as14 
    have HV : Hid (u8s R ++ [Value.int .u8 1] = u8s (R ++ [1])) := by show _ = _; rw [u8s_append]; rfl
    go_enter Try.func64, Try.ntmps64
    go_wp2_with fail
    refine (kind1 _).mono ?_
    rintro e w0 ⟨rfl, hb0⟩
    have kl0 := hb0.size
    have hown : w0.ownsRow base 5 1 x R.length (u8s R) := h.below hb0
    have kb0 : Below base w w0 := hb0.mono hb
    clear h hb0
    go_wp2_with (first | (at_builtin; refine wpList_append_own _ rfl _ _ 22 rfl base 5 i0 (.int .u8 0) 1 1 Try.underlying22 hi hz0 hz1 hz2 rfl (by decide) _ _ _ rfl (hown.alloc _) ⟨w0.heap.size, 0, none⟩ 1 1 [.int .u8 1] rfl rfl ?c1 ?c2 ?c3 ?c4 ?c5 ?_) | fail)
    case c1 => exact newsAt _ #[.int .u8 1] _ _ rfl
    case c2 => intro u hu; simp at hu; subst hu; rfl
    case c3 => unfold maxLen; omega
    case c4 => omega
    case c5 => simp; omega
    intro v1 w1 hown1 hg1 _
    have kb1 : Below base w w1 := (kb0.alloc (by omega) _).grown hg1 (by simp; omega) (fun r hr => (hown.lt r hr).1)
    have kl1 := kb1.size
    rw [HV.out, show R.length + 1 = (R ++ [1]).length from by simp] at hown1
    have hRl : (R ++ [1]).length ≤ 10000 := by simp; omega
    clear hg1 hown
    go_wp2
    go_ret
    exact ⟨v1, rfl, hown1, kb1⟩
  · rw [fld_2, bytesL_2 rfl]
    (try simp only [])
    have f2 := as22 n 
    have HV : Hid (u8s R ++ [Value.int .u8 2] = u8s (R ++ [2])) := by show _ = _; rw [u8s_append]; rfl
    go_enter Try.func64, Try.ntmps64
    go_wp2_with fail
    refine (kind2 n _).mono ?_
    rintro e w0 ⟨rfl, hw0⟩
    subst w0
    have hown : w.ownsRow base 5 1 x R.length (u8s R) := h
    have kb0 : Below base w w := Below.refl _ _
    clear h
    go_wp2_with (first | (at_builtin; refine wpList_append_own _ rfl _ _ 22 rfl base 5 i0 (.int .u8 0) 1 1 Try.underlying22 hi hz0 hz1 hz2 rfl (by decide) _ _ _ rfl (hown.alloc _) ⟨w.heap.size, 0, none⟩ 1 1 [.int .u8 2] rfl rfl ?c1 ?c2 ?c3 ?c4 ?c5 ?_) | fail)
    case c1 => exact newsAt _ #[.int .u8 2] _ _ rfl
    case c2 => intro u hu; simp at hu; subst hu; rfl
    case c3 => unfold maxLen; omega
    case c4 => omega
    case c5 => simp; omega
    intro v1 w1 hown1 hg1 _
    have kb1 : Below base w w1 := (kb0.alloc (by omega) _).grown hg1 (by simp; omega) (fun r hr => (hown.lt r hr).1)
    have kl1 := kb1.size
    rw [HV.out, show R.length + 1 = (R ++ [2]).length from by simp] at hown1
    have hRl : (R ++ [2]).length ≤ 10000 := by simp; omega
    clear hg1 hown
    have HN := implNum1 v1 (R ++ [2]) n base w1 hown1 (by omega) hRl h2.1 h2.2
    have kk1 := hid kb1
    clear hown1
    go_wp2_with fail
    refine HN.mono ?_
    rintro e w2 ⟨y, rfl, hy, hb2⟩
    have kb2 : Below base w w2 := kk1.out.trans hb2
    rw [List.append_assoc] at hy
    clear hb2 HN
    go_wp2
    go_ret
    exact ⟨y, rfl, hy, kb2⟩
  · rw [fld_3, bytesL_3 rfl]
    (try simp only [])
    have f2 := as32 n 
    have f3 := as33 n 
    obtain ⟨m, hm⟩ : ∃ m : Nat, n + 1000000000 = (m : Int) := ⟨(n + 1000000000).toNat, by omega⟩
    have hm2 : m ≤ 2000000000 := by omega
    have hmt : (n + 1000000000).toNat = m := by omega
    rw [hmt]
    clear hmt
    have HV : Hid (u8s R ++ [Value.int .u8 3] = u8s (R ++ [3])) := by show _ = _; rw [u8s_append]; rfl
    go_enter Try.func64, Try.ntmps64
    go_wp2_with fail
    refine (kind3 n _).mono ?_
    rintro e w0 ⟨rfl, hw0⟩
    subst w0
    have hown : w.ownsRow base 5 1 x R.length (u8s R) := h
    have kb0 : Below base w w := Below.refl _ _
    clear h
    go_wp2_with (first | (at_builtin; refine wpList_append_own _ rfl _ _ 22 rfl base 5 i0 (.int .u8 0) 1 1 Try.underlying22 hi hz0 hz1 hz2 rfl (by decide) _ _ _ rfl (hown.alloc _) ⟨w.heap.size, 0, none⟩ 1 1 [.int .u8 3] rfl rfl ?c1 ?c2 ?c3 ?c4 ?c5 ?_) | fail)
    case c1 => exact newsAt _ #[.int .u8 3] _ _ rfl
    case c2 => intro u hu; simp at hu; subst hu; rfl
    case c3 => unfold maxLen; omega
    case c4 => omega
    case c5 => simp; omega
    intro v1 w1 hown1 hg1 _
    have kb1 : Below base w w1 := (kb0.alloc (by omega) _).grown hg1 (by simp; omega) (fun r hr => (hown.lt r hr).1)
    have kl1 := kb1.size
    rw [HV.out, show R.length + 1 = (R ++ [3]).length from by simp] at hown1
    have hRl : (R ++ [3]).length ≤ 10000 := by simp; omega
    clear hg1 hown
    have HN := implNum4 v1 (R ++ [3]) m base w1 hown1 (by omega) hRl hm2
    have kk1 := hid kb1
    clear hown1
    go_wp2_with fail
    refine HN.mono ?_
    rintro e w2 ⟨y, rfl, hy, hb2⟩
    have kb2 : Below base w w2 := kk1.out.trans hb2
    rw [List.append_assoc] at hy
    clear hb2 HN
    go_wp2
    go_ret
    exact ⟨y, rfl, hy, kb2⟩
  · rw [fld_4, bytesL_4 rfl]
    (try simp only [])
    have f2 := as42 t 
    have f3 := as43 t 
    have f4 := as44 t 
    have HV : Hid (u8s R ++ [Value.int .u8 4] = u8s (R ++ [4])) := by show _ = _; rw [u8s_append]; rfl
    go_enter Try.func64, Try.ntmps64
    go_wp2_with fail
    refine (kind4 t _).mono ?_
    rintro e w0 ⟨rfl, hw0⟩
    subst w0
    have hown : w.ownsRow base 5 1 x R.length (u8s R) := h
    have kb0 : Below base w w := Below.refl _ _
    clear h
    go_wp2_with (first | (at_builtin; refine wpList_append_own _ rfl _ _ 22 rfl base 5 i0 (.int .u8 0) 1 1 Try.underlying22 hi hz0 hz1 hz2 rfl (by decide) _ _ _ rfl (hown.alloc _) ⟨w.heap.size, 0, none⟩ 1 1 [.int .u8 4] rfl rfl ?c1 ?c2 ?c3 ?c4 ?c5 ?_) | fail)
    case c1 => exact newsAt _ #[.int .u8 4] _ _ rfl
    case c2 => intro u hu; simp at hu; subst hu; rfl
    case c3 => unfold maxLen; omega
    case c4 => omega
    case c5 => simp; omega
    intro v1 w1 hown1 hg1 _
    have kb1 : Below base w w1 := (kb0.alloc (by omega) _).grown hg1 (by simp; omega) (fun r hr => (hown.lt r hr).1)
    have kl1 := kb1.size
    rw [HV.out, show R.length + 1 = (R ++ [4]).length from by simp] at hown1
    have hRl : (R ++ [4]).length ≤ 10000 := by simp; omega
    clear hg1 hown
    have HN := implText v1 (R ++ [4]) t base w1 hown1 (by omega) hRl h3
    have kk1 := hid kb1
    clear hown1
    go_wp2_with fail
    refine HN.mono ?_
    rintro e w2 ⟨y, rfl, hy, hb2⟩
    have kb2 : Below base w w2 := kk1.out.trans hb2
    rw [List.append_assoc] at hy
    clear hb2 HN
    go_wp2
    go_ret
    exact ⟨y, rfl, hy, kb2⟩
end Go.Proofs.Ytolkiofdbdjfkaa
