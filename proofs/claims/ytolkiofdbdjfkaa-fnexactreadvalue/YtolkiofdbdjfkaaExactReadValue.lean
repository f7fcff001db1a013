/- At every text and place the function FnExactReadValue returns true and leaves its arguments as they were: ReadValue answers as its model does. No condition. -/
import Derived.Test.YtolkiofdbdjfkaaBothV
import Derived.Test.YtolkiofdbdjfkaaLawsV
import Derived.Lib.SmallJoins
namespace Go.Proofs.Ytolkiofdbdjfkaa.fnExactReadValue
open Go.ChangeShapes Go.WideShapes Go.ChangeAt Go.RowKit Go.Joins
open Go.ChangeMaps (open_string shut_string)
set_option linter.unusedVariables false

set_option maxHeartbeats 3200000 in
theorem walk (s : ByteArray) (hm : s.size ≤ maxLen) (a : Int) (wa : (Lit.int .i64 a).wf = true) (w : World) :
    Calls Try.prog 8 #[.string s, .int .i64 a] w fun e w' => e = .returned (.bool true) ∧ Below w.heap.size w w' := by
  have hw := bounds_i64 wa
  have hm2 := hm
  unfold maxLen at hm2
  by_cases hbig : 1048576 < s.size
  · have hb : (1048576 : Int) < (s.size : Int) := by omega
    go_enter Try.func8, Try.ntmps8
    go_wp2
    go_returns
    exact ⟨rfl, by go_grown⟩
  have hb : ¬ (1048576 : Int) < (s.size : Int) := by omega
  obtain ⟨v, E, ok, _, HS, HI⟩ := bothRV s a hm hw
  have HE := fun W => eqVal v W
  clear hm hw wa hm2 hbig
  obtain ⟨K, N, T⟩ := v
  unfold encV at *
  simp only [] at *
  go_enter Try.func8, Try.ntmps8
  go_wp2_with fail
  refine (HS _).mono ?_
  rintro e w1 ⟨rfl, hb1⟩
  have k1 := hb1
  have l1 := k1.size
  clear hb1
  go_wp2_with fail
  refine (HI _).mono ?_
  rintro e w2 ⟨rfl, hb2⟩
  have q := boxOf1 hb2
  have k2 : Below w.heap.size w w2 := (k1.alloc l1 _).trans (hb2.mono (by simp; omega))
  have l2 := k2.size
  have BX := hid q
  clear q hb2
  have c0 := BX.out.2.1 0 _ rfl
  have c1 := BX.out.2.1 1 _ rfl
  have c2 := BX.out.2.1 2 _ rfl
  have cz := BX.out.1
  have cn : w1.heap.size ≠ w2.heap.size := by omega
  have cn2 : w2.heap.size ≠ w1.heap.size := by omega
  go_wp2_with fail
  refine (HE _).mono ?_
  rintro e w3 ⟨rfl, hb3⟩
  have k3 : Below w.heap.size w w3 := (k2.alloc l2 _).trans (hb3.mono (by simp; omega))
  clear hb3 c0 c1 c2 HS HI HE
  cases ok
  all_goals
    go_wp2
    go_returns
    exact ⟨rfl, k3⟩

theorem own : ownKnob Try.prog.godebug = none := by kernel_rfl
theorem laidOut : laidOutB Try.prog = true := by kernel_rfl
set_option maxRecDepth 100000 in
theorem lifted (os : Os) (started : os.Started) (H : Type) (enc : TypeId × Value → H) :
    ReturnsInHanded {} Try.checked os 8 .any (Rows.fnExactReadValueSpec.pre6 enc Try.prog Try.f8 Rows.fnExactReadValueRow.domain false) (Rows.fnExactReadValueSpec.post enc Try.prog Try.f8 false true false false) := by
  refine returnsInHanded_of_change (C := Try.checked) own started (by kernel_rfl) Try.func8
    (ChangeSpec.witness6 (enc := enc) (C := Try.checked) false ⟨#[], #[.string ByteArray.empty, .int .i64 0], []⟩ 8 (by kernel_rfl) (by kernel_rfl) (by kernel_rfl) (by kernel_rfl)) ?_
  intro W base args ds gs before hval0 hW hcnd _
  have hval : ∀ (j : Nat) t v, Try.f8.params[j]? = some t → args[j]? = some v → Value.okWide Try.prog W .any base t v := hval0
  have hW' := hW
  obtain ⟨p, q, hA0, hV, rfl, hfz, hnd⟩ := hW
  have hA : DataW.TrodAll enc Try.prog W 0 (fun _ => true) true Try.f8.params.toList args.toList ds p := hA0
  rw [Try.params8] at hA hval
  obtain ⟨v0, vs0, d0, ds0, p0, q0, hargs, rfl, rfl, h0, r0⟩ := trodAll_cons hA
  obtain ⟨v1, vs1, d1, ds1, p1, q1, rfl, rfl, rfl, h1, r1⟩ := trodAll_cons r0
  obtain ⟨rfl, rfl, rfl⟩ := trodAll_nil r1
  obtain rfl : args = #[v0, v1] := by cases args; simp_all
  obtain ⟨rfl, rfl⟩ := trodVars_none hV
  obtain ⟨s0, rfl, rfl, rfl, hs0⟩ := open_string Try.underlying9 (hval 0 9 v0 rfl rfl) h0
  obtain ⟨a1, rfl, rfl, rfl, wa1⟩ := open_int Try.underlying3 (hval 1 3 v1 rfl rfl) h1
  clear hA0 hval0
  refine (walk s0 hs0 a1 wa1 W).mono fun e W' ⟨he, bel⟩ => ?_
  subst he
  exact ⟨_, rfl, _, _, _, [], _, [], hW', trodAll_mk1 (shut_bool Try.underlying4 _), (trodAll_cons_mk (shut_string Try.underlying9 hs0) (trodAll_cons_mk (shut_int Try.underlying3 wa1) trodAll_mk0)), rfl, bel.frame _, fun h => by cases h⟩

theorem over : Rows.fnExactReadValueRow.holds Try.pinned (OpenSpec.ofChange Rows.fnExactReadValueSpec) :=
  OpenClaim.holds_of_wide 8 Try.f8 rfl rfl rfl rfl rfl rfl rfl ⟨rfl, rfl, rfl, rfl, rfl⟩ rfl rfl rfl rfl rfl (by kernel_rfl) Try.func8 (by kernel_rfl)
    (of_decide_eq_true (by kernel_rfl)) (by unfold Func.isWrapper; first | (rw [if_pos (by decide +kernel)]; kernel_rfl) | (rw [if_neg (by decide +kernel)]; exact ⟨rfl, rfl⟩))
    (fun os started H enc _ => lifted os started H enc)
end Go.Proofs.Ytolkiofdbdjfkaa.fnExactReadValue
namespace Go.Proofs.Ytolkiofdbdjfkaa
theorem fnExactReadValue_holds : Rows.FnExactReadValueSaid := fnExactReadValue.over
#print axioms fnExactReadValue_holds
end Go.Proofs.Ytolkiofdbdjfkaa
