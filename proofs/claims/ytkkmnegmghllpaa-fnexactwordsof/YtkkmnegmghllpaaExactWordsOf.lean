/- At every argument the function FnExactWordsOf returns true: WordsOf answers as its model does, and its answer owns its memory. No condition. -/
import Derived.Test.YtkkmnegmghllpaaSpecWO2
namespace Go.Proofs.Ytkkmnegmghllpaa.fnExactWordsOf
open Go.ChangeShapes Go.WideShapes Go.ChangeAt Go.RowKit Go.Deep
open Go.ChangeMaps (open_string shut_string)
set_option linter.unusedVariables false
attribute [local go_sem ↓] Go.wp_at_zero Go.wp_at_succ

set_option maxHeartbeats 6400000 in
theorem walk (s : ByteArray) (hms : s.size ≤ maxLen) (w : World) :
    Calls Try.prog 5 #[.string s] w fun e w' => e = .returned (.bool true) ∧ Below w.heap.size w w' := by
  have hms2 := hms
  unfold maxLen at hms2
  by_cases hbigs : 1048576 < s.size
  · have hb1 : (1048576 : Int) < (s.size : Int) := by omega
    go_enter Try.func5, Try.ntmps5
    go_wp2
    go_returns
    exact ⟨rfl, by go_grown⟩
  have hbs : ¬ (1048576 : Int) < (s.size : Int) := by omega
  have hla : (docA s).length ≤ 20 := by
    unfold docA docB
    split
    · rename_i h; simp at h; exact h.2
    · simp
  have HSP0 := fun W => specWordsOf s (by omega) W
  have HIM0 := fun W => implWords s hms W
  have HSP : ∀ W, Calls Try.prog 27 #[.string s] W fun e w' => ∃ v, e = .returned (.tuple #[v, .bool (docB s)]) ∧ OwnA W.heap.size w' v (docA s).length (strsF (docA s)) ∧ Below W.heap.size W w' := fun W => (HSP0 W).mono fun e w' ⟨v, h1, h2, h3⟩ => ⟨v, h1, (OwnA.ofStrs h2).1, h3⟩
  have HIM : ∀ W, Calls Try.prog 24 #[.string s] W fun e w' => ∃ v, e = .returned (.tuple #[v, .bool (docB s)]) ∧ OwnA W.heap.size w' v (docA s).length (strsF (docA s)) ∧ Below W.heap.size W w' := fun W => (HIM0 W).mono fun e w' ⟨v, h1, h2, h3⟩ => ⟨v, h1, (OwnA.ofStrs h2).1, h3⟩
  clear HSP0 HIM0
  generalize docA s = A at *
  generalize docB s = B at *
  have hbn : (B != B) = false := by cases B <;> rfl
  have HEQ := fun x y W h g => eqStr x y A W h g (by omega)
  obtain ⟨N, hN⟩ : ∃ N : Nat, N = 1 + A.length := ⟨_, rfl⟩
  have HMG := fun b x W (h : OwnA b W x A.length (strsF A)) => markStrE b 1 A.length x _ W h (by omega) (by omega) (fun i _ => ⟨_, rfl⟩)
  have HHG := fun b x W (h : OwnA b W x A.length (fun i => .string (mkG (1 + i)))) => heldStrE b 1 A.length x W h (by omega) (by omega)
  simp only [show ((1 : Nat) : Int) = 1 from rfl] at HMG HHG
  rw [← hN] at HMG HHG
  have hN0 : ¬ (N : Int) < 0 := by omega
  have hNN : ((N : Int) != (N : Int)) = false := by simp
  clear hN
  go_enter Try.func5, Try.ntmps5
  go_wp2_with fail
  refine (HSP _).mono ?_
  rintro e w1 ⟨v0, rfl, ho0, hb1⟩
  have HO0 := hid ho0
  have hl1 := hb1.size
  obtain ⟨va, vc, hve⟩ := ho0.slice
  subst hve
  clear ho0
  go_wp2_with fail
  refine (HIM _).mono ?_
  rintro e w2 ⟨v1, rfl, ho1, hb2⟩
  have k2 := hb1.trans (hb2.mono hl1)
  have hl2 := hb2.size
  have HO1 := hid ho1
  have HO2 := hid (HO0.out.below hb2)
  obtain ⟨vb, vd, hve⟩ := ho1.slice
  subst hve
  have HO0' := HO0
  clear ho1 HO0
  have HD : Hid (∀ g ∈ ablk (.slice va A.length vc), g ∉ ablk (.slice vb A.length vd)) := fun g hg hm => by
    have h1 := (HO1.out.lt g hm).1
    have h2 := (HO0'.out.lt g hg).2
    omega
  have HG : Hid (∀ g ∈ ablk (.slice vb A.length vd), w.heap.size ≤ g) := fun g hg => by
    have h1 := (HO1.out.lt g hg).1
    omega
  clear HO0'
  go_wp2_with fail
  refine (HEQ _ _ _ HO1.out.strs HO2.out.strs).mono ?_
  rintro e w3 ⟨rfl, hb3⟩
  have k3 := k2.trans (hb3.mono k2.size)
  have hl3 := hb3.size
  replace HO1 := hid (HO1.out.below hb3)
  replace HO2 := hid (HO2.out.below hb3)
  go_wp2_with fail
  refine (HMG _ _ _ HO1.out).mono ?_
  rintro e w4 ⟨rfl, ho4, hg4⟩
  replace HO2 := hid (HO2.out.off hg4 HD.out)
  have k4 : Below w.heap.size w w4 := k3.trans (hg4.below k3.size HG.out)
  have HO4 := hid ho4
  have hl4 := hg4.size
  clear ho4 hg4 HO1
  go_wp2_with fail
  refine (HHG _ _ _ HO4.out).mono ?_
  rintro e w5 ⟨rfl, hb5⟩
  have k5 := k4.trans (hb5.mono k4.size)
  have hl5 := hb5.size
  replace HO4 := hid (HO4.out.below hb5)
  replace HO2 := hid (HO2.out.below hb5)
  go_wp2_with fail
  refine (HIM _).mono ?_
  rintro e w6 ⟨v6, rfl, ho6, hb6⟩
  have k6 := k5.trans (hb6.mono k5.size)
  have hl6 := hb6.size
  replace HO4 := hid (HO4.out.below hb6)
  replace HO2 := hid (HO2.out.below hb6)
  have HO6 := hid ho6
  obtain ⟨v7, v8, hve⟩ := ho6.slice
  subst hve
  clear ho6
  go_wp2_with fail
  refine (HEQ _ _ _ HO6.out.strs HO2.out.strs).mono ?_
  rintro e w7 ⟨rfl, hb7⟩
  have k7 := k6.trans (hb7.mono k6.size)
  have hl7 := hb7.size
  replace HO4 := hid (HO4.out.below hb7)
  go_wp2_with fail
  refine (HHG _ _ _ HO4.out).mono ?_
  rintro e w8 ⟨rfl, hb8⟩
  have k8 := k7.trans (hb8.mono k7.size)
  go_wp2_with fail
  go_returns
  exact ⟨rfl, k8⟩
theorem own : ownKnob Try.prog.godebug = none := by kernel_rfl
theorem laidOut : laidOutB Try.prog = true := by kernel_rfl
set_option maxRecDepth 100000 in
theorem lifted (os : Os) (started : os.Started) (H : Type) (enc : TypeId × Value → H) :
    ReturnsInHanded {} Try.checked os 5 .any (Rows.fnExactWordsOfSpec.pre6 enc Try.prog Try.f5 Rows.fnExactWordsOfRow.domain false) (Rows.fnExactWordsOfSpec.post enc Try.prog Try.f5 false true false false) := by
  refine returnsInHanded_of_change (C := Try.checked) own started (by kernel_rfl) Try.func5
    (ChangeSpec.witness6 (enc := enc) (C := Try.checked) false ⟨#[], #[.string ByteArray.empty], []⟩ 8 (by kernel_rfl) (by kernel_rfl) (by kernel_rfl) (by kernel_rfl)) ?_
  intro W base args ds gs before hval0 hW hcnd _
  have hval : ∀ (j : Nat) t v, Try.f5.params[j]? = some t → args[j]? = some v → Value.okWide Try.prog W .any base t v := hval0
  have hW' := hW
  obtain ⟨p, q, hA0, hV, rfl, hfz, hnd⟩ := hW
  have hA : DataW.TrodAll enc Try.prog W 0 (fun _ => true) true Try.f5.params.toList args.toList ds p := hA0
  rw [Try.params5] at hA hval
  obtain ⟨v0, vs0, d0, ds0, p0, q0, hargs, rfl, rfl, h0, r0⟩ := trodAll_cons hA
  obtain ⟨rfl, rfl, rfl⟩ := trodAll_nil r0
  obtain rfl : args = #[v0] := by cases args; simp_all
  obtain ⟨rfl, rfl⟩ := trodVars_none hV
  obtain ⟨s0, rfl, rfl, rfl, hs0⟩ := open_string Try.underlying9 (hval 0 9 v0 rfl rfl) h0
  clear hA0 hval0
  refine (walk s0 hs0 W).mono fun e W' ⟨he, bel⟩ => ?_
  subst he
  exact ⟨_, rfl, _, _, _, [], _, [], hW', trodAll_mk1 (shut_bool Try.underlying4 _), (trodAll_cons_mk (shut_string Try.underlying9 hs0) trodAll_mk0), rfl, bel.frame _, fun h => by cases h⟩

theorem over : Rows.fnExactWordsOfRow.holds Try.pinned (OpenSpec.ofChange Rows.fnExactWordsOfSpec) :=
  OpenClaim.holds_of_wide 5 Try.f5 rfl rfl rfl rfl rfl rfl rfl ⟨rfl, rfl, rfl, rfl, rfl⟩ rfl rfl rfl rfl rfl (by kernel_rfl) Try.func5 (by kernel_rfl)
    (of_decide_eq_true (by kernel_rfl)) (by unfold Func.isWrapper; first | (rw [if_pos (by decide +kernel)]; kernel_rfl) | (rw [if_neg (by decide +kernel)]; exact ⟨rfl, rfl⟩))
    (fun os started H enc _ => lifted os started H enc)
end Go.Proofs.Ytkkmnegmghllpaa.fnExactWordsOf
namespace Go.Proofs.Ytkkmnegmghllpaa
theorem fnExactWordsOf_holds : Rows.FnExactWordsOfSaid := fnExactWordsOf.over
#print axioms fnExactWordsOf_holds
end Go.Proofs.Ytkkmnegmghllpaa
