/- At every shown page, number and two texts the function FnExactNeedsKid returns true and leaves its arguments as they were: NeedsKid answers as its model does. No condition. -/
import Derived.Test.YtmmccjdkafojgaaLawsSh
import Derived.Test.YtmmccjdkafojgaaNeedX
import Derived.Lib.SmallJoins
namespace Go.Proofs.Ytmmccjdkafojgaa.fnExactNeedsKid
open Go.ChangeShapes Go.WideShapes Go.ChangeAt Go.RowKit Go.Joins
open Go.ChangeMaps (open_string shut_string)
set_option linter.unusedVariables false
attribute [local go_sem ↓] Go.wp_at_zero Go.wp_at_succ
theorem hide {p : Prop} (h : p) : Hid p := h
theorem unhide {p : Prop} (h : Hid p) : p := h

set_option maxRecDepth 100000 in
set_option maxHeartbeats 6400000 in
theorem walk (p : Sh) (kv vv cv : Value) (hm : ReSh p) (k : Int) (hwk : (Lit.int .i64 k).wf = true) (f : ByteArray) (hmf : f.size ≤ maxLen) (t : ByteArray) (hmt : t.size ≤ maxLen) (w : World) (hsh : ShAt w kv vv cv p) :
    Calls Try.prog 11 #[.agg #[kv, vv, cv, .int .i64 p.go], .int .i64 k, .string f, .string t] w fun e w' => e = .returned (.bool true) ∧ Below w.heap.size w w' := by
  have HS := hide hsh
  have HK : Hid (Below w.heap.size w w) := Below.refl _ _
  obtain ⟨ka, kc, rfl⟩ := strs_len hsh.1
  obtain ⟨va, vc, rfl⟩ := strs_len hsh.2.1
  obtain ⟨ca, cc, rfl⟩ := strs_len hsh.2.2
  have hmf2 := hmf
  have hmt2 := hmt
  unfold maxLen at hmf2 hmt2
  by_cases hbf : 1048576 < f.size
  · have hb1 : (1048576 : Int) < (f.size : Int) := by omega
    clear hbf hsh HS HK
    obtain ⟨G, hG⟩ : ∃ G, G = p.go := ⟨_, rfl⟩
    rw [← hG]
    clear hG
    go_enter Try.func11, Try.ntmps11
    go_wp2
    go_returns
    exact ⟨rfl, by go_grown⟩
  have hbf2 : ¬ (1048576 : Int) < (f.size : Int) := by omega
  by_cases hbt : 1048576 < t.size
  · have hb1 : (1048576 : Int) < (t.size : Int) := by omega
    clear hbf hbt hsh HS HK
    obtain ⟨G, hG⟩ : ∃ G, G = p.go := ⟨_, rfl⟩
    rw [← hG]
    clear hG
    go_enter Try.func11, Try.ntmps11
    go_wp2
    go_returns
    exact ⟨rfl, by go_grown⟩
  have hbt2 : ¬ (1048576 : Int) < (t.size : Int) := by omega
  clear hsh
  by_cases hbig : 1048576 < amount p
  · have HZ := fun W h => szShNo p (.slice ka p.keys.length kc) (.slice va p.vals.length vc) (.slice ca p.kids.length cc) 1048576 W h (by omega) hm hbig
    simp only [show ((1048576 : Nat) : Int) = 1048576 from rfl] at HZ
    obtain ⟨G, hG⟩ : ∃ G, G = p.go := ⟨_, rfl⟩
    rw [← hG] at HZ ⊢
    clear hG
    go_enter Try.func11, Try.ntmps11
    go_wp2_with fail
    refine (HZ _ ((unhide HS).below (by go_grown))).mono ?_
    rintro e w1 ⟨rfl, hx1⟩
    have hb1 : Below w.heap.size w w1 := Below.trans (by go_grown) (hx1.mono (by go_size))
    replace HS := hide ((unhide HS).below hb1)
    replace HK := hide ((unhide HK).trans (hb1.mono (unhide HK).size))
    have hfin := unhide HK
    go_wp2
    go_returns
    exact ⟨rfl, hfin⟩
  have HZ := fun W h => szShYes p (.slice ka p.keys.length kc) (.slice va p.vals.length vc) (.slice ca p.kids.length cc) 1048576 W h (by omega) hm (by omega)
  simp only [show ((1048576 : Nat) : Int) = 1048576 from rfl] at HZ
  have hs := hm.small (by omega)
  obtain ⟨A, hB⟩ := bool_of (NkA p k f t)
  obtain ⟨N, hN⟩ : ∃ N, N = (A && needB p.keys k.toNat f t) := ⟨_, rfl⟩
  have HSP := fun a b c W => specNK p k f t A N hB hN a b c W hs hmf hmt
  have HIM := fun a b c W => implNK p k f t A N hB hN a b c W hs hmf hmt
  have HTO := fun a b c W h => toSh p a b c W h hs
  have HEQ := fun a b c x y z W h g => eqSh p a b c x y z W h g hs
  obtain ⟨G, hG⟩ : ∃ G, G = p.go := ⟨_, rfl⟩
  rw [← hG] at HZ HSP HIM HTO HEQ ⊢
  have hbn : (A != A) = false := by cases A <;> rfl
  have hbn2 : (N != N) = false := by cases N <;> rfl
  clear hG hB hN hs hm hmf hmt hmf2 hmt2 hbf hbt
  generalize 1048576 - amount p = z at *
  have hz : ¬ (z : Int) < 0 := by omega
  go_enter Try.func11, Try.ntmps11
  go_wp2_with fail
  refine (HZ _ ((unhide HS).below (by go_grown))).mono ?_
  rintro e w1 ⟨rfl, hx1⟩
  have hb1 : Below w.heap.size w w1 := Below.trans (by go_grown) (hx1.mono (by go_size))
  replace HS := hide ((unhide HS).below hb1)
  replace HK := hide ((unhide HK).trans (hb1.mono (unhide HK).size))
  have qBX := boxOf1 hx1
  have BX := hide qBX
  clear qBX
  have BXz := (unhide BX).1
  have BXc0 := (unhide BX).2.1 0 _ rfl
  have BXc1 := (unhide BX).2.1 1 _ rfl
  have BXc2 := (unhide BX).2.1 2 _ rfl
  have BXc3 := (unhide BX).2.1 3 _ rfl
  go_wp2_with fail
  refine (HTO _ _ _ _ (unhide HS)).mono ?_
  rintro e w2 ⟨u1, u2, u3, rfl, hu, hx2⟩
  have hb2 : Below w1.heap.size w1 w2 := Below.trans (by go_grown) (hx2.mono (by go_size))
  replace HS := hide ((unhide HS).below hb2)
  (try clear BXz BXc0 BXc1 BXc2 BXc3)
  replace BX := hide ((unhide BX).below hb2)
  have BXz := (unhide BX).1
  have BXc0 := (unhide BX).2.1 0 _ rfl
  have BXc1 := (unhide BX).2.1 1 _ rfl
  have BXc2 := (unhide BX).2.1 2 _ rfl
  have BXc3 := (unhide BX).2.1 3 _ rfl
  replace HK := hide ((unhide HK).trans (hb2.mono (unhide HK).size))
  have HU := hide hu
  obtain ⟨_, _, rfl⟩ := strs_len hu.1
  obtain ⟨_, _, rfl⟩ := strs_len hu.2.1
  obtain ⟨_, _, rfl⟩ := strs_len hu.2.2
  clear hu hx1 hb1
  go_wp2_with fail
  refine (HSP _ _ _ _ (unhide HU)).mono ?_
  rintro e w3 ⟨rfl, hx3⟩
  have hb3 : Below w2.heap.size w2 w3 := Below.trans (by go_grown) (hx3.mono (by go_size))
  replace HS := hide ((unhide HS).below hb3)
  (try clear BXz BXc0 BXc1 BXc2 BXc3)
  replace BX := hide ((unhide BX).below hb3)
  have BXz := (unhide BX).1
  have BXc0 := (unhide BX).2.1 0 _ rfl
  have BXc1 := (unhide BX).2.1 1 _ rfl
  have BXc2 := (unhide BX).2.1 2 _ rfl
  have BXc3 := (unhide BX).2.1 3 _ rfl
  replace HK := hide ((unhide HK).trans (hb3.mono (unhide HK).size))
  clear HU hx2 hb2
  go_wp2_with fail
  refine (HTO _ _ _ _ (unhide HS)).mono ?_
  rintro e w4 ⟨x1, x2, x3, rfl, hx, hx4⟩
  have hb4 : Below w3.heap.size w3 w4 := Below.trans (by go_grown) (hx4.mono (by go_size))
  replace HS := hide ((unhide HS).below hb4)
  (try clear BXz BXc0 BXc1 BXc2 BXc3)
  replace BX := hide ((unhide BX).below hb4)
  have BXz := (unhide BX).1
  have BXc0 := (unhide BX).2.1 0 _ rfl
  have BXc1 := (unhide BX).2.1 1 _ rfl
  have BXc2 := (unhide BX).2.1 2 _ rfl
  have BXc3 := (unhide BX).2.1 3 _ rfl
  replace HK := hide ((unhide HK).trans (hb4.mono (unhide HK).size))
  have HX := hide hx
  obtain ⟨xa1, xc1, rfl⟩ := strs_len hx.1
  obtain ⟨xa2, xc2, rfl⟩ := strs_len hx.2.1
  obtain ⟨xa3, xc3, rfl⟩ := strs_len hx.2.2
  clear hx hx3 hb3
  go_wp2_with fail
  refine (HIM _ _ _ _ ((unhide HX).below (by go_grown))).mono ?_
  rintro e w5 ⟨rfl, hx5⟩
  have hb5 : Below w4.heap.size w4 w5 := Below.trans (by go_grown) (hx5.mono (by go_size))
  replace HS := hide ((unhide HS).below hb5)
  (try clear BXz BXc0 BXc1 BXc2 BXc3)
  replace BX := hide ((unhide BX).below hb5)
  have BXz := (unhide BX).1
  have BXc0 := (unhide BX).2.1 0 _ rfl
  have BXc1 := (unhide BX).2.1 1 _ rfl
  have BXc2 := (unhide BX).2.1 2 _ rfl
  have BXc3 := (unhide BX).2.1 3 _ rfl
  replace HX := hide ((unhide HX).below hb5)
  replace HK := hide ((unhide HK).trans (hb5.mono (unhide HK).size))
  have qBY := boxOf1 hx5
  have BY := hide qBY
  clear qBY
  have BYz := (unhide BY).1
  have BYc0 := (unhide BY).2.1 0 _ rfl
  have BYc1 := (unhide BY).2.1 1 _ rfl
  have BYc2 := (unhide BY).2.1 2 _ rfl
  have BYc3 := (unhide BY).2.1 3 _ rfl
  clear hx4 hb4
  clear hx5 hb5
  go_upto_region 14 with fail
  go_region_held3 (fun w' => (w'.cell? ⟨w.heap.size, 0, none⟩ = some (.slice ka p.keys.length kc) ∧ w'.cell? ⟨w.heap.size, 1, none⟩ = some (.slice va p.vals.length vc) ∧ w'.cell? ⟨w.heap.size, 2, none⟩ = some (.slice ca p.kids.length cc) ∧ w'.cell? ⟨w.heap.size, 3, none⟩ = some (.int .i64 G)) ∧ w'.cell? ⟨w4.heap.size, 0, none⟩ = some (.slice xa1 p.keys.length xc1) ∧ w'.cell? ⟨w4.heap.size, 1, none⟩ = some (.slice xa2 p.vals.length xc2) ∧ w'.cell? ⟨w4.heap.size, 2, none⟩ = some (.slice xa3 p.kids.length xc3) ∧ w'.cell? ⟨w4.heap.size, 3, none⟩ = some (.int .i64 G)) (first | go_keep | trivial)
    (first
      | (go_at_call 53; refine (HTO _ _ _ _ ((unhide HS).below (by go_grown))).mono ?_; rintro e w6 ⟨y1, y2, y3, rfl, hy, hx6⟩; have hp6 := kept hx6 w.heap.size (by go_size); have hq6 := kept hx6 w4.heap.size (by go_size); have k6 : Below w5.heap.size w5 w6 := (by exact Below.trans (by go_grown) (hx6.mono (by go_size))); have HY := hide hy; have HX3 := hide ((unhide HX).below k6); have kz6 := k6.size; clear hx6 hy)
      | (go_at_call 55; refine (HEQ _ _ _ y1 y2 y3 _ ((unhide HX3).below (by go_grown)) ((unhide HY).below (by go_grown))).mono ?_; rintro e w7 ⟨rfl, hx7⟩; have hp7 := kept hx7 w.heap.size (by omega); have hq7 := kept hx7 w4.heap.size (by omega); have k7 : Below w5.heap.size w5 w7 := (by exact Below.trans k6 (hx7.mono k6.size)); clear hx7))
  all_goals
    have hfin := (unhide HK).trans (k7.mono (unhide HK).size)
    go_wp2_with fail
    go_returns
    exact ⟨rfl, hfin⟩

theorem own : ownKnob Try.prog.godebug = none := by kernel_rfl
theorem laidOut : laidOutB Try.prog = true := by kernel_rfl
theorem cellsShown : Try.prog.cellsOf 67 = 4 := by kernel_rfl
set_option maxRecDepth 100000 in
theorem lifted (os : Os) (started : os.Started) (H : Type) (enc : TypeId × Value → H) :
    ReturnsInHanded {} Try.checked os 11 .any (Rows.fnExactNeedsKidSpec.pre6 enc Try.prog Try.f11 Rows.fnExactNeedsKidRow.domain false) (Rows.fnExactNeedsKidSpec.post enc Try.prog Try.f11 false true false false) := by
  refine returnsInHanded_of_change (C := Try.checked) own started (by kernel_rfl) Try.func11
    (ChangeSpec.witness6 (enc := enc) (C := Try.checked) false ⟨#[], #[.agg #[.slice none 0 0, .slice none 0 0, .slice none 0 0, .int .i64 0], .int .i64 0, .string ByteArray.empty, .string ByteArray.empty], []⟩ 8 (by kernel_rfl) (by kernel_rfl) (by kernel_rfl) (by kernel_rfl)) ?_
  intro W base args ds gs before hval0 hW hcnd _
  have hval : ∀ (j : Nat) t v, Try.f11.params[j]? = some t → args[j]? = some v → Value.okWide Try.prog W .any base t v := hval0
  have hW' := hW
  obtain ⟨p, q, hA0, hV, rfl, hfz, hnd⟩ := hW
  have hA : DataW.TrodAll enc Try.prog W 0 (fun _ => true) true Try.f11.params.toList args.toList ds p := hA0
  rw [Try.params11] at hA hval
  obtain ⟨v0, vs0, d0, ds0, p0, q0, hargs, rfl, rfl, h0, r0⟩ := trodAll_cons hA
  obtain ⟨v1, vs1, d1, ds1, p1, q1, rfl, rfl, rfl, h1, r1⟩ := trodAll_cons r0
  obtain ⟨v2, vs2, d2, ds2, p2, q2, rfl, rfl, rfl, h2, r2⟩ := trodAll_cons r1
  obtain ⟨v3, vs3, d3, ds3, p3, q3, rfl, rfl, rfl, h3, r3⟩ := trodAll_cons r2
  obtain ⟨rfl, rfl, rfl⟩ := trodAll_nil r3
  obtain rfl : args = #[v0, v1, v2, v3] := by cases args; simp_all
  obtain ⟨rfl, rfl⟩ := trodVars_none hV
  have kk0 := h0
  have lt0 : ∀ x ∈ p0, x.block < W.heap.size := by obtain ⟨m, hm⟩ := kk0; exact DataW.trod_lt m _ _ _ hm
  obtain ⟨c00, c01, c02, c03, y00, y01, y02, y03, m0, rfl, rfl, rfl, hy00, hy01, hy02, hy03⟩ := open_agg4 Try.underlying67 (by kernel_rfl) cellsShown (hval 0 67 v0 rfl rfl) h0
  obtain ⟨ks0, hks0, hkl0, hkm0⟩ := strs_of1 hy00
  obtain ⟨us0, hus0, hul0, hum0⟩ := strs_of1 hy01
  obtain ⟨ws0, hws0, hwl0, hwm0⟩ := strs_of1 hy02
  obtain ⟨a0, e03, x03, wa0⟩ := DataW.trod_int Try.underlying3 hy03
  simp at e03
  subst e03
  have hss0 : ShAt W c00 c01 c02 ⟨ks0, us0, ws0, a0⟩ := ⟨hks0, hus0, hws0⟩
  obtain ⟨a1, rfl, rfl, rfl, wa1⟩ := open_int Try.underlying3 (hval 1 3 v1 rfl rfl) h1
  obtain ⟨s2, rfl, rfl, rfl, hs2⟩ := open_string Try.underlying9 (hval 2 9 v2 rfl rfl) h2
  obtain ⟨s3, rfl, rfl, rfl, hs3⟩ := open_string Try.underlying9 (hval 3 9 v3 rfl rfl) h3
  clear hA0 hval0
  refine (walk ⟨ks0, us0, ws0, a0⟩ c00 c01 c02 ⟨⟨hkl0, hul0, hwl0⟩, hkm0, hum0, hwm0⟩ a1 wa1 s2 hs2 s3 hs3 W hss0).mono fun e W' ⟨he, bel⟩ => ?_
  subst he
  exact ⟨_, rfl, _, _, _, [], _, [], hW', trodAll_mk1 (shut_bool Try.underlying4 _), (trodAll_cons_mk (Below.trod laidOut (by kernel_rfl) (of_decide_eq_true (by kernel_rfl)) kk0 bel lt0) (trodAll_cons_mk (shut_int Try.underlying3 wa1) (trodAll_cons_mk (shut_string Try.underlying9 hs2) (trodAll_cons_mk (shut_string Try.underlying9 hs3) trodAll_mk0)))), rfl, bel.frame _, fun h => by cases h⟩

theorem over : Rows.fnExactNeedsKidRow.holds Try.pinned (OpenSpec.ofChange Rows.fnExactNeedsKidSpec) :=
  OpenClaim.holds_of_wide 11 Try.f11 rfl rfl rfl rfl rfl rfl rfl ⟨rfl, rfl, rfl, rfl, rfl⟩ rfl rfl rfl rfl rfl (by kernel_rfl) Try.func11 (by kernel_rfl)
    (of_decide_eq_true (by kernel_rfl)) (by unfold Func.isWrapper; first | (rw [if_pos (by decide +kernel)]; kernel_rfl) | (rw [if_neg (by decide +kernel)]; exact ⟨rfl, rfl⟩))
    (fun os started H enc _ => lifted os started H enc)
end Go.Proofs.Ytmmccjdkafojgaa.fnExactNeedsKid
namespace Go.Proofs.Ytmmccjdkafojgaa
theorem fnExactNeedsKid_holds : Rows.FnExactNeedsKidSaid := fnExactNeedsKid.over
#print axioms fnExactNeedsKid_holds
end Go.Proofs.Ytmmccjdkafojgaa
