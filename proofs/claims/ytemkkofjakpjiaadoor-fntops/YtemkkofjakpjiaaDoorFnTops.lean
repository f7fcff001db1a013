/- At every two lists of bytes the function FnTops returns true and leaves its arguments as they were: from each leaf its way leads to the one top. The table of weights lies as the program's text lays it (the card ties that). No other condition. -/
import Derived.Test.YtemkkofjakpjiaaDoorDoor
import Derived.Test.YtemkkofjakpjiaaDoorBothS
namespace Go.Proofs.YtemkkofjakpjiaaDoor.fnTops
open Go.ChangeShapes Go.WideShapes Go.ChangeAt Go.RowKit Go.Joins
open Go.ChangeMaps (open_string shut_string)
set_option linter.unusedVariables false

set_option maxRecDepth 100000 in
set_option maxHeartbeats 12800000 in
theorem walk0 (v0 : Value) (n0 : Nat) (v1 : Value) (n1 : Nat) (w : World) (ht : Table w) (hc0 : CodeAt w v0 n0) (hc1 : CodeAt w v1 n1) (hn : n0 + n1 ≤ 1048576) :
    Calls Tryd.prog 5 #[v0, v1] w fun e w' => e = .returned (.bool true) ∧ Below w.heap.size w w' := by
  obtain ⟨ad0, c0, rfl⟩ : ∃ ad c, v0 = .slice ad n0 c := by
    obtain ⟨ad, c, e, _⟩ := hc0
    exact ⟨ad, c, e⟩
  obtain ⟨ad1, c1, rfl⟩ : ∃ ad c, v1 = .slice ad n1 c := by
    obtain ⟨ad, c, e, _⟩ := hc1
    exact ⟨ad, c, e⟩
  have hbig : ¬ (1048576 : Int) < (n0 : Int) + (n1 : Int) := by omega
  have HD := drawWay _ n0 w hc0
  have HT := hide ht
  have HC := hide hc1
  have HK : Hid (Below w.heap.size w w) := Below.refl _ _
  clear ht hc0 hc1
  go_enter Tryd.func5, Tryd.ntmps5
  go_wp2_with fail
  refine (HD).mono ?_
  rintro e w1 ⟨s, u, rfl, hs, hu, hx1⟩
  have hb1 : Below w.heap.size w w1 := Below.trans (by go_grown) (hx1.mono (by go_size))
  replace HT := hide ((unhide HT).below hb1)
  replace HC := hide ((unhide HC).below hb1)
  replace HK := hide ((unhide HK).trans (hb1.mono (unhide HK).size))
  have hsm : s.size ≤ maxLen := by unfold maxLen; omega
  clear HD
  by_cases hyes : (1 ≤ s.size ∧ s.size ≤ 8) ∧ 0 ≤ u ∧ u ≤ 7
  · obtain ⟨⟨h0, h1⟩, h2, h3⟩ := hyes
    obtain ⟨N, rfl⟩ := Int.eq_ofNat_of_zero_le h2
    have hN : N < 8 := by omega
    have hw3 := wayB_len s N
    have HWI := fun W hT => implWayYes s N W h0 h1 hN hT
    have HWS := fun W => specWayYes s N W h0 h1 hN
    have HLI := fun W hT => implLeafYes s N W h0 h1 hN hT
    have HLS := fun W => specLeafYes s N W h0 h1 hN
    have HTO := fun v W hW hT => topOwn s N v hN W hW hT
    have HTI := fun W hT => implTopYes s W h0 h1 hT
    generalize wayB s N = L5 at *
    generalize leafB s N = LF at *
    generalize topB s = TB at *
    go_wp2_with fail
    refine (HWI _ (unhide HT)).mono ?_
    rintro e w2 ⟨g2, cap2, rfl, ho2, hx2⟩
    have hb2 : Below w1.heap.size w1 w2 := Below.trans (by go_grown) (hx2.mono (by go_size))
    replace HT := hide ((unhide HT).below hb2)
    replace HC := hide ((unhide HC).below hb2)
    replace HK := hide ((unhide HK).trans (hb2.mono (unhide HK).size))
    have HS2 := hide (row3 (cap := cap2) hw3 ho2)
    clear ho2 hx1 hb1 hx2 hb2
    go_wp2_with fail
    refine (HWS _).mono ?_
    rintro e w3 ⟨g3, cap3, rfl, ho3, hx3⟩
    have hb3 : Below w2.heap.size w2 w3 := Below.trans (by go_grown) (hx3.mono (by go_size))
    replace HT := hide ((unhide HT).below hb3)
    replace HC := hide ((unhide HC).below hb3)
    replace HS2 := hide ((unhide HS2).below hb3)
    replace HK := hide ((unhide HK).trans (hb3.mono (unhide HK).size))
    have HS3 := hide (row3 (cap := cap3) hw3 ho3)
    clear ho3 hx3 hb3
    go_wp2_with fail
    refine (HLI _ (unhide HT)).mono ?_
    rintro e w4 ⟨rfl, hx4⟩
    have hb4 : Below w3.heap.size w3 w4 := Below.trans (by go_grown) (hx4.mono (by go_size))
    replace HT := hide ((unhide HT).below hb4)
    replace HC := hide ((unhide HC).below hb4)
    replace HS2 := hide ((unhide HS2).below hb4)
    replace HS3 := hide ((unhide HS3).below hb4)
    replace HK := hide ((unhide HK).trans (hb4.mono (unhide HK).size))
    clear hx4 hb4
    go_wp2_with fail
    refine (HLS _).mono ?_
    rintro e w5 ⟨rfl, hx5⟩
    have hb5 : Below w4.heap.size w4 w5 := Below.trans (by go_grown) (hx5.mono (by go_size))
    replace HT := hide ((unhide HT).below hb5)
    replace HC := hide ((unhide HC).below hb5)
    replace HS2 := hide ((unhide HS2).below hb5)
    replace HS3 := hide ((unhide HS3).below hb5)
    replace HK := hide ((unhide HK).trans (hb5.mono (unhide HK).size))
    clear hx5 hb5
    go_wp2_with fail
    refine (sameStr _ _ L5 _ (unhide HS2) (unhide HS3) (by omega)).mono ?_
    rintro e w6 ⟨rfl, hx6⟩
    have hb6 : Below w5.heap.size w5 w6 := Below.trans (by go_grown) (hx6.mono (by go_size))
    replace HT := hide ((unhide HT).below hb6)
    replace HC := hide ((unhide HC).below hb6)
    replace HS2 := hide ((unhide HS2).below hb6)
    replace HS3 := hide ((unhide HS3).below hb6)
    replace HK := hide ((unhide HK).trans (hb6.mono (unhide HK).size))
    clear hx6 hb6
    go_wp2_with fail
    refine (HTO _ _ (unhide HS2) (unhide HT)).mono ?_
    rintro e w7 ⟨rfl, hx7⟩
    have hb7 : Below w6.heap.size w6 w7 := Below.trans (by go_grown) (hx7.mono (by go_size))
    replace HT := hide ((unhide HT).below hb7)
    replace HC := hide ((unhide HC).below hb7)
    replace HK := hide ((unhide HK).trans (hb7.mono (unhide HK).size))
    clear hx7 hb7
    go_wp2_with fail
    refine (HTI _ (unhide HT)).mono ?_
    rintro e w8 ⟨rfl, hx8⟩
    have hb8 : Below w7.heap.size w7 w8 := Below.trans (by go_grown) (hx8.mono (by go_size))
    replace HT := hide ((unhide HT).below hb8)
    replace HC := hide ((unhide HC).below hb8)
    replace HK := hide ((unhide HK).trans (hb8.mono (unhide HK).size))
    clear hx8 hb8 HS2 HS3 HWI HWS HLI HLS HTO HTI
    go_wp2_with fail
    refine (drawTopFrom _ n1 _ (unhide HC)).mono ?_
    rintro e w10 ⟨m, l, v10, ss10, rfl, hm, hl, hs10, hsl10, hx10⟩
    have hb10 : Below w8.heap.size w8 w10 := Below.trans (by go_grown) (hx10.mono (by go_size))
    replace HT := hide ((unhide HT).below hb10)
    replace HC := hide ((unhide HC).below hb10)
    replace HK := hide ((unhide HK).trans (hb10.mono (unhide HK).size))
    have HS10 := hide hs10
    have hlm : l.size ≤ maxLen := by unfold maxLen; omega
    clear hs10 hx10 hb10
    obtain ⟨F, o, HFI, HFS⟩ := topFromBoth m l ss10 hlm (by omega)
    go_wp2_with fail
    refine (HFI _ _ (unhide HS10) (unhide HT)).mono ?_
    rintro e w11 ⟨rfl, hx11⟩
    have hb11 : Below w10.heap.size w10 w11 := Below.trans (by go_grown) (hx11.mono (by go_size))
    replace HT := hide ((unhide HT).below hb11)
    replace HC := hide ((unhide HC).below hb11)
    replace HS10 := hide ((unhide HS10).below hb11)
    replace HK := hide ((unhide HK).trans (hb11.mono (unhide HK).size))
    clear hx11 hb11
    go_wp2_with fail
    refine (HFS _ _ (unhide HS10)).mono ?_
    rintro e w12 ⟨rfl, hx12⟩
    have hb12 : Below w11.heap.size w11 w12 := Below.trans (by go_grown) (hx12.mono (by go_size))
    replace HT := hide ((unhide HT).below hb12)
    replace HC := hide ((unhide HC).below hb12)
    replace HK := hide ((unhide HK).trans (hb12.mono (unhide HK).size))
    clear hx12 hb12 HFI HFS HS10
    go_wp2_with fail
    refine (drawTop _ n1 _ (unhide HC)).mono ?_
    rintro e w13 ⟨q, rfl, hq, hx13⟩
    have hb13 : Below w12.heap.size w12 w13 := Below.trans (by go_grown) (hx13.mono (by go_size))
    replace HT := hide ((unhide HT).below hb13)
    replace HK := hide ((unhide HK).trans (hb13.mono (unhide HK).size))
    have hqm : q.size ≤ maxLen := by unfold maxLen; omega
    clear hx13 hb13
    obtain ⟨G, o2, HGI, HGS⟩ := topBoth q hqm
    go_wp2_with fail
    refine (HGI _ (unhide HT)).mono ?_
    rintro e w14 ⟨rfl, hx14⟩
    have hb14 : Below w13.heap.size w13 w14 := Below.trans (by go_grown) (hx14.mono (by go_size))
    replace HT := hide ((unhide HT).below hb14)
    replace HK := hide ((unhide HK).trans (hb14.mono (unhide HK).size))
    clear hx14 hb14
    go_wp2_with fail
    refine (HGS _).mono ?_
    rintro e w15 ⟨rfl, hx15⟩
    have hb15 : Below w14.heap.size w14 w15 := Below.trans (by go_grown) (hx15.mono (by go_size))
    replace HT := hide ((unhide HT).below hb15)
    replace HK := hide ((unhide HK).trans (hb15.mono (unhide HK).size))
    have hfin := unhide HK
    clear hx15 hb15 HGI HGS
    go_wp2
    go_returns
    exact ⟨rfl, hfin⟩
  · have HWI := fun W => implWayNo s u W hsm hyes
    have HWS := fun W => specWayNo s u W hsm hyes
    have HLI := fun W => implLeafNo s u W hsm hyes
    have HLS := fun W => specLeafNo s u W hsm hyes
    clear hyes
    go_wp2_with fail
    refine (HWI _).mono ?_
    rintro e w2 ⟨rfl, hx2⟩
    have hb2 : Below w1.heap.size w1 w2 := Below.trans (by go_grown) (hx2.mono (by go_size))
    replace HT := hide ((unhide HT).below hb2)
    replace HC := hide ((unhide HC).below hb2)
    replace HK := hide ((unhide HK).trans (hb2.mono (unhide HK).size))
    clear hx1 hb1 hx2 hb2
    go_wp2_with fail
    refine (HWS _).mono ?_
    rintro e w3 ⟨rfl, hx3⟩
    have hb3 : Below w2.heap.size w2 w3 := Below.trans (by go_grown) (hx3.mono (by go_size))
    replace HT := hide ((unhide HT).below hb3)
    replace HC := hide ((unhide HC).below hb3)
    replace HK := hide ((unhide HK).trans (hb3.mono (unhide HK).size))
    clear hx3 hb3
    go_wp2_with fail
    refine (HLI _).mono ?_
    rintro e w4 ⟨rfl, hw4⟩
    subst w4
    go_wp2_with fail
    refine (HLS _).mono ?_
    rintro e w5 ⟨rfl, hx5⟩
    have hb5 : Below w3.heap.size w3 w5 := Below.trans (by go_grown) (hx5.mono (by go_size))
    replace HT := hide ((unhide HT).below hb5)
    replace HC := hide ((unhide HC).below hb5)
    replace HK := hide ((unhide HK).trans (hb5.mono (unhide HK).size))
    clear hx5 hb5
    go_wp2_with fail
    refine (sameStr _ _ [] _ (.inl ⟨_, _, rfl, rfl⟩) (.inl ⟨_, _, rfl, rfl⟩) (by simp)).mono ?_
    rintro e w6 ⟨rfl, hx6⟩
    have hb6 : Below w5.heap.size w5 w6 := Below.trans (by go_grown) (hx6.mono (by go_size))
    replace HT := hide ((unhide HT).below hb6)
    replace HC := hide ((unhide HC).below hb6)
    replace HK := hide ((unhide HK).trans (hb6.mono (unhide HK).size))
    clear hx6 hb6 HWI HWS HLI HLS
    go_wp2_with fail
    refine (drawTopFrom _ n1 _ (unhide HC)).mono ?_
    rintro e w10 ⟨m, l, v10, ss10, rfl, hm, hl, hs10, hsl10, hx10⟩
    have hb10 : Below w6.heap.size w6 w10 := Below.trans (by go_grown) (hx10.mono (by go_size))
    replace HT := hide ((unhide HT).below hb10)
    replace HC := hide ((unhide HC).below hb10)
    replace HK := hide ((unhide HK).trans (hb10.mono (unhide HK).size))
    have HS10 := hide hs10
    have hlm : l.size ≤ maxLen := by unfold maxLen; omega
    clear hs10 hx10 hb10
    obtain ⟨F, o, HFI, HFS⟩ := topFromBoth m l ss10 hlm (by omega)
    go_wp2_with fail
    refine (HFI _ _ (unhide HS10) (unhide HT)).mono ?_
    rintro e w11 ⟨rfl, hx11⟩
    have hb11 : Below w10.heap.size w10 w11 := Below.trans (by go_grown) (hx11.mono (by go_size))
    replace HT := hide ((unhide HT).below hb11)
    replace HC := hide ((unhide HC).below hb11)
    replace HS10 := hide ((unhide HS10).below hb11)
    replace HK := hide ((unhide HK).trans (hb11.mono (unhide HK).size))
    clear hx11 hb11
    go_wp2_with fail
    refine (HFS _ _ (unhide HS10)).mono ?_
    rintro e w12 ⟨rfl, hx12⟩
    have hb12 : Below w11.heap.size w11 w12 := Below.trans (by go_grown) (hx12.mono (by go_size))
    replace HT := hide ((unhide HT).below hb12)
    replace HC := hide ((unhide HC).below hb12)
    replace HK := hide ((unhide HK).trans (hb12.mono (unhide HK).size))
    clear hx12 hb12 HFI HFS HS10
    go_wp2_with fail
    refine (drawTop _ n1 _ (unhide HC)).mono ?_
    rintro e w13 ⟨q, rfl, hq, hx13⟩
    have hb13 : Below w12.heap.size w12 w13 := Below.trans (by go_grown) (hx13.mono (by go_size))
    replace HT := hide ((unhide HT).below hb13)
    replace HK := hide ((unhide HK).trans (hb13.mono (unhide HK).size))
    have hqm : q.size ≤ maxLen := by unfold maxLen; omega
    clear hx13 hb13
    obtain ⟨G, o2, HGI, HGS⟩ := topBoth q hqm
    go_wp2_with fail
    refine (HGI _ (unhide HT)).mono ?_
    rintro e w14 ⟨rfl, hx14⟩
    have hb14 : Below w13.heap.size w13 w14 := Below.trans (by go_grown) (hx14.mono (by go_size))
    replace HT := hide ((unhide HT).below hb14)
    replace HK := hide ((unhide HK).trans (hb14.mono (unhide HK).size))
    clear hx14 hb14
    go_wp2_with fail
    refine (HGS _).mono ?_
    rintro e w15 ⟨rfl, hx15⟩
    have hb15 : Below w14.heap.size w14 w15 := Below.trans (by go_grown) (hx15.mono (by go_size))
    replace HT := hide ((unhide HT).below hb15)
    replace HK := hide ((unhide HK).trans (hb15.mono (unhide HK).size))
    have hfin := unhide HK
    clear hx15 hb15 HGI HGS
    go_wp2
    go_returns
    exact ⟨rfl, hfin⟩

set_option maxRecDepth 100000 in
set_option maxHeartbeats 800000 in
theorem walk (v0 : Value) (n0 : Nat) (h0 : n0 ≤ 140737488351232) (v1 : Value) (n1 : Nat) (h1 : n1 ≤ 140737488351232) (w : World) (ht : Table w) (hb0 : ByteRow w v0 n0) (hb1 : ByteRow w v1 n1) :
    Calls Tryd.prog 5 #[v0, v1] w fun e w' => e = .returned (.bool true) ∧ Below w.heap.size w w' := by
  by_cases hn : n0 + n1 ≤ 1048576
  · exact walk0 v0 n0 v1 n1 w ht (hb0.code (by omega)) (hb1.code (by omega)) hn
  · obtain ⟨ad0, c0, rfl, _⟩ := hb0
    obtain ⟨ad1, c1, rfl, _⟩ := hb1
    have hbig : (1048576 : Int) < (n0 : Int) + (n1 : Int) := by omega
    go_enter Tryd.func5, Tryd.ntmps5
    go_wp2
    go_returns
    exact ⟨rfl, by go_grown⟩

theorem own : ownKnob Tryd.prog.godebug = none := by kernel_rfl
theorem laidOut : laidOutB Tryd.prog = true := by kernel_rfl
set_option maxRecDepth 100000 in
theorem contract (H : Type) (enc : TypeId × Value → H) (W : World) (base : Nat) (args : Array Value) (ds gs : List (DataW H)) (before : List MemPlace)
    (hval : ∀ (j : Nat) t v, Tryd.f5.params[j]? = some t → args[j]? = some v → Value.okWide Tryd.prog W .any base t v)
    (hW : DataW.Whole enc Tryd.prog Tryd.f5.params.toList Rows.fnTopsSpec.vars false W args.toList ds gs before) (hL : laidMetH Tryd.prog Rows.fnTopsRow.laid W) (hsz : (DataW.weightsEach Tryd.prog (Tryd.f5.params.toList ++ (OpenSpec.ofChange Rows.fnTopsSpec).bare.plain.varTypes Tryd.prog) (ds ++ gs)).all (· ≤ reachBytes) = true) :
    Calls Tryd.prog 5 args W fun e W' => ∃ v, e = .returned v ∧ Rows.fnTopsSpec.post enc Tryd.prog Tryd.f5 false true false false W args v W' := by
  have tab := table_of hL
  have hW' := hW
  obtain ⟨p, q, hA0, hV, rfl, hfz, hnd⟩ := hW
  have hA : DataW.TrodAll enc Tryd.prog W 0 (fun _ => true) true Tryd.f5.params.toList args.toList ds p := hA0
  rw [Tryd.params5] at hA hval
  obtain ⟨v0, vs0, d0, ds0, p0, q0, hargs, rfl, rfl, h0, r0⟩ := trodAll_cons hA
  obtain ⟨v1, vs1, d1, ds1, p1, q1, rfl, rfl, rfl, h1, r1⟩ := trodAll_cons r0
  obtain ⟨rfl, rfl, rfl⟩ := trodAll_nil r1
  obtain rfl : args = #[v0, v1] := by cases args; simp_all
  obtain ⟨g, t, cs, fuel, d, pv, rfl, hg, hty, hv, htr, rfl⟩ := trodVars_one hV
  obtain rfl := Option.some.inj (gTab.symm.trans hg)
  obtain rfl := Option.some.inj (gTabType.symm.trans hty)
  have kv : DataW.Trod enc Tryd.prog W 0 (fun _ => true) true 148 (.agg cs) d pv := ⟨fuel, htr⟩
  have ltv : ∀ x ∈ pv, x.block < W.heap.size := DataW.trod_lt fuel _ _ _ htr
  obtain ⟨ad0, len0, cap0, rfl⟩ := okWide_slice Tryd.underlying22 (hval 0 22 v0 rfl rfl)
  have kk0 := h0
  have lt0 : ∀ x ∈ p0, x.block < W.heap.size := by obtain ⟨m, hm⟩ := kk0; exact DataW.trod_lt m _ _ _ hm
  obtain ⟨hbr0, hbn0⟩ := bytes_of h0 hsz (j := 0) (by rw [Tryd.params5]; rfl) rfl
  obtain ⟨ad1, len1, cap1, rfl⟩ := okWide_slice Tryd.underlying22 (hval 1 22 v1 rfl rfl)
  have kk1 := h1
  have lt1 : ∀ x ∈ p1, x.block < W.heap.size := by obtain ⟨m, hm⟩ := kk1; exact DataW.trod_lt m _ _ _ hm
  obtain ⟨hbr1, hbn1⟩ := bytes_of h1 hsz (j := 1) (by rw [Tryd.params5]; rfl) rfl
  clear hA0
  refine (walk _ len0 hbn0 _ len1 hbn1 W tab hbr0 hbr1).mono fun e W' ⟨he, bel⟩ => ?_
  subst he
  obtain ⟨f2, hf2⟩ := Below.trod laidOut (by kernel_rfl) (of_decide_eq_true (by kernel_rfl)) kv bel ltv
  exact ⟨_, rfl, _, _, _, [], _, _, hW', trodAll_mk1 (shut_bool Tryd.underlying4 _), (trodAll_cons_mk (Below.trod laidOut (by kernel_rfl) (of_decide_eq_true (by kernel_rfl)) kk0 bel lt0) (trodAll_cons_mk (Below.trod laidOut (by kernel_rfl) (of_decide_eq_true (by kernel_rfl)) kk1 bel lt1) trodAll_mk0)), ⟨0, 148, cs, f2, pv, [], gTab, gTabType, var?_below bel gTab tab.1 hv, hf2, rfl, rfl⟩, bel.frame _, fun h => by cases h⟩

theorem reads (os : Os) {H : Type} (enc : TypeId × Value → H) : ∃ places, DataW.whole enc Tryd.prog (({ World.holding Tryd.prog os ⟨#[], #[], []⟩ with heap := (World.holding Tryd.prog os ⟨#[], #[], []⟩).heap.modify 0 layTab } : World).forCall (fun _ _ => 0) ⟨#[], #[.slice none 0 0, .slice none 0 0], []⟩).memory Tryd.f5.params.toList Rows.fnTopsSpec.vars false (#[.slice none 0 0, .slice none 0 0] : Array Value).toList 16 = some ([.nil, .nil], [Rows.laid_loop_example_g00537_impl_pieceWeights], places) :=
  ⟨MemPlace.row ⟨0, 0, none⟩ 8, by kernel_rfl⟩
theorem laid_met (os : Os) : laidMet Tryd.prog Rows.fnTopsRow.laid (({ World.holding Tryd.prog os ⟨#[], #[], []⟩ with heap := (World.holding Tryd.prog os ⟨#[], #[], []⟩).heap.modify 0 layTab } : World).forCall (fun _ _ => 0) ⟨#[], #[.slice none 0 0, .slice none 0 0], []⟩).memory :=
  laidMet_of_run' 16 (by kernel_rfl) (by kernel_rfl)
set_option maxRecDepth 100000 in
theorem lifted (os : Os) (started : os.Started) (H : Type) (enc : TypeId × Value → H) (F : Stop.Interp) :
    ReturnsInHanded {} Tryd.checked os 5 .any ((OpenSpec.ofChange Rows.fnTopsSpec).preRow enc Tryd.prog Tryd.f5 Rows.fnTopsRow.domain false Rows.fnTopsRow.laid) (((OpenSpec.ofChange Rows.fnTopsSpec).at F).post enc Tryd.prog Tryd.f5 false true false false) := by
  obtain ⟨places, hx⟩ := reads os enc
  refine returnsInHanded_of_row (C := Tryd.checked) (s := OpenSpec.ofChange Rows.fnTopsSpec) own started (by kernel_rfl) Tryd.func5
    (witness_row_at (enc := enc) (C := Tryd.checked) false ({ World.holding Tryd.prog os ⟨#[], #[], []⟩ with heap := (World.holding Tryd.prog os ⟨#[], #[], []⟩).heap.modify 0 layTab } : World) #[.slice none 0 0, .slice none 0 0] rfl (by kernel_rfl) (by kernel_rfl) (by kernel_rfl)
      (OpenSpec.preRow_of_cond 16 hx (by kernel_rfl) (fun k hk => by cases hk) (by kernel_rfl) (laid_met os))) ?_
  intro W base args ds gs before hval hW _ _ hsz hL _ _
  exact contract H enc W base args ds gs before hval hW hL hsz
theorem said : Rows.FnTopsSaid :=
  OpenClaim.holds_of_cond 5 Tryd.f5 rfl rfl rfl rfl rfl rfl rfl ⟨rfl, rfl, rfl, rfl, rfl⟩ rfl rfl rfl rfl rfl (by kernel_rfl) Tryd.func5 (by kernel_rfl)
    (of_decide_eq_true (by kernel_rfl)) (by unfold Func.isWrapper; first | (rw [if_pos (by decide +kernel)]; kernel_rfl) | (rw [if_neg (by decide +kernel)]; exact ⟨rfl, rfl⟩))
    (fun os started H enc _ F => by rw [OpenClaim.pre_eq_preRow]; exact lifted os started H enc F)
theorem plain (f : FuncId) (fn : Func) (hf : Tryd.pinned.checked.prog.funcNamed Rows.fnTopsRow.func = some f) (hfn : Tryd.pinned.checked.prog.funcs[f]? = some fn) :
    false = Tryd.pinned.checked.prog.looks [] ∧ ∀ (j : Nat) t, fn.params[j]? = some t → Tryd.pinned.checked.prog.wantsStandIn t = false := by
  obtain rfl : f = 5 := Option.some.inj ((show Tryd.prog.funcNamed Rows.fnTopsRow.func = some 5 by kernel_rfl).symm.trans hf) |>.symm
  obtain rfl : fn = Tryd.f5 := (Option.some.inj (Tryd.func5.symm.trans hfn)).symm
  refine ⟨by kernel_rfl, fun j t ht => ?_⟩
  rw [Tryd.params5] at ht
  have hm : t ∈ [22, 22] := by simpa using Array.mem_of_getElem? ht
  have hall : ([22, 22].all fun u => !Tryd.prog.wantsStandIn u) = true := by kernel_rfl
  exact (show Tryd.prog.wantsStandIn t = false by simpa using List.all_eq_true.1 hall t hm)
theorem card : Rows.FnTopsCardSaid :=
  Claim7.holds_tied_plain_at .later [] _ _ _ _ said (fun _ h => by cases h) (by kernel_rfl) (fun _ h => by cases h) fnTops_row_tie rfl ⟨rfl, rfl⟩ (by kernel_rfl) rfl plain (by kernel_rfl)
end Go.Proofs.YtemkkofjakpjiaaDoor.fnTops
namespace Go.Proofs.YtemkkofjakpjiaaDoor
theorem fnTops_card_holds : Rows.FnTopsCardSaid := fnTops.card
#print axioms fnTops_card_holds
end Go.Proofs.YtemkkofjakpjiaaDoor
