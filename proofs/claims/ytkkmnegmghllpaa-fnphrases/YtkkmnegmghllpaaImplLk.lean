/- Contracts of the program's lookUp, PostsOf and CountOf. Condition: the documents lie in memory. -/
import Derived.Test.YtkkmnegmghllpaaImplIx
import Derived.Test.YtkkmnegmghllpaaSpecPo
namespace Go.Proofs.Ytkkmnegmghllpaa
open Go.ChangeShapes Go.WideShapes Go.ChangeAt Go.RowKit Go.Deep Go.Maps
set_option linter.unusedVariables false
attribute [local go_sem ↓] Go.wp_at_zero Go.wp_at_succ

theorem infoWp : (Try.prog.info? 77).map (fun i => (i.zero, i.size, i.bytes)) = some (some zW, 2, 32) := by kernel_rfl
/-- The cells of what is had of words. -/
def flatW (ds : List ByteArray) (V : ByteArray → Value) : List ByteArray → List Value
  | [] => []
  | s :: l => V s :: .int .i64 ((sumL (psK ds s ds.length) : Nat) : Int) :: flatW ds V l
theorem flatW_len (ds : List ByteArray) (V : ByteArray → Value) : ∀ l, (flatW ds V l).length = l.length * 2
  | [] => rfl
  | s :: l => by simp [flatW, flatW_len ds V l]; omega
theorem flatW_snoc (ds : List ByteArray) (V : ByteArray → Value) (s : ByteArray) : ∀ l, flatW ds V (l ++ [s]) = flatW ds V l ++ [V s, .int .i64 ((sumL (psK ds s ds.length) : Nat) : Int)]
  | [] => rfl
  | t :: l => by simp [flatW, flatW_snoc ds V s l]
theorem flatW_0 (ds : List ByteArray) (V : ByteArray → Value) : ∀ (l : List ByteArray) (i : Nat), i < l.length → (flatW ds V l)[i * 2]? = some (V (l.getD i ByteArray.empty)) ∧ (flatW ds V l)[i * 2 + 1]? = some (.int .i64 ((sumL (psK ds (l.getD i ByteArray.empty) ds.length) : Nat) : Int))
  | [], i, h => by simp at h
  | s :: l, 0, _ => ⟨rfl, rfl⟩
  | s :: l, i + 1, h => by
    have := flatW_0 ds V l i (by simpa using h)
    rw [show (i + 1) * 2 = i * 2 + 1 + 1 by omega]
    simpa [flatW, List.getD] using this
theorem news2V (W : World) (a b : Value) (tt : TypeId) : RowsAt (W.alloc (.cells #[a, b] tt)) 2 (.slice (some ⟨W.heap.size, 0, none⟩) 1 1) 1 [a, b] := by
  refine ⟨rfl, _, 1, rfl, Nat.le_refl _, by simp, .inr ⟨W.heap.size, 0, rfl, by simp, fun j u' hj => ?_⟩⟩
  match j, hj with
  | 0, hj => simp at hj; subst hj; simp [World.cell?_alloc_new]
  | 1, hj => simp at hj; subst hj; simp [World.cell?_alloc_new]
  | j + 2, hj => simp at hj
/-- What lookUp answers. -/
def LkPost (ds ws : List ByteArray) (base : Nat) (e : Ending) (w' : World) : Prop :=
  (docsB ds = true ∧ ws.all wdB = true ∧ ∃ (lv : Value) (V : ByteArray → Value) (F : ByteArray → List Value), e = .returned (.tuple #[lv, .bool true]) ∧ RowsAt w' 2 lv ws.length (flatW ds V ws) ∧ ∀ s, GrP base w' (V s) (psK ds s ds.length) (F s)) ∨
  ((docsB ds && ws.all wdB) = false ∧ e = .returned (.tuple #[.slice none 0 0, .bool false]))
set_option maxHeartbeats 12800000 in
set_option maxRecDepth 100000 in
theorem implLook (x y : Value) (ds ws : List ByteArray) (w : World) (hx : StrsAt w x ds) (hy : StrsAt w y ws) (hl : ds.length ≤ 1048576) (hs : ∀ s ∈ ds, s.size ≤ 1048576) (hwl : ws.length ≤ 1000) (hws : ∀ s ∈ ws, s.size ≤ 1048576) :
    Calls Try.prog 54 #[x, y] w fun e w' => LkPost ds ws w.heap.size e w' ∧ Below w.heap.size w w' := by
  obtain ⟨i0, hi, hzz⟩ := Option.map_eq_some_iff.1 infoWp
  simp only [Prod.mk.injEq] at hzz
  obtain ⟨hz0, hz1, hz2⟩ := hzz
  have HX := hid hx
  have HY := hid hy
  have HWS := hid hws
  have HIX := fun W h => implIndex9 x ds W h hl hs
  obtain ⟨xa, xc, hxe⟩ := hx.slice
  subst hxe
  obtain ⟨ya, yc, hye⟩ := hy.slice
  subst hye
  clear hx hy hs hws
  go_enter Try.func54, Try.ntmps54
  go_wp2_with fail
  refine (HIX _ HX.out).mono ?_
  rintro e w1 ⟨hcs, hb1⟩
  have kl1 := hb1.size
  rcases hcs with ⟨hd, mb, n, rfl, hn, hI⟩ | ⟨hd, rfl⟩
  · have HD := hid hd
    obtain ⟨D, V, F, hF⟩ := hI
    have HF := hid hF
    clear hd hF HIX
    go_wp2_with fail
    go_loopw [8, 20] (fun o i wr => ∃ k : Nat, k ≤ ws.length ∧ i = .int .i64 k ∧ Hid (∀ i, i < k → wdB (ws.getD i ByteArray.empty) = true) ∧ Hid (wr.ownsRow w1.heap.size 77 2 o k (flatW ds V (ws.take k))) ∧ Below w1.heap.size w1 wr) (fun _ i _ => ws.length - (intOf i).toNat)
    case atStart => exact ⟨0, Nat.zero_le _, rfl, fun i hi => by omega, World.ownsRow_nil _ _ _ _, Below.refl _ _⟩
    case round =>
      obtain ⟨k, hk, rfl, hall, hO, kb⟩ := hrel
      have kl := kb.size
      have kw : Below w.heap.size w wr := hb1.trans (kb.mono kl1)
      obtain ⟨oa, oc, hoe⟩ := (rows_of_own hO.out).slice
      subst hoe
      by_cases hlt : k < ws.length
      · obtain ⟨g, off, cap, hve, hgl, hc⟩ := (HY.out.below kw).cellS hlt
        cases hve
        have hki : (k : Int) < (ws.length : Int) := by omega
        have hk0 : (0 : Int) ≤ (k : Int) := by omega
        have hss := HWS.out _ (getD_mem ws k hlt)
        have HWD := fun W => implWord (ws.getD k ByteArray.empty) hss W
        have HNO : Hid (wdB (ws.getD k ByteArray.empty) = false → (docsB ds && ws.all wdB) = false) := fun h => by
          have : ws.all wdB = false := by
            rw [List.all_eq_false]
            exact ⟨_, getD_mem ws k hlt, by rw [h]; simp⟩
          rw [this, Bool.and_false]
        have HYS : Hid (wdB (ws.getD k ByteArray.empty) = true → ∀ i, i < k + 1 → wdB (ws.getD i ByteArray.empty) = true) := fun h i hi => by
          by_cases e : i = k
          · rw [e]; exact h
          · exact hall.out i (by omega)
        have HTK : Hid (flatW ds V (ws.take (k + 1)) = flatW ds V (ws.take k) ++ [V (ws.getD k ByteArray.empty), .int .i64 ((sumL (psK ds (ws.getD k ByteArray.empty) ds.length) : Nat) : Int)]) := by
          show _ = _
          rw [take_snocS ws k hlt, flatW_snoc]
        clear hall
        generalize ws.getD k ByteArray.empty = tw at *
        have hV1 : (V tw).oneCell' = true := by
          obtain ⟨a, c, e⟩ := (HF.out.grp tw).slice
          rw [e]; rfl
        generalize hFK : flatW ds V (ws.take k) = FK at *
        by_cases hwd : wdB tw = true
        · rw [hwd] at HWD
          have HA := hid (HYS.out hwd)
          have HLK : Hid (∀ W, Below w1.heap.size w1 W → (Instr.lookup 79 (.map (some mb)) (.string tw) false).run Try.prog W = .ok (.agg #[V tw, .int .i64 ((sumL (psK ds tw ds.length) : Nat) : Int)]) W) := fun W hW => (HF.out.below hW).lookup (by unfold maxLen; omega)
          clear hwd HNO HYS hFK
          go_wp2_with fail
          refine (HWD _).mono ?_
          rintro e w3 ⟨rfl, hb3⟩
          have kb3 : Below w1.heap.size w1 w3 := kb.trans (hb3.mono kl)
          have hlk := HLK.out w3 kb3
          have how : w3.ownsRow w1.heap.size 77 2 (.slice oa k oc) k FK := hO.out.kept (row := none) ⟨hb3.os, hb3.tape, hb3.output, hb3.size, fun i hi _ => hb3.block i hi⟩ (by cases oa <;> simp [Value.ownBlock])
          have kl3 := kb3.size
          clear hb3 HWD HLK hc hgl
          generalize ((sumL (psK ds tw ds.length) : Nat) : Int) = tn at *
          go_wp2_with (first | (at_builtin; refine wplOwn rfl _ _ 73 rfl w1.heap.size 77 i0 zW 2 32 Try.underlying73 hi hz0 hz1 hz2 rfl (by decide) _ _ _ rfl (how.alloc _) _ 1 [V tw, .int .i64 tn] rfl (news2V _ _ _ _) ?c1 ?c2 ?c3 ?c4 ?_) | fail)
          case c1 => intro u hu; simp at hu; rcases hu with rfl | rfl; exact hV1; rfl
          case c2 => unfold maxLen; omega
          case c3 => omega
          case c4 => first | omega | (simp; omega)
          intro x1 w4 ho1 hg1 he1
          obtain ⟨va2, vc2, hve⟩ := (rows_of_own ho1).slice
          subst hve
          have HO4 : Hid (w4.ownsRow w1.heap.size 77 2 (.slice va2 (k + 1) vc2) (k + 1) (flatW ds V (ws.take (k + 1)))) := by
            show World.ownsRow _ _ _ _ _ _ _
            rw [HTK.out]; exact ho1
          have HK4 : Below w1.heap.size w1 w4 := Below.grown (kb3.alloc kl3 _) hg1 (by simp; omega) (fun q hq => (how.lt q hq).1)
          clear ho1 hg1 he1 how hlk
          go_wp2_with fail
          refine ⟨?_, by simp [intOf]; omega⟩
          first | exact ⟨k + 1, by omega, by go_num, HA, HO4, HK4⟩ | ((repeat apply Exists.intro); exact ⟨⟨k + 1, by omega, by go_num, HA, HO4, HK4⟩, rfl⟩)
        · rw [Bool.not_eq_true] at hwd
          rw [hwd] at HWD
          have HB := hid (HNO.out hwd)
          clear hwd HNO HYS hFK
          go_wp2_with fail
          refine (HWD _).mono ?_
          rintro e w3 ⟨rfl, hb3⟩
          have kf : Below w.heap.size w w3 := kw.trans (hb3.mono kw.size)
          clear hb3 HWD
          go_wp2_with fail
          go_returns
          exact ⟨.inr ⟨HB.out, rfl⟩, kf⟩
      · have hke : k = ws.length := by omega
        subst hke
        have hki : ¬ (ws.length : Int) < (ws.length : Int) := by omega
        have hall2 : ws.all wdB = true := by
          rw [List.all_eq_true]
          intro s hs
          obtain ⟨i, hi, rfl⟩ := List.mem_iff_getElem.1 hs
          have := hall.out i hi
          simpa [List.getD, hi] using this
        have hO2 := hO.out
        rw [List.take_length] at hO2
        have HFIN : Hid (RowsAt wr 2 (.slice oa ws.length oc) ws.length (flatW ds V ws) ∧ ∀ s, GrP w.heap.size wr (V s) (psK ds s ds.length) (F s)) := ⟨rows_of_own hO2, fun s => (HF.out.below kb).grp s⟩
        have HAL := hid hall2
        clear hO hO2 hall2
        go_wp2
        go_returns
        exact ⟨.inl ⟨HD.out, HAL.out, _, V, F, rfl, HFIN.out.1, HFIN.out.2⟩, kw⟩
  · have HB : Hid ((docsB ds && ws.all wdB) = false) := by show _ = _; rw [hd]; rfl
    clear hd HIX
    go_wp2_with fail
    go_returns
    exact ⟨.inr ⟨HB.out, rfl⟩, hb1⟩
theorem all_one (s : ByteArray) : [s].all wdB = wdB s := by simp
theorem strs_one (W : World) (s : ByteArray) (tt : TypeId) : StrsAt (W.alloc (.cells #[.string s] tt)) (.slice (some ⟨W.heap.size, 0, none⟩) 1 1) [s] := by
  refine .inr ⟨W.heap.size, 0, 1, rfl, by simp, fun i hi => ?_⟩
  have : i = 0 := by simpa using hi
  subst this
  simp [World.cell?_alloc_new]
/-- The cells of the first of what is had. -/
theorem rows_two {w : World} {m : Nat} {x : Value} {news : List Value} (h : RowsAt w 2 x m news) {i : Nat} (hi : i < m) {a b : Value} (ha : news[i * 2]? = some a) (hb : news[i * 2 + 1]? = some b) :
    ∃ g off c, x = .slice (some ⟨g, off, none⟩) m c ∧ g < w.heap.size ∧ w.cell? ⟨g, off + i * 2, none⟩ = some a ∧ w.cell? ⟨g, off + i * 2 + 1, none⟩ = some b := by
  obtain ⟨h1, ao, c, rfl, h3, h4, h5⟩ := h
  rcases h5 with h5 | ⟨g, off, rfl, hl, hc⟩
  · omega
  · exact ⟨g, off, c, rfl, hl, hc _ _ ha, by rw [Nat.add_assoc]; exact hc _ _ hb⟩
set_option maxHeartbeats 6400000 in
set_option maxRecDepth 100000 in
theorem implPosts (x : Value) (ds : List ByteArray) (s : ByteArray) (w : World) (hx : StrsAt w x ds) (hl : ds.length ≤ 1048576) (hz : ∀ s ∈ ds, s.size ≤ 1048576) (hs : s.size ≤ 1048576) :
    Calls Try.prog 14 #[x, .string s] w fun e w' => (∃ v vs, e = .returned (.tuple #[v, .bool (poB ds s)]) ∧ GrP w.heap.size w' v (poA ds s) vs) ∧ Below w.heap.size w w' := by
  have HX := hid hx
  have HL := fun y W h g => implLook x y ds [s] W h g hl hz (by simp) (by simpa using hs)
  obtain ⟨xa, xc, hxe⟩ := hx.slice
  subst hxe
  clear hx hl hz
  go_enter Try.func14, Try.ntmps14
  go_wp2_with fail
  refine (HL _ _ (HX.out.below (by go_grown)) (strs_one _ _ _)).mono ?_
  rintro e w1 ⟨hcs, hb1⟩
  have k1 : Below w.heap.size w w1 := by
    refine Below.trans ?_ (hb1.mono ?_)
    · go_grown
    · go_size
  rcases hcs with ⟨hd, hw, lv, V, F, rfl, hr, hg⟩ | ⟨hd, rfl⟩
  · rw [all_one] at hw
    have hb : poB ds s = true := by unfold poB; rw [hd, hw]; rfl
    have ha : poA ds s = psK ds s ds.length := by unfold poA; rw [hb, if_pos rfl]
    have HBA := hid (And.intro hb ha)
    obtain ⟨f0, f1⟩ := flatW_0 ds V [s] 0 (by simp)
    obtain ⟨g, off, c, hve, hgl, c0, c1⟩ := rows_two hr (i := 0) (by simp) f0 f1
    subst hve
    simp only [Nat.zero_mul, Nat.add_zero, List.getD_cons_zero] at c0 c1
    have HG : Hid (GrP w.heap.size w1 (V s) (psK ds s ds.length) (F s)) := (hg s).mono (by simp)
    generalize V s = v at *
    clear hd hw hb ha hr hg f0 f1 hb1 c1
    go_wp2_with fail
    go_returns
    exact ⟨⟨_, F s, by rw [HBA.out.1]; rfl, by rw [HBA.out.2]; exact HG.out⟩, k1⟩
  · rw [all_one] at hd
    have hb : poB ds s = false := hd
    have ha : poA ds s = [] := by unfold poA; rw [hb]; rfl
    have HBA := hid (And.intro hb ha)
    clear hd hb ha hb1
    go_wp2_with fail
    go_returns
    exact ⟨⟨_, [], by rw [HBA.out.1]; rfl, by rw [HBA.out.2]; exact GrP.nil _ _⟩, k1⟩
set_option maxHeartbeats 6400000 in
set_option maxRecDepth 100000 in
theorem implCount (x : Value) (ds : List ByteArray) (s : ByteArray) (w : World) (hx : StrsAt w x ds) (hl : ds.length ≤ 1048576) (hz : ∀ s ∈ ds, s.size ≤ 1048576) (hs : s.size ≤ 1048576) :
    Calls Try.prog 16 #[x, .string s] w fun e w' => e = .returned (.tuple #[.int .i64 ((poA ds s).length : Nat), .int .i64 (sumL (poA ds s) : Nat), .bool (poB ds s)]) ∧ Below w.heap.size w w' := by
  have HX := hid hx
  have HL := fun y W h g => implLook x y ds [s] W h g hl hz (by simp) (by simpa using hs)
  obtain ⟨xa, xc, hxe⟩ := hx.slice
  subst hxe
  clear hx hl hz
  go_enter Try.func16, Try.ntmps16
  go_wp2_with fail
  refine (HL _ _ (HX.out.below (by go_grown)) (strs_one _ _ _)).mono ?_
  rintro e w1 ⟨hcs, hb1⟩
  have k1 : Below w.heap.size w w1 := by
    refine Below.trans ?_ (hb1.mono ?_)
    · go_grown
    · go_size
  rcases hcs with ⟨hd, hw, lv, V, F, rfl, hr, hg⟩ | ⟨hd, rfl⟩
  · rw [all_one] at hw
    have hb : poB ds s = true := by unfold poB; rw [hd, hw]; rfl
    have ha : poA ds s = psK ds s ds.length := by unfold poA; rw [hb, if_pos rfl]
    have HBA := hid (And.intro hb ha)
    obtain ⟨f0, f1⟩ := flatW_0 ds V [s] 0 (by simp)
    obtain ⟨g, off, c, hve, hgl, c0, c1⟩ := rows_two hr (i := 0) (by simp) f0 f1
    subst hve
    simp only [Nat.zero_mul, Nat.add_zero, List.getD_cons_zero] at c0 c1
    obtain ⟨pa, pc, hpe⟩ := (hg s).slice
    rw [hpe] at c0
    generalize psK ds s ds.length = P at *
    clear hd hw hb ha hr hg f0 f1 hb1 hpe
    go_upto_region 4 with fail
    go_region_held3 (fun w' => w'.cell? ⟨g, off, none⟩ = some (.slice pa P.length pc) ∧ w'.cell? ⟨g, off + 1, none⟩ = some (.int .i64 (sumL P : Nat))) (go_keep) (fail)
    all_goals
      go_wp2_with fail
      go_returns
      exact ⟨by rw [HBA.out.1, HBA.out.2]; rfl, by go_grown⟩
  · rw [all_one] at hd
    have hb : poB ds s = false := hd
    have ha : poA ds s = [] := by unfold poA; rw [hb]; rfl
    have HBA := hid (And.intro hb ha)
    clear hd hb ha hb1
    go_wp2_with fail
    go_returns
    exact ⟨by rw [HBA.out.1, HBA.out.2]; rfl, k1⟩
end Go.Proofs.Ytkkmnegmghllpaa
