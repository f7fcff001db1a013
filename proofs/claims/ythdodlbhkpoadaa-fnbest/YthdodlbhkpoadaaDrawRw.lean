/- Contracts of the model's drawing of rows of scores. Condition: the bytes that are drawn from lie in memory. -/
import Derived.Test.YthdodlbhkpoadaaDrawHp
import Derived.Test.YthdodlbhkpoadaaPutB
import Derived.Test.YthdodlbhkpoadaaLawsSR
namespace Go.Proofs.Ythdodlbhkpoadaa
open Go.ChangeShapes Go.WideShapes Go.ChangeAt Go.RowKit Go.Deep
set_option linter.unusedVariables false
attribute [local go_sem ↓] Go.wp_at_zero Go.wp_at_succ

theorem news1 (W : World) (u : Value) (tt : TypeId) : RowsAt (W.alloc (.cells #[u] tt)) 1 (.slice (some ⟨W.heap.size, 0, none⟩) 1 1) 1 [u] := by
  refine ⟨rfl, _, 1, rfl, Nat.le_refl _, by simp, .inr ⟨W.heap.size, 0, rfl, by simp, fun j u' hj => ?_⟩⟩
  match j, hj with
  | 0, hj => simp at hj; subst hj; simp [World.cell?_alloc_new]
  | j + 1, hj => simp at hj
/-- Rows of the call's own, that are only read. -/
structure Rwo (base : Nat) (w : World) (v : Value) (R : List (List Sc)) (xs : List Value) : Prop where
  out : OwnS w base 26 v R.length xs
  inn : ∀ i, i < R.length → OwnH base w (xs.getD i default) (gR R i)
  sep : ∀ i, i < R.length → ∀ g ∈ hbl (xs.getD i default), g ∉ obl v
theorem Rwo.nil (base : Nat) (w : World) : Rwo base w (.slice none 0 0) [] [] := ⟨OwnS.nil _ _ _, fun i hi => by simp at hi, fun i hi => by simp at hi⟩
theorem Rwo.off {base : Nat} {w w' : World} {v : Value} {R : List (List Sc)} {xs : List Value} {S : List Nat} (h : Rwo base w v R xs) (hb : Off S w w') (hd : ∀ g ∈ S, g < base) : Rwo base w' v R xs :=
  ⟨h.out.off hb (fun g hg hm => by have := (own_lt h.out g hg).1; have := hd g hm; omega), fun i hi => (h.inn i hi).off hb (fun g hg hm => by have := ((h.inn i hi).lt g hg).1; have := hd g hm; omega), h.sep⟩
theorem Rwo.below {base : Nat} {w w' : World} {v : Value} {R : List (List Sc)} {xs : List Value} (h : Rwo base w v R xs) (hb : Below w.heap.size w w') : Rwo base w' v R xs := h.off (Off.of (S := []) hb) (by simp)
theorem Rwo.rd {base : Nat} {w : World} {v : Value} {R : List (List Sc)} {xs : List Value} (h : Rwo base w v R xs) : RdR w v R := by
  obtain ⟨h1, ao, c, rfl, h3, h4, h5⟩ := rows_of_ownS h.out
  rcases h5 with h5 | ⟨b, off, rfl, hl, hc⟩
  · have : R = [] := List.eq_nil_of_length_eq_zero h5
    subst this
    exact .inl ⟨_, _, rfl, rfl⟩
  · refine .inr ⟨b, off, c, rfl, hl, fun i hi => ⟨xs.getD i default, hc i _ ?_, (h.inn i hi).rd⟩⟩
    have : i < xs.length := by omega
    simp [List.getD, this]
/-- One more row behind them. W: the world ahead of the new row's drawing. -/
theorem Rwo.snoc {base : Nat} {W w1 w2 : World} {v v' : Value} {R : List (List Sc)} {xs : List Value} {x : Value} {r : List Sc} (h : Rwo base W v R xs) (h1 : Rwo base w1 v R xs) (hx : OwnH W.heap.size w1 x r) (hB : base ≤ W.heap.size)
    (ho : OwnS w2 base 26 v' (R.length + 1) (xs ++ [x])) (hO : Off (obl v) w1 w2) (hn : ∀ g ∈ obl v', g ∈ obl v ∨ w1.heap.size ≤ g) : Rwo base w2 v' (R ++ [r]) (xs ++ [x]) := by
  have hl : xs.length = R.length := by have := (rows_of_ownS h.out).1; omega
  have gx : ∀ i, i < R.length → (xs ++ [x]).getD i default = xs.getD i default := fun i hi => by simp [List.getD, List.getElem?_append_left (show i < xs.length by omega)]
  have gx2 : (xs ++ [x]).getD R.length default = x := by rw [← hl]; simp [List.getD]
  have g1 : ∀ i, i < R.length → gR (R ++ [r]) i = gR R i := fun i hi => by simp [gR, List.getD, List.getElem?_append_left hi]
  have g2 : gR (R ++ [r]) R.length = r := by simp [gR, List.getD]
  refine ⟨by simpa using ho, fun i hi => ?_, fun i hi g hg => ?_⟩
  · by_cases e : i < R.length
    · rw [gx i e, g1 i e]; exact (h1.inn i e).off hO (h1.sep i e)
    · have : i = R.length := by simp at hi; omega
      subst this
      rw [gx2, g2]
      exact (hx.mono hB).off hO (fun g hg hm => by have := (hx.lt g hg).1; have := (own_lt h.out g hm).2; omega)
  · intro hm
    by_cases e : i < R.length
    · rw [gx i e] at hg
      rcases hn g hm with h5 | h5
      · exact h.sep i e g hg h5
      · have := ((h1.inn i e).lt g hg).2; omega
    · have : i = R.length := by simp at hi; omega
      subst this
      rw [gx2] at hg
      rcases hn g hm with h5 | h5
      · have := (hx.lt g hg).1; have := (own_lt h.out g h5).2; omega
      · have := (hx.lt g hg).2; omega
theorem put_lenR (l : List Sc) (x : Sc) : (putS l x).length ≤ l.length + 1 := by
  unfold putS
  split
  · omega
  · rw [ins_len]; have := posS_le x l; omega
set_option maxHeartbeats 6400000 in
set_option maxRecDepth 100000 in
theorem rowIn (g : Nat) (v : Value) (n m : Nat) (w : World) (hc : CurAt w g v m) (hb : BytesAt w g v n) (hm : m ≤ 1000000 - 400) :
    Calls Try.prog 65 #[.pointer (some ⟨g, 0, none⟩)] w fun e w' => ∃ (x : Value) (l : List Sc), e = .returned x ∧ OwnH w.heap.size w' x l ∧ l.length ≤ 42 ∧ Drawn w w' g v n (m + 300) := by
  have hgl := hc.lt
  have HB := hid hb
  have HD0 : Hid (Drawn w w g v n m) := ⟨hc, hb, World.grownBy.refl _ _⟩
  clear hc hb
  go_enter Try.func65, Try.ntmps65
  go_wp2_with fail
  refine (pickIn g v n m 8 w HD0.out.1 HD0.out.2.1 (by omega) (by omega) (by omega)).mono ?_
  rintro e w1 ⟨x0, rfl, hx0, hx1, hd1⟩
  have HD1 := hid hd1
  clear hd1 HD0
  go_wp2_with fail
  refine (oneIn g v n (m + 2) 20 w1 HD1.out.1 HD1.out.2.1 (by omega) (by omega) (by omega)).mono ?_
  rintro e w2 ⟨o, rfl, hd2⟩
  have HD2 := hid (HD1.out.trans hd2)
  clear hd2 HD1
  cases o
  case' false =>
    obtain ⟨z0, hz0⟩ : ∃ z, z = x0 := ⟨_, rfl⟩
    rw [← hz0] at hx0 hx1 ⊢
    have hzz : z0 ≤ 21 := by omega
    have HD3 := hid (HD2.out.mono8 (m' := m + 6) (by omega))
    clear HD2 hz0 hx1
    generalize w2 = w3 at *
  case' true =>
    go_wp2_with fail
    refine (pickIn g v n (m + 4) 2 w2 HD2.out.1 HD2.out.2.1 (by omega) (by omega) (by omega)).mono ?_
    rintro e w3 ⟨y0, rfl, hy0, hy1, hd3⟩
    have HD3 := hid (HD2.out.trans hd3)
    clear hd3 HD2 hx0 hx1
    obtain ⟨z0, hz0⟩ : ∃ z, z = 20 + y0 := ⟨_, rfl⟩
    have hzw : IntKind.i64.wrap (20 + y0) = z0 := by rw [IntKind.wrap_i64]; omega
    have hx0 : 0 ≤ z0 := by omega
    have hzz : z0 ≤ 21 := by omega
    clear hz0 hy0 hy1
  all_goals
    go_wp2
    go_loopw [3, 4] (fun hv nn wr => ∃ (c : Nat) (z : Int) (L : List Sc) (a k : _), nn = .int .i64 z ∧ 0 ≤ z ∧ z + c ≤ 21 ∧ hv = .slice a L.length k ∧ L.length ≤ 2 * c ∧ Hid (OwnH w.heap.size wr (.slice a L.length k) L) ∧ Hid (Drawn w wr g v n (m + 6 + 12 * c))) (fun _ nn _ => (intOf nn).toNat)
    case atStart => exact ⟨0, _, [], none, 0, by first | rfl | (simp only [hzw]; rfl), by omega, by omega, rfl, by simp, OwnH.nil _ _, HD3.out⟩
    case round =>
      obtain ⟨c, z, L, a, k, rfl, hza, hzb, rfl, hLc, HL, HD⟩ := hrel
      clear HD3
      by_cases hlt : 0 < z
      · go_wp2_with fail
        refine (pickIn g v n (m + 6 + 12 * c) 9 wr HD.out.1 HD.out.2.1 (by omega) (by omega) (by omega)).mono ?_
        rintro e w4 ⟨d, rfl, hd0, hd1, hd4⟩
        have HD4 := hid (HD.out.trans hd4)
        have HL4 := hid (own_drawnH hd4 HL.out hgl)
        clear hd4 HD HL
        go_wp2_with fail
        refine (pickIn g v n (m + 6 + 12 * c + 2) 30 w4 HD4.out.1 HD4.out.2.1 (by omega) (by omega) (by omega)).mono ?_
        rintro e w5 ⟨y, rfl, hy0, hy1, hd5⟩
        have HD5 := hid (HD4.out.trans hd5)
        have HL5 := hid (own_drawnH hd5 HL4.out hgl)
        clear hd5 HD4 HL4
        have hyw : IntKind.i64.wrap (1 + y) = 1 + y := by rw [IntKind.wrap_i64]; omega
        have hws := HD5.out.2.2.size
        have HPU := specPut w.heap.size (.slice a L.length k) L (d, 1 + y) w5 HL5.out hws (by omega)
        have hpl := put_lenR L (d, 1 + y)
        generalize putS L (d, 1 + y) = A at *
        clear HL5
        go_wp2_with fail
        refine HPU.mono ?_
        rintro e w7 ⟨qa, qc, rfl, ho, hbk⟩
        have HD7 := hid (HD5.out.below hbk)
        have HA7 := hid ho
        clear ho hbk HD5 HPU
        go_wp2_with fail
        refine (oneIn g v n (m + 6 + 12 * c + 2 + 2) 8 w7 HD7.out.1 HD7.out.2.1 (by omega) (by omega) (by omega)).mono ?_
        rintro e w8 ⟨o, rfl, hd8⟩
        have HD8 := hid (HD7.out.trans hd8)
        have HA8 := hid (own_drawnH hd8 HA7.out hgl)
        clear hd8 HD7 HA7
        cases o
        · go_wp2
          refine ⟨?_, by simp [intOf]; omega⟩
          exact ⟨c + 1, z - 1, A, _, _, by first | rfl | go_num, by omega, by omega, rfl, by omega, HA8.out, HD8.out.mono8 (by omega)⟩
        · go_wp2_with fail
          refine (pickIn g v n (m + 6 + 12 * c + 2 + 2 + 2) 60 w8 HD8.out.1 HD8.out.2.1 (by omega) (by omega) (by omega)).mono ?_
          rintro e w9 ⟨d2, rfl, he0, he1, hd9⟩
          have HD9 := hid (HD8.out.trans hd9)
          have HA9 := hid (own_drawnH hd9 HA8.out hgl)
          clear hd9 HD8 HA8
          go_wp2_with fail
          refine (pickIn g v n (m + 6 + 12 * c + 2 + 2 + 2 + 2) 9 w9 HD9.out.1 HD9.out.2.1 (by omega) (by omega) (by omega)).mono ?_
          rintro e w10 ⟨y2, rfl, hf0, hf1, hd10⟩
          have HD10 := hid (HD9.out.trans hd10)
          have HA10 := hid (own_drawnH hd10 HA9.out hgl)
          clear hd10 HD9 HA9
          have hyw2 : IntKind.i64.wrap (1 + y2) = 1 + y2 := by rw [IntKind.wrap_i64]; omega
          have hdw2 : IntKind.i64.wrap (10 + d2) = 10 + d2 := by rw [IntKind.wrap_i64]; omega
          have hws := HD10.out.2.2.size
          have HPU := specPut w.heap.size _ A (10 + d2, 1 + y2) w10 HA10.out hws (by omega)
          have hpl2 := put_lenR A (10 + d2, 1 + y2)
          generalize putS A (10 + d2, 1 + y2) = A2 at *
          clear HA10
          go_wp2_with fail
          refine HPU.mono ?_
          rintro e w11 ⟨qa2, qc2, rfl, ho, hbk⟩
          have HD11 : Hid (Drawn w w11 g v n (m + 6 + 12 * (c + 1))) := (HD10.out.below hbk).mono8 (by omega)
          have HA11 := hid ho
          clear ho hbk HD10 HPU
          go_wp2
          refine ⟨?_, by simp [intOf]; omega⟩
          exact ⟨c + 1, z - 1, A2, _, _, by first | rfl | go_num, by omega, by omega, rfl, by omega, HA11.out, HD11.out⟩
      · have hL42 : L.length ≤ 42 := by omega
        have HD8 : Hid (Drawn w wr g v n (m + 260)) := HD.out.mono8 (by omega)
        clear HD hza hzb hLc
        by_cases h1 : 0 < L.length
        · have h1i : (0 : Int) < (L.length : Int) := by omega
          go_wp2_with fail
          refine (oneIn g v n (m + 260) 30 wr HD8.out.1 HD8.out.2.1 (by omega) (by omega) (by omega)).mono ?_
          rintro e w7 ⟨o7, rfl, hd7⟩
          have HD9 := hid (HD8.out.trans hd7)
          have HL9 := hid (own_drawnH hd7 HL.out hgl)
          clear hd7 HD8 HL
          cases o7
          · go_wp2
            go_returns
            first | exact ⟨_, L, rfl, HL9.out, hL42, HD9.out.mono8 (by omega)⟩ | exact ⟨_, rfl, L, HL9.out, hL42, HD9.out.mono8 (by omega)⟩
          · have HD9a := hid (HD9.out.below (al_ w7 (.cells #[.int .i64 0, .int .i64 1000, .int .i64 1001] 3)))
            have HL9a := hid (HL9.out.below (al_ w7 (.cells #[.int .i64 0, .int .i64 1000, .int .i64 1001] 3)))
            have hg7 : g < w7.heap.size := Nat.lt_of_lt_of_le hgl HD9.out.2.2.size
            clear HD9 HL9
            go_wp2_with fail
            refine (amongIn g v n (m + 262) [0, 1000, 1001] w7.heap.size 3 _ HD9a.out.1 HD9a.out.2.1 (by omega) (by simp) (by simp) (by omega) (by intro i hi; match i, hi with | 0, _ => simp [World.cell?_alloc_new] | 1, _ => simp [World.cell?_alloc_new] | 2, _ => simp [World.cell?_alloc_new])).mono ?_
            rintro e w8 ⟨p8, rfl, hp8, hd8⟩
            have HD10 := hid (HD9a.out.trans hd8)
            have HL10 := hid (own_drawnH hd8 HL9a.out hgl)
            clear hd8 HD9a HL9a hp8 hg7
            obtain ⟨gr, cap, hre, hgr, hgr2⟩ := HL10.out.lies h1
            cases hre
            have c1 := HL10.out.c1 h1
            have fz := HL10.out.fz (0 * 2 + 1)
            have HF := hid (HL10.out.put1 0 p8 h1)
            have HDF := hid (Drawn.offN HB.out hgl HD10.out (off1 w8 gr (0 * 2 + 1) (.int .i64 p8)) (fun k hk => by simp at hk; omega))
            have HLN : Hid ((L.set 0 ((gd L 0).1, p8)).length ≤ 42) := by show _ ≤ _; rw [List.length_set]; exact hL42
            generalize L.set 0 ((gd L 0).1, p8) = L2 at *
            generalize (gd L 0).2 = u at *
            simp only [Nat.zero_mul, Nat.zero_add] at c1 fz HF HDF
            clear HL10 HD10
            go_wp2
            go_returns
            first | exact ⟨_, _, rfl, HF.out, HLN.out, HDF.out.mono8 (by omega)⟩ | exact ⟨_, rfl, _, HF.out, HLN.out, HDF.out.mono8 (by omega)⟩
        · have h1i : ¬ (0 : Int) < (L.length : Int) := by omega
          go_wp2
          go_returns
          first | exact ⟨_, L, rfl, HL.out, hL42, HD8.out.mono8 (by omega)⟩ | exact ⟨_, rfl, L, HL.out, hL42, HD8.out.mono8 (by omega)⟩
end Go.Proofs.Ythdodlbhkpoadaa
