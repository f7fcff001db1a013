/- Contracts of the model's drawing of heaps of scores. Condition: the bytes that are drawn from lie in memory. -/
import Derived.Test.YthdodlbhkpoadaaBytesV
import Derived.Test.YthdodlbhkpoadaaPopS
namespace Go.Proofs.Ythdodlbhkpoadaa
open Go.ChangeShapes Go.WideShapes Go.ChangeAt Go.RowKit Go.Deep
set_option linter.unusedVariables false
attribute [local go_sem ↓] Go.wp_at_zero Go.wp_at_succ

theorem CurAt.keep {w w' : World} {g : Nat} {v : Value} {m : Nat} (h : CurAt w g v m) (hb : w'.heap[g]? = w.heap[g]?) : CurAt w' g v m := by
  obtain ⟨a, s, h1, h2, h3, h4, h5, h6, h7, h8, h9, h10⟩ := h
  exact ⟨a, s, h1, h2, by simp only [World.cell?, hb]; exact h3, by simp only [World.cell?, hb]; exact h4, by simp only [World.cell?, hb]; exact h5, h6, h7, by simp only [World.frozen?, hb]; exact h8, by simp only [World.frozen?, hb]; exact h9, by simp only [World.frozen?, hb]; exact h10⟩
theorem Drawn.offN {w w1 w2 : World} {g : Nat} {v : Value} {n m : Nat} {S : List Nat} (hb : BytesAt w g v n) (hg : g < w.heap.size) (h : Drawn w w1 g v n m) (hO : Off S w1 w2) (hS : ∀ k ∈ S, w.heap.size ≤ k) : Drawn w w2 g v n m := by
  have h2 : w.grownBy w2 (some g) := ⟨hO.os.trans h.2.2.os, hO.tape.trans h.2.2.tape, hO.output.trans h.2.2.output, Nat.le_trans h.2.2.size hO.size, fun k hk hne => (hO.block k (Nat.lt_of_lt_of_le hk h.2.2.size) (fun hm => by have := hS k hm; omega)).trans (h.2.2.block k hk hne)⟩
  exact ⟨h.1.keep (hO.block g (Nat.lt_of_lt_of_le hg h.2.2.size) (fun hm => by have := hS g hm; omega)), hb.kept h2, h2⟩
theorem Drawn.mono8 {w w1 : World} {g : Nat} {v : Value} {n m m' : Nat} (h : Drawn w w1 g v n m) (hm : m ≤ m') : Drawn w w1 g v n m' := ⟨h.1.mono hm, h.2⟩
theorem drawn_off {w w1 : World} {g : Nat} {v : Value} {n m : Nat} (h : Drawn w w1 g v n m) : Off [g] w w1 := ⟨h.2.2.os, h.2.2.tape, h.2.2.output, h.2.2.size, fun k hk hn => h.2.2.block k hk (fun e => by cases e; exact hn (by simp))⟩
theorem own_drawnH {w w1 : World} {g base : Nat} {v : Value} {n m : Nat} (h : Drawn w w1 g v n m) {x : Value} {l : List Sc} (ho : OwnH base w x l) (hg : g < base) : OwnH base w1 x l :=
  ho.off (drawn_off h) (fun k hk hm => by have := (ho.lt k hk).1; simp at hm; omega)
theorem flS_set1 (l : List Sc) (k : Nat) (u : Int) (hk : k < l.length) : (flS l).set (k * 2 + 1) (.int .i64 u) = flS (l.set k ((gd l k).1, u)) := by
  rw [← flS_set]
  congr 1
  show flS l = (flS l).set (k * 2) (.int .i64 (gd l k).1)
  apply List.ext_getElem?
  intro i
  rw [List.getElem?_set]
  split
  · rename_i h
    subst h
    rw [if_pos (by rw [flS_len]; omega), flS_0 l k hk]
  · rfl
theorem OwnH.put1 {base : Nat} {w : World} {g n cap : Nat} {l : List Sc} (h : OwnH base w (.slice (some ⟨g, 0, none⟩) n cap) l) (k : Nat) (u : Int) (hk : k < l.length) : OwnH base (w.setCell ⟨g, k * 2 + 1, none⟩ (.int .i64 u)) (.slice (some ⟨g, 0, none⟩) n cap) (l.set k ((gd l k).1, u)) := by
  have hn : n = l.length := by obtain ⟨a, c, he⟩ := h.slice; cases he; rfl
  subst hn
  have h1 := (World.ownsRow.stored h (k * 2 + 1) (.int .i64 u)).1
  rw [flS_set1 l k u hk] at h1
  unfold OwnH
  rw [List.length_set]
  exact h1
set_option maxHeartbeats 6400000 in
set_option maxRecDepth 100000 in
theorem heapIn (g : Nat) (v : Value) (n m : Nat) (w : World) (hc : CurAt w g v m) (hb : BytesAt w g v n) (hm : m ≤ 1000000 - 400) :
    Calls Try.prog 70 #[.pointer (some ⟨g, 0, none⟩)] w fun e w' => ∃ (x : Value) (l : List Sc), e = .returned x ∧ OwnH w.heap.size w' x l ∧ l.length ≤ 61 ∧ Drawn w w' g v n (m + 300) := by
  have hgl := hc.lt
  have HB := hid hb
  have HD0 : Hid (Drawn w w g v n m) := ⟨hc, hb, World.grownBy.refl _ _⟩
  clear hc hb
  go_enter Try.func70, Try.ntmps70
  go_wp2_with fail
  refine (pickIn g v n m 9 w HD0.out.1 HD0.out.2.1 (by omega) (by omega) (by omega)).mono ?_
  rintro e w1 ⟨x0, rfl, hx0, hx1, hd1⟩
  have HD1 := hid hd1
  clear hd1 HD0
  go_wp2_with fail
  refine (oneIn g v n (m + 2) 20 w1 HD1.out.1 HD1.out.2.1 (by omega) (by omega) (by omega)).mono ?_
  rintro e w2 ⟨o, rfl, hd2⟩
  have HD2 := hid (HD1.out.trans hd2)
  clear hd2 HD1
  cases o
  case' false =>
    obtain ⟨z0, hz0⟩ : ∃ z, z = x0 := ⟨_, rfl⟩
    rw [← hz0] at hx0 hx1 ⊢
    have hzz : z0 ≤ 61 := by omega
    have HD3 := hid (HD2.out.mono8 (m' := m + 6) (by omega))
    clear HD2 hz0 hx1
    generalize w2 = w3 at *
  case' true =>
    go_wp2_with fail
    refine (pickIn g v n (m + 4) 2 w2 HD2.out.1 HD2.out.2.1 (by omega) (by omega) (by omega)).mono ?_
    rintro e w3 ⟨y0, rfl, hy0, hy1, hd3⟩
    have HD3 := hid (HD2.out.trans hd3)
    clear hd3 HD2 hx0 hx1
    obtain ⟨z0, hz0⟩ : ∃ z, z = 60 + y0 := ⟨_, rfl⟩
    have hzw : IntKind.i64.wrap (60 + y0) = z0 := by rw [IntKind.wrap_i64]; omega
    have hx0 : 0 ≤ z0 := by omega
    have hzz : z0 ≤ 61 := by omega
    clear hz0 hy0 hy1
  all_goals
    go_wp2
    go_loopw [3, 4] (fun hv nn wr => ∃ (c : Nat) (z : Int) (L : List Sc) (a k : _), nn = .int .i64 z ∧ 0 ≤ z ∧ z + c ≤ 61 ∧ hv = .slice a L.length k ∧ L.length ≤ c ∧ Hid (OwnH w.heap.size wr (.slice a L.length k) L) ∧ Hid (Drawn w wr g v n (m + 6 + 4 * c))) (fun _ nn _ => (intOf nn).toNat)
    case atStart => exact ⟨0, _, [], none, 0, by first | rfl | (simp only [hzw]; rfl), by omega, by omega, rfl, by simp, OwnH.nil _ _, HD3.out⟩
    case round =>
      obtain ⟨c, z, L, a, k, rfl, hza, hzb, rfl, hLc, HL, HD⟩ := hrel
      clear HD3
      by_cases hlt : 0 < z
      · go_wp2_with fail
        refine (pickIn g v n (m + 6 + 4 * c) 20 wr HD.out.1 HD.out.2.1 (by omega) (by omega) (by omega)).mono ?_
        rintro e w4 ⟨d, rfl, hd0, hd1, hd4⟩
        have HD4 := hid (HD.out.trans hd4)
        have HL4 := hid (own_drawnH hd4 HL.out hgl)
        clear hd4 HD HL
        go_wp2_with fail
        refine (pickIn g v n (m + 6 + 4 * c + 2) 30 w4 HD4.out.1 HD4.out.2.1 (by omega) (by omega) (by omega)).mono ?_
        rintro e w5 ⟨y, rfl, hy0, hy1, hd5⟩
        have HD5 := hid (HD4.out.trans hd5)
        have HL5 := hid (own_drawnH hd5 HL4.out hgl)
        clear hd5 HD4 HL4
        have ka := al_ w5 (.cells #[.int .i64 d, .int .i64 y] 33)
        have HD6 := hid (HD5.out.below ka)
        have HL6 := hid (HL5.out.below ka)
        obtain ⟨B, hB⟩ := bool_of (PushOk L (d, y))
        have hws := HD6.out.2.2.size
        have HPU := specHPush (.slice a L.length k) L (d, y) B hB _ HL6.out.rd (by omega)
        have hpl : (pushAns B L (d, y)).length ≤ L.length + 1 := by
          unfold pushAns
          split
          · rw [push_len]; omega
          · simp
        generalize pushAns B L (d, y) = A at *
        clear HD5 HL5 hB ka
        go_wp2_with fail
        refine HPU.mono ?_
        rintro e w7 ⟨qa, qc, rfl, ho, hbk⟩
        have HD7 : Hid (Drawn w w7 g v n (m + 6 + 4 * (c + 1))) := (HD6.out.below hbk).mono8 (by omega)
        have HL7 := hid (HL6.out.below hbk)
        have HA7 := hid (ho.mono hws)
        clear ho hbk HD6 HL6 HPU
        have hzw2 : IntKind.i64.wrap (z - 1) = z - 1 := by rw [IntKind.wrap_i64]; omega
        cases B
        · go_wp2
          refine ⟨?_, by simp [intOf]; omega⟩
          exact ⟨c + 1, z - 1, L, a, k, by first | rfl | go_num, by omega, by omega, rfl, by omega, HL7.out, HD7.out⟩
        · go_wp2
          refine ⟨?_, by simp [intOf]; omega⟩
          exact ⟨c + 1, z - 1, A, _, _, by first | rfl | go_num, by omega, by omega, rfl, by omega, HA7.out, HD7.out⟩
      · have hL61 : L.length ≤ 61 := by omega
        have HD8 : Hid (Drawn w wr g v n (m + 260)) := HD.out.mono8 (by omega)
        clear HD hza hzb hLc
        by_cases h1 : 1 < L.length
        · have h1i : (1 : Int) < (L.length : Int) := by omega
          go_wp2_with fail
          refine (oneIn g v n (m + 260) 20 wr HD8.out.1 HD8.out.2.1 (by omega) (by omega) (by omega)).mono ?_
          rintro e w7 ⟨o7, rfl, hd7⟩
          have HD9 := hid (HD8.out.trans hd7)
          have HL9 := hid (own_drawnH hd7 HL.out hgl)
          clear hd7 HD8 HL
          cases o7
          · go_wp2
            go_returns
            first | exact ⟨_, L, rfl, HL9.out, hL61, HD9.out.mono8 (by omega)⟩ | exact ⟨_, rfl, L, HL9.out, hL61, HD9.out.mono8 (by omega)⟩
          · obtain ⟨gr, cap, hre, hgr, hgr2⟩ := HL9.out.lies (by omega)
            cases hre
            obtain ⟨j, hj⟩ : ∃ j, j = L.length - 1 := ⟨_, rfl⟩
            have hji : (L.length : Int) - 1 = (j : Int) := by omega
            have hjl : (j : Int) < (L.length : Int) := by omega
            have hj0 : (0 : Int) ≤ (j : Int) := by omega
            have hjn : j < L.length := by omega
            have hjw : IntKind.i64.wrap (j : Int) = (j : Int) := by rw [IntKind.wrap_i64]; omega
            have c1 := HL9.out.c1 hjn
            have fz := HL9.out.fz (j * 2 + 1)
            obtain ⟨u, hu⟩ : ∃ u, u = (gd L j).2 := ⟨_, rfl⟩
            rw [← hu] at c1
            have HF := hid fun q => HL9.out.put1 j q hjn
            have HDF := hid fun q => Drawn.offN HB.out hgl HD9.out (off1 w7 gr (j * 2 + 1) (.int .i64 q)) (fun k hk => by simp at hk; omega)
            have HLN : Hid (∀ q, (L.set j q).length = L.length) := fun q => List.length_set
            clear hj hu HL9 HD9
            go_wp2
            go_returns
            first | exact ⟨_, _, rfl, HF.out _, by rw [HLN.out]; exact hL61, (HDF.out _).mono8 (by omega)⟩ | exact ⟨_, rfl, _, HF.out _, by rw [HLN.out]; exact hL61, (HDF.out _).mono8 (by omega)⟩
        · have h1i : ¬ (1 : Int) < (L.length : Int) := by omega
          go_wp2
          go_returns
          first | exact ⟨_, L, rfl, HL.out, hL61, HD8.out.mono8 (by omega)⟩ | exact ⟨_, rfl, L, HL.out, hL61, HD8.out.mono8 (by omega)⟩
set_option maxHeartbeats 3200000 in
theorem drawIs (v : Value) (n : Nat) (w : World) (h : CodeAt w v n) :
    Calls Try.prog 78 #[v] w fun e w' => ∃ (x : Value) (l : List Sc), e = .returned x ∧ (OwnH w.heap.size w' x l ∧ l.length ≤ 61) ∧ Below w.heap.size w w' := by
  obtain ⟨ad, c, rfl⟩ : ∃ ad c, v = .slice ad n c := by
    obtain ⟨ad, c, e, _⟩ := h
    exact ⟨ad, c, e⟩
  have hbel := al_ w (.cells #[.slice ad n c, .int .i64 0, .int .u64 0] 73)
  have HL := heapIn w.heap.size (.slice ad n c) n 0 _ (cur_new w (.slice ad n c) 73) (h.bytes hbel (Nat.le_refl _)) (by omega)
  have HBE := hid hbel
  clear h hbel
  go_enter Try.func78, Try.ntmps78
  go_wp2_with fail
  refine HL.mono ?_
  rintro e w1 ⟨x, l, rfl, hx, hl, hd⟩
  have HX := hid (hx.mono (base' := w.heap.size) (by simp))
  have hfin : Below w.heap.size w w1 := HBE.out.trans (gb_below hd.2.2 (Nat.le_refl _) (by simp))
  clear HL hd hx
  go_wp2
  go_returns
  first | exact ⟨_, l, rfl, ⟨HX.out, hl⟩, hfin⟩ | exact ⟨_, rfl, l, ⟨HX.out, hl⟩, hfin⟩
set_option maxHeartbeats 3200000 in
theorem drawPop (v : Value) (n : Nat) (w : World) (h : CodeAt w v n) :
    Calls Try.prog 33 #[v] w fun e w' => ∃ (x : Value) (l : List Sc), e = .returned x ∧ (OwnH w.heap.size w' x l ∧ l.length ≤ 61) ∧ Below w.heap.size w w' := by
  obtain ⟨ad, c, rfl⟩ : ∃ ad c, v = .slice ad n c := by
    obtain ⟨ad, c, e, _⟩ := h
    exact ⟨ad, c, e⟩
  have HL := drawIs _ n w h
  clear h
  go_enter Try.func33, Try.ntmps33
  go_wp2_with fail
  refine HL.mono ?_
  rintro e w1 ⟨x, l, rfl, hx, hb⟩
  clear HL
  go_wp2
  go_returns
  first | exact ⟨_, l, rfl, hx, hb⟩ | exact ⟨_, rfl, l, hx, hb⟩
set_option maxHeartbeats 3200000 in
theorem drawPush (v : Value) (n : Nat) (w : World) (h : CodeAt w v n) :
    Calls Try.prog 28 #[v] w fun e w' => ∃ (x : Value) (l : List Sc) (p : Sc), e = .returned (.tuple #[x, .agg #[.int .i64 p.1, .int .i64 p.2]]) ∧ (OwnH w.heap.size w' x l ∧ l.length ≤ 61) ∧ Below w.heap.size w w' := by
  obtain ⟨ad, c, rfl⟩ : ∃ ad c, v = .slice ad n c := by
    obtain ⟨ad, c, e, _⟩ := h
    exact ⟨ad, c, e⟩
  obtain ⟨W0, hW0⟩ : ∃ W0, W0 = (w.alloc (.cells #[.int .i64 0, .int .i64 0] 33)).alloc (.cells #[.slice ad n c, .int .i64 0, .int .u64 0] 73) := ⟨_, rfl⟩
  have k0 : Below w.heap.size w W0 := by rw [hW0]; exact ((Below.refl _ _).alloc (Nat.le_refl _) _).alloc (by simp) _
  have bR : BoxAt W0 w.heap.size [.int .i64 0, .int .i64 0] := by rw [hW0]; exact (boxNew w _ _).below (al_ _ _)
  have hcur : CurAt W0 (w.heap.size + 1) (.slice ad n c) 0 := by
    rw [hW0]
    have := cur_new (w.alloc (.cells #[.int .i64 0, .int .i64 0] 33)) (.slice ad n c) 73
    rwa [World.size_alloc] at this
  have hby := h.bytes k0 (g := w.heap.size + 1) (by omega)
  have HK := heapIn (w.heap.size + 1) (.slice ad n c) n 0 W0 hcur hby (by omega)
  have hs0 : w.heap.size + 2 ≤ W0.heap.size := by rw [hW0]; simp
  have HBR := hid bR
  have HK0 := hid k0
  have HW0 := hid hW0
  clear h k0 bR hcur hby hW0
  go_enter Try.func28, Try.ntmps28
  go_upto_region 2 with fail
  rw [← HW0.out]
  clear HW0
  go_wp2_with fail
  refine HK.mono ?_
  rintro e w1 ⟨x, l, rfl, hx, hl, hd⟩
  have HX1 := hid (hx.mono (base' := w.heap.size + 2) hs0)
  have HD1 := hid hd
  have HBR1 := hid (HBR.out.off (drawn_off hd) (by simp))
  clear hx hd HK HBR
  go_wp2_with fail
  refine (pickIn (w.heap.size + 1) (.slice ad n c) n 300 20 w1 (by simpa using HD1.out.1) HD1.out.2.1 (by omega) (by omega) (by omega)).mono ?_
  rintro e w2 ⟨a1, rfl, ha0, ha1, hd2⟩
  have HD2 := hid (HD1.out.trans hd2)
  have HX2 := hid (own_drawnH hd2 HX1.out (by omega))
  have HBR2 := hid (HBR1.out.off (drawn_off hd2) (by simp))
  clear hd2 HD1 HX1 HBR1
  go_wp2_with fail
  refine (pickIn (w.heap.size + 1) (.slice ad n c) n (300 + 2) 9 w2 HD2.out.1 HD2.out.2.1 (by omega) (by omega) (by omega)).mono ?_
  rintro e w3 ⟨a2, rfl, hb0, hb1, hd3⟩
  have HD3 := hid (HD2.out.trans hd3)
  have HX3 := hid (own_drawnH hd3 HX2.out (by omega))
  have HBR3 := hid (HBR2.out.off (drawn_off hd3) (by simp))
  clear hd3 HD2 HX2 HBR2
  go_wp2_with fail
  refine (pickIn (w.heap.size + 1) (.slice ad n c) n (300 + 2 + 2) 30 w3 HD3.out.1 HD3.out.2.1 (by omega) (by omega) (by omega)).mono ?_
  rintro e w4 ⟨a3, rfl, hc0, hc1, hd4⟩
  have HD4 := hid (HD3.out.trans hd4)
  have HX4 := hid (own_drawnH hd4 HX3.out (by omega))
  have hbr := HBR3.out.off (drawn_off hd4) (by simp)
  have b0 := hbr.2.1 0 _ rfl
  have b1 := hbr.2.1 1 _ rfl
  have f0 := hbr.2.2 0 (by simp)
  have f1 := hbr.2.2 1 (by simp)
  have hbl := hbr.1
  have HXS := hid fun (p : Sc) => (HX4.out.off (putC_off w4 w.heap.size 0 p) (fun k hk hm => by have := (HX4.out.lt k hk).1; simp at hm; omega)).mono (base' := w.heap.size) (by omega)
  have hfin0 : Below w.heap.size w w4 := HK0.out.trans (gb_below HD4.out.2.2 (by omega) (by omega))
  have HFS := hid fun (p : Sc) => hfin0.trans (bel_set2 (Below.refl w.heap.size w4) (Nat.le_refl _) (.int .i64 p.1) (.int .i64 p.2))
  have HBS := hid fun (p : Sc) => (hbr.set 0 (.int .i64 p.1)).set 1 (.int .i64 p.2)
  clear hbr HX4 HX3 HBR3 HD4 HD3 hfin0 HK0
  obtain ⟨p, hp⟩ : ∃ p : Sc, p = (a1 - a2 / 8, a3) := ⟨_, rfl⟩
  have hp1 : p.1 = a1 - a2 / 8 := by rw [hp]
  have hp2 : p.2 = a3 := by rw [hp]
  have y0 := (HBS.out p).2.1 0 _ rfl
  have y1 := (HBS.out p).2.1 1 _ rfl
  have HXP := HXS.out p
  have HFP := HFS.out p
  unfold putC at HXP
  simp only [Nat.zero_mul, Nat.zero_add] at HXP
  rw [hp1, hp2] at y0 y1 HXP HFP
  go_wp2_with fail
  (try simp only [Exit.inBlock, Exit.then])
  refine bodyPost_ret (v := .tuple #[x, .agg #[.int .i64 (a1 - a2 / 8), .int .i64 a3]]) ?r rfl ?_
  case r => simp [y0, y1, results, Try.results28, go_sem]; try rfl
  exact ⟨_, l, (a1 - a2 / 8, a3), rfl, ⟨HXP, hl⟩, HFP⟩
end Go.Proofs.Ythdodlbhkpoadaa
