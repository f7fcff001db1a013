/- Contracts of the model's drawing of lists of numbers. Condition: the bytes that are drawn from lie in memory. -/
import Derived.Test.YtaafdcghafbfhaaBytesV
import Derived.Test.YtaafdcghafbfhaaImplPkd
namespace Go.Proofs.Ytaafdcghafbfhaa
open Go.ChangeShapes Go.WideShapes Go.ChangeAt Go.RowKit Go.Deep
set_option linter.unusedVariables false
attribute [local go_sem ↓] Go.wp_at_zero Go.wp_at_succ

theorem CurAt.keep {w w' : World} {g : Nat} {v : Value} {m : Nat} (h : CurAt w g v m) (hb : w'.heap[g]? = w.heap[g]?) : CurAt w' g v m := by
  obtain ⟨a, s, h1, h2, h3, h4, h5, h6, h7, h8, h9, h10⟩ := h
  exact ⟨a, s, h1, h2, by simp only [World.cell?, hb]; exact h3, by simp only [World.cell?, hb]; exact h4, by simp only [World.cell?, hb]; exact h5, h6, h7, by simp only [World.frozen?, hb]; exact h8, by simp only [World.frozen?, hb]; exact h9, by simp only [World.frozen?, hb]; exact h10⟩
theorem Drawn.offN {w w1 w2 : World} {g : Nat} {v : Value} {n m : Nat} {S : List Nat} (hb : BytesAt w g v n) (hg : g < w.heap.size) (h : Drawn w w1 g v n m) (hO : Off S w1 w2) (hS : ∀ k ∈ S, w.heap.size ≤ k) : Drawn w w2 g v n m := by
  have h2 : w.grownBy w2 (some g) := ⟨hO.os.trans h.2.2.os, hO.tape.trans h.2.2.tape, hO.output.trans h.2.2.output, Nat.le_trans h.2.2.size hO.size, fun k hk hne => (hO.block k (Nat.lt_of_lt_of_le hk h.2.2.size) (fun hm => by have := hS k hm; omega)).trans (h.2.2.block k hk hne)⟩
  exact ⟨h.1.keep (hO.block g (Nat.lt_of_lt_of_le hg h.2.2.size) (fun hm => by have := hS g hm; omega)), hb.kept h2, h2⟩
theorem Drawn.mono8 {w w1 : World} {g : Nat} {v : Value} {n m m' : Nat} (h : Drawn w w1 g v n m) (hm : m ≤ m') : Drawn w w1 g v n m' := ⟨h.1.mono hm, h.2⟩
theorem off_set8 (W : World) (b o : Nat) (u : Value) : Off [b] W (W.setCell ⟨b, o, none⟩ u) := ⟨rfl, rfl, rfl, by simp, fun k hk hn => setCell_other W b k o u (fun e => hn (by simp [e]))⟩
theorem drawn_off {w w1 : World} {g : Nat} {v : Value} {n m : Nat} (h : Drawn w w1 g v n m) : Off [g] w w1 := ⟨h.2.2.os, h.2.2.tape, h.2.2.output, h.2.2.size, fun k hk hn => h.2.2.block k hk (fun e => by cases e; exact hn (by simp))⟩
theorem own_drawn {w w1 : World} {g base : Nat} {v : Value} {n m : Nat} (h : Drawn w w1 g v n m) {e : TypeId} {x : Value} {k : Nat} {xs : List Value} (ho : OwnS w base e x k xs) (hg : g < base) : OwnS w1 base e x k xs :=
  ho.off (drawn_off h) (fun j hj hm => by have := (own_lt ho j hj).1; simp at hm; omega)
theorem hidD {p : Prop} (h : p) : Hid p := h
set_option maxHeartbeats 6400000 in
set_option maxRecDepth 100000 in
theorem list8In (g : Nat) (v : Value) (n m : Nat) (w : World) (hc : CurAt w g v m) (hb : BytesAt w g v n) (hm : m ≤ 1000000 - 300) :
    Calls Try.prog 47 #[.pointer (some ⟨g, 0, none⟩)] w fun e w' => ∃ (x : Value) (l : List Int), e = .returned x ∧ OwnA w.heap.size w' x l.length (fun i => .int .i64 (l.getD i 0)) ∧ l.length ≤ 61 ∧ Drawn w w' g v n (m + 200) := by
  obtain ⟨i0, hi, hzz⟩ := Option.map_eq_some_iff.1 infoI
  simp only [Prod.mk.injEq] at hzz
  obtain ⟨hz0, hz1, hz2⟩ := hzz
  have hgl := hc.lt
  have HB := hidD hb
  have HD0 : Hid (Drawn w w g v n m) := ⟨hc, hb, World.grownBy.refl _ _⟩
  clear hc hb
  go_enter Try.func47, Try.ntmps47
  go_wp2_with fail
  refine (pickIn g v n m 12 w HD0.out.1 HD0.out.2.1 (by omega) (by omega) (by omega)).mono ?_
  rintro e w1 ⟨x0, rfl, hx0, hx1, hd1⟩
  have HD1 := hidD hd1
  clear hd1 HD0
  go_wp2_with fail
  refine (oneIn g v n (m + 2) 20 w1 HD1.out.1 HD1.out.2.1 (by omega) (by omega) (by omega)).mono ?_
  rintro e w2 ⟨o, rfl, hd2⟩
  have HD2 := hidD (HD1.out.trans hd2)
  clear hd2 HD1
  cases o
  case' false =>
    have HD3 := hidD (HD2.out.mono8 (m' := m + 6) (by omega))
    clear HD2
    generalize w2 = w3 at *
  case' true =>
    go_wp2_with fail
    refine (pickIn g v n (m + 4) 3 w2 HD2.out.1 HD2.out.2.1 (by omega) (by omega) (by omega)).mono ?_
    rintro e w3 ⟨y0, rfl, hy0, hy1, hd3⟩
    have HD3 := hidD (HD2.out.trans hd3)
    clear hd3 HD2
  all_goals
    go_wp2_with fail
    refine (pickIn g v n (m + 6) 5 w3 HD3.out.1 HD3.out.2.1 (by omega) (by omega) (by omega)).mono ?_
    rintro e w4 ⟨q0, rfl, hq0, hq1, hd4⟩
    have HD4 := hidD (HD3.out.trans hd4)
    have hg4 : g < w4.heap.size := Nat.lt_of_lt_of_le hgl HD4.out.2.2.size
    have HD4a := hidD (HD4.out.below (al_ w4 (.cells #[.int .i64 1, .int .i64 3, .int .i64 20, .int .i64 100] 3)))
    clear hd4 HD3 HD4
    go_wp2_with fail
    refine (amongIn g v n (m + 8) [1, 3, 20, 100] w4.heap.size 4 _ HD4a.out.1 HD4a.out.2.1 (by omega) (by simp) (by simp) (by omega) (by intro i hi; match i, hi with | 0, _ => simp [World.cell?_alloc_new] | 1, _ => simp [World.cell?_alloc_new] | 2, _ => simp [World.cell?_alloc_new] | 3, _ => simp [World.cell?_alloc_new])).mono ?_
    rintro e w5 ⟨p, rfl, hp, hd5⟩
    have HD5 := hidD (HD4a.out.trans hd5)
    have hp1 : 1 ≤ p ∧ p ≤ 100 := by
      simp at hp
      omega
    obtain ⟨hp1, hp2⟩ := hp1
    clear hd5 HD4a hp hg4
    go_wp2
    go_loopw [3, 4, 5] (fun x nn a wr => ∃ (c : Nat) (z : Int) (l : List Int) (q : Int), nn = .int .i64 z ∧ 0 ≤ z ∧ z + c ≤ 61 ∧ Hid (OwnS wr w.heap.size 3 x c (intsV l)) ∧ l.length = c ∧ a = .int .i64 q ∧ 0 ≤ q ∧ q ≤ 4 + c * 100 ∧ Hid (Drawn w wr g v n (m + 10 + 2 * c))) (fun _ nn _ _ => (intOf nn).toNat)
    case atStart => exact ⟨0, _, [], _, rfl, by omega, by omega, OwnS.nil _ _ _, rfl, rfl, hq0, by omega, HD5.out⟩
    case round =>
      obtain ⟨c, z, l, q, rfl, hza, hzb, hO, hlc, rfl, hqa, hqb, hD⟩ := hrel
      obtain ⟨xa, xc, hxe⟩ := (rows_of_ownS hO.out).slice
      subst hxe
      have hws := hD.out.2.2.size
      clear HD5
      by_cases hlt : 0 < z
      · have how := hO.out
        go_wp2_with (first | (at_builtin; refine wplS rfl _ _ 23 rfl w.heap.size 3 i0 (.int .i64 0) 8 Try.underlying23 hi hz0 hz1 hz2 rfl _ _ _ rfl (how.alloc _) _ 1 [.int .i64 q] rfl (news1 _ _ _) ?c1 ?c2 ?c3 ?c4 ?_) | fail)
        case c1 => first | rfl | (intro u hu; simp at hu; subst hu; rfl)
        case c2 => unfold maxLen; omega
        case c3 => omega
        case c4 => first | omega | (simp; omega)
        intro x1 w6 ho1 hg1 he1
        obtain ⟨ya, yc, hye⟩ := (rows_of_ownS ho1).slice
        subst hye
        have HO6 : Hid (OwnS w6 w.heap.size 3 (.slice ya (c + 1) yc) (c + 1) (intsV (l ++ [q]))) := by
          show OwnS _ _ _ _ _ _
          simpa [intsV] using ho1
        have HD6 := hidD (Drawn.offN HB.out hgl (hD.out.below (al_ _ _)) hg1 (fun k hk => (own_lt how k hk).1))
        clear ho1 hg1 he1 how hO hD
        go_wp2_with fail
        refine (pickIn g v n (m + 10 + 2 * c) p w6 HD6.out.1 HD6.out.2.1 (by omega) (by omega) (by omega)).mono ?_
        rintro e w7 ⟨y7, rfl, hya, hyb, hd7⟩
        have HD7 : Hid (Drawn w w7 g v n (m + 10 + 2 * (c + 1))) := (HD6.out.trans hd7).mono8 (by omega)
        have HO7 := hidD (own_drawn hd7 HO6.out hgl)
        clear hd7 HD6 HO6
        go_wp2
        refine ⟨?_, by simp [intOf]; omega⟩
        first | exact ⟨c + 1, z - 1, l ++ [q], _, rfl, by omega, by omega, HO7.out, by simp [hlc], rfl, by omega, by omega, HD7.out⟩ | ((repeat apply Exists.intro); exact ⟨⟨c + 1, z - 1, l ++ [q], _, rfl, by omega, by omega, HO7.out, by simp [hlc], rfl, by omega, by omega, HD7.out⟩, rfl⟩)
      · have hc61 : c ≤ 61 := by omega
        have HD8 : Hid (Drawn w wr g v n (m + 140)) := hD.out.mono8 (by omega)
        rw [← hlc] at hO
        have HOA := hidD (OwnA.ofInts hO.out).1
        subst hlc
        clear hD hO
        by_cases hc0 : l.length = 0
        · have hl0 : l = [] := List.eq_nil_of_length_eq_zero hc0
          subst hl0
          clear hc0
          have HD9 : Hid (Drawn w wr g v n (m + 200)) := HD8.out.mono8 (by omega)
          go_wp2
          go_returns
          first | exact ⟨_, [], rfl, HOA.out, by simp, HD9.out⟩ | exact ⟨_, rfl, [], HOA.out, by simp, HD9.out⟩
        · have hci : (0 : Int) < (l.length : Int) := by omega
          go_wp2_with fail
          refine (oneIn g v n (m + 140) 20 wr HD8.out.1 HD8.out.2.1 (by omega) (by omega) (by omega)).mono ?_
          rintro e w7 ⟨o7, rfl, hd7⟩
          have HD9 := hidD (HD8.out.trans hd7)
          have HOA9 := hidD (HOA.out.off (drawn_off hd7) (fun k hk hm => by have := (HOA.out.lt k hk).1; simp at hm; omega))
          clear hd7 HD8 HOA
          cases o7
          · go_wp2
            go_returns
            first | exact ⟨_, l, rfl, HOA9.out, by omega, HD9.out.mono8 (by omega)⟩ | exact ⟨_, rfl, l, HOA9.out, by omega, HD9.out.mono8 (by omega)⟩
          · have HD9a := hidD (HD9.out.below (al_ w7 (.cells #[.int .i64 (-1), .int .i64 10000, .int .i64 10001] 3)))
            have HOA9a := hidD (HOA9.out.below (al_ w7 (.cells #[.int .i64 (-1), .int .i64 10000, .int .i64 10001] 3)))
            have hg7 : g < w7.heap.size := Nat.lt_of_lt_of_le hgl HD9.out.2.2.size
            clear HD9 HOA9
            go_wp2_with fail
            refine (amongIn g v n (m + 142) [-1, 10000, 10001] w7.heap.size 3 _ HD9a.out.1 HD9a.out.2.1 (by omega) (by simp) (by simp) (by omega) (by intro i hi; match i, hi with | 0, _ => simp [World.cell?_alloc_new] | 1, _ => simp [World.cell?_alloc_new] | 2, _ => simp [World.cell?_alloc_new])).mono ?_
            rintro e w8 ⟨p8, rfl, hp8, hd8⟩
            have HD10 := hidD (HD9a.out.trans hd8)
            have hOA := HOA9a.out.off (drawn_off hd8) (fun k hk hm => by have := (HOA9a.out.lt k hk).1; simp at hm; omega)
            rcases hOA with ⟨h0, _⟩ | ⟨h0, gr, cap, hre, hrow⟩
            · exact absurd h0 hc0
            · cases hre
              have hcell := hrow.2.2.1 (l.length - 1) (by omega)
              have hfz := hrow.2.2.2 (l.length - 1) (by omega)
              obtain ⟨lm, hlm⟩ : ∃ lm, l.length = lm + 1 := ⟨l.length - 1, by omega⟩
              rw [show l.length - 1 = lm by omega] at hcell hfz
              have hli : (l.length : Int) - 1 = (lm : Int) := by omega
              have hlm0 : (lm : Int) < (l.length : Int) := by omega
              have hrl := hrow.2.1
              have HROW := hidD hrow
              have HF : Hid (OwnA w.heap.size (w8.setCell ⟨gr, lm, none⟩ (.int .i64 p8)) (.slice (some ⟨gr, 0, none⟩) l.length xc) (l.set lm p8).length (fun i => .int .i64 ((l.set lm p8).getD i 0))) := by
                have hs := hrow.set (k := lm) (by omega) (.int .i64 p8)
                refine .inr ⟨by simp; omega, gr, xc, by simp, ?_⟩
                have : (l.set lm p8).length = l.length := by simp
                rw [this]
                refine hs.congr (fun i hi => ?_)
                by_cases e : i = lm
                · subst e; simp [List.getD, hi]
                · simp [List.getD, e, List.getElem?_set_ne (Ne.symm e)]
              have HDF : Hid (Drawn w (w8.setCell ⟨gr, lm, none⟩ (.int .i64 p8)) g v n (m + 200)) := (Drawn.offN HB.out hgl HD10.out (off_set8 w8 gr lm _) (fun k hk => by simp at hk; rw [hk]; exact hrow.1)).mono8 (by omega)
              clear hrow hd8 HOA9a HD9a HD10 hlm
              go_wp2
              go_returns
              first | exact ⟨_, l.set lm p8, rfl, HF.out, by simp; omega, HDF.out⟩ | exact ⟨_, rfl, l.set lm p8, HF.out, by simp; omega, HDF.out⟩
end Go.Proofs.Ytaafdcghafbfhaa
