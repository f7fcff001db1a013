/- Contracts of the model's draws of lists of rows of scores. Condition: the bytes that are drawn from lie in memory. -/
import Derived.Test.YthdodlbhkpoadaaDrawRw
namespace Go.Proofs.Ythdodlbhkpoadaa
open Go.ChangeShapes Go.WideShapes Go.ChangeAt Go.RowKit Go.Deep
set_option linter.unusedVariables false
attribute [local go_sem ↓] Go.wp_at_zero Go.wp_at_succ

def Small (R : List (List Sc)) : Prop := R.length ≤ 5 ∧ ∀ r ∈ R, r.length ≤ 42
theorem Rwo.empty {base : Nat} {w : World} {v : Value} {n : Nat} (h : w.ownsRow base 26 1 v n (List.replicate n (.slice none 0 0))) : Rwo base w v (List.replicate n []) (List.replicate n (.slice none 0 0)) := by
  have gx : ∀ i, i < n → (List.replicate n (Value.slice none 0 0)).getD i default = .slice none 0 0 := fun i hi => by simp [List.getD, hi]
  refine ⟨by rw [List.length_replicate]; exact Or.inl h, fun i hi => ?_, fun i hi g hg => ?_⟩
  · rw [gx i (by simpa using hi), show gR (List.replicate n ([] : List Sc)) i = [] by simp [gR, List.getD, show i < n by simpa using hi]]
    exact OwnH.nil _ _
  · rw [gx i (by simpa using hi)] at hg; simp [hbl, Value.ownBlock] at hg
set_option maxHeartbeats 6400000 in
set_option maxRecDepth 100000 in
theorem rowsIn (g : Nat) (v : Value) (n m : Nat) (w : World) (hc : CurAt w g v m) (hb : BytesAt w g v n) (hm : m ≤ 1000000 - 2000) :
    Calls Try.prog 62 #[.pointer (some ⟨g, 0, none⟩)] w fun e w' => ∃ (x : Value) (R : List (List Sc)) (xs : List Value), e = .returned x ∧ Rwo w.heap.size w' x R xs ∧ Small R ∧ Drawn w w' g v n (m + 1000) := by
  obtain ⟨i0, hi, hzz⟩ := Option.map_eq_some_iff.1 infoSl
  simp only [Prod.mk.injEq] at hzz
  obtain ⟨hz0, hz1, hz2⟩ := hzz
  have hgl := hc.lt
  have HB := hid hb
  have HD0 : Hid (Drawn w w g v n m) := ⟨hc, hb, World.grownBy.refl _ _⟩
  clear hc hb
  go_enter Try.func62, Try.ntmps62
  go_wp2_with fail
  refine (pickIn g v n m 3 w HD0.out.1 HD0.out.2.1 (by omega) (by omega) (by omega)).mono ?_
  rintro e w1 ⟨x0, rfl, hx0, hx1, hd1⟩
  have HD1 := hid hd1
  have hxw : IntKind.i64.wrap (1 + x0) = 1 + x0 := by rw [IntKind.wrap_i64]; omega
  clear hd1 HD0
  go_wp2
  go_loopw [3, 4] (fun hv nn wr => ∃ (c : Nat) (z : Int) (R : List (List Sc)) (xs : List Value) (a k : _), nn = .int .i64 z ∧ 0 ≤ z ∧ z + c ≤ 3 ∧ hv = .slice a R.length k ∧ R.length ≤ c ∧ Hid (∀ r ∈ R, r.length ≤ 42) ∧ Hid (Rwo w.heap.size wr (.slice a R.length k) R xs) ∧ Hid (Drawn w wr g v n (m + 2 + 300 * c))) (fun _ nn _ => (intOf nn).toNat)
  case atStart => exact ⟨0, _, [], [], none, 0, by first | rfl | (simp only [hxw]; rfl), by omega, by omega, rfl, by simp, by show ∀ r ∈ _, _; simp, Rwo.nil _ _, HD1.out⟩
  case round =>
    obtain ⟨c, z, R, xs, a, k, rfl, hza, hzb, rfl, hRc, HS, HR, HD⟩ := hrel
    clear HD1
    by_cases hlt : 0 < z
    · go_wp2_with fail
      refine (rowIn g v n (m + 2 + 300 * c) wr HD.out.1 HD.out.2.1 (by omega)).mono ?_
      rintro e w4 ⟨x, r, rfl, hx, hr, hd4⟩
      obtain ⟨xa, xc, rfl⟩ := hx.slice
      have hws := HD.out.2.2.size
      have HD4 := hid (HD.out.trans hd4)
      have HR4 := hid (HR.out.off (drawn_off hd4) (by simp; omega))
      have HX4 := hid hx
      have ka := al_ w4 (.cells #[.slice xa r.length xc] 26)
      have HD5 := hid (HD4.out.below ka)
      have HR5 := hid (HR4.out.below ka)
      have HX5 := hid (HX4.out.below ka)
      have hw4 := HD4.out.2.2.size
      have HS2 : Hid (∀ q ∈ R ++ [r], q.length ≤ 42) := fun q hq => by
        rcases List.mem_append.1 hq with h | h
        · exact HS.out q h
        · simp at h; rw [h]; exact hr
      clear hx hd4 HD HR4 HD4 HX4 HS hr
      go_wp2_with (first | (at_builtin; refine wplS rfl _ _ 23 rfl w.heap.size 26 i0 (.slice none 0 0) 24 Try.underlying23 hi hz0 hz1 hz2 rfl _ _ xs rfl HR5.out.out _ 1 [.slice xa r.length xc] rfl (news1 _ _ _) ?c1 ?c2 ?c3 ?c4 ?_) | fail)
      case c1 => intro u hu; simp at hu; subst hu; rfl
      case c2 => unfold maxLen; omega
      case c3 => omega
      case c4 => first | omega | (simp; omega)
      intro x1 w6 ho1 hg1 he1
      obtain ⟨ya, yc, hye⟩ := (rows_of_ownS ho1).slice
      subst hye
      have HR6 : Hid (Rwo w.heap.size w6 (.slice ya (R ++ [r]).length yc) (R ++ [r]) (xs ++ [.slice xa r.length xc])) := by
        show Rwo _ _ _ _ _
        rw [show (R ++ [r]).length = R.length + 1 by simp]
        exact HR.out.snoc HR5.out HX5.out hws ho1 hg1 (fun q hq => (he1 q hq).imp id (fun h5 => by simpa using h5))
      have HD6 : Hid (Drawn w w6 g v n (m + 2 + 300 * (c + 1))) := (Drawn.offN HB.out hgl HD5.out hg1 (fun k hk => (own_lt HR5.out.out k hk).1)).mono8 (by omega)
      have hrl : (R ++ [r]).length = R.length + 1 := by simp
      have hcl : (R ++ [r]).length ≤ c + 1 := by omega
      clear ho1 hg1 he1 HR5 HX5 HD5 HR
      rw [← hrl]
      clear hrl
      generalize R ++ [r] = R2 at *
      go_wp2
      refine ⟨?_, by simp [intOf]; omega⟩
      exact ⟨c + 1, z - 1, R2, _, _, _, by first | rfl | go_num, by omega, by omega, rfl, hcl, HS2.out, HR6.out, HD6.out⟩
    · have HSM : Hid (Small R) := ⟨by omega, HS.out⟩
      have HD8 : Hid (Drawn w wr g v n (m + 902)) := HD.out.mono8 (by omega)
      clear HD hza hzb hRc HS
      go_wp2_with fail
      refine (oneIn g v n (m + 902) 20 wr HD8.out.1 HD8.out.2.1 (by omega) (by omega) (by omega)).mono ?_
      rintro e w7 ⟨o7, rfl, hd7⟩
      have HD9 := hid (HD8.out.trans hd7)
      have HR9 := hid (HR.out.off (drawn_off hd7) (by simp; omega))
      clear hd7 HD8 HR
      cases o7
      · go_wp2
        go_returns
        first | exact ⟨_, R, xs, rfl, HR9.out, HSM.out, HD9.out.mono8 (by omega)⟩ | exact ⟨_, rfl, R, xs, HR9.out, HSM.out, HD9.out.mono8 (by omega)⟩ | exact ⟨_, R, rfl, xs, HR9.out, HSM.out, HD9.out.mono8 (by omega)⟩
      · have HD9a := hid (HD9.out.below (al_ w7 (.cells #[.int .i64 0, .int .i64 4, .int .i64 5] 3)))
        have hg7 : g < w7.heap.size := Nat.lt_of_lt_of_le hgl HD9.out.2.2.size
        clear HD9 HR9 HSM
        go_wp2_with fail
        refine (amongIn g v n (m + 904) [0, 4, 5] w7.heap.size 3 _ HD9a.out.1 HD9a.out.2.1 (by omega) (by simp) (by simp) (by omega) (by intro i hi; match i, hi with | 0, _ => simp [World.cell?_alloc_new] | 1, _ => simp [World.cell?_alloc_new] | 2, _ => simp [World.cell?_alloc_new])).mono ?_
        rintro e w8 ⟨p8, rfl, hp8, hd8⟩
        have HD10 := hid (HD9a.out.trans hd8)
        obtain ⟨K, hK, hK5⟩ : ∃ K : Nat, p8 = (K : Int) ∧ K ≤ 5 := by
          simp at hp8
          exact ⟨p8.toNat, by omega, by omega⟩
        subst hK
        have hw8 := HD10.out.2.2.size
        obtain ⟨w9, hmk, hown, hb9⟩ := makeR w8 K (by omega)
        have HD11 := hid (HD10.out.below hb9)
        have hemp := Rwo.empty (hown)
        have HE : Hid (Rwo w.heap.size w9 (.slice (some ⟨w8.heap.size, 0, none⟩) K K) (List.replicate K []) (List.replicate K (.slice none 0 0))) := ⟨own_mono hemp.out hw8, fun i hi => (hemp.inn i hi).mono hw8, hemp.sep⟩
        have HSM : Hid (Small (List.replicate K [])) := ⟨by simpa using hK5, fun r hr => by rw [(List.mem_replicate.1 hr).2]; simp⟩
        clear hp8 hd8 HD9a hg7 HD10 hown hemp hb9
        go_wp2
        go_returns
        first | exact ⟨_, _, _, rfl, HE.out, HSM.out, HD11.out.mono8 (by omega)⟩ | exact ⟨_, rfl, _, _, HE.out, HSM.out, HD11.out.mono8 (by omega)⟩ | exact ⟨_, _, rfl, _, HE.out, HSM.out, HD11.out.mono8 (by omega)⟩
set_option maxHeartbeats 3200000 in
set_option maxRecDepth 100000 in
theorem drawTot (v : Value) (n : Nat) (w : World) (h : CodeAt w v n) :
    Calls Try.prog 20 #[v] w fun e w' => ∃ (x : Value) (R : List (List Sc)) (y : Int), e = .returned (.tuple #[x, .int .i64 y]) ∧ (RdR w' x R ∧ Small R) ∧ Below w.heap.size w w' := by
  obtain ⟨ad, c, rfl⟩ : ∃ ad c, v = .slice ad n c := by
    obtain ⟨ad, c, e, _⟩ := h
    exact ⟨ad, c, e⟩
  have hbel := al_ w (.cells #[.slice ad n c, .int .i64 0, .int .u64 0] 73)
  have HL := rowsIn w.heap.size (.slice ad n c) n 0 _ (cur_new w (.slice ad n c) 73) (h.bytes hbel (Nat.le_refl _)) (by omega)
  have HBE := hid hbel
  clear h hbel
  go_enter Try.func20, Try.ntmps20
  go_wp2_with fail
  refine HL.mono ?_
  rintro e w1 ⟨x, R, xs, rfl, hx, hS, hd⟩
  obtain ⟨xa, xc, rfl⟩ := hx.rd.slice
  have HX := hid (show Rwo (w.heap.size + 1) w1 _ R xs by simpa using hx)
  have HD := hid hd
  have HSM := hid hS
  have hs1 : w.heap.size + 1 ≤ w1.heap.size := by have := hd.2.2.size; simpa using this
  clear HL hd hx hS
  go_wp2_with fail
  refine (pickIn w.heap.size (.slice ad n c) n (0 + 1000) 12 w1 HD.out.1 HD.out.2.1 (by omega) (by omega) (by omega)).mono ?_
  rintro e w2 ⟨y, rfl, hy0, hy1, hd2⟩
  have HX2 := hid (HX.out.off (drawn_off hd2) (by simp))
  have hfin : Below w.heap.size w w2 := HBE.out.trans (gb_below (HD.out.trans hd2).2.2 (Nat.le_refl _) (by simp))
  have HF := hid hfin
  clear hd2 hfin
  go_wp2
  go_returns
  exact ⟨_, R, _, rfl, ⟨HX2.out.rd, HSM.out⟩, HF.out⟩
set_option maxHeartbeats 3200000 in
set_option maxRecDepth 100000 in
theorem drawBest (v : Value) (n : Nat) (w : World) (h : CodeAt w v n) :
    Calls Try.prog 47 #[v] w fun e w' => ∃ (x : Value) (R : List (List Sc)) (y : Int), e = .returned (.tuple #[x, .int .i64 y]) ∧ (RdR w' x R ∧ Small R) ∧ Below w.heap.size w w' := by
  obtain ⟨ad, c, rfl⟩ : ∃ ad c, v = .slice ad n c := by
    obtain ⟨ad, c, e, _⟩ := h
    exact ⟨ad, c, e⟩
  have hbel := al_ w (.cells #[.slice ad n c, .int .i64 0, .int .u64 0] 73)
  have HL := rowsIn w.heap.size (.slice ad n c) n 0 _ (cur_new w (.slice ad n c) 73) (h.bytes hbel (Nat.le_refl _)) (by omega)
  have HBE := hid hbel
  clear h hbel
  go_enter Try.func47, Try.ntmps47
  go_wp2_with fail
  refine HL.mono ?_
  rintro e w1 ⟨x, R, xs, rfl, hx, hS, hd⟩
  obtain ⟨xa, xc, rfl⟩ := hx.rd.slice
  have HX := hid (show Rwo (w.heap.size + 1) w1 _ R xs by simpa using hx)
  have HD := hid hd
  have HSM := hid hS
  have hs1 : w.heap.size + 1 ≤ w1.heap.size := by have := hd.2.2.size; simpa using this
  clear HL hd hx hS
  have ka := al_ w1 (.cells #[.int .i64 0, .int .i64 1, .int .i64 2, .int .i64 3, .int .i64 10, .int .i64 11] 3)
  have HDa := hid (HD.out.below ka)
  have HXa := hid (HX.out.below ka)
  clear HD HX ka
  go_wp2_with fail
  refine (amongIn w.heap.size (.slice ad n c) n (0 + 1000) [0, 1, 2, 3, 10, 11] w1.heap.size 6 _ HDa.out.1 HDa.out.2.1 (by omega) (by simp) (by simp) (by omega) (by intro i hi; match i, hi with | 0, _ => simp [World.cell?_alloc_new] | 1, _ => simp [World.cell?_alloc_new] | 2, _ => simp [World.cell?_alloc_new] | 3, _ => simp [World.cell?_alloc_new] | 4, _ => simp [World.cell?_alloc_new] | 5, _ => simp [World.cell?_alloc_new])).mono ?_
  rintro e w2 ⟨y, rfl, hy, hd2⟩
  have HX2 := hid (HXa.out.off (drawn_off hd2) (by simp))
  have hfin : Below w.heap.size w w2 := HBE.out.trans (gb_below (HDa.out.trans hd2).2.2 (Nat.le_refl _) (by simp))
  have HF := hid hfin
  clear hd2 hfin
  go_wp2
  go_returns
  exact ⟨_, R, _, rfl, ⟨HX2.out.rd, HSM.out⟩, HF.out⟩
set_option maxHeartbeats 3200000 in
set_option maxRecDepth 100000 in
theorem drawBnd (v : Value) (n : Nat) (w : World) (h : CodeAt w v n) :
    Calls Try.prog 22 #[v] w fun e w' => ∃ (x : Value) (R : List (List Sc)) (y : Int), e = .returned (.tuple #[x, .int .i64 y]) ∧ (RdR w' x R ∧ Small R) ∧ Below w.heap.size w w' := by
  obtain ⟨ad, c, rfl⟩ : ∃ ad c, v = .slice ad n c := by
    obtain ⟨ad, c, e, _⟩ := h
    exact ⟨ad, c, e⟩
  have hbel := al_ w (.cells #[.slice ad n c, .int .i64 0, .int .u64 0] 73)
  have HL := rowsIn w.heap.size (.slice ad n c) n 0 _ (cur_new w (.slice ad n c) 73) (h.bytes hbel (Nat.le_refl _)) (by omega)
  have HBE := hid hbel
  clear h hbel
  go_enter Try.func22, Try.ntmps22
  go_wp2_with fail
  refine HL.mono ?_
  rintro e w1 ⟨x, R, xs, rfl, hx, hS, hd⟩
  obtain ⟨xa, xc, rfl⟩ := hx.rd.slice
  have HX := hid (show Rwo (w.heap.size + 1) w1 _ R xs by simpa using hx)
  have HD := hid hd
  have HSM := hid hS
  have hs1 : w.heap.size + 1 ≤ w1.heap.size := by have := hd.2.2.size; simpa using this
  clear HL hd hx hS
  have ka := al_ w1 (.cells #[.int .i64 (-1), .int .i64 0, .int .i64 1, .int .i64 2, .int .i64 5, .int .i64 20, .int .i64 21] 3)
  have HDa := hid (HD.out.below ka)
  have HXa := hid (HX.out.below ka)
  clear HD HX ka
  go_wp2_with fail
  refine (amongIn w.heap.size (.slice ad n c) n (0 + 1000) [-1, 0, 1, 2, 5, 20, 21] w1.heap.size 7 _ HDa.out.1 HDa.out.2.1 (by omega) (by simp) (by simp) (by omega) (by intro i hi; match i, hi with | 0, _ => simp [World.cell?_alloc_new] | 1, _ => simp [World.cell?_alloc_new] | 2, _ => simp [World.cell?_alloc_new] | 3, _ => simp [World.cell?_alloc_new] | 4, _ => simp [World.cell?_alloc_new] | 5, _ => simp [World.cell?_alloc_new] | 6, _ => simp [World.cell?_alloc_new])).mono ?_
  rintro e w2 ⟨y, rfl, hy, hd2⟩
  have HX2 := hid (HXa.out.off (drawn_off hd2) (by simp))
  have hfin : Below w.heap.size w w2 := HBE.out.trans (gb_below (HDa.out.trans hd2).2.2 (Nat.le_refl _) (by simp))
  have HF := hid hfin
  clear hd2 hfin
  go_wp2
  go_returns
  exact ⟨_, R, _, rfl, ⟨HX2.out.rd, HSM.out⟩, HF.out⟩
set_option maxHeartbeats 3200000 in
theorem drawThr (v : Value) (n : Nat) (w : World) (h : CodeAt w v n) :
    Calls Try.prog 13 #[v] w fun e w' => ∃ (x : Value) (R : List (List Sc)) (y : Int), e = .returned (.tuple #[x, .int .i64 y]) ∧ (RdR w' x R ∧ Small R) ∧ Below w.heap.size w w' := by
  obtain ⟨ad, c, rfl⟩ : ∃ ad c, v = .slice ad n c := by
    obtain ⟨ad, c, e, _⟩ := h
    exact ⟨ad, c, e⟩
  have HL := drawBest _ n w h
  clear h
  go_enter Try.func13, Try.ntmps13
  go_wp2_with fail
  refine HL.mono ?_
  rintro e w1 ⟨x, R, y, rfl, hx, hb⟩
  clear HL
  go_wp2
  go_returns
  exact ⟨_, R, _, rfl, hx, hb⟩
set_option maxHeartbeats 3200000 in
theorem drawGR (v : Value) (n : Nat) (w : World) (h : CodeAt w v n) :
    Calls Try.prog 25 #[v] w fun e w' => ∃ (x : Value) (l : List Sc), e = .returned x ∧ (RdS w' x l ∧ l.length ≤ 42) ∧ Below w.heap.size w w' := by
  obtain ⟨ad, c, rfl⟩ : ∃ ad c, v = .slice ad n c := by
    obtain ⟨ad, c, e, _⟩ := h
    exact ⟨ad, c, e⟩
  have hbel := al_ w (.cells #[.slice ad n c, .int .i64 0, .int .u64 0] 73)
  have HL := rowIn w.heap.size (.slice ad n c) n 0 _ (cur_new w (.slice ad n c) 73) (h.bytes hbel (Nat.le_refl _)) (by omega)
  have HBE := hid hbel
  clear h hbel
  go_enter Try.func25, Try.ntmps25
  go_wp2_with fail
  refine HL.mono ?_
  rintro e w1 ⟨x, l, rfl, hx, hl, hd⟩
  have HX := hid hx.rd
  have hfin : Below w.heap.size w w1 := HBE.out.trans (gb_below hd.2.2 (Nat.le_refl _) (by simp))
  clear HL hd hx
  go_wp2
  go_returns
  first | exact ⟨_, l, rfl, ⟨HX.out, hl⟩, hfin⟩ | exact ⟨_, rfl, l, ⟨HX.out, hl⟩, hfin⟩
end Go.Proofs.Ythdodlbhkpoadaa
