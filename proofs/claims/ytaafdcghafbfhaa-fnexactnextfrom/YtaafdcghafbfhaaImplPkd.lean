/- Contracts of packedOf and PackList. Condition: the list lies in memory. -/
import Derived.Test.YtaafdcghafbfhaaImplLow
import Derived.Test.YtaafdcghafbfhaaSwap
namespace Go.Proofs.Ytaafdcghafbfhaa
open Go.ChangeShapes Go.WideShapes Go.ChangeAt Go.RowKit Go.Deep
set_option linter.unusedVariables false
attribute [local go_sem ↓] Go.wp_at_zero Go.wp_at_succ

theorem news1 (w : World) (s : Value) (t : TypeId) : RowsAt (w.alloc (.cells #[s] t)) 1 (.slice (some ⟨w.heap.size, 0, none⟩) 1 1) 1 [s] := by
  refine ⟨rfl, _, 1, rfl, Nat.le_refl _, fun h => (Option.some_ne_none _ h).elim, .inr ⟨_, 0, rfl, by simp, fun j u hj => ?_⟩⟩
  match j, hj with
  | 0, hj => simp at hj; subst hj; simp [World.cell?_alloc_new]
theorem infoI : (Try.prog.info? 3).map (fun i => (i.zero, i.size, i.bytes)) = some (some (.int .i64 0), 1, 8) := by kernel_rfl
theorem infoB : (Try.prog.info? 4).map (fun i => (i.zero, i.size, i.bytes)) = some (some (.bool false), 1, 1) := by kernel_rfl
theorem BoxAt.offI {W W' : World} {b : Nat} {vs : List Value} {S : List Nat} (h : BoxAt W b vs) (hg : Off S W W') (hne : b ∉ S) : BoxAt W' b vs := by
  obtain ⟨h1, h2, h3⟩ := h
  have e := hg.block b h1 hne
  exact ⟨Nat.lt_of_lt_of_le h1 hg.size, fun j v hj => by simp only [World.cell?, e]; exact h2 j v hj, fun j hj => by simp only [World.frozen?, e]; exact h3 j hj⟩
theorem OwnS.setOther {w : World} {base : Nat} {e : TypeId} {v : Value} {n : Nat} {xs : List Value} (h : OwnS w base e v n xs) {b o : Nat} {u : Value} (hb : b < base) : OwnS (w.setCell ⟨b, o, none⟩ u) base e v n xs :=
  own_keep h fun g hg => setCell_other w b g o u (by have := (own_lt h g hg).1; omega)
/-- A packed list as it grows: its box pb, the answer's box rb, its rows from block B on. -/
def PkSt (W : World) (B rb pb : Nat) (n low : Int) (lv hv : Value) (Ls : List Int) (Hs : List Bool) : Prop :=
  BoxAt W pb [.int .i64 n, .int .i64 low, lv, hv] ∧ BoxAt W rb [.int .i64 0, .int .i64 0, .slice none 0 0, .slice none 0 0] ∧ OwnS W B 3 lv Ls.length (intsV Ls) ∧ OwnS W B 4 hv Hs.length (boolsV Hs) ∧ (∀ g ∈ obl lv, g ∉ obl hv) ∧ pb < B ∧ rb < B ∧ rb ≠ pb
theorem PkSt.below {W W' : World} {B rb pb : Nat} {n low : Int} {lv hv : Value} {Ls : List Int} {Hs : List Bool} (h : PkSt W B rb pb n low lv hv Ls Hs) (hb : Below W.heap.size W W') : PkSt W' B rb pb n low lv hv Ls Hs :=
  ⟨h.1.below hb, h.2.1.below hb, h.2.2.1.below hb, h.2.2.2.1.below hb, h.2.2.2.2⟩
theorem PkSt.high {W W1 W2 : World} {B rb pb : Nat} {n low : Int} {lv hv hv' : Value} {Ls : List Int} {Hs : List Bool} {x : Bool} (h : PkSt W B rb pb n low lv hv Ls Hs) (hb : Below W.heap.size W W1)
    (ho : OwnS W2 B 4 hv' (Hs.length + 1) (boolsV Hs ++ [.bool x])) (hg : Off (obl hv) W1 W2) (he : ∀ g ∈ obl hv', g ∈ obl hv ∨ W1.heap.size ≤ g) : PkSt (W2.setCell ⟨pb, 3, none⟩ hv') B rb pb n low lv hv' Ls (Hs ++ [x]) := by
  obtain ⟨h1, h2, h3, h4, h5, h6, h7, h8⟩ := h.below hb
  have n1 : ∀ g ∈ obl hv, B ≤ g := fun g hg => (own_lt h4 g hg).1
  have hl : lv ∈ [lv] := by simp
  have hpb : pb ∉ obl hv := fun hm => by have := n1 _ hm; omega
  have hrb : rb ∉ obl hv := fun hm => by have := n1 _ hm; omega
  refine ⟨(h1.offI hg hpb).set 3 hv', (h2.offI hg hrb).setOther h8, (h3.off hg h5).setOther h6, ?_, fun g g1 g2 => ?_, h6, h7, h8⟩
  · have := ho.setOther (b := pb) (o := 3) (u := hv') h6
    simpa [boolsV] using this
  · rcases he g g2 with g3 | g3
    · exact h5 g g1 g3
    · have := (own_lt h3 g g1).2; omega
theorem PkSt.low {W W1 W2 : World} {B rb pb : Nat} {n low : Int} {lv lv' hv : Value} {Ls : List Int} {Hs : List Bool} {x : Int} (h : PkSt W B rb pb n low lv hv Ls Hs) (hb : Below W.heap.size W W1)
    (ho : OwnS W2 B 3 lv' (Ls.length + 1) (intsV Ls ++ [.int .i64 x])) (hg : Off (obl lv) W1 W2) (he : ∀ g ∈ obl lv', g ∈ obl lv ∨ W1.heap.size ≤ g) : PkSt (W2.setCell ⟨pb, 2, none⟩ lv') B rb pb n low lv' hv (Ls ++ [x]) Hs := by
  obtain ⟨h1, h2, h3, h4, h5, h6, h7, h8⟩ := h.below hb
  have n1 : ∀ g ∈ obl lv, B ≤ g := fun g hg => (own_lt h3 g hg).1
  have hpb : pb ∉ obl lv := fun hm => by have := n1 _ hm; omega
  have hrb : rb ∉ obl lv := fun hm => by have := n1 _ hm; omega
  refine ⟨(h1.offI hg hpb).set 2 lv', (h2.offI hg hrb).setOther h8, ?_, (h4.off hg (fun g g1 g2 => h5 g g2 g1)).setOther h6, fun g g1 g2 => ?_, h6, h7, h8⟩
  · have := ho.setOther (b := pb) (o := 2) (u := lv') h6
    simpa [intsV] using this
  · rcases he g g1 with g3 | g3
    · exact h5 g g3 g2
    · have := (own_lt h4 g g2).2; omega
theorem below_own {W W2 : World} {B : Nat} {e : TypeId} {v : Value} {n : Nat} {xs : List Value} (ho : OwnS W B e v n xs) (hB : B ≤ W.heap.size) (hg : Off (obl v) W W2) : Below B W W2 := hg.below hB (fun g hg => (own_lt ho g hg).1)
/-- 'append(row, x)' as one step of a region that draws: the row lies in the world W0 ahead. -/
theorem stepI {ops : Array Oper} {o : Oper} {a : Act} {W : World} {K : Act → World → Prop} {Q : Exit → Act → World → Prop} {E : Prop} (W0 : World) (hW : Below W0.heap.size W0 W)
    (hg : o.guard = none) (s x : Operand) (ho : o.op = Op.call { callee := Callee.builtin Builtin.append, args := #[s, x], argTypes := #[23, 23] })
    (B : Nat) (hB : B ≤ W0.heap.size) (v : Value) (n : Nat) (xs : List Value) (hown : OwnS W0 B 3 v n xs) (hn : n ≤ 100)
    (z : Int) (hrow : RowsAt W 1 (.slice (some ⟨W0.heap.size, 0, none⟩) 1 1) 1 [.int .i64 z]) (hs : a.eval s = v) (hx : a.eval x = .slice (some ⟨W0.heap.size, 0, none⟩) 1 1)
    (hK : ∀ qa qc w', OwnS w' B 3 (.slice qa (n + 1) qc) (n + 1) (xs ++ [.int .i64 z]) → Off (obl v) W w' → (∀ g ∈ obl (.slice qa (n + 1) qc), g ∈ obl v ∨ W.heap.size ≤ g) → K (a.put o.dst (.slice qa (n + 1) qc)) w') :
    if Region.wanted o (yielded ops a.tmps) = true then Oper.wp Try.prog o a W K Q else E := by
  obtain ⟨i0, hi, hzz⟩ := Option.map_eq_some_iff.1 infoI
  simp only [Prod.mk.injEq] at hzz
  obtain ⟨hz0, hz1, hz2⟩ := hzz
  have hs0 := hW.size
  refine stepS hg s x 23 ho B 3 i0 (.int .i64 0) 8 Try.underlying23 hi hz0 hz1 hz2 rfl v n xs hs (hown.below hW) _ 1 [.int .i64 z] hx hrow ?_ ?_ ?_ ?_ ?_
  · intro u hu; simp at hu; subst hu; rfl
  · unfold maxLen; omega
  · omega
  · omega
  · intro v' w' h1 h2 h3
    obtain ⟨qa, qc, rfl⟩ := (rows_of_ownS h1).slice
    exact hK qa qc w' h1 h2 h3
theorem wpStepI {o : Oper} {a : Act} {W : World} {K : Act → World → Prop} {Q : Exit → Act → World → Prop} (W0 : World) (hW : Below W0.heap.size W0 W)
    (hg : o.guard = none) (s x : Operand) (ho : o.op = Op.call { callee := Callee.builtin Builtin.append, args := #[s, x], argTypes := #[23, 23] })
    (B : Nat) (hB : B ≤ W0.heap.size) (v : Value) (n : Nat) (xs : List Value) (hown : OwnS W0 B 3 v n xs) (hn : n ≤ 100)
    (z : Int) (hrow : RowsAt W 1 (.slice (some ⟨W0.heap.size, 0, none⟩) 1 1) 1 [.int .i64 z]) (hs : a.eval s = v) (hx : a.eval x = .slice (some ⟨W0.heap.size, 0, none⟩) 1 1)
    (hK : ∀ qa qc w', OwnS w' B 3 (.slice qa (n + 1) qc) (n + 1) (xs ++ [.int .i64 z]) → Off (obl v) W w' → (∀ g ∈ obl (.slice qa (n + 1) qc), g ∈ obl v ∨ W.heap.size ≤ g) → K (a.put o.dst (.slice qa (n + 1) qc)) w') :
    Oper.wp Try.prog o a W K Q := by
  have h := stepI (ops := #[]) (E := False) (Q := Q) (K := K) W0 hW hg s x ho B hB v n xs hown hn z hrow hs hx hK
  rwa [if_pos (by simp [Region.wanted, hg])] at h
theorem PkSt.fin {W : World} {B rb pb base : Nat} {n low : Int} {lv hv u0 u1 u2 u3 : Value} {Ls : List Int} {Hs : List Bool} (h : PkSt W B rb pb n low lv hv Ls Hs) (hb : base ≤ B) :
    PkA base ((((W.setCell ⟨rb, 0, none⟩ u0).setCell ⟨rb, 1, none⟩ u1).setCell ⟨rb, 2, none⟩ u2).setCell ⟨rb, 3, none⟩ u3) lv hv ⟨n, low, Ls, Hs⟩ := by
  obtain ⟨h1, h2, h3, h4, h5, h6, h7, h8⟩ := h
  have a1 := OwnA.ofInts ((((h3.setOther (o := 0) (u := u0) h7).setOther (o := 1) (u := u1) h7).setOther (o := 2) (u := u2) h7).setOther (o := 3) (u := u3) h7)
  have a2 := OwnA.ofBools ((((h4.setOther (o := 0) (u := u0) h7).setOther (o := 1) (u := u1) h7).setOther (o := 2) (u := u2) h7).setOther (o := 3) (u := u3) h7)
  exact ⟨a1.1.mono hb, a2.1.mono hb, fun g g1 g2 => h5 g (a1.2 g g1) (a2.2 g g2)⟩
theorem pow_bd (k : Nat) (hk : k ≤ 13) : 1 ≤ (2 : Int) ^ k ∧ (2 : Int) ^ k ≤ 8192 := by
  have h1 : 2 ^ k ≤ 2 ^ 13 := Nat.pow_le_pow_right (by decide) hk
  have h2 : 1 ≤ 2 ^ k := Nat.one_le_two_pow
  have h3 : ((2 : Int) ^ k) = ((2 ^ k : Nat) : Int) := by push_cast; rfl
  have h4 : (2 : Nat) ^ 13 = 8192 := by decide
  rw [h3]; omega
theorem up_div (k : Nat) (t : Int) (h : 0 ≤ t) : t / 2 ^ k = (upN k t : Int) := by
  have hp : (0 : Int) < 2 ^ k := Int.pow_pos (by decide)
  have h1 : 0 ≤ t / 2 ^ k := Int.ediv_nonneg h (Int.le_of_lt hp)
  unfold upN; omega
theorem up_bd (k : Nat) (t : Int) (h : 0 ≤ t) (h2 : t ≤ 10000) : upN k t ≤ 10000 := by
  have hp : (0 : Int) < 2 ^ k := Int.pow_pos (by decide)
  have h1 : t / 2 ^ k ≤ t := Int.ediv_le_self _ h
  unfold upN; omega

set_option maxHeartbeats 3200000 in
set_option maxRecDepth 100000 in
theorem implPacked (v : Value) (l : List Int) (w : World) (h : IntsAt w v l) (hg : GoodL l) :
    Calls Try.prog 49 #[v] w fun e w' => ∃ lv hv, e = .returned (.agg #[.int .i64 l.length, .int .i64 (lowL l : Nat), lv, hv]) ∧ PkA w.heap.size w' lv hv (packM l) ∧ Below w.heap.size w w' := by
  obtain ⟨i0, hi, hzz⟩ := Option.map_eq_some_iff.1 infoI
  simp only [Prod.mk.injEq] at hzz
  obtain ⟨hz0, hz1, hz2⟩ := hzz
  obtain ⟨j0, hj, hyy⟩ := Option.map_eq_some_iff.1 infoB
  simp only [Prod.mk.injEq] at hyy
  obtain ⟨hy0, hy1, hy2⟩ := hyy
  have HS := hid h
  obtain ⟨va, vc, rfl⟩ := h.slice
  have hL13 := lowL_le hg
  have h60 := hg.1
  have HG := hid hg
  obtain ⟨L, hL⟩ : ∃ L, L = lowL l := ⟨_, rfl⟩
  have HL := hid hL
  obtain ⟨hQ1, hQ2⟩ := pow_bd L (by omega)
  have HLOW := fun W hW => implLowOf (.slice va l.length vc) l W hW hg
  rw [← hL] at HLOW hL13 ⊢
  clear h hg hL
  go_enter Try.func49, Try.ntmps49
  go_wp2_with fail
  refine (HLOW _ (HS.out.below (by go_grown))).mono ?_
  rintro e w1 ⟨rfl, hb1⟩
  have k1 : Below w.heap.size w w1 := (al_ w _).trans (hb1.mono (by simp))
  have bR := (boxNew w #[.int .i64 0, .int .i64 0, .slice none 0 0, .slice none 0 0] 27).below hb1
  clear hb1 HLOW
  go_upto_region 3 with fail
  obtain ⟨W1, hW1⟩ : ∃ W1, W1 = w1.alloc (.cells #[.int .i64 l.length, .int .i64 L, .slice none 0 0, .slice none 0 0] 27) := ⟨_, rfl⟩
  rw [← hW1]
  have st : PkSt W1 (w1.heap.size + 1) w.heap.size w1.heap.size l.length L (.slice none 0 0) (.slice none 0 0) [] [] := by
    have hb2 := bR.1
    have b2 := boxNew w1 #[.int .i64 l.length, .int .i64 L, .slice none 0 0, .slice none 0 0] 27
    rw [← hW1] at b2
    have b1 : BoxAt W1 w.heap.size [.int .i64 0, .int .i64 0, .slice none 0 0, .slice none 0 0] := by rw [hW1]; exact bR.below (al_ _ _)
    exact ⟨b2, b1, OwnS.nil _ _ _, OwnS.nil _ _ _, fun g hg => by simp [obl] at hg, by omega, by omega, by omega⟩
  have HK1 : Hid (Below w.heap.size w W1) := by show Below _ _ _; rw [hW1]; exact k1.alloc k1.size _
  have hpbB : w.heap.size ≤ w1.heap.size := k1.size
  have HST := hid st
  have HBW : Hid (w1.heap.size + 1 ≤ W1.heap.size) := by show _ ≤ _; rw [hW1]; simp
  obtain ⟨pb, hpb⟩ : ∃ pb, pb = w1.heap.size := ⟨_, rfl⟩
  obtain ⟨B, hB⟩ : ∃ B, B = pb + 1 := ⟨_, rfl⟩
  rw [← hpb] at HST hpbB HBW ⊢
  rw [← hB] at HST HBW
  have hbB : w.heap.size ≤ B := by omega
  clear st hW1 bR k1 hpb hB
  go_wp2
  go_loopw [4, 6, 14] (fun u t i wr => ∃ k : Nat, ∃ lv hv, k ≤ l.length ∧ i = .int .i64 k ∧ u = .int .i64 (upTo L l k : Nat) ∧ Hid (PkSt wr B w.heap.size pb l.length L lv hv ((l.take k).map (· % 2 ^ L)) (hgh L l k)) ∧ Hid (B ≤ wr.heap.size) ∧ Below w.heap.size w wr) (fun _ _ i _ => l.length - (intOf i).toNat)
  case atStart => exact ⟨0, _, _, Nat.zero_le _, rfl, by rw [upTo_zero]; rfl, by rw [hgh_zero]; exact HST.out, HBW.out, HK1.out⟩
  case round =>
    obtain ⟨k, lv, hv, hk, rfl, rfl, hst, hBS, kb⟩ := hrel
    by_cases hlt : k < l.length
    · obtain ⟨t0, ht0⟩ : ∃ t0, t0 = l.getD k 0 := ⟨_, rfl⟩
      have hbd := HG.out.2.1 k hlt
      have hule := upTo_le (k := L) HG.out k hlt
      have hub := up_bd L _ hbd.1 hbd.2
      have hdiv := up_div L _ hbd.1
      have hlen0 := hgh_len (k := L) HG.out k (by omega)
      have HNH := hid (hgh_succ L l k hlt)
      have HNU := hid (upTo_succ L l k hlt)
      have HNL : Hid ((l.take (k + 1)).map (· % 2 ^ L) = (l.take k).map (· % 2 ^ L) ++ [t0 % 2 ^ L]) := by show _ = _; rw [take_sn l k hlt, ht0]; simp
      obtain ⟨bl, off, cp, hce, hbl, hc⟩ : ∃ bl off cp, Value.slice va l.length vc = .slice (some ⟨bl, off, none⟩) l.length cp ∧ bl < w.heap.size ∧ w.cell? ⟨bl, off + k, none⟩ = some (.int .i64 t0) := by
        rcases HS.out with ⟨_, _, _, e⟩ | ⟨b, off, cap, e, hb, hcell⟩
        · rw [e] at hlt; cases hlt
        · exact ⟨b, off, cap, e, hb, by rw [ht0]; exact hcell k hlt⟩
      cases hce
      have hcw : wr.cell? ⟨bl, off + k, none⟩ = some (.int .i64 t0) := (kb.cell (p := ⟨bl, off + k, none⟩) hbl).trans hc
      rw [← ht0] at hbd hule hub hdiv HNH HNU
      obtain ⟨U, hU⟩ : ∃ U, U = upN L t0 := ⟨_, rfl⟩
      rw [← hU] at hule hub hdiv HNH HNU
      obtain ⟨u0, hu0⟩ : ∃ u0, u0 = upTo L l k := ⟨_, rfl⟩
      rw [← hu0] at hule HNH hlen0 ⊢
      have hki : (k : Int) < (l.length : Int) := by omega
      have HKB := hid kb
      obtain ⟨Hs, hHs⟩ : ∃ Hs, Hs = hgh L l k := ⟨_, rfl⟩
      rw [← hHs] at hst HNH hlen0
      obtain ⟨Ls, hLs⟩ : ∃ Ls, Ls = (l.take k).map (· % 2 ^ L) := ⟨_, rfl⟩
      rw [← hLs] at hst HNL
      have hLsl : Ls.length = k := by rw [hLs]; simp; omega
      have HST2 := hst
      clear hst hc hHs hLs hU hu0 ht0 HST kb HBW
      go_wp2
      go_loopw [4] (fun u wr2 => ∃ j : Nat, ∃ hv, u0 ≤ j ∧ j ≤ U ∧ u = .int .i64 j ∧ Hid (PkSt wr2 B w.heap.size pb l.length L lv hv Ls (Hs ++ List.replicate (j - u0) false)) ∧ Hid (B ≤ wr2.heap.size) ∧ Below w.heap.size w wr2) (fun u _ => U - (intOf u).toNat)
      case atStart => exact ⟨u0, hv, Nat.le_refl _, hule, rfl, by simpa using HST2, hBS, HKB.out⟩
      case round =>
        obtain ⟨j, hv2, hj1, hj2, rfl, hst2, hBS2, kb2⟩ := hrel
        have how := hst2.out.2.2.2.1
        have hlen2 : (Hs ++ List.replicate (j - u0) false).length = j + k := by simp; omega
        rw [hlen2] at how
        have b0 := hst2.out.1
        have c1 := b0.2.1 1 _ rfl
        have c3 := b0.2.1 3 _ rfl
        have hpl := b0.1
        have hnb : pb ∉ obl hv2 := fun hm => by have := (own_lt how _ hm).1; have := hst2.out.2.2.2.2.2.1; omega
        have hBS3 := hBS2.out
        obtain ⟨xa, xc, hxe⟩ := (rows_of_ownS how).slice
        subst hxe
        have HKB2 := hid kb2
        by_cases hju : j < U
        · have hji : (j : Int) < (U : Int) := by omega
          have HH : Hid (Hs ++ List.replicate (j - u0) false ++ [false] = Hs ++ List.replicate (j + 1 - u0) false) := by
            show _ = _
            rw [List.append_assoc, show j + 1 - u0 = (j - u0) + 1 by omega, List.replicate_succ']
          clear kb2 b0
          go_wp2_with (first | (at_builtin; refine wplS rfl _ _ 25 rfl B 4 j0 (.bool false) 1 Try.underlying25 hj hy0 hy1 hy2 rfl _ _ _ rfl (how.alloc _) _ 1 [.bool false] rfl (news1 _ _ _) ?c1 ?c2 ?c3 ?c4 ?_) | fail)
          case c1 => first | rfl | (intro u hu; simp at hu; subst hu; rfl)
          case c2 => unfold maxLen; omega
          case c3 => omega
          case c4 => first | omega | (simp; omega)
          intro x1 w4 ho1 hg1 he1
          obtain ⟨ya, yc, hye⟩ := (rows_of_ownS ho1).slice
          subst hye
          have b1 := (hst2.out.1.below (al_ wr (.cells #[.bool false] 4))).offI hg1 hnb
          have HN := hid (PkSt.high (x := false) hst2.out (al_ _ _) (by rw [hlen2]; exact ho1) hg1 (by simpa using he1))
          rw [HH.out] at HN
          have k4 : Below w.heap.size wr w4 := ((Below.refl _ _).alloc (by omega) _).trans ((below_own (how.alloc _) (by simp; omega) hg1).mono hbB)
          have HK4 := hid (bel_set (HKB2.out.trans k4) hpbB 3 (.slice ya (j + k + 1) yc))
          have HB4 : Hid (B ≤ (w4.setCell ⟨pb, 3, none⟩ (.slice ya (j + k + 1) yc)).heap.size) := by
            show _ ≤ _
            have := hg1.size
            simp at this ⊢; omega
          have d3 := b1.2.1 3 _ rfl
          have f3 := b1.2.2 3 (by simp)
          have hpl4 := b1.1
          clear ho1 hg1 he1 b1 k4 c1 c3 hpl how
          go_wp2
          refine ⟨?_, by simp [intOf]; omega⟩
          first | exact ⟨j + 1, _, by omega, by omega, by go_num, HN.out, HB4.out, HK4.out⟩ | ((repeat apply Exists.intro); exact ⟨⟨j + 1, _, by omega, by omega, by go_num, HN.out, HB4.out, HK4.out⟩, rfl⟩)
        · have hje : j = U := by omega
          subst hje
          have hji : ¬ (j : Int) < (j : Int) := by omega
          clear kb2 b0
          go_wp2_with (first | (at_builtin; refine wplS rfl _ _ 25 rfl B 4 j0 (.bool false) 1 Try.underlying25 hj hy0 hy1 hy2 rfl _ _ _ rfl (how.alloc _) _ 1 [.bool true] rfl (news1 _ _ _) ?c1 ?c2 ?c3 ?c4 ?_) | fail)
          case c1 => first | rfl | (intro u hu; simp at hu; subst hu; rfl)
          case c2 => unfold maxLen; omega
          case c3 => omega
          case c4 => first | omega | (simp; omega)
          intro x1 w4 ho1 hg1 he1
          obtain ⟨ya, yc, hye⟩ := (rows_of_ownS ho1).slice
          subst hye
          have b1 := (hst2.out.1.below (al_ wr (.cells #[.bool true] 4))).offI hg1 hnb
          have HN := hid (PkSt.high (x := true) hst2.out (al_ _ _) (by rw [hlen2]; exact ho1) hg1 (by simpa using he1))
          rw [List.append_assoc, ← HNH.out] at HN
          have k4 : Below w.heap.size wr w4 := ((Below.refl _ _).alloc (by omega) _).trans ((below_own (how.alloc _) (by simp; omega) hg1).mono hbB)
          have HK4 := hid (bel_set (HKB2.out.trans k4) hpbB 3 (.slice ya (j + k + 1) yc))
          have HB4 : Hid (B ≤ (w4.setCell ⟨pb, 3, none⟩ (.slice ya (j + k + 1) yc)).heap.size) := by
            show _ ≤ _
            have := hg1.size
            simp at this ⊢; omega
          have d3 := b1.2.1 3 _ rfl
          have f3 := b1.2.2 3 (by simp)
          have hpl4 := b1.1
          clear ho1 hg1 he1 b1 k4 c1 c3 hpl how
          go_upto_region 10 with fail
          obtain ⟨W5, hW5⟩ : ∃ W5, W5 = w4.setCell ⟨pb, 3, none⟩ (.slice ya (j + k + 1) yc) := ⟨_, rfl⟩
          rw [← hW5] at HN HK4 HB4 ⊢
          clear hW5 d3 f3 hpl4 hst2 hBS2 HKB2 HKB hcw
          have b5 := HN.out.1
          have hol := HN.out.2.2.1
          rw [hLsl] at hol
          obtain ⟨za, zc, hze⟩ := (rows_of_ownS hol).slice
          subst hze
          have e1 := b5.2.1 1 _ rfl
          have e2 := b5.2.1 2 _ rfl
          have f2 := b5.2.2 2 (by simp)
          have hpl5 := b5.1
          have hBS5 := HB4.out
          have hnb5 : pb ∉ obl (.slice za k zc) := fun hm => by have := (own_lt hol _ hm).1; have := HN.out.2.2.2.2.2.1; omega
          obtain ⟨Z, hZ⟩ : ∃ Z, Z = t0 % 2 ^ L := ⟨_, rfl⟩
          obtain ⟨Q, hQ⟩ : ∃ Q, Q = (2 : Int) ^ L := ⟨_, rfl⟩
          rw [← hZ] at HNL
          rw [← hQ] at hZ hQ1 hQ2
          have hQe := hQ.symm
          have hQw : IntKind.i64.wrap Q = Q := by rw [IntKind.wrap_i64]; omega
          have hQ0 : ¬ Q = 0 := by omega
          have hr : Int.tmod t0 Q = Z := by rw [Int.tmod_eq_emod_of_nonneg hbd.1, hZ]
          have hr2 : t0 % Q = Z := hZ.symm
          have hZ0 : 0 ≤ Z := by rw [hZ]; exact Int.emod_nonneg _ hQ0
          have hZ1 : Z < 8192 := by have := Int.emod_lt_of_pos t0 (show 0 < Q by omega); omega
          clear hQ hZ
          have HSK : Hid (∀ W, Below W5.heap.size W5 W → (fun w' : World => w'.cell? ⟨pb, 1, none⟩ = some (.int .i64 (L : Int)) ∧ w'.cell? ⟨pb, 2, none⟩ = some (.slice za k zc)) W) := fun W hW => ⟨(hW.cell hpl5).trans e1, (hW.cell hpl5).trans e2⟩
          have kd : Below W5.heap.size W5 W5.drew := Below.drew (Below.refl _ _)
          have hHeld := HSK.out W5.drew kd
          clear e1 e2 f2
          refine wp_region_swapL (m := 10) (S := fun w' : World => w'.cell? ⟨pb, 1, none⟩ = some (.int .i64 (L : Int)) ∧ w'.cell? ⟨pb, 2, none⟩ = some (.slice za k zc)) (by kernel_rfl) rfl rfl rfl rfl (by kernel_rfl) (by kernel_rfl) ?_
          simp only [List.set_cons_zero, List.set_cons_succ]
          refine takeL (i := 0) (v := ?_) rfl (by kernel_rfl) (by kernel_rfl) (by kernel_rfl) (fun _ _ _ h => h) rfl ?_ (by assumption) ?_
          rotate_left
          · intro w hSw; (try dsimp only at hSw); go_simp; (try with_reducible rfl)
          (try simp only [Act.put, List.setIfInBounds_toArray, List.set_cons_zero, List.set_cons_succ])
          refine takeL (i := 1) (v := ?_) rfl (by kernel_rfl) (by kernel_rfl) (by kernel_rfl) (fun _ _ _ h => h) rfl ?_ (by assumption) ?_
          rotate_left
          · intro w hSw; (try dsimp only at hSw); go_simp; (try with_reducible rfl)
          (try simp only [Act.put, List.setIfInBounds_toArray, List.set_cons_zero, List.set_cons_succ])
          refine takeL (i := 2) (v := ?_) rfl (by kernel_rfl) (by kernel_rfl) (by kernel_rfl) (fun _ _ _ h => h) rfl ?_ (by assumption) ?_
          rotate_left
          · intro w hSw; (try dsimp only at hSw); go_simp; (try with_reducible rfl)
          (try simp only [Act.put, List.setIfInBounds_toArray, List.set_cons_zero, List.set_cons_succ])
          refine takeL (i := 3) (v := ?_) rfl (by kernel_rfl) (by kernel_rfl) (by kernel_rfl) (fun _ _ _ h => h) rfl ?_ (by assumption) ?_
          rotate_left
          · intro w hSw; (try dsimp only at hSw); go_simp; (try with_reducible rfl)
          (try simp only [Act.put, List.setIfInBounds_toArray, List.set_cons_zero, List.set_cons_succ])
          refine takeL (i := 4) (v := ?_) rfl (by kernel_rfl) (by kernel_rfl) (by kernel_rfl) (fun _ _ _ h => h) rfl ?_ (by assumption) ?_
          rotate_left
          · intro w hSw; (try dsimp only at hSw); go_simp; (try with_reducible rfl)
          (try simp only [Act.put, List.setIfInBounds_toArray, List.set_cons_zero, List.set_cons_succ])
          refine takeL (i := 5) (v := ?_) rfl (by kernel_rfl) (by kernel_rfl) (by kernel_rfl) (fun _ _ _ h => h) rfl ?_ (by assumption) ?_
          rotate_left
          · intro w hSw; (try dsimp only at hSw); go_simp; (try with_reducible rfl)
          (try simp only [Act.put, List.setIfInBounds_toArray, List.set_cons_zero, List.set_cons_succ])
          refine takeL (i := 6) (v := ?_) rfl (by kernel_rfl) (by kernel_rfl) (by kernel_rfl) (fun _ _ _ h => h) rfl ?_ (by assumption) ?_
          rotate_left
          · intro w hSw; (try dsimp only at hSw); go_simp; (try with_reducible rfl)
          (try simp only [Act.put, List.setIfInBounds_toArray, List.set_cons_zero, List.set_cons_succ])
          refine comesL (i := 7) rfl rfl (by kernel_rfl) (fun K hK => ?_)
          go_simp
          obtain ⟨W7, hW7⟩ : ∃ W7, W7 = (W5.alloc (.cells #[.int .i64 Z] 3)).drew := ⟨_, rfl⟩
          have hrw7 : RowsAt W7 1 (.slice (some ⟨W5.heap.size, 0, none⟩) 1 1) 1 [.int .i64 Z] := by rw [hW7]; exact (news1 W5 (.int .i64 Z) 3).below (by go_grown)
          have k7 : Below W5.heap.size W5 W7 := by rw [hW7]; go_grown
          rw [← hW7]
          clear hW7
          refine hK.out _ _ (HSK.out W7 k7) (fun hH2 => ?_)
          clear hK K
          replace hHeld := hH2
          clear hH2
          (try simp only [Act.put, List.setIfInBounds_toArray, List.set_cons_zero, List.set_cons_succ])
          refine comesL (i := 8) rfl rfl (by kernel_rfl) (fun K hK => ?_)
          refine wpStepI W5 k7 rfl (.tmp 37) (.tmp 43) rfl B hBS5 (.slice za k zc) k (intsV Ls) hol (by omega) Z hrw7 rfl rfl ?_
          intro qa qc w8 ho8 hg8 he8
          have b8 := (b5.below k7).offI hg8 hnb5
          have HN8 := hid (PkSt.low (x := Z) HN.out k7 (by rw [hLsl]; exact ho8) hg8 he8)
          rw [← HNL.out] at HN8
          have k8 : Below w.heap.size W5 w8 := (k7.mono HK4.out.size).trans ((below_own (hol.below k7) (Nat.le_trans hBS5 k7.size) hg8).mono hbB)
          have HK8 := hid (bel_set (HK4.out.trans k8) hpbB 2 (.slice qa (k + 1) qc))
          have HB8 : Hid (B ≤ (w8.setCell ⟨pb, 2, none⟩ (.slice qa (k + 1) qc)).heap.size) := by
            show _ ≤ _
            have := k8.size
            have := k7.size
            have := hg8.size
            simp; omega
          have g1 := b8.2.1 1 _ rfl
          have g2 := b8.2.1 2 _ rfl
          have gf := b8.2.2 2 (by simp)
          have gl := b8.1
          clear ho8 hg8 he8 k8 k7 hrw7 b8 b5 hol hHeld
          (try dsimp only)
          refine hK.out _ _ ⟨g1, g2⟩ (fun hH2 => ?_)
          clear hK K
          have hHeld := hH2
          clear hH2 HSK kd
          (try simp only [Act.put, List.setIfInBounds_toArray, List.set_cons_zero, List.set_cons_succ])
          refine takeL (i := 9) (v := ?_) rfl (by kernel_rfl) (by kernel_rfl) (by kernel_rfl) (fun _ _ _ h => h) rfl ?_ (by assumption) ?_
          rotate_left
          · intro w hSw; (try dsimp only at hSw); go_simp; (try with_reducible rfl)
          (try simp only [Act.put, List.setIfInBounds_toArray, List.set_cons_zero, List.set_cons_succ])
          refine takeL (i := 10) (v := ?_) rfl (by kernel_rfl) (by kernel_rfl) (by kernel_rfl) (fun _ _ _ h => h) rfl ?_ (by assumption) ?_
          rotate_left
          · intro w hSw; (try dsimp only at hSw); go_simp; (try with_reducible rfl)
          (try simp only [Act.put])
          refine wpAnyH_done (by kernel_rfl) ?_ _
          simp only [LastQ]
          go_simp
          go_wp2
          refine ⟨?_, by simp [intOf]; omega⟩
          first | exact ⟨k + 1, _, _, by omega, by go_num, by rw [HNU.out], HN8.out, HB8.out, HK8.out⟩ | ((repeat apply Exists.intro); exact ⟨⟨k + 1, _, _, by omega, by go_num, by rw [HNU.out], HN8.out, HB8.out, HK8.out⟩, rfl⟩)
    · have hke : k = l.length := by omega
      subst hke
      have hki : ¬ (l.length : Int) < (l.length : Int) := by omega
      have hst2 := hst.out
      rw [List.take_length] at hst2
      have HP := hid hst2
      obtain ⟨za, zc, hze⟩ := (rows_of_ownS hst2.2.2.1).slice
      obtain ⟨ya, yc, hye⟩ := (rows_of_ownS hst2.2.2.2.1).slice
      subst hze
      subst hye
      have b0 := hst2.1
      have bR := hst2.2.1
      have x0 := b0.2.1 0 _ rfl
      have x1 := b0.2.1 1 _ rfl
      have x2 := b0.2.1 2 _ rfl
      have x3 := b0.2.1 3 _ rfl
      have hpl := b0.1
      have r0 := bR.2.1 0 _ rfl
      have r1 := bR.2.1 1 _ rfl
      have r2 := bR.2.1 2 _ rfl
      have r3 := bR.2.1 3 _ rfl
      have s0 := bR.2.2 0 (by simp)
      have s1 := bR.2.2 1 (by simp)
      have s2 := bR.2.2 2 (by simp)
      have s3 := bR.2.2 3 (by simp)
      have hrl := bR.1
      have hne := hst2.2.2.2.2.2.2.2
      have HBR := hid bR
      have HKB := hid kb
      clear hst hst2 b0 bR kb hBS
      go_wp2_with fail
      have c1 := HBR.out.set 0 (.int .i64 l.length)
      have c2 := c1.set 1 (.int .i64 L)
      have c3 := c2.set 2 (.slice za ((l.map (· % 2 ^ L))).length zc)
      have c4 := c3.set 3 (.slice ya (hgh L l l.length).length yc)
      rw [List.length_map] at c3 c4
      have y0 := c4.2.1 0 _ rfl
      have y1 := c4.2.1 1 _ rfl
      have y2 := c4.2.1 2 _ rfl
      have y3 := c4.2.1 3 _ rfl
      clear x0 x1 x2 x3 r0 r1 r2 r3 s0 s1 s2 s3 c1 c2 c3 c4
      refine bodyPost_ret (v := .agg #[.int .i64 l.length, .int .i64 L, .slice za l.length zc, .slice ya (hgh L l l.length).length yc]) ?r rfl ?_
      case r => simp [y0, y1, y2, y3, results, Try.results49, go_sem]; try rfl
      have hfin := HP.out.fin (base := w.heap.size) (u0 := .int .i64 l.length) (u1 := .int .i64 L) (u2 := .slice za l.length zc) (u3 := .slice ya (hgh L l l.length).length yc) hbB
      refine ⟨_, _, rfl, ?_, bel_set (bel_set (bel_set (bel_set HKB.out (Nat.le_refl _) _ _) (Nat.le_refl _) _ _) (Nat.le_refl _) _ _) (Nat.le_refl _) _ _⟩
      unfold packM
      rw [← HL.out]
      simpa using hfin
end Go.Proofs.Ytaafdcghafbfhaa
