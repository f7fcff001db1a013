/- Contracts of the model's drawing of packed lists. Condition: the bytes that are drawn from lie in memory. -/
import Derived.Test.YtaafdcghafbfhaaDrawL8
import Derived.Test.YtaafdcghafbfhaaSpecPkS
namespace Go.Proofs.Ytaafdcghafbfhaa
open Go.ChangeShapes Go.WideShapes Go.ChangeAt Go.RowKit Go.Deep
set_option linter.unusedVariables false
attribute [local go_sem ↓] Go.wp_at_zero Go.wp_at_succ

/-- A packed list that was drawn. -/
def PkB (base : Nat) (w : World) (lv hv : Value) (p : Pk) : Prop := (OwnA base w lv p.lows.length (fun i => .int .i64 (p.lows.getD i 0)) ∧ OwnA base w hv p.high.length (fun i => .bool (p.high.getD i false))) ∧ p.lows.length ≤ 60 ∧ p.high.length ≤ 181
theorem PkB.at {base : Nat} {w : World} {lv hv : Value} {p : Pk} (h : PkB base w lv hv p) : PkAt w lv hv p := ⟨h.1.1.ints, h.1.2.bools⟩
theorem PkB.below {base : Nat} {w w' : World} {lv hv : Value} {p : Pk} (h : PkB base w lv hv p) (hb : Below w.heap.size w w') : PkB base w' lv hv p := ⟨⟨h.1.1.below hb, h.1.2.below hb⟩, h.2⟩
theorem PkB.off {base : Nat} {w w' : World} {lv hv : Value} {p : Pk} {S : List Nat} (h : PkB base w lv hv p) (hb : Off S w w') (hd : ∀ g ∈ S, g < base) : PkB base w' lv hv p :=
  ⟨⟨h.1.1.off hb fun g hg hm => (by have := (h.1.1.lt g hg).1; have := hd g hm; omega), h.1.2.off hb fun g hg hm => (by have := (h.1.2.lt g hg).1; have := hd g hm; omega)⟩, h.2⟩
theorem PkB.mono {base base' : Nat} {w : World} {lv hv : Value} {p : Pk} (h : PkB base w lv hv p) (hb : base' ≤ base) : PkB base' w lv hv p := ⟨⟨h.1.1.mono hb, h.1.2.mono hb⟩, h.2⟩
theorem PkS.b {base : Nat} {w : World} {lv hv : Value} {p : Pk} (h : PkS base w lv hv p) (h1 : p.lows.length ≤ 60) (h2 : p.high.length ≤ 181) : PkB base w lv hv p := ⟨⟨(OwnA.ofInts h.1).1, (OwnA.ofBools h.2.1).1⟩, h1, h2⟩
theorem PkS.offR {base : Nat} {w w' : World} {lv hv : Value} {p : Pk} {S : List Nat} (h : PkS base w lv hv p) (hb : Off S w w') (hd : ∀ g ∈ obl lv ++ obl hv, g ∉ S) : PkS base w' lv hv p :=
  ⟨h.1.off hb fun g hg => hd g (by simp [hg]), h.2.1.off hb fun g hg => hd g (by simp [hg]), h.2.2⟩
/-- One answer of the model's PackList. -/
theorem specPackAny (l : List Int) (hl : l.length ≤ 1048576) : ∃ (p : Pk) (ok : Bool), (0 ≤ p.low ∧ p.low ≤ 13) ∧ p.lows.length ≤ 60 ∧ p.high.length ≤ 180 ∧
    ∀ x W, IntsAt W x l → Calls Try.prog 15 #[x] W fun e w' => ∃ lv hv, e = .returned (.tuple #[.agg #[.int .i64 p.many, .int .i64 p.low, lv, hv], .bool ok]) ∧ PkS W.heap.size w' lv hv p ∧ Below W.heap.size W w' := by
  by_cases hg : GoodL l
  · have h1 := high_len hg
    have h2 := hg.1
    have h3 := lowL_le hg
    exact ⟨packM l, true, by simp only [packM]; omega, by simp [packM]; omega, by simp only [packM]; omega, fun x W h => specPackYesS x l W h hg⟩
  · refine ⟨⟨0, 0, [], []⟩, false, by simp, by simp, by simp, fun x W h => (specPackNo x l W h hl hg).mono (fun e w' h => ?_)⟩
    obtain ⟨rfl, hb⟩ := h
    exact ⟨_, _, rfl, ⟨OwnS.nil _ _ _, OwnS.nil _ _ _, fun g hg => by simp [obl] at hg⟩, hb⟩
theorem wpStepB {o : Oper} {a : Act} {W : World} {K : Act → World → Prop} {Q : Exit → Act → World → Prop}
    (hg : o.guard = none) (s x : Operand) (ho : o.op = Op.call { callee := Callee.builtin Builtin.append, args := #[s, x], argTypes := #[25, 25] })
    (B : Nat) (hB : B ≤ W.heap.size) (v : Value) (n : Nat) (xs : List Value) (hown : OwnS W B 4 v n xs) (hn : n ≤ 200)
    (z : Bool) (gx : Nat) (hrow : RowsAt W 1 (.slice (some ⟨gx, 0, none⟩) 1 1) 1 [.bool z]) (hs : a.eval s = v) (hx : a.eval x = .slice (some ⟨gx, 0, none⟩) 1 1)
    (hK : ∀ qa qc w', OwnS w' B 4 (.slice qa (n + 1) qc) (n + 1) (xs ++ [.bool z]) → Off (obl v) W w' → (∀ g ∈ obl (.slice qa (n + 1) qc), g ∈ obl v ∨ W.heap.size ≤ g) → K (a.put o.dst (.slice qa (n + 1) qc)) w') :
    Oper.wp Try.prog o a W K Q := by
  obtain ⟨j0, hj, hyy⟩ := Option.map_eq_some_iff.1 infoB
  simp only [Prod.mk.injEq] at hyy
  obtain ⟨hy0, hy1, hy2⟩ := hyy
  have h := stepS (P := Try.prog) (ops := #[]) (E := False) (Q := Q) (K := K) hg s x 25 ho B 4 j0 (.bool false) 1 Try.underlying25 hj hy0 hy1 hy2 rfl v n xs hs hown _ 1 [.bool z] hx hrow (by intro u hu; simp at hu; subst hu; rfl) (by unfold maxLen; omega) (by omega) hB (fun v' w' h1 h2 h3 => by
    obtain ⟨qa, qc, rfl⟩ := (rows_of_ownS h1).slice
    exact hK qa qc w' h1 h2 h3)
  rwa [if_pos (by simp [Region.wanted, hg])] at h
set_option maxHeartbeats 6400000 in
set_option maxRecDepth 100000 in
theorem packedIn (g : Nat) (v : Value) (n m : Nat) (w : World) (hc : CurAt w g v m) (hb : BytesAt w g v n) (hm : m ≤ 1000000 - 300) :
    Calls Try.prog 59 #[.pointer (some ⟨g, 0, none⟩)] w fun e w' => ∃ (lv hv : Value) (p : Pk), e = .returned (.agg #[.int .i64 p.many, .int .i64 p.low, lv, hv]) ∧ PkB w.heap.size w' lv hv p ∧ Drawn w w' g v n (m + 210) := by
  have hgl := hc.lt
  have HB := hidD hb
  obtain ⟨W0, hW0⟩ : ∃ W0, W0 = w.alloc (.cells #[.int .i64 0, .int .i64 0, .slice none 0 0, .slice none 0 0] 27) := ⟨_, rfl⟩
  have k0 : Below w.heap.size w W0 := by rw [hW0]; exact al_ _ _
  have bR : BoxAt W0 w.heap.size [.int .i64 0, .int .i64 0, .slice none 0 0, .slice none 0 0] := by rw [hW0]; exact boxNew w _ _
  have HD0 : Hid (Drawn w W0 g v n m) := (show Drawn w w g v n m from ⟨hc, hb, World.grownBy.refl _ _⟩).below k0
  have hs0 : w.heap.size + 1 ≤ W0.heap.size := by rw [hW0]; simp
  have HBR := hidD bR
  have HW0 := hidD hW0
  clear hc hb bR k0 hW0
  go_enter Try.func59, Try.ntmps59
  go_upto_region 1 with fail
  rw [← HW0.out]
  clear HW0
  go_wp2_with fail
  refine (list8In g v n m W0 HD0.out.1 HD0.out.2.1 (by omega)).mono ?_
  rintro e w1 ⟨x, l, rfl, hox, hl61, hd1⟩
  have HD1 := hidD (HD0.out.trans hd1)
  have HBR1 := hidD (HBR.out.offI (drawn_off hd1) (by simp; omega))
  have hs1 : w.heap.size + 1 ≤ w1.heap.size := Nat.le_trans hs0 hd1.2.2.size
  have HIX := hidD hox.ints
  obtain ⟨p, ok, ⟨hlow0, hlow1⟩, hp1, hp2, HSP⟩ := specPackAny l (by omega)
  have HSPX := HSP x w1 HIX.out
  clear hox hd1 HD0 HBR HSP hl61 hs0
  go_wp2_with fail
  refine HSPX.mono ?_
  rintro e w2 ⟨lv, hv, rfl, hpk, hb2⟩
  obtain ⟨la, lc, hle⟩ := (rows_of_ownS hpk.1).slice
  subst hle
  obtain ⟨ha, hc, hhe⟩ := (rows_of_ownS hpk.2.1).slice
  subst hhe
  have hs2 : w.heap.size + 1 ≤ w2.heap.size := Nat.le_trans hs1 hb2.size
  obtain ⟨W3, hW3⟩ : ∃ W3, W3 = w2.alloc (.cells #[.int .i64 p.many, .int .i64 p.low, .slice la p.lows.length lc, .slice ha p.high.length hc] 27) := ⟨_, rfl⟩
  have k3 : Below w2.heap.size w2 W3 := by rw [hW3]; exact al_ _ _
  have HBP3 : Hid (BoxAt W3 w2.heap.size [.int .i64 p.many, .int .i64 p.low, .slice la p.lows.length lc, .slice ha p.high.length hc]) := by show BoxAt _ _ _; rw [hW3]; exact boxNew w2 _ _
  have HD3 := hidD ((HD1.out.below hb2).below k3)
  have HBR3 := hidD ((HBR1.out.below hb2).below k3)
  have HPK3 := hidD (hpk.below k3)
  have HPL : Hid (∀ j ∈ obl (.slice la p.lows.length lc) ++ obl (.slice ha p.high.length hc), w1.heap.size ≤ j ∧ j < w2.heap.size) := fun j hj => by
    rcases List.mem_append.1 hj with h | h
    · exact own_lt hpk.1 j h
    · exact own_lt hpk.2.1 j h
  have HW3 := hidD hW3
  have HSZ : Hid (w1.heap.size ≤ w2.heap.size) := hb2.size
  clear hpk hb2 HD1 HBR1 HSPX HIX k3 hW3
  go_upto_region 2 with fail
  rw [← HW3.out]
  clear HW3
  generalize w2.heap.size = pb at *
  go_wp2_with fail
  refine (pickIn g v n (m + 200) 20 W3 HD3.out.1 HD3.out.2.1 (by omega) (by omega) (by omega)).mono ?_
  rintro e w4 ⟨kk, rfl, hk0, hk1, hd4⟩
  have HD4 := hidD (HD3.out.trans hd4)
  have hgp : g < pb := by omega
  have HBP4 := hidD (HBP3.out.offI (drawn_off hd4) (by simp; omega))
  have HBR4 := hidD (HBR3.out.offI (drawn_off hd4) (by simp; omega))
  have HPK4 := hidD (HPK3.out.off (drawn_off hd4) (fun j hj => by simp at hj; omega))
  have hs4 : w.heap.size < w4.heap.size := HBR4.out.1
  clear hd4 HD3 HBP3 HBR3 HPK3
  by_cases e0 : kk = 0
  case' pos =>
    have i0 : (kk == 0) = true := by simp [e0]
    have f1 := HBP4.out.2.1 1 _ rfl
    have z1 := HBP4.out.2.2 1 (by simp)
    have hpl := HBP4.out.1
    have hOf := off_set8 w4 pb 1 (.int .i64 (p.low + 1))
    obtain ⟨p6, q1, q2, q3, q4⟩ : ∃ p6 : Pk, p6.many = p.many ∧ p6.low = p.low + 1 ∧ p6.lows = p.lows ∧ p6.high = p.high := ⟨⟨p.many, p.low + 1, p.lows, p.high⟩, rfl, rfl, rfl, rfl⟩
    have HBP6 : Hid (BoxAt (w4.setCell ⟨pb, 1, none⟩ (.int .i64 (p.low + 1))) pb [.int .i64 p6.many, .int .i64 p6.low, .slice la p6.lows.length lc, .slice ha p6.high.length hc]) := by
      show BoxAt _ _ _
      rw [q1, q2, q3, q4]; exact HBP4.out.set 1 (.int .i64 (p.low + 1))
    have HBR6 := hidD (HBR4.out.setOther (g := pb) (o := 1) (u := .int .i64 (p.low + 1)) (by omega))
    have HPB6 : Hid (PkB w1.heap.size (w4.setCell ⟨pb, 1, none⟩ (.int .i64 (p.low + 1))) (.slice la p6.lows.length lc) (.slice ha p6.high.length hc) p6) := by
      have h6 := (HPK4.out.offR hOf (fun j hj hm => by have := (HPL.out j hj).2; simp at hm; omega)).b hp1 (by omega)
      show PkB _ _ _ _ _
      unfold PkB at h6 ⊢
      rw [q3, q4]; exact h6
    have HD6 := hidD (Drawn.offN HB.out hgl HD4.out hOf (fun j hj => by simp at hj; omega))
    replace HD6 := hidD (HD6.out.mono8 (m' := m + 206) (by omega))
    clear hOf e0 HBP4 HBR4 HPK4 HD4 q1 q2 q3 q4
    go_upto_region 10 with fail
    generalize w4.setCell ⟨pb, 1, none⟩ (.int .i64 (p.low + 1)) = W6 at *
    obtain ⟨a6, ha6⟩ : ∃ a6, a6 = la := ⟨_, rfl⟩
    obtain ⟨b6, hb6⟩ : ∃ b6, b6 = ha := ⟨_, rfl⟩
    obtain ⟨c6, hc6⟩ : ∃ c6, c6 = lc := ⟨_, rfl⟩
    obtain ⟨d6, hd6⟩ : ∃ d6, d6 = hc := ⟨_, rfl⟩
    rw [← ha6, ← hb6, ← hc6, ← hd6] at HBP6 HPB6
    clear ha6 hb6 hc6 hd6 f1 z1 hpl i0
  case' neg =>
    have i0 : (kk == 0) = false := by simp [e0]
    by_cases e1 : kk = 1
    case' pos =>
      have i1 : (kk == 1) = true := by simp [e1]
      go_upto_region 6 with fail
      have f3 := HBP4.out.2.1 3 _ rfl
      have hpl := HBP4.out.1
      have hHeld : (fun w' : World => w'.cell? ⟨pb, 3, none⟩ = some (.slice ha p.high.length hc)) w4.drew := f3
      have HDd := hidD (HD4.out.below (Below.drew (Below.refl _ _)))
      refine wp_region_swapL (m := 7) (S := fun w' : World => w'.cell? ⟨pb, 3, none⟩ = some (.slice ha p.high.length hc)) (by kernel_rfl) rfl rfl rfl rfl (by kernel_rfl) (by kernel_rfl) ?_
      simp only [List.set_cons_zero, List.set_cons_succ]
      refine takeL (i := 0) (v := ?_) rfl (by kernel_rfl) (by kernel_rfl) (by kernel_rfl) (fun _ _ _ h => h) rfl ?_ (by assumption) ?_
      rotate_left
      · intro w hSw; (try dsimp only at hSw); go_simp; (try with_reducible rfl)
      (try simp only [Act.put, List.setIfInBounds_toArray, List.set_cons_zero, List.set_cons_succ])
      refine takeL (i := 1) (v := ?_) rfl (by kernel_rfl) (by kernel_rfl) (by kernel_rfl) (fun _ _ _ h => h) rfl ?_ (by assumption) ?_
      rotate_left
      · intro w hSw; (try dsimp only at hSw); go_simp; (try with_reducible rfl)
      (try simp only [Act.put, List.setIfInBounds_toArray, List.set_cons_zero, List.set_cons_succ])
      refine takeL (i := 2) (v := ?_) rfl (by kernel_rfl) (by kernel_rfl) (by kernel_rfl) (fun _ _ _ h => h) rfl ?_ (by assumption) ?_
      rotate_left
      · intro w hSw; (try dsimp only at hSw); go_simp; (try with_reducible rfl)
      (try simp only [Act.put, List.setIfInBounds_toArray, List.set_cons_zero, List.set_cons_succ])
      refine comesL (i := 3) rfl rfl (by kernel_rfl) (fun K hK => ?_)
      go_simp
      refine (oneIn g v n (m + 202) 2 w4.drew HDd.out.1 HDd.out.2.1 (by omega) (by omega) (by omega)).mono ?_
      rintro e w5 ⟨ob, rfl, hd5⟩
      have HD5 := hidD (HDd.out.trans hd5)
      have ofd : Off [g] w4 w5 := (Off.of (Below.drew (Below.refl _ _))).trans (drawn_off hd5)
      have HBP5 := hidD (HBP4.out.offI ofd (by simp; omega))
      have HBR5 := hidD (HBR4.out.offI ofd (by simp; omega))
      have HPK5 := hidD (HPK4.out.off ofd (fun j hj => by simp at hj; omega))
      have g3 := HBP5.out.2.1 3 _ rfl
      clear hd5 ofd HD4 HDd HBP4 HBR4 HPK4 f3 hpl hHeld
      (try dsimp only)
      refine hK.out _ _ g3 (fun hH2 => ?_)
      clear hK K
      have hHeld := hH2
      clear hH2
      (try simp only [Act.put, List.setIfInBounds_toArray, List.set_cons_zero, List.set_cons_succ])
      refine comesL (i := 4) rfl rfl (by kernel_rfl) (fun K hK => ?_)
      go_simp
      obtain ⟨nb, hnb⟩ : ∃ nb, nb = w5.heap.size := ⟨_, rfl⟩
      obtain ⟨W7, hW7⟩ : ∃ W7, W7 = w5.alloc (.cells #[.bool ob] 4) := ⟨_, rfl⟩
      have hrw7 : RowsAt W7 1 (.slice (some ⟨nb, 0, none⟩) 1 1) 1 [.bool ob] := by rw [hW7, hnb]; exact news1 _ _ _
      have k7 : Below w5.heap.size w5 W7 := by rw [hW7]; exact al_ _ _
      rw [← hW7, ← hnb]
      have HBP7 := hidD (HBP5.out.below k7)
      have HBR7 := hidD (HBR5.out.below k7)
      have HPK7 := hidD (HPK5.out.below k7)
      have HD7 := hidD (HD5.out.below k7)
      have hsz7 : w1.heap.size ≤ W7.heap.size := by have := HBP7.out.1; have := hs1; have := HPK7.out; have h9 := HSZ.out; omega
      have g3 := HBP7.out.2.1 3 _ rfl
      clear hW7 hnb k7 HBP5 HBR5 HPK5 HD5 hHeld
      refine hK.out _ _ g3 (fun hH2 => ?_)
      clear hK K
      have hHeld := hH2
      clear hH2
      (try simp only [Act.put, List.setIfInBounds_toArray, List.set_cons_zero, List.set_cons_succ])
      refine comesL (i := 5) rfl rfl (by kernel_rfl) (fun K hK => ?_)
      refine wpStepB rfl (.tmp 22) (.tmp 25) rfl w1.heap.size hsz7 (.slice ha p.high.length hc) p.high.length (boolsV p.high) HPK7.out.2.1 (by omega) ob nb hrw7 rfl rfl ?_
      intro qa qc w8 ho8 hg8 he8
      have hpo : ∀ j ∈ obl (.slice ha p.high.length hc), w1.heap.size ≤ j ∧ j < pb := fun j hj => HPL.out j (by simp [hj])
      have HBP8 := hidD (HBP7.out.offI hg8 (fun hm => by have := (hpo _ hm).2; omega))
      have HBR8 := hidD (HBR7.out.offI hg8 (fun hm => by have := (hpo _ hm).1; omega))
      have hlow8 : OwnS w8 w1.heap.size 3 (.slice la p.lows.length lc) p.lows.length (intsV p.lows) := HPK7.out.1.off hg8 (fun j hj hm => HPK7.out.2.2 j hj hm)
      have hD8 := Drawn.offN HB.out hgl HD7.out hg8 (fun j hj => by have := (hpo j hj).1; omega)
      obtain ⟨p6, q1, q2, q3, q4⟩ : ∃ p6 : Pk, p6.many = p.many ∧ p6.low = p.low ∧ p6.lows = p.lows ∧ p6.high = p.high ++ [ob] := ⟨⟨p.many, p.low, p.lows, p.high ++ [ob]⟩, rfl, rfl, rfl, rfl⟩
      have hql : p.high.length + 1 = p6.high.length := by rw [q4]; simp
      have hof9 := off_set8 w8 pb 3 (.slice qa p6.high.length qc)
      have HBP6 : Hid (BoxAt (w8.setCell ⟨pb, 3, none⟩ (.slice qa p6.high.length qc)) pb [.int .i64 p6.many, .int .i64 p6.low, .slice la p6.lows.length lc, .slice qa p6.high.length qc]) := by
        show BoxAt _ _ _
        rw [q1, q2, q3]; exact HBP8.out.set 3 (.slice qa p6.high.length qc)
      have HBR6 := hidD (HBR8.out.setOther (g := pb) (o := 3) (u := .slice qa p6.high.length qc) (by omega))
      have hq8 : OwnS w8 w1.heap.size 4 (.slice qa p6.high.length qc) p6.high.length (boolsV p6.high) := by
        rw [← hql, q4]; simpa [boolsV] using ho8
      have hpb8 : ∀ j ∈ obl (.slice qa p6.high.length qc), j ∉ [pb] := fun j hj hm => by
        rw [← hql] at hj
        simp at hm
        have h7 := HBP7.out.1
        rcases he8 j hj with h | h
        · have := (hpo j h).2; omega
        · omega
      have HPB6 : Hid (PkB w1.heap.size (w8.setCell ⟨pb, 3, none⟩ (.slice qa p6.high.length qc)) (.slice la p6.lows.length lc) (.slice qa p6.high.length qc) p6) := by
        refine ⟨⟨(OwnA.ofInts (e := 3) ?_).1, (OwnA.ofBools (hq8.off hof9 hpb8)).1⟩, by rw [q3]; exact hp1, by rw [q4]; simp; omega⟩
        rw [q3]
        exact hlow8.off hof9 (fun j hj hm => by have := (HPL.out j (by simp [hj])).2; simp at hm; omega)
      have HD6 := hidD ((Drawn.offN HB.out hgl hD8 hof9 (fun j hj => by simp at hj; omega)).mono8 (m' := m + 206) (by omega))
      rw [hql]
      have g3 := HBP8.out.2.1 3 _ rfl
      have gf := HBP8.out.2.2 3 (by simp)
      have gl := HBP8.out.1
      clear q1 q2 q3 q4 hql ho8 hg8 he8 hlow8 hD8 hof9 hq8 hpb8 hpo HBP7 HBR7 HPK7 HD7 HBP8 HBR8 hrw7 hsz7 hHeld
      (try dsimp only)
      refine hK.out _ _ g3 (fun hH2 => ?_)
      clear hK K
      have hHeld := hH2
      clear hH2
      (try simp only [Act.put, List.setIfInBounds_toArray, List.set_cons_zero, List.set_cons_succ])
      refine takeL (i := 6) (v := ?_) rfl (by kernel_rfl) (by kernel_rfl) (by kernel_rfl) (fun _ _ _ h => h) rfl ?_ (by assumption) ?_
      rotate_left
      · intro w hSw; (try dsimp only at hSw); go_simp; (try with_reducible rfl)
      (try simp only [Act.put, List.setIfInBounds_toArray, List.set_cons_zero, List.set_cons_succ])
      refine takeL (i := 7) (v := ?_) rfl (by kernel_rfl) (by kernel_rfl) (by kernel_rfl) (fun _ _ _ h => h) rfl ?_ (by assumption) ?_
      rotate_left
      · intro w hSw; (try dsimp only at hSw); go_simp; (try with_reducible rfl)
      (try simp only [Act.put])
      refine wpAnyH_done (by kernel_rfl) ?_ _
      simp only [LastQ]
      go_simp
      clear hHeld
      go_upto_region 10 with fail
      clear g3 gf gl
      generalize w8.setCell ⟨pb, 3, none⟩ (.slice qa p6.high.length qc) = W6 at *
      obtain ⟨a6, ha6⟩ : ∃ a6, a6 = la := ⟨_, rfl⟩
      obtain ⟨b6, hb6⟩ : ∃ b6, b6 = qa := ⟨_, rfl⟩
      obtain ⟨c6, hc6⟩ : ∃ c6, c6 = lc := ⟨_, rfl⟩
      obtain ⟨d6, hd6⟩ : ∃ d6, d6 = qc := ⟨_, rfl⟩
      rw [← ha6, ← hc6] at HBP6 HPB6
      rw [← hb6, ← hd6] at HBP6 HPB6
      clear ha6 hb6 hc6 hd6
    case' neg =>
      have i1 : (kk == 1) = false := by simp [e1]
      by_cases e2 : kk ≠ 2
      case' pos =>
        have i2 : (kk == 2) = false := by simp [e2]
        obtain ⟨p6, hp6⟩ : ∃ p6, p6 = p := ⟨_, rfl⟩
        have HBP6 : Hid (BoxAt w4 pb [.int .i64 p6.many, .int .i64 p6.low, .slice la p6.lows.length lc, .slice ha p6.high.length hc]) := by rw [hp6]; exact HBP4
        have HBR6 := HBR4
        have HPB6 : Hid (PkB w1.heap.size w4 (.slice la p6.lows.length lc) (.slice ha p6.high.length hc) p6) := by rw [hp6]; exact HPK4.out.b hp1 (by omega)
        have HD6 := hidD (HD4.out.mono8 (m' := m + 206) (by omega))
        have f2 := HBP4.out.2.1 2 _ rfl
        have hpl := HBP4.out.1
        clear hp6 HBP4 HBR4 HPK4 HD4
        go_upto_region 10 with fail
        clear f2 hpl
        generalize w4 = W6 at *
        obtain ⟨a6, ha6⟩ : ∃ a6, a6 = la := ⟨_, rfl⟩
        obtain ⟨b6, hb6⟩ : ∃ b6, b6 = ha := ⟨_, rfl⟩
        obtain ⟨c6, hc6⟩ : ∃ c6, c6 = lc := ⟨_, rfl⟩
        obtain ⟨d6, hd6⟩ : ∃ d6, d6 = hc := ⟨_, rfl⟩
        rw [← ha6, ← hb6, ← hc6, ← hd6] at HBP6 HPB6
        clear ha6 hb6 hc6 hd6
      case' neg =>
        have e2b : kk = 2 := by omega
        have i2 : (kk == 2) = true := by simp [e2b]
        by_cases hl0 : p.lows.length = 0
        case' pos =>
          have hli : ¬ (0 : Int) < (p.lows.length : Int) := by omega
          obtain ⟨p6, hp6⟩ : ∃ p6, p6 = p := ⟨_, rfl⟩
          have HBP6 : Hid (BoxAt w4 pb [.int .i64 p6.many, .int .i64 p6.low, .slice la p6.lows.length lc, .slice ha p6.high.length hc]) := by rw [hp6]; exact HBP4
          have HBR6 := HBR4
          have HPB6 : Hid (PkB w1.heap.size w4 (.slice la p6.lows.length lc) (.slice ha p6.high.length hc) p6) := by rw [hp6]; exact HPK4.out.b hp1 (by omega)
          have HD6 := hidD (HD4.out.mono8 (m' := m + 206) (by omega))
          have f2 := HBP4.out.2.1 2 _ rfl
          have hpl := HBP4.out.1
          clear hp6 HBP4 HBR4 HPK4 HD4
          go_upto_region 10 with fail
          clear f2 hpl
          generalize w4 = W6 at *
          obtain ⟨a6, ha6⟩ : ∃ a6, a6 = la := ⟨_, rfl⟩
          obtain ⟨b6, hb6⟩ : ∃ b6, b6 = ha := ⟨_, rfl⟩
          obtain ⟨c6, hc6⟩ : ∃ c6, c6 = lc := ⟨_, rfl⟩
          obtain ⟨d6, hd6⟩ : ∃ d6, d6 = hc := ⟨_, rfl⟩
          rw [← ha6, ← hb6, ← hc6, ← hd6] at HBP6 HPB6
          clear ha6 hb6 hc6 hd6
        case' neg =>
          have hli : (0 : Int) < (p.lows.length : Int) := by omega
          have f2 := HBP4.out.2.1 2 _ rfl
          have hpl := HBP4.out.1
          rcases row_of_ownS HPK4.out.1 with ⟨h0, _⟩ | ⟨h0, gr, cap, hce, hgo, hrow⟩
          · exact absurd h0 hl0
          cases hce
          have hgr := HPL.out gr (by simp [hgo])
          have hv0 : (intsV p.lows).getD 0 default = .int .i64 (p.lows.getD 0 0) := by simp [intsV, List.getD, h0]
          have hcell : w4.cell? ⟨gr, 0, none⟩ = some (.int .i64 (p.lows.getD 0 0)) := by rw [← hv0]; exact hrow.2.2.1 0 h0
          have hfz := hrow.2.2.2 0 h0
          have hrl := hrow.2.1
          obtain ⟨t0, ht0⟩ : ∃ t0, t0 = p.lows.getD 0 0 := ⟨_, rfl⟩
          rw [← ht0] at hcell
          obtain ⟨p6, q1, q2, q3, q4⟩ : ∃ p6 : Pk, p6.many = p.many ∧ p6.low = p.low ∧ p6.lows = p.lows.set 0 (wrap64 (t0 + 1)) ∧ p6.high = p.high := ⟨⟨p.many, p.low, p.lows.set 0 (wrap64 (t0 + 1)), p.high⟩, rfl, rfl, rfl, rfl⟩
          have hl6 : p6.lows.length = p.lows.length := by rw [q3]; simp
          have hof := off_set8 w4 gr 0 (.int .i64 (wrap64 (t0 + 1)))
          have HBP6 : Hid (BoxAt (w4.setCell ⟨gr, 0, none⟩ (.int .i64 (wrap64 (t0 + 1)))) pb [.int .i64 p6.many, .int .i64 p6.low, .slice (some ⟨gr, 0, none⟩) p6.lows.length lc, .slice ha p6.high.length hc]) := by
            show BoxAt _ _ _
            rw [q1, q2, hl6, q4]; exact HBP4.out.offI hof (by simp; omega)
          have HBR6 := hidD (HBR4.out.offI hof (by simp; omega))
          have HPB6 : Hid (PkB w1.heap.size (w4.setCell ⟨gr, 0, none⟩ (.int .i64 (wrap64 (t0 + 1)))) (.slice (some ⟨gr, 0, none⟩) p6.lows.length lc) (.slice ha p6.high.length hc) p6) := by
            refine ⟨⟨.inr ⟨by omega, gr, lc, rfl, ?_⟩, ?_⟩, by omega, by rw [q4]; omega⟩
            · rw [hl6]
              refine (hrow.set h0 (.int .i64 (wrap64 (t0 + 1)))).congr (fun i hi => ?_)
              rw [q3]
              by_cases e : i = 0
              · subst e; simp [List.getD, h0]
              · have hne : ¬ (0 = i) := fun h => e h.symm
                simp [List.getD, e, hne, intsV, hi]
            · rw [q4]
              exact (OwnA.ofBools HPK4.out.2.1).1.off hof (fun j hj hm => by
                simp at hm
                have h5 := (OwnA.ofBools HPK4.out.2.1).2 j hj
                rw [hm] at h5
                exact HPK4.out.2.2 gr hgo h5)
          have HD6 := hidD ((Drawn.offN HB.out hgl HD4.out hof (fun j hj => by simp at hj; omega)).mono8 (m' := m + 206) (by omega))
          have HL6 := hidD hl6
          clear q1 q2 q3 q4 hl6 hof HBP4 HBR4 HPK4 HD4 hrow hgo hv0 ht0 h0 hl0
          go_upto_region 10 with fail
          clear f2 hpl hcell hfz hrl hgr
          generalize w4.setCell ⟨gr, 0, none⟩ (.int .i64 (wrap64 (t0 + 1))) = W6 at *
          obtain ⟨a6, ha6⟩ : ∃ a6 : Option Addr, a6 = some ⟨gr, 0, none⟩ := ⟨_, rfl⟩
          obtain ⟨b6, hb6⟩ : ∃ b6, b6 = ha := ⟨_, rfl⟩
          obtain ⟨c6, hc6⟩ : ∃ c6, c6 = lc := ⟨_, rfl⟩
          obtain ⟨d6, hd6⟩ : ∃ d6, d6 = hc := ⟨_, rfl⟩
          rw [← ha6, ← hb6, ← hc6, ← hd6] at HBP6 HPB6
          clear ha6 hb6 hc6 hd6
  all_goals
    have x0 := HBP6.out.2.1 0 _ rfl
    have x1 := HBP6.out.2.1 1 _ rfl
    have x2 := HBP6.out.2.1 2 _ rfl
    have x3 := HBP6.out.2.1 3 _ rfl
    have hpl := HBP6.out.1
    have r0 := HBR6.out.2.1 0 _ rfl
    have r1 := HBR6.out.2.1 1 _ rfl
    have r2 := HBR6.out.2.1 2 _ rfl
    have r3 := HBR6.out.2.1 3 _ rfl
    have s0 := HBR6.out.2.2 0 (by simp)
    have s1 := HBR6.out.2.2 1 (by simp)
    have s2 := HBR6.out.2.2 2 (by simp)
    have s3 := HBR6.out.2.2 3 (by simp)
    have hrl := HBR6.out.1
    have hpr : w.heap.size ≠ pb := by omega
    go_wp2_with fail
    have c1 := HBR6.out.set 0 (.int .i64 p6.many)
    have c2 := c1.set 1 (.int .i64 p6.low)
    have c3 := c2.set 2 (.slice a6 p6.lows.length c6)
    have c4 := c3.set 3 (.slice b6 p6.high.length d6)
    have y0 := c4.2.1 0 _ rfl
    have y1 := c4.2.1 1 _ rfl
    have y2 := c4.2.1 2 _ rfl
    have y3 := c4.2.1 3 _ rfl
    clear x0 x1 x2 x3 r0 r1 r2 r3 s0 s1 s2 s3 c1 c2 c3 c4
    (try simp only [Exit.inBlock, Exit.then])
    refine bodyPost_ret (v := .agg #[.int .i64 p6.many, .int .i64 p6.low, .slice a6 p6.lows.length c6, .slice b6 p6.high.length d6]) ?r rfl ?_
    case r => simp [y0, y1, y2, y3, results, Try.results59, go_sem]; try rfl
    have hO4 : Off [w.heap.size] W6 ((((W6.setCell ⟨w.heap.size, 0, none⟩ (.int .i64 p6.many)).setCell ⟨w.heap.size, 1, none⟩ (.int .i64 p6.low)).setCell ⟨w.heap.size, 2, none⟩ (.slice a6 p6.lows.length c6)).setCell ⟨w.heap.size, 3, none⟩ (.slice b6 p6.high.length d6)) := (((off_set8 _ _ _ _).trans (off_set8 _ _ _ _)).trans (off_set8 _ _ _ _)).trans (off_set8 _ _ _ _)
    exact ⟨_, _, p6, rfl, (HPB6.out.off hO4 (fun j hj => by simp at hj; omega)).mono (by omega), (Drawn.offN HB.out hgl HD6.out hO4 (fun j hj => by simp at hj; omega)).mono8 (by omega)⟩
end Go.Proofs.Ytaafdcghafbfhaa
