/- Contracts of the program's shown nodes and their digests. Condition: the node lies in memory; the table of weights lies as it is laid. -/
import Derived.Test.YtgjcegmjhkehnaaDoorDigN
import Derived.Test.YtgjcegmjhkehnaaDoorCloneT
import Derived.Test.YtgjcegmjhkehnaaDoorImplT
import Derived.Test.YtgjcegmjhkehnaaDoorSwap
namespace Go.Proofs.YtgjcegmjhkehnaaDoor
open Go.ChangeShapes Go.WideShapes Go.ChangeAt Go.RowKit Go.Deep
set_option linter.unusedVariables false
attribute [local go_sem ↓] Go.wp_at_zero Go.wp_at_succ

theorem strs_of_own {w : World} {base : Nat} {v : Value} {ss : List ByteArray} (h : OwnS w base 9 v ss.length (strsV ss)) : StrsAt w v ss := strs_of_rows (rows_of_ownS h)
theorem keys_map (p : List Pr) : keysV p = strsV (p.map (·.1)) := by simp [keysV, strsV]
theorem vals_map (p : List Pr) : valsV p = strsV (p.map (·.2)) := by simp [valsV, strsV]
theorem offB (W : World) (g o : Nat) (u : Value) : Off [g] W (W.setCell ⟨g, o, none⟩ u) := ⟨rfl, rfl, rfl, by simp [World.setCell], fun k hk hn => setCell_other _ _ _ _ _ (by simpa using hn)⟩
/-- A new page whose first two lists are laid. -/
theorem shwFin {W0 W : World} {pb n : Nat} {ku vu : Value} {s1 s2 : List ByteArray} (hW : Below W0.heap.size W0 W) (hpb : W0.heap.size ≤ pb) (hb : BoxAt W pb [.slice none 0 0, .slice none 0 0, .slice none 0 0, .int .i64 0]) (h1 : OwnS W W0.heap.size 9 ku n (strsV s1)) (h2 : OwnS W W0.heap.size 9 vu n (strsV s2)) (n1 : pb ∉ obl ku) (n2 : pb ∉ obl vu) :
    BoxAt ((((W.setCell ⟨pb, 0, none⟩ ku).setCell ⟨pb, 1, none⟩ vu).setCell ⟨pb, 2, none⟩ (.slice none 0 0)).setCell ⟨pb, 3, none⟩ (.int .i64 0)) pb [ku, vu, .slice none 0 0, .int .i64 0] ∧
    OwnS ((((W.setCell ⟨pb, 0, none⟩ ku).setCell ⟨pb, 1, none⟩ vu).setCell ⟨pb, 2, none⟩ (.slice none 0 0)).setCell ⟨pb, 3, none⟩ (.int .i64 0)) W0.heap.size 9 ku n (strsV s1) ∧
    OwnS ((((W.setCell ⟨pb, 0, none⟩ ku).setCell ⟨pb, 1, none⟩ vu).setCell ⟨pb, 2, none⟩ (.slice none 0 0)).setCell ⟨pb, 3, none⟩ (.int .i64 0)) W0.heap.size 9 vu n (strsV s2) ∧
    Below W0.heap.size W0 ((((W.setCell ⟨pb, 0, none⟩ ku).setCell ⟨pb, 1, none⟩ vu).setCell ⟨pb, 2, none⟩ (.slice none 0 0)).setCell ⟨pb, 3, none⟩ (.int .i64 0)) := by
  have ho : Off [pb] W ((((W.setCell ⟨pb, 0, none⟩ ku).setCell ⟨pb, 1, none⟩ vu).setCell ⟨pb, 2, none⟩ (.slice none 0 0)).setCell ⟨pb, 3, none⟩ (.int .i64 0)) := (((offB _ _ _ _).trans (offB _ _ _ _)).trans (offB _ _ _ _)).trans (offB _ _ _ _)
  refine ⟨(((hb.set 0 ku).set 1 vu).set 2 (.slice none 0 0)).set 3 (.int .i64 0), h1.off ho (fun g hg hm => ?_), h2.off ho (fun g hg hm => ?_), bel_set (bel_set (bel_set (bel_set hW hpb 0 ku) hpb 1 vu) hpb 2 _) hpb 3 _⟩
  · rw [List.mem_singleton] at hm; subst hm; exact n1 hg
  · rw [List.mem_singleton] at hm; subst hm; exact n2 hg
theorem wpOwnA {P : Program} {o : Oper} {a : Act} {w : World} {K : Act → World → Prop} {Q : Exit → Act → World → Prop}
    (hg : o.guard = none) (s x : Operand) (t : TypeId) (ho : o.op = Op.call { callee := Callee.builtin Builtin.append, args := #[s, x], argTypes := #[t, t] })
    (base : Nat) (e : TypeId) (i : TypeInfo) (z : Value) (size bytes : Nat) (ht : P.underlying t = some (.slice e)) (hi : P.info? e = some i) (hz : i.zero = some z)
    (hsize : i.size = size) (hby : i.bytes = bytes) (hzs : z.cells.size = size) (hsz : 0 < size)
    (v : Value) (n : Nat) (xs : List Value) (hs : a.eval s = v) (hown : w.ownsRow base e size v n xs)
    (xv : Value) (m : Nat) (news : List Value) (hx : a.eval x = xv) (hrow : RowsAt w size xv m news) (h1 : ∀ u ∈ news, u.oneCell' = true)
    (h63 : n + m ≤ maxLen) (hbytes : (n + m) * bytes ≤ 140737488355328) (hbase : base ≤ w.heap.size)
    (hK : ∀ v' w', w'.ownsRow base e size v' (n + m) (xs ++ news) → w.grownBy w' v.ownBlock → (v'.ownBlock = v.ownBlock ∨ v'.ownBlock = some w.heap.size) → K (a.put o.dst v') w') : Oper.wp P o a w K Q := by
  have h := stepOwn (P := P) (ops := #[]) (E := False) (Q := Q) (K := K) hg s x t ho base e i z size bytes ht hi hz hsize hby hzs hsz v n xs hs hown xv m news hx hrow h1 h63 hbytes hbase hK
  rwa [if_pos (by simp [Region.wanted, hg])] at h
theorem owns_keep {w w' : World} {base n : Nat} {e : TypeId} {v : Value} {xs : List Value} (h : w.ownsRow base e 1 v n xs) (hk : ∀ g, v.ownBlock = some g → w'.heap[g]? = w.heap[g]?) : w'.ownsRow base e 1 v n xs := by
  refine ⟨h.1, ?_⟩
  rcases h.2 with h2 | ⟨g, cap, cur, rfl, h3, h4, h5⟩
  · exact .inl h2
  · exact .inr ⟨g, cap, cur, rfl, h3, (hk g rfl).trans h4, h5⟩
theorem owns_lt {w : World} {base n : Nat} {e : TypeId} {v : Value} {xs : List Value} (h : w.ownsRow base e 1 v n xs) (g : Nat) (hg : v.ownBlock = some g) : base ≤ g ∧ g < w.heap.size := by
  rcases h.2 with ⟨rfl, _⟩ | ⟨g', cap, cur, rfl, h3, h4, h5⟩
  · cases hg
  · cases hg
    exact ⟨h3, (Array.getElem?_eq_some_iff.1 h4).1⟩
theorem strs_boxSet {w : World} {v u : Value} {ss : List ByteArray} {b i : Nat} {vs : List Value} (h : StrsAt w v ss) (hb : BoxAt w b vs) (hi : i < vs.length) (hn : ∀ s, vs.getD i default ≠ .string s) : StrsAt (w.setCell ⟨b, i, none⟩ u) v ss := by
  rcases h with h | ⟨b', off, cap, h1, h2, h3⟩
  · exact .inl h
  · refine .inr ⟨b', off, cap, h1, by simpa using h2, fun j hj => ?_⟩
    have hc := hb.2.1 i (vs.getD i default) (by simp [List.getD, hi])
    rw [World.cell?_setCell_other w ⟨b, i, none⟩ ⟨b', off + j, none⟩ _ (fun e => by rw [e, h3 j hj] at hc; exact hn _ (Option.some.inj hc).symm), h3 j hj]
theorem ShAt.boxSet1 {w : World} {kv vv cv u : Value} {p : Sh} {b i : Nat} {vs : List Value} (h : ShAt w kv vv cv p) (hb : BoxAt w b vs) (hi : i < vs.length) (hn : ∀ s, vs.getD i default ≠ .string s) : ShAt (w.setCell ⟨b, i, none⟩ u) kv vv cv p :=
  ⟨strs_boxSet h.1 hb hi hn, strs_boxSet h.2.1 hb hi hn, strs_boxSet h.2.2 hb hi hn⟩
theorem ShAt.boxSet4 {w : World} {kv vv cv : Value} {p : Sh} {b : Nat} {a1 a2 a3 : Option Addr} {n1 n2 n3 c1 c2 c3 : Nat} (h : ShAt w kv vv cv p) (hb : BoxAt w b [.slice none 0 0, .slice none 0 0, .slice none 0 0, .int .i64 0]) :
    ShAt ((((w.setCell ⟨b, 0, none⟩ (.slice a1 n1 c1)).setCell ⟨b, 1, none⟩ (.slice a2 n2 c2)).setCell ⟨b, 2, none⟩ (.slice a3 n3 c3)).setCell ⟨b, 3, none⟩ (.int .i64 0)) kv vv cv p :=
  (((h.boxSet1 hb (i := 0) (by simp) (by simp)).boxSet1 (hb.set 0 (.slice a1 n1 c1)) (i := 1) (by simp) (by simp)).boxSet1 ((hb.set 0 (.slice a1 n1 c1)).set 1 (.slice a2 n2 c2)) (i := 2) (by simp) (by simp)).boxSet1 (((hb.set 0 (.slice a1 n1 c1)).set 1 (.slice a2 n2 c2)).set 2 (.slice a3 n3 c3)) (i := 3) (by simp) (by simp)
theorem digs_take (kids : List Nd) (k : Nat) (hk : k < kids.length) : (digsN kids).take (k + 1) = (digsN kids).take k ++ [digN (kids.getD k default)] := by
  have e : ∀ ks : List Nd, digsN ks = ks.map digN := fun ks => by
    induction ks with
    | nil => rfl
    | cons a l ih => simp [digsN, ih]
  rw [e, List.take_succ_eq_append_getElem (by simpa using hk)]
  simp [List.getD, hk]
set_option maxHeartbeats 6400000 in
set_option maxRecDepth 100000 in
theorem implShownStep (p : List Pr) (kids : List Nd) (hg : GdN (.mk p kids))
    (ih : ∀ i, i < kids.length → ∀ (x y z : Value) (W : World), NodeP (fun _ => True) W (kids.getD i default) x y z → Table W →
      Calls Tryd.prog 65 #[.agg #[x, y, z]] W fun e w' => e = .returned (.string (digN (kids.getD i default))) ∧ Below W.heap.size W w')
    (kv vv cv : Value) (w : World) (hn : NodeP (fun _ => True) w (.mk p kids) kv vv cv) (ht : Table w) :
    Calls Tryd.prog 71 #[.agg #[kv, vv, cv]] w fun e w' => ∃ ku vu cu, e = .returned (.agg #[ku, vu, cu, .int .i64 0]) ∧ ShAt w' ku vu cu (shN (.mk p kids)) ∧ Below w.heap.size w w' := by
  obtain ⟨i0, hi, hzz⟩ := Option.map_eq_some_iff.1 infoTx
  simp only [Prod.mk.injEq] at hzz
  obtain ⟨hz0, hz1, hz2⟩ := hzz
  have hgd := hg.good
  have hk5 : kids.length ≤ 5 := by have := (shape_kids hg.1).1; simpa [Nd.kids] using this
  have hp4 : p.length ≤ 4 := by have := (shape_kids hg.1).2; simpa [Nd.prs] using this
  have hown : ∀ q ∈ p, goodP q := fun q hq => hg.2.2 q (by rw [allN]; exact (inter_own kids p).subset hq)
  have HCK := fun W (hW : Below w.heap.size w W) => implCloneT (p.map (·.1)) kv W (by have := hn.1.1.below hW; rw [keys_map] at this; simpa using this) (fun s hs => by obtain ⟨q, hq, rfl⟩ := List.mem_map.1 hs; exact (hown q hq).2.1) (by simp; omega)
  have HCV := fun W (hW : Below w.heap.size w W) => implCloneT (p.map (·.2)) vv W (by have := hn.2.1.1.below hW; rw [vals_map] at this; simpa using this) (fun s hs => by obtain ⟨q, hq, rfl⟩ := List.mem_map.1 hs; exact (hown q hq).2.2) (by simp; omega)
  simp only [List.length_map] at HCK HCV
  have HN := hid hn
  have HT := hid ht
  have IH := hid ih
  obtain ⟨a1, k1, a2, k2, a3, k3, rfl, rfl, rfl⟩ := hn.slices
  simp only [Nd.prs, Nd.kids] at HN HCK HCV ⊢
  clear hn ht ih hown hg
  obtain ⟨W0, hW0⟩ : ∃ W0, W0 = (w.alloc (.cells #[.slice a1 p.length k1, .slice a2 p.length k2, .slice a3 kids.length k3] 117)).alloc (.cells #[.slice none 0 0, .slice none 0 0, .slice none 0 0, .int .i64 0] 28) := ⟨_, rfl⟩
  have kb0 : Below w.heap.size w W0 := by rw [hW0]; exact ((Below.refl _ _).alloc (Nat.le_refl _) _).alloc (by simp) _
  have hzs : W0.heap.size = w.heap.size + 1 + 1 := by rw [hW0]; simp
  have bA : BoxAt W0 w.heap.size [.slice a1 p.length k1, .slice a2 p.length k2, .slice a3 kids.length k3] := by rw [hW0]; exact (boxNew w _ _).below (al_ _ _)
  have bR : BoxAt W0 (w.heap.size + 1) [.slice none 0 0, .slice none 0 0, .slice none 0 0, .int .i64 0] := by
    rw [hW0]
    have := boxNew (w.alloc (.cells #[.slice a1 p.length k1, .slice a2 p.length k2, .slice a3 kids.length k3] 117)) #[.slice none 0 0, .slice none 0 0, .slice none 0 0, .int .i64 0] 28
    rwa [World.size_alloc] at this
  have hal : w.heap.size < W0.heap.size := by omega
  have hrl : w.heap.size + 1 < W0.heap.size := by omega
  have p0 := bA.2.1 0 _ rfl
  have p1 := bA.2.1 1 _ rfl
  go_enter Tryd.func71, Tryd.ntmps71
  go_upto_region 1 with fail
  rw [← hW0]
  have HBA := hid bA
  have HBR := hid bR
  have HZ0 := hid hzs
  clear hW0 hzs bA bR
  go_cut [3] (fun q wc => ∃ pb ku vu, q = .pointer (some ⟨pb, 0, none⟩) ∧ W0.heap.size ≤ pb ∧ BoxAt wc pb [ku, vu, .slice none 0 0, .int .i64 0] ∧ OwnS wc W0.heap.size 9 ku p.length (strsV (p.map (·.1))) ∧ OwnS wc W0.heap.size 9 vu p.length (strsV (p.map (·.2))) ∧ pb ∉ obl ku ∧ pb ∉ obl vu ∧ Below W0.heap.size W0 wc)
  case first =>
    have HSK : Hid (∀ W, Below W0.heap.size W0 W → (fun w' : World => w'.cell? ⟨w.heap.size, 0, none⟩ = some (.slice a1 p.length k1) ∧ w'.cell? ⟨w.heap.size, 1, none⟩ = some (.slice a2 p.length k2)) W) := fun W hW => ⟨(hW.cell hal).trans p0, (hW.cell hal).trans p1⟩
    have HCK' := hid (fun W (hW : Below W0.heap.size W0 W) => HCK W (kb0.trans (hW.mono kb0.size)))
    have HCV' := hid (fun W (hW : Below W0.heap.size W0 W) => HCV W (kb0.trans (hW.mono kb0.size)))
    have hHeld := HSK.out W0.drew (Below.drew (Below.refl _ _))
    have kd : Below W0.heap.size W0 W0.drew := Below.drew (Below.refl _ _)
    clear HCK HCV p0 p1 IH HN HT HBA HBR
    refine wp_region_heldL (n := 11) (S := fun w' : World => w'.cell? ⟨w.heap.size, 0, none⟩ = some (.slice a1 p.length k1) ∧ w'.cell? ⟨w.heap.size, 1, none⟩ = some (.slice a2 p.length k2)) (by kernel_rfl) rfl ?_
    refine takeL (i := 0) (v := ?_) rfl (by kernel_rfl) (by kernel_rfl) (by kernel_rfl) (fun _ _ _ h => h) rfl ?_ (by assumption) ?_
    rotate_left
    · intro w hSw; (try dsimp only at hSw); go_simp; (try with_reducible rfl)
    (try simp only [Act.put, List.setIfInBounds_toArray, List.set_cons_zero, List.set_cons_succ])
    refine takeL (i := 1) (v := ?_) rfl (by kernel_rfl) (by kernel_rfl) (by kernel_rfl) (fun _ _ _ h => h) rfl ?_ (by assumption) ?_
    rotate_left
    · intro w hSw; (try dsimp only at hSw); go_simp; (try with_reducible rfl)
    (try simp only [Act.put, List.setIfInBounds_toArray, List.set_cons_zero, List.set_cons_succ])
    refine takeL (i := 2) (v := ?_) rfl (by kernel_rfl) (by kernel_rfl) (by kernel_rfl) (fun _ _ _ h => h) rfl ?_ (by assumption) ?_
    rotate_left
    · intro w hSw; (try dsimp only at hSw); go_simp; (try with_reducible rfl)
    (try simp only [Act.put, List.setIfInBounds_toArray, List.set_cons_zero, List.set_cons_succ])
    refine takeL (i := 4) (v := ?_) rfl (by kernel_rfl) (by kernel_rfl) (by kernel_rfl) (fun _ _ _ h => h) rfl ?_ (by assumption) ?_
    rotate_left
    · intro w hSw; (try dsimp only at hSw); go_simp; (try with_reducible rfl)
    (try simp only [Act.put, List.setIfInBounds_toArray, List.set_cons_zero, List.set_cons_succ])
    refine takeL (i := 5) (v := ?_) rfl (by kernel_rfl) (by kernel_rfl) (by kernel_rfl) (fun _ _ _ h => h) rfl ?_ (by assumption) ?_
    rotate_left
    · intro w hSw; (try dsimp only at hSw); go_simp; (try with_reducible rfl)
    (try simp only [Act.put, List.setIfInBounds_toArray, List.set_cons_zero, List.set_cons_succ])
    refine takeL (i := 6) (v := ?_) rfl (by kernel_rfl) (by kernel_rfl) (by kernel_rfl) (fun _ _ _ h => h) rfl ?_ (by assumption) ?_
    rotate_left
    · intro w hSw; (try dsimp only at hSw); go_simp; (try with_reducible rfl)
    (try simp only [Act.put, List.setIfInBounds_toArray, List.set_cons_zero, List.set_cons_succ])
    refine comes2L (i := 3) (j := 9) rfl rfl rfl rfl (by kernel_rfl) (fun K hK => ?_) (fun K hK => ?_)
    · skip
      go_simp
      refine (HCK'.out _ kd).mono ?_
      rintro e wK ⟨yK, rfl, hoK, bK⟩
      obtain ⟨aK, cK, rfl⟩ := (rows_of_ownS hoK).slice
      have kK : Below W0.heap.size W0 wK := Below.trans kd (bK.mono (Below.size kd))
      have HOK := hid (own_mono hoK (Below.size kd))
      clear bK hoK
      (try dsimp only)
      refine hK.out _ _ (HSK.out wK kK) (fun hH2 => ?_)
      clear hK K
      replace hHeld := hH2
      clear hH2
      (try simp only [Act.put, List.setIfInBounds_toArray, List.set_cons_zero, List.set_cons_succ])
      refine comes2L (i := 7) (j := 9) rfl rfl rfl rfl (by kernel_rfl) (fun K hK => ?_) (fun K hK => ?_)
      · skip
        go_simp
        refine (HCV'.out _ kK).mono ?_
        rintro e wV ⟨yV, rfl, hoV, bV⟩
        obtain ⟨aV, cV, rfl⟩ := (rows_of_ownS hoV).slice
        have kV : Below W0.heap.size W0 wV := Below.trans kK (bV.mono (Below.size kK))
        have HOV := hid (own_mono hoV (Below.size kK))
        have HOK2 := hid (HOK.out.below bV)
        clear bV hoV
        (try dsimp only)
        refine hK.out _ _ (HSK.out wV kV) (fun hH2 => ?_)
        clear hK K
        replace hHeld := hH2
        clear hH2
        (try simp only [Act.put, List.setIfInBounds_toArray, List.set_cons_zero, List.set_cons_succ])
        refine takeL (i := 8) (v := ?_) rfl (by kernel_rfl) (by kernel_rfl) (by kernel_rfl) (fun _ _ _ h => h) rfl ?_ (by assumption) ?_
        rotate_left
        · intro w hSw; (try dsimp only at hSw); go_simp; (try with_reducible rfl)
        (try simp only [Act.put, List.setIfInBounds_toArray, List.set_cons_zero, List.set_cons_succ])
        refine comesL (i := 9) rfl rfl (by kernel_rfl) (fun K hK => ?_)
        go_simp
        obtain ⟨pb, hpb⟩ : ∃ pb, pb = wV.heap.size := ⟨_, rfl⟩
        obtain ⟨wA, hwA⟩ : ∃ wA, wA = wV.alloc (.cells #[.slice none 0 0, .slice none 0 0, .slice none 0 0, .int .i64 0] 28) := ⟨_, rfl⟩
        have kA : Below W0.heap.size W0 wA := by rw [hwA]; exact (kV.alloc kV.size _)
        have bxA : BoxAt wA pb [.slice none 0 0, .slice none 0 0, .slice none 0 0, .int .i64 0] := by
          have h0 := boxNew wV #[.slice none 0 0, .slice none 0 0, .slice none 0 0, .int .i64 0] 28
          rw [hwA, hpb]
          exact h0
        have hpb0 : W0.heap.size ≤ pb := by rw [hpb]; exact kV.size
        rw [← hwA, ← hpb]
        have hnK : pb ∉ obl (.slice aK p.length cK) := fun h => by have h1 := (own_lt HOK2.out _ h).2; omega
        have hnV : pb ∉ obl (.slice aV p.length cV) := fun h => by have h1 := (own_lt HOV.out _ h).2; omega
        have HOK3 := hid (show OwnS wA _ _ _ _ _ by rw [hwA]; exact HOK2.out.alloc _)
        have HOV3 := hid (show OwnS wA _ _ _ _ _ by rw [hwA]; exact HOV.out.alloc _)
        clear hwA hpb
        (try dsimp only)
        refine hK.out _ _ (HSK.out wA kA) (fun hH2 => ?_)
        clear hK K
        replace hHeld := hH2
        clear hH2
        (try simp only [Act.put, List.setIfInBounds_toArray, List.set_cons_zero, List.set_cons_succ])
        have bx := bxA
        have q0 := bx.2.1 0 _ rfl
        have q1 := bx.2.1 1 _ rfl
        have q2 := bx.2.1 2 _ rfl
        have q3 := bx.2.1 3 _ rfl
        have r0 := bx.2.2 0 (by simp)
        have r1 := bx.2.2 1 (by simp)
        have r2 := bx.2.2 2 (by simp)
        have r3 := bx.2.2 3 (by simp)
        have rl := bx.1
        have FIN := hid (shwFin (ku := .slice aK p.length cK) (vu := .slice aV p.length cV) kA hpb0 bx HOK3.out HOV3.out hnK hnV)
        have HNN := hid (And.intro hnK hnV)
        refine comesL (i := 10) rfl rfl (by kernel_rfl) (fun K hK => ?_)
        go_simp
        (try dsimp only)
        refine hK.out _ _ (HSK.out _ FIN.out.2.2.2) (fun hH2 => ?_)
        clear hK K hH2
        (try simp only [Act.put])
        refine wpAnyH_done (by kernel_rfl) ?_ _
        clear q0 q1 q2 q3 r0 r1 r2 r3 rl bx
        go_wp2_with fail
        go_meet
        exact ⟨pb, _, _, rfl, hpb0, FIN.out.1, FIN.out.2.1, FIN.out.2.2.1, HNN.out.1, HNN.out.2, FIN.out.2.2.2⟩
      · skip
        go_simp
        obtain ⟨pb, hpb⟩ : ∃ pb, pb = wK.heap.size := ⟨_, rfl⟩
        obtain ⟨wA, hwA⟩ : ∃ wA, wA = wK.alloc (.cells #[.slice none 0 0, .slice none 0 0, .slice none 0 0, .int .i64 0] 28) := ⟨_, rfl⟩
        have kA : Below W0.heap.size W0 wA := by rw [hwA]; exact (kK.alloc kK.size _)
        have bxA : BoxAt wA pb [.slice none 0 0, .slice none 0 0, .slice none 0 0, .int .i64 0] := by
          have h0 := boxNew wK #[.slice none 0 0, .slice none 0 0, .slice none 0 0, .int .i64 0] 28
          rw [hwA, hpb]
          exact h0
        have hpb0 : W0.heap.size ≤ pb := by rw [hpb]; exact kK.size
        rw [← hwA, ← hpb]
        have hnK : pb ∉ obl (.slice aK p.length cK) := fun h => by have h1 := (own_lt HOK.out _ h).2; omega
        have HOK3 := hid (show OwnS wA _ _ _ _ _ by rw [hwA]; exact HOK.out.alloc _)
        clear HOK
        have HOK := hid HOK3.out
        clear HOK3 hwA hpb
        (try dsimp only)
        refine hK.out _ _ (HSK.out wA kA) (fun hH2 => ?_)
        clear hK K
        replace hHeld := hH2
        clear hH2
        (try simp only [Act.put, List.setIfInBounds_toArray, List.set_cons_zero, List.set_cons_succ])
        refine comesL (i := 7) rfl rfl (by kernel_rfl) (fun K hK => ?_)
        go_simp
        refine (HCV'.out _ kA).mono ?_
        rintro e wV ⟨yV, rfl, hoV, bV⟩
        obtain ⟨aV, cV, rfl⟩ := (rows_of_ownS hoV).slice
        have kV : Below W0.heap.size W0 wV := Below.trans kA (bV.mono (Below.size kA))
        have HOV := hid (own_mono hoV (Below.size kA))
        have HOK2 := hid (HOK.out.below bV)
        have hnV : pb ∉ obl (.slice aV p.length cV) := fun h => by have h1 := (own_lt hoV _ h).1; have h2 := bxA.1; omega
        have bxV := bxA.below bV
        clear bV hoV
        (try dsimp only)
        refine hK.out _ _ (HSK.out wV kV) (fun hH2 => ?_)
        clear hK K
        replace hHeld := hH2
        clear hH2
        (try simp only [Act.put, List.setIfInBounds_toArray, List.set_cons_zero, List.set_cons_succ])
        refine takeL (i := 8) (v := ?_) rfl (by kernel_rfl) (by kernel_rfl) (by kernel_rfl) (fun _ _ _ h => h) rfl ?_ (by assumption) ?_
        rotate_left
        · intro w hSw; (try dsimp only at hSw); go_simp; (try with_reducible rfl)
        (try simp only [Act.put, List.setIfInBounds_toArray, List.set_cons_zero, List.set_cons_succ])
        have bx := bxV
        have q0 := bx.2.1 0 _ rfl
        have q1 := bx.2.1 1 _ rfl
        have q2 := bx.2.1 2 _ rfl
        have q3 := bx.2.1 3 _ rfl
        have r0 := bx.2.2 0 (by simp)
        have r1 := bx.2.2 1 (by simp)
        have r2 := bx.2.2 2 (by simp)
        have r3 := bx.2.2 3 (by simp)
        have rl := bx.1
        have FIN := hid (shwFin (ku := .slice aK p.length cK) (vu := .slice aV p.length cV) kV hpb0 bx HOK2.out HOV.out hnK hnV)
        have HNN := hid (And.intro hnK hnV)
        refine comesL (i := 10) rfl rfl (by kernel_rfl) (fun K hK => ?_)
        go_simp
        (try dsimp only)
        refine hK.out _ _ (HSK.out _ FIN.out.2.2.2) (fun hH2 => ?_)
        clear hK K hH2
        (try simp only [Act.put])
        refine wpAnyH_done (by kernel_rfl) ?_ _
        clear q0 q1 q2 q3 r0 r1 r2 r3 rl bx
        go_wp2_with fail
        go_meet
        exact ⟨pb, _, _, rfl, hpb0, FIN.out.1, FIN.out.2.1, FIN.out.2.2.1, HNN.out.1, HNN.out.2, FIN.out.2.2.2⟩
    · skip
      go_simp
      obtain ⟨pb, hpb⟩ : ∃ pb, pb = W0.heap.size := ⟨_, rfl⟩
      obtain ⟨wA, hwA⟩ : ∃ wA, wA = (W0.alloc (.cells #[.slice none 0 0, .slice none 0 0, .slice none 0 0, .int .i64 0] 28)).drew := ⟨_, rfl⟩
      have kA : Below W0.heap.size W0 wA := by rw [hwA]; exact Below.drew ((Below.refl _ _).alloc (Nat.le_refl _) _)
      have bxA : BoxAt wA pb [.slice none 0 0, .slice none 0 0, .slice none 0 0, .int .i64 0] := by
        have h0 := boxNew W0 #[.slice none 0 0, .slice none 0 0, .slice none 0 0, .int .i64 0] 28
        rw [hwA, hpb]
        exact ⟨h0.1, h0.2.1, h0.2.2⟩
      have hpb0 : W0.heap.size ≤ pb := by rw [hpb]; exact Nat.le_refl _
      rw [← hwA, ← hpb]
      clear hwA hpb
      (try dsimp only)
      refine hK.out _ _ (HSK.out wA kA) (fun hH2 => ?_)
      clear hK K
      replace hHeld := hH2
      clear hH2
      (try simp only [Act.put, List.setIfInBounds_toArray, List.set_cons_zero, List.set_cons_succ])
      refine comesL (i := 3) rfl rfl (by kernel_rfl) (fun K hK => ?_)
      go_simp
      refine (HCK'.out _ kA).mono ?_
      rintro e wK ⟨yK, rfl, hoK, bK⟩
      obtain ⟨aK, cK, rfl⟩ := (rows_of_ownS hoK).slice
      have kK : Below W0.heap.size W0 wK := Below.trans kA (bK.mono (Below.size kA))
      have HOK := hid (own_mono hoK (Below.size kA))
      have hnK : pb ∉ obl (.slice aK p.length cK) := fun h => by have h1 := (own_lt hoK _ h).1; have h2 := bxA.1; omega
      have bxK := bxA.below bK
      clear bK hoK
      (try dsimp only)
      refine hK.out _ _ (HSK.out wK kK) (fun hH2 => ?_)
      clear hK K
      replace hHeld := hH2
      clear hH2
      (try simp only [Act.put, List.setIfInBounds_toArray, List.set_cons_zero, List.set_cons_succ])
      refine comesL (i := 7) rfl rfl (by kernel_rfl) (fun K hK => ?_)
      go_simp
      refine (HCV'.out _ kK).mono ?_
      rintro e wV ⟨yV, rfl, hoV, bV⟩
      obtain ⟨aV, cV, rfl⟩ := (rows_of_ownS hoV).slice
      have kV : Below W0.heap.size W0 wV := Below.trans kK (bV.mono (Below.size kK))
      have HOV := hid (own_mono hoV (Below.size kK))
      have HOK2 := hid (HOK.out.below bV)
      have hnV : pb ∉ obl (.slice aV p.length cV) := fun h => by have h1 := (own_lt hoV _ h).1; have h2 := bxK.1; omega
      have bxV := bxK.below bV
      clear bV hoV
      (try dsimp only)
      refine hK.out _ _ (HSK.out wV kV) (fun hH2 => ?_)
      clear hK K
      replace hHeld := hH2
      clear hH2
      (try simp only [Act.put, List.setIfInBounds_toArray, List.set_cons_zero, List.set_cons_succ])
      refine takeL (i := 8) (v := ?_) rfl (by kernel_rfl) (by kernel_rfl) (by kernel_rfl) (fun _ _ _ h => h) rfl ?_ (by assumption) ?_
      rotate_left
      · intro w hSw; (try dsimp only at hSw); go_simp; (try with_reducible rfl)
      (try simp only [Act.put, List.setIfInBounds_toArray, List.set_cons_zero, List.set_cons_succ])
      have bx := bxV
      have q0 := bx.2.1 0 _ rfl
      have q1 := bx.2.1 1 _ rfl
      have q2 := bx.2.1 2 _ rfl
      have q3 := bx.2.1 3 _ rfl
      have r0 := bx.2.2 0 (by simp)
      have r1 := bx.2.2 1 (by simp)
      have r2 := bx.2.2 2 (by simp)
      have r3 := bx.2.2 3 (by simp)
      have rl := bx.1
      have FIN := hid (shwFin (ku := .slice aK p.length cK) (vu := .slice aV p.length cV) kV hpb0 bx HOK2.out HOV.out hnK hnV)
      have HNN := hid (And.intro hnK hnV)
      refine comesL (i := 10) rfl rfl (by kernel_rfl) (fun K hK => ?_)
      go_simp
      (try dsimp only)
      refine hK.out _ _ (HSK.out _ FIN.out.2.2.2) (fun hH2 => ?_)
      clear hK K hH2
      (try simp only [Act.put])
      refine wpAnyH_done (by kernel_rfl) ?_ _
      clear q0 q1 q2 q3 r0 r1 r2 r3 rl bx
      go_wp2_with fail
      go_meet
      exact ⟨pb, _, _, rfl, hpb0, FIN.out.1, FIN.out.2.1, FIN.out.2.2.1, HNN.out.1, HNN.out.2, FIN.out.2.2.2⟩
  case rest =>
    obtain ⟨pb, ku, vu, rfl, hpb, hbx, hok, hov, hnk, hnv, kb1⟩ := hcut
    obtain ⟨ka, kc, rfl⟩ := (rows_of_ownS hok).slice
    obtain ⟨va, vc, rfl⟩ := (rows_of_ownS hov).slice
    have kw : Below w.heap.size w wc := kb0.trans (kb1.mono kb0.size)
    have HKW := hid kw
    have HOK := hid hok
    have HOV := hid hov
    have HNK := hid hnk
    have HNV := hid hnv
    have HPB : Hid (w.heap.size + 1 < pb) := by have := HZ0.out; show _ < _; omega
    have bA1 := HBA.out.below kb1
    have y2 := bA1.2.1 2 _ rfl
    have hA1 := bA1.1
    have HBR1 := hid (HBR.out.below kb1)
    have HBX := hid hbx
    have hpl := hbx.1
    have HSC := hid kw.size
    clear hok hov hnk hnv kb1 kw bA1 hbx HBA HBR HZ0 p0 p1
    go_wp2_with fail
    go_loopw [5, 18] (fun s5 i wr => ∃ (k : Nat) (cu : Value), k ≤ kids.length ∧ i = .int .i64 k ∧ BoxAt wr pb [.slice ka p.length kc, .slice va p.length vc, cu, .int .i64 0] ∧ wr.ownsRow wc.heap.size 9 1 cu k (strsV ((digsN kids).take k)) ∧ Off [pb] wc wr) (fun _ i _ => kids.length - (intOf i).toNat)
    case atStart => exact ⟨0, _, Nat.zero_le _, rfl, HBX.out, ⟨by simp [strsV], .inl ⟨rfl, rfl⟩⟩, Off.refl _ _⟩
    case round =>
      obtain ⟨k, cu, hk, rfl, hbx, hcu, hof⟩ := hrel
      have kbw : Below w.heap.size w wr := HKW.out.trans (hof.below HSC.out (fun g hg => by rw [List.mem_singleton] at hg; have := HPB.out; omega))
      have HBXr := hid hbx
      have HCU := hid hcu
      have HOF := hid hof
      have z2 := hbx.2.1 2 _ rfl
      have hpr := hbx.1
      clear hbx hcu hof y2
      by_cases hlt : k < kids.length
      · have hki : (k : Int) < (kids.length : Int) := by omega
        have hk0 : (0 : Int) ≤ (k : Int) := by omega
        obtain ⟨b, off, c, x, y, z, hce, hb, c0, c1, c2, hnk⟩ := HN.out.kid hlt
        cases hce
        have e0 := (kbw.cell (p := ⟨b, off + k * 3, none⟩) hb).trans c0
        have e1 := (kbw.cell (p := ⟨b, off + k * 3 + 1, none⟩) hb).trans c1
        have e2 := (kbw.cell (p := ⟨b, off + k * 3 + 2, none⟩) hb).trans c2
        have hbr : b < wr.heap.size := Nat.lt_of_lt_of_le hb kbw.size
        obtain ⟨q1, l1, q2, l2, q3, l3, rfl, rfl, rfl⟩ := hnk.slices
        have HIK := hid (fun W (hW : Below w.heap.size w W) => IH.out k hlt _ _ _ W (hnk.below hW) (HT.out.below hW))
        have HTK := hid (digs_take kids k hlt)
        have HD4 := hid (digN_size (kids.getD k default))
        obtain ⟨Kk, hKk⟩ : ∃ Kk, kids.getD k default = Kk := ⟨_, rfl⟩
        rw [hKk] at HIK HTK HD4 e0 e1 e2
        clear c0 c1 c2 hnk hKk
        obtain ⟨ca, cc, rfl⟩ := (rows_of_ownS (.inl HCU.out)).slice
        go_upto_region 5 with fail
        obtain ⟨kb5, hkb5⟩ : ∃ kb5, kb5 = wr.heap.size := ⟨_, rfl⟩
        obtain ⟨W5, hW5⟩ : ∃ W5, W5 = wr.alloc (.cells #[.slice q1 Kk.prs.length l1, .slice q2 Kk.prs.length l2, .slice q3 Kk.kids.length l3] 117) := ⟨_, rfl⟩
        have bK : BoxAt W5 kb5 [.slice q1 Kk.prs.length l1, .slice q2 Kk.prs.length l2, .slice q3 Kk.kids.length l3] := by rw [hW5, hkb5]; exact boxNew wr _ _
        have al5 : Below wr.heap.size wr W5 := by rw [hW5]; exact al_ _ _
        rw [← hW5, ← hkb5]
        have bX5 := HBXr.out.below al5
        have g2 := bX5.2.1 2 _ rfl
        have m0 := bK.2.1 0 _ rfl
        have m1 := bK.2.1 1 _ rfl
        have m2 := bK.2.1 2 _ rfl
        have hp5 := bX5.1
        have hk5' := bK.1
        have HSK : Hid (∀ W, Below W5.heap.size W5 W → (fun w' : World => w'.cell? ⟨pb, 2, none⟩ = some (.slice ca k cc) ∧ w'.cell? ⟨kb5, 0, none⟩ = some (.slice q1 Kk.prs.length l1) ∧ w'.cell? ⟨kb5, 1, none⟩ = some (.slice q2 Kk.prs.length l2) ∧ w'.cell? ⟨kb5, 2, none⟩ = some (.slice q3 Kk.kids.length l3)) W) := fun W hW => ⟨(hW.cell hp5).trans g2, (hW.cell hk5').trans m0, (hW.cell hk5').trans m1, (hW.cell hk5').trans m2⟩
        have k5w : Below w.heap.size w W5 := kbw.trans (al5.mono kbw.size)
        have HK5 := hid al5
        have HBX5 := hid bX5
        have HL5 := hid (And.intro hp5 hk5')
        have HBK := hid bK
        have HZK : Hid (wr.heap.size ≤ kb5) := Nat.le_of_eq hkb5.symm
        have kd : Below W5.heap.size W5 W5.drew := Below.drew (Below.refl _ _)
        have HI5 := HIK.out W5.drew (Below.drew k5w)
        have hHeld := HSK.out W5.drew kd
        clear hW5 hkb5 bK al5 bX5 g2 m0 m1 m2 hp5 hk5' HIK z2 e0 e1 e2 hpr
        refine wp_region_swapL (m := 7) (S := fun w' : World => w'.cell? ⟨pb, 2, none⟩ = some (.slice ca k cc) ∧ w'.cell? ⟨kb5, 0, none⟩ = some (.slice q1 Kk.prs.length l1) ∧ w'.cell? ⟨kb5, 1, none⟩ = some (.slice q2 Kk.prs.length l2) ∧ w'.cell? ⟨kb5, 2, none⟩ = some (.slice q3 Kk.kids.length l3)) (by kernel_rfl) rfl rfl rfl rfl (by kernel_rfl) (by kernel_rfl) ?_
        simp only [List.set_cons_zero, List.set_cons_succ]
        refine takeL (i := 0) (v := ?_) rfl (by kernel_rfl) (by kernel_rfl) (by kernel_rfl) (fun _ _ _ h => h) rfl ?_ (by assumption) ?_
        rotate_left
        · intro w hSw; (try dsimp only at hSw); go_simp; (try with_reducible rfl)
        (try simp only [Act.put, List.setIfInBounds_toArray, List.set_cons_zero, List.set_cons_succ])
        refine takeL (i := 1) (v := ?_) rfl (by kernel_rfl) (by kernel_rfl) (by kernel_rfl) (fun _ _ _ h => h) rfl ?_ (by assumption) ?_
        rotate_left
        · intro w hSw; (try dsimp only at hSw); go_simp; (try with_reducible rfl)
        (try simp only [Act.put, List.setIfInBounds_toArray, List.set_cons_zero, List.set_cons_succ])
        refine takeL (i := 2) (v := ?_) rfl (by kernel_rfl) (by kernel_rfl) (by kernel_rfl) (fun _ _ _ h => h) rfl ?_ (by assumption) ?_
        rotate_left
        · intro w hSw; (try dsimp only at hSw); go_simp; (try with_reducible rfl)
        (try simp only [Act.put, List.setIfInBounds_toArray, List.set_cons_zero, List.set_cons_succ])
        refine comesL (i := 3) rfl rfl (by kernel_rfl) (fun K hK => ?_)
        go_simp
        refine HI5.mono ?_
        rintro e w6 ⟨rfl, hb6⟩
        have k6 : Below W5.heap.size W5 w6 := Below.trans kd (hb6.mono (by simp))
        clear hb6 HI5
        (try dsimp only)
        refine hK.out _ _ (HSK.out w6 k6) (fun hH2 => ?_)
        clear hK K
        replace hHeld := hH2
        clear hH2
        (try simp only [Act.put, List.setIfInBounds_toArray, List.set_cons_zero, List.set_cons_succ])
        refine comesL (i := 4) rfl rfl (by kernel_rfl) (fun K hK => ?_)
        go_simp
        obtain ⟨nb, hnb⟩ : ∃ nb, nb = w6.heap.size := ⟨_, rfl⟩
        obtain ⟨W7, hW7⟩ : ∃ W7, W7 = w6.alloc (.cells #[.string (digN Kk)] 9) := ⟨_, rfl⟩
        have hrw7 : RowsAt W7 1 (.slice (some ⟨nb, 0, none⟩) 1 1) 1 [.string (digN Kk)] := by rw [hW7, hnb]; exact news1 _ _ _
        have k7 : Below W5.heap.size W5 W7 := by rw [hW7]; exact k6.alloc k6.size _
        rw [← hW7, ← hnb]
        refine hK.out _ _ (HSK.out W7 k7) (fun hH2 => ?_)
        clear hK K hW7 hnb
        replace hHeld := hH2
        clear hH2
        (try simp only [Act.put, List.setIfInBounds_toArray, List.set_cons_zero, List.set_cons_succ])
        have hown7 : W7.ownsRow wc.heap.size 9 1 (.slice ca k cc) k (strsV ((digsN kids).take k)) := owns_keep HCU.out (fun g hg => by
          have h1 := (owns_lt HCU.out g hg).2
          rw [k7.block g (Nat.lt_of_lt_of_le h1 HK5.out.size), HK5.out.block g h1])
        have hwz : wc.heap.size ≤ W7.heap.size := Nat.le_trans HOF.out.size (Nat.le_trans HK5.out.size k7.size)
        refine comesL (i := 5) rfl rfl (by kernel_rfl) (fun K hK => ?_)
        refine wpOwnA rfl (.tmp 23) (.tmp 26) 26 rfl wc.heap.size 9 i0 (.string ByteArray.empty) 1 16 Tryd.underlying26 hi hz0 hz1 hz2 rfl (by omega) (.slice ca k cc) k _ rfl hown7 (.slice (some ⟨nb, 0, none⟩) 1 1) 1 [.string (digN Kk)] rfl hrw7 ?c1 ?c2 ?c3 hwz ?_
        case c1 => intro u hu; simp at hu; subst hu; rfl
        case c2 => unfold maxLen; omega
        case c3 => omega
        intro v' w8 ho8 hg8 he8
        obtain ⟨xa, xc, rfl⟩ := (rows_of_ownS (.inl ho8)).slice
        have hof8 : Off ((Value.slice ca k cc).ownBlock.toList) W7 w8 := ⟨hg8.os, hg8.tape, hg8.output, hg8.size, fun j hj hn => hg8.block j hj (fun e => hn (by rw [← e]; simp))⟩
        have hnb8 : ∀ j, j < wc.heap.size → j ∉ (Value.slice ca k cc).ownBlock.toList := fun j hj hm => by
          have := (owns_lt hown7 j (by simpa using hm)).1
          omega
        have hkn8 : kb5 ∉ (Value.slice ca k cc).ownBlock.toList := fun hm => by
          have := (owns_lt HCU.out kb5 (by simpa using hm)).2
          have := HZK.out
          omega
        have bX8 := (HBX5.out.below k7).off hof8 (hnb8 pb hpl)
        have bK8 := (HBK.out.below k7).off hof8 hkn8
        have HOF8 : Hid (Off [pb] wc w8) := off_comb ((HOF.out.trans (Off.of HK5.out)).trans (Off.of k7)) hof8 (fun x hx => .inr (by have := (owns_lt hown7 x (by simpa using hx)).1; exact this))
        have HO8 := hid ho8
        have n2 := bX8.2.1 2 _ rfl
        have f2 := bX8.2.2 2 (by simp)
        have hl8 := bX8.1
        have HBX8 := hid bX8
        clear ho8 hg8 he8 hof8 hnb8 hkn8 hown7 hrw7
        (try dsimp only)
        refine hK.out _ _ ⟨n2, bK8.2.1 0 _ rfl, bK8.2.1 1 _ rfl, bK8.2.1 2 _ rfl⟩ (fun hH2 => ?_)
        clear hK K bX8 bK8
        replace hHeld := hH2
        clear hH2 HSK
        (try simp only [Act.put, List.setIfInBounds_toArray, List.set_cons_zero, List.set_cons_succ])
        refine takeL (i := 6) (v := ?_) rfl (by kernel_rfl) (by kernel_rfl) (by kernel_rfl) (fun _ _ _ h => h) rfl ?_ (by assumption) ?_
        rotate_left
        · intro w hSw; (try dsimp only at hSw); go_simp; (try with_reducible rfl)
        (try simp only [Act.put, List.setIfInBounds_toArray, List.set_cons_zero, List.set_cons_succ])
        refine takeL (i := 7) (v := ?_) rfl (by kernel_rfl) (by kernel_rfl) (by kernel_rfl) (fun _ _ _ h => h) rfl ?_ (by assumption) ?_
        rotate_left
        · intro w hSw; (try dsimp only at hSw); go_simp; (try with_reducible rfl)
        (try simp only [Act.put])
        refine wpAnyH_done (by kernel_rfl) ?_ _
        simp only [LastQ]
        go_simp
        clear hHeld n2 f2
        have HB9 := hid (HBX8.out.set 2 (.slice xa (k + 1) xc))
        have HO9 := hid (HOF8.out.trans (offB w8 pb 2 (.slice xa (k + 1) xc)))
        have HR9 : Hid ((w8.setCell ⟨pb, 2, none⟩ (.slice xa (k + 1) xc)).ownsRow wc.heap.size 9 1 (.slice xa (k + 1) xc) (k + 1) (strsV ((digsN kids).take (k + 1)))) := by
          have h0 := HO8.out
          rw [show strsV ((digsN kids).take k) ++ [Value.string (digN Kk)] = strsV ((digsN kids).take (k + 1)) by rw [HTK.out]; simp [strsV]] at h0
          exact owns_keep h0 (fun g hg => setCell_other _ _ _ _ _ (fun e => by have := (owns_lt h0 g hg).1; omega))
        clear hl8
        go_wp2_with fail
        refine ⟨?_, by simp [intOf]; omega⟩
        first | exact ⟨k + 1, _, hlt, by go_num, HB9.out, HR9.out, HO9.out⟩ | ((repeat apply Exists.intro); exact ⟨⟨k + 1, _, hlt, by go_num, HB9.out, HR9.out, HO9.out⟩, rfl⟩)
      · have hke : k = kids.length := by omega
        subst hke
        have hki : ¬ ((kids.length : Int) < (kids.length : Int)) := by omega
        have hcu := HCU.out
        rw [List.take_of_length_le (by rw [digsN_len]; exact Nat.le_refl _)] at hcu
        have hdl := digsN_len kids
        have hrne : w.heap.size + 1 ∉ [pb] := by rw [List.mem_singleton]; have := HPB.out; omega
        have hbelow := HOK.out.off HOF.out (fun g hg hm => by rw [List.mem_singleton] at hm; subst hm; exact HNK.out hg)
        have hbelow2 := HOV.out.off HOF.out (fun g hg hm => by rw [List.mem_singleton] at hm; subst hm; exact HNV.out hg)
        obtain ⟨ca, cc, rfl⟩ := (rows_of_ownS (.inl hcu)).slice
        have HSA : Hid (ShAt wr (.slice ka p.length kc) (.slice va p.length vc) (.slice ca kids.length cc) (shN (.mk p kids))) := by
          refine ⟨strs_of_own (ss := p.map (·.1)) (by simpa using hbelow), strs_of_own (ss := p.map (·.2)) (by simpa using hbelow2), strs_of_own (base := wc.heap.size) (ss := digsN kids) ?_⟩
          rw [hdl]
          exact .inl hcu
        have bRr := HBR1.out.off HOF.out hrne
        have r0 := bRr.2.1 0 _ rfl
        have r1 := bRr.2.1 1 _ rfl
        have r2 := bRr.2.1 2 _ rfl
        have r3 := bRr.2.1 3 _ rfl
        have s0 := bRr.2.2 0 (by simp)
        have s1 := bRr.2.2 1 (by simp)
        have s2 := bRr.2.2 2 (by simp)
        have s3 := bRr.2.2 3 (by simp)
        have hrl1 := bRr.1
        have z0 := HBXr.out.2.1 0 _ rfl
        have z1 := HBXr.out.2.1 1 _ rfl
        have z3 := HBXr.out.2.1 3 _ rfl
        have bFin := (((bRr.set 0 (.slice ka p.length kc)).set 1 (.slice va p.length vc)).set 2 (.slice ca kids.length cc)).set 3 (.int .i64 0)
        have y0 := bFin.2.1 0 _ rfl
        have y1 := bFin.2.1 1 _ rfl
        have y7 := bFin.2.1 2 _ rfl
        have y8 := bFin.2.1 3 _ rfl
        have HFA := hid (ShAt.boxSet4 (a1 := ka) (n1 := p.length) (c1 := kc) (a2 := va) (n2 := p.length) (c2 := vc) (a3 := ca) (n3 := kids.length) (c3 := cc) HSA.out bRr)
        have HKB := hid (bel_set (bel_set (bel_set (bel_set kbw (by omega : w.heap.size ≤ w.heap.size + 1) 0 (.slice ka p.length kc)) (by omega : w.heap.size ≤ w.heap.size + 1) 1 (.slice va p.length vc)) (by omega : w.heap.size ≤ w.heap.size + 1) 2 (.slice ca kids.length cc)) (by omega : w.heap.size ≤ w.heap.size + 1) 3 (.int .i64 0))
        clear bFin bRr hbelow hbelow2 hcu hrne
        go_wp2_with fail
        (try simp only [Exit.inBlock, Exit.then])
        refine bodyPost_ret (v := .agg #[.slice ka p.length kc, .slice va p.length vc, .slice ca kids.length cc, .int .i64 0]) ?r rfl ?_
        case r => simp [y0, y1, y7, y8, results, Tryd.results71, go_sem]; try rfl
        exact ⟨_, _, _, rfl, HFA.out, HKB.out⟩
set_option maxHeartbeats 3200000 in
theorem implNodeD : ∀ (t : Nd), GdN t → ∀ (x y z : Value) (W : World), NodeP (fun _ => True) W t x y z → Table W →
    Calls Tryd.prog 65 #[.agg #[x, y, z]] W fun e w' => e = .returned (.string (digN t)) ∧ Below W.heap.size W w' := by
  intro t
  induction t using Nd.ind with
  | h p kids ih =>
    intro hg x y z W hn ht
    have IH : ∀ i, i < kids.length → ∀ (x y z : Value) (W : World), NodeP (fun _ => True) W (kids.getD i default) x y z → Table W → Calls Tryd.prog 65 #[.agg #[x, y, z]] W fun e w' => e = .returned (.string (digN (kids.getD i default))) ∧ Below W.heap.size W w' :=
      fun i hi x y z W h1 h2 => ih (kids.getD i default) (by simp [List.getD, hi]) (hg.kid hi) x y z W h1 h2
    have HS := fun o => implShownStep p kids hg IH x y z (W.alloc o) (hn.below (al_ _ _)) (ht.below (al_ _ _))
    have HP := hid (fun ku vu cu w1 (hb : Below W.heap.size W w1) h => implPDYes (shN (.mk p kids)) ku vu cu w1 (SmSh.of hg.good) hg.good h (ht.below hb))
    obtain ⟨a1, k1, a2, k2, a3, k3, rfl, rfl, rfl⟩ := hn.slices
    clear hn ht ih IH hg
    go_enter Tryd.func65, Tryd.ntmps65
    go_wp2_with fail
    refine (HS _).mono ?_
    rintro e w1 ⟨ku, vu, cu, rfl, hsh, hb⟩
    have kb : Below W.heap.size W w1 := (al_ _ _).trans (hb.mono (by simp))
    have HPP := HP.out ku vu cu w1 kb hsh
    rw [show (shN (.mk p kids)).go = 0 by simp [shN], ← digN_eq] at HPP
    obtain ⟨ka, kc, rfl⟩ := strs_len hsh.1
    obtain ⟨va, vc, rfl⟩ := strs_len hsh.2.1
    obtain ⟨ca, cc, rfl⟩ := strs_len hsh.2.2
    clear hb HS HP hsh
    go_wp2_with fail
    refine HPP.mono ?_
    rintro e w2 ⟨rfl, hb2⟩
    have kb2 : Below W.heap.size W w2 := kb.trans (hb2.mono kb.size)
    clear hb2 HPP
    go_wp2
    go_returns
    exact ⟨rfl, kb2⟩
theorem implRootYes {pages : List Pg} {t : Nd} (hh : Hand pages) (ht : TreeIs pages t) (w : World) (x : Value) (hx : PgsAt w x pages) (hta : Table w) :
    Calls Tryd.prog 20 #[.agg #[x]] w fun e w' => e = .returned (.tuple #[.string (digN t), .bool true]) ∧ Below w.heap.size w w' := by
  have HO := fun o => wholeYes hh ht (w.alloc o) x (hx.below (al1 w o))
  have HG := hid (fun kv vv cv W => implNodeD t (GdN.of ht) kv vv cv W)
  have HT := hid hta
  obtain ⟨a, c, rfl⟩ := hx.slice
  clear hx ht hh hta
  go_enter Tryd.func20, Tryd.ntmps20
  go_wp2_with fail
  refine (HO _).mono ?_
  rintro e w1 ⟨a1, k1, a2, k2, a3, k3, rfl, hnd, hb⟩
  have kb := belA hb
  have HN := hid hnd
  have HDD := HG.out _ _ _ (w1.alloc (.cells #[.slice a1 t.prs.length k1, .slice a2 t.prs.length k2, .slice a3 t.kids.length k3] 117)) (HN.out.below (al1 _ _)) (HT.out.below (kb.alloc kb.size _))
  clear hb hnd HO HG
  go_wp2_with fail
  refine HDD.mono ?_
  rintro e w2 ⟨rfl, hb2⟩
  have kb2 : Below w.heap.size w w2 := kb.trans ((belA hb2).mono kb.size)
  clear hb2 HDD
  go_wp2_with fail
  go_returns
  exact ⟨rfl, kb2⟩
theorem implRootNo {pages : List Pg} (hh : Hand pages) (ht : ∀ t, ¬ TreeIs pages t) (w : World) (x : Value) (hx : PgsAt w x pages) :
    Calls Tryd.prog 20 #[.agg #[x]] w fun e w' => e = .returned (.tuple #[.string ⟨#[]⟩, .bool false]) ∧ Below w.heap.size w w' := by
  have HO := fun o => wholeNo hh ht (w.alloc o) x (hx.below (al1 w o))
  obtain ⟨a, c, rfl⟩ := hx.slice
  clear hx ht hh
  go_enter Tryd.func20, Tryd.ntmps20
  go_wp2_with fail
  refine (HO _).mono ?_
  rintro e w1 ⟨rfl, hb⟩
  have kb := belA hb
  clear hb HO
  go_wp2_with fail
  go_returns
  exact ⟨rfl, kb.alloc kb.size _⟩
end Go.Proofs.YtgjcegmjhkehnaaDoor
