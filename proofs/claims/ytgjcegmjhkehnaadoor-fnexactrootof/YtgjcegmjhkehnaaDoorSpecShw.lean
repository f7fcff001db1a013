/- Contracts of the model's shown nodes and their digests. Condition: the node lies in memory, the call's own. -/
import Derived.Test.YtgjcegmjhkehnaaDoorImplShw
import Derived.Test.YtgjcegmjhkehnaaDoorSpecEx
namespace Go.Proofs.YtgjcegmjhkehnaaDoor
open Go.ChangeShapes Go.WideShapes Go.ChangeAt Go.RowKit Go.Deep
set_option linter.unusedVariables false
attribute [local go_sem ↓] Go.wp_at_zero Go.wp_at_succ

theorem one_keysX (p : List Pr) : ∀ u ∈ keysV p, u.oneCell' = true := by
  intro u hu
  obtain ⟨q, _, rfl⟩ := List.mem_map.1 hu
  rfl
theorem one_valsX (p : List Pr) : ∀ u ∈ valsV p, u.oneCell' = true := by
  intro u hu
  obtain ⟨q, _, rfl⟩ := List.mem_map.1 hu
  rfl
theorem wpE {P : Program} {o : Oper} {a : Act} {W : World} {K : Act → World → Prop} {Q : Exit → Act → World → Prop} (W0 : World) (hW : Below W0.heap.size W0 W)
    (hg : o.guard = none) (s x : Operand) (t : TypeId) (ho : o.op = Op.call { callee := Callee.builtin Builtin.append, args := #[s, x], argTypes := #[t, t] })
    (base : Nat) (hbase : base ≤ W0.heap.size) (e : TypeId) (i : TypeInfo) (z : Value) (bytes : Nat) (ht : P.underlying t = some (.slice e)) (hi : P.info? e = some i) (hz : i.zero = some z)
    (hsize : i.size = 1) (hby : i.bytes = bytes) (hzs : z.cells.size = 1)
    (xv : Value) (m : Nat) (news : List Value) (hrow : RowsAt W0 1 xv m news) (h1 : ∀ u ∈ news, u.oneCell' = true)
    (h63 : 0 + m ≤ maxLen) (hbytes : (0 + m) * bytes ≤ 140737488355328)
    (g : Nat) (hs : a.eval s = .slice (some ⟨g, 0, none⟩) 0 0) (hx : a.eval x = xv)
    (hK : ∀ v' w', OwnS w' base e v' m news → Below W.heap.size W w' → Below W0.heap.size W0 w' → (∀ g ∈ obl v', W.heap.size ≤ g) → K (a.put o.dst v') w') : Oper.wp P o a W K Q := by
  have h := stepE (P := P) (ops := #[]) (E := False) (Q := Q) (K := K) W0 hW hg s x t ho base hbase e i z bytes ht hi hz hsize hby hzs xv m news hrow h1 h63 hbytes g hs hx hK
  rwa [if_pos (by simp [Region.wanted, hg])] at h
theorem ownT_ptr {w : World} {base : Nat} : ∀ {t : Nd} {v : Value} {F : List Nat}, OwnT w base t v F → ∃ b, v = .pointer (some ⟨b, 0, none⟩)
  | .mk p kids, v, F, h => by
    obtain ⟨b, kv, vv, cv, ps, Fc, rfl, _⟩ := h
    exact ⟨b, rfl⟩
theorem shN_go (t : Nd) : (shN t).go = 0 := by cases t; simp [shN]
theorem al6 (w : World) (o : Obj) : Below w.heap.size w (w.alloc o) := (Below.refl _ _).alloc (Nat.le_refl _) o
set_option maxHeartbeats 6400000 in
set_option maxRecDepth 100000 in
theorem specShownStep (base : Nat) (p : List Pr) (kids : List Nd) (hg : GdN (.mk p kids))
    (ih : ∀ i, i < kids.length → ∀ (v : Value) (F : List Nat) (W : World), OwnT W base (kids.getD i default) v F →
      Calls Tryd.prog 62 #[v] W fun e w' => ∃ ku vu cu, e = .returned (.agg #[ku, vu, cu, .int .i64 0]) ∧ ShAt w' ku vu cu (shN (kids.getD i default)) ∧ Below W.heap.size W w')
    (v : Value) (F : List Nat) (w : World) (hn : OwnT w base (.mk p kids) v F) :
    Calls Tryd.prog 62 #[v] w fun e w' => ∃ ku vu cu, e = .returned (.agg #[ku, vu, cu, .int .i64 0]) ∧ ShAt w' ku vu cu (shN (.mk p kids)) ∧ Below w.heap.size w w' := by
  obtain ⟨i0, hi, hzz⟩ := Option.map_eq_some_iff.1 infoTx
  simp only [Prod.mk.injEq] at hzz
  obtain ⟨hz0, hz1, hz2⟩ := hzz
  have hk5 : kids.length ≤ 5 := by have := (shape_kids hg.1).1; simpa [Nd.kids] using this
  have hp4 : p.length ≤ 4 := by have := (shape_kids hg.1).2; simpa [Nd.prs] using this
  have HGK := hid (fun i hi => (hg.kid (i := i) hi))
  have IH := hid ih
  have HLT := hid hn.lt
  obtain ⟨b, kv, vv, cv, ps, Fc, rfl, hbb, HK⟩ := hn.partsK (B := w.heap.size) (fun g h => (hn.lt g h).2)
  have HKW := hid HK.2
  obtain ⟨W0, hW0⟩ : ∃ W0, W0 = w.alloc (.cells #[.slice none 0 0, .slice none 0 0, .slice none 0 0, .int .i64 0] 28) := ⟨_, rfl⟩
  have kb0 : Below w.heap.size w W0 := by rw [hW0]; exact al6 _ _
  have hzs : W0.heap.size = w.heap.size + 1 := by rw [hW0]; simp
  have bR : BoxAt W0 w.heap.size [.slice none 0 0, .slice none 0 0, .slice none 0 0, .int .i64 0] := by rw [hW0]; exact boxNew w _ _
  obtain ⟨_, p0, p1, p2, rk, rv, rc, hts⟩ := HK.2 W0 kb0
  obtain ⟨ka, kc, rfl⟩ := rk.slice
  obtain ⟨va, vc, rfl⟩ := rv.slice
  obtain ⟨ca, cc, rfl⟩ := rc.slice
  have hb0 : b < W0.heap.size := by omega
  clear hn ih HK hg
  go_enter Tryd.func62, Tryd.ntmps62
  go_upto_region 1 with fail
  rw [← hW0]
  have HBR := hid bR
  have HZ0 := hid hzs
  clear hW0 hzs bR
  go_cut [3] (fun q wc => ∃ pb ku vu, q = .pointer (some ⟨pb, 0, none⟩) ∧ W0.heap.size ≤ pb ∧ BoxAt wc pb [ku, vu, .slice none 0 0, .int .i64 0] ∧ OwnS wc W0.heap.size 9 ku p.length (strsV (p.map (·.1))) ∧ OwnS wc W0.heap.size 9 vu p.length (strsV (p.map (·.2))) ∧ pb ∉ obl ku ∧ pb ∉ obl vu ∧ Below W0.heap.size W0 wc)
  --REGION1
  case first =>
    have HSK : Hid (∀ W, Below W0.heap.size W0 W → (fun w' : World => w'.cell? ⟨b, 0, none⟩ = some (.slice ka p.length kc) ∧ w'.cell? ⟨b, 1, none⟩ = some (.slice va p.length vc)) W) := fun W hW => ⟨(hW.cell hb0).trans p0, (hW.cell hb0).trans p1⟩
    have hHeld := HSK.out W0.drew (Below.drew (Below.refl _ _))
    have kd : Below W0.heap.size W0 W0.drew := Below.drew (Below.refl _ _)
    clear p0 p1 p2 IH HBR rc hts HKW
    refine wp_region_heldL (n := 15) (S := fun w' : World => w'.cell? ⟨b, 0, none⟩ = some (.slice ka p.length kc) ∧ w'.cell? ⟨b, 1, none⟩ = some (.slice va p.length vc)) (by kernel_rfl) rfl ?_
    refine takeL (i := 1) (v := ?_) rfl (by kernel_rfl) (by kernel_rfl) (by kernel_rfl) (fun _ _ _ h => h) rfl ?_ (by assumption) ?_
    rotate_left
    · intro w hSw; (try dsimp only at hSw); go_simp; (try with_reducible rfl)
    (try simp only [Act.put, List.setIfInBounds_toArray, List.set_cons_zero, List.set_cons_succ])
    refine takeL (i := 2) (v := ?_) rfl (by kernel_rfl) (by kernel_rfl) (by kernel_rfl) (fun _ _ _ h => h) rfl ?_ (by assumption) ?_
    rotate_left
    · intro w hSw; (try dsimp only at hSw); go_simp; (try with_reducible rfl)
    (try simp only [Act.put, List.setIfInBounds_toArray, List.set_cons_zero, List.set_cons_succ])
    refine takeL (i := 3) (v := ?_) rfl (by kernel_rfl) (by kernel_rfl) (by kernel_rfl) (fun _ _ _ h => h) rfl ?_ (by assumption) ?_
    rotate_left
    · intro w hSw; (try dsimp only at hSw); go_simp; (try with_reducible rfl)
    (try simp only [Act.put, List.setIfInBounds_toArray, List.set_cons_zero, List.set_cons_succ])
    refine takeL (i := 4) (v := ?_) rfl (by kernel_rfl) (by kernel_rfl) (by kernel_rfl) (fun _ _ _ h => h) rfl ?_ (by assumption) ?_
    rotate_left
    · intro w hSw; (try dsimp only at hSw); go_simp; (try with_reducible rfl)
    (try simp only [Act.put, List.setIfInBounds_toArray, List.set_cons_zero, List.set_cons_succ])
    refine takeL (i := 7) (v := ?_) rfl (by kernel_rfl) (by kernel_rfl) (by kernel_rfl) (fun _ _ _ h => h) rfl ?_ (by assumption) ?_
    rotate_left
    · intro w hSw; (try dsimp only at hSw); go_simp; (try with_reducible rfl)
    (try simp only [Act.put, List.setIfInBounds_toArray, List.set_cons_zero, List.set_cons_succ])
    refine takeL (i := 8) (v := ?_) rfl (by kernel_rfl) (by kernel_rfl) (by kernel_rfl) (fun _ _ _ h => h) rfl ?_ (by assumption) ?_
    rotate_left
    · intro w hSw; (try dsimp only at hSw); go_simp; (try with_reducible rfl)
    (try simp only [Act.put, List.setIfInBounds_toArray, List.set_cons_zero, List.set_cons_succ])
    refine takeL (i := 9) (v := ?_) rfl (by kernel_rfl) (by kernel_rfl) (by kernel_rfl) (fun _ _ _ h => h) rfl ?_ (by assumption) ?_
    rotate_left
    · intro w hSw; (try dsimp only at hSw); go_simp; (try with_reducible rfl)
    (try simp only [Act.put, List.setIfInBounds_toArray, List.set_cons_zero, List.set_cons_succ])
    refine takeL (i := 10) (v := ?_) rfl (by kernel_rfl) (by kernel_rfl) (by kernel_rfl) (fun _ _ _ h => h) rfl ?_ (by assumption) ?_
    rotate_left
    · intro w hSw; (try dsimp only at hSw); go_simp; (try with_reducible rfl)
    (try simp only [Act.put, List.setIfInBounds_toArray, List.set_cons_zero, List.set_cons_succ])
    refine comes3L (i := 0) (j := 6) (k := 13) rfl rfl rfl rfl rfl rfl (by kernel_rfl) (fun K hK => ?_) (fun K hK => ?_) (fun K hK => ?_)
    · skip
      go_simp
      obtain ⟨gA, hgA⟩ : ∃ g, g = W0.heap.size := ⟨_, rfl⟩
      obtain ⟨w1, hw1⟩ : ∃ x, x = (W0.alloc (.cells #[] 9)).drew := ⟨_, rfl⟩
      have bs1 : Below W0.heap.size W0 w1 := by rw [hw1]; exact Below.drew (al6 _ _)
      have k1 := bs1
      rw [← hw1, ← hgA]
      clear hw1 hgA
      (try dsimp only)
      refine hK.out _ _ (HSK.out w1 k1) (fun hH2 => ?_)
      clear hK K
      replace hHeld := hH2
      clear hH2
      (try simp only [Act.put, List.setIfInBounds_toArray, List.set_cons_zero, List.set_cons_succ])
      refine comes3L (i := 5) (j := 6) (k := 13) rfl rfl rfl rfl rfl rfl (by kernel_rfl) (fun K hK => ?_) (fun K hK => ?_) (fun K hK => ?_)
      · skip
        refine wpE W0 k1 rfl (.tmp 6) (.tmp 10) 26 rfl W0.heap.size (Nat.le_refl _) 9 i0 (.string ByteArray.empty) 16 Tryd.underlying26 hi hz0 hz1 hz2 rfl (.slice ka p.length kc) p.length (keysV p) rk (one_keysX p) (by unfold maxLen; omega) (by omega) gA rfl rfl ?_
        intro v2 w2 ho2 bs2 k2 hg2
        obtain ⟨aK, cK, hv2⟩ := (rows_of_ownS ho2).slice
        subst hv2
        have HK2 := hid ho2
        clear ho2 hg2
        (try dsimp only)
        refine hK.out _ _ (HSK.out w2 k2) (fun hH2 => ?_)
        clear hK K
        replace hHeld := hH2
        clear hH2
        (try simp only [Act.put, List.setIfInBounds_toArray, List.set_cons_zero, List.set_cons_succ])
        refine comes2L (i := 6) (j := 13) rfl rfl rfl rfl (by kernel_rfl) (fun K hK => ?_) (fun K hK => ?_)
        · skip
          go_simp
          obtain ⟨gB, hgB⟩ : ∃ g, g = w2.heap.size := ⟨_, rfl⟩
          obtain ⟨w3, hw3⟩ : ∃ x, x = w2.alloc (.cells #[] 9) := ⟨_, rfl⟩
          have bs3 : Below w2.heap.size w2 w3 := by rw [hw3]; exact al6 _ _
          have k3 : Below W0.heap.size W0 w3 := Below.trans k2 (bs3.mono (Below.size k2))
          have HK3 := hid (HK2.out.below bs3)
          rw [← hw3, ← hgB]
          clear hw3 hgB
          (try dsimp only)
          refine hK.out _ _ (HSK.out w3 k3) (fun hH2 => ?_)
          clear hK K
          replace hHeld := hH2
          clear hH2
          (try simp only [Act.put, List.setIfInBounds_toArray, List.set_cons_zero, List.set_cons_succ])
          refine comes2L (i := 11) (j := 13) rfl rfl rfl rfl (by kernel_rfl) (fun K hK => ?_) (fun K hK => ?_)
          · skip
            refine wpE W0 k3 rfl (.tmp 12) (.tmp 16) 26 rfl W0.heap.size (Nat.le_refl _) 9 i0 (.string ByteArray.empty) 16 Tryd.underlying26 hi hz0 hz1 hz2 rfl (.slice va p.length vc) p.length (valsV p) rv (one_valsX p) (by unfold maxLen; omega) (by omega) gB rfl rfl ?_
            intro v4 w4 ho4 bs4 k4 hg4
            obtain ⟨aV, cV, hv4⟩ := (rows_of_ownS ho4).slice
            subst hv4
            have HK4 := hid (HK3.out.below bs4)
            have HV4 := hid ho4
            clear ho4 hg4
            (try dsimp only)
            refine hK.out _ _ (HSK.out w4 k4) (fun hH2 => ?_)
            clear hK K
            replace hHeld := hH2
            clear hH2
            (try simp only [Act.put, List.setIfInBounds_toArray, List.set_cons_zero, List.set_cons_succ])
            refine takeL (i := 12) (v := ?_) rfl (by kernel_rfl) (by kernel_rfl) (by kernel_rfl) (fun _ _ _ h => h) rfl ?_ (by assumption) ?_
            rotate_left
            · intro w hSw; (try dsimp only at hSw); go_simp; (try with_reducible rfl)
            (try simp only [Act.put, List.setIfInBounds_toArray, List.set_cons_zero, List.set_cons_succ])
            refine comesL (i := 13) rfl rfl (by kernel_rfl) (fun K hK => ?_)
            go_simp
            obtain ⟨pb, hpb⟩ : ∃ g, g = w4.heap.size := ⟨_, rfl⟩
            obtain ⟨w5, hw5⟩ : ∃ x, x = w4.alloc (.cells #[.slice none 0 0, .slice none 0 0, .slice none 0 0, .int .i64 0] 28) := ⟨_, rfl⟩
            have bs5 : Below w4.heap.size w4 w5 := by rw [hw5]; exact al6 _ _
            have k5 : Below W0.heap.size W0 w5 := Below.trans k4 (bs5.mono (Below.size k4))
            have HK5 := hid (HK4.out.below bs5)
            have HV5 := hid (HV4.out.below bs5)
            have bx5_ : BoxAt w5 pb [.slice none 0 0, .slice none 0 0, .slice none 0 0, .int .i64 0] := by
              have h0 := boxNew w4 #[.slice none 0 0, .slice none 0 0, .slice none 0 0, .int .i64 0] 28
              rw [hw5, hpb]
              exact h0
            have hpb0 : W0.heap.size ≤ pb := by rw [hpb]; exact Below.size k4
            have hnK : pb ∉ obl (.slice aK p.length cK) := fun h => by have h1 := (own_lt HK4.out _ h).2; omega
            have hnV : pb ∉ obl (.slice aV p.length cV) := fun h => by have h1 := (own_lt HV4.out _ h).2; omega
            rw [← hw5, ← hpb]
            clear hw5 hpb
            (try dsimp only)
            refine hK.out _ _ (HSK.out w5 k5) (fun hH2 => ?_)
            clear hK K
            replace hHeld := hH2
            clear hH2
            (try simp only [Act.put, List.setIfInBounds_toArray, List.set_cons_zero, List.set_cons_succ])
            have bx := bx5_
            have q0 := bx.2.1 0 _ rfl
            have q1 := bx.2.1 1 _ rfl
            have q2 := bx.2.1 2 _ rfl
            have q3 := bx.2.1 3 _ rfl
            have r0 := bx.2.2 0 (by simp)
            have r1 := bx.2.2 1 (by simp)
            have r2 := bx.2.2 2 (by simp)
            have r3 := bx.2.2 3 (by simp)
            have rl := bx.1
            have FIN := hid (shwFin (s1 := p.map (·.1)) (s2 := p.map (·.2)) (ku := .slice aK p.length cK) (vu := .slice aV p.length cV) k5 hpb0 bx (by rw [← keys_map]; exact HK5.out) (by rw [← vals_map]; exact HV5.out) hnK hnV)
            have HNN := hid (And.intro hnK hnV)
            refine comesL (i := 14) rfl rfl (by kernel_rfl) (fun K hK => ?_)
            go_simp
            (try dsimp only)
            refine hK.out _ _ (HSK.out _ FIN.out.2.2.2) (fun hH2 => ?_)
            clear hK K hH2
            (try simp only [Act.put])
            refine wpAnyH_done (by kernel_rfl) ?_ _
            clear q0 q1 q2 q3 r0 r1 r2 r3 rl bx
            go_wp2_with fail
            go_meet
            exact ⟨pb, _, _, rfl, hpb0, FIN.out.1, FIN.out.2.1, FIN.out.2.2.1, HNN.out.1, HNN.out.2, FIN.out.2.2.2⟩
          · skip
            go_simp
            obtain ⟨pb, hpb⟩ : ∃ g, g = w3.heap.size := ⟨_, rfl⟩
            obtain ⟨w6, hw6⟩ : ∃ x, x = w3.alloc (.cells #[.slice none 0 0, .slice none 0 0, .slice none 0 0, .int .i64 0] 28) := ⟨_, rfl⟩
            have bs6 : Below w3.heap.size w3 w6 := by rw [hw6]; exact al6 _ _
            have k6 : Below W0.heap.size W0 w6 := Below.trans k3 (bs6.mono (Below.size k3))
            have HK6 := hid (HK3.out.below bs6)
            have bx6_ : BoxAt w6 pb [.slice none 0 0, .slice none 0 0, .slice none 0 0, .int .i64 0] := by
              have h0 := boxNew w3 #[.slice none 0 0, .slice none 0 0, .slice none 0 0, .int .i64 0] 28
              rw [hw6, hpb]
              exact h0
            have hpb0 : W0.heap.size ≤ pb := by rw [hpb]; exact Below.size k3
            have hnK : pb ∉ obl (.slice aK p.length cK) := fun h => by have h1 := (own_lt HK3.out _ h).2; omega
            rw [← hw6, ← hpb]
            clear hw6 hpb
            (try dsimp only)
            refine hK.out _ _ (HSK.out w6 k6) (fun hH2 => ?_)
            clear hK K
            replace hHeld := hH2
            clear hH2
            (try simp only [Act.put, List.setIfInBounds_toArray, List.set_cons_zero, List.set_cons_succ])
            refine comesL (i := 11) rfl rfl (by kernel_rfl) (fun K hK => ?_)
            refine wpE W0 k6 rfl (.tmp 12) (.tmp 16) 26 rfl W0.heap.size (Nat.le_refl _) 9 i0 (.string ByteArray.empty) 16 Tryd.underlying26 hi hz0 hz1 hz2 rfl (.slice va p.length vc) p.length (valsV p) rv (one_valsX p) (by unfold maxLen; omega) (by omega) gB rfl rfl ?_
            intro v7 w7 ho7 bs7 k7 hg7
            obtain ⟨aV, cV, hv7⟩ := (rows_of_ownS ho7).slice
            subst hv7
            have HK7 := hid (HK6.out.below bs7)
            have bx7 := bx6_.below bs7
            have HV7 := hid ho7
            have hnV : pb ∉ obl (.slice aV p.length cV) := fun h => by have h1 := hg7 _ h; have h2 := bx6_.1; omega
            clear ho7 hg7
            (try dsimp only)
            refine hK.out _ _ (HSK.out w7 k7) (fun hH2 => ?_)
            clear hK K
            replace hHeld := hH2
            clear hH2
            (try simp only [Act.put, List.setIfInBounds_toArray, List.set_cons_zero, List.set_cons_succ])
            refine takeL (i := 12) (v := ?_) rfl (by kernel_rfl) (by kernel_rfl) (by kernel_rfl) (fun _ _ _ h => h) rfl ?_ (by assumption) ?_
            rotate_left
            · intro w hSw; (try dsimp only at hSw); go_simp; (try with_reducible rfl)
            (try simp only [Act.put, List.setIfInBounds_toArray, List.set_cons_zero, List.set_cons_succ])
            have bx := bx7
            have q0 := bx.2.1 0 _ rfl
            have q1 := bx.2.1 1 _ rfl
            have q2 := bx.2.1 2 _ rfl
            have q3 := bx.2.1 3 _ rfl
            have r0 := bx.2.2 0 (by simp)
            have r1 := bx.2.2 1 (by simp)
            have r2 := bx.2.2 2 (by simp)
            have r3 := bx.2.2 3 (by simp)
            have rl := bx.1
            have FIN := hid (shwFin (s1 := p.map (·.1)) (s2 := p.map (·.2)) (ku := .slice aK p.length cK) (vu := .slice aV p.length cV) k7 hpb0 bx (by rw [← keys_map]; exact HK7.out) (by rw [← vals_map]; exact HV7.out) hnK hnV)
            have HNN := hid (And.intro hnK hnV)
            refine comesL (i := 14) rfl rfl (by kernel_rfl) (fun K hK => ?_)
            go_simp
            (try dsimp only)
            refine hK.out _ _ (HSK.out _ FIN.out.2.2.2) (fun hH2 => ?_)
            clear hK K hH2
            (try simp only [Act.put])
            refine wpAnyH_done (by kernel_rfl) ?_ _
            clear q0 q1 q2 q3 r0 r1 r2 r3 rl bx
            go_wp2_with fail
            go_meet
            exact ⟨pb, _, _, rfl, hpb0, FIN.out.1, FIN.out.2.1, FIN.out.2.2.1, HNN.out.1, HNN.out.2, FIN.out.2.2.2⟩
        · skip
          go_simp
          obtain ⟨pb, hpb⟩ : ∃ g, g = w2.heap.size := ⟨_, rfl⟩
          obtain ⟨w8, hw8⟩ : ∃ x, x = w2.alloc (.cells #[.slice none 0 0, .slice none 0 0, .slice none 0 0, .int .i64 0] 28) := ⟨_, rfl⟩
          have bs8 : Below w2.heap.size w2 w8 := by rw [hw8]; exact al6 _ _
          have k8 : Below W0.heap.size W0 w8 := Below.trans k2 (bs8.mono (Below.size k2))
          have HK8 := hid (HK2.out.below bs8)
          have bx8_ : BoxAt w8 pb [.slice none 0 0, .slice none 0 0, .slice none 0 0, .int .i64 0] := by
            have h0 := boxNew w2 #[.slice none 0 0, .slice none 0 0, .slice none 0 0, .int .i64 0] 28
            rw [hw8, hpb]
            exact h0
          have hpb0 : W0.heap.size ≤ pb := by rw [hpb]; exact Below.size k2
          have hnK : pb ∉ obl (.slice aK p.length cK) := fun h => by have h1 := (own_lt HK2.out _ h).2; omega
          rw [← hw8, ← hpb]
          clear hw8 hpb
          (try dsimp only)
          refine hK.out _ _ (HSK.out w8 k8) (fun hH2 => ?_)
          clear hK K
          replace hHeld := hH2
          clear hH2
          (try simp only [Act.put, List.setIfInBounds_toArray, List.set_cons_zero, List.set_cons_succ])
          refine comesL (i := 6) rfl rfl (by kernel_rfl) (fun K hK => ?_)
          go_simp
          obtain ⟨gB, hgB⟩ : ∃ g, g = w8.heap.size := ⟨_, rfl⟩
          obtain ⟨w9, hw9⟩ : ∃ x, x = w8.alloc (.cells #[] 9) := ⟨_, rfl⟩
          have bs9 : Below w8.heap.size w8 w9 := by rw [hw9]; exact al6 _ _
          have k9 : Below W0.heap.size W0 w9 := Below.trans k8 (bs9.mono (Below.size k8))
          have HK9 := hid (HK8.out.below bs9)
          have bx9 := bx8_.below bs9
          rw [← hw9, ← hgB]
          clear hw9 hgB
          (try dsimp only)
          refine hK.out _ _ (HSK.out w9 k9) (fun hH2 => ?_)
          clear hK K
          replace hHeld := hH2
          clear hH2
          (try simp only [Act.put, List.setIfInBounds_toArray, List.set_cons_zero, List.set_cons_succ])
          refine comesL (i := 11) rfl rfl (by kernel_rfl) (fun K hK => ?_)
          refine wpE W0 k9 rfl (.tmp 12) (.tmp 16) 26 rfl W0.heap.size (Nat.le_refl _) 9 i0 (.string ByteArray.empty) 16 Tryd.underlying26 hi hz0 hz1 hz2 rfl (.slice va p.length vc) p.length (valsV p) rv (one_valsX p) (by unfold maxLen; omega) (by omega) gB rfl rfl ?_
          intro v10 w10 ho10 bs10 k10 hg10
          obtain ⟨aV, cV, hv10⟩ := (rows_of_ownS ho10).slice
          subst hv10
          have HK10 := hid (HK9.out.below bs10)
          have bx10 := bx9.below bs10
          have HV10 := hid ho10
          have hnV : pb ∉ obl (.slice aV p.length cV) := fun h => by have h1 := hg10 _ h; have h2 := bx9.1; omega
          clear ho10 hg10
          (try dsimp only)
          refine hK.out _ _ (HSK.out w10 k10) (fun hH2 => ?_)
          clear hK K
          replace hHeld := hH2
          clear hH2
          (try simp only [Act.put, List.setIfInBounds_toArray, List.set_cons_zero, List.set_cons_succ])
          refine takeL (i := 12) (v := ?_) rfl (by kernel_rfl) (by kernel_rfl) (by kernel_rfl) (fun _ _ _ h => h) rfl ?_ (by assumption) ?_
          rotate_left
          · intro w hSw; (try dsimp only at hSw); go_simp; (try with_reducible rfl)
          (try simp only [Act.put, List.setIfInBounds_toArray, List.set_cons_zero, List.set_cons_succ])
          have bx := bx10
          have q0 := bx.2.1 0 _ rfl
          have q1 := bx.2.1 1 _ rfl
          have q2 := bx.2.1 2 _ rfl
          have q3 := bx.2.1 3 _ rfl
          have r0 := bx.2.2 0 (by simp)
          have r1 := bx.2.2 1 (by simp)
          have r2 := bx.2.2 2 (by simp)
          have r3 := bx.2.2 3 (by simp)
          have rl := bx.1
          have FIN := hid (shwFin (s1 := p.map (·.1)) (s2 := p.map (·.2)) (ku := .slice aK p.length cK) (vu := .slice aV p.length cV) k10 hpb0 bx (by rw [← keys_map]; exact HK10.out) (by rw [← vals_map]; exact HV10.out) hnK hnV)
          have HNN := hid (And.intro hnK hnV)
          refine comesL (i := 14) rfl rfl (by kernel_rfl) (fun K hK => ?_)
          go_simp
          (try dsimp only)
          refine hK.out _ _ (HSK.out _ FIN.out.2.2.2) (fun hH2 => ?_)
          clear hK K hH2
          (try simp only [Act.put])
          refine wpAnyH_done (by kernel_rfl) ?_ _
          clear q0 q1 q2 q3 r0 r1 r2 r3 rl bx
          go_wp2_with fail
          go_meet
          exact ⟨pb, _, _, rfl, hpb0, FIN.out.1, FIN.out.2.1, FIN.out.2.2.1, HNN.out.1, HNN.out.2, FIN.out.2.2.2⟩
      · skip
        go_simp
        obtain ⟨gB, hgB⟩ : ∃ g, g = w1.heap.size := ⟨_, rfl⟩
        obtain ⟨w11, hw11⟩ : ∃ x, x = w1.alloc (.cells #[] 9) := ⟨_, rfl⟩
        have bs11 : Below w1.heap.size w1 w11 := by rw [hw11]; exact al6 _ _
        have k11 : Below W0.heap.size W0 w11 := Below.trans k1 (bs11.mono (Below.size k1))
        rw [← hw11, ← hgB]
        clear hw11 hgB
        (try dsimp only)
        refine hK.out _ _ (HSK.out w11 k11) (fun hH2 => ?_)
        clear hK K
        replace hHeld := hH2
        clear hH2
        (try simp only [Act.put, List.setIfInBounds_toArray, List.set_cons_zero, List.set_cons_succ])
        refine comes2L (i := 5) (j := 13) rfl rfl rfl rfl (by kernel_rfl) (fun K hK => ?_) (fun K hK => ?_)
        · skip
          refine wpE W0 k11 rfl (.tmp 6) (.tmp 10) 26 rfl W0.heap.size (Nat.le_refl _) 9 i0 (.string ByteArray.empty) 16 Tryd.underlying26 hi hz0 hz1 hz2 rfl (.slice ka p.length kc) p.length (keysV p) rk (one_keysX p) (by unfold maxLen; omega) (by omega) gA rfl rfl ?_
          intro v12 w12 ho12 bs12 k12 hg12
          obtain ⟨aK, cK, hv12⟩ := (rows_of_ownS ho12).slice
          subst hv12
          have HK12 := hid ho12
          clear ho12 hg12
          (try dsimp only)
          refine hK.out _ _ (HSK.out w12 k12) (fun hH2 => ?_)
          clear hK K
          replace hHeld := hH2
          clear hH2
          (try simp only [Act.put, List.setIfInBounds_toArray, List.set_cons_zero, List.set_cons_succ])
          refine comes2L (i := 11) (j := 13) rfl rfl rfl rfl (by kernel_rfl) (fun K hK => ?_) (fun K hK => ?_)
          · skip
            refine wpE W0 k12 rfl (.tmp 12) (.tmp 16) 26 rfl W0.heap.size (Nat.le_refl _) 9 i0 (.string ByteArray.empty) 16 Tryd.underlying26 hi hz0 hz1 hz2 rfl (.slice va p.length vc) p.length (valsV p) rv (one_valsX p) (by unfold maxLen; omega) (by omega) gB rfl rfl ?_
            intro v13 w13 ho13 bs13 k13 hg13
            obtain ⟨aV, cV, hv13⟩ := (rows_of_ownS ho13).slice
            subst hv13
            have HK13 := hid (HK12.out.below bs13)
            have HV13 := hid ho13
            clear ho13 hg13
            (try dsimp only)
            refine hK.out _ _ (HSK.out w13 k13) (fun hH2 => ?_)
            clear hK K
            replace hHeld := hH2
            clear hH2
            (try simp only [Act.put, List.setIfInBounds_toArray, List.set_cons_zero, List.set_cons_succ])
            refine takeL (i := 12) (v := ?_) rfl (by kernel_rfl) (by kernel_rfl) (by kernel_rfl) (fun _ _ _ h => h) rfl ?_ (by assumption) ?_
            rotate_left
            · intro w hSw; (try dsimp only at hSw); go_simp; (try with_reducible rfl)
            (try simp only [Act.put, List.setIfInBounds_toArray, List.set_cons_zero, List.set_cons_succ])
            refine comesL (i := 13) rfl rfl (by kernel_rfl) (fun K hK => ?_)
            go_simp
            obtain ⟨pb, hpb⟩ : ∃ g, g = w13.heap.size := ⟨_, rfl⟩
            obtain ⟨w14, hw14⟩ : ∃ x, x = w13.alloc (.cells #[.slice none 0 0, .slice none 0 0, .slice none 0 0, .int .i64 0] 28) := ⟨_, rfl⟩
            have bs14 : Below w13.heap.size w13 w14 := by rw [hw14]; exact al6 _ _
            have k14 : Below W0.heap.size W0 w14 := Below.trans k13 (bs14.mono (Below.size k13))
            have HK14 := hid (HK13.out.below bs14)
            have HV14 := hid (HV13.out.below bs14)
            have bx14_ : BoxAt w14 pb [.slice none 0 0, .slice none 0 0, .slice none 0 0, .int .i64 0] := by
              have h0 := boxNew w13 #[.slice none 0 0, .slice none 0 0, .slice none 0 0, .int .i64 0] 28
              rw [hw14, hpb]
              exact h0
            have hpb0 : W0.heap.size ≤ pb := by rw [hpb]; exact Below.size k13
            have hnK : pb ∉ obl (.slice aK p.length cK) := fun h => by have h1 := (own_lt HK13.out _ h).2; omega
            have hnV : pb ∉ obl (.slice aV p.length cV) := fun h => by have h1 := (own_lt HV13.out _ h).2; omega
            rw [← hw14, ← hpb]
            clear hw14 hpb
            (try dsimp only)
            refine hK.out _ _ (HSK.out w14 k14) (fun hH2 => ?_)
            clear hK K
            replace hHeld := hH2
            clear hH2
            (try simp only [Act.put, List.setIfInBounds_toArray, List.set_cons_zero, List.set_cons_succ])
            have bx := bx14_
            have q0 := bx.2.1 0 _ rfl
            have q1 := bx.2.1 1 _ rfl
            have q2 := bx.2.1 2 _ rfl
            have q3 := bx.2.1 3 _ rfl
            have r0 := bx.2.2 0 (by simp)
            have r1 := bx.2.2 1 (by simp)
            have r2 := bx.2.2 2 (by simp)
            have r3 := bx.2.2 3 (by simp)
            have rl := bx.1
            have FIN := hid (shwFin (s1 := p.map (·.1)) (s2 := p.map (·.2)) (ku := .slice aK p.length cK) (vu := .slice aV p.length cV) k14 hpb0 bx (by rw [← keys_map]; exact HK14.out) (by rw [← vals_map]; exact HV14.out) hnK hnV)
            have HNN := hid (And.intro hnK hnV)
            refine comesL (i := 14) rfl rfl (by kernel_rfl) (fun K hK => ?_)
            go_simp
            (try dsimp only)
            refine hK.out _ _ (HSK.out _ FIN.out.2.2.2) (fun hH2 => ?_)
            clear hK K hH2
            (try simp only [Act.put])
            refine wpAnyH_done (by kernel_rfl) ?_ _
            clear q0 q1 q2 q3 r0 r1 r2 r3 rl bx
            go_wp2_with fail
            go_meet
            exact ⟨pb, _, _, rfl, hpb0, FIN.out.1, FIN.out.2.1, FIN.out.2.2.1, HNN.out.1, HNN.out.2, FIN.out.2.2.2⟩
          · skip
            go_simp
            obtain ⟨pb, hpb⟩ : ∃ g, g = w12.heap.size := ⟨_, rfl⟩
            obtain ⟨w15, hw15⟩ : ∃ x, x = w12.alloc (.cells #[.slice none 0 0, .slice none 0 0, .slice none 0 0, .int .i64 0] 28) := ⟨_, rfl⟩
            have bs15 : Below w12.heap.size w12 w15 := by rw [hw15]; exact al6 _ _
            have k15 : Below W0.heap.size W0 w15 := Below.trans k12 (bs15.mono (Below.size k12))
            have HK15 := hid (HK12.out.below bs15)
            have bx15_ : BoxAt w15 pb [.slice none 0 0, .slice none 0 0, .slice none 0 0, .int .i64 0] := by
              have h0 := boxNew w12 #[.slice none 0 0, .slice none 0 0, .slice none 0 0, .int .i64 0] 28
              rw [hw15, hpb]
              exact h0
            have hpb0 : W0.heap.size ≤ pb := by rw [hpb]; exact Below.size k12
            have hnK : pb ∉ obl (.slice aK p.length cK) := fun h => by have h1 := (own_lt HK12.out _ h).2; omega
            rw [← hw15, ← hpb]
            clear hw15 hpb
            (try dsimp only)
            refine hK.out _ _ (HSK.out w15 k15) (fun hH2 => ?_)
            clear hK K
            replace hHeld := hH2
            clear hH2
            (try simp only [Act.put, List.setIfInBounds_toArray, List.set_cons_zero, List.set_cons_succ])
            refine comesL (i := 11) rfl rfl (by kernel_rfl) (fun K hK => ?_)
            refine wpE W0 k15 rfl (.tmp 12) (.tmp 16) 26 rfl W0.heap.size (Nat.le_refl _) 9 i0 (.string ByteArray.empty) 16 Tryd.underlying26 hi hz0 hz1 hz2 rfl (.slice va p.length vc) p.length (valsV p) rv (one_valsX p) (by unfold maxLen; omega) (by omega) gB rfl rfl ?_
            intro v16 w16 ho16 bs16 k16 hg16
            obtain ⟨aV, cV, hv16⟩ := (rows_of_ownS ho16).slice
            subst hv16
            have HK16 := hid (HK15.out.below bs16)
            have bx16 := bx15_.below bs16
            have HV16 := hid ho16
            have hnV : pb ∉ obl (.slice aV p.length cV) := fun h => by have h1 := hg16 _ h; have h2 := bx15_.1; omega
            clear ho16 hg16
            (try dsimp only)
            refine hK.out _ _ (HSK.out w16 k16) (fun hH2 => ?_)
            clear hK K
            replace hHeld := hH2
            clear hH2
            (try simp only [Act.put, List.setIfInBounds_toArray, List.set_cons_zero, List.set_cons_succ])
            refine takeL (i := 12) (v := ?_) rfl (by kernel_rfl) (by kernel_rfl) (by kernel_rfl) (fun _ _ _ h => h) rfl ?_ (by assumption) ?_
            rotate_left
            · intro w hSw; (try dsimp only at hSw); go_simp; (try with_reducible rfl)
            (try simp only [Act.put, List.setIfInBounds_toArray, List.set_cons_zero, List.set_cons_succ])
            have bx := bx16
            have q0 := bx.2.1 0 _ rfl
            have q1 := bx.2.1 1 _ rfl
            have q2 := bx.2.1 2 _ rfl
            have q3 := bx.2.1 3 _ rfl
            have r0 := bx.2.2 0 (by simp)
            have r1 := bx.2.2 1 (by simp)
            have r2 := bx.2.2 2 (by simp)
            have r3 := bx.2.2 3 (by simp)
            have rl := bx.1
            have FIN := hid (shwFin (s1 := p.map (·.1)) (s2 := p.map (·.2)) (ku := .slice aK p.length cK) (vu := .slice aV p.length cV) k16 hpb0 bx (by rw [← keys_map]; exact HK16.out) (by rw [← vals_map]; exact HV16.out) hnK hnV)
            have HNN := hid (And.intro hnK hnV)
            refine comesL (i := 14) rfl rfl (by kernel_rfl) (fun K hK => ?_)
            go_simp
            (try dsimp only)
            refine hK.out _ _ (HSK.out _ FIN.out.2.2.2) (fun hH2 => ?_)
            clear hK K hH2
            (try simp only [Act.put])
            refine wpAnyH_done (by kernel_rfl) ?_ _
            clear q0 q1 q2 q3 r0 r1 r2 r3 rl bx
            go_wp2_with fail
            go_meet
            exact ⟨pb, _, _, rfl, hpb0, FIN.out.1, FIN.out.2.1, FIN.out.2.2.1, HNN.out.1, HNN.out.2, FIN.out.2.2.2⟩
        · skip
          go_simp
          obtain ⟨pb, hpb⟩ : ∃ g, g = w11.heap.size := ⟨_, rfl⟩
          obtain ⟨w17, hw17⟩ : ∃ x, x = w11.alloc (.cells #[.slice none 0 0, .slice none 0 0, .slice none 0 0, .int .i64 0] 28) := ⟨_, rfl⟩
          have bs17 : Below w11.heap.size w11 w17 := by rw [hw17]; exact al6 _ _
          have k17 : Below W0.heap.size W0 w17 := Below.trans k11 (bs17.mono (Below.size k11))
          have bx17_ : BoxAt w17 pb [.slice none 0 0, .slice none 0 0, .slice none 0 0, .int .i64 0] := by
            have h0 := boxNew w11 #[.slice none 0 0, .slice none 0 0, .slice none 0 0, .int .i64 0] 28
            rw [hw17, hpb]
            exact h0
          have hpb0 : W0.heap.size ≤ pb := by rw [hpb]; exact Below.size k11
          rw [← hw17, ← hpb]
          clear hw17 hpb
          (try dsimp only)
          refine hK.out _ _ (HSK.out w17 k17) (fun hH2 => ?_)
          clear hK K
          replace hHeld := hH2
          clear hH2
          (try simp only [Act.put, List.setIfInBounds_toArray, List.set_cons_zero, List.set_cons_succ])
          refine comesL (i := 5) rfl rfl (by kernel_rfl) (fun K hK => ?_)
          refine wpE W0 k17 rfl (.tmp 6) (.tmp 10) 26 rfl W0.heap.size (Nat.le_refl _) 9 i0 (.string ByteArray.empty) 16 Tryd.underlying26 hi hz0 hz1 hz2 rfl (.slice ka p.length kc) p.length (keysV p) rk (one_keysX p) (by unfold maxLen; omega) (by omega) gA rfl rfl ?_
          intro v18 w18 ho18 bs18 k18 hg18
          obtain ⟨aK, cK, hv18⟩ := (rows_of_ownS ho18).slice
          subst hv18
          have bx18 := bx17_.below bs18
          have HK18 := hid ho18
          have hnK : pb ∉ obl (.slice aK p.length cK) := fun h => by have h1 := hg18 _ h; have h2 := bx17_.1; omega
          clear ho18 hg18
          (try dsimp only)
          refine hK.out _ _ (HSK.out w18 k18) (fun hH2 => ?_)
          clear hK K
          replace hHeld := hH2
          clear hH2
          (try simp only [Act.put, List.setIfInBounds_toArray, List.set_cons_zero, List.set_cons_succ])
          refine comesL (i := 11) rfl rfl (by kernel_rfl) (fun K hK => ?_)
          refine wpE W0 k18 rfl (.tmp 12) (.tmp 16) 26 rfl W0.heap.size (Nat.le_refl _) 9 i0 (.string ByteArray.empty) 16 Tryd.underlying26 hi hz0 hz1 hz2 rfl (.slice va p.length vc) p.length (valsV p) rv (one_valsX p) (by unfold maxLen; omega) (by omega) gB rfl rfl ?_
          intro v19 w19 ho19 bs19 k19 hg19
          obtain ⟨aV, cV, hv19⟩ := (rows_of_ownS ho19).slice
          subst hv19
          have HK19 := hid (HK18.out.below bs19)
          have bx19 := bx18.below bs19
          have HV19 := hid ho19
          have hnV : pb ∉ obl (.slice aV p.length cV) := fun h => by have h1 := hg19 _ h; have h2 := bx18.1; omega
          clear ho19 hg19
          (try dsimp only)
          refine hK.out _ _ (HSK.out w19 k19) (fun hH2 => ?_)
          clear hK K
          replace hHeld := hH2
          clear hH2
          (try simp only [Act.put, List.setIfInBounds_toArray, List.set_cons_zero, List.set_cons_succ])
          refine takeL (i := 12) (v := ?_) rfl (by kernel_rfl) (by kernel_rfl) (by kernel_rfl) (fun _ _ _ h => h) rfl ?_ (by assumption) ?_
          rotate_left
          · intro w hSw; (try dsimp only at hSw); go_simp; (try with_reducible rfl)
          (try simp only [Act.put, List.setIfInBounds_toArray, List.set_cons_zero, List.set_cons_succ])
          have bx := bx19
          have q0 := bx.2.1 0 _ rfl
          have q1 := bx.2.1 1 _ rfl
          have q2 := bx.2.1 2 _ rfl
          have q3 := bx.2.1 3 _ rfl
          have r0 := bx.2.2 0 (by simp)
          have r1 := bx.2.2 1 (by simp)
          have r2 := bx.2.2 2 (by simp)
          have r3 := bx.2.2 3 (by simp)
          have rl := bx.1
          have FIN := hid (shwFin (s1 := p.map (·.1)) (s2 := p.map (·.2)) (ku := .slice aK p.length cK) (vu := .slice aV p.length cV) k19 hpb0 bx (by rw [← keys_map]; exact HK19.out) (by rw [← vals_map]; exact HV19.out) hnK hnV)
          have HNN := hid (And.intro hnK hnV)
          refine comesL (i := 14) rfl rfl (by kernel_rfl) (fun K hK => ?_)
          go_simp
          (try dsimp only)
          refine hK.out _ _ (HSK.out _ FIN.out.2.2.2) (fun hH2 => ?_)
          clear hK K hH2
          (try simp only [Act.put])
          refine wpAnyH_done (by kernel_rfl) ?_ _
          clear q0 q1 q2 q3 r0 r1 r2 r3 rl bx
          go_wp2_with fail
          go_meet
          exact ⟨pb, _, _, rfl, hpb0, FIN.out.1, FIN.out.2.1, FIN.out.2.2.1, HNN.out.1, HNN.out.2, FIN.out.2.2.2⟩
      · skip
        go_simp
        obtain ⟨pb, hpb⟩ : ∃ g, g = w1.heap.size := ⟨_, rfl⟩
        obtain ⟨w20, hw20⟩ : ∃ x, x = w1.alloc (.cells #[.slice none 0 0, .slice none 0 0, .slice none 0 0, .int .i64 0] 28) := ⟨_, rfl⟩
        have bs20 : Below w1.heap.size w1 w20 := by rw [hw20]; exact al6 _ _
        have k20 : Below W0.heap.size W0 w20 := Below.trans k1 (bs20.mono (Below.size k1))
        have bx20_ : BoxAt w20 pb [.slice none 0 0, .slice none 0 0, .slice none 0 0, .int .i64 0] := by
          have h0 := boxNew w1 #[.slice none 0 0, .slice none 0 0, .slice none 0 0, .int .i64 0] 28
          rw [hw20, hpb]
          exact h0
        have hpb0 : W0.heap.size ≤ pb := by rw [hpb]; exact Below.size k1
        rw [← hw20, ← hpb]
        clear hw20 hpb
        (try dsimp only)
        refine hK.out _ _ (HSK.out w20 k20) (fun hH2 => ?_)
        clear hK K
        replace hHeld := hH2
        clear hH2
        (try simp only [Act.put, List.setIfInBounds_toArray, List.set_cons_zero, List.set_cons_succ])
        refine comes2L (i := 5) (j := 6) rfl rfl rfl rfl (by kernel_rfl) (fun K hK => ?_) (fun K hK => ?_)
        · skip
          refine wpE W0 k20 rfl (.tmp 6) (.tmp 10) 26 rfl W0.heap.size (Nat.le_refl _) 9 i0 (.string ByteArray.empty) 16 Tryd.underlying26 hi hz0 hz1 hz2 rfl (.slice ka p.length kc) p.length (keysV p) rk (one_keysX p) (by unfold maxLen; omega) (by omega) gA rfl rfl ?_
          intro v21 w21 ho21 bs21 k21 hg21
          obtain ⟨aK, cK, hv21⟩ := (rows_of_ownS ho21).slice
          subst hv21
          have bx21 := bx20_.below bs21
          have HK21 := hid ho21
          have hnK : pb ∉ obl (.slice aK p.length cK) := fun h => by have h1 := hg21 _ h; have h2 := bx20_.1; omega
          clear ho21 hg21
          (try dsimp only)
          refine hK.out _ _ (HSK.out w21 k21) (fun hH2 => ?_)
          clear hK K
          replace hHeld := hH2
          clear hH2
          (try simp only [Act.put, List.setIfInBounds_toArray, List.set_cons_zero, List.set_cons_succ])
          refine comesL (i := 6) rfl rfl (by kernel_rfl) (fun K hK => ?_)
          go_simp
          obtain ⟨gB, hgB⟩ : ∃ g, g = w21.heap.size := ⟨_, rfl⟩
          obtain ⟨w22, hw22⟩ : ∃ x, x = w21.alloc (.cells #[] 9) := ⟨_, rfl⟩
          have bs22 : Below w21.heap.size w21 w22 := by rw [hw22]; exact al6 _ _
          have k22 : Below W0.heap.size W0 w22 := Below.trans k21 (bs22.mono (Below.size k21))
          have HK22 := hid (HK21.out.below bs22)
          have bx22 := bx21.below bs22
          rw [← hw22, ← hgB]
          clear hw22 hgB
          (try dsimp only)
          refine hK.out _ _ (HSK.out w22 k22) (fun hH2 => ?_)
          clear hK K
          replace hHeld := hH2
          clear hH2
          (try simp only [Act.put, List.setIfInBounds_toArray, List.set_cons_zero, List.set_cons_succ])
          refine comesL (i := 11) rfl rfl (by kernel_rfl) (fun K hK => ?_)
          refine wpE W0 k22 rfl (.tmp 12) (.tmp 16) 26 rfl W0.heap.size (Nat.le_refl _) 9 i0 (.string ByteArray.empty) 16 Tryd.underlying26 hi hz0 hz1 hz2 rfl (.slice va p.length vc) p.length (valsV p) rv (one_valsX p) (by unfold maxLen; omega) (by omega) gB rfl rfl ?_
          intro v23 w23 ho23 bs23 k23 hg23
          obtain ⟨aV, cV, hv23⟩ := (rows_of_ownS ho23).slice
          subst hv23
          have HK23 := hid (HK22.out.below bs23)
          have bx23 := bx22.below bs23
          have HV23 := hid ho23
          have hnV : pb ∉ obl (.slice aV p.length cV) := fun h => by have h1 := hg23 _ h; have h2 := bx22.1; omega
          clear ho23 hg23
          (try dsimp only)
          refine hK.out _ _ (HSK.out w23 k23) (fun hH2 => ?_)
          clear hK K
          replace hHeld := hH2
          clear hH2
          (try simp only [Act.put, List.setIfInBounds_toArray, List.set_cons_zero, List.set_cons_succ])
          refine takeL (i := 12) (v := ?_) rfl (by kernel_rfl) (by kernel_rfl) (by kernel_rfl) (fun _ _ _ h => h) rfl ?_ (by assumption) ?_
          rotate_left
          · intro w hSw; (try dsimp only at hSw); go_simp; (try with_reducible rfl)
          (try simp only [Act.put, List.setIfInBounds_toArray, List.set_cons_zero, List.set_cons_succ])
          have bx := bx23
          have q0 := bx.2.1 0 _ rfl
          have q1 := bx.2.1 1 _ rfl
          have q2 := bx.2.1 2 _ rfl
          have q3 := bx.2.1 3 _ rfl
          have r0 := bx.2.2 0 (by simp)
          have r1 := bx.2.2 1 (by simp)
          have r2 := bx.2.2 2 (by simp)
          have r3 := bx.2.2 3 (by simp)
          have rl := bx.1
          have FIN := hid (shwFin (s1 := p.map (·.1)) (s2 := p.map (·.2)) (ku := .slice aK p.length cK) (vu := .slice aV p.length cV) k23 hpb0 bx (by rw [← keys_map]; exact HK23.out) (by rw [← vals_map]; exact HV23.out) hnK hnV)
          have HNN := hid (And.intro hnK hnV)
          refine comesL (i := 14) rfl rfl (by kernel_rfl) (fun K hK => ?_)
          go_simp
          (try dsimp only)
          refine hK.out _ _ (HSK.out _ FIN.out.2.2.2) (fun hH2 => ?_)
          clear hK K hH2
          (try simp only [Act.put])
          refine wpAnyH_done (by kernel_rfl) ?_ _
          clear q0 q1 q2 q3 r0 r1 r2 r3 rl bx
          go_wp2_with fail
          go_meet
          exact ⟨pb, _, _, rfl, hpb0, FIN.out.1, FIN.out.2.1, FIN.out.2.2.1, HNN.out.1, HNN.out.2, FIN.out.2.2.2⟩
        · skip
          go_simp
          obtain ⟨gB, hgB⟩ : ∃ g, g = w20.heap.size := ⟨_, rfl⟩
          obtain ⟨w24, hw24⟩ : ∃ x, x = w20.alloc (.cells #[] 9) := ⟨_, rfl⟩
          have bs24 : Below w20.heap.size w20 w24 := by rw [hw24]; exact al6 _ _
          have k24 : Below W0.heap.size W0 w24 := Below.trans k20 (bs24.mono (Below.size k20))
          have bx24 := bx20_.below bs24
          rw [← hw24, ← hgB]
          clear hw24 hgB
          (try dsimp only)
          refine hK.out _ _ (HSK.out w24 k24) (fun hH2 => ?_)
          clear hK K
          replace hHeld := hH2
          clear hH2
          (try simp only [Act.put, List.setIfInBounds_toArray, List.set_cons_zero, List.set_cons_succ])
          refine comesL (i := 5) rfl rfl (by kernel_rfl) (fun K hK => ?_)
          refine wpE W0 k24 rfl (.tmp 6) (.tmp 10) 26 rfl W0.heap.size (Nat.le_refl _) 9 i0 (.string ByteArray.empty) 16 Tryd.underlying26 hi hz0 hz1 hz2 rfl (.slice ka p.length kc) p.length (keysV p) rk (one_keysX p) (by unfold maxLen; omega) (by omega) gA rfl rfl ?_
          intro v25 w25 ho25 bs25 k25 hg25
          obtain ⟨aK, cK, hv25⟩ := (rows_of_ownS ho25).slice
          subst hv25
          have bx25 := bx24.below bs25
          have HK25 := hid ho25
          have hnK : pb ∉ obl (.slice aK p.length cK) := fun h => by have h1 := hg25 _ h; have h2 := bx24.1; omega
          clear ho25 hg25
          (try dsimp only)
          refine hK.out _ _ (HSK.out w25 k25) (fun hH2 => ?_)
          clear hK K
          replace hHeld := hH2
          clear hH2
          (try simp only [Act.put, List.setIfInBounds_toArray, List.set_cons_zero, List.set_cons_succ])
          refine comesL (i := 11) rfl rfl (by kernel_rfl) (fun K hK => ?_)
          refine wpE W0 k25 rfl (.tmp 12) (.tmp 16) 26 rfl W0.heap.size (Nat.le_refl _) 9 i0 (.string ByteArray.empty) 16 Tryd.underlying26 hi hz0 hz1 hz2 rfl (.slice va p.length vc) p.length (valsV p) rv (one_valsX p) (by unfold maxLen; omega) (by omega) gB rfl rfl ?_
          intro v26 w26 ho26 bs26 k26 hg26
          obtain ⟨aV, cV, hv26⟩ := (rows_of_ownS ho26).slice
          subst hv26
          have HK26 := hid (HK25.out.below bs26)
          have bx26 := bx25.below bs26
          have HV26 := hid ho26
          have hnV : pb ∉ obl (.slice aV p.length cV) := fun h => by have h1 := hg26 _ h; have h2 := bx25.1; omega
          clear ho26 hg26
          (try dsimp only)
          refine hK.out _ _ (HSK.out w26 k26) (fun hH2 => ?_)
          clear hK K
          replace hHeld := hH2
          clear hH2
          (try simp only [Act.put, List.setIfInBounds_toArray, List.set_cons_zero, List.set_cons_succ])
          refine takeL (i := 12) (v := ?_) rfl (by kernel_rfl) (by kernel_rfl) (by kernel_rfl) (fun _ _ _ h => h) rfl ?_ (by assumption) ?_
          rotate_left
          · intro w hSw; (try dsimp only at hSw); go_simp; (try with_reducible rfl)
          (try simp only [Act.put, List.setIfInBounds_toArray, List.set_cons_zero, List.set_cons_succ])
          have bx := bx26
          have q0 := bx.2.1 0 _ rfl
          have q1 := bx.2.1 1 _ rfl
          have q2 := bx.2.1 2 _ rfl
          have q3 := bx.2.1 3 _ rfl
          have r0 := bx.2.2 0 (by simp)
          have r1 := bx.2.2 1 (by simp)
          have r2 := bx.2.2 2 (by simp)
          have r3 := bx.2.2 3 (by simp)
          have rl := bx.1
          have FIN := hid (shwFin (s1 := p.map (·.1)) (s2 := p.map (·.2)) (ku := .slice aK p.length cK) (vu := .slice aV p.length cV) k26 hpb0 bx (by rw [← keys_map]; exact HK26.out) (by rw [← vals_map]; exact HV26.out) hnK hnV)
          have HNN := hid (And.intro hnK hnV)
          refine comesL (i := 14) rfl rfl (by kernel_rfl) (fun K hK => ?_)
          go_simp
          (try dsimp only)
          refine hK.out _ _ (HSK.out _ FIN.out.2.2.2) (fun hH2 => ?_)
          clear hK K hH2
          (try simp only [Act.put])
          refine wpAnyH_done (by kernel_rfl) ?_ _
          clear q0 q1 q2 q3 r0 r1 r2 r3 rl bx
          go_wp2_with fail
          go_meet
          exact ⟨pb, _, _, rfl, hpb0, FIN.out.1, FIN.out.2.1, FIN.out.2.2.1, HNN.out.1, HNN.out.2, FIN.out.2.2.2⟩
    · skip
      go_simp
      obtain ⟨gB, hgB⟩ : ∃ g, g = W0.heap.size := ⟨_, rfl⟩
      obtain ⟨w27, hw27⟩ : ∃ x, x = (W0.alloc (.cells #[] 9)).drew := ⟨_, rfl⟩
      have bs27 : Below W0.heap.size W0 w27 := by rw [hw27]; exact Below.drew (al6 _ _)
      have k27 := bs27
      rw [← hw27, ← hgB]
      clear hw27 hgB
      (try dsimp only)
      refine hK.out _ _ (HSK.out w27 k27) (fun hH2 => ?_)
      clear hK K
      replace hHeld := hH2
      clear hH2
      (try simp only [Act.put, List.setIfInBounds_toArray, List.set_cons_zero, List.set_cons_succ])
      refine comes2L (i := 0) (j := 13) rfl rfl rfl rfl (by kernel_rfl) (fun K hK => ?_) (fun K hK => ?_)
      · skip
        go_simp
        obtain ⟨gA, hgA⟩ : ∃ g, g = w27.heap.size := ⟨_, rfl⟩
        obtain ⟨w28, hw28⟩ : ∃ x, x = w27.alloc (.cells #[] 9) := ⟨_, rfl⟩
        have bs28 : Below w27.heap.size w27 w28 := by rw [hw28]; exact al6 _ _
        have k28 : Below W0.heap.size W0 w28 := Below.trans k27 (bs28.mono (Below.size k27))
        rw [← hw28, ← hgA]
        clear hw28 hgA
        (try dsimp only)
        refine hK.out _ _ (HSK.out w28 k28) (fun hH2 => ?_)
        clear hK K
        replace hHeld := hH2
        clear hH2
        (try simp only [Act.put, List.setIfInBounds_toArray, List.set_cons_zero, List.set_cons_succ])
        refine comes2L (i := 5) (j := 13) rfl rfl rfl rfl (by kernel_rfl) (fun K hK => ?_) (fun K hK => ?_)
        · skip
          refine wpE W0 k28 rfl (.tmp 6) (.tmp 10) 26 rfl W0.heap.size (Nat.le_refl _) 9 i0 (.string ByteArray.empty) 16 Tryd.underlying26 hi hz0 hz1 hz2 rfl (.slice ka p.length kc) p.length (keysV p) rk (one_keysX p) (by unfold maxLen; omega) (by omega) gA rfl rfl ?_
          intro v29 w29 ho29 bs29 k29 hg29
          obtain ⟨aK, cK, hv29⟩ := (rows_of_ownS ho29).slice
          subst hv29
          have HK29 := hid ho29
          clear ho29 hg29
          (try dsimp only)
          refine hK.out _ _ (HSK.out w29 k29) (fun hH2 => ?_)
          clear hK K
          replace hHeld := hH2
          clear hH2
          (try simp only [Act.put, List.setIfInBounds_toArray, List.set_cons_zero, List.set_cons_succ])
          refine comes2L (i := 11) (j := 13) rfl rfl rfl rfl (by kernel_rfl) (fun K hK => ?_) (fun K hK => ?_)
          · skip
            refine wpE W0 k29 rfl (.tmp 12) (.tmp 16) 26 rfl W0.heap.size (Nat.le_refl _) 9 i0 (.string ByteArray.empty) 16 Tryd.underlying26 hi hz0 hz1 hz2 rfl (.slice va p.length vc) p.length (valsV p) rv (one_valsX p) (by unfold maxLen; omega) (by omega) gB rfl rfl ?_
            intro v30 w30 ho30 bs30 k30 hg30
            obtain ⟨aV, cV, hv30⟩ := (rows_of_ownS ho30).slice
            subst hv30
            have HK30 := hid (HK29.out.below bs30)
            have HV30 := hid ho30
            clear ho30 hg30
            (try dsimp only)
            refine hK.out _ _ (HSK.out w30 k30) (fun hH2 => ?_)
            clear hK K
            replace hHeld := hH2
            clear hH2
            (try simp only [Act.put, List.setIfInBounds_toArray, List.set_cons_zero, List.set_cons_succ])
            refine takeL (i := 12) (v := ?_) rfl (by kernel_rfl) (by kernel_rfl) (by kernel_rfl) (fun _ _ _ h => h) rfl ?_ (by assumption) ?_
            rotate_left
            · intro w hSw; (try dsimp only at hSw); go_simp; (try with_reducible rfl)
            (try simp only [Act.put, List.setIfInBounds_toArray, List.set_cons_zero, List.set_cons_succ])
            refine comesL (i := 13) rfl rfl (by kernel_rfl) (fun K hK => ?_)
            go_simp
            obtain ⟨pb, hpb⟩ : ∃ g, g = w30.heap.size := ⟨_, rfl⟩
            obtain ⟨w31, hw31⟩ : ∃ x, x = w30.alloc (.cells #[.slice none 0 0, .slice none 0 0, .slice none 0 0, .int .i64 0] 28) := ⟨_, rfl⟩
            have bs31 : Below w30.heap.size w30 w31 := by rw [hw31]; exact al6 _ _
            have k31 : Below W0.heap.size W0 w31 := Below.trans k30 (bs31.mono (Below.size k30))
            have HK31 := hid (HK30.out.below bs31)
            have HV31 := hid (HV30.out.below bs31)
            have bx31_ : BoxAt w31 pb [.slice none 0 0, .slice none 0 0, .slice none 0 0, .int .i64 0] := by
              have h0 := boxNew w30 #[.slice none 0 0, .slice none 0 0, .slice none 0 0, .int .i64 0] 28
              rw [hw31, hpb]
              exact h0
            have hpb0 : W0.heap.size ≤ pb := by rw [hpb]; exact Below.size k30
            have hnK : pb ∉ obl (.slice aK p.length cK) := fun h => by have h1 := (own_lt HK30.out _ h).2; omega
            have hnV : pb ∉ obl (.slice aV p.length cV) := fun h => by have h1 := (own_lt HV30.out _ h).2; omega
            rw [← hw31, ← hpb]
            clear hw31 hpb
            (try dsimp only)
            refine hK.out _ _ (HSK.out w31 k31) (fun hH2 => ?_)
            clear hK K
            replace hHeld := hH2
            clear hH2
            (try simp only [Act.put, List.setIfInBounds_toArray, List.set_cons_zero, List.set_cons_succ])
            have bx := bx31_
            have q0 := bx.2.1 0 _ rfl
            have q1 := bx.2.1 1 _ rfl
            have q2 := bx.2.1 2 _ rfl
            have q3 := bx.2.1 3 _ rfl
            have r0 := bx.2.2 0 (by simp)
            have r1 := bx.2.2 1 (by simp)
            have r2 := bx.2.2 2 (by simp)
            have r3 := bx.2.2 3 (by simp)
            have rl := bx.1
            have FIN := hid (shwFin (s1 := p.map (·.1)) (s2 := p.map (·.2)) (ku := .slice aK p.length cK) (vu := .slice aV p.length cV) k31 hpb0 bx (by rw [← keys_map]; exact HK31.out) (by rw [← vals_map]; exact HV31.out) hnK hnV)
            have HNN := hid (And.intro hnK hnV)
            refine comesL (i := 14) rfl rfl (by kernel_rfl) (fun K hK => ?_)
            go_simp
            (try dsimp only)
            refine hK.out _ _ (HSK.out _ FIN.out.2.2.2) (fun hH2 => ?_)
            clear hK K hH2
            (try simp only [Act.put])
            refine wpAnyH_done (by kernel_rfl) ?_ _
            clear q0 q1 q2 q3 r0 r1 r2 r3 rl bx
            go_wp2_with fail
            go_meet
            exact ⟨pb, _, _, rfl, hpb0, FIN.out.1, FIN.out.2.1, FIN.out.2.2.1, HNN.out.1, HNN.out.2, FIN.out.2.2.2⟩
          · skip
            go_simp
            obtain ⟨pb, hpb⟩ : ∃ g, g = w29.heap.size := ⟨_, rfl⟩
            obtain ⟨w32, hw32⟩ : ∃ x, x = w29.alloc (.cells #[.slice none 0 0, .slice none 0 0, .slice none 0 0, .int .i64 0] 28) := ⟨_, rfl⟩
            have bs32 : Below w29.heap.size w29 w32 := by rw [hw32]; exact al6 _ _
            have k32 : Below W0.heap.size W0 w32 := Below.trans k29 (bs32.mono (Below.size k29))
            have HK32 := hid (HK29.out.below bs32)
            have bx32_ : BoxAt w32 pb [.slice none 0 0, .slice none 0 0, .slice none 0 0, .int .i64 0] := by
              have h0 := boxNew w29 #[.slice none 0 0, .slice none 0 0, .slice none 0 0, .int .i64 0] 28
              rw [hw32, hpb]
              exact h0
            have hpb0 : W0.heap.size ≤ pb := by rw [hpb]; exact Below.size k29
            have hnK : pb ∉ obl (.slice aK p.length cK) := fun h => by have h1 := (own_lt HK29.out _ h).2; omega
            rw [← hw32, ← hpb]
            clear hw32 hpb
            (try dsimp only)
            refine hK.out _ _ (HSK.out w32 k32) (fun hH2 => ?_)
            clear hK K
            replace hHeld := hH2
            clear hH2
            (try simp only [Act.put, List.setIfInBounds_toArray, List.set_cons_zero, List.set_cons_succ])
            refine comesL (i := 11) rfl rfl (by kernel_rfl) (fun K hK => ?_)
            refine wpE W0 k32 rfl (.tmp 12) (.tmp 16) 26 rfl W0.heap.size (Nat.le_refl _) 9 i0 (.string ByteArray.empty) 16 Tryd.underlying26 hi hz0 hz1 hz2 rfl (.slice va p.length vc) p.length (valsV p) rv (one_valsX p) (by unfold maxLen; omega) (by omega) gB rfl rfl ?_
            intro v33 w33 ho33 bs33 k33 hg33
            obtain ⟨aV, cV, hv33⟩ := (rows_of_ownS ho33).slice
            subst hv33
            have HK33 := hid (HK32.out.below bs33)
            have bx33 := bx32_.below bs33
            have HV33 := hid ho33
            have hnV : pb ∉ obl (.slice aV p.length cV) := fun h => by have h1 := hg33 _ h; have h2 := bx32_.1; omega
            clear ho33 hg33
            (try dsimp only)
            refine hK.out _ _ (HSK.out w33 k33) (fun hH2 => ?_)
            clear hK K
            replace hHeld := hH2
            clear hH2
            (try simp only [Act.put, List.setIfInBounds_toArray, List.set_cons_zero, List.set_cons_succ])
            refine takeL (i := 12) (v := ?_) rfl (by kernel_rfl) (by kernel_rfl) (by kernel_rfl) (fun _ _ _ h => h) rfl ?_ (by assumption) ?_
            rotate_left
            · intro w hSw; (try dsimp only at hSw); go_simp; (try with_reducible rfl)
            (try simp only [Act.put, List.setIfInBounds_toArray, List.set_cons_zero, List.set_cons_succ])
            have bx := bx33
            have q0 := bx.2.1 0 _ rfl
            have q1 := bx.2.1 1 _ rfl
            have q2 := bx.2.1 2 _ rfl
            have q3 := bx.2.1 3 _ rfl
            have r0 := bx.2.2 0 (by simp)
            have r1 := bx.2.2 1 (by simp)
            have r2 := bx.2.2 2 (by simp)
            have r3 := bx.2.2 3 (by simp)
            have rl := bx.1
            have FIN := hid (shwFin (s1 := p.map (·.1)) (s2 := p.map (·.2)) (ku := .slice aK p.length cK) (vu := .slice aV p.length cV) k33 hpb0 bx (by rw [← keys_map]; exact HK33.out) (by rw [← vals_map]; exact HV33.out) hnK hnV)
            have HNN := hid (And.intro hnK hnV)
            refine comesL (i := 14) rfl rfl (by kernel_rfl) (fun K hK => ?_)
            go_simp
            (try dsimp only)
            refine hK.out _ _ (HSK.out _ FIN.out.2.2.2) (fun hH2 => ?_)
            clear hK K hH2
            (try simp only [Act.put])
            refine wpAnyH_done (by kernel_rfl) ?_ _
            clear q0 q1 q2 q3 r0 r1 r2 r3 rl bx
            go_wp2_with fail
            go_meet
            exact ⟨pb, _, _, rfl, hpb0, FIN.out.1, FIN.out.2.1, FIN.out.2.2.1, HNN.out.1, HNN.out.2, FIN.out.2.2.2⟩
        · skip
          go_simp
          obtain ⟨pb, hpb⟩ : ∃ g, g = w28.heap.size := ⟨_, rfl⟩
          obtain ⟨w34, hw34⟩ : ∃ x, x = w28.alloc (.cells #[.slice none 0 0, .slice none 0 0, .slice none 0 0, .int .i64 0] 28) := ⟨_, rfl⟩
          have bs34 : Below w28.heap.size w28 w34 := by rw [hw34]; exact al6 _ _
          have k34 : Below W0.heap.size W0 w34 := Below.trans k28 (bs34.mono (Below.size k28))
          have bx34_ : BoxAt w34 pb [.slice none 0 0, .slice none 0 0, .slice none 0 0, .int .i64 0] := by
            have h0 := boxNew w28 #[.slice none 0 0, .slice none 0 0, .slice none 0 0, .int .i64 0] 28
            rw [hw34, hpb]
            exact h0
          have hpb0 : W0.heap.size ≤ pb := by rw [hpb]; exact Below.size k28
          rw [← hw34, ← hpb]
          clear hw34 hpb
          (try dsimp only)
          refine hK.out _ _ (HSK.out w34 k34) (fun hH2 => ?_)
          clear hK K
          replace hHeld := hH2
          clear hH2
          (try simp only [Act.put, List.setIfInBounds_toArray, List.set_cons_zero, List.set_cons_succ])
          refine comesL (i := 5) rfl rfl (by kernel_rfl) (fun K hK => ?_)
          refine wpE W0 k34 rfl (.tmp 6) (.tmp 10) 26 rfl W0.heap.size (Nat.le_refl _) 9 i0 (.string ByteArray.empty) 16 Tryd.underlying26 hi hz0 hz1 hz2 rfl (.slice ka p.length kc) p.length (keysV p) rk (one_keysX p) (by unfold maxLen; omega) (by omega) gA rfl rfl ?_
          intro v35 w35 ho35 bs35 k35 hg35
          obtain ⟨aK, cK, hv35⟩ := (rows_of_ownS ho35).slice
          subst hv35
          have bx35 := bx34_.below bs35
          have HK35 := hid ho35
          have hnK : pb ∉ obl (.slice aK p.length cK) := fun h => by have h1 := hg35 _ h; have h2 := bx34_.1; omega
          clear ho35 hg35
          (try dsimp only)
          refine hK.out _ _ (HSK.out w35 k35) (fun hH2 => ?_)
          clear hK K
          replace hHeld := hH2
          clear hH2
          (try simp only [Act.put, List.setIfInBounds_toArray, List.set_cons_zero, List.set_cons_succ])
          refine comesL (i := 11) rfl rfl (by kernel_rfl) (fun K hK => ?_)
          refine wpE W0 k35 rfl (.tmp 12) (.tmp 16) 26 rfl W0.heap.size (Nat.le_refl _) 9 i0 (.string ByteArray.empty) 16 Tryd.underlying26 hi hz0 hz1 hz2 rfl (.slice va p.length vc) p.length (valsV p) rv (one_valsX p) (by unfold maxLen; omega) (by omega) gB rfl rfl ?_
          intro v36 w36 ho36 bs36 k36 hg36
          obtain ⟨aV, cV, hv36⟩ := (rows_of_ownS ho36).slice
          subst hv36
          have HK36 := hid (HK35.out.below bs36)
          have bx36 := bx35.below bs36
          have HV36 := hid ho36
          have hnV : pb ∉ obl (.slice aV p.length cV) := fun h => by have h1 := hg36 _ h; have h2 := bx35.1; omega
          clear ho36 hg36
          (try dsimp only)
          refine hK.out _ _ (HSK.out w36 k36) (fun hH2 => ?_)
          clear hK K
          replace hHeld := hH2
          clear hH2
          (try simp only [Act.put, List.setIfInBounds_toArray, List.set_cons_zero, List.set_cons_succ])
          refine takeL (i := 12) (v := ?_) rfl (by kernel_rfl) (by kernel_rfl) (by kernel_rfl) (fun _ _ _ h => h) rfl ?_ (by assumption) ?_
          rotate_left
          · intro w hSw; (try dsimp only at hSw); go_simp; (try with_reducible rfl)
          (try simp only [Act.put, List.setIfInBounds_toArray, List.set_cons_zero, List.set_cons_succ])
          have bx := bx36
          have q0 := bx.2.1 0 _ rfl
          have q1 := bx.2.1 1 _ rfl
          have q2 := bx.2.1 2 _ rfl
          have q3 := bx.2.1 3 _ rfl
          have r0 := bx.2.2 0 (by simp)
          have r1 := bx.2.2 1 (by simp)
          have r2 := bx.2.2 2 (by simp)
          have r3 := bx.2.2 3 (by simp)
          have rl := bx.1
          have FIN := hid (shwFin (s1 := p.map (·.1)) (s2 := p.map (·.2)) (ku := .slice aK p.length cK) (vu := .slice aV p.length cV) k36 hpb0 bx (by rw [← keys_map]; exact HK36.out) (by rw [← vals_map]; exact HV36.out) hnK hnV)
          have HNN := hid (And.intro hnK hnV)
          refine comesL (i := 14) rfl rfl (by kernel_rfl) (fun K hK => ?_)
          go_simp
          (try dsimp only)
          refine hK.out _ _ (HSK.out _ FIN.out.2.2.2) (fun hH2 => ?_)
          clear hK K hH2
          (try simp only [Act.put])
          refine wpAnyH_done (by kernel_rfl) ?_ _
          clear q0 q1 q2 q3 r0 r1 r2 r3 rl bx
          go_wp2_with fail
          go_meet
          exact ⟨pb, _, _, rfl, hpb0, FIN.out.1, FIN.out.2.1, FIN.out.2.2.1, HNN.out.1, HNN.out.2, FIN.out.2.2.2⟩
      · skip
        go_simp
        obtain ⟨pb, hpb⟩ : ∃ g, g = w27.heap.size := ⟨_, rfl⟩
        obtain ⟨w37, hw37⟩ : ∃ x, x = w27.alloc (.cells #[.slice none 0 0, .slice none 0 0, .slice none 0 0, .int .i64 0] 28) := ⟨_, rfl⟩
        have bs37 : Below w27.heap.size w27 w37 := by rw [hw37]; exact al6 _ _
        have k37 : Below W0.heap.size W0 w37 := Below.trans k27 (bs37.mono (Below.size k27))
        have bx37_ : BoxAt w37 pb [.slice none 0 0, .slice none 0 0, .slice none 0 0, .int .i64 0] := by
          have h0 := boxNew w27 #[.slice none 0 0, .slice none 0 0, .slice none 0 0, .int .i64 0] 28
          rw [hw37, hpb]
          exact h0
        have hpb0 : W0.heap.size ≤ pb := by rw [hpb]; exact Below.size k27
        rw [← hw37, ← hpb]
        clear hw37 hpb
        (try dsimp only)
        refine hK.out _ _ (HSK.out w37 k37) (fun hH2 => ?_)
        clear hK K
        replace hHeld := hH2
        clear hH2
        (try simp only [Act.put, List.setIfInBounds_toArray, List.set_cons_zero, List.set_cons_succ])
        refine comesL (i := 0) rfl rfl (by kernel_rfl) (fun K hK => ?_)
        go_simp
        obtain ⟨gA, hgA⟩ : ∃ g, g = w37.heap.size := ⟨_, rfl⟩
        obtain ⟨w38, hw38⟩ : ∃ x, x = w37.alloc (.cells #[] 9) := ⟨_, rfl⟩
        have bs38 : Below w37.heap.size w37 w38 := by rw [hw38]; exact al6 _ _
        have k38 : Below W0.heap.size W0 w38 := Below.trans k37 (bs38.mono (Below.size k37))
        have bx38 := bx37_.below bs38
        rw [← hw38, ← hgA]
        clear hw38 hgA
        (try dsimp only)
        refine hK.out _ _ (HSK.out w38 k38) (fun hH2 => ?_)
        clear hK K
        replace hHeld := hH2
        clear hH2
        (try simp only [Act.put, List.setIfInBounds_toArray, List.set_cons_zero, List.set_cons_succ])
        refine comesL (i := 5) rfl rfl (by kernel_rfl) (fun K hK => ?_)
        refine wpE W0 k38 rfl (.tmp 6) (.tmp 10) 26 rfl W0.heap.size (Nat.le_refl _) 9 i0 (.string ByteArray.empty) 16 Tryd.underlying26 hi hz0 hz1 hz2 rfl (.slice ka p.length kc) p.length (keysV p) rk (one_keysX p) (by unfold maxLen; omega) (by omega) gA rfl rfl ?_
        intro v39 w39 ho39 bs39 k39 hg39
        obtain ⟨aK, cK, hv39⟩ := (rows_of_ownS ho39).slice
        subst hv39
        have bx39 := bx38.below bs39
        have HK39 := hid ho39
        have hnK : pb ∉ obl (.slice aK p.length cK) := fun h => by have h1 := hg39 _ h; have h2 := bx38.1; omega
        clear ho39 hg39
        (try dsimp only)
        refine hK.out _ _ (HSK.out w39 k39) (fun hH2 => ?_)
        clear hK K
        replace hHeld := hH2
        clear hH2
        (try simp only [Act.put, List.setIfInBounds_toArray, List.set_cons_zero, List.set_cons_succ])
        refine comesL (i := 11) rfl rfl (by kernel_rfl) (fun K hK => ?_)
        refine wpE W0 k39 rfl (.tmp 12) (.tmp 16) 26 rfl W0.heap.size (Nat.le_refl _) 9 i0 (.string ByteArray.empty) 16 Tryd.underlying26 hi hz0 hz1 hz2 rfl (.slice va p.length vc) p.length (valsV p) rv (one_valsX p) (by unfold maxLen; omega) (by omega) gB rfl rfl ?_
        intro v40 w40 ho40 bs40 k40 hg40
        obtain ⟨aV, cV, hv40⟩ := (rows_of_ownS ho40).slice
        subst hv40
        have HK40 := hid (HK39.out.below bs40)
        have bx40 := bx39.below bs40
        have HV40 := hid ho40
        have hnV : pb ∉ obl (.slice aV p.length cV) := fun h => by have h1 := hg40 _ h; have h2 := bx39.1; omega
        clear ho40 hg40
        (try dsimp only)
        refine hK.out _ _ (HSK.out w40 k40) (fun hH2 => ?_)
        clear hK K
        replace hHeld := hH2
        clear hH2
        (try simp only [Act.put, List.setIfInBounds_toArray, List.set_cons_zero, List.set_cons_succ])
        refine takeL (i := 12) (v := ?_) rfl (by kernel_rfl) (by kernel_rfl) (by kernel_rfl) (fun _ _ _ h => h) rfl ?_ (by assumption) ?_
        rotate_left
        · intro w hSw; (try dsimp only at hSw); go_simp; (try with_reducible rfl)
        (try simp only [Act.put, List.setIfInBounds_toArray, List.set_cons_zero, List.set_cons_succ])
        have bx := bx40
        have q0 := bx.2.1 0 _ rfl
        have q1 := bx.2.1 1 _ rfl
        have q2 := bx.2.1 2 _ rfl
        have q3 := bx.2.1 3 _ rfl
        have r0 := bx.2.2 0 (by simp)
        have r1 := bx.2.2 1 (by simp)
        have r2 := bx.2.2 2 (by simp)
        have r3 := bx.2.2 3 (by simp)
        have rl := bx.1
        have FIN := hid (shwFin (s1 := p.map (·.1)) (s2 := p.map (·.2)) (ku := .slice aK p.length cK) (vu := .slice aV p.length cV) k40 hpb0 bx (by rw [← keys_map]; exact HK40.out) (by rw [← vals_map]; exact HV40.out) hnK hnV)
        have HNN := hid (And.intro hnK hnV)
        refine comesL (i := 14) rfl rfl (by kernel_rfl) (fun K hK => ?_)
        go_simp
        (try dsimp only)
        refine hK.out _ _ (HSK.out _ FIN.out.2.2.2) (fun hH2 => ?_)
        clear hK K hH2
        (try simp only [Act.put])
        refine wpAnyH_done (by kernel_rfl) ?_ _
        clear q0 q1 q2 q3 r0 r1 r2 r3 rl bx
        go_wp2_with fail
        go_meet
        exact ⟨pb, _, _, rfl, hpb0, FIN.out.1, FIN.out.2.1, FIN.out.2.2.1, HNN.out.1, HNN.out.2, FIN.out.2.2.2⟩
    · skip
      go_simp
      obtain ⟨pb, hpb⟩ : ∃ g, g = W0.heap.size := ⟨_, rfl⟩
      obtain ⟨w41, hw41⟩ : ∃ x, x = (W0.alloc (.cells #[.slice none 0 0, .slice none 0 0, .slice none 0 0, .int .i64 0] 28)).drew := ⟨_, rfl⟩
      have bs41 : Below W0.heap.size W0 w41 := by rw [hw41]; exact Below.drew (al6 _ _)
      have k41 := bs41
      have bx41_ : BoxAt w41 pb [.slice none 0 0, .slice none 0 0, .slice none 0 0, .int .i64 0] := by
        have h0 := boxNew W0 #[.slice none 0 0, .slice none 0 0, .slice none 0 0, .int .i64 0] 28
        rw [hw41, hpb]
        exact ⟨h0.1, h0.2.1, h0.2.2⟩
      have hpb0 : W0.heap.size ≤ pb := by rw [hpb]; exact Nat.le_refl _
      rw [← hw41, ← hpb]
      clear hw41 hpb
      (try dsimp only)
      refine hK.out _ _ (HSK.out w41 k41) (fun hH2 => ?_)
      clear hK K
      replace hHeld := hH2
      clear hH2
      (try simp only [Act.put, List.setIfInBounds_toArray, List.set_cons_zero, List.set_cons_succ])
      refine comes2L (i := 0) (j := 6) rfl rfl rfl rfl (by kernel_rfl) (fun K hK => ?_) (fun K hK => ?_)
      · skip
        go_simp
        obtain ⟨gA, hgA⟩ : ∃ g, g = w41.heap.size := ⟨_, rfl⟩
        obtain ⟨w42, hw42⟩ : ∃ x, x = w41.alloc (.cells #[] 9) := ⟨_, rfl⟩
        have bs42 : Below w41.heap.size w41 w42 := by rw [hw42]; exact al6 _ _
        have k42 : Below W0.heap.size W0 w42 := Below.trans k41 (bs42.mono (Below.size k41))
        have bx42 := bx41_.below bs42
        rw [← hw42, ← hgA]
        clear hw42 hgA
        (try dsimp only)
        refine hK.out _ _ (HSK.out w42 k42) (fun hH2 => ?_)
        clear hK K
        replace hHeld := hH2
        clear hH2
        (try simp only [Act.put, List.setIfInBounds_toArray, List.set_cons_zero, List.set_cons_succ])
        refine comes2L (i := 5) (j := 6) rfl rfl rfl rfl (by kernel_rfl) (fun K hK => ?_) (fun K hK => ?_)
        · skip
          refine wpE W0 k42 rfl (.tmp 6) (.tmp 10) 26 rfl W0.heap.size (Nat.le_refl _) 9 i0 (.string ByteArray.empty) 16 Tryd.underlying26 hi hz0 hz1 hz2 rfl (.slice ka p.length kc) p.length (keysV p) rk (one_keysX p) (by unfold maxLen; omega) (by omega) gA rfl rfl ?_
          intro v43 w43 ho43 bs43 k43 hg43
          obtain ⟨aK, cK, hv43⟩ := (rows_of_ownS ho43).slice
          subst hv43
          have bx43 := bx42.below bs43
          have HK43 := hid ho43
          have hnK : pb ∉ obl (.slice aK p.length cK) := fun h => by have h1 := hg43 _ h; have h2 := bx42.1; omega
          clear ho43 hg43
          (try dsimp only)
          refine hK.out _ _ (HSK.out w43 k43) (fun hH2 => ?_)
          clear hK K
          replace hHeld := hH2
          clear hH2
          (try simp only [Act.put, List.setIfInBounds_toArray, List.set_cons_zero, List.set_cons_succ])
          refine comesL (i := 6) rfl rfl (by kernel_rfl) (fun K hK => ?_)
          go_simp
          obtain ⟨gB, hgB⟩ : ∃ g, g = w43.heap.size := ⟨_, rfl⟩
          obtain ⟨w44, hw44⟩ : ∃ x, x = w43.alloc (.cells #[] 9) := ⟨_, rfl⟩
          have bs44 : Below w43.heap.size w43 w44 := by rw [hw44]; exact al6 _ _
          have k44 : Below W0.heap.size W0 w44 := Below.trans k43 (bs44.mono (Below.size k43))
          have HK44 := hid (HK43.out.below bs44)
          have bx44 := bx43.below bs44
          rw [← hw44, ← hgB]
          clear hw44 hgB
          (try dsimp only)
          refine hK.out _ _ (HSK.out w44 k44) (fun hH2 => ?_)
          clear hK K
          replace hHeld := hH2
          clear hH2
          (try simp only [Act.put, List.setIfInBounds_toArray, List.set_cons_zero, List.set_cons_succ])
          refine comesL (i := 11) rfl rfl (by kernel_rfl) (fun K hK => ?_)
          refine wpE W0 k44 rfl (.tmp 12) (.tmp 16) 26 rfl W0.heap.size (Nat.le_refl _) 9 i0 (.string ByteArray.empty) 16 Tryd.underlying26 hi hz0 hz1 hz2 rfl (.slice va p.length vc) p.length (valsV p) rv (one_valsX p) (by unfold maxLen; omega) (by omega) gB rfl rfl ?_
          intro v45 w45 ho45 bs45 k45 hg45
          obtain ⟨aV, cV, hv45⟩ := (rows_of_ownS ho45).slice
          subst hv45
          have HK45 := hid (HK44.out.below bs45)
          have bx45 := bx44.below bs45
          have HV45 := hid ho45
          have hnV : pb ∉ obl (.slice aV p.length cV) := fun h => by have h1 := hg45 _ h; have h2 := bx44.1; omega
          clear ho45 hg45
          (try dsimp only)
          refine hK.out _ _ (HSK.out w45 k45) (fun hH2 => ?_)
          clear hK K
          replace hHeld := hH2
          clear hH2
          (try simp only [Act.put, List.setIfInBounds_toArray, List.set_cons_zero, List.set_cons_succ])
          refine takeL (i := 12) (v := ?_) rfl (by kernel_rfl) (by kernel_rfl) (by kernel_rfl) (fun _ _ _ h => h) rfl ?_ (by assumption) ?_
          rotate_left
          · intro w hSw; (try dsimp only at hSw); go_simp; (try with_reducible rfl)
          (try simp only [Act.put, List.setIfInBounds_toArray, List.set_cons_zero, List.set_cons_succ])
          have bx := bx45
          have q0 := bx.2.1 0 _ rfl
          have q1 := bx.2.1 1 _ rfl
          have q2 := bx.2.1 2 _ rfl
          have q3 := bx.2.1 3 _ rfl
          have r0 := bx.2.2 0 (by simp)
          have r1 := bx.2.2 1 (by simp)
          have r2 := bx.2.2 2 (by simp)
          have r3 := bx.2.2 3 (by simp)
          have rl := bx.1
          have FIN := hid (shwFin (s1 := p.map (·.1)) (s2 := p.map (·.2)) (ku := .slice aK p.length cK) (vu := .slice aV p.length cV) k45 hpb0 bx (by rw [← keys_map]; exact HK45.out) (by rw [← vals_map]; exact HV45.out) hnK hnV)
          have HNN := hid (And.intro hnK hnV)
          refine comesL (i := 14) rfl rfl (by kernel_rfl) (fun K hK => ?_)
          go_simp
          (try dsimp only)
          refine hK.out _ _ (HSK.out _ FIN.out.2.2.2) (fun hH2 => ?_)
          clear hK K hH2
          (try simp only [Act.put])
          refine wpAnyH_done (by kernel_rfl) ?_ _
          clear q0 q1 q2 q3 r0 r1 r2 r3 rl bx
          go_wp2_with fail
          go_meet
          exact ⟨pb, _, _, rfl, hpb0, FIN.out.1, FIN.out.2.1, FIN.out.2.2.1, HNN.out.1, HNN.out.2, FIN.out.2.2.2⟩
        · skip
          go_simp
          obtain ⟨gB, hgB⟩ : ∃ g, g = w42.heap.size := ⟨_, rfl⟩
          obtain ⟨w46, hw46⟩ : ∃ x, x = w42.alloc (.cells #[] 9) := ⟨_, rfl⟩
          have bs46 : Below w42.heap.size w42 w46 := by rw [hw46]; exact al6 _ _
          have k46 : Below W0.heap.size W0 w46 := Below.trans k42 (bs46.mono (Below.size k42))
          have bx46 := bx42.below bs46
          rw [← hw46, ← hgB]
          clear hw46 hgB
          (try dsimp only)
          refine hK.out _ _ (HSK.out w46 k46) (fun hH2 => ?_)
          clear hK K
          replace hHeld := hH2
          clear hH2
          (try simp only [Act.put, List.setIfInBounds_toArray, List.set_cons_zero, List.set_cons_succ])
          refine comesL (i := 5) rfl rfl (by kernel_rfl) (fun K hK => ?_)
          refine wpE W0 k46 rfl (.tmp 6) (.tmp 10) 26 rfl W0.heap.size (Nat.le_refl _) 9 i0 (.string ByteArray.empty) 16 Tryd.underlying26 hi hz0 hz1 hz2 rfl (.slice ka p.length kc) p.length (keysV p) rk (one_keysX p) (by unfold maxLen; omega) (by omega) gA rfl rfl ?_
          intro v47 w47 ho47 bs47 k47 hg47
          obtain ⟨aK, cK, hv47⟩ := (rows_of_ownS ho47).slice
          subst hv47
          have bx47 := bx46.below bs47
          have HK47 := hid ho47
          have hnK : pb ∉ obl (.slice aK p.length cK) := fun h => by have h1 := hg47 _ h; have h2 := bx46.1; omega
          clear ho47 hg47
          (try dsimp only)
          refine hK.out _ _ (HSK.out w47 k47) (fun hH2 => ?_)
          clear hK K
          replace hHeld := hH2
          clear hH2
          (try simp only [Act.put, List.setIfInBounds_toArray, List.set_cons_zero, List.set_cons_succ])
          refine comesL (i := 11) rfl rfl (by kernel_rfl) (fun K hK => ?_)
          refine wpE W0 k47 rfl (.tmp 12) (.tmp 16) 26 rfl W0.heap.size (Nat.le_refl _) 9 i0 (.string ByteArray.empty) 16 Tryd.underlying26 hi hz0 hz1 hz2 rfl (.slice va p.length vc) p.length (valsV p) rv (one_valsX p) (by unfold maxLen; omega) (by omega) gB rfl rfl ?_
          intro v48 w48 ho48 bs48 k48 hg48
          obtain ⟨aV, cV, hv48⟩ := (rows_of_ownS ho48).slice
          subst hv48
          have HK48 := hid (HK47.out.below bs48)
          have bx48 := bx47.below bs48
          have HV48 := hid ho48
          have hnV : pb ∉ obl (.slice aV p.length cV) := fun h => by have h1 := hg48 _ h; have h2 := bx47.1; omega
          clear ho48 hg48
          (try dsimp only)
          refine hK.out _ _ (HSK.out w48 k48) (fun hH2 => ?_)
          clear hK K
          replace hHeld := hH2
          clear hH2
          (try simp only [Act.put, List.setIfInBounds_toArray, List.set_cons_zero, List.set_cons_succ])
          refine takeL (i := 12) (v := ?_) rfl (by kernel_rfl) (by kernel_rfl) (by kernel_rfl) (fun _ _ _ h => h) rfl ?_ (by assumption) ?_
          rotate_left
          · intro w hSw; (try dsimp only at hSw); go_simp; (try with_reducible rfl)
          (try simp only [Act.put, List.setIfInBounds_toArray, List.set_cons_zero, List.set_cons_succ])
          have bx := bx48
          have q0 := bx.2.1 0 _ rfl
          have q1 := bx.2.1 1 _ rfl
          have q2 := bx.2.1 2 _ rfl
          have q3 := bx.2.1 3 _ rfl
          have r0 := bx.2.2 0 (by simp)
          have r1 := bx.2.2 1 (by simp)
          have r2 := bx.2.2 2 (by simp)
          have r3 := bx.2.2 3 (by simp)
          have rl := bx.1
          have FIN := hid (shwFin (s1 := p.map (·.1)) (s2 := p.map (·.2)) (ku := .slice aK p.length cK) (vu := .slice aV p.length cV) k48 hpb0 bx (by rw [← keys_map]; exact HK48.out) (by rw [← vals_map]; exact HV48.out) hnK hnV)
          have HNN := hid (And.intro hnK hnV)
          refine comesL (i := 14) rfl rfl (by kernel_rfl) (fun K hK => ?_)
          go_simp
          (try dsimp only)
          refine hK.out _ _ (HSK.out _ FIN.out.2.2.2) (fun hH2 => ?_)
          clear hK K hH2
          (try simp only [Act.put])
          refine wpAnyH_done (by kernel_rfl) ?_ _
          clear q0 q1 q2 q3 r0 r1 r2 r3 rl bx
          go_wp2_with fail
          go_meet
          exact ⟨pb, _, _, rfl, hpb0, FIN.out.1, FIN.out.2.1, FIN.out.2.2.1, HNN.out.1, HNN.out.2, FIN.out.2.2.2⟩
      · skip
        go_simp
        obtain ⟨gB, hgB⟩ : ∃ g, g = w41.heap.size := ⟨_, rfl⟩
        obtain ⟨w49, hw49⟩ : ∃ x, x = w41.alloc (.cells #[] 9) := ⟨_, rfl⟩
        have bs49 : Below w41.heap.size w41 w49 := by rw [hw49]; exact al6 _ _
        have k49 : Below W0.heap.size W0 w49 := Below.trans k41 (bs49.mono (Below.size k41))
        have bx49 := bx41_.below bs49
        rw [← hw49, ← hgB]
        clear hw49 hgB
        (try dsimp only)
        refine hK.out _ _ (HSK.out w49 k49) (fun hH2 => ?_)
        clear hK K
        replace hHeld := hH2
        clear hH2
        (try simp only [Act.put, List.setIfInBounds_toArray, List.set_cons_zero, List.set_cons_succ])
        refine comesL (i := 0) rfl rfl (by kernel_rfl) (fun K hK => ?_)
        go_simp
        obtain ⟨gA, hgA⟩ : ∃ g, g = w49.heap.size := ⟨_, rfl⟩
        obtain ⟨w50, hw50⟩ : ∃ x, x = w49.alloc (.cells #[] 9) := ⟨_, rfl⟩
        have bs50 : Below w49.heap.size w49 w50 := by rw [hw50]; exact al6 _ _
        have k50 : Below W0.heap.size W0 w50 := Below.trans k49 (bs50.mono (Below.size k49))
        have bx50 := bx49.below bs50
        rw [← hw50, ← hgA]
        clear hw50 hgA
        (try dsimp only)
        refine hK.out _ _ (HSK.out w50 k50) (fun hH2 => ?_)
        clear hK K
        replace hHeld := hH2
        clear hH2
        (try simp only [Act.put, List.setIfInBounds_toArray, List.set_cons_zero, List.set_cons_succ])
        refine comesL (i := 5) rfl rfl (by kernel_rfl) (fun K hK => ?_)
        refine wpE W0 k50 rfl (.tmp 6) (.tmp 10) 26 rfl W0.heap.size (Nat.le_refl _) 9 i0 (.string ByteArray.empty) 16 Tryd.underlying26 hi hz0 hz1 hz2 rfl (.slice ka p.length kc) p.length (keysV p) rk (one_keysX p) (by unfold maxLen; omega) (by omega) gA rfl rfl ?_
        intro v51 w51 ho51 bs51 k51 hg51
        obtain ⟨aK, cK, hv51⟩ := (rows_of_ownS ho51).slice
        subst hv51
        have bx51 := bx50.below bs51
        have HK51 := hid ho51
        have hnK : pb ∉ obl (.slice aK p.length cK) := fun h => by have h1 := hg51 _ h; have h2 := bx50.1; omega
        clear ho51 hg51
        (try dsimp only)
        refine hK.out _ _ (HSK.out w51 k51) (fun hH2 => ?_)
        clear hK K
        replace hHeld := hH2
        clear hH2
        (try simp only [Act.put, List.setIfInBounds_toArray, List.set_cons_zero, List.set_cons_succ])
        refine comesL (i := 11) rfl rfl (by kernel_rfl) (fun K hK => ?_)
        refine wpE W0 k51 rfl (.tmp 12) (.tmp 16) 26 rfl W0.heap.size (Nat.le_refl _) 9 i0 (.string ByteArray.empty) 16 Tryd.underlying26 hi hz0 hz1 hz2 rfl (.slice va p.length vc) p.length (valsV p) rv (one_valsX p) (by unfold maxLen; omega) (by omega) gB rfl rfl ?_
        intro v52 w52 ho52 bs52 k52 hg52
        obtain ⟨aV, cV, hv52⟩ := (rows_of_ownS ho52).slice
        subst hv52
        have HK52 := hid (HK51.out.below bs52)
        have bx52 := bx51.below bs52
        have HV52 := hid ho52
        have hnV : pb ∉ obl (.slice aV p.length cV) := fun h => by have h1 := hg52 _ h; have h2 := bx51.1; omega
        clear ho52 hg52
        (try dsimp only)
        refine hK.out _ _ (HSK.out w52 k52) (fun hH2 => ?_)
        clear hK K
        replace hHeld := hH2
        clear hH2
        (try simp only [Act.put, List.setIfInBounds_toArray, List.set_cons_zero, List.set_cons_succ])
        refine takeL (i := 12) (v := ?_) rfl (by kernel_rfl) (by kernel_rfl) (by kernel_rfl) (fun _ _ _ h => h) rfl ?_ (by assumption) ?_
        rotate_left
        · intro w hSw; (try dsimp only at hSw); go_simp; (try with_reducible rfl)
        (try simp only [Act.put, List.setIfInBounds_toArray, List.set_cons_zero, List.set_cons_succ])
        have bx := bx52
        have q0 := bx.2.1 0 _ rfl
        have q1 := bx.2.1 1 _ rfl
        have q2 := bx.2.1 2 _ rfl
        have q3 := bx.2.1 3 _ rfl
        have r0 := bx.2.2 0 (by simp)
        have r1 := bx.2.2 1 (by simp)
        have r2 := bx.2.2 2 (by simp)
        have r3 := bx.2.2 3 (by simp)
        have rl := bx.1
        have FIN := hid (shwFin (s1 := p.map (·.1)) (s2 := p.map (·.2)) (ku := .slice aK p.length cK) (vu := .slice aV p.length cV) k52 hpb0 bx (by rw [← keys_map]; exact HK52.out) (by rw [← vals_map]; exact HV52.out) hnK hnV)
        have HNN := hid (And.intro hnK hnV)
        refine comesL (i := 14) rfl rfl (by kernel_rfl) (fun K hK => ?_)
        go_simp
        (try dsimp only)
        refine hK.out _ _ (HSK.out _ FIN.out.2.2.2) (fun hH2 => ?_)
        clear hK K hH2
        (try simp only [Act.put])
        refine wpAnyH_done (by kernel_rfl) ?_ _
        clear q0 q1 q2 q3 r0 r1 r2 r3 rl bx
        go_wp2_with fail
        go_meet
        exact ⟨pb, _, _, rfl, hpb0, FIN.out.1, FIN.out.2.1, FIN.out.2.2.1, HNN.out.1, HNN.out.2, FIN.out.2.2.2⟩
  --END1
  case rest =>
    obtain ⟨pb, ku, vu, rfl, hpb, hbx, hok, hov, hnk, hnv, kb1⟩ := hcut
    obtain ⟨ka, kc, rfl⟩ := (rows_of_ownS hok).slice
    obtain ⟨va, vc, rfl⟩ := (rows_of_ownS hov).slice
    have kw : Below w.heap.size w wc := kb0.trans (kb1.mono kb0.size)
    have HOK := hid hok
    have HOV := hid hov
    have HNK := hid hnk
    have HNV := hid hnv
    have HPB : Hid (w.heap.size < pb) := by have := HZ0.out; show _ < _; omega
    obtain ⟨_, _, _, y2, _, _, _, _⟩ := HKW.out wc kw
    have hbw : b < wc.heap.size := Nat.lt_of_lt_of_le hbb kw.size
    have HKW1 := hid kw
    have HBR1 := hid (HBR.out.below kb1)
    have HBX := hid hbx
    have hpl := hbx.1
    have HSC := hid kw.size
    clear hok hov hnk hnv kb1 kw hbx HBR HZ0 p0 p1 p2 rk rv rc hts hb0
    go_wp2_with fail
    go_loopw [5, 24] (fun s5 i wr => ∃ (k : Nat) (cu : Value), k ≤ kids.length ∧ i = .int .i64 k ∧ BoxAt wr pb [.slice ka p.length kc, .slice va p.length vc, cu, .int .i64 0] ∧ wr.ownsRow wc.heap.size 9 1 cu k (strsV ((digsN kids).take k)) ∧ Off [pb] wc wr) (fun _ i _ => kids.length - (intOf i).toNat)
    case atStart => exact ⟨0, _, Nat.zero_le _, rfl, HBX.out, ⟨by simp [strsV], .inl ⟨rfl, rfl⟩⟩, Off.refl _ _⟩
    case round =>
      obtain ⟨k, cu, hk, rfl, hbx, hcu, hof⟩ := hrel
      have kbw : Below w.heap.size w wr := HKW1.out.trans (hof.below HSC.out (fun g hg => by rw [List.mem_singleton] at hg; have := HPB.out; omega))
      have HBXr := hid hbx
      have HCU := hid hcu
      have HOF := hid hof
      have z2 := hbx.2.1 2 _ rfl
      have hpr := hbx.1
      clear hbx hcu hof y2
      by_cases hlt : k < kids.length
      · have hki : (k : Int) < (kids.length : Int) := by omega
        have hk0 : (0 : Int) ≤ (k : Int) := by omega
        obtain ⟨_, _, _, _, _, _, rcr, htr⟩ := HKW.out wr kbw
        obtain ⟨b9, off, c9, hce, hb9, e0⟩ := rcr.cell1 hlt
        cases hce
        obtain ⟨F1, hkT⟩ := htr.get k hlt
        have HG9 := hid (HGK.out k hlt)
        have HIK := hid (fun W (hW : Below wr.heap.size wr W) => IH.out k hlt _ _ W (hkT.below hW))
        obtain ⟨kb9, hkp⟩ := ownT_ptr hkT
        have e1 : wr.cell? ⟨b9, off + k, none⟩ = some (.pointer (some ⟨kb9, 0, none⟩)) := by rw [← hkp]; exact e0
        rw [hkp] at HIK
        have HTK := hid (digs_take kids k hlt)
        obtain ⟨Kk, hKk⟩ : ∃ Kk, kids.getD k default = Kk := ⟨_, rfl⟩
        rw [hKk] at HIK HTK HG9
        clear e0 rcr htr hkT hkp hKk
        obtain ⟨da, dc, rfl⟩ := (rows_of_ownS (.inl HCU.out)).slice
        go_upto_region 5 with fail
        have HSK : Hid (∀ W, Below wr.heap.size wr W → (fun w' : World => w'.cell? ⟨pb, 2, none⟩ = some (.slice da k dc)) W) := fun W hW => (hW.cell hpr).trans z2
        have kd : Below wr.heap.size wr wr.drew := Below.drew (Below.refl _ _)
        have HI5 := HIK.out wr.drew kd
        have hHeld := HSK.out wr.drew kd
        clear HIK z2 e1 hpr
        refine wp_region_swapL (m := 8) (S := fun w' : World => w'.cell? ⟨pb, 2, none⟩ = some (.slice da k dc)) (by kernel_rfl) rfl rfl rfl rfl (by kernel_rfl) (by kernel_rfl) ?_
        simp only [List.set_cons_zero, List.set_cons_succ]
        refine takeL (i := 0) (v := ?_) rfl (by kernel_rfl) (by kernel_rfl) (by kernel_rfl) (fun _ _ _ h => h) rfl ?_ (by assumption) ?_
        rotate_left
        · intro w hSw; (try dsimp only at hSw); go_simp; (try with_reducible rfl)
        (try simp only [Act.put, List.setIfInBounds_toArray, List.set_cons_zero, List.set_cons_succ])
        refine takeL (i := 1) (v := ?_) rfl (by kernel_rfl) (by kernel_rfl) (by kernel_rfl) (fun _ _ _ h => h) rfl ?_ (by assumption) ?_
        rotate_left
        · intro w hSw; (try dsimp only at hSw); go_simp; (try with_reducible rfl)
        (try simp only [Act.put, List.setIfInBounds_toArray, List.set_cons_zero, List.set_cons_succ])
        refine takeL (i := 2) (v := ?_) rfl (by kernel_rfl) (by kernel_rfl) (by kernel_rfl) (fun _ _ _ h => h) rfl ?_ (by assumption) ?_
        rotate_left
        · intro w hSw; (try dsimp only at hSw); go_simp; (try with_reducible rfl)
        (try simp only [Act.put, List.setIfInBounds_toArray, List.set_cons_zero, List.set_cons_succ])
        refine comesL (i := 3) rfl rfl (by kernel_rfl) (fun K hK => ?_)
        go_simp
        refine HI5.mono ?_
        rintro e w5 ⟨ku5, vu5, cu5, rfl, hsh, hb5⟩
        have k5 : Below wr.heap.size wr w5 := Below.trans kd (hb5.mono (by simp))
        have HD5 := specL6D (shN Kk) ku5 vu5 cu5 w5 HG9.out.good hsh
        rw [shN_go, ← digN_eq] at HD5
        obtain ⟨_, _, rfl⟩ := strs_len hsh.1
        obtain ⟨_, _, rfl⟩ := strs_len hsh.2.1
        obtain ⟨_, _, rfl⟩ := strs_len hsh.2.2
        clear hb5 HI5 hsh
        (try dsimp only)
        refine hK.out _ _ (HSK.out w5 k5) (fun hH2 => ?_)
        clear hK K
        replace hHeld := hH2
        clear hH2
        (try simp only [Act.put, List.setIfInBounds_toArray, List.set_cons_zero, List.set_cons_succ])
        refine comesL (i := 4) rfl rfl (by kernel_rfl) (fun K hK => ?_)
        go_simp
        refine HD5.mono ?_
        rintro e w6 ⟨rfl, hb6⟩
        have k6 : Below wr.heap.size wr w6 := Below.trans k5 (hb6.mono k5.size)
        clear hb6 HD5
        (try dsimp only)
        refine hK.out _ _ (HSK.out w6 k6) (fun hH2 => ?_)
        clear hK K
        replace hHeld := hH2
        clear hH2
        (try simp only [Act.put, List.setIfInBounds_toArray, List.set_cons_zero, List.set_cons_succ])
        refine comesL (i := 5) rfl rfl (by kernel_rfl) (fun K hK => ?_)
        go_simp
        obtain ⟨nb, hnb⟩ : ∃ nb, nb = w6.heap.size := ⟨_, rfl⟩
        obtain ⟨W7, hW7⟩ : ∃ W7, W7 = w6.alloc (.cells #[.string (digN Kk)] 9) := ⟨_, rfl⟩
        have hrw7 : RowsAt W7 1 (.slice (some ⟨nb, 0, none⟩) 1 1) 1 [.string (digN Kk)] := by rw [hW7, hnb]; exact news1 _ _ _
        have k7 : Below wr.heap.size wr W7 := by rw [hW7]; exact k6.alloc k6.size _
        rw [← hW7, ← hnb]
        refine hK.out _ _ (HSK.out W7 k7) (fun hH2 => ?_)
        clear hK K hW7 hnb
        replace hHeld := hH2
        clear hH2
        (try simp only [Act.put, List.setIfInBounds_toArray, List.set_cons_zero, List.set_cons_succ])
        have hown7 : W7.ownsRow wc.heap.size 9 1 (.slice da k dc) k (strsV ((digsN kids).take k)) := owns_keep HCU.out (fun g hg => by
          have h1 := (owns_lt HCU.out g hg).2
          rw [k7.block g h1])
        have hwz : wc.heap.size ≤ W7.heap.size := Nat.le_trans HOF.out.size k7.size
        refine comesL (i := 6) rfl rfl (by kernel_rfl) (fun K hK => ?_)
        refine wpOwnA rfl (.tmp 29) (.tmp 33) 26 rfl wc.heap.size 9 i0 (.string ByteArray.empty) 1 16 Tryd.underlying26 hi hz0 hz1 hz2 rfl (by omega) (.slice da k dc) k _ rfl hown7 (.slice (some ⟨nb, 0, none⟩) 1 1) 1 [.string (digN Kk)] rfl hrw7 ?c1 ?c2 ?c3 hwz ?_
        case c1 => intro u hu; simp at hu; subst hu; rfl
        case c2 => unfold maxLen; omega
        case c3 => omega
        intro v' w8 ho8 hg8 he8
        obtain ⟨xa, xc, rfl⟩ := (rows_of_ownS (.inl ho8)).slice
        have hof8 : Off ((Value.slice da k dc).ownBlock.toList) W7 w8 := ⟨hg8.os, hg8.tape, hg8.output, hg8.size, fun j hj hn => hg8.block j hj (fun e => hn (by rw [← e]; simp))⟩
        have hnb8 : ∀ j, j < wc.heap.size → j ∉ (Value.slice da k dc).ownBlock.toList := fun j hj hm => by
          have := (owns_lt hown7 j (by simpa using hm)).1
          omega
        have bX8 := (HBXr.out.below k7).off hof8 (hnb8 pb hpl)
        have HOF8 : Hid (Off [pb] wc w8) := off_comb (HOF.out.trans (Off.of k7)) hof8 (fun x hx => .inr (by have := (owns_lt hown7 x (by simpa using hx)).1; exact this))
        have HO8 := hid ho8
        have n2 := bX8.2.1 2 _ rfl
        have f2 := bX8.2.2 2 (by simp)
        have hl8 := bX8.1
        have HBX8 := hid bX8
        clear ho8 hg8 he8 hof8 hnb8 hown7 hrw7
        (try dsimp only)
        refine hK.out _ _ n2 (fun hH2 => ?_)
        clear hK K bX8
        replace hHeld := hH2
        clear hH2 HSK
        (try simp only [Act.put, List.setIfInBounds_toArray, List.set_cons_zero, List.set_cons_succ])
        refine takeL (i := 7) (v := ?_) rfl (by kernel_rfl) (by kernel_rfl) (by kernel_rfl) (fun _ _ _ h => h) rfl ?_ (by assumption) ?_
        rotate_left
        · intro w hSw; (try dsimp only at hSw); go_simp; (try with_reducible rfl)
        (try simp only [Act.put, List.setIfInBounds_toArray, List.set_cons_zero, List.set_cons_succ])
        refine takeL (i := 8) (v := ?_) rfl (by kernel_rfl) (by kernel_rfl) (by kernel_rfl) (fun _ _ _ h => h) rfl ?_ (by assumption) ?_
        rotate_left
        · intro w hSw; (try dsimp only at hSw); go_simp; (try with_reducible rfl)
        (try simp only [Act.put])
        refine wpAnyH_done (by kernel_rfl) ?_ _
        simp only [LastQ]
        go_simp
        clear hHeld n2 f2
        have HB9 := hid (HBX8.out.set 2 (.slice xa (k + 1) xc))
        have HO9 := hid (HOF8.out.trans (offB w8 pb 2 (.slice xa (k + 1) xc)))
        have HR9 : Hid ((w8.setCell ⟨pb, 2, none⟩ (.slice xa (k + 1) xc)).ownsRow wc.heap.size 9 1 (.slice xa (k + 1) xc) (k + 1) (strsV ((digsN kids).take (k + 1)))) := by
          have h0 := HO8.out
          rw [show strsV ((digsN kids).take k) ++ [Value.string (digN Kk)] = strsV ((digsN kids).take (k + 1)) by rw [HTK.out]; simp [strsV]] at h0
          exact owns_keep h0 (fun g hg => setCell_other _ _ _ _ _ (fun e => by have := (owns_lt h0 g hg).1; omega))
        clear hl8
        go_wp2_with fail
        refine ⟨?_, by simp [intOf]; omega⟩
        first | exact ⟨k + 1, _, hlt, by go_num, HB9.out, HR9.out, HO9.out⟩ | ((repeat apply Exists.intro); exact ⟨⟨k + 1, _, hlt, by go_num, HB9.out, HR9.out, HO9.out⟩, rfl⟩)
      · have hke : k = kids.length := by omega
        subst hke
        have hki : ¬ ((kids.length : Int) < (kids.length : Int)) := by omega
        have hcu := HCU.out
        rw [List.take_of_length_le (by rw [digsN_len]; exact Nat.le_refl _)] at hcu
        have hdl := digsN_len kids
        have hrne : w.heap.size ∉ [pb] := by rw [List.mem_singleton]; have := HPB.out; omega
        have hbelow := HOK.out.off HOF.out (fun g hg hm => by rw [List.mem_singleton] at hm; subst hm; exact HNK.out hg)
        have hbelow2 := HOV.out.off HOF.out (fun g hg hm => by rw [List.mem_singleton] at hm; subst hm; exact HNV.out hg)
        obtain ⟨da, dc, rfl⟩ := (rows_of_ownS (.inl hcu)).slice
        have HSA : Hid (ShAt wr (.slice ka p.length kc) (.slice va p.length vc) (.slice da kids.length dc) (shN (.mk p kids))) := by
          refine ⟨strs_of_own (ss := p.map (·.1)) (by simpa using hbelow), strs_of_own (ss := p.map (·.2)) (by simpa using hbelow2), strs_of_own (base := wc.heap.size) (ss := digsN kids) ?_⟩
          rw [hdl]
          exact .inl hcu
        have bRr := HBR1.out.off HOF.out hrne
        have r0 := bRr.2.1 0 _ rfl
        have r1 := bRr.2.1 1 _ rfl
        have r2 := bRr.2.1 2 _ rfl
        have r3 := bRr.2.1 3 _ rfl
        have s0 := bRr.2.2 0 (by simp)
        have s1 := bRr.2.2 1 (by simp)
        have s2 := bRr.2.2 2 (by simp)
        have s3 := bRr.2.2 3 (by simp)
        have hrl1 := bRr.1
        have z0 := HBXr.out.2.1 0 _ rfl
        have z1 := HBXr.out.2.1 1 _ rfl
        have z3 := HBXr.out.2.1 3 _ rfl
        have bFin := (((bRr.set 0 (.slice ka p.length kc)).set 1 (.slice va p.length vc)).set 2 (.slice da kids.length dc)).set 3 (.int .i64 0)
        have y0 := bFin.2.1 0 _ rfl
        have y1 := bFin.2.1 1 _ rfl
        have y7 := bFin.2.1 2 _ rfl
        have y8 := bFin.2.1 3 _ rfl
        have HFA := hid (ShAt.boxSet4 (a1 := ka) (n1 := p.length) (c1 := kc) (a2 := va) (n2 := p.length) (c2 := vc) (a3 := da) (n3 := kids.length) (c3 := dc) HSA.out bRr)
        have HKB := hid (bel_set (bel_set (bel_set (bel_set kbw (by omega : w.heap.size ≤ w.heap.size) 0 (.slice ka p.length kc)) (by omega : w.heap.size ≤ w.heap.size) 1 (.slice va p.length vc)) (by omega : w.heap.size ≤ w.heap.size) 2 (.slice da kids.length dc)) (by omega : w.heap.size ≤ w.heap.size) 3 (.int .i64 0))
        clear bFin bRr hbelow hbelow2 hcu hrne
        go_wp2_with fail
        (try simp only [Exit.inBlock, Exit.then])
        refine bodyPost_ret (v := .agg #[.slice ka p.length kc, .slice va p.length vc, .slice da kids.length dc, .int .i64 0]) ?r rfl ?_
        case r => simp [y0, y1, y7, y8, results, Tryd.results62, go_sem]; try rfl
        exact ⟨_, _, _, rfl, HFA.out, HKB.out⟩
theorem specShown (base : Nat) : ∀ (t : Nd), GdN t → ∀ (v : Value) (F : List Nat) (W : World), OwnT W base t v F →
    Calls Tryd.prog 62 #[v] W fun e w' => ∃ ku vu cu, e = .returned (.agg #[ku, vu, cu, .int .i64 0]) ∧ ShAt w' ku vu cu (shN t) ∧ Below W.heap.size W w' := by
  intro t
  induction t using Nd.ind with
  | h p kids ih =>
    intro hg v F W hn
    exact specShownStep base p kids hg (fun i hi v F W h1 => ih (kids.getD i default) (by simp [List.getD, hi]) (hg.kid hi) v F W h1) v F W hn
set_option maxHeartbeats 1600000 in
theorem specRootYes {pages : List Pg} {t : Nd} (hh : Hand pages) (ht : TreeIs pages t) (w : World) (x : Value) (hx : PgsAt w x pages) :
    Calls Tryd.prog 18 #[.agg #[x]] w fun e w' => e = .returned (.tuple #[.string (digN t), .bool true]) ∧ Below w.heap.size w w' := by
  have HO := fun o => specOfYes hh ht (w.alloc o) x (hx.below (al1 w o))
  have HS := hid (fun base v F W => specShown base t (GdN.of ht) v F W)
  have HD := hid (fun ku vu cu W h => specL6D (shN t) ku vu cu W (GdN.of ht).good h)
  obtain ⟨a, c, rfl⟩ := hx.slice
  clear hx ht hh
  go_enter Tryd.func18, Tryd.ntmps18
  go_wp2_with fail
  refine (HO _).mono ?_
  rintro e w1 ⟨b, F, rfl, hot, hb⟩
  have kb := belA hb
  have HI := HS.out _ _ _ _ hot
  clear hb HO hot
  go_wp2_with fail
  refine HI.mono ?_
  rintro e w2 ⟨ku, vu, cu, rfl, hsh, hb2⟩
  have kb2 := kb.trans (hb2.mono kb.size)
  have HDD := HD.out ku vu cu w2 hsh
  rw [shN_go, ← digN_eq] at HDD
  obtain ⟨_, _, rfl⟩ := strs_len hsh.1
  obtain ⟨_, _, rfl⟩ := strs_len hsh.2.1
  obtain ⟨_, _, rfl⟩ := strs_len hsh.2.2
  clear hb2 HI hsh HD HS
  go_wp2_with fail
  refine HDD.mono ?_
  rintro e w3 ⟨rfl, hb3⟩
  have kb3 := kb2.trans (hb3.mono kb2.size)
  clear hb3 HDD
  go_wp2_with fail
  go_returns
  exact ⟨rfl, kb3⟩
theorem specRootNo {pages : List Pg} (hh : Hand pages) (h : ∀ t, ¬ TreeIs pages t) (w : World) (x : Value) (hx : PgsAt w x pages) :
    Calls Tryd.prog 18 #[.agg #[x]] w fun e w' => e = .returned (.tuple #[.string ⟨#[]⟩, .bool false]) ∧ Below w.heap.size w w' := by
  have HO := fun o => specOfNo hh h (w.alloc o) x (hx.below (al1 w o))
  obtain ⟨a, c, rfl⟩ := hx.slice
  clear hx h hh
  go_enter Tryd.func18, Tryd.ntmps18
  go_wp2_with fail
  refine (HO _).mono ?_
  rintro e w1 ⟨rfl, hb⟩
  have kb := belA hb
  clear hb HO
  go_wp2_with fail
  go_returns
  exact ⟨rfl, kb⟩
end Go.Proofs.YtgjcegmjhkehnaaDoor
