/- Contract of the program's index of words. Condition: the documents lie in memory. -/
import Derived.Test.YtkkmnegmghllpaaMapH
import Derived.Maps.OwnOps
import Derived.Carry
namespace Go.Proofs.Ytkkmnegmghllpaa
open Go.ChangeShapes Go.WideShapes Go.ChangeAt Go.RowKit Go.Deep Go.Maps
set_option linter.unusedVariables false
attribute [local go_sem ↓] Go.wp_at_zero Go.wp_at_succ

theorem walk_sizes (s : ByteArray) : ∀ k, (∀ x ∈ (walkW s k).1, x.size ≤ k) ∧ (walkW s k).2.size ≤ k
  | 0 => ⟨by simp [walkW], by simp [walkW]⟩
  | k + 1 => by
    obtain ⟨h1, h2⟩ := walk_sizes s k
    show (∀ x ∈ (stepW _ _).1, _) ∧ (stepW _ _).2.size ≤ _
    unfold stepW
    split
    · split
      · exact ⟨fun x hx => by have := h1 x hx; omega, by omega⟩
      · refine ⟨fun x hx => ?_, by simp⟩
        simp only [List.mem_append, List.mem_singleton] at hx
        rcases hx with hx | hx
        · have := h1 x hx; omega
        · rw [hx]; omega
    · exact ⟨fun x hx => by have := h1 x hx; omega, by rw [ByteArray.size_append, oneB_size]; omega⟩
theorem words_sizes (s : ByteArray) : ∀ x ∈ wordsL s, x.size ≤ s.size := by
  obtain ⟨h1, h2⟩ := walk_sizes s s.size
  intro x hx
  unfold wordsL endW at hx
  split at hx
  · exact h1 x hx
  · simp only [List.mem_append, List.mem_singleton] at hx
    rcases hx with hx | hx
    · exact h1 x hx
    · rw [hx]; exact h2
theorem psK_sum2 {ds : List ByteArray} (s : ByteArray) : ∀ d, (∀ i, i < d → docB (ds.getD i ByteArray.empty) = true) → sumL (psK ds s d) ≤ 20 * d
  | 0, _ => by simp [psK, sumL]
  | d + 1, h => by
    have h1 := psK_sum2 s d (fun i hi => h i (by omega))
    have h2 := (doc_yes (h d (by omega))).2
    have h3 := plK_len (docAt ds d) s (docAt ds d).length
    have h4 : (docAt ds d).length ≤ 20 := h2
    simp only [psK]
    split
    · rw [List.append_nil]; omega
    · rw [sumL_snoc]; simp only; omega
theorem ix_bd {ds : List ByteArray} (s : ByteArray) {d k : Nat} (h : ∀ i, i < d → docB (ds.getD i ByteArray.empty) = true) (hk : k ≤ 20) : sumL (ixP ds d k s) ≤ 20 * d + k ∧ (ixP ds d k s).length ≤ d + 1 := by
  have h1 := psK_sum2 s d h
  have h2 := psK_len ds s d
  have h3 := plK_len (docAt ds d) s k
  unfold ixP
  split
  · rw [List.append_nil]; omega
  · rw [sumL_snoc]; simp; omega
/-- One place more of a word. -/
theorem withIx {base : Nat} {w : World} {v : Value} {us : List Value} {ds : List ByteArray} {d k : Nat} {s : ByteArray} (h : GrP base w v (ixP ds d k s) us) (hb : base ≤ w.heap.size) (hd : ∀ i, i < d → docB (ds.getD i ByteArray.empty) = true) (hdl : d ≤ 12) (hk : k < 20)
    (hw : (docAt ds d).getD k ByteArray.empty = s) :
    Calls Try.prog 81 #[.agg #[v, .int .i64 ((sumL (ixP ds d k s) : Nat) : Int)], .int .i64 (d : Int), .int .i64 (k : Int)] w fun e w' =>
      (∃ v' vs', e = .returned (.agg #[v', .int .i64 ((sumL (ixP ds d (k + 1) s) : Nat) : Int)]) ∧ GrP base w' v' (ixP ds d (k + 1) s) vs' ∧ ∀ x ∈ fpG v' vs', x ∈ fpG v us ∨ w.heap.size ≤ x) ∧ Off (fpG v us) w w' := by
  obtain ⟨hb1, hb2⟩ := ix_bd s (k := k) hd (by omega)
  have hsum := ix_sum (ds := ds) (d := d) (k := k) hw
  have hsi : ((sumL (ixP ds d (k + 1) s) : Nat) : Int) = ((sumL (ixP ds d k s) : Nat) : Int) + 1 := by omega
  rw [hsi]
  by_cases hp : plK (docAt ds d) s k = []
  · rw [ix_new hw hp]
    refine withNew base d _ k v _ us w h hb (fun m hm he => ?_) (by omega) (by omega) (by omega) (by omega)
    have h0 : ixP ds d k s = psK ds s d := by unfold ixP; rw [if_pos hp, List.append_nil]
    rw [h0] at hm he
    have := (psK_doc ds s d _ (getD_memL _ m (by omega))).2.1
    omega
  · obtain ⟨e1, e2⟩ := ix_old hw hp
    have hl := h.len
    obtain ⟨us0, pv, rfl⟩ : ∃ us0 pv, us = us0 ++ [pv] := by
      have : us ≠ [] := fun e => by rw [e, e1] at hl; simp at hl
      exact ⟨us.dropLast, us.getLast this, (List.dropLast_concat_getLast this).symm⟩
    rw [e2]
    have ht : sumL (ixP ds d k s) ≤ 1000000 := by omega
    rw [e1] at h ⊢
    rw [e1] at ht
    have h3 := plK_len (docAt ds d) s k
    have h4 := psK_len ds s d
    exact withOld base d _ k v pv _ us0 _ w h hb (by omega) (by omega) ht (by omega) (by omega)
set_option maxHeartbeats 25600000 in
set_option maxRecDepth 100000 in
theorem implIndex9 (x : Value) (ds : List ByteArray) (w : World) (hx : StrsAt w x ds) (hl : ds.length ≤ 1048576) (hs : ∀ s ∈ ds, s.size ≤ 1048576) :
    Calls Try.prog 58 #[x] w fun e w' => ((docsB ds = true ∧ ∃ mb n, e = .returned (.tuple #[.map (some mb), .bool true]) ∧ n ≤ 240 ∧ Ix w.heap.size w' mb n (fun s => psK ds s ds.length) []) ∨ (docsB ds = false ∧ e = .returned (.tuple #[.map none, .bool false]))) ∧ Below w.heap.size w w' := by
  have HX := hid hx
  have HSZ := hid hs
  obtain ⟨xa, xc, hxe⟩ := hx.slice
  subst hxe
  clear hx hs
  by_cases h12 : 12 < ds.length
  · have HB : Hid (docsB ds = false) := by
      show _ = _
      unfold docsB
      rw [decide_eq_false (by omega)]; rfl
    have hi : (12 : Int) < (ds.length : Int) := by omega
    go_enter Try.func58, Try.ntmps58
    go_wp2
    go_returns
    exact ⟨.inr ⟨HB.out, rfl⟩, Below.refl _ _⟩
  have hi : ¬ (12 : Int) < (ds.length : Int) := by omega
  have hd12 : ds.length ≤ 12 := by omega
  have hmm := fun t w => run_makeMap (P := Try.prog) t w
  clear h12
  go_enter Try.func58, Try.ntmps58
  go_wp2
  obtain ⟨mb, hmb⟩ : ∃ mb, mb = w.heap.size := ⟨_, rfl⟩
  have HMB : Hid (mb = w.heap.size) := hmb
  rw [← hmb]
  go_loopw [17] (fun i wr => ∃ (d n : Nat), d ≤ ds.length ∧ i = .int .i64 d ∧ Hid (∀ i, i < d → docB (ds.getD i ByteArray.empty) = true) ∧ n ≤ 20 * d ∧ Hid (Ix w.heap.size wr mb n (fun s => psK ds s d) []) ∧ Below w.heap.size w wr) (fun i _ => ds.length - (intOf i).toNat)
  case atStart => exact ⟨0, 0, Nat.zero_le _, rfl, fun i hi => by omega, by omega, by rw [hmb]; exact Ix.start w w.heap.size, (Below.refl _ _).alloc (Nat.le_refl _) _⟩
  case round =>
    obtain ⟨d, n, hdl, rfl, hall, hn, hI, kb⟩ := hrel
    have kl := kb.size
    clear hmb
    by_cases hlt : d < ds.length
    · obtain ⟨g, off, cap, hve, hgl, hc⟩ := (HX.out.below kb).cellS hlt
      cases hve
      have hki : (d : Int) < (ds.length : Int) := by omega
      have hk0 : (0 : Int) ≤ (d : Int) := by omega
      have hds := HSZ.out _ (getD_mem ds d hlt)
      have HNO : Hid (docB (ds.getD d ByteArray.empty) = false → docsB ds = false) := docs_no hlt
      have HYS : Hid (docB (ds.getD d ByteArray.empty) = true → ∀ i, i < d + 1 → docB (ds.getD i ByteArray.empty) = true) := fun h i hi => by
        by_cases e : i = d
        · rw [e]; exact h
        · exact hall.out i (by omega)
      have HW := fun W => implWords (ds.getD d ByteArray.empty) (by unfold maxLen; omega) W
      obtain ⟨Bd, hBd⟩ : ∃ Bd, Bd = docB (ds.getD d ByteArray.empty) := ⟨_, rfl⟩
      obtain ⟨L, hL⟩ : ∃ L, L = docA (ds.getD d ByteArray.empty) := ⟨_, rfl⟩
      have HL : Hid (Bd = true → L = docAt ds d ∧ L.length ≤ 20 ∧ ∀ x ∈ L, x.size ≤ 120) := fun h => by
        have h1 : docB (ds.getD d ByteArray.empty) = true := by rw [← hBd]; exact h
        have h2 : L = docAt ds d := by rw [hL]; unfold docA; rw [if_pos h1]; rfl
        have h3 := doc_yes h1
        refine ⟨h2, by rw [h2]; exact h3.2, fun x hx => ?_⟩
        rw [h2] at hx
        have := words_sizes _ x hx
        omega
      rw [← hBd, ← hL] at HW
      rw [← hBd] at HNO HYS
      clear hBd hL
      generalize ds.getD d ByteArray.empty = txt at *
      go_wp2_with fail
      refine (HW _).mono ?_
      rintro e w1 ⟨v, rfl, how, hb1⟩
      have k1 : Below w.heap.size w w1 := kb.trans (hb1.mono kl)
      have kl1 := k1.size
      have HOW := hid how
      have HI1 : Hid (Ix w.heap.size w1 mb n (fun s => psK ds s d) (obl v)) := hI.out.shunN hb1 (fun y hy => (own_lt how y hy).1)
      obtain ⟨va, vc, hve⟩ := (rows_of_ownS how).slice
      subst hve
      clear hb1 HW how hI hc hgl
      cases Bd with
      | false =>
        have HB := hid (HNO.out rfl)
        go_wp2_with fail
        go_returns
        exact ⟨.inr ⟨HB.out, rfl⟩, k1⟩
      | true =>
        have HA := hid (HYS.out rfl)
        obtain ⟨hL1, hL2, hL3⟩ := HL.out rfl
        have HLE := hid hL1
        have HLS := hid hL3
        clear hL1 hL3 HL HNO HYS
        go_wp2_with fail
        go_loopw [31] (fun i wr => ∃ (k m : Nat), k ≤ L.length ∧ i = .int .i64 k ∧ m ≤ 20 * d + k ∧ Hid (Ix w.heap.size wr mb m (ixP ds d k) (obl (.slice va L.length vc))) ∧ Hid (OwnS wr w.heap.size 9 (.slice va L.length vc) L.length (strsV L)) ∧ Below w.heap.size w wr) (fun i _ => L.length - (intOf i).toNat)
        case atStart => exact ⟨0, n, Nat.zero_le _, rfl, by omega, by rw [show ixP ds d 0 = fun s => psK ds s d from funext fun s => ixP_zero ds d s]; exact HI1.out, own_mono HOW.out kl, k1⟩
        case round =>
          obtain ⟨k, m, hkl, rfl, hm, hI, hO, kb2⟩ := hrel
          generalize wr = w2 at *
          have kl2 := kb2.size
          by_cases hkt : k < L.length
          · obtain ⟨g2, off2, cap2, hve, hgl2, hc2⟩ := (OwnA.ofStrs hO.out).1.strs.cellS hkt
            cases hve
            have hkki : (k : Int) < (L.length : Int) := by omega
            have hkk0 : (0 : Int) ≤ (k : Int) := by omega
            have hsz := HLS.out _ (getD_mem L k hkt)
            have hgw : (docAt ds d).getD k ByteArray.empty = L.getD k ByteArray.empty := by rw [HLE.out]
            obtain ⟨D, V, F, hF⟩ := hI.out
            have HF := hid hF
            have hlk := hF.lookup (s := L.getD k ByteArray.empty) (by unfold maxLen; omega)
            have hbw : w.heap.size ≤ w2.heap.size := kl2
            have HWI := hid (withIx (hF.grp (L.getD k ByteArray.empty)) hbw hall.out (by omega) (by omega) hgw)
            have hkey := key_ok (s := L.getD k ByteArray.empty) (by unfold maxLen; omega)
            have HKX : Hid (ixP ds d (k + 1) = fun t => if t = L.getD k ByteArray.empty then ixP ds d (k + 1) (L.getD k ByteArray.empty) else ixP ds d k t) := by
              show _ = _
              funext t
              by_cases e : t = L.getD k ByteArray.empty
              · rw [if_pos e, e]
              · rw [if_neg e]; exact ix_other (by rw [hgw]; exact fun h => e h.symm)
            have HNE : Hid (ixP ds d (k + 1) (L.getD k ByteArray.empty) ≠ []) := by
              show _ ≠ _
              by_cases hp : plK (docAt ds d) (L.getD k ByteArray.empty) k = []
              · rw [ix_new hgw hp]; simp
              · rw [(ix_old hgw hp).2]; simp
            have HSZ2 : Hid ((L.getD k ByteArray.empty).size ≤ maxLen) := by show _ ≤ _; unfold maxLen; omega
            have HWO := hid (fun q (hq : q ∈ obl (.slice (some ⟨g2, off2, none⟩) L.length vc)) => (own_lt hO.out q hq).2)
            have HWLT := hid hF.own.lt
            have hmw : m < maxLen := by unfold maxLen; omega
            clear hF hgw hsz hI hmm
            obtain ⟨Q1, hQ1⟩ : ∃ q, q = ixP ds d (k + 1) (L.getD k ByteArray.empty) := ⟨_, rfl⟩
            rw [← hQ1] at HWI HKX HNE
            obtain ⟨Q0, hQ0⟩ : ∃ q, q = ixP ds d k (L.getD k ByteArray.empty) := ⟨_, rfl⟩
            rw [← hQ0] at HWI hlk
            clear hQ1 hQ0
            generalize L.getD k ByteArray.empty = tw at *
            go_wp2_with fail
            refine HWI.out.mono ?_
            rintro e w3 ⟨⟨v', vs', rfl, hg3, hn3⟩, ho3⟩
            have HG3 := hid hg3
            have HN3 := hid hn3
            have HO3 := hid ho3
            have hown3 : w3.ownsMap Try.prog 9 hR mb m D := by
              obtain ⟨es, cl, e1, e2, e3, e4⟩ := HF.out.own
              exact ⟨es, cl, (ho3.block mb HWLT.out (HF.out.apart tw)).trans e1, e2, e3, e4⟩
            clear hlk hg3 hn3 ho3 HWI hc2 hgl2
            go_wp2_with (first | (at_mapUpdate; refine wpList_mapUpdate_own _ rfl _ _ _ 79 rfl 9 77 lawS Try.underlying79 hR mb m D rfl hown3 hmw _ _ (kS tw) rfl rfl hkey (.held (.agg #[v', .int .i64 ((sumL Q1 : Nat) : Int)])) [] rfl ?_; intro w4 hown4 hgrow4) | fail)
            obtain ⟨hI4, ho4⟩ := HF.out.store HWO.out HSZ2.out HO3.out HG3.out HN3.out hown4 hgrow4 HNE.out
            rw [← HKX.out] at hI4
            have HI4 := hid hI4
            have kb4 : Below w.heap.size w w4 := kb2.trans (ho4.below kl2 (fun q hq => by
              rcases List.mem_cons.1 hq with h | h
              · rw [h, HMB.out]; exact Nat.le_refl _
              · exact ((HF.out.grp tw).lt q h).1))
            have HO4 : Hid (OwnS w4 w.heap.size 9 (.slice (some ⟨g2, off2, none⟩) L.length vc) L.length (strsV L)) := hO.out.off ho4 (fun q hq hm => by
              rcases List.mem_cons.1 hm with h | h
              · exact HF.out.shunm (h ▸ hq)
              · exact HF.out.shun tw q h hq)
            clear hI4 ho4 hown4 hgrow4 hown3 hO
            go_wp2_with fail
            refine ⟨?_, by simp [intOf]; omega⟩
            first | exact ⟨k + 1, m + 1, by omega, by go_num, by omega, HI4, HO4, kb4⟩ | ((repeat apply Exists.intro); exact ⟨⟨k + 1, m + 1, by omega, by go_num, by omega, HI4, HO4, kb4⟩, rfl⟩)
          · have hke : k = L.length := by omega
            have hkki : ¬ (k : Int) < (L.length : Int) := by omega
            have HIF : Hid (Ix w.heap.size w2 mb m (fun s => psK ds s (d + 1)) []) := by
              show Ix _ _ _ _ _ _
              have h9 := hI.out
              rw [hke, HLE.out, show ixP ds d (docAt ds d).length = fun s => psK ds s (d + 1) from funext fun s => ixP_end ds d s] at h9
              exact h9.shunN (Below.refl _ _) (by simp)
            clear hI hO
            go_wp2_with fail
            exact ⟨⟨d + 1, m, by omega, by go_num, HA, by omega, HIF, kb2⟩, by simp [intOf]; omega⟩
    · have hke : d = ds.length := by omega
      subst hke
      have hki : ¬ (ds.length : Int) < (ds.length : Int) := by omega
      have HB : Hid (docsB ds = true) := by show _ = _; rw [docs_end hall.out]; exact decide_eq_true hd12
      go_wp2
      go_returns
      exact ⟨.inl ⟨HB.out, mb, rfl, n, by omega, hI.out⟩, kb⟩
end Go.Proofs.Ytkkmnegmghllpaa
