/- Contract of the model's tree of good pages. Condition: the pages lie in memory. -/
import Derived.Test.YtgjcegmjhkehnaaDoorSpecRd
namespace Go.Proofs.YtgjcegmjhkehnaaDoor
open Go.ChangeShapes Go.WideShapes Go.ChangeAt Go.RowKit Go.Deep
set_option linter.unusedVariables false
attribute [local go_sem ↓] Go.wp_at_zero Go.wp_at_succ

theorem interN_len : ∀ (kids : List Nd) (p : List Pr), (interN kids p).length ≤ p.length + (kids.map fun k => (allN k).length).sum
  | [], p => by simp [interN]
  | k :: ks, [] => by simp [interN]
  | k :: ks, q :: p => by
    have := interN_len ks p
    simp only [interN, List.length_append, List.length_cons, List.map_cons, List.sum_cons]
    omega
theorem readL_sum {rd : Nat → Option (Nd × Nat)} (hr : ∀ a t b, rd a = some (t, b) → a < b ∧ (allN t).length ≤ 4 * (b - a)) : ∀ {c : List Int} {nx : Nat} {l : List Nd} {e : Nat}, readL rd c nx = some (l, e) → nx ≤ e ∧ (l.map fun k => (allN k).length).sum ≤ 4 * (e - nx)
  | [], nx, l, e, h => by simp [readL] at h; obtain ⟨rfl, rfl⟩ := h; simp
  | k :: ks, nx, l, e, h => by
    unfold readL at h
    split at h
    · split at h
      · simp at h
      · rename_i t e1 h1
        split at h
        · simp at h
        · rename_i l2 e2 hh
          simp at h
          obtain ⟨rfl, rfl⟩ := h
          have h2 := readL_sum hr hh
          have h3 := hr _ _ _ h1
          simp only [List.map_cons, List.sum_cons]
          omega
    · simp at h
theorem readM_sum {pages : List Pg} : ∀ {f a : Nat} {t : Nd} {e : Nat}, readM pages f a = some (t, e) → a < e ∧ (allN t).length ≤ 4 * (e - a)
  | 0, a, t, e, h => by simp [readM] at h
  | f + 1, a, t, e, h => by
    obtain ⟨g, l, hg, h1, h2, h3, rfl⟩ := readM_some h
    have : g = f := by omega
    subst this
    have h5 := readL_sum (fun a t b h => readM_sum h) h3
    have h4 := h2.1
    have h6 := Pg.prs_len h2
    have h7 := interN_len l (pages.getD a default).prs
    rw [allN]
    omega
theorem l5PairYes (k v : ByteArray) (w : World) (h : goodP (k, v)) : Calls Tryd.prog 67 #[.string k, .string v] w fun e w' => e = .returned (.bool true) ∧ w' = w := by
  obtain ⟨h1, h2, h3⟩ := h
  simp only [] at h1 h2 h3
  have i1 : (k.size : Int) ≤ 12 := by omega
  have i2 : (v.size : Int) ≤ 12 := by omega
  have he : (k.toList == (⟨#[]⟩ : ByteArray).toList) = false := by
    rw [beq_eq_false_iff_ne]
    intro h
    have := ba_inj h
    subst this
    exact h1 rfl
  have he2 : ¬ k = ⟨#[]⟩ := fun h => by subst h; exact h1 rfl
  have he3 : k.toList.isEmpty = false := by
    cases h : k.toList with
    | nil => exact absurd (ba_inj (b := ⟨#[]⟩) (h.trans (by rw [ByteArray.toList_eq]))) he2
    | cons x l => rfl
  go_enter Tryd.func67, Tryd.ntmps67
  go_wp2
  go_ret
  exact ⟨by first | rfl | simp [he3], rfl⟩
theorem l5PairNo (k v : ByteArray) (w : World) (hm : k.size ≤ maxLen) (hm2 : v.size ≤ maxLen) (h : ¬ goodP (k, v)) : Calls Tryd.prog 67 #[.string k, .string v] w fun e w' => e = .returned (.bool false) ∧ w' = w := by
  unfold maxLen at hm hm2
  by_cases h1 : k.size ≤ 12
  · have i1 : (k.size : Int) ≤ 12 := by omega
    by_cases h2 : v.size ≤ 12
    · have i2 : (v.size : Int) ≤ 12 := by omega
      have h0 : k.size = 0 := Classical.byContradiction fun h0 => h ⟨h0, h1, h2⟩
      have he : k = ⟨#[]⟩ := by
        cases k with
        | mk d => have : d.size = 0 := h0
                  rw [Array.size_eq_zero_iff.1 this]
      subst he
      clear h
      go_enter Tryd.func67, Tryd.ntmps67
      go_wp2
      go_ret
      exact ⟨rfl, rfl⟩
    · have i2 : ¬ ((v.size : Int) ≤ 12) := by omega
      clear h
      go_enter Tryd.func67, Tryd.ntmps67
      go_wp2
      go_ret
      exact ⟨rfl, rfl⟩
  · have i1 : ¬ ((k.size : Int) ≤ 12) := by omega
    clear h
    go_enter Tryd.func67, Tryd.ntmps67
    go_wp2
    go_ret
    exact ⟨rfl, rfl⟩
def OfPost (pages : List Pg) (base : Nat) (e : Ending) (w' : World) : Prop :=
  (∃ t v F, TreeIs pages t ∧ e = .returned (.tuple #[v, .bool true]) ∧ OwnT w' base t v F) ∨ ((∀ t, ¬ TreeIs pages t) ∧ e = .returned (.tuple #[.pointer none, .bool false]))
/-- No text longer than the form's own reach. -/
def Texts (pages : List Pg) : Prop := ∀ p ∈ pages, (∀ s ∈ p.keys, s.size ≤ maxLen) ∧ ∀ s ∈ p.vals, s.size ≤ maxLen
theorem interN_mem {Q : Pr → Prop} : ∀ (kids : List Nd) (p : List Pr), (∀ q ∈ p, Q q) → (∀ k ∈ kids, ∀ q ∈ allN k, Q q) → ∀ q ∈ interN kids p, Q q
  | [], p, hp, hk, q, hq => hp q (by simpa [interN] using hq)
  | k :: ks, [], hp, hk, q, hq => hk k (by simp) q (by simpa [interN] using hq)
  | k :: ks, r :: p, hp, hk, q, hq => by
    simp only [interN, List.mem_append, List.mem_cons] at hq
    rcases hq with hq | rfl | hq
    · exact hk k (by simp) q hq
    · exact hp _ (by simp)
    · exact interN_mem ks p (fun q h => hp q (by simp [h])) (fun k h => hk k (by simp [h])) q hq
theorem readM_texts {pages : List Pg} (ht : Texts pages) : ∀ {f a : Nat} {t : Nd} {e : Nat}, readM pages f a = some (t, e) → ∀ q ∈ allN t, q.1.size ≤ maxLen ∧ q.2.size ≤ maxLen
  | 0, a, t, e, h => by simp [readM] at h
  | f + 1, a, t, e, h => by
    obtain ⟨g, l, hg, h1, h2, h3, rfl⟩ := readM_some h
    have : g = f := by omega
    subst this
    rw [allN]
    have hm : pages.getD a default ∈ pages := by simp [List.getD, h1]
    obtain ⟨hk, hv⟩ := ht _ hm
    refine interN_mem l _ (fun q hq => ?_) (fun k hk q hq => ?_)
    · exact ⟨hk _ (by rw [← Pg.prs_keys h2]; exact List.mem_map_of_mem hq), hv _ (by rw [← Pg.prs_vals h2]; exact List.mem_map_of_mem hq)⟩
    · obtain ⟨a2, b2, h5⟩ := readL_mem h3 k hk
      exact readM_texts ht h5 q hq
theorem rise_next {L : List Pr} {i : Nat} (hi : i < L.length) (h : Rise ByteArray.empty (L.take i)) : Rise ByteArray.empty (L.take (i + 1)) ↔ goodP (L.getD i default) ∧ (i = 0 ∨ ltT (L.getD (i - 1) default).1 (L.getD i default).1) := by
  rw [getPr L i hi, rise_append]
  simp only [Rise, and_true]
  have hl : 0 < i → lastK ByteArray.empty (L.take i) = (L.getD (i - 1) default).1 := by
    intro h0
    obtain ⟨j, rfl⟩ : ∃ j, i = j + 1 := ⟨i - 1, by omega⟩
    rw [getPr L j (by omega), lastK_snoc]; simp
  constructor
  · rintro ⟨_, h1, h2⟩
    refine ⟨h1, ?_⟩
    rcases Nat.eq_zero_or_pos i with h0 | h0
    · exact .inl h0
    · rw [hl h0] at h2; exact .inr h2
  · rintro ⟨h1, h2⟩
    refine ⟨h, h1, ?_⟩
    rcases Nat.eq_zero_or_pos i with h0 | h0
    · subst h0
      rw [List.take_zero, lastK_nil, ltT_nil]
      exact h1.1
    · rcases h2 with h2 | h2
      · omega
      · rw [hl h0]; exact h2
theorem rise_take {L : List Pr} (h : Rise ByteArray.empty L) (i : Nat) : Rise ByteArray.empty (L.take i) := by
  have := (rise_append (l := L.take i) (m := L.drop i) (a := ByteArray.empty)).1 (by rw [List.take_append_drop]; exact h)
  exact this.1
set_option maxHeartbeats 12800000 in
set_option maxRecDepth 100000 in
theorem specOf (pages : List Pg) (hsm : Small pages) (htx : Texts pages) (w : World) (x : Value) (hx : PgsAt w x pages) :
    Calls Tryd.prog 61 #[.agg #[x]] w fun e w' => OfPost pages w.heap.size e w' ∧ Below w.heap.size w w' := by
  have hpl := hsm.1
  have HR := fun W (hw : Below w.heap.size w W) => specRead pages hsm 10 0 W x 1 (hx.below hw) rfl (by omega)
  obtain ⟨a0, c0, rfl⟩ := hx.slice
  clear hx hsm
  go_enter Tryd.func61, Tryd.ntmps61
  go_wp2_with fail
  refine (HR _ ((Below.refl _ _).alloc (Nat.le_refl _) _)).mono ?_
  rintro e w1 ⟨hpost, kb1⟩
  have kw1 : Below w.heap.size w w1 := ((Below.refl w.heap.size w).alloc (Nat.le_refl _) _).trans (kb1.mono (by simp))
  have kl1 := kb1.size
  simp only [World.size_alloc] at kl1
  have t0 : w1.cell? ⟨w.heap.size, 0, none⟩ = some (.slice a0 pages.length c0) := by rw [kb1.cell (p := ⟨w.heap.size, 0, none⟩) (by simp)]; simp
  clear HR
  rcases hpost with ⟨t, n, v, F, hrd, rfl, hot⟩ | ⟨hrd, rfl⟩
  · have HRD := hid hrd
    have HUN : Hid (∀ t', TreeIs pages t' → t' = t ∧ n = pages.length) := by
      intro t' h'
      have := h'.1.symm.trans hrd
      simp at this
      exact ⟨this.1, this.2.symm⟩
    by_cases hn : n = pages.length
    · subst hn
      have hsh := readM_shape hrd
      have hsum := (readM_sum hrd).2
      have hfit := readM_fit hrd
      have HTX := hid (readM_texts htx hrd)
      have HAL := specAll w.heap.size w1.heap.size t hsh w1 v (.slice none 0 0) (.slice none 0 0) F [] (hot.mono (by simp)) (fun g hg => (hot.lt g hg).2) (Nat.le_refl _) (Acc.nil _ _) (by simp only [List.length_nil]; omega)
      have hbn : ((pages.length : Int) != (pages.length : Int)) = false := by simp
      have hn0 : ¬ ((pages.length : Int) < 0) := by omega
      have HOT := hid ((hot.mono (by simp) : OwnT w1 w.heap.size t v F))
      have HLT := hid (fun g hg => (hot.lt g hg).2)
      have HSH := hid hsh
      have HFI := hid hfit
      have hvp : ∃ q, v = .pointer (some ⟨q, 0, none⟩) := by
        cases t with
        | mk pT kT => obtain ⟨q, _, _, _, _, _, h, _⟩ := hot; exact ⟨q, h⟩
      obtain ⟨q, hvq⟩ := hvp
      subst hvq
      clear hot hsh hfit hrd
      go_wp2_with fail
      refine HAL.mono ?_
      rintro e w2 ⟨xk, xv, rfl, hacc, kb2⟩
      simp only [List.nil_append] at hacc
      have kw2 : Below w.heap.size w w2 := kw1.trans (kb2.mono (by omega))
      have kl2 := kb2.size
      obtain ⟨L, hL⟩ : ∃ L, allN t = L := ⟨_, rfl⟩
      rw [hL] at hacc hsum HTX
      have HL := hid hL
      have HK := hid (rows_of_ownS hacc.1)
      have HV := hid (rows_of_ownS hacc.2.1)
      have HOT2 := hid (HOT.out.keep (w' := w2) fun g hg => kb2.block g (HLT.out g hg))
      obtain ⟨ka, kc, hka⟩ := (rows_of_ownS hacc.1).slice
      obtain ⟨va, vc, hva⟩ := (rows_of_ownS hacc.2.1).slice
      subst hka
      subst hva
      clear hacc HAL hL kb2 HOT HLT
      go_wp2_with fail
      go_loopw [8, 9, 31] (fun s8 s9 i wr => ∃ k : Nat, k ≤ L.length ∧ i = .int .i64 k ∧ Rise ByteArray.empty (L.take k) ∧ wr = w2) (fun _ _ i _ => L.length - (intOf i).toNat)
      case atStart => exact ⟨0, Nat.zero_le _, rfl, trivial, rfl⟩
      case round =>
        obtain ⟨k, hk, rfl, hrise, hwr⟩ := hrel
        subst hwr
        have HRI := hid hrise
        clear hrise
        by_cases hlt : k < L.length
        · have HNX := hid (rise_next hlt HRI.out)
          obtain ⟨b5, off5, c5, hce, hb5, hcell5⟩ := HK.out.cell1 (i := k) hlt
          cases hce
          obtain ⟨b6, off6, c6, hce, hb6, hcell6⟩ := HV.out.cell1 (i := k) hlt
          cases hce
          rw [keysV_get _ _ hlt] at hcell5
          rw [valsV_get _ _ hlt] at hcell6
          have htxk := HTX.out (L.getD k default) (by simp [List.getD, hlt])
          have hki : (k : Int) < (L.length : Int) := by omega
          have hk0 : (0 : Int) ≤ (k : Int) := by omega
          have hprev : 0 < k → wr.cell? ⟨b5, off5 + (k - 1), none⟩ = some (.string (L.getD (k - 1) default).1) := by
            intro h0
            obtain ⟨b7, off7, c7, hce, _, hcell7⟩ := HK.out.cell1 (i := k - 1) (by omega)
            cases hce
            rw [keysV_get _ _ (by omega)] at hcell7
            exact hcell7
          have HPV := hid hprev
          clear hprev
          obtain ⟨q, hq⟩ : ∃ q, L.getD k default = q := ⟨_, rfl⟩
          obtain ⟨q0, hq0⟩ : ∃ q0, L.getD (k - 1) default = q0 := ⟨_, rfl⟩
          rw [hq] at hcell5 hcell6 htxk
          rw [hq, hq0] at HNX
          rw [hq0] at HPV
          have HNOT : Hid (¬ (goodP q ∧ (k = 0 ∨ ltT q0.1 q.1)) → ∀ t', ¬ TreeIs pages t') := by
            intro hnot t' h'
            obtain ⟨rfl, _⟩ := HUN.out t' h'
            have h1 := h'.2.2.2.1
            rw [HL.out] at h1
            exact hnot (HNX.out.1 (rise_take h1 _))
          obtain ⟨s, u⟩ := q
          simp only [] at hcell5 hcell6 htxk
          clear hq hq0
          by_cases hg : goodP (s, u)
          · have HP := l5PairYes s u wr hg
            rcases Nat.eq_zero_or_pos k with h0 | h0
            · have h0i : ¬ ((0 : Int) < (k : Int)) := by omega
              have HN2 := hid (HNX.out.2 ⟨hg, .inl h0⟩)
              clear HNOT hg h0
              go_wp2_with (first | (go_at_call 67; refine HP.mono ?_; rintro e w9 ⟨rfl, hw9⟩; subst w9) | fail)
              refine ⟨?_, by simp [intOf]; omega⟩
              first | exact ⟨k + 1, by omega, by go_num, HN2.out, by first | rfl | trivial⟩ | ((repeat apply Exists.intro); exact ⟨⟨k + 1, by omega, by go_num, HN2.out, by first | rfl | trivial⟩, rfl⟩)
            · have hp5 := HPV.out h0
              have h0i : (0 : Int) < (k : Int) := by omega
              obtain ⟨j, rfl⟩ : ∃ j, k = j + 1 := ⟨k - 1, by omega⟩
              simp only [Nat.add_sub_cancel] at hp5
              have hj0 : (0 : Int) ≤ (j : Int) := by omega
              have hjl : (j : Int) < (L.length : Int) := by omega
              have hcj : ((j + 1 : Nat) : Int) - 1 = (j : Int) := by omega
              have hcj2 : (j : Int) + 1 - 1 = (j : Int) := by omega
              by_cases hl : ltT q0.1 s
              · have HN2 := hid (HNX.out.2 ⟨hg, .inr hl⟩)
                have hlb : Go.Op.bytesLess q0.1.toList s.toList = true := hl
                clear HNOT hg hl
                go_wp2_with (first | (go_at_call 67; refine HP.mono ?_; rintro e w9 ⟨rfl, hw9⟩; subst w9) | fail)
                refine ⟨?_, by simp [intOf]; omega⟩
                first | exact ⟨j + 1 + 1, by omega, by go_num, HN2.out, by first | rfl | trivial⟩ | ((repeat apply Exists.intro); exact ⟨⟨j + 1 + 1, by omega, by go_num, HN2.out, by first | rfl | trivial⟩, rfl⟩)
              · have HNO := hid (HNOT.out (fun h => by rcases h.2 with h | h; omega; exact hl h))
                have hlb : Go.Op.bytesLess q0.1.toList s.toList = false := by
                  cases h : Go.Op.bytesLess q0.1.toList s.toList
                  · rfl
                  · exact absurd h hl
                clear HNOT hg hl
                go_wp2_with (first | (go_at_call 67; refine HP.mono ?_; rintro e w9 ⟨rfl, hw9⟩; subst w9) | fail)
                go_returns
                exact ⟨.inr ⟨HNO.out, rfl⟩, kw2⟩
          · have HP := l5PairNo s u wr htxk.1 htxk.2 hg
            have HNO := hid (HNOT.out (fun h => hg h.1))
            clear HNOT hg
            go_wp2_with (first | (go_at_call 67; refine HP.mono ?_; rintro e w9 ⟨rfl, hw9⟩; subst w9) | fail)
            go_returns
            exact ⟨.inr ⟨HNO.out, rfl⟩, kw2⟩
        · have hke : k = L.length := by omega
          subst hke
          have hri := HRI.out
          rw [List.take_length, ← HL.out] at hri
          have hki : ¬ ((L.length : Int) < (L.length : Int)) := by omega
          have HE := specEven w.heap.size t 10 HSH.out HFI.out (by omega) wr _ F HOT2.out
          have HRISE := hid hri
          clear hri HRI
          have HLL : Hid ((allN t).length = L.length) := by show _ = _; rw [HL.out]
          cases t with
          | mk p kids =>
            have hpr := (HOT2.out).parts
            obtain ⟨b', kv0, vv0, cv0, ps0, Fc0, he0, hb0, hk00, _, _, rk0, _, _, _⟩ := hpr
            cases he0
            obtain ⟨ka0, kc0, hka0⟩ := rk0.slice
            subst hka0
            clear rk0
            have HSP : Hid (p.length ≤ 4) := by cases HSH.out with | mk _ _ h4 _ _ => exact h4
            go_wp2_with fail
            refine HE.mono ?_
            rintro e w3 ⟨d, hd, rfl, kb3⟩
            have kw3 : Below w.heap.size w w3 := kw2.trans (kb3.mono (by omega))
            have kl3 := kb3.size
            have HOT3 := hid (HOT2.out.below kb3)
            have c3 := (kb3.cell (p := ⟨q, 0, none⟩) hb0).trans hk00
            have hb3 : q < w3.heap.size := by omega
            rcases hd.ge with ⟨hd1, hodd⟩ | ⟨m, hd1, hm1, hm2, hev⟩
            · subst hd1
              have HNO : Hid (∀ t', ¬ TreeIs pages t') := by
                intro t' h'
                obtain ⟨rfl, _⟩ := HUN.out t' h'
                obtain ⟨e, he⟩ := h'.2.1
                exact hodd e he
              clear hd hodd HE
              go_wp2_with fail
              go_returns
              exact ⟨.inr ⟨HNO.out, rfl⟩, kw3⟩
            · subst hd1
              have hm0 : ¬ ((m : Int) < 0) := by omega
              have HEV := hid hev
              clear hd hev HE
              have HYES : Hid ((kids = [] ∨ 1 ≤ p.length) → L.length ≤ 40 → TreeIs pages (.mk p kids)) := fun h1 h2 => ⟨HRD.out, ⟨m, HEV.out⟩, h1, HRISE.out, by rw [HLL.out]; exact h2⟩
              have HNR : Hid (∀ t', TreeIs pages t' → (kids = [] ∨ 1 ≤ p.length) ∧ L.length ≤ 40) := by
                intro t' h'
                obtain ⟨rfl, _⟩ := HUN.out t' h'
                exact ⟨h'.2.2.1, by rw [← HLL.out]; exact h'.2.2.2.2⟩
              by_cases hkn : kids = []
              · subst hkn
                have HLF := leafYes HOT3.out
                by_cases h40 : L.length ≤ 40
                · have h40i : ¬ ((40 : Int) < (L.length : Int)) := by omega
                  have HY := hid (HYES.out (.inl rfl) h40)
                  go_wp2_with (first | (go_at_call 121; refine HLF.mono ?_; rintro e w9 ⟨rfl, hw9⟩; subst w9) | fail)
                  go_returns
                  exact ⟨.inl ⟨_, _, F, HY.out, rfl, HOT3.out⟩, kw3⟩
                · have h40i : (40 : Int) < (L.length : Int) := by omega
                  have HNO : Hid (∀ t', ¬ TreeIs pages t') := fun t' h' => h40 (HNR.out t' h').2
                  go_wp2_with (first | (go_at_call 121; refine HLF.mono ?_; rintro e w9 ⟨rfl, hw9⟩; subst w9) | fail)
                  go_returns
                  exact ⟨.inr ⟨HNO.out, rfl⟩, kw3⟩
              · have HLF := leafNo HOT3.out hkn
                by_cases hp0 : p.length = 0
                · have HNO : Hid (∀ t', ¬ TreeIs pages t') := fun t' h' => by
                    rcases (HNR.out t' h').1 with h | h
                    · exact hkn h
                    · omega
                  have hpi : ((p.length : Int) == 0) = true := by rw [hp0]; rfl
                  go_wp2_with (first | (go_at_call 121; refine HLF.mono ?_; rintro e w9 ⟨rfl, hw9⟩; subst w9) | fail)
                  go_returns
                  exact ⟨.inr ⟨HNO.out, rfl⟩, kw3⟩
                · have hpi : ((p.length : Int) == 0) = false := beq_false_of_ne (by omega)
                  have hpi2 : ¬ ((p.length : Int) = 0) := by omega
                  by_cases h40 : L.length ≤ 40
                  · have h40i : ¬ ((40 : Int) < (L.length : Int)) := by omega
                    have HY := hid (HYES.out (.inr (by omega)) h40)
                    go_wp2_with (first | (go_at_call 121; refine HLF.mono ?_; rintro e w9 ⟨rfl, hw9⟩; subst w9) | fail)
                    go_returns
                    exact ⟨.inl ⟨_, _, F, HY.out, rfl, HOT3.out⟩, kw3⟩
                  · have h40i : (40 : Int) < (L.length : Int) := by omega
                    have HNO : Hid (∀ t', ¬ TreeIs pages t') := fun t' h' => h40 (HNR.out t' h').2
                    go_wp2_with (first | (go_at_call 121; refine HLF.mono ?_; rintro e w9 ⟨rfl, hw9⟩; subst w9) | fail)
                    go_returns
                    exact ⟨.inr ⟨HNO.out, rfl⟩, kw3⟩
    · have hbn : ((n : Int) != (pages.length : Int)) = true := by rw [bne, beq_false_of_ne (by omega)]; rfl
      have HNO : Hid (∀ t', ¬ TreeIs pages t') := fun t' h' => hn (HUN.out t' h').2
      clear hot hrd HUN
      go_wp2_with fail
      go_returns
      exact ⟨.inr ⟨HNO.out, rfl⟩, kw1⟩
  · have hbn : ((-1 : Int) != (pages.length : Int)) = true := by rw [bne, beq_false_of_ne (by omega)]; rfl
    have HNO : Hid (∀ t', ¬ TreeIs pages t') := fun t' h' => by have := h'.1; rw [hrd] at this; simp at this
    clear hrd
    go_wp2_with fail
    go_returns
    exact ⟨.inr ⟨HNO.out, rfl⟩, kw1⟩
end Go.Proofs.YtgjcegmjhkehnaaDoor
