/- Contracts of the model's even. Condition: the tree lies in memory. -/
import Derived.Test.YtgjcegmjhkehnaaDoorSpecAl2
namespace Go.Proofs.YtgjcegmjhkehnaaDoor
open Go.ChangeShapes Go.WideShapes Go.ChangeAt Go.RowKit Go.Deep
set_option linter.unusedVariables false
attribute [local go_sem ↓] Go.wp_at_zero Go.wp_at_succ

/-- How deep all leaves are, or -1. -/
inductive DeepIs : Nd → Int → Prop
  | even (t : Nd) (d : Nat) : Even d t → d ≤ 1000 → DeepIs t d
  | odd (t : Nd) : (∀ d, ¬ Even d t) → DeepIs t (-1)
theorem DeepIs.ge {t : Nd} {d : Int} (h : DeepIs t d) : (d = -1 ∧ ∀ d, ¬ Even d t) ∨ ∃ n : Nat, d = n ∧ 1 ≤ n ∧ n ≤ 1000 ∧ Even n t := by
  cases h with
  | even d h hd => exact .inr ⟨d, rfl, h.pos, hd, h⟩
  | odd h => exact .inl ⟨rfl, h⟩
/-- No deeper than f. -/
def Fit : Nat → Nd → Prop
  | 0, _ => False
  | f + 1, t => ∀ k ∈ t.kids, Fit f k
theorem Fit.even : ∀ {f d : Nat} {t : Nd}, Fit f t → Even d t → d ≤ f
  | 0, d, t, h, _ => h.elim
  | f + 1, 0, t, h, he => he.elim
  | f + 1, 1, t, h, he => by omega
  | f + 1, d + 2, t, h, he => by
    obtain ⟨k, hk⟩ := List.exists_mem_of_ne_nil _ he.1
    have := Fit.even (h k hk) (he.2 k hk).1
    omega
theorem readM_fit {pages : List Pg} : ∀ {f a : Nat} {t : Nd} {e : Nat}, readM pages f a = some (t, e) → Fit f t
  | 0, a, t, e, h => by simp [readM] at h
  | f + 1, a, t, e, h => by
    obtain ⟨g, l, hg, h1, h2, h3, rfl⟩ := readM_some h
    have : g = f := by omega
    subst this
    intro k hk
    obtain ⟨a2, b2, h5⟩ := readL_mem h3 k hk
    exact readM_fit h5
theorem prsLen {w : World} {base : Nat} {t : Nd} {v : Value} {F : List Nat} (h : OwnT w base t v F) : ∃ b a c, v = .pointer (some ⟨b, 0, none⟩) ∧ b < w.heap.size ∧ w.cell? ⟨b, 0, none⟩ = some (.slice a t.prs.length c) := by
  cases t with
  | mk p kids =>
    obtain ⟨b, kv, vv, cv, ps, Fc, h1, hb, hk, hv, hc, rk, rv, rc, ht⟩ := h.parts
    obtain ⟨a, c, rfl⟩ := rk.slice
    exact ⟨b, a, c, h1, hb, hk⟩
set_option maxHeartbeats 12800000 in
set_option maxRecDepth 100000 in
theorem specEven (base : Nat) : ∀ (t : Nd) (f : Nat), Shape t → Fit f t → f ≤ 900 → ∀ (w : World) (v : Value) (F : List Nat), OwnT w base t v F →
    Calls Tryd.prog 120 #[v] w fun e w' => ∃ d, DeepIs t d ∧ e = .returned (.int .i64 d) ∧ Below w.heap.size w w' := by
  intro t
  induction t using Nd.ind with
  | h p kids ih =>
    intro f hs hf hf9 w v F ht
    have hk5 : kids.length ≤ 5 := by cases hs with | mk _ _ h4 hk _ => rcases hk with rfl | hk; simp; omega
    have hsk : ∀ x ∈ kids, Shape x := by cases hs with | mk _ _ _ _ h5 => exact h5
    clear hs
    obtain ⟨g, rfl⟩ : ∃ g, f = g + 1 := ⟨f - 1, by cases f with | zero => exact hf.elim | succ f => omega⟩
    have hfk : ∀ k ∈ kids, Fit g k := hf
    by_cases hne : kids = []
    · subst hne
      have HL := leafYes ht
      obtain ⟨b, kv, vv, cv, ps, Fc, rfl, hb, hk, hv, hc, rk, rv, rc, hts⟩ := ht.parts
      have HD : Hid (DeepIs (.mk p []) 1) := DeepIs.even (.mk p []) 1 (by simp [Even, Nd.kids]) (by omega)
      clear ht rk rv rc hts hf hfk ih hsk hk5
      go_enter Tryd.func120, Tryd.ntmps120
      go_wp2_with (first | (go_at_call 121; refine HL.mono ?_; rintro e w2 ⟨rfl, hw2⟩; subst w2) | fail)
      go_ret
      exact ⟨_, HD.out, rfl, Below.refl _ _⟩
    · have HL := leafNo ht hne
      have HT := hid (fun W (hw : Below w.heap.size w W) => ht.below hw)
      obtain ⟨b, kv, vv, cv, ps, Fc, rfl, hb, hk, hv, hc, rk, rv, rc, hts⟩ := ht.parts
      have hpos : 0 < kids.length := List.length_pos_iff.2 hne
      obtain ⟨b2, off, c2, rfl, hb2, hcell⟩ := rc.cell1 (i := 0) hpos
      have HR := hid rc
      have HTS := hid hts
      have IH := hid (fun k hk => ih k hk g (hsk k hk) (hfk k hk) (by omega))
      obtain ⟨F0, hkid0⟩ := hts.get 0 hpos
      have HI0 := IH.out (kids.getD 0 default) (by simp [List.getD, hpos]) w _ F0 hkid0
      have hp0 : (0 : Int) < (kids.length : Int) := by omega
      simp only [Nat.add_zero] at hcell
      generalize ps.getD 0 default = p0 at *
      have HF := hid hf9
      have HFIT : Hid (Fit (g + 1) (.mk p kids)) := hf
      clear ht hts rk rv rc hf hfk ih hkid0 hf9 hsk
      go_enter Tryd.func120, Tryd.ntmps120
      go_wp2_with (first | (go_at_call 121; refine HL.mono ?_; rintro e w2 ⟨rfl, hw2⟩; subst w2) | (go_at_call 120; refine HI0.mono ?_; rintro e w1 ⟨d, hd, rfl, kb1⟩; have hk1 := (kb1.cell (p := ⟨b, 2, none⟩) hb).trans hc; have hl1 := kb1.size) | fail)
      have HD := hid hd.ge
      have HD0 := hid hd
      clear hd HL HI0 hcell
      go_loopw [20, 5] (fun i x wr => ∃ k : Nat, k ≤ kids.length ∧ i = .int .i64 k ∧ (∀ j, j < k → DeepIs (kids.getD j default) d ∧ 0 ≤ d ∧ 2 ≤ (kids.getD j default).prs.length) ∧ Below w.heap.size w wr) (fun i _ _ => kids.length - (intOf i).toNat)
      case atStart => exact ⟨0, Nat.zero_le _, rfl, fun j hj => by omega, kb1⟩
      case round =>
        obtain ⟨k, hk2, rfl, hall, kb⟩ := hrel
        have HA := hid hall
        clear hall
        have kl := kb.size
        by_cases hlt : k < kids.length
        · obtain ⟨b3, off3, c3, hce, hb3, hcell⟩ := (HR.out.below kb).cell1 (i := k) hlt
          cases hce
          obtain ⟨Fk, hkid⟩ := HTS.out.get k hlt
          have hkid2 := hkid.below kb
          have hmem : kids.getD k default ∈ kids := by simp [List.getD, hlt]
          have HIk := IH.out (kids.getD k default) hmem wr _ Fk hkid2
          obtain ⟨bk, ak, ck, hkp, hbk, hck⟩ := prsLen hkid2
          rw [hkp] at hcell HIk
          have HM := hid hmem
          clear hkid hkid2 hkp hmem
          have hki : (k : Int) < (kids.length : Int) := by omega
          have hk0 : (0 : Int) ≤ (k : Int) := by omega
          obtain ⟨K, hK⟩ : ∃ K, kids.getD k default = K := ⟨_, rfl⟩
          rw [hK] at HIk hck HM
          have HKK := hid hK
          clear hK
          rcases HD.out with ⟨hd1, hodd⟩ | ⟨n, hd1, hn1, hn2, hev⟩
          · subst hd1
            have HO : Hid (DeepIs (.mk p kids) (-1)) := by
              refine DeepIs.odd _ fun e he => ?_
              have h1 := he.pos
              obtain ⟨e', rfl⟩ : ∃ e', e = e' + 1 := ⟨e - 1, by omega⟩
              match e', he with
              | 0, he => exact hne (by simpa [Even, Nd.kids] using he)
              | e' + 1, he => exact hodd _ (he.2 (kids.getD 0 default) (by simp [Nd.kids, List.getD, hpos])).1
            clear HIk hodd
            go_wp2_with fail
            go_ret
            exact ⟨_, HO.out, rfl, kb⟩
          · subst hd1
            have hnn : ¬ ((n : Int) < 0) := by omega
            have HEV := hid hev
            clear hev
            go_wp2_with fail
            refine HIk.mono ?_
            rintro e w3 ⟨d', hd', rfl, kb3⟩
            have hl3 := kb3.size
            have hck3 := (kb3.cell (p := ⟨bk, 0, none⟩) hbk).trans hck
            have kw3 : Below w.heap.size w w3 := kb.trans (kb3.mono kl)
            have hbk3 : bk < w3.heap.size := by omega
            have HOdd : Hid ((∀ e, Even e (.mk p kids) → Even n K ∧ 2 ≤ K.prs.length)) := by
              intro e he
              have h1 := he.pos
              obtain ⟨e', rfl⟩ : ∃ e', e = e' + 1 := ⟨e - 1, by omega⟩
              match e', he with
              | 0, he => exact absurd (by simpa [Even, Nd.kids] using he) hne
              | e' + 1, he =>
                have h0 := he.2 (kids.getD 0 default) (by simp [Nd.kids, List.getD, hpos])
                have h2 := he.2 K HM.out
                have := HEV.out.one h0.1
                rw [this]; exact h2
            rcases hd'.ge with ⟨hd2, hodd2⟩ | ⟨m, hd2, hm1, hm2, hem⟩
            · subst hd2
              have HO : Hid (DeepIs (.mk p kids) (-1)) := DeepIs.odd _ fun e he => hodd2 _ (HOdd.out e he).1
              have hmn : ((-1 : Int) == (n : Int)) = false := beq_false_of_ne (by omega)
              have hmn2 : ¬ ((-1 : Int) = (n : Int)) := by omega
              clear hd' hodd2 HIk kb3
              go_wp2_with fail
              go_ret
              exact ⟨_, HO.out, rfl, kw3⟩
            · subst hd2
              by_cases hmn : m = n
              · subst hmn
                by_cases h2 : 2 ≤ K.prs.length
                · have HA2 : Hid (∀ j, j < k + 1 → DeepIs (kids.getD j default) m ∧ (0 : Int) ≤ m ∧ 2 ≤ (kids.getD j default).prs.length) := by
                    intro j hj
                    by_cases e : j = k
                    · rw [e, HKK.out]; exact ⟨hd', by omega, h2⟩
                    · exact HA.out j (by omega)
                  have h2i : ¬ ((K.prs.length : Int) < 2) := by omega
                  clear hd' hem HIk kb3 h2
                  go_wp2_with fail
                  refine ⟨?_, by simp [intOf]; omega⟩
                  first | exact ⟨k + 1, by omega, by go_num, HA2.out, kw3⟩ | ((repeat apply Exists.intro); exact ⟨⟨k + 1, by omega, by go_num, HA2.out, kw3⟩, rfl⟩)
                · have h2i : (K.prs.length : Int) < 2 := by omega
                  have HO : Hid (DeepIs (.mk p kids) (-1)) := DeepIs.odd _ fun e he => h2 (HOdd.out e he).2
                  clear hd' hem HIk kb3 h2
                  go_wp2_with fail
                  go_ret
                  exact ⟨_, HO.out, rfl, kw3⟩
              · have HO : Hid (DeepIs (.mk p kids) (-1)) := DeepIs.odd _ fun e he => hmn ((HOdd.out e he).1.one hem).symm
                have hmn1 : ((m : Int) == (n : Int)) = false := beq_false_of_ne (by omega)
                have hmn2 : ¬ ((m : Int) = (n : Int)) := by omega
                clear hd' hem HIk kb3
                go_wp2_with fail
                go_ret
                exact ⟨_, HO.out, rfl, kw3⟩
        · have hke : k = kids.length := by omega
          subst hke
          have hki : ¬ ((kids.length : Int) < (kids.length : Int)) := by omega
          have hd0 := (HA.out 0 hpos).2.1
          rcases HD.out with ⟨hd1, hodd⟩ | ⟨n, hd1, hn1, hn2, hev⟩
          · omega
          · subst hd1
            have hall : ∀ j, j < kids.length → Even n (kids.getD j default) ∧ 2 ≤ (kids.getD j default).prs.length := by
              intro j hj
              obtain ⟨h1, _, h3⟩ := HA.out j hj
              rcases h1.ge with ⟨h4, _⟩ | ⟨m, h4, _, _, h5⟩
              · omega
              · have : m = n := by omega
                subst this
                exact ⟨h5, h3⟩
            have hev2 : Even (n + 1) (.mk p kids) := (Even.up hn1).2 ⟨hne, fun k hk => by
              obtain ⟨j, hj, rfl⟩ := List.getElem_of_mem hk
              have hj' : j < kids.length := hj
              have := hall j hj'
              simpa [List.getD, hj', Nd.kids] using this⟩
            have hdd := HFIT.out.even hev2
            have HO : Hid (DeepIs (.mk p kids) ((n : Int) + 1)) := by
              have := DeepIs.even (.mk p kids) (n + 1) hev2 (by have := HF.out; omega)
              show DeepIs _ _
              simpa using this
            clear hall hev2 hev hdd
            go_wp2_with fail
            go_ret
            exact ⟨_, HO.out, rfl, kb⟩
end Go.Proofs.YtgjcegmjhkehnaaDoor
