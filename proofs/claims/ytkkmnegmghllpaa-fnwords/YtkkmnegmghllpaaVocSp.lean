/- Contract of the model's VocabularyOf. Condition: the documents lie in memory. -/
import Derived.Test.YtkkmnegmghllpaaVocP
namespace Go.Proofs.Ytkkmnegmghllpaa
open Go.ChangeShapes Go.WideShapes Go.ChangeAt Go.RowKit Go.Deep Go.Maps
set_option linter.unusedVariables false
attribute [local go_sem ↓] Go.wp_at_zero Go.wp_at_succ

/-- What VocabularyOf answers: V. -/
structure VoIs (ds V : List ByteArray) : Prop where
  len : V.length ≤ 240
  no : docsB ds = false → V = []
  yes : docsB ds = true → ∀ B, VocIs ds ds.length B → B.length ≤ 240 → B = V
theorem voIs_ex (ds : List ByteArray) : ∃ V : List ByteArray, VoIs ds V := by
  by_cases h : docsB ds = true ∧ ∃ A, VocIs ds ds.length A ∧ A.length ≤ 240
  · obtain ⟨h1, A, hA, hA2⟩ := h
    exact ⟨A, hA2, fun h => by simp [h1] at h, fun _ B hB _ => hB.uniq hA⟩
  · exact ⟨[], by simp, fun _ => rfl, fun h1 B hB hB2 => (h ⟨h1, B, hB, hB2⟩).elim⟩
set_option maxHeartbeats 6400000 in
set_option maxRecDepth 100000 in
theorem specVoc (x : Value) (ds V : List ByteArray) (hVI : VoIs ds V) (w : World) (hx : StrsAt w x ds) (hl : ds.length ≤ 1048576) (hz : ∀ s ∈ ds, s.size ≤ 1048576) :
    Calls Try.prog 19 #[x] w fun e w' => (∃ v, e = .returned (.tuple #[v, .bool (docsB ds)]) ∧ OwnS w' w.heap.size 9 v V.length (strsV V)) ∧ Below w.heap.size w w' := by
  have HX := hid hx
  have HZ := hid hz
  have HDC := fun W h => specDocs x ds W h hl hz
  obtain ⟨xa, xc, hxe⟩ := hx.slice
  subst hxe
  clear hx hz
  by_cases hd : docsB ds = true
  · have HVO := hid (hVI.yes hd)
    obtain ⟨hd12, hdd⟩ := docs_yes hd
    have HDD := hid hdd
    have HD := hid hd
    rw [hd] at HDC
    rw [hd]
    clear hd hdd
    go_enter Try.func19, Try.ntmps19
    go_wp2_with fail
    refine (HDC _ HX.out).mono ?_
    rintro e w1 ⟨rfl, hb1⟩
    have kl1 := hb1.size
    go_wp2_with fail
    go_loopw [4, 14] (fun o i wr => ∃ (k : Nat) (A : List ByteArray), k ≤ ds.length ∧ i = .int .i64 (k : Int) ∧ A.length ≤ 20 * k ∧ Hid (VocIs ds k A) ∧ Hid (OwnS wr w.heap.size 9 o A.length (strsV A)) ∧ Below w.heap.size w wr) (fun _ i _ => ds.length - (intOf i).toNat)
    case atStart => exact ⟨0, [], Nat.zero_le _, rfl, by simp, ⟨List.Pairwise.nil, fun s => by simp⟩, OwnS.nil _ _ _, hb1⟩
    case round =>
      obtain ⟨k, A, hk, rfl, hA, hV, hO, kb⟩ := hrel
      have kl := kb.size
      obtain ⟨oa, oc, hoe⟩ := (rows_of_ownS hO.out).slice
      subst hoe
      by_cases hlt : k < ds.length
      · obtain ⟨g, off, cap, hve, hgl, hc⟩ := (HX.out.below kb).cellS hlt
        cases hve
        have hki : (k : Int) < (ds.length : Int) := by omega
        have hk0 : (0 : Int) ≤ (k : Int) := by omega
        have HW := fun W => specWords (ds.getD k ByteArray.empty) (HZ.out _ (getD_mem ds k hlt)) W
        obtain ⟨L, hL⟩ : ∃ L, L = docAt ds k := ⟨_, rfl⟩
        have hL2 : wordsL (ds.getD k ByteArray.empty) = L := by rw [hL]; rfl
        have hL20 : L.length ≤ 20 := by rw [← hL2]; exact (doc_yes (HDD.out k hlt)).2
        have HL := hid hL
        rw [hL2] at HW
        clear hL hL2
        generalize ds.getD k ByteArray.empty = txt at *
        go_wp2_with fail
        refine (HW _).mono ?_
        rintro e w2 ⟨v, rfl, how, hb2⟩
        have k2 : Below w.heap.size w w2 := kb.trans (hb2.mono kl)
        have kl2 := k2.size
        have HO2 : Hid (OwnS w2 w.heap.size 9 (.slice oa A.length oc) A.length (strsV A)) := hO.out.below hb2
        have HWS := hid (OwnA.ofStrs how).1.strs
        obtain ⟨va, vc, hve⟩ := (rows_of_ownS how).slice
        subst hve
        clear how hb2 hc hgl HW hO
        go_wp2_with fail
        go_loopw [4, 21] (fun o i wr => ∃ (t : Nat) (B : List ByteArray), t ≤ L.length ∧ i = .int .i64 (t : Int) ∧ B.length ≤ 20 * k + t ∧ Hid (SrtS B ∧ ∀ s, s ∈ B ↔ (∃ d, d < k ∧ s ∈ docAt ds d) ∨ s ∈ L.take t) ∧ Hid (OwnS wr w.heap.size 9 o B.length (strsV B)) ∧ Hid (StrsAt wr (.slice va L.length vc) L) ∧ Below w.heap.size w wr) (fun _ i _ => L.length - (intOf i).toNat)
        case atStart => exact ⟨0, A, Nat.zero_le _, rfl, by omega, ⟨hV.out.1, fun s => by simpa using hV.out.2 s⟩, HO2.out, HWS.out, k2⟩
        case round =>
          obtain ⟨t, B, htl, rfl, hB, hM, hO, hS, kb3⟩ := hrel
          generalize wr = w3 at *
          have kl3 := kb3.size
          by_cases htt : t < L.length
          · obtain ⟨g3, off3, cap3, hve, hgl3, hc3⟩ := hS.out.cellS htt
            cases hve
            have hti : (t : Int) < (L.length : Int) := by omega
            have ht0i : (0 : Int) ≤ (t : Int) := by omega
            have HP := specPut _ B (L.getD t ByteArray.empty) w.heap.size w3 hO.out hM.out.1 (by omega) kl3
            have HTK : Hid (L.take (t + 1) = L.take t ++ [L.getD t ByteArray.empty]) := take_snocS L t htt
            generalize L.getD t ByteArray.empty = tw at *
            clear hO
            go_wp2_with fail
            refine HP.mono ?_
            rintro e w4 ⟨⟨v', C, rfl, hC1, hC2, hC3, hC4⟩, hb4⟩
            have HM4 : Hid (SrtS C ∧ ∀ s, s ∈ C ↔ (∃ d, d < k ∧ s ∈ docAt ds d) ∨ s ∈ L.take (t + 1)) := ⟨hC1, fun s => by
              rw [hC2 s, hM.out.2 s, HTK.out, List.mem_append, List.mem_singleton, or_assoc]⟩
            have HO4 := hid hC4
            have HS4 := hid (hS.out.below hb4)
            have kb4 : Below w.heap.size w w4 := kb3.trans (hb4.mono kl3)
            obtain ⟨ua, uc, hve⟩ := (rows_of_ownS hC4).slice
            subst hve
            clear hC1 hC2 hC4 hb4 HP hc3 hgl3 hM hS
            go_wp2_with fail
            refine ⟨?_, by simp [intOf]; omega⟩
            first | exact ⟨t + 1, C, by omega, by go_num, by omega, HM4, HO4, HS4, kb4⟩ | ((repeat apply Exists.intro); exact ⟨⟨t + 1, C, by omega, by go_num, by omega, HM4, HO4, HS4, kb4⟩, rfl⟩)
          · have hke : t = L.length := by omega
            subst hke
            have hti : ¬ (L.length : Int) < (L.length : Int) := by omega
            have HV4 : Hid (VocIs ds (k + 1) B) := ⟨hM.out.1, fun s => by
              rw [hM.out.2 s, List.take_length, HL.out]
              constructor
              · rintro (⟨d, h1, h2⟩ | h)
                · exact ⟨d, by omega, h2⟩
                · exact ⟨k, by omega, h⟩
              · rintro ⟨d, h1, h2⟩
                by_cases e : d = k
                · subst e; exact .inr h2
                · exact .inl ⟨d, by omega, h2⟩⟩
            clear hM hS
            go_wp2_with fail
            refine ⟨?_, by simp [intOf]; omega⟩
            first | exact ⟨k + 1, B, by omega, by go_num, by omega, HV4, hO, kb3⟩ | ((repeat apply Exists.intro); exact ⟨⟨k + 1, B, by omega, by go_num, by omega, HV4, hO, kb3⟩, rfl⟩)
      · have hke : k = ds.length := by omega
        subst hke
        have hki : ¬ (ds.length : Int) < (ds.length : Int) := by omega
        have HA2 : Hid (A = V) := HVO.out A hV.out (by omega)
        go_wp2_with fail
        go_returns
        exact ⟨⟨_, rfl, by rw [← HA2.out]; exact hO.out⟩, kb⟩
  · rw [Bool.not_eq_true] at hd
    have HB : Hid (V = []) := hVI.no hd
    rw [hd] at HDC
    rw [hd]
    clear hd
    go_enter Try.func19, Try.ntmps19
    go_wp2_with fail
    refine (HDC _ HX.out).mono ?_
    rintro e w1 ⟨rfl, hb1⟩
    go_wp2
    go_returns
    exact ⟨⟨_, rfl, by rw [HB.out]; exact OwnS.nil _ _ _⟩, hb1⟩
end Go.Proofs.Ytkkmnegmghllpaa
