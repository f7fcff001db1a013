/- Marks on lists of scores; lists of lists of scores: sizes, copies, sameness, marks. Condition: they lie in memory. -/
import Derived.Test.YthdodlbhkpoadaaLawsSc
namespace Go.Proofs.Ythdodlbhkpoadaa
open Go.ChangeShapes Go.WideShapes Go.ChangeAt Go.RowKit Go.Joins Go.Deep
set_option linter.unusedVariables false
attribute [local go_sem ↓] Go.wp_at_zero Go.wp_at_succ

/-- Marks from q on. -/
def mkP (q i : Nat) : Sc := (((q + 2 * i : Nat) : Int), ((q + 2 * i + 1 : Nat) : Int))
def mkS (q n : Nat) : List Sc := (List.range n).map (mkP q)
theorem mkS_len (q n : Nat) : (mkS q n).length = n := by simp [mkS]
theorem gd_mkS (q n i : Nat) (h : i < n) : gd (mkS q n) i = mkP q i := by simp [gd, mkS, List.getD, h]
theorem gd_ext {a b : List Sc} (hl : a.length = b.length) (h : ∀ i, i < a.length → gd a i = gd b i) : a = b := by
  apply List.ext_getElem hl
  intro i h1 h2
  have := h i h1
  simpa [gd, List.getD, h1, h2] using this
set_option maxHeartbeats 3200000 in
set_option maxRecDepth 100000 in
theorem markScS (base q : Nat) (v : Value) (l : List Sc) (w : World) (h : OwnH base w v l) (hn : ((q + 2 * l.length : Nat) : Int) < 10000000000000) :
    Calls Try.prog 43 #[v, .int .i64 q] w fun e w' => e = .returned (.int .i64 ((q + 2 * l.length : Nat) : Int)) ∧ OwnH base w' v (mkS q l.length) ∧ Off (hbl v) w w' := by
  by_cases h0 : l.length = 0
  · have hk : ((q + 2 * l.length : Nat) : Int) = (q : Int) := by omega
    have he : mkS q l.length = l := by rw [h0]; exact (List.eq_nil_of_length_eq_zero h0).symm
    rw [hk, he]
    have H := hid h
    obtain ⟨a, c, rfl⟩ := h.slice
    have hli : (l.length : Int) = 0 := by omega
    clear h hn hk he
    go_enter Try.func43, Try.ntmps43
    go_wp2
    go_loopw [1, 5] (fun r i wr => i = .int .i64 0 ∧ r = .int .i64 q ∧ wr = w) (fun _ _ _ => 0)
    case atStart => exact ⟨rfl, rfl, rfl⟩
    case round =>
      obtain ⟨rfl, rfl, hw⟩ := hrel
      subst wr
      go_wp2
      go_ret
      exact ⟨rfl, H.out, Off.refl _ _⟩
  · obtain ⟨g, cap, rfl, hg0, hg1⟩ := h.lies (by omega)
    have H := hid h
    have HNN := hid hn
    have hbb : hbl (.slice (some ⟨g, 0, none⟩) l.length cap) = [g] := by simp [hbl, Value.ownBlock]
    rw [hbb]
    clear h hn hbb
    go_enter Try.func43, Try.ntmps43
    go_wp2
    go_loopw [1, 5] (fun r i wr => ∃ (k Q : Nat) (L : List Sc), k ≤ l.length ∧ Hid (Q = q + 2 * k) ∧ i = .int .i64 k ∧ r = .int .i64 Q ∧ L.length = l.length ∧ Hid (∀ j, j < k → gd L j = mkP q j) ∧ Hid (OwnH base wr (.slice (some ⟨g, 0, none⟩) l.length cap) L) ∧ Hid (Off [g] w wr)) (fun _ i _ => l.length - (intOf i).toNat)
    case atStart => exact ⟨0, q, l, Nat.zero_le _, rfl, rfl, rfl, rfl, fun j hj => by omega, H.out, Off.refl _ _⟩
    case round =>
      obtain ⟨k, Q, L, hk, hQ, rfl, rfl, hLl, HJ, HO, HF⟩ := hrel
      have hki0 : (0 : Int) ≤ (k : Int) := by omega
      by_cases hlt : k < l.length
      · have hki : (k : Int) < (l.length : Int) := by omega
        have hc0 := HO.out.c0 (k := k) (by omega)
        have hc1 := HO.out.c1 (k := k) (by omega)
        have hf0 := HO.out.fz (k * 2)
        have hf1 := HO.out.fz (k * 2 + 1)
        have hgl := HO.out.lt1.2
        have hQw : IntKind.i64.wrap ((Q : Int) + 1) = (Q : Int) + 1 := by have := HNN.out; have := hQ.out; rw [IntKind.wrap_i64]; omega
        have hQw2 : IntKind.i64.wrap ((Q : Int) + 1 + 1) = (Q : Int) + 1 + 1 := by have := HNN.out; have := hQ.out; rw [IntKind.wrap_i64]; omega
        have hkw : IntKind.i64.wrap ((k : Int) + 1) = (k : Int) + 1 := by have := HNN.out; rw [IntKind.wrap_i64]; omega
        have HPN := hid (HO.out.put k (((Q : Nat) : Int), ((Q : Nat) : Int) + 1))
        have HFN := hid (HF.out.trans (putC_off wr g k (((Q : Nat) : Int), ((Q : Nat) : Int) + 1)))
        have HJN : Hid (∀ j, j < k + 1 → gd (L.set k (((Q : Nat) : Int), ((Q : Nat) : Int) + 1)) j = mkP q j) := fun j hj => by
          rw [gd_set _ _ _ _ (by omega)]
          by_cases e : j = k
          · rw [if_pos e, e, hQ.out]; rfl
          · rw [if_neg e]; exact HJ.out j (by omega)
        unfold putC at HPN HFN
        generalize gd L k = vv at *
        clear HO HF
        go_wp2
        exact ⟨⟨k + 1, Q + 2, L.set k (((Q : Nat) : Int), ((Q : Nat) : Int) + 1), by omega, (show Q + 2 = q + 2 * (k + 1) by have := hQ.out; omega), by go_num, by go_num, by simp [hLl], HJN.out, HPN.out, HFN.out⟩, by simp [intOf]; omega⟩
      · have hke : k = l.length := by omega
        subst hke
        have hki : ¬ (l.length : Int) < (l.length : Int) := by omega
        have hLe : L = mkS q l.length := gd_ext (by rw [mkS_len, hLl]) (fun i hi => by rw [gd_mkS _ _ _ (by omega)]; exact HJ.out i (by omega))
        rw [hLe] at HO
        clear hLe
        go_wp2
        go_ret
        exact ⟨by rw [hQ.out]; simp, HO.out, HF.out⟩
set_option maxHeartbeats 3200000 in
set_option maxRecDepth 100000 in
theorem heldScS (q n : Nat) (v : Value) (w : World) (h : ScsAt w v (mkS q n)) (hn : ((q + 2 * n : Nat) : Int) < 10000000000000) :
    Calls Try.prog 44 #[v, .int .i64 q] w fun e w' => e = .returned (.int .i64 ((q + 2 * n : Nat) : Int)) ∧ Below w.heap.size w w' := by
  by_cases h0 : n = 0
  · subst h0
    obtain ⟨a, c, rfl⟩ := h.slice
    have hk : ((q + 2 * 0 : Nat) : Int) = (q : Int) := rfl
    rw [hk]
    have hl0 : (mkS q 0).length = 0 := rfl
    rw [hl0]
    clear h hn hk hl0
    go_enter Try.func44, Try.ntmps44
    go_wp2
    go_loopw [1, 5] (fun r i wr => i = .int .i64 0 ∧ r = .int .i64 q ∧ wr = w) (fun _ _ _ => 0)
    case atStart => exact ⟨rfl, rfl, rfl⟩
    case round =>
      obtain ⟨rfl, rfl, hw⟩ := hrel
      subst wr
      go_wp2
      go_ret
      exact ⟨rfl, Below.refl _ _⟩
  · rcases h with ⟨_, _, _, e⟩ | ⟨b, off, cap, rfl, hb, hcell⟩
    · have := congrArg List.length e; rw [mkS_len] at this; exact absurd this h0
    have HC : Hid (∀ i, i < n → ScAt w b (off + i * 2) (mkP q i)) := fun i hi => by
      have := hcell i (by rw [mkS_len]; exact hi)
      rwa [gd_mkS _ _ _ hi] at this
    rw [mkS_len]
    have HNN := hid hn
    clear hcell hn
    go_enter Try.func44, Try.ntmps44
    go_wp2
    go_loopw [1, 5] (fun r i wr => ∃ (k Q : Nat), k ≤ n ∧ Hid (Q = q + 2 * k) ∧ i = .int .i64 k ∧ r = .int .i64 Q ∧ Below w.heap.size w wr) (fun _ i _ => n - (intOf i).toNat)
    case atStart => exact ⟨0, q, Nat.zero_le _, rfl, rfl, rfl, Below.refl _ _⟩
    case round =>
      obtain ⟨k, Q, hk, hQ, rfl, rfl, kb⟩ := hrel
      have hki0 : (0 : Int) ≤ (k : Int) := by omega
      have kl := kb.size
      by_cases hlt : k < n
      · have hki : (k : Int) < (n : Int) := by omega
        obtain ⟨c0, c1⟩ := (HC.out k hlt).below hb kb
        have e0 : (mkP q k).1 = (Q : Int) := by rw [hQ.out]; rfl
        have e1 : (mkP q k).2 = (Q : Int) + 1 := by rw [hQ.out]; rfl
        rw [e0] at c0
        rw [e1] at c1
        have hbr : b < wr.heap.size := by omega
        have hQw : IntKind.i64.wrap ((Q : Int) + 1) = (Q : Int) + 1 := by have := HNN.out; have := hQ.out; rw [IntKind.wrap_i64]; omega
        have hQw2 : IntKind.i64.wrap ((Q : Int) + 1 + 1) = (Q : Int) + 1 + 1 := by have := HNN.out; have := hQ.out; rw [IntKind.wrap_i64]; omega
        have hkw : IntKind.i64.wrap ((k : Int) + 1) = (k : Int) + 1 := by have := HNN.out; rw [IntKind.wrap_i64]; omega
        have n0 : ((Q : Int) != (Q : Int)) = false := by simp
        have n1 : ((Q : Int) + 1 != (Q : Int) + 1) = false := by simp
        clear e0 e1
        go_wp2
        exact ⟨⟨k + 1, Q + 2, by omega, (show Q + 2 = q + 2 * (k + 1) by have := hQ.out; omega), by go_num, by go_num, kb⟩, by simp [intOf]; omega⟩
      · have hke : k = n := by omega
        subst hke
        have hki : ¬ (k : Int) < (k : Int) := by omega
        go_wp2
        go_ret
        exact ⟨by rw [hQ.out]; simp, kb⟩
end Go.Proofs.Ythdodlbhkpoadaa
