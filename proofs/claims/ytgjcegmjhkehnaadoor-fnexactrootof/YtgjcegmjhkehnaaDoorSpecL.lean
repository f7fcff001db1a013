/- Contracts of what the model reads of its tree: leaf, at, get. Condition: the tree lies in memory. -/
import Derived.Test.YtgjcegmjhkehnaaDoorOwnT
import Derived.BigQuiet
namespace Go.Proofs.YtgjcegmjhkehnaaDoor
open Go.ChangeShapes Go.WideShapes Go.ChangeAt Go.RowKit Go.Deep
set_option linter.unusedVariables false
attribute [local go_sem ↓] Go.wp_at_zero Go.wp_at_succ

theorem leafYes {w : World} {base : Nat} {p : List Pr} {v : Value} {F : List Nat} (h : OwnT w base (.mk p []) v F) :
    Calls Tryd.prog 121 #[v] w fun e w' => e = .returned (.bool true) ∧ w' = w := by
  obtain ⟨b, kv, vv, cv, ps, Fc, rfl, hb, hk, hv, hc, rk, rv, rc, ht⟩ := h.parts
  obtain ⟨a, c, rfl⟩ := rc.slice
  clear h ht rk rv rc
  go_enter Tryd.func121, Tryd.ntmps121
  go_wp2
  go_ret
  exact ⟨rfl, rfl⟩
theorem leafNo {w : World} {base : Nat} {p : List Pr} {kids : List Nd} {v : Value} {F : List Nat} (h : OwnT w base (.mk p kids) v F) (hne : kids ≠ []) :
    Calls Tryd.prog 121 #[v] w fun e w' => e = .returned (.bool false) ∧ w' = w := by
  obtain ⟨b, kv, vv, cv, ps, Fc, rfl, hb, hk, hv, hc, rk, rv, rc, ht⟩ := h.parts
  obtain ⟨a, c, rfl⟩ := rc.slice
  have hpos : 0 < kids.length := List.length_pos_iff.2 hne
  have hz : ((kids.length : Int) == 0) = false := beq_false_of_ne (by omega)
  clear h ht rk rv rc
  go_enter Tryd.func121, Tryd.ntmps121
  go_wp2
  go_ret
  exact ⟨rfl, rfl⟩

theorem bel_drew (w : World) (n : Nat) : Below w.heap.size w (w.drewN n) := ⟨rfl, rfl, rfl, Nat.le_refl _, fun _ _ => rfl⟩
theorem ba_inj {a b : ByteArray} (h : a.toList = b.toList) : a = b := by
  rw [ByteArray.toList_eq, ByteArray.toList_eq] at h
  cases a; cases b; simp at h; rw [h]
/-- How many keys are less. -/
def posN (p : List Pr) (k : ByteArray) : Nat := (p.takeWhile fun q => Go.Op.bytesLess q.1.toList k.toList).length
def hasN (p : List Pr) (k : ByteArray) : Bool := decide (posN p k < p.length ∧ (p.getD (posN p k) default).1 = k)
theorem pos_le (p : List Pr) (k : ByteArray) : posN p k ≤ p.length := by
  unfold posN; exact (List.takeWhile_prefix _).length_le
theorem tw_lt {f : Pr → Bool} : ∀ {p : List Pr} {i : Nat}, i < (p.takeWhile f).length → f (p.getD i default) = true
  | [], i, h => by simp at h
  | q :: p, i, h => by
    by_cases hq : f q = true
    · rw [List.takeWhile_cons_of_pos hq] at h
      cases i with
      | zero => simpa using hq
      | succ i =>
        have := tw_lt (f := f) (p := p) (i := i) (by simpa using h)
        simpa using this
    · rw [List.takeWhile_cons_of_neg hq] at h; simp at h
theorem tw_end {f : Pr → Bool} : ∀ {p : List Pr}, (p.takeWhile f).length < p.length → f (p.getD (p.takeWhile f).length default) = false
  | [], h => by simp at h
  | q :: p, h => by
    by_cases hq : f q = true
    · rw [List.takeWhile_cons_of_pos hq] at h ⊢
      have := tw_end (f := f) (p := p) (by simpa using h)
      simpa using this
    · rw [List.takeWhile_cons_of_neg hq]
      simpa using hq
theorem pos_lt {p : List Pr} {k : ByteArray} {i : Nat} (h : i < posN p k) : Go.Op.bytesLess (p.getD i default).1.toList k.toList = true := tw_lt (f := fun q => Go.Op.bytesLess q.1.toList k.toList) h
theorem pos_end {p : List Pr} {k : ByteArray} (h : posN p k < p.length) : Go.Op.bytesLess (p.getD (posN p k) default).1.toList k.toList = false := tw_end (f := fun q => Go.Op.bytesLess q.1.toList k.toList) h

set_option maxHeartbeats 3200000 in
set_option maxRecDepth 100000 in
theorem specAt {w : World} {base : Nat} {p : List Pr} {kids : List Nd} {v : Value} {F : List Nat} (h : OwnT w base (.mk p kids) v F) (key : ByteArray) (hp : p.length ≤ 5) :
    Calls Tryd.prog 126 #[v, .string key] w fun e w' => e = .returned (.tuple #[.int .i64 (posN p key), .bool (hasN p key)]) ∧ Below w.heap.size w w' := by
  obtain ⟨b, kv, vv, cv, ps, Fc, rfl, hb, hk, hv, hc, rk, rv, rc, ht⟩ := h.parts
  have HK := hid rk
  obtain ⟨a, c, rfl⟩ := rk.slice
  have hple := pos_le p key
  obtain ⟨H, hH⟩ : ∃ H, H = hasN p key := ⟨_, rfl⟩
  obtain ⟨K, hK⟩ : ∃ K, K = posN p key := ⟨_, rfl⟩
  rw [← hH, ← hK]
  have HH := hid hH
  have HKK := hid hK
  rw [← hK] at hple
  clear h ht rk rv rc hH hK
  go_enter Tryd.func126, Tryd.ntmps126
  go_wp2
  go_loopw [6] (fun i wr => ∃ k : Nat, k ≤ K ∧ i = .int .i64 k ∧ wr = w) (fun i _ => p.length - (intOf i).toNat)
  case atStart => exact ⟨0, Nat.zero_le _, rfl, rfl⟩
  case round =>
    obtain ⟨k, hk1, rfl, hwr⟩ := hrel
    subst hwr
    by_cases hlt : k < K
    · obtain ⟨b2, off, c2, he, hb2, hcell⟩ := HK.out.cell1 (i := k) (by omega)
      cases he
      rw [keysV_get p k (by omega)] at hcell
      have hless := pos_lt (HKK.out ▸ hlt)
      generalize (p.getD k default).1 = s at *
      have hki : (k : Int) < (p.length : Int) := by omega
      have hk0 : (0 : Int) ≤ (k : Int) := by omega
      go_wp2
      exact ⟨⟨k + 1, by omega, by go_num, by first | rfl | trivial⟩, by simp [intOf]; omega⟩
    · have hke : k = K := by omega
      subst hke
      by_cases hl2 : k < p.length
      · obtain ⟨b2, off, c2, he, hb2, hcell⟩ := HK.out.cell1 (i := k) hl2
        cases he
        rw [keysV_get p _ hl2] at hcell
        have hless := pos_end (HKK.out ▸ hl2)
        rw [← HKK.out] at hless
        have hH : H = decide ((p.getD k default).1 = key) := by rw [HH.out]; simp [hasN, ← HKK.out, hl2]
        have hki : (k : Int) < (p.length : Int) := by omega
        have hk0 : (0 : Int) ≤ (k : Int) := by omega
        generalize (p.getD k default).1 = s at *
        clear hlt hk1 hple
        by_cases hs : s = key
        · subst hs
          have hH2 : H = true := by rw [hH]; simp
          subst hH2
          clear hH
          go_wp2_with fail
          go_quiet (fail)
          go_wp2
          go_returns
          exact ⟨rfl, bel_drew _ _⟩
        · have hH2 : H = false := by rw [hH]; simp [hs]
          subst hH2
          clear hH
          go_wp2_with fail
          go_quiet (fail)
          go_wp2
          go_returns
          exact ⟨by first | rfl | (simp; exact fun h => hs (ba_inj h)) | (have hbe : (s.toList == key.toList) = false := by (rw [beq_eq_false_iff_ne]; intro h; exact hs (ba_inj h)); simp [hbe]), bel_drew _ _⟩
      · have hH : H = false := by rw [HH.out]; simp [hasN, ← HKK.out, hl2]
        subst hH
        have he : k = p.length := by omega
        subst he
        clear hlt hk1 hple hl2
        go_wp2_with fail
        go_quiet (fail)
        go_wp2
        go_returns
        exact ⟨rfl, bel_drew _ _⟩
end Go.Proofs.YtgjcegmjhkehnaaDoor
