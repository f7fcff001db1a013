/- The model's way of putting a word to its place. Condition: the list is no longer than 1000. -/
import Derived.Test.YtkkmnegmghllpaaVoc
namespace Go.Proofs.Ytkkmnegmghllpaa
open Go.ChangeShapes Go.WideShapes Go.ChangeAt Go.RowKit Go.Deep Go.Maps
set_option linter.unusedVariables false
attribute [local go_sem ↓] Go.wp_at_zero Go.wp_at_succ

theorem rows_take {w : World} {a : Option Addr} {n c : Nat} {xs : List Value} (h : RowsAt w 1 (.slice a n c) n xs) {k : Nat} (hk : k ≤ n) : RowsAt w 1 (.slice a k c) k (xs.take k) := by
  obtain ⟨h1, ao, c', he, h3, h4, h5⟩ := h
  cases he
  have hx : (xs.take k).length = k * 1 := by rw [List.length_take, h1, Nat.mul_one, Nat.mul_one]; exact Nat.min_eq_left hk
  refine ⟨hx, a, c, rfl, Nat.le_trans hk h3, fun h => ⟨by have := (h4 h).1; omega, (h4 h).2⟩, ?_⟩
  rcases h5 with h5 | ⟨b, off, rfl, hl, hc⟩
  · exact .inl (by omega)
  · refine .inr ⟨b, off, rfl, hl, fun j u hj => hc j u ?_⟩
    rw [List.getElem?_take] at hj
    split at hj
    · exact hj
    · simp at hj
theorem rows_drop {w : World} {b off n c : Nat} {xs : List Value} (h : RowsAt w 1 (.slice (some ⟨b, off, none⟩) n c) n xs) {k : Nat} (hk : k ≤ n) (c' : Nat) (hc' : n - k ≤ c') : RowsAt w 1 (.slice (some ⟨b, off + k, none⟩) (n - k) c') (n - k) (xs.drop k) := by
  obtain ⟨h1, ao, c2, he, h3, h4, h5⟩ := h
  cases he
  have hx : (xs.drop k).length = (n - k) * 1 := by rw [List.length_drop, h1, Nat.mul_one, Nat.mul_one]
  refine ⟨hx, _, c', rfl, hc', by simp, ?_⟩
  rcases h5 with h5 | ⟨b', off', he, hl, hc⟩
  · exact .inl (by omega)
  · simp only [Option.some.injEq, Addr.mk.injEq, and_true] at he
    obtain ⟨rfl, rfl⟩ := he
    refine .inr ⟨b, off + k, rfl, hl, fun j u hj => ?_⟩
    rw [List.getElem?_drop] at hj
    rw [Nat.add_assoc]
    exact hc _ u hj
theorem strsV_take (A : List ByteArray) (k : Nat) : strsV (A.take k) = (strsV A).take k := by simp [strsV, List.map_take]
theorem strsV_drop (A : List ByteArray) (k : Nat) : strsV (A.drop k) = (strsV A).drop k := by simp [strsV, List.map_drop]
theorem strsV_one (A : List ByteArray) : ∀ u ∈ strsV A, u.oneCell' = true := by
  intro u hu
  unfold strsV at hu
  obtain ⟨s, _, rfl⟩ := List.mem_map.1 hu
  rfl
theorem infoSt9 : (Try.prog.info? 9).map (fun i => (i.zero, i.size, i.bytes)) = some (some (.string ByteArray.empty), 1, 16) := by kernel_rfl
set_option maxHeartbeats 6400000 in
set_option maxRecDepth 100000 in
theorem specIns0 (a : Option Addr) (A : List ByteArray) (c : Nat) (s : ByteArray) (w : World) (h : RowsAt w 1 (.slice a A.length c) A.length (strsV A)) (hl : A.length ≤ 1000) : Calls Try.prog 85 #[.slice a A.length c, .int .i64 ((0 : Nat) : Int), .string s] w fun e w' => (∃ v, e = .returned v ∧ OwnS w' w.heap.size 9 v (A.take (0 : Nat) ++ [s] ++ A.drop (0 : Nat)).length (strsV (A.take (0 : Nat) ++ [s] ++ A.drop (0 : Nat)))) ∧ Below w.heap.size w w' := by
  obtain ⟨i0, hi, hzz⟩ := Option.map_eq_some_iff.1 infoSt9
  simp only [Prod.mk.injEq] at hzz
  obtain ⟨hz0, hz1, hz2⟩ := hzz
  have HT : Hid (RowsAt w 1 (.slice a 0 c) (0 : Nat) (strsV (A.take (0 : Nat)))) := by
    show RowsAt _ _ _ _ _
    rw [strsV_take]; exact rows_take h (by omega)
  have HD : Hid (RowsAt w 1 (.slice a A.length c) A.length (strsV (A.drop (0 : Nat)))) := by
    show RowsAt _ _ _ _ _
    rw [List.drop_zero]; exact h
  have hcap : A.length ≤ c := by
    obtain ⟨_, ao, c', h1, h2, _⟩ := h
    cases h1; exact h2
  have HR : Hid (strsV (A.take (0 : Nat)) ++ [.string s] ++ strsV (A.drop (0 : Nat)) = strsV (A.take (0 : Nat) ++ [s] ++ A.drop (0 : Nat)) ∧ (A.take (0 : Nat)).length = (0 : Nat) ∧ (A.drop (0 : Nat)).length = A.length ∧ (A.take (0 : Nat) ++ [s] ++ A.drop (0 : Nat)).length = A.length + 1) := ⟨by simp [strsV], by simp <;> omega, by simp <;> omega, by simp <;> omega⟩
  have H1A := hid (strsV_one (A.take (0 : Nat)))
  have H1D := hid (strsV_one (A.drop (0 : Nat)))
  have hk3 : (A.length : Int) ≤ (c : Int) := by omega
  clear h
  have n1 := hid (fun q : Nat => (Nat.zero_add q))
  go_enter Try.func85, Try.ntmps85
  go_wp2_with (first | (at_builtin; refine wplS rfl _ _ 23 rfl w.heap.size 9 i0 (.string ByteArray.empty) 16 Try.underlying23 hi hz0 hz1 hz2 rfl _ 0 [] rfl (.inr ⟨rfl, rfl, _, rfl⟩) _ (0 : Nat) (strsV (A.take (0 : Nat))) rfl (HT.out.below ((Below.refl _ _).alloc (Nat.le_refl _) _)) H1A.out ?c2 ?c3 ?c4 ?_) | fail)
  case c2 => unfold maxLen; omega
  case c3 => omega
  case c4 => first | omega | (simp; done) | (simp; omega)
  intro x1 w1 ho1 hg1 he1
  have ho1 : OwnS w1 w.heap.size 9 x1 (0 : Nat) (strsV (A.take (0 : Nat))) := ho1
  have k1 : Below w.heap.size w w1 := ((Below.refl _ _).alloc (Nat.le_refl _) _).trans (hg1.below (by simp) (by simp [obl]))
  have HO1 := hid ho1
  obtain ⟨va1, vc1, hve⟩ := (rows_of_ownS ho1).slice
  subst hve
  have how := ho1
  have kl1 := k1.size
  clear hg1 he1 ho1
  go_wp2_with (first | (at_builtin; refine wplS rfl _ _ 23 rfl w.heap.size 9 i0 (.string ByteArray.empty) 16 Try.underlying23 hi hz0 hz1 hz2 rfl _ _ _ rfl (how.alloc _) _ 1 [.string s] rfl (news1 _ _ _) ?c1 ?c2 ?c3 ?c4 ?_) | fail)
  case c1 => first | rfl | (intro u hu; simp at hu; subst hu; rfl)
  case c2 => unfold maxLen; omega
  case c3 => omega
  case c4 => first | omega | (simp; done) | (simp; omega)
  intro x2 w2 ho2 hg2 he2
  have k2 : Below w.heap.size w w2 := (k1.alloc kl1 _).trans (below_own (how.alloc _) (Nat.le_refl _) hg2 (by simp; omega))
  obtain ⟨va2, vc2, hve⟩ := (rows_of_ownS ho2).slice
  subst hve
  have kl2 := k2.size
  have hrd := HD.out.below k2
  clear hg2 he2 how
  go_wp2_with (first | (at_builtin; refine wplS rfl _ _ 23 rfl w.heap.size 9 i0 (.string ByteArray.empty) 16 Try.underlying23 hi hz0 hz1 hz2 rfl _ _ _ rfl ho2 _ (A.length) (strsV (A.drop (0 : Nat))) rfl hrd H1D.out ?c2 ?c3 ?c4 ?_) | fail)
  case c2 => unfold maxLen; omega
  case c3 => omega
  case c4 => first | omega | (simp; done) | (simp; omega)
  intro x3 w3 ho3 hg3 he3
  have k3 : Below w.heap.size w w3 := k2.trans (below_own ho2 (Nat.le_refl _) hg3 (by first | omega | (simp; done) | (simp; omega)))
  obtain ⟨va3, vc3, hve⟩ := (rows_of_ownS ho3).slice
  subst hve
  have HF := hid ho3
  clear hg3 he3 ho3 ho2 hrd
  go_wp2
  go_returns
  refine ⟨⟨.slice va3 ((0 : Nat) + 1 + (A.length)) vc3, rfl, ?_⟩, k3⟩
  have h9 : OwnS w3 w.heap.size 9 (.slice va3 ((0 : Nat) + 1 + (A.length)) vc3) ((0 : Nat) + 1 + (A.length)) (strsV (A.take (0 : Nat)) ++ [.string s] ++ strsV (A.drop (0 : Nat))) := by first | exact HF.out | simpa using HF.out
  rw [HR.out.1] at h9
  have e : (A.take (0 : Nat) ++ [s] ++ A.drop (0 : Nat)).length = (0 : Nat) + 1 + (A.length) := by rw [HR.out.2.2.2]; omega
  rw [e]
  exact h9
set_option maxHeartbeats 6400000 in
set_option maxRecDepth 100000 in
theorem specIns1 (b off : Nat) (A : List ByteArray) (k : Nat) (s : ByteArray) (w : World) (h : RowsAt w 1 (.slice (some ⟨b, off, none⟩) A.length (k + 1)) A.length (strsV A)) (hk : k + 1 ≤ A.length) (hl : A.length ≤ 1000) : Calls Try.prog 85 #[.slice (some ⟨b, off, none⟩) A.length (k + 1), .int .i64 ((k + 1 : Nat) : Int), .string s] w fun e w' => (∃ v, e = .returned v ∧ OwnS w' w.heap.size 9 v (A.take (k + 1 : Nat) ++ [s] ++ A.drop (k + 1 : Nat)).length (strsV (A.take (k + 1 : Nat) ++ [s] ++ A.drop (k + 1 : Nat)))) ∧ Below w.heap.size w w' := by
  obtain ⟨i0, hi, hzz⟩ := Option.map_eq_some_iff.1 infoSt9
  simp only [Prod.mk.injEq] at hzz
  obtain ⟨hz0, hz1, hz2⟩ := hzz
  have HT : Hid (RowsAt w 1 (.slice (some ⟨b, off, none⟩) (k + 1) (k + 1)) (k + 1 : Nat) (strsV (A.take (k + 1 : Nat)))) := by
    show RowsAt _ _ _ _ _
    rw [strsV_take]; exact rows_take h (by omega)
  have HD : Hid (RowsAt w 1 (.slice (some ⟨b, off, none⟩) 0 0) 0 (strsV (A.drop (k + 1 : Nat)))) := by
    show RowsAt _ _ _ _ _
    have he : A.length = k + 1 := by have := h.2; obtain ⟨ao, c', h1, h2, _⟩ := this; cases h1; omega
    rw [List.drop_eq_nil_of_le (by omega)]
    exact ⟨rfl, _, 0, rfl, Nat.le_refl _, by simp, .inl rfl⟩
  have hcap : A.length ≤ k + 1 := by
    obtain ⟨_, ao, c', h1, h2, _⟩ := h
    cases h1; exact h2
  have HR : Hid (strsV (A.take (k + 1 : Nat)) ++ [.string s] ++ strsV (A.drop (k + 1 : Nat)) = strsV (A.take (k + 1 : Nat) ++ [s] ++ A.drop (k + 1 : Nat)) ∧ (A.take (k + 1 : Nat)).length = (k + 1 : Nat) ∧ (A.drop (k + 1 : Nat)).length = 0 ∧ (A.take (k + 1 : Nat) ++ [s] ++ A.drop (k + 1 : Nat)).length = A.length + 1) := ⟨by simp [strsV], by simp <;> omega, by simp <;> omega, by simp <;> omega⟩
  have H1A := hid (strsV_one (A.take (k + 1 : Nat)))
  have H1D := hid (strsV_one (A.drop (k + 1 : Nat)))
  have hA : A.length = k + 1 := by omega
  rw [hA]
  have q0 : (0 : Int) ≤ ((k + 1 : Nat) : Int) := by omega
  clear h
  have n1 := hid (fun q : Nat => (Nat.zero_add q))
  go_enter Try.func85, Try.ntmps85
  go_wp2_with (first | (at_builtin; refine wplS rfl _ _ 23 rfl w.heap.size 9 i0 (.string ByteArray.empty) 16 Try.underlying23 hi hz0 hz1 hz2 rfl _ 0 [] rfl (.inr ⟨rfl, rfl, _, rfl⟩) _ (k + 1 : Nat) (strsV (A.take (k + 1 : Nat))) rfl (HT.out.below ((Below.refl _ _).alloc (Nat.le_refl _) _)) H1A.out ?c2 ?c3 ?c4 ?_) | fail)
  case c2 => unfold maxLen; omega
  case c3 => omega
  case c4 => first | omega | (simp; done) | (simp; omega)
  intro x1 w1 ho1 hg1 he1
  have ho1 : OwnS w1 w.heap.size 9 x1 (k + 1 : Nat) (strsV (A.take (k + 1 : Nat))) := ho1
  have k1 : Below w.heap.size w w1 := ((Below.refl _ _).alloc (Nat.le_refl _) _).trans (hg1.below (by simp) (by simp [obl]))
  have HO1 := hid ho1
  obtain ⟨va1, vc1, hve⟩ := (rows_of_ownS ho1).slice
  subst hve
  have how := ho1
  have kl1 := k1.size
  clear hg1 he1 ho1
  go_wp2_with (first | (at_builtin; refine wplS rfl _ _ 23 rfl w.heap.size 9 i0 (.string ByteArray.empty) 16 Try.underlying23 hi hz0 hz1 hz2 rfl _ _ _ rfl (how.alloc _) _ 1 [.string s] rfl (news1 _ _ _) ?c1 ?c2 ?c3 ?c4 ?_) | fail)
  case c1 => first | rfl | (intro u hu; simp at hu; subst hu; rfl)
  case c2 => unfold maxLen; omega
  case c3 => omega
  case c4 => first | omega | (simp; done) | (simp; omega)
  intro x2 w2 ho2 hg2 he2
  have k2 : Below w.heap.size w w2 := (k1.alloc kl1 _).trans (below_own (how.alloc _) (Nat.le_refl _) hg2 (by simp; omega))
  obtain ⟨va2, vc2, hve⟩ := (rows_of_ownS ho2).slice
  subst hve
  have kl2 := k2.size
  have hrd := HD.out.below k2
  clear hg2 he2 how
  go_wp2_with (first | (at_builtin; refine wplS rfl _ _ 23 rfl w.heap.size 9 i0 (.string ByteArray.empty) 16 Try.underlying23 hi hz0 hz1 hz2 rfl _ _ _ rfl ho2 _ (0) (strsV (A.drop (k + 1 : Nat))) rfl hrd H1D.out ?c2 ?c3 ?c4 ?_) | fail)
  case c2 => unfold maxLen; omega
  case c3 => omega
  case c4 => first | omega | (simp; done) | (simp; omega)
  intro x3 w3 ho3 hg3 he3
  have k3 : Below w.heap.size w w3 := k2.trans (below_own ho2 (Nat.le_refl _) hg3 (by first | omega | (simp; done) | (simp; omega)))
  obtain ⟨va3, vc3, hve⟩ := (rows_of_ownS ho3).slice
  subst hve
  have HF := hid ho3
  clear hg3 he3 ho3 ho2 hrd
  go_wp2
  go_returns
  refine ⟨⟨.slice va3 ((k + 1 : Nat) + 1 + (0)) vc3, rfl, ?_⟩, k3⟩
  have h9 : OwnS w3 w.heap.size 9 (.slice va3 ((k + 1 : Nat) + 1 + (0)) vc3) ((k + 1 : Nat) + 1 + (0)) (strsV (A.take (k + 1 : Nat)) ++ [.string s] ++ strsV (A.drop (k + 1 : Nat))) := by first | exact HF.out | simpa using HF.out
  rw [HR.out.1] at h9
  have e : (A.take (k + 1 : Nat) ++ [s] ++ A.drop (k + 1 : Nat)).length = (k + 1 : Nat) + 1 + (0) := by rw [HR.out.2.2.2]; omega
  rw [e]
  exact h9
set_option maxHeartbeats 6400000 in
set_option maxRecDepth 100000 in
theorem specIns2 (b off : Nat) (A : List ByteArray) (k c : Nat) (s : ByteArray) (w : World) (h : RowsAt w 1 (.slice (some ⟨b, off, none⟩) A.length (k + 1 + (c + 1))) A.length (strsV A)) (hk : k + 1 ≤ A.length) (hl : A.length ≤ 1000) : Calls Try.prog 85 #[.slice (some ⟨b, off, none⟩) A.length (k + 1 + (c + 1)), .int .i64 ((k + 1 : Nat) : Int), .string s] w fun e w' => (∃ v, e = .returned v ∧ OwnS w' w.heap.size 9 v (A.take (k + 1 : Nat) ++ [s] ++ A.drop (k + 1 : Nat)).length (strsV (A.take (k + 1 : Nat) ++ [s] ++ A.drop (k + 1 : Nat)))) ∧ Below w.heap.size w w' := by
  obtain ⟨i0, hi, hzz⟩ := Option.map_eq_some_iff.1 infoSt9
  simp only [Prod.mk.injEq] at hzz
  obtain ⟨hz0, hz1, hz2⟩ := hzz
  have HT : Hid (RowsAt w 1 (.slice (some ⟨b, off, none⟩) (k + 1) (k + 1 + (c + 1))) (k + 1 : Nat) (strsV (A.take (k + 1 : Nat)))) := by
    show RowsAt _ _ _ _ _
    rw [strsV_take]; exact rows_take h (by omega)
  have HD : Hid (RowsAt w 1 (.slice (some ⟨b, off + (k + 1), none⟩) (A.length - (k + 1)) (c + 1)) (A.length - (k + 1)) (strsV (A.drop (k + 1 : Nat)))) := by
    show RowsAt _ _ _ _ _
    rw [strsV_drop]; exact rows_drop h (by omega) (c + 1) (by obtain ⟨_, ao, c', h1, h2, _⟩ := h; cases h1; omega)
  have hcap : A.length ≤ k + 1 + (c + 1) := by
    obtain ⟨_, ao, c', h1, h2, _⟩ := h
    cases h1; exact h2
  have HR : Hid (strsV (A.take (k + 1 : Nat)) ++ [.string s] ++ strsV (A.drop (k + 1 : Nat)) = strsV (A.take (k + 1 : Nat) ++ [s] ++ A.drop (k + 1 : Nat)) ∧ (A.take (k + 1 : Nat)).length = (k + 1 : Nat) ∧ (A.drop (k + 1 : Nat)).length = (A.length - (k + 1)) ∧ (A.take (k + 1 : Nat) ++ [s] ++ A.drop (k + 1 : Nat)).length = A.length + 1) := ⟨by simp [strsV], by simp <;> omega, by simp <;> omega, by simp <;> omega⟩
  have H1A := hid (strsV_one (A.take (k + 1 : Nat)))
  have H1D := hid (strsV_one (A.drop (k + 1 : Nat)))
  have q0 : (0 : Int) ≤ ((k + 1 : Nat) : Int) := by omega
  have q1 : ((k + 1 : Nat) : Int) ≤ (A.length : Int) := by omega
  have q2 : (A.length : Int) ≤ ((k + 1 + (c + 1) : Nat) : Int) := by omega
  have q3 : ((k + 1 : Nat) : Int) ≤ ((k + 1 + (c + 1) : Nat) : Int) := by omega
  clear h
  have n1 := hid (fun q : Nat => (Nat.zero_add q))
  go_enter Try.func85, Try.ntmps85
  go_wp2_with (first | (at_builtin; refine wplS rfl _ _ 23 rfl w.heap.size 9 i0 (.string ByteArray.empty) 16 Try.underlying23 hi hz0 hz1 hz2 rfl _ 0 [] rfl (.inr ⟨rfl, rfl, _, rfl⟩) _ (k + 1 : Nat) (strsV (A.take (k + 1 : Nat))) rfl (HT.out.below ((Below.refl _ _).alloc (Nat.le_refl _) _)) H1A.out ?c2 ?c3 ?c4 ?_) | fail)
  case c2 => unfold maxLen; omega
  case c3 => omega
  case c4 => first | omega | (simp; done) | (simp; omega)
  intro x1 w1 ho1 hg1 he1
  have ho1 : OwnS w1 w.heap.size 9 x1 (k + 1 : Nat) (strsV (A.take (k + 1 : Nat))) := ho1
  have k1 : Below w.heap.size w w1 := ((Below.refl _ _).alloc (Nat.le_refl _) _).trans (hg1.below (by simp) (by simp [obl]))
  have HO1 := hid ho1
  obtain ⟨va1, vc1, hve⟩ := (rows_of_ownS ho1).slice
  subst hve
  have how := ho1
  have kl1 := k1.size
  clear hg1 he1 ho1
  go_wp2_with (first | (at_builtin; refine wplS rfl _ _ 23 rfl w.heap.size 9 i0 (.string ByteArray.empty) 16 Try.underlying23 hi hz0 hz1 hz2 rfl _ _ _ rfl (how.alloc _) _ 1 [.string s] rfl (news1 _ _ _) ?c1 ?c2 ?c3 ?c4 ?_) | fail)
  case c1 => first | rfl | (intro u hu; simp at hu; subst hu; rfl)
  case c2 => unfold maxLen; omega
  case c3 => omega
  case c4 => first | omega | (simp; done) | (simp; omega)
  intro x2 w2 ho2 hg2 he2
  have k2 : Below w.heap.size w w2 := (k1.alloc kl1 _).trans (below_own (how.alloc _) (Nat.le_refl _) hg2 (by simp; omega))
  obtain ⟨va2, vc2, hve⟩ := (rows_of_ownS ho2).slice
  subst hve
  have kl2 := k2.size
  have hrd := HD.out.below k2
  clear hg2 he2 how
  go_wp2_with (first | (at_builtin; refine wplS rfl _ _ 23 rfl w.heap.size 9 i0 (.string ByteArray.empty) 16 Try.underlying23 hi hz0 hz1 hz2 rfl _ _ _ rfl ho2 _ ((A.length - (k + 1))) (strsV (A.drop (k + 1 : Nat))) rfl hrd H1D.out ?c2 ?c3 ?c4 ?_) | fail)
  case c2 => unfold maxLen; omega
  case c3 => omega
  case c4 => first | omega | (simp; done) | (simp; omega)
  intro x3 w3 ho3 hg3 he3
  have k3 : Below w.heap.size w w3 := k2.trans (below_own ho2 (Nat.le_refl _) hg3 (by first | omega | (simp; done) | (simp; omega)))
  obtain ⟨va3, vc3, hve⟩ := (rows_of_ownS ho3).slice
  subst hve
  have HF := hid ho3
  clear hg3 he3 ho3 ho2 hrd
  go_wp2
  go_returns
  refine ⟨⟨.slice va3 ((k + 1 : Nat) + 1 + ((A.length - (k + 1)))) vc3, rfl, ?_⟩, k3⟩
  have h9 : OwnS w3 w.heap.size 9 (.slice va3 ((k + 1 : Nat) + 1 + ((A.length - (k + 1)))) vc3) ((k + 1 : Nat) + 1 + ((A.length - (k + 1)))) (strsV (A.take (k + 1 : Nat)) ++ [.string s] ++ strsV (A.drop (k + 1 : Nat))) := by first | exact HF.out | simpa using HF.out
  rw [HR.out.1] at h9
  have e : (A.take (k + 1 : Nat) ++ [s] ++ A.drop (k + 1 : Nat)).length = (k + 1 : Nat) + 1 + ((A.length - (k + 1))) := by rw [HR.out.2.2.2]; omega
  rw [e]
  exact h9
/-- A word put in at a place. -/
theorem specInsert (v : Value) (A : List ByteArray) (k : Nat) (s : ByteArray) (base : Nat) (w : World) (h : OwnS w base 9 v A.length (strsV A)) (hk : k ≤ A.length) (hl : A.length ≤ 1000) :
    Calls Try.prog 85 #[v, .int .i64 (k : Int), .string s] w fun e w' => (∃ v', e = .returned v' ∧ OwnS w' w.heap.size 9 v' (A.take k ++ [s] ++ A.drop k).length (strsV (A.take k ++ [s] ++ A.drop k))) ∧ Below w.heap.size w w' := by
  have hr := rows_of_ownS h
  have hr2 := hr
  obtain ⟨h1, ao, c, rfl, h3, h4, h5⟩ := hr2
  cases k with
  | zero => exact specIns0 ao A c s w hr hl
  | succ k =>
    rcases h5 with h5 | ⟨b, off, rfl, _, _⟩
    · omega
    by_cases hc : c = k + 1
    · subst hc; exact specIns1 b off A k s w hr hk hl
    · obtain ⟨c', rfl⟩ : ∃ c', c = k + 1 + (c' + 1) := ⟨c - (k + 2), by omega⟩
      exact specIns2 b off A k c' s w hr hk hl
end Go.Proofs.Ytkkmnegmghllpaa
