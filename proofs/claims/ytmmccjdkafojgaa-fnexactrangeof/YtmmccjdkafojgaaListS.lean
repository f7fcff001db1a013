/- Contracts of the program's cuts of lists. Condition: the list lies in memory. -/
import Derived.Test.YtmmccjdkafojgaaImplFd
namespace Go.Proofs.Ytmmccjdkafojgaa
open Go.ChangeShapes Go.WideShapes Go.ChangeAt Go.RowKit Go.Deep
set_option linter.unusedVariables false
attribute [local go_sem ↓] Go.wp_at_zero Go.wp_at_succ

theorem rows_upTo {w : World} {s n c k : Nat} {a : Option Addr} {xs : List Value} (h : RowsAt w s (.slice a n c) n xs) (hk : k ≤ n) : RowsAt w s (.slice a k k) k (xs.take (k * s)) := by
  obtain ⟨h1, ao, c', he, h3, h4, h5⟩ := h
  cases he
  refine ⟨?_, a, k, rfl, Nat.le_refl _, fun e => by have := h4 e; omega, ?_⟩
  · rw [List.length_take, h1]
    exact Nat.min_eq_left (Nat.mul_le_mul_right s hk)
  · rcases h5 with h5 | ⟨b, off, rfl, hb, hc⟩
    · exact .inl (by omega)
    · refine .inr ⟨b, off, rfl, hb, fun j u hj => hc j u ?_⟩
      rw [List.getElem?_take] at hj
      split at hj
      · exact hj
      · cases hj
theorem rows_from {w : World} {s n c k : Nat} {b off : Nat} {xs : List Value} (h : RowsAt w s (.slice (some ⟨b, off, none⟩) n c) n xs) (hk : k ≤ n) : RowsAt w s (.slice (some ⟨b, off + k * s, none⟩) (n - k) (n - k)) (n - k) (xs.drop (k * s)) := by
  obtain ⟨h1, ao, c', he, h3, h4, h5⟩ := h
  cases he
  refine ⟨?_, _, _, rfl, Nat.le_refl _, fun e => by (cases e), ?_⟩
  · rw [List.length_drop, h1, Nat.sub_mul]
  · rcases h5 with h5 | ⟨b', off', he', hb, hc⟩
    · exact .inl (by omega)
    · cases he'
      refine .inr ⟨b, off + k * s, rfl, hb, fun j u hj => ?_⟩
      rw [List.getElem?_drop] at hj
      rw [Nat.add_assoc]
      exact hc _ _ hj
theorem capOf {w : World} {s n c : Nat} {a : Option Addr} {xs : List Value} (h : RowsAt w s (.slice a n c) n xs) : n ≤ c ∧ (a = none → n = 0 ∧ c = 0) := by
  obtain ⟨h1, ao, c', he, h3, h4, h5⟩ := h
  cases he
  exact ⟨h3, h4⟩
theorem addrOf {w : World} {s n c : Nat} {a : Option Addr} {xs : List Value} (h : RowsAt w s (.slice a n c) n xs) : n = 0 ∨ ∃ b off, a = some ⟨b, off, none⟩ := by
  obtain ⟨h1, ao, c', he, h3, h4, h5⟩ := h
  cases he
  rcases h5 with h5 | ⟨b, off, he, _⟩
  · exact .inl h5
  · exact .inr ⟨b, off, he⟩
theorem infoTx : (Try.prog.info? 9).map (fun i => (i.zero, i.size, i.bytes)) = some (some (.string ByteArray.empty), 1, 16) := by kernel_rfl
set_option maxHeartbeats 1600000 in
theorem upToS (a : Option Addr) (n c m : Nat) (w : World) (hn : n ≤ 1048576) (hm : m ≤ 1048577) (hc : n ≤ c) :
    Calls Try.prog 161 #[.slice a n c, .int .i64 m] w fun e w' => e = .returned (.slice a (min m n) (min m n)) ∧ w' = w := by
  by_cases h : m ≤ n
  · have h1 : min m n = m := by omega
    rw [h1]
    have hmi : min (m : Int) (n : Int) = (m : Int) := by omega
    go_enter Try.func161, Try.ntmps161
    go_wp2
    go_ret
    exact ⟨rfl, rfl⟩
  · have h1 : min m n = n := by omega
    rw [h1]
    have hmi : min (m : Int) (n : Int) = (n : Int) := by omega
    go_enter Try.func161, Try.ntmps161
    go_wp2
    go_ret
    exact ⟨rfl, rfl⟩
set_option maxHeartbeats 1600000 in
theorem fromS (a : Option Addr) (n c m : Nat) (xs : List Value) (w : World) (hx : RowsAt w 1 (.slice a n c) n xs) (hn : n ≤ 1048576) (hm : m ≤ 1048577) :
    Calls Try.prog 162 #[.slice a n c, .int .i64 m] w fun e w' => ∃ ao, e = .returned (.slice ao (n - min m n) (n - min m n)) ∧ RowsAt w 1 (.slice ao (n - min m n) (n - min m n)) (n - min m n) (xs.drop (min m n * 1)) ∧ w' = w := by
  obtain ⟨hc, hnil⟩ := capOf hx
  have H0 : Hid (n ≤ m → ∀ ao : Option Addr, RowsAt w 1 (.slice ao (n - min m n) (n - min m n)) (n - min m n) (xs.drop (min m n * 1))) := by
    intro h ao
    have e0 : min m n = n := by omega
    have e2 : xs.drop (n * 1) = [] := List.drop_of_length_le (by rw [hx.1]; omega)
    rw [e0, e2, Nat.sub_self]
    exact ⟨by simp, ao, 0, rfl, Nat.le_refl _, fun _ => ⟨rfl, rfl⟩, .inl rfl⟩
  by_cases h1 : n ≤ m
  · have HR := hid (H0.out h1)
    have e1 : n - min m n = 0 := by omega
    rw [e1] at HR ⊢
    obtain ⟨X, hX⟩ : ∃ X, X = xs.drop (min m n * 1) := ⟨_, rfl⟩
    rw [← hX] at HR ⊢
    clear H0 hx hX e1
    by_cases h2 : m = n
    · subst h2
      have hmi : min (m : Int) (m : Int) = (m : Int) := by omega
      cases a with
      | none =>
        go_enter Try.func162, Try.ntmps162
        go_wp2
        go_ret
        exact ⟨none, rfl, HR.out _, rfl⟩
      | some x =>
        go_enter Try.func162, Try.ntmps162
        go_wp2
        go_ret
        exact ⟨some x, rfl, HR.out _, rfl⟩
    · have h3 : ¬ ((m : Int) ≤ (n : Int)) := by omega
      have hmi : min (m : Int) (n : Int) = (n : Int) := by omega
      cases a with
      | none =>
        go_enter Try.func162, Try.ntmps162
        go_wp2
        go_ret
        exact ⟨none, rfl, HR.out _, rfl⟩
      | some x =>
        go_enter Try.func162, Try.ntmps162
        go_wp2
        go_ret
        exact ⟨some x, rfl, HR.out _, rfl⟩
  · have e0 : min m n = m := by omega
    rw [e0]
    have hmi : min (m : Int) (n : Int) = (m : Int) := by omega
    have hlt : (m : Int) < (n : Int) := by omega
    have hm0 : (0 : Int) ≤ (m : Int) := by omega
    rcases addrOf hx with h0 | ⟨b, off, rfl⟩
    · omega
    · have HR := hid (rows_from (k := m) hx (by omega))
      obtain ⟨X, hX⟩ : ∃ X, X = xs.drop (m * 1) := ⟨_, rfl⟩
      rw [← hX] at HR ⊢
      have hnm : ¬ (n - m = 0) := by omega
      have hnm2 : ¬ (n ≤ m) := by omega
      clear hx H0 hX e0
      go_enter Try.func162, Try.ntmps162
      go_wp2
      go_ret
      exact ⟨_, rfl, by first | exact HR.out | simpa using HR.out, rfl⟩
set_option maxHeartbeats 1600000 in
theorem andS (a a2 : Option Addr) (n c m c2 : Nat) (xs ys : List Value) (w : World) (hx : RowsAt w 1 (.slice a n c) n xs) (hy : RowsAt w 1 (.slice a2 m c2) m ys) (h1 : ∀ u ∈ ys, u.oneCell' = true) (hn : n ≤ 100000) (hm : m ≤ 100000) :
    Calls Try.prog 150 #[.slice a n c, .slice a2 m c2] w fun e w' => ∃ v ao cc, e = .returned v ∧ v = .slice ao (n + m) cc ∧ RowsAt w' 1 v (n + m) (xs ++ ys) ∧ Below w.heap.size w w' := by
  obtain ⟨i0, hi, hzz⟩ := Option.map_eq_some_iff.1 infoTx
  simp only [Prod.mk.injEq] at hzz
  obtain ⟨hz0, hz1, hz2⟩ := hzz
  have HU := upToS a n c n w (by omega) (by omega) (capOf hx).1
  rw [Nat.min_self] at HU
  have hxx := rows_upTo hx (Nat.le_refl n)
  rw [show xs.take (n * 1) = xs by rw [List.take_of_length_le (by rw [hx.1]; omega)]] at hxx
  clear hx
  go_enter Try.func150, Try.ntmps150
  go_wp2_with (first | (go_at_call 161; refine HU.mono ?_; rintro e w9 ⟨rfl, hw9⟩; subst w9) | (at_builtin; refine wplCap rfl _ _ 86 rfl 9 i0 (.string ByteArray.empty) 1 16 Try.underlying86 hi hz0 hz1 hz2 rfl (by decide) a n xs rfl hxx _ m ys rfl hy h1 ?c2 ?c3 ?_) | fail)
  case c2 => unfold maxLen; omega
  case c3 => omega
  intro v' w' hr hb
  obtain ⟨ao, cc, hv⟩ := hr.slice
  subst hv
  have HR := hid hr
  clear hr
  go_wp2_with fail
  go_ret
  exact ⟨_, ao, cc, rfl, rfl, HR.out, hb⟩
set_option maxHeartbeats 1600000 in
theorem upToN (a : Option Addr) (n c m : Nat) (w : World) (hn : n ≤ 1048576) (hm : m ≤ 1048577) (hc : n ≤ c) :
    Calls Try.prog 142 #[.slice a n c, .int .i64 m] w fun e w' => e = .returned (.slice a (min m n) (min m n)) ∧ w' = w := by
  by_cases h : m ≤ n
  · have h1 : min m n = m := by omega
    rw [h1]
    have hmi : min (m : Int) (n : Int) = (m : Int) := by omega
    go_enter Try.func142, Try.ntmps142
    go_wp2
    go_ret
    exact ⟨rfl, rfl⟩
  · have h1 : min m n = n := by omega
    rw [h1]
    have hmi : min (m : Int) (n : Int) = (n : Int) := by omega
    go_enter Try.func142, Try.ntmps142
    go_wp2
    go_ret
    exact ⟨rfl, rfl⟩
set_option maxHeartbeats 1600000 in
theorem fromN (a : Option Addr) (n c m : Nat) (xs : List Value) (w : World) (hx : RowsAt w 3 (.slice a n c) n xs) (hn : n ≤ 1048576) (hm : m ≤ 1048577) :
    Calls Try.prog 144 #[.slice a n c, .int .i64 m] w fun e w' => ∃ ao, e = .returned (.slice ao (n - min m n) (n - min m n)) ∧ RowsAt w 3 (.slice ao (n - min m n) (n - min m n)) (n - min m n) (xs.drop (min m n * 3)) ∧ w' = w := by
  obtain ⟨hc, hnil⟩ := capOf hx
  have H0 : Hid (n ≤ m → ∀ ao : Option Addr, RowsAt w 3 (.slice ao (n - min m n) (n - min m n)) (n - min m n) (xs.drop (min m n * 3))) := by
    intro h ao
    have e0 : min m n = n := by omega
    have e2 : xs.drop (n * 3) = [] := List.drop_of_length_le (by rw [hx.1]; omega)
    rw [e0, e2, Nat.sub_self]
    exact ⟨by simp, ao, 0, rfl, Nat.le_refl _, fun _ => ⟨rfl, rfl⟩, .inl rfl⟩
  by_cases h1 : n ≤ m
  · have HR := hid (H0.out h1)
    have e1 : n - min m n = 0 := by omega
    rw [e1] at HR ⊢
    obtain ⟨X, hX⟩ : ∃ X, X = xs.drop (min m n * 3) := ⟨_, rfl⟩
    rw [← hX] at HR ⊢
    clear H0 hx hX e1
    by_cases h2 : m = n
    · subst h2
      have hmi : min (m : Int) (m : Int) = (m : Int) := by omega
      cases a with
      | none =>
        go_enter Try.func144, Try.ntmps144
        go_wp2
        go_ret
        exact ⟨none, rfl, HR.out _, rfl⟩
      | some x =>
        go_enter Try.func144, Try.ntmps144
        go_wp2
        go_ret
        exact ⟨some x, rfl, HR.out _, rfl⟩
    · have h3 : ¬ ((m : Int) ≤ (n : Int)) := by omega
      have hmi : min (m : Int) (n : Int) = (n : Int) := by omega
      cases a with
      | none =>
        go_enter Try.func144, Try.ntmps144
        go_wp2
        go_ret
        exact ⟨none, rfl, HR.out _, rfl⟩
      | some x =>
        go_enter Try.func144, Try.ntmps144
        go_wp2
        go_ret
        exact ⟨some x, rfl, HR.out _, rfl⟩
  · have e0 : min m n = m := by omega
    rw [e0]
    have hmi : min (m : Int) (n : Int) = (m : Int) := by omega
    have hlt : (m : Int) < (n : Int) := by omega
    have hm0 : (0 : Int) ≤ (m : Int) := by omega
    rcases addrOf hx with h0 | ⟨b, off, rfl⟩
    · omega
    · have HR := hid (rows_from (k := m) hx (by omega))
      obtain ⟨X, hX⟩ : ∃ X, X = xs.drop (m * 3) := ⟨_, rfl⟩
      rw [← hX] at HR ⊢
      have hnm : ¬ (n - m = 0) := by omega
      have hnm2 : ¬ (n ≤ m) := by omega
      clear hx H0 hX e0
      go_enter Try.func144, Try.ntmps144
      go_wp2
      go_ret
      exact ⟨_, rfl, by first | exact HR.out | simpa using HR.out, rfl⟩
set_option maxHeartbeats 1600000 in
theorem andN (a a2 : Option Addr) (n c m c2 : Nat) (xs ys : List Value) (w : World) (hx : RowsAt w 3 (.slice a n c) n xs) (hy : RowsAt w 3 (.slice a2 m c2) m ys) (h1 : ∀ u ∈ ys, u.oneCell' = true) (hn : n ≤ 100000) (hm : m ≤ 100000) :
    Calls Try.prog 143 #[.slice a n c, .slice a2 m c2] w fun e w' => ∃ v ao cc, e = .returned v ∧ v = .slice ao (n + m) cc ∧ RowsAt w' 3 v (n + m) (xs ++ ys) ∧ Below w.heap.size w w' := by
  obtain ⟨i0, hi, hzz⟩ := Option.map_eq_some_iff.1 infoN
  simp only [Prod.mk.injEq] at hzz
  obtain ⟨hz0, hz1, hz2⟩ := hzz
  have HU := upToN a n c n w (by omega) (by omega) (capOf hx).1
  rw [Nat.min_self] at HU
  have hxx := rows_upTo hx (Nat.le_refl n)
  rw [show xs.take (n * 3) = xs by rw [List.take_of_length_le (by rw [hx.1]; omega)]] at hxx
  clear hx
  go_enter Try.func143, Try.ntmps143
  go_wp2_with (first | (go_at_call 142; refine HU.mono ?_; rintro e w9 ⟨rfl, hw9⟩; subst w9) | (at_builtin; refine wplCap rfl _ _ 90 rfl 92 i0 zeroN 3 72 Try.underlying90 hi hz0 hz1 hz2 rfl (by decide) a n xs rfl hxx _ m ys rfl hy h1 ?c2 ?c3 ?_) | fail)
  case c2 => unfold maxLen; omega
  case c3 => omega
  intro v' w' hr hb
  obtain ⟨ao, cc, hv⟩ := hr.slice
  subst hv
  have HR := hid hr
  clear hr
  go_wp2_with fail
  go_ret
  exact ⟨_, ao, cc, rfl, rfl, HR.out, hb⟩
end Go.Proofs.Ytmmccjdkafojgaa
