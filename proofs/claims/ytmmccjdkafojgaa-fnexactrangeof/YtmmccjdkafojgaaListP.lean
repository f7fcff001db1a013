/- Contracts of the program's puts into lists, and of what it takes out of them. Condition: the list lies in memory. -/
import Derived.Test.YtmmccjdkafojgaaListS
namespace Go.Proofs.Ytmmccjdkafojgaa
open Go.ChangeShapes Go.WideShapes Go.ChangeAt Go.RowKit Go.Deep
set_option linter.unusedVariables false
attribute [local go_sem ↓] Go.wp_at_zero Go.wp_at_succ

set_option maxHeartbeats 3200000 in
theorem withS (a : Option Addr) (n c m : Nat) (t : ByteArray) (xs : List Value) (w : World) (hx : RowsAt w 1 (.slice a n c) n xs) (h1 : ∀ u ∈ xs, u.oneCell' = true) (hn : n ≤ 50000) (hm : m ≤ n) :
    Calls Try.prog 141 #[.slice a n c, .int .i64 m, .string t] w fun e w' => ∃ v ao cc, e = .returned v ∧ v = .slice ao (n + 1) cc ∧ RowsAt w' 1 v (n + 1) (xs.take (m * 1) ++ [.string t] ++ xs.drop ((m) * 1)) ∧ Below w.heap.size w w' := by
  obtain ⟨i0, hi, hzz⟩ := Option.map_eq_some_iff.1 infoTx
  simp only [Prod.mk.injEq] at hzz
  obtain ⟨hz0, hz1, hz2⟩ := hzz
  have HU := upToS a n c m w (by omega) (by omega) (capOf hx).1
  rw [Nat.min_eq_left (by omega)] at HU
  have hxx := rows_upTo (k := m) hx (by omega)
  have HF := fun W (hW : Below w.heap.size w W) => fromS a n c (m) xs W (hx.below hW) (by omega) (by omega)
  rw [Nat.min_eq_left (by omega)] at HF
  have hd1 : ∀ u ∈ xs.drop ((m) * 1), u.oneCell' = true := fun u hu => h1 u (List.mem_of_mem_drop hu)
  have HA := fun a1 c1 a2 c2 W (hX : RowsAt W 1 (.slice a1 (m + 1) c1) (m + 1) (xs.take (m * 1) ++ [.string t])) (hY : RowsAt W 1 (.slice a2 (n - (m)) c2) (n - (m)) (xs.drop ((m) * 1))) => andS a1 a2 (m + 1) c1 (n - (m)) c2 _ _ W hX hY hd1 (by omega) (by omega)
  rw [show m + 1 + (n - (m)) = n + 1 by omega] at HA
  obtain ⟨DR, hDR⟩ : ∃ DR, DR = xs.drop ((m) * 1) := ⟨_, rfl⟩
  obtain ⟨TK, hTK⟩ : ∃ TK, TK = xs.take (m * 1) := ⟨_, rfl⟩
  rw [← hDR] at HF HA ⊢
  rw [← hTK] at hxx HA ⊢
  clear hx hDR hTK h1 hd1
  go_enter Try.func141, Try.ntmps141
  go_wp2_with (first | (go_at_call 161; refine HU.mono ?_; rintro e w9 ⟨rfl, hw9⟩; subst w9) | (at_builtin; refine wplCap rfl _ _ 86 rfl 9 i0 (.string ByteArray.empty) 1 16 Try.underlying86 hi hz0 hz1 hz2 rfl (by decide) a m TK rfl (hxx.below (al1 _ _)) _ 1 [.string t] rfl (news1 _ _ _) ?c1 ?c2 ?c3 ?_) | fail)
  case c1 => first | rfl | (intro u hu; simp at hu; first | (subst hu; rfl) | (rcases hu with rfl | rfl | rfl <;> rfl)) | (simp; done)
  case c2 => unfold maxLen; omega
  case c3 => omega
  intro v' w1 hr hb
  have kb1 : Below w.heap.size w w1 := (al1 w _).trans (hb.mono (by simp))
  obtain ⟨a1, c1, hv⟩ := hr.slice
  subst hv
  have HR := hid hr
  clear hr hb HU hxx
  go_wp2_with fail
  refine (HF w1 kb1).mono ?_
  rintro e w2 ⟨ao, rfl, hf, hw2⟩
  subst w2
  have HFF := hid hf
  clear hf HF
  go_wp2_with fail
  refine (HA _ _ _ _ _ HR.out HFF.out).mono ?_
  rintro e w3 ⟨v3, a3, c3, rfl, rfl, hr3, hb3⟩
  have HR3 := hid hr3
  have kb3 : Below w.heap.size w w3 := kb1.trans (hb3.mono kb1.size)
  clear hr3 hb3 HA
  go_wp2_with fail
  go_ret
  exact ⟨_, a3, c3, rfl, rfl, HR3.out, kb3⟩
set_option maxHeartbeats 3200000 in
theorem changeS (a : Option Addr) (n c m : Nat) (t : ByteArray) (xs : List Value) (w : World) (hx : RowsAt w 1 (.slice a n c) n xs) (h1 : ∀ u ∈ xs, u.oneCell' = true) (hn : n ≤ 50000) (hm : m < n) :
    Calls Try.prog 140 #[.slice a n c, .int .i64 m, .string t] w fun e w' => ∃ v ao cc, e = .returned v ∧ v = .slice ao (n) cc ∧ RowsAt w' 1 v (n) (xs.take (m * 1) ++ [.string t] ++ xs.drop ((m + 1) * 1)) ∧ Below w.heap.size w w' := by
  obtain ⟨i0, hi, hzz⟩ := Option.map_eq_some_iff.1 infoTx
  simp only [Prod.mk.injEq] at hzz
  obtain ⟨hz0, hz1, hz2⟩ := hzz
  have HU := upToS a n c m w (by omega) (by omega) (capOf hx).1
  rw [Nat.min_eq_left (by omega)] at HU
  have hxx := rows_upTo (k := m) hx (by omega)
  have HF := fun W (hW : Below w.heap.size w W) => fromS a n c (m + 1) xs W (hx.below hW) (by omega) (by omega)
  rw [Nat.min_eq_left (by omega)] at HF
  have hd1 : ∀ u ∈ xs.drop ((m + 1) * 1), u.oneCell' = true := fun u hu => h1 u (List.mem_of_mem_drop hu)
  have HA := fun a1 c1 a2 c2 W (hX : RowsAt W 1 (.slice a1 (m + 1) c1) (m + 1) (xs.take (m * 1) ++ [.string t])) (hY : RowsAt W 1 (.slice a2 (n - (m + 1)) c2) (n - (m + 1)) (xs.drop ((m + 1) * 1))) => andS a1 a2 (m + 1) c1 (n - (m + 1)) c2 _ _ W hX hY hd1 (by omega) (by omega)
  rw [show m + 1 + (n - (m + 1)) = n by omega] at HA
  obtain ⟨DR, hDR⟩ : ∃ DR, DR = xs.drop ((m + 1) * 1) := ⟨_, rfl⟩
  obtain ⟨TK, hTK⟩ : ∃ TK, TK = xs.take (m * 1) := ⟨_, rfl⟩
  rw [← hDR] at HF HA ⊢
  rw [← hTK] at hxx HA ⊢
  have hcast : ((m + 1 : Nat) : Int) = (m : Int) + 1 := by omega
  rw [hcast] at HF
  clear hcast
  clear hx hDR hTK h1 hd1
  go_enter Try.func140, Try.ntmps140
  go_wp2_with (first | (go_at_call 161; refine HU.mono ?_; rintro e w9 ⟨rfl, hw9⟩; subst w9) | (at_builtin; refine wplCap rfl _ _ 86 rfl 9 i0 (.string ByteArray.empty) 1 16 Try.underlying86 hi hz0 hz1 hz2 rfl (by decide) a m TK rfl (hxx.below (al1 _ _)) _ 1 [.string t] rfl (news1 _ _ _) ?c1 ?c2 ?c3 ?_) | fail)
  case c1 => first | rfl | (intro u hu; simp at hu; first | (subst hu; rfl) | (rcases hu with rfl | rfl | rfl <;> rfl)) | (simp; done)
  case c2 => unfold maxLen; omega
  case c3 => omega
  intro v' w1 hr hb
  have kb1 : Below w.heap.size w w1 := (al1 w _).trans (hb.mono (by simp))
  obtain ⟨a1, c1, hv⟩ := hr.slice
  subst hv
  have HR := hid hr
  clear hr hb HU hxx
  go_wp2_with fail
  refine (HF w1 kb1).mono ?_
  rintro e w2 ⟨ao, rfl, hf, hw2⟩
  subst w2
  have HFF := hid hf
  clear hf HF
  go_wp2_with fail
  refine (HA _ _ _ _ _ HR.out HFF.out).mono ?_
  rintro e w3 ⟨v3, a3, c3, rfl, rfl, hr3, hb3⟩
  have HR3 := hid hr3
  have kb3 : Below w.heap.size w w3 := kb1.trans (hb3.mono kb1.size)
  clear hr3 hb3 HA
  go_wp2_with fail
  go_ret
  exact ⟨_, a3, c3, rfl, rfl, HR3.out, kb3⟩
set_option maxHeartbeats 3200000 in
theorem withoutS (a : Option Addr) (n c m : Nat) (xs : List Value) (w : World) (hx : RowsAt w 1 (.slice a n c) n xs) (h1 : ∀ u ∈ xs, u.oneCell' = true) (hn : n ≤ 50000) (hm : m < n) :
    Calls Try.prog 151 #[.slice a n c, .int .i64 m] w fun e w' => ∃ v ao cc, e = .returned v ∧ v = .slice ao (n - 1) cc ∧ RowsAt w' 1 v (n - 1) (xs.take (m * 1) ++ xs.drop ((m + 1) * 1)) ∧ Below w.heap.size w w' := by
  have HU := upToS a n c m w (by omega) (by omega) (capOf hx).1
  rw [Nat.min_eq_left (by omega)] at HU
  have hxx := rows_upTo (k := m) hx (by omega)
  have HF := fromS a n c (m + 1) xs w hx (by omega) (by omega)
  rw [Nat.min_eq_left (by omega)] at HF
  have hd1 : ∀ u ∈ xs.drop ((m + 1) * 1), u.oneCell' = true := fun u hu => h1 u (List.mem_of_mem_drop hu)
  have HA := fun a1 c1 a2 c2 W (hX : RowsAt W 1 (.slice a1 m c1) m (xs.take (m * 1))) (hY : RowsAt W 1 (.slice a2 (n - (m + 1)) c2) (n - (m + 1)) (xs.drop ((m + 1) * 1))) => andS a1 a2 m c1 (n - (m + 1)) c2 _ _ W hX hY hd1 (by omega) (by omega)
  rw [show m + (n - (m + 1)) = n - 1 by omega] at HA
  obtain ⟨DR, hDR⟩ : ∃ DR, DR = xs.drop ((m + 1) * 1) := ⟨_, rfl⟩
  obtain ⟨TK, hTK⟩ : ∃ TK, TK = xs.take (m * 1) := ⟨_, rfl⟩
  rw [← hDR] at HF HA ⊢
  rw [← hTK] at hxx HA ⊢
  have hcast : ((m + 1 : Nat) : Int) = (m : Int) + 1 := by omega
  rw [hcast] at HF
  clear hx hDR hTK h1 hd1 hcast
  go_enter Try.func151, Try.ntmps151
  go_wp2_with (first | (go_at_call 161; refine HU.mono ?_; rintro e w9 ⟨rfl, hw9⟩; subst w9) | fail)
  refine HF.mono ?_
  rintro e w2 ⟨ao, rfl, hf, hw2⟩
  subst w2
  have HFF := hid hf
  have HXX := hid hxx
  clear hf HF hxx
  go_wp2_with fail
  refine (HA _ _ _ _ _ HXX.out HFF.out).mono ?_
  rintro e w3 ⟨v3, a3, c3, rfl, rfl, hr3, hb3⟩
  have HR3 := hid hr3
  clear hr3 HA
  go_wp2_with fail
  go_ret
  exact ⟨_, a3, c3, rfl, rfl, HR3.out, hb3⟩
set_option maxHeartbeats 3200000 in
theorem withoutN (a : Option Addr) (n c m : Nat) (xs : List Value) (w : World) (hx : RowsAt w 3 (.slice a n c) n xs) (h1 : ∀ u ∈ xs, u.oneCell' = true) (hn : n ≤ 50000) (hm : m < n) :
    Calls Try.prog 163 #[.slice a n c, .int .i64 m] w fun e w' => ∃ v ao cc, e = .returned v ∧ v = .slice ao (n - 1) cc ∧ RowsAt w' 3 v (n - 1) (xs.take (m * 3) ++ xs.drop ((m + 1) * 3)) ∧ Below w.heap.size w w' := by
  have HU := upToN a n c m w (by omega) (by omega) (capOf hx).1
  rw [Nat.min_eq_left (by omega)] at HU
  have hxx := rows_upTo (k := m) hx (by omega)
  have HF := fromN a n c (m + 1) xs w hx (by omega) (by omega)
  rw [Nat.min_eq_left (by omega)] at HF
  have hd1 : ∀ u ∈ xs.drop ((m + 1) * 3), u.oneCell' = true := fun u hu => h1 u (List.mem_of_mem_drop hu)
  have HA := fun a1 c1 a2 c2 W (hX : RowsAt W 3 (.slice a1 m c1) m (xs.take (m * 3))) (hY : RowsAt W 3 (.slice a2 (n - (m + 1)) c2) (n - (m + 1)) (xs.drop ((m + 1) * 3))) => andN a1 a2 m c1 (n - (m + 1)) c2 _ _ W hX hY hd1 (by omega) (by omega)
  rw [show m + (n - (m + 1)) = n - 1 by omega] at HA
  obtain ⟨DR, hDR⟩ : ∃ DR, DR = xs.drop ((m + 1) * 3) := ⟨_, rfl⟩
  obtain ⟨TK, hTK⟩ : ∃ TK, TK = xs.take (m * 3) := ⟨_, rfl⟩
  rw [← hDR] at HF HA ⊢
  rw [← hTK] at hxx HA ⊢
  have hcast : ((m + 1 : Nat) : Int) = (m : Int) + 1 := by omega
  rw [hcast] at HF
  clear hx hDR hTK h1 hd1 hcast
  go_enter Try.func163, Try.ntmps163
  go_wp2_with (first | (go_at_call 142; refine HU.mono ?_; rintro e w9 ⟨rfl, hw9⟩; subst w9) | fail)
  refine HF.mono ?_
  rintro e w2 ⟨ao, rfl, hf, hw2⟩
  subst w2
  have HFF := hid hf
  have HXX := hid hxx
  clear hf HF hxx
  go_wp2_with fail
  refine (HA _ _ _ _ _ HXX.out HFF.out).mono ?_
  rintro e w3 ⟨v3, a3, c3, rfl, rfl, hr3, hb3⟩
  have HR3 := hid hr3
  clear hr3 HA
  go_wp2_with fail
  go_ret
  exact ⟨_, a3, c3, rfl, rfl, HR3.out, hb3⟩
end Go.Proofs.Ytmmccjdkafojgaa
