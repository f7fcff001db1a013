/- Contracts of what the cursor draws: texts of rows, spoilt or not. Condition: the cursor's block and its bytes lie in memory. -/
import Derived.Test.YtolkiofdbdjfkaaDrawR
import Derived.Test.YtolkiofdbdjfkaaOwnV
namespace Go.Proofs.Ytolkiofdbdjfkaa
open Go.ChangeShapes Go.WideShapes Go.ChangeAt Go.RowKit Go.Deep
set_option linter.unusedVariables false
attribute [local go_sem ↓] Go.wp_at_zero Go.wp_at_succ

set_option maxHeartbeats 6400000 in
set_option maxRecDepth 100000 in
theorem spoiltIn (g : Nat) (v : Value) (n m : Nat) (t z : ByteArray) (w : World) (hc : CurAt w g v m) (hb : BytesAt w g v n) (hm : m ≤ 1000000 - 100) (ht : t.size ≤ 1000) (hz : z.size = 5) :
    Calls Try.prog 73 #[.pointer (some ⟨g, 0, none⟩), .string t, .string z] w fun e w' => ∃ s : ByteArray, e = .returned (.string s) ∧ s.size ≤ t.size + 2 ∧ Drawn w w' g v n (m + 20) := by
  have hgl := hc.lt
  have hs1 := size1
  have HP := pickIn g v n m 3 w hc hb (by omega) (by omega) (by omega)
  have HBY := hide hb
  clear hc hb
  go_enter Try.func73, Try.ntmps73
  go_wp2_with fail
  refine HP.mono ?_
  rintro e w1 ⟨x, rfl, hx0, hx1, hd1⟩
  have HD1 := hide hd1
  clear HP hd1
  obtain ⟨N, rfl⟩ := Int.eq_ofNat_of_zero_le hx0
  have HD0 : Hid (Drawn w w1 g v n (m + 2 + 8 * (2 - N))) := (unhide HD1).mono (by omega)
  go_wp2_with fail
  go_loopw [1, 7, 8, 9] (fun y i p q wr => ∃ (s : ByteArray) (k : Nat), y = .string s ∧ i = .int .i64 k ∧ k ≤ 2 ∧ s.size + k ≤ t.size + 2 ∧ Drawn w wr g v n (m + 2 + 8 * (2 - k))) (fun _ i _ _ _ => (intOf i).toNat)
  case atStart => exact ⟨t, N, rfl, rfl, by omega, by omega, unhide HD0⟩
  case round =>
    obtain ⟨s, k, rfl, rfl, hk2, hsz, hd⟩ := hrel
    have HD3 := hide hd
    clear hd
    by_cases hp : 0 < k ∧ 0 < s.size
    · obtain ⟨hp1, hp2⟩ := hp
      have hpi : (0 : Int) < (k : Int) := by omega
      have hpi2 : (0 : Int) < (s.size : Int) := by omega
      go_wp2_with fail
      refine (pickIn g v n (m + 2 + 8 * (2 - k)) (s.size : Int) wr (unhide HD3).1 (unhide HD3).2.1 (by omega) (by omega) (by omega)).mono ?_
      rintro e w4 ⟨a, rfl, ha0, ha1, hd4⟩
      have HD4 := hide ((unhide HD3).trans hd4)
      clear hd4
      obtain ⟨A, rfl⟩ := Int.eq_ofNat_of_zero_le ha0
      go_wp2_with fail
      refine (pickIn g v n (m + 2 + 8 * (2 - k) + 2) 5 w4 (unhide HD4).1 (unhide HD4).2.1 (by omega) (by omega) (by omega)).mono ?_
      rintro e w5 ⟨b, rfl, hb0, hb1, hd5⟩
      have HD5 := hide ((unhide HD4).trans hd5)
      clear hd5
      obtain ⟨B, rfl⟩ := Int.eq_ofNat_of_zero_le hb0
      have hB : B < z.size := by omega
      obtain ⟨c, hcc⟩ : ∃ c : Int, c = (z[B].toNat : Int) := ⟨_, rfl⟩
      have hcv := fun tt => mconv1 w5 (z[B].toNat : Int) tt w5.heap.size rfl
      have HD6 := hide ((unhide HD5).below ((Below.refl _ w5).alloc (Nat.le_refl _) (.cells #[.int .u8 (z[B].toNat : Int)] 5)))
      go_wp2_with fail
      refine (pickIn g v n (m + 2 + 8 * (2 - k) + 2 + 2) 3 _ (unhide HD6).1 (unhide HD6).2.1 (by omega) (by omega) (by omega)).mono ?_
      rintro e w7 ⟨d, rfl, hd0, hd1, hd7⟩
      have HD7 := hide (((unhide HD6).trans hd7).mono (by omega : _ ≤ m + 2 + 8 * (2 - (k - 1))))
      have hsc := hs1 (z[B].toNat : Int)
      generalize strOfNums [(z[B].toNat : Int)] = C at *
      have hA : A < s.size := by omega
      have hAi : (A : Int) < (s.size : Int) := by omega
      have hA0 : (0 : Int) ≤ (A : Int) := by omega
      have hA1 : (A : Int) + 1 ≤ (s.size : Int) := by omega
      clear hd7 hcv hcc
      have hdd : d = 0 ∨ d = 1 ∨ d = 2 := by omega
      rcases hdd with rfl | rfl | rfl
      · go_upto_region 9 with fail
        go_region
        go_wp2
        refine ⟨?_, by simp [intOf]; omega⟩
        first | exact ⟨_, k - 1, rfl, by congr 1; omega, by omega, by simp; omega, (unhide HD7).below (Below.refl _ w7).drew⟩ | ((repeat apply Exists.intro); exact ⟨⟨_, k - 1, rfl, by congr 1; omega, by omega, by simp; omega, (unhide HD7).below (Below.refl _ w7).drew⟩, rfl⟩)
      · go_upto_region 11 with fail
        go_region
        go_wp2
        refine ⟨?_, by simp [intOf]; omega⟩
        first | exact ⟨_, k - 1, rfl, by congr 1; omega, by omega, by simp; omega, (unhide HD7).below (Below.refl _ w7).drew⟩ | ((repeat apply Exists.intro); exact ⟨⟨_, k - 1, rfl, by congr 1; omega, by omega, by simp; omega, (unhide HD7).below (Below.refl _ w7).drew⟩, rfl⟩)
      · go_upto_region 7 with fail
        go_region
        go_wp2
        refine ⟨?_, by simp [intOf]; omega⟩
        first | exact ⟨_, k - 1, rfl, by congr 1; omega, by omega, by simp; omega, (unhide HD7).below (Below.refl _ w7).drew⟩ | ((repeat apply Exists.intro); exact ⟨⟨_, k - 1, rfl, by congr 1; omega, by omega, by simp; omega, (unhide HD7).below (Below.refl _ w7).drew⟩, rfl⟩)
    · by_cases hp1 : 0 < k
      · have hs0 : ¬ (0 : Int) < (s.size : Int) := by omega
        have hpi : (0 : Int) < (k : Int) := by omega
        go_wp2
        go_ret
        exact ⟨s, rfl, by omega, (unhide HD3).mono (by omega)⟩
      · have hpi : ¬ (0 : Int) < (k : Int) := by omega
        go_wp2
        go_ret
        exact ⟨s, rfl, by omega, (unhide HD3).mono (by omega)⟩
end Go.Proofs.Ytolkiofdbdjfkaa
