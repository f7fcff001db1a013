/- The contract of the program's feeding of one piece: it is what feeding its bytes one by one makes. Condition: at most eight bytes, a good mix, the table of weights as it is laid. -/
import Derived.Test.YtgjcegmjhkehnaaDoorSpecFeed
import Derived.RegionTactic
import Derived.Deep.QuietTactic
import Derived.BigQuiet
namespace Go.Proofs.YtgjcegmjhkehnaaDoor
open Go.ChangeShapes Go.WideShapes Go.ChangeAt Go.RowKit
set_option linter.unusedVariables false

/-- The table of weights lies in block 0. -/
def Table (w : World) : Prop := 0 < w.heap.size ∧ ∀ i : Nat, i < 8 → w.cell? ⟨0, i, none⟩ = some (.int .i64 (8 - (i : Int)))
theorem Table.below {w w' : World} (h : Table w) (hb : Below w.heap.size w w') : Table w' :=
  ⟨Nat.lt_of_lt_of_le h.1 hb.size, fun i hi => by rw [hb.cell (p := ⟨0, i, none⟩) h.1]; exact h.2 i hi⟩

set_option maxHeartbeats 1600000 in
theorem pieceFeed (a b l : Int) (s : ByteArray) (w : World) (ha0 : 0 ≤ a) (ha1 : a ≤ 65520) (hb0 : 0 ≤ b) (hb1 : b ≤ 65520) (hl0 : 0 ≤ l) (hl1 : l ≤ 1000000) (hs : s.size ≤ 8) (ht : Table w) :
    Calls Tryd.prog 150 #[.agg #[.int .i64 a, .int .i64 b, .int .i64 l], .string s] w fun e w' => e = .returned (.agg #[.int .i64 (feed (a, b) s.data.toList).1, .int .i64 (feed (a, b) s.data.toList).2, .int .i64 (l + s.size)]) ∧ Below w.heap.size w w' := by
  obtain ⟨hp, ht⟩ := ht
  have HT : Hid (∀ i : Nat, i < 8 → w.cell? ⟨0, i, none⟩ = some (.int .i64 (8 - (i : Int)))) := ht
  clear ht
  go_enter Tryd.func150, Tryd.ntmps150
  go_wp2
  go_loopw [6, 7, 8] (fun x y i wr => ∃ k : Nat, k ≤ s.size ∧ i = .int .i64 k ∧ x = .int .i64 (sumL (s.data.toList.take k)) ∧ y = .int .i64 (wt s.size (s.data.toList.take k)) ∧ Three wr w.heap.size a b l ∧ Three wr (w.heap.size + 1) 0 0 0 ∧ Below w.heap.size w wr) (fun _ _ i _ => s.size - (intOf i).toNat)
  case atStart => exact ⟨0, Nat.zero_le _, rfl, rfl, rfl, by simp [Three], by simp [Three], by go_grown⟩
  case round =>
    obtain ⟨k, hk, rfl, rfl, rfl, ⟨c0, c1, c2, f0, f1, f2⟩, ⟨d0, d1, d2, e0, e1, e2⟩, kb⟩ := hrel
    have hlen : (s.data.toList.take k).length = k := by simp; omega
    have hsb := sumL_bd (s.data.toList.take k)
    have hwb := wt_bd s.size (s.data.toList.take k) (by rw [hlen]; omega) (by omega)
    rw [hlen] at hsb hwb
    obtain ⟨hsb0, hsb1⟩ := hsb
    obtain ⟨hwb0, hwb1⟩ := hwb
    by_cases hlt : k < s.size
    · have HS : Hid (sumL (s.data.toList.take (k + 1)) = sumL (s.data.toList.take k) + (s[k].toNat : Int)) := by rw [take_snoc s k hlt]; exact sumL_snoc _ _
      have HW : Hid (wt s.size (s.data.toList.take (k + 1)) = wt s.size (s.data.toList.take k) + ((s.size : Int) - k) * (s[k].toNat : Int)) := by rw [take_snoc s k hlt, wt_snoc, hlen]; rfl
      have hcl := byte_lt s[k]
      obtain ⟨hcl0, hcl1⟩ := hcl
      have hcell : wr.cell? ⟨0, (8 - (s.size : Int) + k).toNat, none⟩ = some (.int .i64 ((s.size : Int) - k)) := by
        rw [kb.cell (p := ⟨0, _, none⟩) hp, HT.out _ (by omega)]
        congr 2
        omega
      have hcell2 : wr.cell? ⟨0, 8 - s.size + k, none⟩ = some (.int .i64 ((s.size : Int) - k)) := by
        rw [kb.cell (p := ⟨0, _, none⟩) hp, HT.out _ (by omega)]
        congr 2
        omega
      clear hlen
      generalize sumL (s.data.toList.take k) = S at *
      generalize wt s.size (s.data.toList.take k) = Wk at *
      have hm := Int.mul_nonneg (show (0 : Int) ≤ (s.size : Int) - k by omega) hcl0
      have hm2 : ((s.size : Int) - k) * (s[k].toNat : Int) ≤ 8 * 255 := Int.mul_le_mul (by omega) hcl1 hcl0 (by omega)
      have hi0 : (0 : Int) ≤ 8 - (s.size : Int) + k := by omega
      have hi1 : 8 - (s.size : Int) + (k : Int) < 8 := by omega
      go_wp2
      go_region
      go_wp2
      go_roundw
      case rel =>
        refine ⟨k + 1, by omega, by go_num, ?_, ?_, ?_, ?_, by go_grown⟩
        · rw [HS.out]
        · rw [HW.out]
        · simp [Three, *, go_sem]
        · simp [Three, *, go_sem]
      case measure => simp [intOf]; omega
    · have hke : k = s.size := by omega
      subst hke
      have hfull : s.data.toList.take s.size = s.data.toList := List.take_of_length_le (by simp)
      rw [hfull] at hlen hsb0 hsb1 hwb0 hwb1 ⊢
      have HP : Hid (feed (a, b) s.data.toList = ((a + sumL s.data.toList) % 65521, (b + (s.size : Int) * a + wt s.size s.data.toList) % 65521)) := by
        have := feed_piece a b s.data.toList ⟨ha0, ha1⟩ ⟨hb0, hb1⟩
        rw [hlen] at this
        exact this
      clear hfull hlen
      generalize sumL s.data.toList = S at *
      generalize wt s.size s.data.toList = Wk at *
      have hm := Int.mul_nonneg (show (0 : Int) ≤ (s.size : Int) by omega) ha0
      have hm2 : (s.size : Int) * a ≤ 8 * 65520 := Int.mul_le_mul (by omega) ha1 ha0 (by omega)
      go_wp2
      exact bodyPost_ret (v := .agg #[.int .i64 ((a + S) % 65521), .int .i64 ((b + (s.size : Int) * a + Wk) % 65521), .int .i64 (l + s.size)]) (by simp [results, Tryd.results150, go_sem, *]) rfl ⟨by rw [HP.out], by go_grown⟩
end Go.Proofs.YtgjcegmjhkehnaaDoor
