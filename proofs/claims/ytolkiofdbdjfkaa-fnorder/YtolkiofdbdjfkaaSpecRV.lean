/- Contract of the model's reading of a value. Condition: at most six hundred bytes and a place within them; else the zero answer. -/
import Derived.Test.YtolkiofdbdjfkaaSpecRR
import Derived.Test.YtolkiofdbdjfkaaBoxes2
namespace Go.Proofs.Ytolkiofdbdjfkaa
open Go.ChangeShapes Go.WideShapes Go.ChangeAt Go.RowKit Go.Deep
set_option linter.unusedVariables false
attribute [local go_sem ↓] Go.wp_at_zero Go.wp_at_succ

set_option maxHeartbeats 3200000 in
set_option maxRecDepth 100000 in
theorem specRVAt (s : ByteArray) (a : Nat) (v : VV) (w : World) (hs : s.size ≤ 600) (ha : a < s.size) (h : Stands (s.data.toList.drop a) v) :
    Calls Try.prog 22 #[.string s, .int .i64 a] w fun e w' => e = .returned (.tuple #[encV v, .int .i64 ((a : Int) + ((bytesV v).size : Int)), .bool true]) ∧ Below w.heap.size w w' := by
  have HR := fun W => specRdAt s a v W hs ha h
  have hai : (a : Int) < (s.size : Int) := by omega
  have ha0 : (0 : Int) ≤ (a : Int) := by omega
  have hs6 : ¬ (600 : Int) < (s.size : Int) := by omega
  have hsa : ¬ (s.size : Int) ≤ (a : Int) := by omega
  have han : ¬ (a : Int) < 0 := by omega
  have hen : ¬ (a : Int) + ((bytesV v).size : Int) < 0 := by omega
  clear h
  generalize (a : Int) + ((bytesV v).size : Int) = E at *
  obtain ⟨K, N, T⟩ := v
  unfold encV at HR ⊢
  simp only [] at HR ⊢
  go_enter Try.func22, Try.ntmps22
  go_wp2_with fail
  refine (HR _).mono ?_
  rintro e w1 ⟨rfl, hb1⟩
  have q := boxOf1 hb1
  have BR := hid q
  have HK := hid (((Below.refl _ w).alloc (Nat.le_refl _) _).trans (hb1.mono (by simp)))
  clear q hb1 HR
  have BRz := BR.out.1
  have BRc0 := BR.out.2.1 0 _ rfl
  have BRc1 := BR.out.2.1 1 _ rfl
  have BRc2 := BR.out.2.1 2 _ rfl
  have BRf0 := BR.out.2.2 0 (by simp)
  have BRf1 := BR.out.2.2 1 (by simp)
  have BRf2 := BR.out.2.2 2 (by simp)
  have hl1 := HK.out.size
  go_wp2
  (try simp only [Exit.inBlock, Exit.then])
  refine bodyPost_ret (by simp [*, results, Try.results22, go_sem]; try rfl) rfl ?_
  refine ⟨rfl, ?_⟩
  have k1 := HK.out
  go_grown
set_option maxHeartbeats 3200000 in
set_option maxRecDepth 100000 in
theorem specRVNo (s : ByteArray) (a : Nat) (w : World) (hs : s.size ≤ 600) (ha : a < s.size) (h : ∀ v, ¬ Stands (s.data.toList.drop a) v) :
    Calls Try.prog 22 #[.string s, .int .i64 a] w fun e w' => e = .returned (.tuple #[.agg #[.int .i64 0, .int .i64 0, .string ⟨#[]⟩], .int .i64 0, .bool false]) ∧ Below w.heap.size w w' := by
  have HR := fun W => specRdNo s a W hs ha h
  have hai : (a : Int) < (s.size : Int) := by omega
  have ha0 : (0 : Int) ≤ (a : Int) := by omega
  have hs6 : ¬ (600 : Int) < (s.size : Int) := by omega
  have hsa : ¬ (s.size : Int) ≤ (a : Int) := by omega
  have han : ¬ (a : Int) < 0 := by omega
  clear h
  go_enter Try.func22, Try.ntmps22
  go_wp2_with fail
  refine (HR _).mono ?_
  rintro e w1 ⟨rfl, hb1⟩
  have q := boxOf1 hb1
  have BR := hid q
  have HK := hid (((Below.refl _ w).alloc (Nat.le_refl _) _).trans (hb1.mono (by simp)))
  clear q hb1 HR
  have BRz := BR.out.1
  have BRc0 := BR.out.2.1 0 _ rfl
  have BRc1 := BR.out.2.1 1 _ rfl
  have BRc2 := BR.out.2.1 2 _ rfl
  have BRf0 := BR.out.2.2 0 (by simp)
  have BRf1 := BR.out.2.2 1 (by simp)
  have BRf2 := BR.out.2.2 2 (by simp)
  have hl1 := HK.out.size
  go_wp2
  (try simp only [Exit.inBlock, Exit.then])
  refine bodyPost_ret (by simp [*, results, Try.results22, go_sem]; try rfl) rfl ?_
  refine ⟨rfl, ?_⟩
  have k1 := HK.out
  go_grown
set_option maxHeartbeats 1600000 in
theorem specRVOut (s : ByteArray) (a : Int) (w : World) (hm : s.size ≤ maxLen) (hw : -9223372036854775808 ≤ a ∧ a ≤ 9223372036854775807) (h : ¬ (s.size ≤ 600 ∧ 0 ≤ a ∧ a < (s.size : Int))) :
    Calls Try.prog 22 #[.string s, .int .i64 a] w fun e w' => e = .returned (.tuple #[.agg #[.int .i64 0, .int .i64 0, .string ⟨#[]⟩], .int .i64 0, .bool false]) ∧ Below w.heap.size w w' := by
  unfold maxLen at hm
  by_cases h1 : (600 : Int) < (s.size : Int)
  · clear h
    go_enter Try.func22, Try.ntmps22
    go_wp2
    (try simp only [Exit.inBlock, Exit.then])
    refine bodyPost_ret (by simp [*, results, Try.results22, go_sem]; try rfl) rfl ?_
    exact ⟨rfl, by go_grown⟩
  by_cases h2 : a < 0
  · clear h
    go_enter Try.func22, Try.ntmps22
    go_wp2
    (try simp only [Exit.inBlock, Exit.then])
    refine bodyPost_ret (by simp [*, results, Try.results22, go_sem]; try rfl) rfl ?_
    exact ⟨rfl, by go_grown⟩
  have h3 : (s.size : Int) ≤ a := by omega
  clear h
  go_enter Try.func22, Try.ntmps22
  go_wp2
  (try simp only [Exit.inBlock, Exit.then])
  refine bodyPost_ret (by simp [*, results, Try.results22, go_sem]; try rfl) rfl ?_
  exact ⟨rfl, by go_grown⟩
end Go.Proofs.Ytolkiofdbdjfkaa
