/- DigestOf, ClashOf and ListDigest, program beside model: one answer for both; and two texts that clash whatever stands around. Condition: the table of weights as it is laid. -/
import Derived.Test.YtmnebdgoombfoaaDoorBoth
import Derived.Test.YtmnebdgoombfoaaDoorClash
import Derived.Test.YtmnebdgoombfoaaDoorDrawsC2
namespace Go.Proofs.YtmnebdgoombfoaaDoor
open Go.ChangeShapes Go.WideShapes Go.ChangeAt Go.RowKit
set_option linter.unusedVariables false

theorem digestBoth (k : Int) (s : ByteArray) (hs : s.size ≤ maxLen) : ∃ (D : ByteArray) (O : Bool),
    (∀ w, Table w → Calls Tryd.prog 25 #[.int .u8 k, .string s] w fun e w' => e = .returned (.tuple #[.string D, .bool O]) ∧ Below w.heap.size w w') ∧
    (∀ w, Calls Tryd.prog 26 #[.int .u8 k, .string s] w fun e w' => e = .returned (.tuple #[.string D, .bool O]) ∧ Below w.heap.size w w') ∧
    (O = true → 97 ≤ k ∧ k ≤ 122 ∧ s.size ≤ 600) := by
  by_cases h : DigestNo k s.size
  · exact ⟨_, false, fun w _ => implDigestNo k s w hs h, fun w => specDigestNo k s w hs h, fun e => absurd e (by decide)⟩
  · obtain ⟨h0, h1, h2⟩ := notDigestNo h
    exact ⟨_, true, fun w ht => implDigestYes k s w h0 h1 h2 ht, fun w => specDigestYes k s w h0 h1 h2, fun _ => ⟨h0, h1, h2⟩⟩

theorem clashBoth (k : Int) (a b : ByteArray) (ha : a.size ≤ maxLen) (hb : b.size ≤ maxLen) : ∃ (C O : Bool),
    (∀ w, Table w → Calls Tryd.prog 27 #[.int .u8 k, .string a, .string b] w fun e w' => e = .returned (.tuple #[.bool C, .bool O]) ∧ Below w.heap.size w w') ∧
    (∀ w, Calls Tryd.prog 29 #[.int .u8 k, .string a, .string b] w fun e w' => e = .returned (.tuple #[.bool C, .bool O]) ∧ Below w.heap.size w w') ∧
    (O = true → 97 ≤ k ∧ k ≤ 122 ∧ a.size ≤ 600 ∧ b.size ≤ 600 ∧ C = clashB k a b) := by
  by_cases h : ClashNo k a.size b.size
  · exact ⟨_, false, fun w ht => implClashNo k a b w ha hb h ht, fun w => specClashNo k a b w ha hb h, fun e => absurd e (by decide)⟩
  · obtain ⟨h0, h1, h2⟩ := notDigestNo (fun e => h (.inl e))
    have h3 : b.size ≤ 600 := by
      rcases Nat.lt_or_ge 600 b.size with e | e
      · exact absurd (.inr ⟨h0, h1, h2, e⟩) h
      · exact e
    exact ⟨_, true, fun w ht => implClashYes k a b w h0 h1 h2 h3 ht, fun w => specClashYes k a b w h0 h1 h2 h3, fun _ => ⟨h0, h1, h2, h3, rfl⟩⟩

theorem listBoth (k : Int) (x : Value) (ss : List ByteArray) (hl : ss.length ≤ 21) (hall : ∀ s ∈ ss, s.size ≤ 101) : ∃ (D : ByteArray) (O : Bool),
    (∀ w, StrsAt w x ss → Table w → Calls Tryd.prog 31 #[.int .u8 k, x] w fun e w' => e = .returned (.tuple #[.string D, .bool O]) ∧ Below w.heap.size w w') ∧
    (∀ w, StrsAt w x ss → Calls Tryd.prog 32 #[.int .u8 k, x] w fun e w' => e = .returned (.tuple #[.string D, .bool O]) ∧ Below w.heap.size w w') := by
  have hm : ∀ s ∈ ss, s.size ≤ maxLen := fun s hs => by have := hall s hs; unfold maxLen; omega
  by_cases h : ListYes k ss
  · exact ⟨_, true, fun w hs ht => implListYes k x ss w hs hm h ht, fun w hs => specListYes k x ss w hs (by omega) hm h.1 h.2.1 h.2.2.1 h.2.2.2.1 h.2.2.2.2⟩
  · exact ⟨_, false, fun w hs _ => implListNo k x ss w hs (by omega) hm h, fun w hs => specListNo k x ss w hs (by omega) hm h⟩

def acaB : ByteArray := ⟨#[97, 99, 97]⟩
def babB : ByteArray := ⟨#[98, 97, 98]⟩
theorem feed_aca (p : Int × Int) : feed p [97, 99, 97] = feed p [98, 97, 98] := by
  obtain ⟨a, b⟩ := p
  simp only [feed, List.foldl_cons, List.foldl_nil, step]
  have e1 : ((97 : UInt8).toNat : Int) = 97 := rfl
  have e2 : ((98 : UInt8).toNat : Int) = 98 := rfl
  have e3 : ((99 : UInt8).toNat : Int) = 99 := rfl
  rw [e1, e2, e3]
  refine Prod.ext ?_ ?_
  · simp only []; omega
  · simp only []; omega
theorem digest_aca (k : Int) (x y : ByteArray) : digestB k (x ++ acaB ++ y) = digestB k (x ++ babB ++ y) := by
  have h : feed (k + 1, k + 1) (x ++ acaB ++ y).data.toList = feed (k + 1, k + 1) (x ++ babB ++ y).data.toList := by
    simp only [ByteArray.data_append, Array.toList_append]
    rw [feed_append, feed_append, feed_append, feed_append]
    rw [show acaB.data.toList = [97, 99, 97] from rfl, show babB.data.toList = [98, 97, 98] from rfl, feed_aca]
  unfold digestB
  rw [h]
theorem clash_aca (k : Int) (x y : ByteArray) : clashB k (x ++ acaB ++ y) (x ++ babB ++ y) = true := by
  unfold clashB
  rw [digest_aca]
  have hne : (x ++ acaB ++ y).toList ≠ (x ++ babB ++ y).toList := by
    rw [Lib.toList_data, Lib.toList_data]
    simp only [ByteArray.data_append, Array.toList_append]
    rw [show acaB.data.toList = [97, 99, 97] from rfl, show babB.data.toList = [98, 97, 98] from rfl]
    simp
  simp [hne]
theorem clash_self (k : Int) (s : ByteArray) : clashB k s s = false := by simp [clashB]
theorem clashAca (k : Int) (x y : ByteArray) (w : World) (h0 : 97 ≤ k) (h1 : k ≤ 122) (ha : (x ++ ⟨#[97, 99, 97]⟩ ++ y).size ≤ 600) (hb : (x ++ ⟨#[98, 97, 98]⟩ ++ y).size ≤ 600) (ht : Table w) :
    Calls Tryd.prog 27 #[.int .u8 k, .string (x ++ ⟨#[97, 99, 97]⟩ ++ y), .string (x ++ ⟨#[98, 97, 98]⟩ ++ y)] w fun e w' => e = .returned (.tuple #[.bool true, .bool true]) ∧ Below w.heap.size w w' := by
  have h := implClashYes k (x ++ ⟨#[97, 99, 97]⟩ ++ y) (x ++ ⟨#[98, 97, 98]⟩ ++ y) w h0 h1 ha hb ht
  rw [show clashB k (x ++ ⟨#[97, 99, 97]⟩ ++ y) (x ++ ⟨#[98, 97, 98]⟩ ++ y) = true from clash_aca k x y] at h
  exact h
theorem clashSelf (k : Int) (s : ByteArray) (w : World) (h0 : 97 ≤ k) (h1 : k ≤ 122) (ha : s.size ≤ 600) (ht : Table w) :
    Calls Tryd.prog 27 #[.int .u8 k, .string s, .string s] w fun e w' => e = .returned (.tuple #[.bool false, .bool true]) ∧ Below w.heap.size w w' := by
  have h := implClashYes k s s w h0 h1 ha ha ht
  rw [clash_self] at h
  exact h
theorem clash_true {k : Int} {a b : ByteArray} (h : clashB k a b = true) : (a.toList == b.toList) = false ∧ (digestB k a).toList = (digestB k b).toList := by
  unfold clashB at h
  simp only [Bool.and_eq_true, Bool.not_eq_true', beq_iff_eq] at h
  exact ⟨by simpa using h.1, h.2⟩
end Go.Proofs.YtmnebdgoombfoaaDoor
