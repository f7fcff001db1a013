/- The functions of chapter 1, program beside model: one answer for both. Condition: the table of weights as it is laid. -/
import Derived.Test.YtmnebdgoombfoaaDoorDoor
import Derived.Test.YtmnebdgoombfoaaDoorBytes
import Derived.Test.YtmnebdgoombfoaaDoorJoin
import Derived.Test.YtmnebdgoombfoaaDoorDigest
namespace Go.Proofs.YtmnebdgoombfoaaDoor
open Go.ChangeShapes Go.WideShapes Go.ChangeAt Go.RowKit
set_option linter.unusedVariables false

/-- Two mixes that were fed apart are put together. -/
theorem join_feed (p q : Int) (hp : 0 ≤ p ∧ p ≤ 65520) (hq : 0 ≤ q ∧ q ≤ 65520) (m : List UInt8) :
    joinA p (feed (1, 0) m).1 = (feed (p, q) m).1 ∧ joinB p q (feed (1, 0) m).2 (m.length : Int) = (feed (p, q) m).2 := by
  rw [feed_piece 1 0 m (by omega) (by omega), feed_piece p q m hp hq]
  unfold joinA joinB
  simp only []
  have r1 : (m.length : Int) * (p + 65520) = (m.length : Int) * p + (m.length : Int) * 65520 := Int.mul_add _ _ _
  rw [r1]
  generalize (m.length : Int) * p = u
  generalize wt (m.length : Int) m = W
  generalize sumL m = S
  constructor <;> omega

theorem feedBoth (a b l : Int) (s : ByteArray) (hs : s.size ≤ maxLen) : ∃ (X Y Z : Int) (O : Bool),
    (∀ w, Table w → Calls Tryd.prog 10 #[.agg #[.int .i64 a, .int .i64 b, .int .i64 l], .string s] w fun e w' => e = .returned (.tuple #[.agg #[.int .i64 X, .int .i64 Y, .int .i64 Z], .bool O]) ∧ Below w.heap.size w w') ∧
    (∀ w, Calls Tryd.prog 11 #[.agg #[.int .i64 a, .int .i64 b, .int .i64 l], .string s] w fun e w' => e = .returned (.tuple #[.agg #[.int .i64 X, .int .i64 Y, .int .i64 Z], .bool O]) ∧ Below w.heap.size w w') ∧
    (O = true → goodB a b l = true ∧ s.size ≤ 600 ∧ l + s.size ≤ 1000000 ∧ X = (feed (a, b) s.data.toList).1 ∧ Y = (feed (a, b) s.data.toList).2 ∧ Z = l + s.size) := by
  by_cases h : FeedNo a b l s.size
  · exact ⟨0, 0, 0, false, fun w _ => implFeedNo a b l s w hs h, fun w => specFeedNo a b l s w hs h, fun e => absurd e (by decide)⟩
  · obtain ⟨h1, h2, h3⟩ := notFeedNo h
    exact ⟨_, _, _, true, fun w ht => implFeedYes a b l s w h1 h2 h3 ht, fun w => specFeedYes a b l s w h1 h2 h3, fun _ => ⟨h1, h2, h3, rfl, rfl, rfl⟩⟩

theorem feedYesL (a b l : Int) (s : ByteArray) (X Y Z : Int) (h1 : goodB a b l = true) (h2 : s.size ≤ 600) (h3 : l + s.size ≤ 1000000) (hX : feed (a, b) s.data.toList = (X, Y)) (hZ : l + s.size = Z) (w : World) (ht : Table w) :
    Calls Tryd.prog 10 #[.agg #[.int .i64 a, .int .i64 b, .int .i64 l], .string s] w fun e w' => e = .returned (.tuple #[.agg #[.int .i64 X, .int .i64 Y, .int .i64 Z], .bool true]) ∧ Below w.heap.size w w' := by
  have h := implFeedYes a b l s w h1 h2 h3 ht
  rw [hX, hZ] at h
  exact h
theorem joinYesL (aa ab al ba bb bl X Y Z : Int) (h1 : goodB aa ab al = true) (h2 : goodB ba bb bl = true) (h3 : al + bl ≤ 1000000) (hX : joinA aa ba = X) (hY : joinB aa ab bb bl = Y) (hZ : al + bl = Z) (w : World) :
    Calls Tryd.prog 15 #[.agg #[.int .i64 aa, .int .i64 ab, .int .i64 al], .agg #[.int .i64 ba, .int .i64 bb, .int .i64 bl]] w fun e w' => e = .returned (.tuple #[.agg #[.int .i64 X, .int .i64 Y, .int .i64 Z], .bool true]) ∧ Below w.heap.size w w' := by
  have h := implJoinYes aa ab al ba bb bl w h1 h2 h3
  rw [hX, hY, hZ] at h
  exact h
theorem goodYesL (a b l : Int) (h : goodB a b l = true) (w : World) :
    Calls Tryd.prog 12 #[.agg #[.int .i64 a, .int .i64 b, .int .i64 l]] w fun e w' => e = .returned (.bool true) ∧ Below w.heap.size w w' := by
  have h2 := implGood a b l w
  rw [h] at h2
  exact h2
/-- A text that is cut, fed apart and put together. -/
theorem cut_feed (a b l : Int) (s : ByteArray) (K : Nat) (hK : K ≤ s.size) (h1 : goodB a b l = true) (h2 : s.size ≤ 600) (h3 : l + s.size ≤ 1000000) : ∃ P Q R A B C : Int,
    goodB P Q R = true ∧ goodB A B C = true ∧ goodB (feed (a, b) s.data.toList).1 (feed (a, b) s.data.toList).2 (l + s.size) = true ∧
    feed (a, b) (s.extract 0 K).data.toList = (P, Q) ∧ l + ((s.extract 0 K).size : Int) = R ∧
    feed (P, Q) (s.extract K s.size).data.toList = ((feed (a, b) s.data.toList).1, (feed (a, b) s.data.toList).2) ∧ R + ((s.extract K s.size).size : Int) = l + s.size ∧
    feed (1, 0) (s.extract K s.size).data.toList = (A, B) ∧ 0 + ((s.extract K s.size).size : Int) = C ∧
    joinA P A = (feed (a, b) s.data.toList).1 ∧ joinB P Q B C = (feed (a, b) s.data.toList).2 ∧ R + C = l + s.size := by
  obtain ⟨ha0, ha1, hb0, hb1, hl0, hl1⟩ := goodB_true.1 h1
  have e0 : (s.extract 0 K).data.toList = s.data.toList.take K := by rw [extract_bytes s 0 K hK, List.drop_zero]
  have z0 : (s.extract 0 K).size = K := by simp; omega
  have z1 : (s.extract K s.size).size = s.size - K := by simp
  have f0 := feed_in (a, b) (s.data.toList.take K) ⟨ha0, ha1⟩ ⟨hb0, hb1⟩
  have fw := feed_in (a, b) s.data.toList ⟨ha0, ha1⟩ ⟨hb0, hb1⟩
  have on := feed_on (a, b) s K s.size hK (Nat.le_refl _)
  rw [List.take_of_length_le (show s.data.toList.length ≤ s.size by simp)] at on
  have f1 := feed_in (1, 0) (s.extract K s.size).data.toList (by simp only []; omega) (by simp only []; omega)
  have ml : ((s.extract K s.size).data.toList.length : Int) = (s.size : Int) - K := by
    have : (s.extract K s.size).data.toList.length = s.size - K := by rw [Array.length_toList]; exact z1
    omega
  have jf := join_feed (feed (a, b) (s.data.toList.take K)).1 (feed (a, b) (s.data.toList.take K)).2 f0.1 f0.2 (s.extract K s.size).data.toList
  rw [ml] at jf
  rw [show ((feed (a, b) (s.data.toList.take K)).1, (feed (a, b) (s.data.toList.take K)).2) = feed (a, b) (s.data.toList.take K) from rfl, on] at jf
  refine ⟨(feed (a, b) (s.data.toList.take K)).1, (feed (a, b) (s.data.toList.take K)).2, l + K, (feed (1, 0) (s.extract K s.size).data.toList).1, (feed (1, 0) (s.extract K s.size).data.toList).2, (s.size : Int) - K, ?_, ?_, ?_, ?_, ?_, ?_, ?_, rfl, ?_, jf.1, jf.2, ?_⟩
  · exact goodB_true.2 ⟨f0.1.1, f0.1.2, f0.2.1, f0.2.2, by omega, by omega⟩
  · exact goodB_true.2 ⟨f1.1.1, f1.1.2, f1.2.1, f1.2.2, by omega, by omega⟩
  · exact goodB_true.2 ⟨fw.1.1, fw.1.2, fw.2.1, fw.2.2, by omega, by omega⟩
  · rw [e0]
  · rw [z0]
  · exact on
  · rw [z1]; omega
  · rw [z1]; omega
  · omega

theorem joinBoth (aa ab al ba bb bl : Int) : ∃ (X Y Z : Int) (O : Bool),
    (∀ w, Calls Tryd.prog 15 #[.agg #[.int .i64 aa, .int .i64 ab, .int .i64 al], .agg #[.int .i64 ba, .int .i64 bb, .int .i64 bl]] w fun e w' => e = .returned (.tuple #[.agg #[.int .i64 X, .int .i64 Y, .int .i64 Z], .bool O]) ∧ Below w.heap.size w w') ∧
    (∀ w, Calls Tryd.prog 17 #[.agg #[.int .i64 aa, .int .i64 ab, .int .i64 al], .agg #[.int .i64 ba, .int .i64 bb, .int .i64 bl]] w fun e w' => e = .returned (.tuple #[.agg #[.int .i64 X, .int .i64 Y, .int .i64 Z], .bool O]) ∧ Below w.heap.size w w') := by
  by_cases h : JoinNo aa ab al ba bb bl
  · exact ⟨0, 0, 0, false, fun w => implJoinNo aa ab al ba bb bl w h, fun w => specJoinNo aa ab al ba bb bl w h⟩
  · have g1 : goodB aa ab al = true := by
      cases e : goodB aa ab al
      · exact absurd (.inl e) h
      · rfl
    have g2 : goodB ba bb bl = true := by
      cases e : goodB ba bb bl
      · exact absurd (.inr (.inl ⟨g1, e⟩)) h
      · rfl
    have g3 : al + bl ≤ 1000000 := by
      rcases Int.lt_or_le 1000000 (al + bl) with e | e
      · exact absurd (.inr (.inr ⟨g1, g2, e⟩)) h
      · exact e
    exact ⟨_, _, _, true, fun w => implJoinYes aa ab al ba bb bl w g1 g2 g3, fun w => specJoinYes aa ab al ba bb bl w g1 g2 g3⟩

theorem newBoth (k : Int) : ∃ (X Y Z : Int) (O : Bool),
    (∀ w, Calls Tryd.prog 19 #[.int .u8 k] w fun e w' => e = .returned (.tuple #[.agg #[.int .i64 X, .int .i64 Y, .int .i64 Z], .bool O]) ∧ Below w.heap.size w w') ∧
    (∀ w, Calls Tryd.prog 20 #[.int .u8 k] w fun e w' => e = .returned (.tuple #[.agg #[.int .i64 X, .int .i64 Y, .int .i64 Z], .bool O]) ∧ Below w.heap.size w w') := by
  by_cases h : 97 ≤ k ∧ k ≤ 122
  · exact ⟨_, _, _, true, fun w => implNewYes k w h.1 h.2, fun w => specNewYes k w h.1 h.2⟩
  · exact ⟨_, _, _, false, fun w => implNewNo k w h, fun w => specNewNo k w h⟩

theorem endBoth (a b l : Int) : ∃ (S : ByteArray) (O : Bool),
    (∀ w, Calls Tryd.prog 22 #[.agg #[.int .i64 a, .int .i64 b, .int .i64 l]] w fun e w' => e = .returned (.tuple #[.string S, .bool O]) ∧ Below w.heap.size w w') ∧
    (∀ w, Calls Tryd.prog 23 #[.agg #[.int .i64 a, .int .i64 b, .int .i64 l]] w fun e w' => e = .returned (.tuple #[.string S, .bool O]) ∧ Below w.heap.size w w') ∧ (O = true → S.size = 4) := by
  cases h : goodB a b l
  · exact ⟨_, false, fun w => implEndNo a b l w h, fun w => specEndNo a b l w h, fun e => absurd e (by decide)⟩
  · exact ⟨_, true, fun w => implEndYes a b l w h, fun w => specEndYes a b l w h, fun _ => strOfNums_size _⟩

end Go.Proofs.YtmnebdgoombfoaaDoor
