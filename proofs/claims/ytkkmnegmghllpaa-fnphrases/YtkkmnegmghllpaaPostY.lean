/- Lists of posts of an answer's own: what the laws' walks carry. No condition. -/
import Derived.Test.YtkkmnegmghllpaaPostX
import Derived.Test.YtkkmnegmghllpaaPostG
namespace Go.Proofs.Ytkkmnegmghllpaa
open Go.ChangeShapes Go.WideShapes Go.ChangeAt Go.RowKit Go.Deep
set_option linter.unusedVariables false
attribute [local go_sem ↓] Go.wp_at_zero Go.wp_at_succ

theorem sumS_mem {ss : List ByteArray} {s : ByteArray} (h : s ∈ ss) : s.size ≤ sumS ss := by
  obtain ⟨a, b, rfl⟩ := List.append_of_mem h
  rw [sumS_append, show s :: b = [s] ++ b from rfl, sumS_append]
  simp [sumS]; omega
theorem szStrB (v : Value) (ss : List ByteArray) (z : Nat) (w : World) (h : StrsAt w v ss) (hz : z ≤ 1048576) (hlen : ss.length ≤ maxLen) (hsz : ∀ s ∈ ss, s.size ≤ maxLen) :
    Calls Try.prog 42 #[v, .int .i64 z] w fun e w' => e = .returned (.int .i64 (szRK z ss)) ∧ Below w.heap.size w w' := by
  refine (szStrK v ss z w h hz hlen hsz).mono ?_
  rintro e w' ⟨h1, h2⟩
  exact ⟨h1, by rw [h2]; exact Below.refl _ _⟩
theorem OwnsP.below {base : Nat} {w w' : World} {v : Value} {ps : List Po} {pl : Nat → Value} (h : OwnsP base w v ps pl) (hb : Below w.heap.size w w') : OwnsP base w' v ps pl := OwnPs.below h hb
theorem OwnsP.off {base : Nat} {w w' : World} {v : Value} {ps : List Po} {pl : Nat → Value} {S : List Nat} (h : OwnsP base w v ps pl) (hb : Off S w w') (hd : ∀ x ∈ fpP v ps.length pl, x ∉ S) : OwnsP base w' v ps pl := OwnPs.off h hb hd
theorem OwnsP.lt {base : Nat} {w : World} {v : Value} {ps : List Po} {pl : Nat → Value} (h : OwnsP base w v ps pl) : ∀ x ∈ fpP v ps.length pl, base ≤ x ∧ x < w.heap.size := OwnPs.lt h
theorem OwnsP.slice {base : Nat} {w : World} {v : Value} {ps : List Po} {pl : Nat → Value} (h : OwnsP base w v ps pl) : ∃ a c, v = .slice a ps.length c := OwnPs.slice h
theorem MarkPs.below {base : Nat} {w w' : World} {v : Value} {n q : Nat} {pl : Nat → Value} {ln : Nat → Nat} (h : MarkPs base w v n q pl ln) (hb : Below w.heap.size w w') : MarkPs base w' v n q pl ln := OwnPs.below h hb
/-- Marks on a list that was copied: what it had is gone, and nothing else. -/
theorem markPsA (base q X : Nat) (v : Value) (ps : List Po) (pl : Nat → Value) (w : World) (h : OwnsP base w v ps pl) (hX : X = q + ps.length + sumL ps) (hn : X < 10000000000000) :
    Calls Try.prog 45 #[v, .int .i64 q] w fun e w' => e = .returned (.int .i64 (X : Nat)) ∧ MarkPs base w' v ps.length q pl (fun i => (ps.getD i default).2.length) ∧ Off (fpP v ps.length pl) w w' := by
  have h1 : qAt q (fun i => (ps.getD i default).2.length) ps.length = X := by rw [qAt_sum q ps _ (Nat.le_refl _), List.take_length, hX]
  have h2 := markPos base q ps.length v _ pl _ _ w h (by rw [h1]; omega)
  rw [h1] at h2
  exact h2
theorem heldPsA (base q X : Nat) (v : Value) (ps : List Po) (pl : Nat → Value) (w : World) (h : MarkPs base w v ps.length q pl (fun i => (ps.getD i default).2.length)) (hX : X = q + ps.length + sumL ps) (hn : X < 10000000000000) :
    Calls Try.prog 46 #[v, .int .i64 q] w fun e w' => e = .returned (.int .i64 (X : Nat)) ∧ Below w.heap.size w w' := by
  have h1 : qAt q (fun i => (ps.getD i default).2.length) ps.length = X := by rw [qAt_sum q ps _ (Nat.le_refl _), List.take_length, hX]
  have h2 := heldPos base q ps.length v pl _ w h (by rw [h1]; omega)
  rw [h1] at h2
  exact h2
end Go.Proofs.Ytkkmnegmghllpaa
