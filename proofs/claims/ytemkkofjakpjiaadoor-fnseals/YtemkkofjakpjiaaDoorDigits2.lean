/- Contracts of DigitsOf, program and model. Condition: the table of weights as it is laid. -/
import Derived.Test.YtemkkofjakpjiaaDoorDigits
import Derived.Test.YtemkkofjakpjiaaDoorOwn2
import Derived.Deep.WholeRow
namespace Go.Proofs.YtemkkofjakpjiaaDoor
open Go.ChangeShapes Go.WideShapes Go.ChangeAt Go.RowKit Go.Deep
set_option linter.unusedVariables false

theorem digV_size (s : ByteArray) : (digV s).size = 11 := by simp [digV, digs_len]
theorem digV_at (s : ByteArray) (i : Nat) (h : i < 11) : (digV s)[i]? = some (.int .i64 ((digs s).getD i 0)) := by
  have hl := digs_len s
  simp [digV, List.getD, show i < (digs s).length by omega]
theorem digV_one (s : ByteArray) : (digV s).all (·.oneCell') = true := by simp [digV, Value.oneCell']

set_option maxHeartbeats 1600000 in
theorem implTextNo (s : ByteArray) (w : World) (hm : s.size ≤ maxLen) (hs : 200 < s.size) :
    Calls Tryd.prog 66 #[.string s] w fun e w' => e = .returned (.tuple #[.agg #[.int .i64 0, .int .i64 0, .int .i64 0, .int .i64 0, .int .i64 0, .int .i64 0, .int .i64 0, .int .i64 0, .int .i64 0, .int .i64 0, .int .i64 0], .bool false]) ∧ Below w.heap.size w w' := by
  unfold maxLen at hm
  have h1 : (200 : Int) < (s.size : Int) := by omega
  go_enter Tryd.func66, Tryd.ntmps66
  go_wp2
  go_returns
  exact ⟨rfl, by go_grown⟩
set_option maxHeartbeats 1600000 in
theorem implDigitsNo (s : ByteArray) (w : World) (hm : s.size ≤ maxLen) (hs : 200 < s.size) :
    Calls Tryd.prog 24 #[.string s] w fun e w' => e = .returned (.tuple #[.slice none 0 0, .bool false]) ∧ Below w.heap.size w w' := by
  go_enter Tryd.func24, Tryd.ntmps24
  go_wp2_with fail
  refine (implTextNo s _ hm hs).mono ?_
  rintro e w1 ⟨rfl, hb1⟩
  obtain ⟨hc1, hf1⟩ := bcell hb1
  have hz1 := hb1.size
  try simp only [World.size_drew] at hz1
  try simp only [World.size_setCell] at hz1
  try simp only [World.size_alloc] at hz1
  clear hz1
  have k1 : Below w.heap.size w w1 := by
    refine Below.trans ?_ (hb1.mono ?_)
    · go_grown
    · go_size
  have hl1 : w.heap.size ≤ w1.heap.size := k1.size
  clear hb1
  go_wp2
  go_returns
  exact ⟨rfl, by go_grown⟩
set_option maxHeartbeats 1600000 in
theorem implDigitsYes (s : ByteArray) (w : World) (hs : s.size ≤ 200) (ht : Table w) :
    Calls Tryd.prog 24 #[.string s] w fun e w' => ∃ g cap, e = .returned (.tuple #[.slice (some ⟨g, 0, none⟩) 11 cap, .bool true]) ∧ OwnRow w.heap.size w' g 11 (fun i => .int .i64 ((digs s).getD i 0)) ∧ Below w.heap.size w w' := by
  have HT := implTextYes s w hs ht
  have hsz := digV_size s
  have hst := fun w : World => run_storeCells_new (P := Tryd.prog) w 90 #[.int .i64 0, .int .i64 0, .int .i64 0, .int .i64 0, .int .i64 0, .int .i64 0, .int .i64 0, .int .i64 0, .int .i64 0, .int .i64 0, .int .i64 0] (digV s) (by rw [hsz]; kernel_rfl) (by rw [hsz]; rfl) (digV_one s)
  have HA : Hid (∀ i, i < 11 → (digV s)[i]? = some (.int .i64 ((digs s).getD i 0))) := digV_at s
  clear ht
  generalize digV s = V at *
  go_enter Tryd.func24, Tryd.ntmps24
  go_wp2_with fail
  refine HT.mono ?_
  rintro e w1 ⟨rfl, hb1⟩
  clear HT
  have hl1 := hb1.size
  go_wp2
  go_returns
  refine ⟨_, _, rfl, ⟨hb1.size, by simp, fun i hi => ?_, fun i hi => by simp⟩, by go_grown⟩
  have := HA.out i hi
  simp [World.cell?_alloc_new, this]
end Go.Proofs.YtemkkofjakpjiaaDoor
