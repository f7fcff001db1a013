/- Contracts of CheckOnce, program and model. Condition: the table of weights as it is laid; the sign lies in memory. -/
import Derived.Test.YtemkkofjakpjiaaDoorFrom2
namespace Go.Proofs.YtemkkofjakpjiaaDoor
open Go.ChangeShapes Go.WideShapes Go.ChangeAt Go.RowKit Go.Deep
set_option linter.unusedVariables false

def CheckYes (p t : ByteArray) (ss : List ByteArray) : Prop := p.size = 4 ∧ FromYes t ss
set_option maxHeartbeats 1600000 in
theorem specCheckYes (p t : ByteArray) (v : Value) (ss : List ByteArray) (w : World) (h : StrsAt w v ss) (hlen : ss.length ≤ 1048576) (hy : CheckYes p t ss) :
    Calls Tryd.prog 27 #[.string p, .string t, v] w fun e w' => e = .returned (.tuple #[.bool ((fromB t ss).toList == p.toList), .bool true]) ∧ Below w.heap.size w w' := by
  have HS := fun W hW => specGoodSign v ss W hW hlen
  rw [goodSB_true.2 hy.2.2] at HS
  have hp : (p.size : Int) = 4 := by have := hy.1; omega
  have HF := fun b off cap W hb hcell hss => specL2From t ss b off cap W hy.2.1 hb hcell hss
  generalize fromB t ss = F at *
  go_enter Tryd.func27, Tryd.ntmps27
  go_wp2_with fail
  refine (specLongYes t _ hy.2.1).mono ?_
  rintro e w0 ⟨rfl, rfl⟩
  go_wp2_with fail
  refine (HS _ h).mono ?_
  rintro e w1 ⟨rfl, hb1⟩
  have hl1 := hb1.size
  obtain ⟨b, off, cap, rfl, hb, hcell, hss⟩ := goodS_row (h.below hb1) hy.2.2
  clear HS h
  go_wp2_with fail
  refine (HF b off cap _ hb hcell hss).mono ?_
  rintro e w2 ⟨rfl, hb2⟩
  clear hcell hss HF
  go_wp2
  go_returns
  exact ⟨rfl, hb1.trans (hb2.mono hl1)⟩
set_option maxHeartbeats 1600000 in
theorem specCheckNo (p t : ByteArray) (v : Value) (ss : List ByteArray) (w : World) (hmp : p.size ≤ maxLen) (hm : t.size ≤ maxLen) (h : StrsAt w v ss) (hlen : ss.length ≤ 1048576) (hn : ¬ CheckYes p t ss) :
    Calls Tryd.prog 27 #[.string p, .string t, v] w fun e w' => e = .returned (.tuple #[.bool false, .bool false]) ∧ Below w.heap.size w w' := by
  unfold maxLen at hmp
  by_cases h0 : p.size = 4
  · have hp : (p.size : Int) = 4 := by omega
    by_cases h1 : t.size ≤ 200
    · have HS := fun W hW => specGoodSign v ss W hW hlen
      rw [goodSB_false (fun g => hn ⟨h0, h1, g⟩)] at HS
      go_enter Tryd.func27, Tryd.ntmps27
      go_wp2_with fail
      refine (specLongYes t _ h1).mono ?_
      rintro e w0 ⟨rfl, rfl⟩
      go_wp2_with fail
      refine (HS _ h).mono ?_
      rintro e w1 ⟨rfl, hb1⟩
      clear HS
      go_wp2
      go_returns
      exact ⟨rfl, hb1⟩
    · go_enter Tryd.func27, Tryd.ntmps27
      go_wp2_with fail
      refine (specLongNo t _ hm (by omega)).mono ?_
      rintro e w0 ⟨rfl, rfl⟩
      go_wp2
      go_returns
      exact ⟨rfl, by go_grown⟩
  · have hp : ¬ (p.size : Int) = 4 := by omega
    clear h
    go_enter Tryd.func27, Tryd.ntmps27
    go_wp2
    go_returns
    exact ⟨rfl, by go_grown⟩
set_option maxHeartbeats 1600000 in
theorem implCheckYes (p t : ByteArray) (v : Value) (ss : List ByteArray) (w : World) (h : StrsAt w v ss) (hlen : ss.length ≤ 1048576) (hy : CheckYes p t ss) (ht : Table w) :
    Calls Tryd.prog 22 #[.string p, .string t, v] w fun e w' => e = .returned (.tuple #[.bool ((fromB t ss).toList == p.toList), .bool true]) ∧ Below w.heap.size w w' := by
  have hp : (p.size : Int) = 4 := by have := hy.1; omega
  have HF := implFromYes t v ss w h hlen hy.2 ht
  clear h ht
  generalize fromB t ss = F at *
  go_enter Tryd.func22, Tryd.ntmps22
  go_wp2_with fail
  refine HF.mono ?_
  rintro e w1 ⟨rfl, hb1⟩
  clear HF
  go_wp2
  go_returns
  exact ⟨rfl, hb1⟩
set_option maxHeartbeats 1600000 in
theorem implCheckNo (p t : ByteArray) (v : Value) (ss : List ByteArray) (w : World) (hmp : p.size ≤ maxLen) (hm : t.size ≤ maxLen) (h : StrsAt w v ss) (hlen : ss.length ≤ 1048576) (hn : ¬ CheckYes p t ss) (ht : Table w) :
    Calls Tryd.prog 22 #[.string p, .string t, v] w fun e w' => e = .returned (.tuple #[.bool false, .bool false]) ∧ Below w.heap.size w w' := by
  unfold maxLen at hmp
  by_cases h0 : p.size = 4
  · have hp : (p.size : Int) = 4 := by omega
    have HF := implFromNo t v ss w hm h hlen (fun g => hn ⟨h0, g⟩) ht
    clear h ht
    go_enter Tryd.func22, Tryd.ntmps22
    go_wp2_with fail
    refine HF.mono ?_
    rintro e w1 ⟨rfl, hb1⟩
    clear HF
    go_wp2
    go_returns
    exact ⟨rfl, hb1⟩
  · have hp : ¬ (p.size : Int) = 4 := by omega
    clear h
    go_enter Tryd.func22, Tryd.ntmps22
    go_wp2
    go_returns
    exact ⟨rfl, by go_grown⟩
end Go.Proofs.YtemkkofjakpjiaaDoor
