/- Contracts of the law's own helpers on lists of texts: how much there is of it, a copy, and whether two are alike. Condition: the list lies in memory, its texts no longer than the form's own reach. -/
import Derived.Test.YtkkmnegmghllpaaMix
import Derived.Deep.OwnRows
import Derived.RegionTactic
import Derived.SliceStrings
namespace Go.Proofs.Ytkkmnegmghllpaa
open Go.ChangeShapes Go.WideShapes Go.ChangeAt Go.RowKit Go.Deep
set_option linter.unusedVariables false

/-- The slice value v reads as the texts ss. -/
def StrsAt (w : World) (v : Value) (ss : List ByteArray) : Prop :=
  (∃ a c, v = .slice a 0 c ∧ ss = []) ∨ ∃ b off cap, v = .slice (some ⟨b, off, none⟩) ss.length cap ∧ b < w.heap.size ∧ ∀ i, i < ss.length → w.cell? ⟨b, off + i, none⟩ = some (.string (ss.getD i ByteArray.empty))
theorem StrsAt.below {w w' : World} {v : Value} {ss : List ByteArray} (h : StrsAt w v ss) (hb : Below w.heap.size w w') : StrsAt w' v ss := by
  rcases h with h | ⟨b, off, cap, h1, h2, h3⟩
  · exact .inl h
  · exact .inr ⟨b, off, cap, h1, Nat.lt_of_lt_of_le h2 hb.size, fun i hi => (hb.cell (p := ⟨b, off + i, none⟩) h2).trans (h3 i hi)⟩

/-- What the row's own reading of a list of texts gives. -/
theorem strs_of {H : Type} {enc : TypeId × Value → H} {W : World} {base : Nat} {held : Bool} {ad : Option Addr} {len cap : Nat} {d : DataW H} {p : List MemPlace}
    (h : DataW.Trod enc Try.prog W base (fun _ => true) held 23 (.slice ad len cap) d p) : ∃ ss, StrsAt W (.slice ad len cap) ss ∧ ss.length ≤ maxLen ∧ ∀ s ∈ ss, s.size ≤ maxLen := by
  obtain ⟨fuel, hf⟩ := h
  rcases open_strings Try.underlying23 Try.underlying9 (by kernel_rfl) hf with ⟨hcs, _⟩ | ⟨x, l, c, zs, hcs, _, hl, hm, hz, _, hcell, hwz⟩
  · simp [Value.cells] at hcs
    obtain ⟨rfl, rfl, rfl⟩ := hcs
    exact ⟨[], .inl ⟨_, _, rfl, rfl⟩, by simp, by simp⟩
  · simp [Value.cells] at hcs
    obtain ⟨rfl, rfl, rfl⟩ := hcs
    have hz' : zs.length = cap := by simpa using hz
    refine ⟨zs.take len, ?_, by simp; omega, fun s hs => hwz s (List.mem_of_mem_take hs)⟩
    have hlen : (zs.take len).length = len := by simp; omega
    by_cases h0 : len = 0
    · subst h0
      exact .inl ⟨_, _, rfl, by simp⟩
    · obtain ⟨b, off, spot⟩ := x
      have hc := hcell 0 (by omega)
      have hspot : spot = none := by simpa [Addr.add] using World.cell?_spot hc
      subst hspot
      have hadd : ∀ i, ((⟨b, off, none⟩ : Addr).add i) = ⟨b, off + i, none⟩ := fun i => by simp [Addr.add]
      refine .inr ⟨b, off, cap, by rw [hlen], by rw [hadd] at hc; exact World.block_lt_of_cell? W ⟨b, off + 0, none⟩ hc, fun i hi => ?_⟩
      have := hcell i (by omega)
      rw [hadd] at this
      rw [this]
      have hi' : i < len := by omega
      simp [List.getD, hi']

def sumS (ss : List ByteArray) : Nat := ss.foldl (fun n s => n + s.size) 0
theorem sumS_snoc (ss : List ByteArray) (s : ByteArray) : sumS (ss ++ [s]) = sumS ss + s.size := by simp [sumS]
theorem sumS_append (a b : List ByteArray) : sumS (a ++ b) = sumS a + sumS b := by
  have : ∀ (l : List ByteArray) (n : Nat), l.foldl (fun n s => n + s.size) n = n + l.foldl (fun n s => n + s.size) 0 := by
    intro l
    induction l with
    | nil => intro n; simp
    | cons x l ih => intro n; simp only [List.foldl_cons]; rw [ih (n + x.size), ih (0 + x.size)]; omega
  simp only [sumS, List.foldl_append]; rw [this]
theorem take_snocS (ss : List ByteArray) (k : Nat) (h : k < ss.length) : ss.take (k + 1) = ss.take k ++ [ss.getD k ByteArray.empty] := by
  rw [List.take_succ_eq_append_getElem h]; simp [List.getD, h]
theorem sumS_take (ss : List ByteArray) (k : Nat) : sumS (ss.take k) ≤ sumS ss := by
  have := sumS_append (ss.take k) (ss.drop k); rw [List.take_append_drop] at this; omega
theorem getD_mem (ss : List ByteArray) (k : Nat) (h : k < ss.length) : ss.getD k ByteArray.empty ∈ ss := by simp [List.getD, h]

def szR (ss : List ByteArray) : Int := if ss.length + sumS ss ≤ 1048576 then 1048576 - ((ss.length + sumS ss : Nat) : Int) else -1

set_option maxHeartbeats 1600000 in
theorem szStr (v : Value) (ss : List ByteArray) (w : World) (h : StrsAt w v ss) (hlen : ss.length ≤ maxLen) (hsz : ∀ s ∈ ss, s.size ≤ maxLen) :
    Calls Try.prog 42 #[v, .int .i64 1048576] w fun e w' => e = .returned (.int .i64 (szR ss)) ∧ w' = w := by
  unfold maxLen at hlen
  rcases h with ⟨a0, c0, rfl, rfl⟩ | ⟨b, off, cap, rfl, hb, hcell⟩
  · go_enter Try.func42, Try.ntmps42
    go_wp2
    go_loop [1, 5] (fun x i => i = .int .i64 0 ∧ x = .int .i64 1048576) (fun _ _ => 0)
    case atStart => exact ⟨rfl, rfl⟩
    case round =>
      obtain ⟨rfl, rfl⟩ := hrel
      go_wp2
      go_ret
      exact ⟨rfl, rfl⟩
  · by_cases hbig : 1048576 < ss.length
    · have hl : (1048576 : Int) - (ss.length : Int) < 0 := by omega
      go_enter Try.func42, Try.ntmps42
      go_wp2
      go_ret
      exact ⟨ret_int (by unfold szR; rw [if_neg (by omega)]), rfl⟩
    · have hl : ¬ (1048576 : Int) - (ss.length : Int) < 0 := by omega
      have hl2 : decide ((1048576 : Int) - (ss.length : Int) < 0) = false := by simp; omega
      have HC : Hid (∀ i, i < ss.length → w.cell? ⟨b, off + i, none⟩ = some (.string (ss.getD i ByteArray.empty))) := hcell
      have HZ : Hid (∀ s ∈ ss, s.size ≤ maxLen) := hsz
      clear hcell hsz
      go_enter Try.func42, Try.ntmps42
      go_wp2
      go_loop [1, 5] (fun x i => ∃ k : Nat, k ≤ ss.length ∧ ss.length + sumS (ss.take k) ≤ 1048576 ∧ i = .int .i64 k ∧ x = .int .i64 (1048576 - (ss.length : Int) - (sumS (ss.take k) : Nat))) (fun _ i => ss.length - (intOf i).toNat)
      case atStart => exact ⟨0, Nat.zero_le _, by simp [sumS]; omega, rfl, by simp [sumS]⟩
      case round =>
        obtain ⟨k, hk, hle, rfl, rfl⟩ := hrel
        by_cases hlt : k < ss.length
        · have hc := HC.out k hlt
          have hm := HZ.out _ (getD_mem ss k hlt)
          unfold maxLen at hm
          have HS : Hid (sumS (ss.take (k + 1)) = sumS (ss.take k) + (ss.getD k ByteArray.empty).size) := by
            show _ = _
            rw [take_snocS ss k hlt]; exact sumS_snoc _ _
          have HT : Hid (sumS (ss.take (k + 1)) ≤ sumS ss) := sumS_take ss (k + 1)
          generalize ss.getD k ByteArray.empty = t at *
          generalize sumS (ss.take k) = S at *
          by_cases hout : (1048576 : Int) - (ss.length : Int) - (S : Int) - (t.size : Int) < 0
          · go_wp2
            go_ret
            exact ⟨ret_int (by unfold szR; have h1 := HS.out; have h2 := HT.out; rw [if_neg (by omega)]), rfl⟩
          · go_wp2
            go_round
            case rel => exact ⟨k + 1, by omega, by rw [HS.out]; omega, by go_num, by rw [HS.out]; go_num⟩
            case measure => simp [intOf]; omega
        · have hke : k = ss.length := by omega
          subst hke
          rw [List.take_length] at hle
          go_wp2
          go_ret
          exact ⟨ret_int (by unfold szR; rw [if_pos (by omega)]; omega), rfl⟩

/-- The new row behind k rounds. -/
def fill (ss : List ByteArray) : Nat → Array Value
  | 0 => madeCells #[.string ByteArray.empty] ss.length
  | k + 1 => (fill ss k).setIfInBounds k (.string (ss.getD k ByteArray.empty))
theorem fill_size (ss : List ByteArray) : ∀ k, (fill ss k).size = ss.length
  | 0 => size_madeCells _ _
  | k + 1 => by simp [fill, fill_size ss k]
theorem fill_at (ss : List ByteArray) : ∀ (k i : Nat), i < k → i < ss.length → (fill ss k)[i]? = some (.string (ss.getD i ByteArray.empty))
  | 0, i, h, _ => by omega
  | k + 1, i, h, hi => by
    simp only [fill]
    rw [Array.getElem?_setIfInBounds]
    by_cases e : k = i
    · subst e; simp [fill_size, hi]
    · rw [if_neg e]; exact fill_at ss k i (by omega) hi

set_option maxHeartbeats 1600000 in
theorem toStr (v : Value) (ss : List ByteArray) (w : World) (h : StrsAt w v ss) (hlen : ss.length ≤ 1048576) :
    Calls Try.prog 43 #[v] w fun e w' => ∃ v', e = .returned v' ∧ StrsAt w' v' ss ∧ Below w.heap.size w w' := by
  have hmk := fun w => run_make_row' (P := Try.prog) 23 9 (.string ByteArray.empty) 16 Try.underlying23 (by kernel_rfl) rfl .i64 .i64 ss.length (by omega) (by omega) w
  rcases h with ⟨a0, c0, rfl, rfl⟩ | ⟨b, off, cap, rfl, hb, hcell⟩
  · have hmk0 : ∀ w, (Instr.makeSlice 23 (.int .i64 0) (.int .i64 0)).run Try.prog w = .ok (.slice (some ⟨w.heap.size, 0, none⟩) 0 0) (w.alloc (.cells #[] 9)) := fun w => by
      have := hmk w
      simp only [List.length_nil] at this
      rw [Array.eq_empty_of_size_eq_zero (size_madeCells _ _)] at this
      simpa using this
    clear hmk
    go_enter Try.func43, Try.ntmps43
    go_wp2
    go_loop [4] (fun i => i = .int .i64 0) (fun _ => 0)
    case atStart => rfl
    case round =>
      subst hrel
      go_wp2
      go_ret
      exact ⟨_, rfl, .inr ⟨_, _, _, rfl, by simp, fun i hi => by simp at hi⟩, by go_grown⟩
  · have HC : Hid (∀ i, i < ss.length → w.cell? ⟨b, off + i, none⟩ = some (.string (ss.getD i ByteArray.empty))) := hcell
    clear hcell
    have hne : b ≠ w.heap.size := by omega
    go_enter Try.func43, Try.ntmps43
    go_wp2
    go_loopw [4] (fun i wr => ∃ k : Nat, k ≤ ss.length ∧ i = .int .i64 k ∧ wr = w.alloc (.cells (fill ss k) 9)) (fun i _ => ss.length - (intOf i).toNat)
    case atStart => exact ⟨0, Nat.zero_le _, rfl, rfl⟩
    case round =>
      obtain ⟨k, hk, rfl, rfl⟩ := hrel
      by_cases hlt : k < ss.length
      · have hc := HC.out k hlt
        have hfs := fill_size ss k
        have hsrc : ∀ C, (w.alloc C).cell? ⟨b, off + k, none⟩ = some (.string (ss.getD k ByteArray.empty)) := fun C => by
          rw [((Below.refl w.heap.size w).alloc (Nat.le_refl _) C).cell (p := ⟨b, off + k, none⟩) hb]; exact hc
        go_wp2
        exact ⟨⟨k + 1, by omega, by go_num, by simp [fill, List.getD, hlt]⟩, by simp [intOf]; omega⟩
      · have hke : k = ss.length := by omega
        subst hke
        go_wp2
        go_ret
        refine ⟨_, rfl, .inr ⟨_, _, _, rfl, by simp, fun i hi => ?_⟩, by go_grown⟩
        have := fill_at ss ss.length i hi hi
        simp [World.cell?_alloc_new, this]

/-- Two lists that read alike are told alike. -/
theorem eqStr (v1 v2 : Value) (ss : List ByteArray) (w : World) (h1 : StrsAt w v1 ss) (h2 : StrsAt w v2 ss) (hlen : ss.length ≤ 1048576) :
    Calls Try.prog 39 #[v1, v2] w fun e w' => e = .returned (.bool true) ∧ Below w.heap.size w w' := by
  have hzero : ss = [] → True := fun _ => trivial
  by_cases h0 : ss = []
  · subst h0
    have f1 : ∃ a c, v1 = .slice a 0 c := by rcases h1 with ⟨a, c, rfl, _⟩ | ⟨b, off, cap, rfl, _, _⟩ <;> exact ⟨_, _, rfl⟩
    have f2 : ∃ a c, v2 = .slice a 0 c := by rcases h2 with ⟨a, c, rfl, _⟩ | ⟨b, off, cap, rfl, _, _⟩ <;> exact ⟨_, _, rfl⟩
    obtain ⟨a1, c1, rfl⟩ := f1
    obtain ⟨a2, c2, rfl⟩ := f2
    clear h1 h2 hzero
    go_enter Try.func39, Try.ntmps39
    go_wp2
    go_loop [5] (fun i => i = .int .i64 0) (fun _ => 0)
    case atStart => rfl
    case round =>
      subst hrel
      go_wp2
      go_ret
      exact ⟨rfl, by go_grown⟩
  · rcases h1 with ⟨_, _, _, e⟩ | ⟨b, off, cap, rfl, hb, hcell⟩
    · exact absurd e h0
    rcases h2 with ⟨_, _, _, e⟩ | ⟨b2, off2, cap2, rfl, hb2, hcell2⟩
    · exact absurd e h0
    have HC : Hid (∀ i, i < ss.length → w.cell? ⟨b, off + i, none⟩ = some (.string (ss.getD i ByteArray.empty))) := hcell
    have HD : Hid (∀ i, i < ss.length → w.cell? ⟨b2, off2 + i, none⟩ = some (.string (ss.getD i ByteArray.empty))) := hcell2
    clear hcell hcell2 hzero
    go_enter Try.func39, Try.ntmps39
    go_wp2
    go_loopw [5] (fun i wr => ∃ k : Nat, k ≤ ss.length ∧ i = .int .i64 k ∧ Below w.heap.size w wr) (fun i _ => ss.length - (intOf i).toNat)
    case atStart => exact ⟨0, Nat.zero_le _, rfl, by go_grown⟩
    case round =>
      obtain ⟨k, hk, rfl, kb⟩ := hrel
      by_cases hlt : k < ss.length
      · have hc : wr.cell? ⟨b, off + k, none⟩ = some (.string (ss.getD k ByteArray.empty)) := (kb.cell (p := ⟨b, off + k, none⟩) hb).trans (HC.out k hlt)
        have hd : wr.cell? ⟨b2, off2 + k, none⟩ = some (.string (ss.getD k ByteArray.empty)) := (kb.cell (p := ⟨b2, off2 + k, none⟩) hb2).trans (HD.out k hlt)
        generalize ss.getD k ByteArray.empty = t at *
        go_wp2
        go_region
        go_wp2
        exact ⟨⟨k + 1, by omega, by go_num, by go_grown⟩, by simp [intOf]; omega⟩
      · go_wp2
        go_ret
        exact ⟨rfl, by go_grown⟩
end Go.Proofs.Ytkkmnegmghllpaa
