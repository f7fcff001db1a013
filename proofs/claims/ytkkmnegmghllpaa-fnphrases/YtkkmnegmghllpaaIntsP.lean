/- What the law's own helpers do with lists of numbers: a copy, and whether two are alike. Condition: the list lies in memory. -/
import Derived.Test.YtkkmnegmghllpaaMix
import Derived.Deep.OwnRows
import Derived.RegionTactic
namespace Go.Proofs.Ytkkmnegmghllpaa
open Go.ChangeShapes Go.WideShapes Go.ChangeAt Go.RowKit Go.Deep
set_option linter.unusedVariables false

/-- The slice value v reads as the numbers zs. -/
def IntsAt (w : World) (v : Value) (zs : List Int) : Prop :=
  (∃ a c, v = .slice a 0 c ∧ zs = []) ∨ ∃ b off cap, v = .slice (some ⟨b, off, none⟩) zs.length cap ∧ b < w.heap.size ∧ ∀ i, i < zs.length → w.cell? ⟨b, off + i, none⟩ = some (.int .i64 (zs.getD i 0))
theorem IntsAt.below {w w' : World} {v : Value} {zs : List Int} (h : IntsAt w v zs) (hb : Below w.heap.size w w') : IntsAt w' v zs := by
  rcases h with h | ⟨b, off, cap, h1, h2, h3⟩
  · exact .inl h
  · exact .inr ⟨b, off, cap, h1, Nat.lt_of_lt_of_le h2 hb.size, fun i hi => (hb.cell (p := ⟨b, off + i, none⟩) h2).trans (h3 i hi)⟩
theorem eqInt (v1 v2 : Value) (zs : List Int) (w : World) (h1 : IntsAt w v1 zs) (h2 : IntsAt w v2 zs) (hlen : zs.length ≤ 1048576) :
    Calls Try.prog 47 #[v1, v2] w fun e w' => e = .returned (.bool true) ∧ Below w.heap.size w w' := by
  by_cases h0 : zs = []
  · subst h0
    have f1 : ∃ a c, v1 = .slice a 0 c := by rcases h1 with ⟨a, c, rfl, _⟩ | ⟨b, off, cap, rfl, _, _⟩ <;> exact ⟨_, _, rfl⟩
    have f2 : ∃ a c, v2 = .slice a 0 c := by rcases h2 with ⟨a, c, rfl, _⟩ | ⟨b, off, cap, rfl, _, _⟩ <;> exact ⟨_, _, rfl⟩
    obtain ⟨a1, c1, rfl⟩ := f1
    obtain ⟨a2, c2, rfl⟩ := f2
    clear h1 h2
    go_enter Try.func47, Try.ntmps47
    go_wp2
    go_loop [5] (fun i => i = .int .i64 0) (fun _ => 0)
    case atStart => rfl
    case round =>
      subst hrel
      go_wp2
      go_ret
      exact ⟨rfl, by go_grown⟩
  · rcases h1 with ⟨_, _, _, e⟩ | ⟨b, off, cap, rfl, hb, hcell⟩
    · exact absurd e h0
    rcases h2 with ⟨_, _, _, e⟩ | ⟨b2, off2, cap2, rfl, hb2, hcell2⟩
    · exact absurd e h0
    have HC : Hid (∀ i, i < zs.length → w.cell? ⟨b, off + i, none⟩ = some (.int .i64 (zs.getD i 0))) := hcell
    have HD : Hid (∀ i, i < zs.length → w.cell? ⟨b2, off2 + i, none⟩ = some (.int .i64 (zs.getD i 0))) := hcell2
    clear hcell hcell2
    go_enter Try.func47, Try.ntmps47
    go_wp2
    go_loopw [5] (fun i wr => ∃ k : Nat, k ≤ zs.length ∧ i = .int .i64 k ∧ Below w.heap.size w wr) (fun i _ => zs.length - (intOf i).toNat)
    case atStart => exact ⟨0, Nat.zero_le _, rfl, by go_grown⟩
    case round =>
      obtain ⟨k, hk, rfl, kb⟩ := hrel
      by_cases hlt : k < zs.length
      · have hc : wr.cell? ⟨b, off + k, none⟩ = some (.int .i64 (zs.getD k 0)) := (kb.cell (p := ⟨b, off + k, none⟩) hb).trans (HC.out k hlt)
        have hd : wr.cell? ⟨b2, off2 + k, none⟩ = some (.int .i64 (zs.getD k 0)) := (kb.cell (p := ⟨b2, off2 + k, none⟩) hb2).trans (HD.out k hlt)
        generalize zs.getD k 0 = t at *
        go_wp2
        go_region
        go_wp2
        exact ⟨⟨k + 1, by omega, by go_num, by go_grown⟩, by simp [intOf]; omega⟩
      · go_wp2
        go_ret
        exact ⟨rfl, by go_grown⟩

/-- What the row's own reading of a list of numbers gives. -/
theorem ints_of {H : Type} {enc : TypeId × Value → H} {W : World} {base : Nat} {held : Bool} {ad : Option Addr} {len cap : Nat} {d : DataW H} {p : List MemPlace}
    (h : DataW.Trod enc Try.prog W base (fun _ => true) held 37 (.slice ad len cap) d p) : ∃ zs, IntsAt W (.slice ad len cap) zs ∧ zs.length ≤ maxLen := by
  obtain ⟨fuel, hf⟩ := h
  rcases open_ints Try.underlying37 Try.underlying3 (by kernel_rfl) hf with ⟨hcs, _⟩ | ⟨x, l, c, zs, hcs, _, hl, hm, hz, _, hcell, hwz⟩
  · simp [Value.cells] at hcs
    obtain ⟨rfl, rfl, rfl⟩ := hcs
    exact ⟨[], .inl ⟨_, _, rfl, rfl⟩, by simp⟩
  · simp [Value.cells] at hcs
    obtain ⟨rfl, rfl, rfl⟩ := hcs
    have hz' : zs.length = cap := by simpa using hz
    refine ⟨zs.take len, ?_, by simp; omega⟩
    have hlen : (zs.take len).length = len := by simp; omega
    by_cases h0 : len = 0
    · subst h0
      exact .inl ⟨_, _, rfl, by simp⟩
    · obtain ⟨b, off, spot⟩ := x
      have hc := hcell 0 (by omega)
      have hspot : spot = none := by simpa [Addr.add] using World.cell?_spot hc
      subst hspot
      have hadd : ∀ i, ((⟨b, off, none⟩ : Addr).add i) = ⟨b, off + i, none⟩ := fun i => by simp [Addr.add]
      refine .inr ⟨b, off, cap, by rw [hlen], by rw [hadd] at hc; exact World.block_lt_of_cell? W ⟨b, off + 0, none⟩ hc, fun i hi => ?_⟩
      have := hcell i (by omega)
      rw [hadd] at this
      rw [this]
      have hi' : i < len := by omega
      simp [List.getD, hi']
/-- The new row behind k rounds. -/
def fillZ (zs : List Int) : Nat → Array Value
  | 0 => madeCells #[.int .i64 0] zs.length
  | k + 1 => (fillZ zs k).setIfInBounds k (.int .i64 (zs.getD k 0))
theorem fillZ_size (zs : List Int) : ∀ k, (fillZ zs k).size = zs.length
  | 0 => size_madeCells _ _
  | k + 1 => by simp [fillZ, fillZ_size zs k]
theorem fillZ_at (zs : List Int) : ∀ (k i : Nat), i < k → i < zs.length → (fillZ zs k)[i]? = some (.int .i64 (zs.getD i 0))
  | 0, i, h, _ => by omega
  | k + 1, i, h, hi => by
    simp only [fillZ]
    rw [Array.getElem?_setIfInBounds]
    by_cases e : k = i
    · subst e; simp [fillZ_size, hi]
    · rw [if_neg e]; exact fillZ_at zs k i (by omega) hi
set_option maxHeartbeats 1600000 in
theorem toInt (v : Value) (zs : List Int) (w : World) (h : IntsAt w v zs) (hlen : zs.length ≤ 1048576) :
    Calls Try.prog 90 #[v] w fun e w' => ∃ v', e = .returned v' ∧ IntsAt w' v' zs ∧ Below w.heap.size w w' := by
  have hmk := fun w => run_make_row' (P := Try.prog) 37 3 (.int .i64 0) 8 Try.underlying37 (by kernel_rfl) rfl .i64 .i64 zs.length (by omega) (by omega) w
  rcases h with ⟨a0, c0, rfl, rfl⟩ | ⟨b, off, cap, rfl, hb, hcell⟩
  · have hmk0 : ∀ w, (Instr.makeSlice 37 (.int .i64 0) (.int .i64 0)).run Try.prog w = .ok (.slice (some ⟨w.heap.size, 0, none⟩) 0 0) (w.alloc (.cells #[] 3)) := fun w => by
      have := hmk w
      simp only [List.length_nil] at this
      rw [Array.eq_empty_of_size_eq_zero (size_madeCells _ _)] at this
      simpa using this
    clear hmk
    go_enter Try.func90, Try.ntmps90
    go_wp2
    go_loop [4] (fun i => i = .int .i64 0) (fun _ => 0)
    case atStart => rfl
    case round =>
      subst hrel
      go_wp2
      go_ret
      exact ⟨_, rfl, .inr ⟨_, _, _, rfl, by simp, fun i hi => by simp at hi⟩, by go_grown⟩
  · have HC : Hid (∀ i, i < zs.length → w.cell? ⟨b, off + i, none⟩ = some (.int .i64 (zs.getD i 0))) := hcell
    clear hcell
    have hne : b ≠ w.heap.size := by omega
    go_enter Try.func90, Try.ntmps90
    go_wp2
    go_loopw [4] (fun i wr => ∃ k : Nat, k ≤ zs.length ∧ i = .int .i64 k ∧ wr = w.alloc (.cells (fillZ zs k) 3)) (fun i _ => zs.length - (intOf i).toNat)
    case atStart => exact ⟨0, Nat.zero_le _, rfl, rfl⟩
    case round =>
      obtain ⟨k, hk, rfl, rfl⟩ := hrel
      by_cases hlt : k < zs.length
      · have hc := HC.out k hlt
        have hfs := fillZ_size zs k
        have hsrc : ∀ C, (w.alloc C).cell? ⟨b, off + k, none⟩ = some (.int .i64 (zs.getD k 0)) := fun C => by
          rw [((Below.refl w.heap.size w).alloc (Nat.le_refl _) C).cell (p := ⟨b, off + k, none⟩) hb]; exact hc
        go_wp2
        exact ⟨⟨k + 1, by omega, by go_num, by simp [fillZ, List.getD, hlt]⟩, by simp [intOf]; omega⟩
      · have hke : k = zs.length := by omega
        subst hke
        go_wp2
        go_ret
        refine ⟨_, rfl, .inr ⟨_, _, _, rfl, by simp, fun i hi => ?_⟩, by go_grown⟩
        have := fillZ_at zs zs.length i hi hi
        simp [World.cell?_alloc_new, this]
end Go.Proofs.Ytkkmnegmghllpaa
