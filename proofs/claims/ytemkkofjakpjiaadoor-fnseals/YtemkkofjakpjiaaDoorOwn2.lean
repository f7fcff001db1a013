/- What the laws' own helpers tell of lists of texts and of numbers: held marks, and alike. Condition: the lists lie in memory. -/
import Derived.Test.YtemkkofjakpjiaaDoorOwn
import Derived.Deep.DeepCutAuto
import Derived.Deep.DrawnRows
namespace Go.Proofs.YtemkkofjakpjiaaDoor
open Go.ChangeShapes Go.WideShapes Go.ChangeAt Go.RowKit Go.Deep Go.Lib
set_option linter.unusedVariables false
attribute [local go_sem ↓] Go.wp_at_zero Go.wp_at_succ

theorem heldStr (base g n cap : Nat) (w : World) (h : OwnRow base w g n (fun i => .string (mkT (i + 1)))) (hn : n ≤ 90) :
    Calls Tryd.prog 55 #[.slice (some ⟨g, 0, none⟩) n cap, .int .i64 1] w fun e w' => e = .returned (.int .i64 ((n : Int) + 1)) ∧ Below w.heap.size w w' := by
  have HO : Hid (OwnRow base w g n (fun i => .string (mkT (i + 1)))) := h
  have hgw : g < w.heap.size := h.2.1
  clear h
  go_enter Tryd.func55, Tryd.ntmps55
  go_wp2
  go_loopw [1, 5] (fun q i wr => ∃ k : Nat, k ≤ n ∧ i = .int .i64 k ∧ q = .int .i64 ((k + 1 : Nat) : Int) ∧ Below w.heap.size w wr) (fun _ i _ => n - (intOf i).toNat)
  case atStart => exact ⟨0, Nat.zero_le _, rfl, rfl, by go_grown⟩
  case round =>
    obtain ⟨k, hk, rfl, rfl, kb⟩ := hrel
    by_cases hlt : k < n
    · have hc : wr.cell? ⟨g, k, none⟩ = some (.string (mkT (k + 1))) := (HO.out.below kb).2.2.1 k hlt
      have hsz := kb.size
      have hgr : g < wr.heap.size := by omega
      have HT := fun W => markT (k + 1) W (by omega) (by omega)
      generalize mkT (k + 1) = t at *
      go_upto_region 4 with fail
      go_region_held3 (fun w' => w'.cell? ⟨g, k, none⟩ = some (.string t)) (go_keep)
        (first
          | (go_at_call 103; refine (HT _).mono ?_; rintro e w1 ⟨rfl, hb1⟩; have hp1 := kept hb1 g (by go_size); have k1 : Below w.heap.size w w1 := (by exact Below.trans (by go_grown) (hb1.mono (by go_size))); clear hb1))
      all_goals go_wp2_with fail
      all_goals exact ⟨⟨k + 1, by omega, by go_num, by go_num, by go_grown⟩, by simp [intOf]; omega⟩
    · have hke : k = n := by omega
      subst hke
      go_wp2
      go_ret
      exact ⟨rfl, kb⟩

/-- Two lists of texts that read alike are told alike. -/
theorem sameStr (v1 v2 : Value) (ss : List ByteArray) (w : World) (h1 : StrsAt w v1 ss) (h2 : StrsAt w v2 ss) (hlen : ss.length ≤ 1048576) :
    Calls Tryd.prog 21 #[v1, v2] w fun e w' => e = .returned (.bool true) ∧ Below w.heap.size w w' := by
  by_cases h0 : ss = []
  · subst h0
    have f1 : ∃ a c, v1 = .slice a 0 c := by rcases h1 with ⟨a, c, rfl, _⟩ | ⟨b, off, cap, rfl, _, _⟩ <;> exact ⟨_, _, rfl⟩
    have f2 : ∃ a c, v2 = .slice a 0 c := by rcases h2 with ⟨a, c, rfl, _⟩ | ⟨b, off, cap, rfl, _, _⟩ <;> exact ⟨_, _, rfl⟩
    obtain ⟨a1, c1, rfl⟩ := f1
    obtain ⟨a2, c2, rfl⟩ := f2
    clear h1 h2
    go_enter Tryd.func21, Tryd.ntmps21
    go_wp2
    go_loop [5, 13] (fun x i => i = .int .i64 0) (fun _ _ => 0)
    case atStart => rfl
    case round =>
      subst hrel
      go_wp2
      go_ret
      exact ⟨rfl, by go_grown⟩
  · rcases h1 with ⟨_, _, _, e⟩ | ⟨b, off, cap, rfl, hb, hcell⟩
    · exact absurd e h0
    rcases h2 with ⟨_, _, _, e⟩ | ⟨b2, off2, cap2, rfl, hb2, hcell2⟩
    · exact absurd e h0
    have HC : Hid (∀ i, i < ss.length → w.cell? ⟨b, off + i, none⟩ = some (.string (ss.getD i ByteArray.empty))) := hcell
    have HD : Hid (∀ i, i < ss.length → w.cell? ⟨b2, off2 + i, none⟩ = some (.string (ss.getD i ByteArray.empty))) := hcell2
    clear hcell hcell2
    go_enter Tryd.func21, Tryd.ntmps21
    go_wp2
    go_loopw [5, 13] (fun x i wr => ∃ k : Nat, k ≤ ss.length ∧ i = .int .i64 k ∧ Below w.heap.size w wr) (fun _ i _ => ss.length - (intOf i).toNat)
    case atStart => exact ⟨0, Nat.zero_le _, rfl, by go_grown⟩
    case round =>
      obtain ⟨k, hk, rfl, kb⟩ := hrel
      by_cases hlt : k < ss.length
      · have hc : wr.cell? ⟨b, off + k, none⟩ = some (.string (ss.getD k ByteArray.empty)) := (kb.cell (p := ⟨b, off + k, none⟩) hb).trans (HC.out k hlt)
        have hd : wr.cell? ⟨b2, off2 + k, none⟩ = some (.string (ss.getD k ByteArray.empty)) := (kb.cell (p := ⟨b2, off2 + k, none⟩) hb2).trans (HD.out k hlt)
        generalize ss.getD k ByteArray.empty = t at *
        go_wp2
        go_region
        go_wp2
        exact ⟨⟨k + 1, by omega, by go_num, by go_grown⟩, by simp [intOf]; omega⟩
      · go_wp2
        go_ret
        exact ⟨rfl, by go_grown⟩

theorem ext_getD {zs ys : List Int} (hl : zs.length = ys.length) (h : ∀ i, i < zs.length → zs.getD i 0 = ys.getD i 0) : zs = ys := by
  apply List.ext_getElem hl
  intro i h1 h2
  have := h i h1
  simpa [List.getD, h1, h2] using this
theorem bel_gb {a b : World} {g B : Nat} (h : a.grownBy b (some g)) (hB : B ≤ g) (hs : B ≤ a.heap.size) : Below B a b :=
  ⟨h.os, h.tape, h.output, h.size, fun k hk => h.block k (by omega) (fun e => by cases e; omega)⟩
theorem markStrNil (a : Option Addr) (c : Nat) (w : World) : Calls Tryd.prog 54 #[.slice a 0 c, .int .i64 1] w fun e w' => e = .returned (.int .i64 1) ∧ w' = w := by
  go_enter Tryd.func54, Tryd.ntmps54
  go_wp2
  go_loop [1, 5] (fun q i => i = .int .i64 0 ∧ q = .int .i64 1) (fun _ _ => 0)
  case atStart => exact ⟨rfl, rfl⟩
  case round =>
    obtain ⟨rfl, rfl⟩ := hrel
    go_wp2
    go_ret
    exact ⟨rfl, rfl⟩
theorem heldStrNil (a : Option Addr) (c : Nat) (w : World) : Calls Tryd.prog 55 #[.slice a 0 c, .int .i64 1] w fun e w' => e = .returned (.int .i64 1) ∧ w' = w := by
  go_enter Tryd.func55, Tryd.ntmps55
  go_wp2
  go_loop [1, 5] (fun q i => i = .int .i64 0 ∧ q = .int .i64 1) (fun _ _ => 0)
  case atStart => exact ⟨rfl, rfl⟩
  case round =>
    obtain ⟨rfl, rfl⟩ := hrel
    go_wp2
    go_ret
    exact ⟨rfl, rfl⟩
end Go.Proofs.YtemkkofjakpjiaaDoor
