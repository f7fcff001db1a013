/- What is known of a row that is read, round by round, in plain mathematics. -/
import Derived.Test.YtolkiofdbdjfkaaRowM
namespace Go.Proofs.Ytolkiofdbdjfkaa
open Go.ChangeShapes Go.WideShapes Go.ChangeAt Go.RowKit Go.Deep
set_option linter.unusedVariables false
attribute [local go_sem ↓] Go.wp_at_zero Go.wp_at_succ

theorem infoV3 : (Try.prog.info? 24).map (fun i => (i.zero, i.size, i.bytes)) = some (some (.agg #[.int .i64 0, .int .i64 0, .string ByteArray.empty]), 3, 32) := by kernel_rfl
theorem take_row {vs : List VV} {L : List UInt8} (h : L = vrowL vs) (k : Nat) : L.drop (vrowL (vs.take k)).length = vrowL (vs.drop k) := by
  have e : vrowL vs = vrowL (vs.take k) ++ vrowL (vs.drop k) := by rw [← vrowL_append, List.take_append_drop]
  rw [h, e, List.drop_left]
theorem take_snocV (vs : List VV) (k : Nat) (h : k < vs.length) : vs.take (k + 1) = vs.take k ++ [vs.getD k v0] := by
  rw [List.take_succ_eq_append_getElem h]; simp [List.getD, h]
theorem drop_consV (vs : List VV) (k : Nat) (h : k < vs.length) : vs.drop k = vs.getD k v0 :: vs.drop (k + 1) := by
  rw [List.drop_eq_getElem_cons h]; simp [List.getD, h]
/-- What is known ahead of the k-th round of a row that is there. -/
theorem row_round {s : ByteArray} {vs : List VV} (h : RowIs s vs) (k : Nat) (hk : k < vs.length) :
    (vrowL (vs.take k)).length < s.size ∧ s.size ≤ 162 ∧ Stands (s.data.toList.drop (vrowL (vs.take k)).length) (vs.getD k v0) ∧ (vrowL (vs.take (k + 1))).length = (vrowL (vs.take k)).length + (bytesV (vs.getD k v0)).size ∧ cellsV (vs.take (k + 1)) = cellsV (vs.take k) ++ [.int .i64 (vs.getD k v0).k, .int .i64 (vs.getD k v0).n, .string (vs.getD k v0).t] ∧ (vs.take (k + 1)).length = (vs.take k).length + 1 := by
  obtain ⟨hg, hl, he⟩ := h
  have hgk : GoodV (vs.getD k v0) := hg _ (by simp [List.getD, hk])
  have hd : s.data.toList.drop (vrowL (vs.take k)).length = bytesL (vs.getD k v0) ++ vrowL (vs.drop (k + 1)) := by rw [take_row he k, drop_consV vs k hk]; rfl
  have hp := bytesL_pos hgk
  have hz : s.data.toList.length = s.size := by simp
  have h1 := congrArg List.length hd
  simp only [List.length_drop, List.length_append] at h1
  have h2 := vrowL_len hg
  rw [← he, hz] at h2
  refine ⟨by omega, by omega, ⟨hgk, _, hd⟩, ?_, ?_, ?_⟩
  · rw [take_snocV vs k hk, vrowL_append, bytesV_size]; simp [vrowL]
  · rw [take_snocV vs k hk, cellsV_append]; simp [cellsV]
  · rw [take_snocV vs k hk]; simp
theorem OwnVs.slice {w : World} {base : Nat} {x : Value} {vs : List VV} (h : OwnVs w base x vs) : ∃ ad cap, x = .slice ad vs.length cap := by
  rcases h.2 with ⟨e, h0⟩ | ⟨g, cap, cur, e, _⟩
  · exact ⟨none, 0, by rw [e, h0]⟩
  · exact ⟨_, cap, e⟩
theorem row_end {s : ByteArray} {vs : List VV} (h : RowIs s vs) : (vrowL vs).length = s.size := by rw [← h.2.2]; simp
end Go.Proofs.Ytolkiofdbdjfkaa
