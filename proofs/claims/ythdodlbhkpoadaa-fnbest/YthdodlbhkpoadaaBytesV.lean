/- What the row's own reading of a list of bytes gives the walks. -/
import Derived.Test.YthdodlbhkpoadaaCodeV
import Derived.SizedLaws
namespace Go.Proofs.Ythdodlbhkpoadaa
open Go.ChangeShapes Go.WideShapes Go.ChangeAt Go.RowKit Go.Deep
set_option linter.unusedVariables false

/-- The slice value v holds n bytes, however many. -/
def ByteRow (w : World) (v : Value) (n : Nat) : Prop :=
  ∃ ad c, v = .slice ad n c ∧ (n = 0 ∨ ∃ b off, ad = some ⟨b, off, none⟩ ∧ b < w.heap.size ∧ ∀ i, i < n → ∃ x : Int, 0 ≤ x ∧ x ≤ 255 ∧ w.cell? ⟨b, off + i, none⟩ = some (.int .u8 x))
theorem ByteRow.code {w : World} {v : Value} {n : Nat} (h : ByteRow w v n) (hn : n ≤ 1048576) : CodeAt w v n := by
  obtain ⟨ad, c, e, h1⟩ := h
  exact ⟨ad, c, e, hn, h1⟩
theorem bytes_of {H : Type} {enc : TypeId × Value → H} {W : World} {base : Nat} {held : Bool} {ad : Option Addr} {len cap : Nat} {d : DataW H} {p : List MemPlace} {ts : List TypeId} {ds : List (DataW H)} {j : Nat}
    (h : DataW.Trod enc Try.prog W base (fun _ => true) held 22 (.slice ad len cap) d p) (hsz : (DataW.weightsEach Try.prog ts ds).all (· ≤ reachBytes) = true)
    (ht : ts[j]? = some 22) (hd : ds[j]? = some d) : ByteRow W (.slice ad len cap) len ∧ len ≤ 140737488351232 := by
  obtain ⟨fuel, hf⟩ := h
  rcases open_ints Try.underlying22 Try.underlying5 (by kernel_rfl) hf with ⟨hcs, hx⟩ | ⟨x, l, c, zs, hcs, _, hl, hm, hz, hx, hcell, hwz⟩
  · simp [Value.cells] at hcs
    obtain ⟨rfl, rfl, rfl⟩ := hcs
    exact ⟨⟨_, _, rfl, .inl rfl⟩, by omega⟩
  · simp [Value.cells] at hcs
    obtain ⟨rfl, rfl, rfl⟩ := hcs
    have hz' : zs.length = cap := by simpa using hz
    simp only [Prod.mk.injEq] at hx
    rw [hx.1] at hd
    have hs := sized_slice hsz (j := j) (t := 22) (e := 5) ht hd Try.underlying22
    have hb : Try.prog.bytesOf 5 = 1 := by kernel_rfl
    rw [hb] at hs
    simp only [lits, List.length_map, List.length_take, List.length_drop, reachBytes] at hs
    refine ⟨⟨_, _, rfl, ?_⟩, by omega⟩
    by_cases h0 : len = 0
    · exact .inl h0
    · right
      obtain ⟨b, off, spot⟩ := x
      have hc := hcell 0 (by omega)
      have hspot : spot = none := by simpa [Addr.add] using World.cell?_spot hc
      subst hspot
      have hadd : ∀ i, ((⟨b, off, none⟩ : Addr).add i) = ⟨b, off + i, none⟩ := fun i => by simp [Addr.add]
      refine ⟨b, off, rfl, by rw [hadd] at hc; exact World.block_lt_of_cell? W ⟨b, off + 0, none⟩ hc, fun i hi => ?_⟩
      have h1 := hcell i (by omega)
      rw [hadd] at h1
      have hin : zs.getD i 0 ∈ zs := by simp [List.getD, show i < zs.length by omega]
      have hwf := hwz _ hin
      have hbd := bounds_u8 hwf
      exact ⟨_, hbd.1, by omega, h1⟩
end Go.Proofs.Ythdodlbhkpoadaa
