/- What stands at the front of bytes, kind by kind, in plain mathematics. -/
import Derived.Test.YtolkiofdbdjfkaaRead
namespace Go.Proofs.Ytolkiofdbdjfkaa
open Go.ChangeShapes Go.WideShapes Go.ChangeAt Go.RowKit Go.Deep
set_option linter.unusedVariables false

theorem none_bad {L : List UInt8} {u : VV} (hc : Cand L u) (hg : ¬ GoodV u) : ∀ v, ¬ Stands L v := fun v hv => hg (by rw [hc v hv]; exact hv.1)
theorem stand_1 (x : List UInt8) : Stands (1 :: x) ⟨1, 0, ByteArray.empty⟩ := ⟨.inl ⟨rfl, rfl, rfl⟩, x, by rw [bytesL_1 rfl]; rfl⟩
theorem stand_2 (c : UInt8) (x : List UInt8) (h : GoodV ⟨2, (c.toNat : Int), ByteArray.empty⟩) : Stands (2 :: c :: x) ⟨2, (c.toNat : Int), ByteArray.empty⟩ :=
  ⟨h, x, by rw [bytesL_2 rfl]; simp⟩
theorem be4_of (a b c d : UInt8) : be4 ((a.toNat : Int) * 16777216 + (b.toNat : Int) * 65536 + (c.toNat : Int) * 256 + (d.toNat : Int)).toNat = [a, b, c, d] := by
  have ha := a.toNat_lt
  have hb := b.toNat_lt
  have hc := c.toNat_lt
  have hd := d.toNat_lt
  obtain ⟨m, hm⟩ : ∃ m, m = a.toNat * 16777216 + b.toNat * 65536 + c.toNat * 256 + d.toNat := ⟨_, rfl⟩
  have e : ((a.toNat : Int) * 16777216 + (b.toNat : Int) * 65536 + (c.toNat : Int) * 256 + (d.toNat : Int)).toNat = m := by omega
  rw [e]
  have f1 : UInt8.ofNat (m / 16777216) = a := UInt8.toNat_inj.1 (by rw [UInt8.toNat_ofNat']; omega)
  have f2 : UInt8.ofNat (m / 65536) = b := UInt8.toNat_inj.1 (by rw [UInt8.toNat_ofNat']; omega)
  have f3 : UInt8.ofNat (m / 256) = c := UInt8.toNat_inj.1 (by rw [UInt8.toNat_ofNat']; omega)
  have f4 : UInt8.ofNat m = d := UInt8.toNat_inj.1 (by rw [UInt8.toNat_ofNat']; omega)
  simp only [be4, f1, f2, f3, f4]
theorem stand_3 (a b c d : UInt8) (x : List UInt8) (h : GoodV ⟨3, (a.toNat : Int) * 16777216 + (b.toNat : Int) * 65536 + (c.toNat : Int) * 256 + (d.toNat : Int) - 1000000000, ByteArray.empty⟩) :
    Stands (3 :: a :: b :: c :: d :: x) ⟨3, (a.toNat : Int) * 16777216 + (b.toNat : Int) * 65536 + (c.toNat : Int) * 256 + (d.toNat : Int) - 1000000000, ByteArray.empty⟩ := by
  refine ⟨h, x, ?_⟩
  rw [bytesL_3 rfl]
  simp only []
  rw [Int.sub_add_cancel, be4_of]
  rfl
theorem stand_4 (t r : List UInt8) (h : GoodV ⟨4, 0, ⟨t.toArray⟩⟩) : Stands (4 :: (esc t ++ r)) ⟨4, 0, ⟨t.toArray⟩⟩ := ⟨h, r, by rw [bytesL_4 rfl]; rfl⟩
theorem none_2 : ∀ v, ¬ Stands [2] v := by
  intro v hv
  have e := cand_0 2 [] (fun _ => rfl) (fun h => by simp) (by decide) v hv
  obtain ⟨_, r, hr⟩ := hv
  rw [← e] at hr
  rw [bytesL_2 rfl] at hr
  simp at hr
theorem none_3 (x : List UInt8) (hx : x.length ≤ 3) : ∀ v, ¬ Stands (3 :: x) v := by
  intro v hv
  have e := cand_0 3 x (fun h => absurd h (by decide)) (fun _ => hx) (by decide) v hv
  obtain ⟨_, r, hr⟩ := hv
  rw [← e] at hr
  rw [bytesL_3 rfl] at hr
  have := congrArg List.length hr
  simp [be4] at this
  omega
theorem none_4 (x : List UInt8) (hx : ∀ t r, x ≠ esc t ++ r) : ∀ v, ¬ Stands (4 :: x) v := by
  rintro v ⟨gv, q, e⟩
  have hk2 : v.k = 4 := (bytes_head gv e).symm
  rw [bytesL_4 hk2] at e
  simp only [List.cons_append, List.cons.injEq, true_and] at e
  exact hx _ _ e
theorem none_0 (c : UInt8) (x : List UInt8) (h1 : c.toNat ≠ 1) (h2 : c.toNat ≠ 2) (h3 : c.toNat ≠ 3) (h4 : c.toNat ≠ 4) : ∀ v, ¬ Stands (c :: x) v := by
  rintro v ⟨gv, q, e⟩
  have hk := bytes_head gv e
  obtain ⟨_, _, g1, g2⟩ := bytesL_head gv
  omega
theorem bytes_size_4 (t : List UInt8) : ((bytesV ⟨4, 0, ⟨t.toArray⟩⟩).size : Int) = 1 + ((esc t).length : Int) := by
  rw [bytesV_size, bytesL_4 rfl]
  simp
  omega
/-- What is told where a value is asked for at a place of a text. -/
def ToldR (s : ByteArray) (a : Nat) (e : Ending) : Prop :=
  (∃ v, Stands (s.data.toList.drop a) v ∧ e = .returned (.tuple #[encV v, .int .i64 ((a : Int) + ((bytesV v).size : Int)), .bool true])) ∨ ((∀ v, ¬ Stands (s.data.toList.drop a) v) ∧ e = .returned (.tuple #[.agg #[.int .i64 0, .int .i64 0, .string ⟨#[]⟩], .int .i64 0, .bool false]))
end Go.Proofs.Ytolkiofdbdjfkaa
