/- Contract of the model's drawing of two rows. Condition: the bytes that are drawn from lie in memory. -/
import Derived.Test.YtolkiofdbdjfkaaDrawF
namespace Go.Proofs.Ytolkiofdbdjfkaa
open Go.ChangeShapes Go.WideShapes Go.ChangeAt Go.RowKit Go.Deep
set_option linter.unusedVariables false
attribute [local go_sem ↓] Go.wp_at_zero Go.wp_at_succ

theorem OwnVs.far {w w' : World} {base : Nat} {x : Value} {vs : List VV} {r : Option Nat} (h : OwnVs w base x vs) (hg : w.grownBy w' r) (hne : ∀ k, x.ownBlock = some k → r ≠ some k) : OwnVs w' base x vs := by
  refine World.ownsRow.kept (row := r) h hg ?_
  cases e : x.ownBlock with
  | none => exact .inl rfl
  | some k => exact .inr (fun e2 => hne k e e2.symm)
set_option maxHeartbeats 6400000 in
set_option maxRecDepth 100000 in
theorem drawCmpR (v : Value) (n : Nat) (w : World) (h : CodeAt w v n) :
    Calls Try.prog 25 #[v] w fun e w' => ∃ xa xb va vb, e = .returned (.tuple #[xa, xb]) ∧ OwnVs w' w.heap.size xa va ∧ ValsAt w' xb vb ∧ va.length ≤ 7 ∧ vb.length ≤ 8 ∧ (∀ u ∈ va, u.t.size ≤ 13) ∧ (∀ u ∈ vb, u.t.size ≤ 13) ∧ Below w.heap.size w w' := by
  obtain ⟨i0, hi, hzz⟩ := Option.map_eq_some_iff.1 infoV3
  simp only [Prod.mk.injEq] at hzz
  obtain ⟨hz0, hz1, hz2⟩ := hzz
  obtain ⟨ad, c, rfl⟩ : ∃ ad c, v = .slice ad n c := by
    obtain ⟨ad, c, e, _⟩ := h
    exact ⟨ad, c, e⟩
  have hbel := (Below.refl w.heap.size w).alloc (Nat.le_refl _) (.cells #[.slice ad n c, .int .i64 0, .int .u64 0] 69)
  have HBY := hide (h.bytes hbel (Nat.le_refl _))
  have HK := rowIn w.heap.size (.slice ad n c) n 0 _ (cur_new w (.slice ad n c) 69) (unhide HBY) (by omega)
  have HBE := hide hbel
  clear h hbel
  go_enter Try.func25, Try.ntmps25
  go_wp2_with fail
  refine HK.mono ?_
  rintro e w1 ⟨xa, va, rfl, howa, hla, hua, hd⟩
  have HOA := hide (howa.mono (base' := w.heap.size) (by simp))
  have HOB := hide howa
  have HUA := hide hua
  have HD1 := hide hd
  clear HK howa hua hd
  go_wp2_with fail
  refine (oneIn w.heap.size (.slice ad n c) n (0 + 60) 3 w1 (unhide HD1).1 (unhide HD1).2.1 (by omega) (by omega) (by omega)).mono ?_
  rintro e w2 ⟨o, rfl, hd2⟩
  have HD2 := hide ((unhide HD1).trans hd2)
  have HOA2 := hide ((unhide HOB).grown hd2.2.2 (by simp))
  clear hd2 HD1 HOA HOB
  cases o
  · go_wp2_with fail
    refine (rowIn w.heap.size (.slice ad n c) n (0 + 60 + 2) w2 (unhide HD2).1 (unhide HD2).2.1 (by omega)).mono ?_
    rintro e w3 ⟨xb, vb, rfl, howb, hlb, hub, hd3⟩
    have HD3 := hide ((unhide HD2).trans hd3)
    have HOA3 := hide (((unhide HOA2).grown hd3.2.2 (by simp)).mono (base' := w.heap.size) (by simp))
    have HVB := hide howb.vals
    have HUB := hide hub
    have k3 : Below w.heap.size w w3 := (unhide HBE).trans (gb_below (unhide HD3).2.2 (Nat.le_refl _) (by simp))
    clear howb hub hd3 HD2 HOA2
    go_wp2
    go_returns
    exact ⟨xa, xb, va, vb, rfl, unhide HOA3, unhide HVB, hla, by omega, unhide HUA, unhide HUB, k3⟩
  · have HAL : Hid (∀ k, xa.ownBlock = some k → k < w2.heap.size) := fun k hk => (World.ownsRow.lt (unhide HOA2) k hk).2
    have l2 := (unhide HD2).2.2.size
    simp only [World.size_alloc] at l2
    obtain ⟨hl, ⟨hxn, h0⟩ | ⟨ga, capa, cur, hxs, hba, hcur, hnc, hcm, hcz, htk⟩⟩ := unhide HOA2
    · subst hxn
      have HDb := hide ((unhide HD2).below ((Below.refl _ w2).alloc (Nat.le_refl _) (.cells #[] 24)))
      have HOAb := hide ((unhide HOA2).below ((Below.refl _ w2).alloc (Nat.le_refl _) (.cells #[] 24)))
      obtain ⟨vz, hvz⟩ : ∃ z : List VV, z = [] := ⟨_, rfl⟩
      have HOBb : Hid (OwnVs (w2.alloc (.cells #[] 24)) w2.heap.size (.slice (some ⟨w2.heap.size, 0, none⟩) 0 0) vz) := by
        rw [hvz]
        exact World.ownsRow_lit w2 #[] 0 (Nat.le_refl _) (by decide) rfl
      have HUB : Hid (∀ u ∈ vz, u.t.size ≤ 13) := fun u hu => by rw [hvz] at hu; simp at hu
      have hvzl : vz.length ≤ 7 := by rw [hvz]; simp
      have LW : w2.heap.size ≤ (w2.alloc (.cells #[] 24)).heap.size := by simp
      clear hvz
      clear HD2 HOA2
      go_wp2_with fail
      refine (oneIn w.heap.size (.slice ad n c) n (0 + 60 + 2) 2 _ (unhide HDb).1 (unhide HDb).2.1 (by omega) (by omega) (by omega)).mono ?_
      rintro e w4 ⟨o2, rfl, hd4⟩
      have HD4 := hide ((unhide HDb).trans hd4)
      have HOA4 := hide ((unhide HOAb).grown hd4.2.2 (by simp))
      have HOB4 := hide ((unhide HOBb).grown hd4.2.2 (by omega))
      have l4 := (unhide HD4).2.2.size
      simp only [World.size_alloc] at l4
      have l24 : w2.heap.size ≤ w4.heap.size := Nat.le_trans LW hd4.2.2.size
      clear hd4 HDb HOAb HOBb
      cases o2
      · have k4 : Below w.heap.size w w4 := (unhide HBE).trans (gb_below (unhide HD4).2.2 (Nat.le_refl _) (by simp))
        go_wp2
        go_returns
        exact ⟨_, _, va, vz, rfl, (unhide HOA4).mono (by simp), (unhide HOB4).vals, hla, by omega, unhide HUA, unhide HUB, k4⟩
      · go_wp2_with fail
        refine (valueIn w.heap.size (.slice ad n c) n (0 + 60 + 2 + 2) w4 (unhide HD4).1 (unhide HD4).2.1 (by omega)).mono ?_
        rintro e w5 ⟨u, rfl, hu, hd5⟩
        have HD5 := hide ((unhide HD4).trans hd5)
        have HOA5 := hide ((unhide HOA4).grown hd5.2.2 (by simp))
        have hob5 := (unhide HOB4).grown hd5.2.2 (by omega)
        have hown' : w5.ownsRow w2.heap.size 24 3 _ (vz).length (cellsV (vz)) := hob5
        have l5 := (unhide HD5).2.2.size
        simp only [World.size_alloc] at l5
        have l25 : w2.heap.size ≤ w5.heap.size := by have := hd5.2.2.size; omega
        have HC : Hid (cellsV (vz ++ [u]) = cellsV (vz) ++ [.int .i64 u.k, .int .i64 u.n, .string u.t]) := by show _ = _; rw [cellsV_append]; simp [cellsV]
        have HN : Hid ((vz ++ [u]).length = (vz).length + 1) := by show _ = _; simp
        have HU2 : Hid (∀ z ∈ vz ++ [u], z.t.size ≤ 13) := by
          intro z hz
          simp only [List.mem_append, List.mem_singleton] at hz
          rcases hz with hz | rfl
          · exact unhide HUB z hz
          · exact hu
        have hvl : (vz).length ≤ 7 := by omega
        clear hd5 hob5 HD4 HOA4 HOB4
        generalize cellsV (vz) = CS at *
        obtain ⟨V, hV⟩ : ∃ V, V = u := ⟨_, rfl⟩
        rw [← hV] at HC HN HU2
        have HV := hide hV
        clear hV
        obtain ⟨K, N, T⟩ := u
        have HC2 : Hid (cellsV (vz ++ [V]) = CS ++ [.int .i64 K, .int .i64 N, .string T]) := by show _ = _; rw [unhide HC]; rw [unhide HV]
        clear HC
        unfold encV
        simp only [] at *
        go_wp2_with (first | (at_builtin; refine wpList_append_own _ rfl _ _ 39 rfl w2.heap.size 24 i0 (.agg #[.int .i64 0, .int .i64 0, .string ByteArray.empty]) 3 32 Try.underlying39 hi hz0 hz1 hz2 rfl (by decide) _ _ _ rfl (hown'.alloc _) ⟨w5.heap.size, 0, none⟩ 1 1 [.int .i64 K, .int .i64 N, .string T] rfl rfl ?c1 ?c2 ?c3 ?c4 ?c5 ?_) | fail)
        case c1 => exact newsAt _ #[.int .i64 K, .int .i64 N, .string T] _ _ rfl
        case c2 => intro u hu; simp at hu; rcases hu with rfl | rfl | rfl <;> rfl
        case c3 => unfold maxLen; omega
        case c4 => omega
        case c5 => simp; omega
        intro v6 w6 hown6 hg6 _
        have HD6 := hide ((unhide HD5).grownNew (by simp) (unhide HBY) ((Below.refl _ w5).alloc (Nat.le_refl _) _) hg6 (fun k hk => by have := (hown'.lt k hk).1; simp; omega))
        have HOA6 := hide ((((unhide HOA5).below ((Below.refl _ w5).alloc (Nat.le_refl _) _)).far hg6 (fun k hk e => by have h1 := unhide HAL k hk; have h2 := (hown'.lt k e).1; omega)).mono (base' := w.heap.size) (by simp))
        rw [← unhide HC2, ← unhide HN] at hown6
        have HO6 : Hid (OwnVs w6 w2.heap.size v6 (vz ++ [V])) := hown6
        have hl8 : (vz ++ [V]).length ≤ 8 := by rw [unhide HN]; omega
        have k6 : Below w.heap.size w w6 := (unhide HBE).trans (gb_below (unhide HD6).2.2 (Nat.le_refl _) (by simp))
        clear hg6 hown' hown6 HD5 HD6 HOA5
        go_wp2
        go_returns
        exact ⟨_, _, va, vz ++ [V], rfl, unhide HOA6, (unhide HO6).vals, hla, hl8, unhide HUA, unhide HU2, k6⟩
    · subst hxs
      have hownA : w2.ownsRow (w.alloc (.cells #[.slice ad n c, .int .i64 0, .int .u64 0] 69)).heap.size 24 3 (.slice (some ⟨ga, 0, none⟩) va.length capa) va.length (cellsV va) := unhide HOA2
      have hlit : (w2.alloc (.cells #[] 24)).ownsRow w2.heap.size 24 3 (.slice (some ⟨w2.heap.size, 0, none⟩) 0 0) 0 (#[] : Array Value).toList := World.ownsRow_lit w2 #[] 0 (Nat.le_refl _) (by decide) rfl
      have hcells : ∀ j u, (cellsV va)[j]? = some u → (w2.alloc (.cells #[] 24)).cell? ((⟨ga, 0, none⟩ : Addr).add j) = some u := World.ownsRow.cells (hownA.alloc _) rfl
      have hone : ∀ u ∈ cellsV va, u.oneCell' = true := by
        intro u hu
        simp only [cellsV, List.mem_flatMap] at hu
        obtain ⟨z, _, hz⟩ := hu
        simp at hz
        rcases hz with rfl | rfl | rfl <;> rfl
      have hlen := cellsV_len va
      have HCE := hide hcells
      have HON := hide hone
      have HLE := hide hlen
      clear hcells hone hlen hcur hcz htk hl hownA
      go_wp2_with (first | (at_builtin; refine wpList_append_own _ rfl _ _ 39 rfl w2.heap.size 24 i0 (.agg #[.int .i64 0, .int .i64 0, .string ByteArray.empty]) 3 32 Try.underlying39 hi hz0 hz1 hz2 rfl (by decide) _ _ _ rfl hlit ⟨ga, 0, none⟩ va.length capa (cellsV va) rfl ?d0 ?d1 ?d2 ?d3 ?d4 ?d5 ?_) | fail)
      case d0 => exact unhide HLE
      case d1 => exact unhide HCE
      case d2 => exact unhide HON
      case d3 => unfold maxLen; omega
      case d4 => omega
      case d5 => simp
      intro v3 w3 hown3 hg3 _
      have HDb := hide ((unhide HD2).grownNew (by simp) (unhide HBY) ((Below.refl _ w2).alloc (Nat.le_refl _) _) hg3 (fun k hk => by have := (hlit.lt k hk).1; simp; omega))
      have HOAb := hide (((unhide HOA2).below ((Below.refl _ w2).alloc (Nat.le_refl _) (.cells #[] 24))).far hg3 (fun k hk e => by have h1 := unhide HAL k hk; have h2 := (hlit.lt k e).1; omega))
      have LW : w2.heap.size ≤ w3.heap.size := by
        have := hg3.size
        simp only [World.size_alloc] at this
        omega
      have HOBb : Hid (OwnVs w3 w2.heap.size v3 va) := by
        show w3.ownsRow _ _ _ _ _ _
        have h := hown3
        (try simp only [Nat.zero_add, List.nil_append] at h)
        exact h
      clear hown3 hg3 hlit HD2 HOA2 HCE HON HLE
      go_wp2_with fail
      refine (oneIn w.heap.size (.slice ad n c) n (0 + 60 + 2) 2 _ (unhide HDb).1 (unhide HDb).2.1 (by omega) (by omega) (by omega)).mono ?_
      rintro e w4 ⟨o2, rfl, hd4⟩
      have HD4 := hide ((unhide HDb).trans hd4)
      have HOA4 := hide ((unhide HOAb).grown hd4.2.2 (by simp))
      have HOB4 := hide ((unhide HOBb).grown hd4.2.2 (by omega))
      have l4 := (unhide HD4).2.2.size
      simp only [World.size_alloc] at l4
      have l24 : w2.heap.size ≤ w4.heap.size := Nat.le_trans LW hd4.2.2.size
      clear hd4 HDb HOAb HOBb
      cases o2
      · have k4 : Below w.heap.size w w4 := (unhide HBE).trans (gb_below (unhide HD4).2.2 (Nat.le_refl _) (by simp))
        go_wp2
        go_returns
        exact ⟨_, _, va, va, rfl, (unhide HOA4).mono (by simp), (unhide HOB4).vals, hla, by omega, unhide HUA, unhide HUA, k4⟩
      · go_wp2_with fail
        refine (valueIn w.heap.size (.slice ad n c) n (0 + 60 + 2 + 2) w4 (unhide HD4).1 (unhide HD4).2.1 (by omega)).mono ?_
        rintro e w5 ⟨u, rfl, hu, hd5⟩
        have HD5 := hide ((unhide HD4).trans hd5)
        have HOA5 := hide ((unhide HOA4).grown hd5.2.2 (by simp))
        have hob5 := (unhide HOB4).grown hd5.2.2 (by omega)
        have hown' : w5.ownsRow w2.heap.size 24 3 _ (va).length (cellsV (va)) := hob5
        have l5 := (unhide HD5).2.2.size
        simp only [World.size_alloc] at l5
        have l25 : w2.heap.size ≤ w5.heap.size := by have := hd5.2.2.size; omega
        have HC : Hid (cellsV (va ++ [u]) = cellsV (va) ++ [.int .i64 u.k, .int .i64 u.n, .string u.t]) := by show _ = _; rw [cellsV_append]; simp [cellsV]
        have HN : Hid ((va ++ [u]).length = (va).length + 1) := by show _ = _; simp
        have HU2 : Hid (∀ z ∈ va ++ [u], z.t.size ≤ 13) := by
          intro z hz
          simp only [List.mem_append, List.mem_singleton] at hz
          rcases hz with hz | rfl
          · exact unhide HUA z hz
          · exact hu
        have hvl : (va).length ≤ 7 := by omega
        clear hd5 hob5 HD4 HOA4 HOB4
        generalize cellsV (va) = CS at *
        obtain ⟨V, hV⟩ : ∃ V, V = u := ⟨_, rfl⟩
        rw [← hV] at HC HN HU2
        have HV := hide hV
        clear hV
        obtain ⟨K, N, T⟩ := u
        have HC2 : Hid (cellsV (va ++ [V]) = CS ++ [.int .i64 K, .int .i64 N, .string T]) := by show _ = _; rw [unhide HC]; rw [unhide HV]
        clear HC
        unfold encV
        simp only [] at *
        go_wp2_with (first | (at_builtin; refine wpList_append_own _ rfl _ _ 39 rfl w2.heap.size 24 i0 (.agg #[.int .i64 0, .int .i64 0, .string ByteArray.empty]) 3 32 Try.underlying39 hi hz0 hz1 hz2 rfl (by decide) _ _ _ rfl (hown'.alloc _) ⟨w5.heap.size, 0, none⟩ 1 1 [.int .i64 K, .int .i64 N, .string T] rfl rfl ?c1 ?c2 ?c3 ?c4 ?c5 ?_) | fail)
        case c1 => exact newsAt _ #[.int .i64 K, .int .i64 N, .string T] _ _ rfl
        case c2 => intro u hu; simp at hu; rcases hu with rfl | rfl | rfl <;> rfl
        case c3 => unfold maxLen; omega
        case c4 => omega
        case c5 => simp; omega
        intro v6 w6 hown6 hg6 _
        have HD6 := hide ((unhide HD5).grownNew (by simp) (unhide HBY) ((Below.refl _ w5).alloc (Nat.le_refl _) _) hg6 (fun k hk => by have := (hown'.lt k hk).1; simp; omega))
        have HOA6 := hide ((((unhide HOA5).below ((Below.refl _ w5).alloc (Nat.le_refl _) _)).far hg6 (fun k hk e => by have h1 := unhide HAL k hk; have h2 := (hown'.lt k e).1; omega)).mono (base' := w.heap.size) (by simp))
        rw [← unhide HC2, ← unhide HN] at hown6
        have HO6 : Hid (OwnVs w6 w2.heap.size v6 (va ++ [V])) := hown6
        have hl8 : (va ++ [V]).length ≤ 8 := by rw [unhide HN]; omega
        have k6 : Below w.heap.size w w6 := (unhide HBE).trans (gb_below (unhide HD6).2.2 (Nat.le_refl _) (by simp))
        clear hg6 hown' hown6 HD5 HD6 HOA5
        go_wp2
        go_returns
        exact ⟨_, _, va, va ++ [V], rfl, unhide HOA6, (unhide HO6).vals, hla, hl8, unhide HUA, unhide HU2, k6⟩
end Go.Proofs.Ytolkiofdbdjfkaa
