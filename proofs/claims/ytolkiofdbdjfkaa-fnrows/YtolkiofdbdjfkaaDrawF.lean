/- Contracts of the model's drawing of texts of rows, places, rows and values. Condition: the bytes that are drawn from lie in memory. -/
import Derived.Test.YtolkiofdbdjfkaaDrawT
import Derived.Test.YtolkiofdbdjfkaaVals
namespace Go.Proofs.Ytolkiofdbdjfkaa
open Go.ChangeShapes Go.WideShapes Go.ChangeAt Go.RowKit Go.Deep
set_option linter.unusedVariables false
attribute [local go_sem ↓] Go.wp_at_zero Go.wp_at_succ

/-- One answer of the model's bytes of a row. -/
theorem specRBany (x : Value) (vs : List VV) (hlen : vs.length ≤ 1048576) (hsz : ∀ v ∈ vs, v.t.size ≤ maxLen) : ∃ (s : ByteArray) (ok : Bool), s.size ≤ 162 ∧ ((ok = true ∧ AllGood vs ∧ vs.length ≤ 6 ∧ s = vrowV vs) ∨ (ok = false ∧ ¬ (AllGood vs ∧ vs.length ≤ 6) ∧ s = ByteArray.empty)) ∧
    ∀ W, ValsAt W x vs → Calls Try.prog 36 #[x] W fun e w' => e = .returned (.tuple #[.string s, .bool ok]) ∧ Below W.heap.size W w' := by
  by_cases h : AllGood vs ∧ vs.length ≤ 6
  · exact ⟨vrowV vs, true, vrowV_size h.2 h.1, .inl ⟨rfl, h.1, h.2, rfl⟩, fun W hW => specRBYes x vs W hW h.2 h.1⟩
  · exact ⟨ByteArray.empty, false, by simp, .inr ⟨rfl, h, rfl⟩, fun W hW => specRBNo x vs W hW hlen hsz h⟩
set_option maxHeartbeats 3200000 in
theorem rowTextIn (g : Nat) (v : Value) (n m : Nat) (w : World) (hc : CurAt w g v m) (hb : BytesAt w g v n) (hm : m ≤ 1000000 - 300) :
    Calls Try.prog 54 #[.pointer (some ⟨g, 0, none⟩)] w fun e w' => ∃ s : ByteArray, e = .returned (.string s) ∧ s.size ≤ 164 ∧ Drawn w w' g v n (m + 90) := by
  have HR := rowIn g v n m w hc hb (by omega)
  clear hc hb
  go_enter Try.func54, Try.ntmps54
  go_wp2_with fail
  refine HR.mono ?_
  rintro e w1 ⟨x, vs, rfl, hown, hl, hus, hd⟩
  have HD1 := hide hd
  obtain ⟨s, ok, hs, _, HB⟩ := specRBany x vs (by omega) (fun u hu => by have := hus u hu; unfold maxLen; omega)
  have HV := hide hown.vals
  clear HR hd hown hus
  go_wp2_with fail
  refine (HB _ (unhide HV)).mono ?_
  rintro e w2 ⟨rfl, hb2⟩
  have HD2 := hide ((unhide HD1).below hb2)
  clear hb2 HB HV HD1
  go_wp2_with fail
  refine (oneIn g v n (m + 60) 3 w2 (unhide HD2).1 (unhide HD2).2.1 (by omega) (by omega) (by omega)).mono ?_
  rintro e w3 ⟨o, rfl, hd3⟩
  have HD3 := hide ((unhide HD2).trans hd3)
  clear hd3 HD2
  cases o
  · go_wp2
    go_ret
    exact ⟨s, rfl, by omega, (unhide HD3).mono (by omega)⟩
  · go_wp2_with fail
    refine (spoiltIn g v n (m + 60 + 2) s ⟨#[0, 1, 4, 255, 97]⟩ w3 (unhide HD3).1 (unhide HD3).2.1 (by omega) (by omega) rfl).mono ?_
    rintro e w4 ⟨s2, rfl, hs2, hd4⟩
    have HD4 := hide ((unhide HD3).trans hd4)
    clear hd4 HD3
    go_wp2
    go_ret
    exact ⟨s2, rfl, by omega, (unhide HD4).mono (by omega)⟩
set_option maxHeartbeats 800000 in
theorem drawReadRow (v : Value) (n : Nat) (w : World) (h : CodeAt w v n) :
    Calls Try.prog 33 #[v] w fun e w' => ∃ s : ByteArray, e = .returned (.string s) ∧ s.size ≤ 164 ∧ Below w.heap.size w w' := by
  obtain ⟨ad, c, rfl⟩ : ∃ ad c, v = .slice ad n c := by
    obtain ⟨ad, c, e, _⟩ := h
    exact ⟨ad, c, e⟩
  have hbel := (Below.refl w.heap.size w).alloc (Nat.le_refl _) (.cells #[.slice ad n c, .int .i64 0, .int .u64 0] 69)
  have HK := rowTextIn w.heap.size (.slice ad n c) n 0 _ (cur_new w (.slice ad n c) 69) (h.bytes hbel (Nat.le_refl _)) (by omega)
  have HBE := hide hbel
  clear h hbel
  go_enter Try.func33, Try.ntmps33
  go_wp2_with fail
  refine HK.mono ?_
  rintro e w1 ⟨s, rfl, hs, hd⟩
  clear HK
  have hb1 : Below w.heap.size w w1 := (unhide HBE).trans (gb_below hd.2.2 (Nat.le_refl _) (by simp))
  clear hd HBE
  go_wp2
  go_ret
  exact ⟨s, rfl, hs, hb1⟩
set_option maxHeartbeats 800000 in
theorem drawReadVal (v : Value) (n : Nat) (w : World) (h : CodeAt w v n) :
    Calls Try.prog 21 #[v] w fun e w' => ∃ (s : ByteArray) (a : Int), e = .returned (.tuple #[.string s, .int .i64 a]) ∧ s.size ≤ 164 ∧ (-1 ≤ a ∧ a ≤ 200) ∧ Below w.heap.size w w' := by
  obtain ⟨ad, c, rfl⟩ : ∃ ad c, v = .slice ad n c := by
    obtain ⟨ad, c, e, _⟩ := h
    exact ⟨ad, c, e⟩
  have hbel := (Below.refl w.heap.size w).alloc (Nat.le_refl _) (.cells #[.slice ad n c, .int .i64 0, .int .u64 0] 69)
  have HK := rowTextIn w.heap.size (.slice ad n c) n 0 _ (cur_new w (.slice ad n c) 69) (h.bytes hbel (Nat.le_refl _)) (by omega)
  have HBE := hide hbel
  clear h hbel
  go_enter Try.func21, Try.ntmps21
  go_wp2_with fail
  refine HK.mono ?_
  rintro e w1 ⟨s, rfl, hs, hd⟩
  have HD1 := hide hd
  clear HK hd
  go_wp2_with fail
  refine (pickIn w.heap.size (.slice ad n c) n (0 + 90) ((s.size : Int) + 2) w1 (unhide HD1).1 (unhide HD1).2.1 (by omega) (by omega) (by omega)).mono ?_
  rintro e w2 ⟨x, rfl, hx0, hx1, hd2⟩
  have hd := (unhide HD1).trans hd2
  have hb1 : Below w.heap.size w w2 := (unhide HBE).trans (gb_below hd.2.2 (Nat.le_refl _) (by simp))
  clear hd hd2 HBE HD1
  go_wp2
  go_returns
  exact ⟨s, x - 1, rfl, hs, by omega, hb1⟩
set_option maxHeartbeats 800000 in
theorem drawRow (v : Value) (n : Nat) (w : World) (h : CodeAt w v n) :
    Calls Try.prog 35 #[v] w fun e w' => ∃ x vs, e = .returned x ∧ OwnVs w' w.heap.size x vs ∧ vs.length ≤ 7 ∧ (∀ u ∈ vs, u.t.size ≤ 13) ∧ Below w.heap.size w w' := by
  obtain ⟨ad, c, rfl⟩ : ∃ ad c, v = .slice ad n c := by
    obtain ⟨ad, c, e, _⟩ := h
    exact ⟨ad, c, e⟩
  have hbel := (Below.refl w.heap.size w).alloc (Nat.le_refl _) (.cells #[.slice ad n c, .int .i64 0, .int .u64 0] 69)
  have HK := rowIn w.heap.size (.slice ad n c) n 0 _ (cur_new w (.slice ad n c) 69) (h.bytes hbel (Nat.le_refl _)) (by omega)
  have HBE := hide hbel
  clear h hbel
  go_enter Try.func35, Try.ntmps35
  go_wp2_with fail
  refine HK.mono ?_
  rintro e w1 ⟨x, vs, rfl, hown, hl, hus, hd⟩
  clear HK
  have hb1 : Below w.heap.size w w1 := (unhide HBE).trans (gb_below hd.2.2 (Nat.le_refl _) (by simp))
  have HO := hide (hown.mono (base' := w.heap.size) (by simp))
  have HU := hide hus
  clear hd HBE hown hus
  go_wp2
  go_ret
  exact ⟨x, vs, rfl, unhide HO, hl, unhide HU, hb1⟩
set_option maxHeartbeats 1600000 in
theorem drawGoodV (v : Value) (n : Nat) (w : World) (h : CodeAt w v n) :
    Calls Try.prog 57 #[v] w fun e w' => ∃ u : VV, e = .returned (encV u) ∧ u.t.size ≤ 13 ∧ Below w.heap.size w w' := by
  obtain ⟨ad, c, rfl⟩ : ∃ ad c, v = .slice ad n c := by
    obtain ⟨ad, c, e, _⟩ := h
    exact ⟨ad, c, e⟩
  have hb0 := (Below.refl w.heap.size w).alloc (Nat.le_refl _) (.cells #[.int .i64 0, .int .i64 0, .string ⟨#[]⟩] 24)
  have hbel := hb0.alloc (by simp) (.cells #[.slice ad n c, .int .i64 0, .int .u64 0] 69)
  have hcur := cur_new (w.alloc (.cells #[.int .i64 0, .int .i64 0, .string ⟨#[]⟩] 24)) (.slice ad n c) 69
  simp only [World.size_alloc] at hcur
  have HK := valueIn (w.heap.size + 1) (.slice ad n c) n 0 _ hcur (h.bytes hbel (by omega)) (by omega)
  have HBE := hide hbel
  have HBX := hide ((boxNew w #[.int .i64 0, .int .i64 0, .string ⟨#[]⟩] 24).below ((Below.refl _ _).alloc (Nat.le_refl _) (.cells #[.slice ad n c, .int .i64 0, .int .u64 0] 69)))
  clear h hbel hb0 hcur
  go_enter Try.func57, Try.ntmps57
  go_wp2_with fail
  refine HK.mono ?_
  rintro e w1 ⟨u, rfl, hu, hd⟩
  clear HK
  have k1 : Below w.heap.size w w1 := (unhide HBE).trans (gb_below hd.2.2 (by omega) (by simp; omega))
  have hbx := (unhide HBX).grown hd.2.2 (by omega)
  have c0 := hbx.2.1 0 _ rfl
  have c1 := hbx.2.1 1 _ rfl
  have c2 := hbx.2.1 2 _ rfl
  have f0 := hbx.2.2 0 (by simp)
  have f1 := hbx.2.2 1 (by simp)
  have f2 := hbx.2.2 2 (by simp)
  obtain ⟨K, N, T⟩ := u
  unfold encV
  simp only [] at *
  clear hd HBE HBX hbx
  go_wp2
  (try simp only [Exit.inBlock, Exit.then])
  refine bodyPost_ret (by simp [*, results, Try.results57, go_sem]; try rfl) rfl ?_
  exact ⟨⟨K, N, T⟩, rfl, hu, by go_grown⟩
set_option maxHeartbeats 1600000 in
theorem drawValB (v : Value) (n : Nat) (w : World) (h : CodeAt w v n) :
    Calls Try.prog 23 #[v] w fun e w' => ∃ u : VV, e = .returned (encV u) ∧ u.t.size ≤ 13 ∧ Below w.heap.size w w' := by
  have hb0 := (Below.refl w.heap.size w).alloc (Nat.le_refl _) (.cells #[.int .i64 0, .int .i64 0, .string ⟨#[]⟩] 24)
  have HK := drawGoodV v n _ (h.below hb0)
  clear h hb0
  go_enter Try.func23, Try.ntmps23
  go_wp2_with fail
  refine HK.mono ?_
  rintro e w1 ⟨u, rfl, hu, hb1⟩
  clear HK
  have hbx := boxOf1 hb1
  have k1 : Below w.heap.size w w1 := ((Below.refl _ w).alloc (Nat.le_refl _) _).trans (hb1.mono (by simp))
  have c0 := hbx.2.1 0 _ rfl
  have c1 := hbx.2.1 1 _ rfl
  have c2 := hbx.2.1 2 _ rfl
  have f0 := hbx.2.2 0 (by simp)
  have f1 := hbx.2.2 1 (by simp)
  have f2 := hbx.2.2 2 (by simp)
  obtain ⟨K, N, T⟩ := u
  unfold encV
  simp only [] at *
  clear hb1 hbx
  go_wp2
  (try simp only [Exit.inBlock, Exit.then])
  refine bodyPost_ret (by simp [*, results, Try.results23, go_sem]; try rfl) rfl ?_
  exact ⟨⟨K, N, T⟩, rfl, hu, by go_grown⟩
end Go.Proofs.Ytolkiofdbdjfkaa
