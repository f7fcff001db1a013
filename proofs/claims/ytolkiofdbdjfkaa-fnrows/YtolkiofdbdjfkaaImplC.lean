/- Contracts of the program's order of values. Condition: good values; else the zero answer. -/
import Derived.Test.YtolkiofdbdjfkaaImplK
namespace Go.Proofs.Ytolkiofdbdjfkaa
open Go.ChangeShapes Go.WideShapes Go.ChangeAt Go.RowKit Go.Deep
set_option linter.unusedVariables false
attribute [local go_sem ↓] Go.wp_at_zero Go.wp_at_succ

set_option maxHeartbeats 6400000 in
theorem implCmp (a b : VV) (w : World) (ha : GoodV a) (hb : GoodV b) :
    Calls Try.prog 49 #[fld a, fld b] w fun e w' => e = .returned (.int .i64 (cmpV a b)) ∧ Below w.heap.size w w' := by
  obtain ⟨k, n, t⟩ := a
  obtain ⟨k2, n2, t2⟩ := b
  unfold GoodV at ha hb
  simp only [] at ha hb
  have hk : (k = 1 ∧ n = 0 ∧ t = ByteArray.empty) ∨ (k = 2 ∧ t = ByteArray.empty) ∨ (k = 3 ∧ t = ByteArray.empty) ∨ (k = 4 ∧ n = 0) := by
    rcases ha with ⟨h1, h2, h3⟩ | ⟨h1, h2, h3⟩ | ⟨h1, h2, h3⟩ | ⟨h1, h2, h3⟩
    · exact .inl ⟨h1, h2, h3⟩
    · exact .inr (.inl ⟨h1, h3⟩)
    · exact .inr (.inr (.inl ⟨h1, h3⟩))
    · exact .inr (.inr (.inr ⟨h1, h2⟩))
  have hk2 : (k2 = 1 ∧ n2 = 0 ∧ t2 = ByteArray.empty) ∨ (k2 = 2 ∧ t2 = ByteArray.empty) ∨ (k2 = 3 ∧ t2 = ByteArray.empty) ∨ (k2 = 4 ∧ n2 = 0) := by
    rcases hb with ⟨h1, h2, h3⟩ | ⟨h1, h2, h3⟩ | ⟨h1, h2, h3⟩ | ⟨h1, h2, h3⟩
    · exact .inl ⟨h1, h2, h3⟩
    · exact .inr (.inl ⟨h1, h3⟩)
    · exact .inr (.inr (.inl ⟨h1, h3⟩))
    · exact .inr (.inr (.inr ⟨h1, h2⟩))
  clear ha hb
  rcases hk with ⟨rfl, rfl, rfl⟩ | ⟨rfl, rfl⟩ | ⟨rfl, rfl⟩ | ⟨rfl, rfl⟩ <;> rcases hk2 with ⟨rfl, rfl, rfl⟩ | ⟨rfl, rfl⟩ | ⟨rfl, rfl⟩ | ⟨rfl, rfl⟩
  · simp only [fld_1]
    have e : cmpV ⟨1, 0, ByteArray.empty⟩ ⟨1, 0, ByteArray.empty⟩ = 0 := cmpV_refl _
    rw [e]
    clear e
    have HS := fun W => cmpInt 1 1 W
    rw [show sgn 1 1 = 0 from rfl] at HS
    have f2 := as12 
    have f3 := as13 
    have f4 := as14 
    go_enter Try.func49, Try.ntmps49
    go_wp2_with fail
    refine (kind1 _).mono ?_
    rintro e v1 ⟨rfl, hq1⟩
    go_wp2_with fail
    refine (kind1 _).mono ?_
    rintro e v2 ⟨rfl, hq2⟩
    go_wp2_with fail
    refine (HS _).mono ?_
    rintro e w1 ⟨rfl, hw1⟩
    subst w1
    go_wp2
    go_returns
    exact ⟨rfl, hq1.trans (hq2.mono hq1.size)⟩
  · rw [fld_1, fld_2]
    have e : cmpV ⟨1, 0, ByteArray.empty⟩ ⟨2, n2, ByteArray.empty⟩ = -1 := by simp [cmpV, sgn]
    rw [e]
    clear e
    have HS := fun W => cmpInt 1 2 W
    rw [show sgn 1 2 = -1 from rfl] at HS
    go_enter Try.func49, Try.ntmps49
    go_wp2_with fail
    refine (kind1 _).mono ?_
    rintro e v1 ⟨rfl, hq1⟩
    go_wp2_with fail
    refine (kind2 n2 _).mono ?_
    rintro e w1 ⟨rfl, hw1⟩
    subst w1
    go_wp2_with fail
    refine (HS _).mono ?_
    rintro e w1 ⟨rfl, hw1⟩
    subst w1
    go_wp2
    go_returns
    exact ⟨rfl, hq1⟩
  · rw [fld_1, fld_3]
    have e : cmpV ⟨1, 0, ByteArray.empty⟩ ⟨3, n2, ByteArray.empty⟩ = -1 := by simp [cmpV, sgn]
    rw [e]
    clear e
    have HS := fun W => cmpInt 1 3 W
    rw [show sgn 1 3 = -1 from rfl] at HS
    go_enter Try.func49, Try.ntmps49
    go_wp2_with fail
    refine (kind1 _).mono ?_
    rintro e v1 ⟨rfl, hq1⟩
    go_wp2_with fail
    refine (kind3 n2 _).mono ?_
    rintro e w1 ⟨rfl, hw1⟩
    subst w1
    go_wp2_with fail
    refine (HS _).mono ?_
    rintro e w1 ⟨rfl, hw1⟩
    subst w1
    go_wp2
    go_returns
    exact ⟨rfl, hq1⟩
  · rw [fld_1, fld_4]
    have e : cmpV ⟨1, 0, ByteArray.empty⟩ ⟨4, 0, t2⟩ = -1 := by simp [cmpV, sgn]
    rw [e]
    clear e
    have HS := fun W => cmpInt 1 4 W
    rw [show sgn 1 4 = -1 from rfl] at HS
    go_enter Try.func49, Try.ntmps49
    go_wp2_with fail
    refine (kind1 _).mono ?_
    rintro e v1 ⟨rfl, hq1⟩
    go_wp2_with fail
    refine (kind4 t2 _).mono ?_
    rintro e w1 ⟨rfl, hw1⟩
    subst w1
    go_wp2_with fail
    refine (HS _).mono ?_
    rintro e w1 ⟨rfl, hw1⟩
    subst w1
    go_wp2
    go_returns
    exact ⟨rfl, hq1⟩
  · rw [fld_2, fld_1]
    have e : cmpV ⟨2, n, ByteArray.empty⟩ ⟨1, 0, ByteArray.empty⟩ = 1 := by simp [cmpV, sgn]
    rw [e]
    clear e
    have HS := fun W => cmpInt 2 1 W
    rw [show sgn 2 1 = 1 from rfl] at HS
    go_enter Try.func49, Try.ntmps49
    go_wp2_with fail
    refine (kind2 n _).mono ?_
    rintro e w1 ⟨rfl, hw1⟩
    subst w1
    go_wp2_with fail
    refine (kind1 _).mono ?_
    rintro e v2 ⟨rfl, hq2⟩
    go_wp2_with fail
    refine (HS _).mono ?_
    rintro e w1 ⟨rfl, hw1⟩
    subst w1
    go_wp2
    go_returns
    exact ⟨rfl, hq2⟩
  · simp only [fld_2]
    have e : cmpV ⟨2, n, ByteArray.empty⟩ ⟨2, n2, ByteArray.empty⟩ = sgn n n2 := by
      by_cases h : n = n2
      · simp [cmpV, sgn, h, cmpB_refl]
      · simp [cmpV, h]
    rw [e]
    clear e
    have HC := fun W => cmpFlag n n2 W
    generalize sgn n n2 = z at *
    have HS := fun W => cmpInt 2 2 W
    rw [show sgn 2 2 = 0 from rfl] at HS
    have f2 := as22 n 
    have f9 := at2 n2 
    go_enter Try.func49, Try.ntmps49
    go_wp2_with fail
    refine (kind2 n _).mono ?_
    rintro e w1 ⟨rfl, hw1⟩
    subst w1
    go_wp2_with fail
    refine (kind2 n2 _).mono ?_
    rintro e w1 ⟨rfl, hw1⟩
    subst w1
    go_wp2_with fail
    refine (HS _).mono ?_
    rintro e w1 ⟨rfl, hw1⟩
    subst w1
    go_wp2_with fail
    refine (HC _).mono ?_
    rintro e w1 ⟨rfl, hw1⟩
    subst w1
    go_wp2
    go_returns
    exact ⟨rfl, Below.refl _ _⟩
  · rw [fld_2, fld_3]
    have e : cmpV ⟨2, n, ByteArray.empty⟩ ⟨3, n2, ByteArray.empty⟩ = -1 := by simp [cmpV, sgn]
    rw [e]
    clear e
    have HS := fun W => cmpInt 2 3 W
    rw [show sgn 2 3 = -1 from rfl] at HS
    go_enter Try.func49, Try.ntmps49
    go_wp2_with fail
    refine (kind2 n _).mono ?_
    rintro e w1 ⟨rfl, hw1⟩
    subst w1
    go_wp2_with fail
    refine (kind3 n2 _).mono ?_
    rintro e w1 ⟨rfl, hw1⟩
    subst w1
    go_wp2_with fail
    refine (HS _).mono ?_
    rintro e w1 ⟨rfl, hw1⟩
    subst w1
    go_wp2
    go_returns
    exact ⟨rfl, Below.refl _ _⟩
  · rw [fld_2, fld_4]
    have e : cmpV ⟨2, n, ByteArray.empty⟩ ⟨4, 0, t2⟩ = -1 := by simp [cmpV, sgn]
    rw [e]
    clear e
    have HS := fun W => cmpInt 2 4 W
    rw [show sgn 2 4 = -1 from rfl] at HS
    go_enter Try.func49, Try.ntmps49
    go_wp2_with fail
    refine (kind2 n _).mono ?_
    rintro e w1 ⟨rfl, hw1⟩
    subst w1
    go_wp2_with fail
    refine (kind4 t2 _).mono ?_
    rintro e w1 ⟨rfl, hw1⟩
    subst w1
    go_wp2_with fail
    refine (HS _).mono ?_
    rintro e w1 ⟨rfl, hw1⟩
    subst w1
    go_wp2
    go_returns
    exact ⟨rfl, Below.refl _ _⟩
  · rw [fld_3, fld_1]
    have e : cmpV ⟨3, n, ByteArray.empty⟩ ⟨1, 0, ByteArray.empty⟩ = 1 := by simp [cmpV, sgn]
    rw [e]
    clear e
    have HS := fun W => cmpInt 3 1 W
    rw [show sgn 3 1 = 1 from rfl] at HS
    go_enter Try.func49, Try.ntmps49
    go_wp2_with fail
    refine (kind3 n _).mono ?_
    rintro e w1 ⟨rfl, hw1⟩
    subst w1
    go_wp2_with fail
    refine (kind1 _).mono ?_
    rintro e v2 ⟨rfl, hq2⟩
    go_wp2_with fail
    refine (HS _).mono ?_
    rintro e w1 ⟨rfl, hw1⟩
    subst w1
    go_wp2
    go_returns
    exact ⟨rfl, hq2⟩
  · rw [fld_3, fld_2]
    have e : cmpV ⟨3, n, ByteArray.empty⟩ ⟨2, n2, ByteArray.empty⟩ = 1 := by simp [cmpV, sgn]
    rw [e]
    clear e
    have HS := fun W => cmpInt 3 2 W
    rw [show sgn 3 2 = 1 from rfl] at HS
    go_enter Try.func49, Try.ntmps49
    go_wp2_with fail
    refine (kind3 n _).mono ?_
    rintro e w1 ⟨rfl, hw1⟩
    subst w1
    go_wp2_with fail
    refine (kind2 n2 _).mono ?_
    rintro e w1 ⟨rfl, hw1⟩
    subst w1
    go_wp2_with fail
    refine (HS _).mono ?_
    rintro e w1 ⟨rfl, hw1⟩
    subst w1
    go_wp2
    go_returns
    exact ⟨rfl, Below.refl _ _⟩
  · simp only [fld_3]
    have e : cmpV ⟨3, n, ByteArray.empty⟩ ⟨3, n2, ByteArray.empty⟩ = sgn n n2 := by
      by_cases h : n = n2
      · simp [cmpV, sgn, h, cmpB_refl]
      · simp [cmpV, h]
    rw [e]
    clear e
    have HC := fun W => cmpWhole n n2 W
    generalize sgn n n2 = z at *
    have HS := fun W => cmpInt 3 3 W
    rw [show sgn 3 3 = 0 from rfl] at HS
    have f2 := as32 n 
    have f3 := as33 n 
    have f9 := at3 n2 
    go_enter Try.func49, Try.ntmps49
    go_wp2_with fail
    refine (kind3 n _).mono ?_
    rintro e w1 ⟨rfl, hw1⟩
    subst w1
    go_wp2_with fail
    refine (kind3 n2 _).mono ?_
    rintro e w1 ⟨rfl, hw1⟩
    subst w1
    go_wp2_with fail
    refine (HS _).mono ?_
    rintro e w1 ⟨rfl, hw1⟩
    subst w1
    go_wp2_with fail
    refine (HC _).mono ?_
    rintro e w1 ⟨rfl, hw1⟩
    subst w1
    go_wp2
    go_returns
    exact ⟨rfl, Below.refl _ _⟩
  · rw [fld_3, fld_4]
    have e : cmpV ⟨3, n, ByteArray.empty⟩ ⟨4, 0, t2⟩ = -1 := by simp [cmpV, sgn]
    rw [e]
    clear e
    have HS := fun W => cmpInt 3 4 W
    rw [show sgn 3 4 = -1 from rfl] at HS
    go_enter Try.func49, Try.ntmps49
    go_wp2_with fail
    refine (kind3 n _).mono ?_
    rintro e w1 ⟨rfl, hw1⟩
    subst w1
    go_wp2_with fail
    refine (kind4 t2 _).mono ?_
    rintro e w1 ⟨rfl, hw1⟩
    subst w1
    go_wp2_with fail
    refine (HS _).mono ?_
    rintro e w1 ⟨rfl, hw1⟩
    subst w1
    go_wp2
    go_returns
    exact ⟨rfl, Below.refl _ _⟩
  · rw [fld_4, fld_1]
    have e : cmpV ⟨4, 0, t⟩ ⟨1, 0, ByteArray.empty⟩ = 1 := by simp [cmpV, sgn]
    rw [e]
    clear e
    have HS := fun W => cmpInt 4 1 W
    rw [show sgn 4 1 = 1 from rfl] at HS
    go_enter Try.func49, Try.ntmps49
    go_wp2_with fail
    refine (kind4 t _).mono ?_
    rintro e w1 ⟨rfl, hw1⟩
    subst w1
    go_wp2_with fail
    refine (kind1 _).mono ?_
    rintro e v2 ⟨rfl, hq2⟩
    go_wp2_with fail
    refine (HS _).mono ?_
    rintro e w1 ⟨rfl, hw1⟩
    subst w1
    go_wp2
    go_returns
    exact ⟨rfl, hq2⟩
  · rw [fld_4, fld_2]
    have e : cmpV ⟨4, 0, t⟩ ⟨2, n2, ByteArray.empty⟩ = 1 := by simp [cmpV, sgn]
    rw [e]
    clear e
    have HS := fun W => cmpInt 4 2 W
    rw [show sgn 4 2 = 1 from rfl] at HS
    go_enter Try.func49, Try.ntmps49
    go_wp2_with fail
    refine (kind4 t _).mono ?_
    rintro e w1 ⟨rfl, hw1⟩
    subst w1
    go_wp2_with fail
    refine (kind2 n2 _).mono ?_
    rintro e w1 ⟨rfl, hw1⟩
    subst w1
    go_wp2_with fail
    refine (HS _).mono ?_
    rintro e w1 ⟨rfl, hw1⟩
    subst w1
    go_wp2
    go_returns
    exact ⟨rfl, Below.refl _ _⟩
  · rw [fld_4, fld_3]
    have e : cmpV ⟨4, 0, t⟩ ⟨3, n2, ByteArray.empty⟩ = 1 := by simp [cmpV, sgn]
    rw [e]
    clear e
    have HS := fun W => cmpInt 4 3 W
    rw [show sgn 4 3 = 1 from rfl] at HS
    go_enter Try.func49, Try.ntmps49
    go_wp2_with fail
    refine (kind4 t _).mono ?_
    rintro e w1 ⟨rfl, hw1⟩
    subst w1
    go_wp2_with fail
    refine (kind3 n2 _).mono ?_
    rintro e w1 ⟨rfl, hw1⟩
    subst w1
    go_wp2_with fail
    refine (HS _).mono ?_
    rintro e w1 ⟨rfl, hw1⟩
    subst w1
    go_wp2
    go_returns
    exact ⟨rfl, Below.refl _ _⟩
  · simp only [fld_4]
    have e : cmpV ⟨4, 0, t⟩ ⟨4, 0, t2⟩ = cmpB t.data.toList t2.data.toList := by simp [cmpV]
    rw [e]
    clear e
    have HC := fun W => cmpText t t2 W
    generalize cmpB t.data.toList t2.data.toList = z at *
    have HS := fun W => cmpInt 4 4 W
    rw [show sgn 4 4 = 0 from rfl] at HS
    have f2 := as42 t 
    have f3 := as43 t 
    have f4 := as44 t 
    have f9 := at4 t2 
    go_enter Try.func49, Try.ntmps49
    go_wp2_with fail
    refine (kind4 t _).mono ?_
    rintro e w1 ⟨rfl, hw1⟩
    subst w1
    go_wp2_with fail
    refine (kind4 t2 _).mono ?_
    rintro e w1 ⟨rfl, hw1⟩
    subst w1
    go_wp2_with fail
    refine (HS _).mono ?_
    rintro e w1 ⟨rfl, hw1⟩
    subst w1
    go_wp2_with fail
    refine (HC _).mono ?_
    rintro e w1 ⟨rfl, hw1⟩
    subst w1
    go_wp2
    go_returns
    exact ⟨rfl, Below.refl _ _⟩
set_option maxHeartbeats 1600000 in
theorem implCVYes (a b : VV) (w : World) (ha : GoodV a) (hb : GoodV b) :
    Calls Try.prog 14 #[encV a, encV b] w fun e w' => e = .returned (.tuple #[.int .i64 (cmpV a b), .bool true]) ∧ Below w.heap.size w w' := by
  have HA := fun W => implFieldYes a W ha
  have HB := fun W => implFieldYes b W hb
  have HC := fun W => implCmp a b W ha hb
  clear ha hb
  generalize cmpV a b = z at *
  generalize fld a = x at *
  generalize fld b = y at *
  obtain ⟨k, n, t⟩ := a
  obtain ⟨k2, n2, t2⟩ := b
  unfold encV at *
  simp only [] at *
  go_enter Try.func14, Try.ntmps14
  go_wp2_with fail
  refine (HA _).mono ?_
  rintro e w1 ⟨rfl, hb1⟩
  obtain ⟨hc1, hf1⟩ := bcell hb1
  have hz1 := hb1.size
  try simp only [World.size_drew] at hz1
  try simp only [World.size_setCell] at hz1
  try simp only [World.size_alloc] at hz1
  have hz1_0 : w.heap.size < w1.heap.size := by omega
  have hz1_1 : w.heap.size + 1 < w1.heap.size := by omega
  clear hz1
  have k1 : Below w.heap.size w w1 := by
    refine Below.trans ?_ (hb1.mono ?_)
    · go_grown
    · go_size
  have hl1 : w.heap.size ≤ w1.heap.size := k1.size
  clear hb1
  go_wp2_with fail
  refine (HB _).mono ?_
  rintro e w2 ⟨rfl, hb2⟩
  obtain ⟨hc2, hf2⟩ := bcell hb2
  have hz2 := hb2.size
  try simp only [World.size_drew] at hz2
  try simp only [World.size_setCell] at hz2
  try simp only [World.size_alloc] at hz2
  have hz2_0 : w.heap.size < w2.heap.size := by omega
  have hz2_1 : w.heap.size + 1 < w2.heap.size := by omega
  try have hy2_1 : w1.heap.size < w2.heap.size := (by omega)
  clear hz2
  have k2 : Below w.heap.size w w2 := by
    refine Below.trans ?_ (hb2.mono ?_)
    · go_grown
    · go_size
  have hl2 : w.heap.size ≤ w2.heap.size := k2.size
  clear hb2
  go_wp2_with fail
  refine (HC _).mono ?_
  rintro e w3 ⟨rfl, hb3⟩
  obtain ⟨hc3, hf3⟩ := bcell hb3
  have hz3 := hb3.size
  try simp only [World.size_drew] at hz3
  try simp only [World.size_setCell] at hz3
  try simp only [World.size_alloc] at hz3
  have hz3_0 : w.heap.size < w3.heap.size := by omega
  have hz3_1 : w.heap.size + 1 < w3.heap.size := by omega
  try have hy3_1 : w1.heap.size < w3.heap.size := (by omega)
  try have hy3_2 : w2.heap.size < w3.heap.size := (by omega)
  clear hz3
  have k3 : Below w.heap.size w w3 := by
    refine Below.trans ?_ (hb3.mono ?_)
    · go_grown
    · go_size
  have hl3 : w.heap.size ≤ w3.heap.size := k3.size
  clear hb3
  go_wp2
  go_returns
  exact ⟨rfl, by go_grown⟩
set_option maxHeartbeats 1600000 in
theorem implCVNo (a b : VV) (w : World) (hma : a.t.size ≤ maxLen) (hmb : b.t.size ≤ maxLen) (h : ¬ (GoodV a ∧ GoodV b)) :
    Calls Try.prog 14 #[encV a, encV b] w fun e w' => e = .returned (.tuple #[.int .i64 0, .bool false]) ∧ Below w.heap.size w w' := by
  by_cases ha : GoodV a
  · have HA := fun W => implFieldYes a W ha
    have HB := fun W => implFieldNo b W hmb (fun g => h ⟨ha, g⟩)
    clear ha h
    generalize fld a = x at *
    obtain ⟨k, n, t⟩ := a
    obtain ⟨k2, n2, t2⟩ := b
    unfold encV at *
    simp only [] at *
    go_enter Try.func14, Try.ntmps14
    go_wp2_with fail
    refine (HA _).mono ?_
    rintro e w1 ⟨rfl, hb1⟩
    obtain ⟨hc1, hf1⟩ := bcell hb1
    have hz1 := hb1.size
    try simp only [World.size_drew] at hz1
    try simp only [World.size_setCell] at hz1
    try simp only [World.size_alloc] at hz1
    have hz1_0 : w.heap.size < w1.heap.size := by omega
    have hz1_1 : w.heap.size + 1 < w1.heap.size := by omega
    clear hz1
    have k1 : Below w.heap.size w w1 := by
      refine Below.trans ?_ (hb1.mono ?_)
      · go_grown
      · go_size
    have hl1 : w.heap.size ≤ w1.heap.size := k1.size
    clear hb1
    go_wp2_with fail
    refine (HB _).mono ?_
    rintro e w2 ⟨y, rfl, hb2⟩
    have k2 : Below w.heap.size w w2 := k1.trans (Below.trans (by go_grown) (hb2.mono (by go_size)))
    clear hb2
    go_wp2
    go_returns
    exact ⟨rfl, k2⟩
  · have HA := fun W => implFieldNo a W hma ha
    clear ha h
    obtain ⟨k, n, t⟩ := a
    obtain ⟨k2, n2, t2⟩ := b
    unfold encV at *
    simp only [] at *
    go_enter Try.func14, Try.ntmps14
    go_wp2_with fail
    refine (HA _).mono ?_
    rintro e w1 ⟨x, rfl, hb1⟩
    have k1 : Below w.heap.size w w1 := Below.trans (by go_grown) (hb1.mono (by go_size))
    clear hb1
    go_wp2
    go_returns
    exact ⟨rfl, k1⟩
end Go.Proofs.Ytolkiofdbdjfkaa
