/- Contracts of the moves along the chains: each part as it is behind its move, and all of them joined. Condition: the table of weights as it is laid. -/
import Derived.Test.YtemkkofjakpjiaaDoorKeys
import Derived.Test.YtemkkofjakpjiaaDoorDigits2
namespace Go.Proofs.YtemkkofjakpjiaaDoor
open Go.ChangeShapes Go.WideShapes Go.ChangeAt Go.RowKit Go.Deep
set_option linter.unusedVariables false

/-- Eleven digits, as the program's array holds them. -/
def Digs (V : Array Value) (zs : List Int) : Prop := V.size = 11 ∧ ∀ i, i < 11 → V[i]? = some (.int .i64 (zs.getD i 0)) ∧ 0 ≤ zs.getD i 0 ∧ zs.getD i 0 ≤ 15
theorem digs_V (s : ByteArray) : Digs (digV s) (digs s) := ⟨digV_size s, fun i hi => ⟨digV_at s i hi, digs_at s i hi⟩⟩

set_option maxHeartbeats 800000 in
theorem implUp (V : Array Value) (zs : List Int) (k : Nat) (s : ByteArray) (w : World) (hV : Digs V zs) (hk : k < 11) (hs : s.size = 4) (ht : Table w) :
    Calls Tryd.prog 68 #[.agg V, .int .i64 k, .string s] w fun e w' => e = .returned (.string (chainB s 0 (zs.getD k 0).toNat)) ∧ Below w.heap.size w w' := by
  obtain ⟨hc, h0, h1⟩ := hV.2 k hk
  have hsz := hV.1
  obtain ⟨N, hN⟩ := Int.eq_ofNat_of_zero_le h0
  have hN' : (zs.getD k 0).toNat = N := by omega
  have hN2 : (15 - zs.getD k 0).toNat = 15 - N := by omega
  rw [hN']
  have h15 : N ≤ 15 := by omega
  rw [hN] at hc
  have hk0 : (0 : Int) ≤ (k : Int) := by omega
  have hk1 : (k : Int) < 11 := by omega
  have hcell : (w.alloc (.cells V 90)).cell? ⟨w.heap.size, k, none⟩ = some (.int .i64 (N : Int)) := by simp [World.cell?_alloc_new, hc]
  have t1 := Table.below ht ((Below.refl _ w).alloc (Nat.le_refl _) (.cells V 90))
  have HG := implGoUp s N _ hs h15 t1
  clear hV hc hN hN' hN2 h0 h1 t1 ht
  go_enter Tryd.func68, Tryd.ntmps68
  go_wp2_with fail
  refine HG.mono ?_
  rintro e w1 ⟨rfl, hb1⟩
  have k1 : Below w.heap.size w w1 := ((Below.refl _ w).alloc (Nat.le_refl _) _).trans (hb1.mono (by simp))
  clear hb1
  go_wp2
  go_returns
  exact ⟨rfl, k1⟩

set_option maxHeartbeats 800000 in
theorem implOn (V : Array Value) (zs : List Int) (k : Nat) (s : ByteArray) (w : World) (hV : Digs V zs) (hk : k < 11) (hs : s.size = 4) (ht : Table w) :
    Calls Tryd.prog 74 #[.agg V, .int .i64 k, .string s] w fun e w' => e = .returned (.string (chainB s (zs.getD k 0).toNat (15 - zs.getD k 0).toNat)) ∧ Below w.heap.size w w' := by
  obtain ⟨hc, h0, h1⟩ := hV.2 k hk
  have hsz := hV.1
  obtain ⟨N, hN⟩ := Int.eq_ofNat_of_zero_le h0
  have hN' : (zs.getD k 0).toNat = N := by omega
  have hN2 : (15 - zs.getD k 0).toNat = 15 - N := by omega
  rw [hN', hN2]
  have h15 : N ≤ 15 := by omega
  rw [hN] at hc
  have hk0 : (0 : Int) ≤ (k : Int) := by omega
  have hk1 : (k : Int) < 11 := by omega
  have hcell : (w.alloc (.cells V 90)).cell? ⟨w.heap.size, k, none⟩ = some (.int .i64 (N : Int)) := by simp [World.cell?_alloc_new, hc]
  have t1 := Table.below ht ((Below.refl _ w).alloc (Nat.le_refl _) (.cells V 90))
  have HG := implGoOn s N _ hs h15 t1
  clear hV hc hN hN' hN2 h0 h1 t1 ht
  go_enter Tryd.func74, Tryd.ntmps74
  go_wp2_with fail
  refine HG.mono ?_
  rintro e w1 ⟨rfl, hb1⟩
  have k1 : Below w.heap.size w w1 := ((Below.refl _ w).alloc (Nat.le_refl _) _).trans (hb1.mono (by simp))
  clear hb1
  go_wp2
  go_returns
  exact ⟨rfl, k1⟩

/-- What the move makes of each part. -/
def movedUp (zs : List Int) (ss : List ByteArray) : List ByteArray := (List.range 11).map fun k => chainB (ss.getD k ByteArray.empty) 0 (zs.getD k 0).toNat
theorem movedUp_at (zs : List Int) (ss : List ByteArray) (k : Nat) (h : k < 11) : (movedUp zs ss).getD k ByteArray.empty = chainB (ss.getD k ByteArray.empty) 0 (zs.getD k 0).toNat := getD_range _ _ _ _ h
theorem movedUp_len (zs : List Int) (ss : List ByteArray) : (movedUp zs ss).length = 11 := by simp [movedUp]
set_option maxHeartbeats 1600000 in
theorem implMoveUp (V : Array Value) (zs : List Int) (ss : List ByteArray) (b off cap : Nat) (w : World) (hV : Digs V zs) (hss : ∀ i, i < 11 → (ss.getD i ByteArray.empty).size = 4) (hb : b < w.heap.size)
    (hcell : ∀ i, i < 11 → w.cell? ⟨b, off + i, none⟩ = some (.string (ss.getD i ByteArray.empty))) (ht : Table w) :
    Calls Tryd.prog 67 #[.slice (some ⟨b, off, none⟩) 11 cap, .func (.func 68) #[.agg V] #[]] w fun e w' => ∃ g, e = .returned (.slice (some ⟨g, 0, none⟩) 11 11) ∧ OwnRow w.heap.size w' g 11 (fun i => .string ((movedUp zs ss).getD i ByteArray.empty)) ∧ Below w.heap.size w w' := by
  have hmk := make11
  have hm0 := made11 w
  have HT : Hid (Table w) := ht
  have HV : Hid (Digs V zs) := hV
  have HSS : Hid (∀ i, i < 11 → (ss.getD i ByteArray.empty).size = 4) := hss
  have HC : Hid (∀ i, i < 11 → w.cell? ⟨b, off + i, none⟩ = some (.string (ss.getD i ByteArray.empty))) := hcell
  generalize madeCells #[Value.string ByteArray.empty] 11 = M at *
  have HM : Hid (OwnRow w.heap.size (w.alloc (.cells M 9)) w.heap.size 11 (fun _ => .string ByteArray.empty)) := hm0
  clear hm0 ht hV hss hcell
  go_enter Tryd.func67, Tryd.ntmps67
  go_wp2
  go_loopw [6, 7, 13] (fun x y i wr => ∃ k : Nat, k ≤ 11 ∧ i = .int .i64 k ∧ (∃ f, OwnRow w.heap.size wr w.heap.size 11 f ∧ (∀ i, i < 11 → ∃ x, f i = .string x) ∧ ∀ i, i < k → f i = .string ((movedUp zs ss).getD i ByteArray.empty)) ∧ Below w.heap.size w wr) (fun _ _ i _ => 11 - (intOf i).toNat)
  case atStart => exact ⟨0, Nat.zero_le _, rfl, ⟨_, HM.out, fun i _ => ⟨_, rfl⟩, fun i hi => by omega⟩, by go_grown⟩
  case round =>
    obtain ⟨k, hk, rfl, ⟨f, ho, hx, hf⟩, kb⟩ := hrel
    have kl := kb.size
    have HO : Hid (OwnRow w.heap.size wr w.heap.size 11 f) := ho
    have HX : Hid (∀ i, i < 11 → ∃ x, f i = .string x) := hx
    have HF : Hid (∀ i, i < k → f i = .string ((movedUp zs ss).getD i ByteArray.empty)) := hf
    clear ho hx hf
    by_cases hlt : k < 11
    · have hc0 : wr.cell? ⟨b, off + k, none⟩ = some (.string (ss.getD k ByteArray.empty)) := (kb.cell (p := ⟨b, off + k, none⟩) hb).trans (HC.out k hlt)
      have HE : Hid ((movedUp zs ss).getD k ByteArray.empty = chainB (ss.getD k ByteArray.empty) 0 (zs.getD k 0).toNat) := movedUp_at zs ss k hlt
      have HU := fun W => implUp V zs k (ss.getD k ByteArray.empty) W HV.out hlt (HSS.out k hlt)
      generalize chainB (ss.getD k ByteArray.empty) 0 (zs.getD k 0).toNat = r at *
      generalize ss.getD k ByteArray.empty = t at *
      go_wp2_with fail
      refine (HU _ (HT.out.below kb)).mono ?_
      rintro e w1 ⟨rfl, hb1⟩
      have kb1 : Below w.heap.size w w1 := kb.trans (hb1.mono kl)
      have HO1 : Hid (OwnRow w.heap.size w1 w.heap.size 11 f) := HO.out.below hb1
      clear hb1 HU
      have hc := HO1.out.2.2.1 k hlt
      have hfz := HO1.out.2.2.2 k hlt
      obtain ⟨x0, hx0⟩ := HX.out k hlt
      rw [hx0] at hc
      clear hx0
      go_wp2
      refine ⟨⟨k + 1, by omega, by go_num, ⟨_, HO1.out.set hlt _, fun i hi => ?_, fun i hi => ?_⟩, by go_grown⟩, by simp [intOf]; omega⟩
      · by_cases e : i = k
        · exact ⟨_, by simp only [e, if_true]; rfl⟩
        · obtain ⟨x, hx⟩ := HX.out i hi
          exact ⟨x, by simp only [if_neg e]; exact hx⟩
      · by_cases e : i = k
        · simp only [e, if_true]; rw [HE.out]
        · simp only [if_neg e]; exact HF.out i (by omega)
    · have hke : k = 11 := by omega
      subst hke
      go_wp2
      go_returns
      exact ⟨_, rfl, HO.out.congr (fun i hi => HF.out i hi), kb⟩

/-- What the move makes of each part. -/
def movedOn (zs : List Int) (ss : List ByteArray) : List ByteArray := (List.range 11).map fun k => chainB (ss.getD k ByteArray.empty) (zs.getD k 0).toNat (15 - zs.getD k 0).toNat
theorem movedOn_at (zs : List Int) (ss : List ByteArray) (k : Nat) (h : k < 11) : (movedOn zs ss).getD k ByteArray.empty = chainB (ss.getD k ByteArray.empty) (zs.getD k 0).toNat (15 - zs.getD k 0).toNat := getD_range _ _ _ _ h
theorem movedOn_len (zs : List Int) (ss : List ByteArray) : (movedOn zs ss).length = 11 := by simp [movedOn]
set_option maxHeartbeats 1600000 in
theorem implMoveOn (V : Array Value) (zs : List Int) (ss : List ByteArray) (b off cap : Nat) (w : World) (hV : Digs V zs) (hss : ∀ i, i < 11 → (ss.getD i ByteArray.empty).size = 4) (hb : b < w.heap.size)
    (hcell : ∀ i, i < 11 → w.cell? ⟨b, off + i, none⟩ = some (.string (ss.getD i ByteArray.empty))) (ht : Table w) :
    Calls Tryd.prog 67 #[.slice (some ⟨b, off, none⟩) 11 cap, .func (.func 74) #[.agg V] #[]] w fun e w' => ∃ g, e = .returned (.slice (some ⟨g, 0, none⟩) 11 11) ∧ OwnRow w.heap.size w' g 11 (fun i => .string ((movedOn zs ss).getD i ByteArray.empty)) ∧ Below w.heap.size w w' := by
  have hmk := make11
  have hm0 := made11 w
  have HT : Hid (Table w) := ht
  have HV : Hid (Digs V zs) := hV
  have HSS : Hid (∀ i, i < 11 → (ss.getD i ByteArray.empty).size = 4) := hss
  have HC : Hid (∀ i, i < 11 → w.cell? ⟨b, off + i, none⟩ = some (.string (ss.getD i ByteArray.empty))) := hcell
  generalize madeCells #[Value.string ByteArray.empty] 11 = M at *
  have HM : Hid (OwnRow w.heap.size (w.alloc (.cells M 9)) w.heap.size 11 (fun _ => .string ByteArray.empty)) := hm0
  clear hm0 ht hV hss hcell
  go_enter Tryd.func67, Tryd.ntmps67
  go_wp2
  go_loopw [6, 7, 13] (fun x y i wr => ∃ k : Nat, k ≤ 11 ∧ i = .int .i64 k ∧ (∃ f, OwnRow w.heap.size wr w.heap.size 11 f ∧ (∀ i, i < 11 → ∃ x, f i = .string x) ∧ ∀ i, i < k → f i = .string ((movedOn zs ss).getD i ByteArray.empty)) ∧ Below w.heap.size w wr) (fun _ _ i _ => 11 - (intOf i).toNat)
  case atStart => exact ⟨0, Nat.zero_le _, rfl, ⟨_, HM.out, fun i _ => ⟨_, rfl⟩, fun i hi => by omega⟩, by go_grown⟩
  case round =>
    obtain ⟨k, hk, rfl, ⟨f, ho, hx, hf⟩, kb⟩ := hrel
    have kl := kb.size
    have HO : Hid (OwnRow w.heap.size wr w.heap.size 11 f) := ho
    have HX : Hid (∀ i, i < 11 → ∃ x, f i = .string x) := hx
    have HF : Hid (∀ i, i < k → f i = .string ((movedOn zs ss).getD i ByteArray.empty)) := hf
    clear ho hx hf
    by_cases hlt : k < 11
    · have hc0 : wr.cell? ⟨b, off + k, none⟩ = some (.string (ss.getD k ByteArray.empty)) := (kb.cell (p := ⟨b, off + k, none⟩) hb).trans (HC.out k hlt)
      have HE : Hid ((movedOn zs ss).getD k ByteArray.empty = chainB (ss.getD k ByteArray.empty) (zs.getD k 0).toNat (15 - zs.getD k 0).toNat) := movedOn_at zs ss k hlt
      have HU := fun W => implOn V zs k (ss.getD k ByteArray.empty) W HV.out hlt (HSS.out k hlt)
      generalize chainB (ss.getD k ByteArray.empty) (zs.getD k 0).toNat (15 - zs.getD k 0).toNat = r at *
      generalize ss.getD k ByteArray.empty = t at *
      go_wp2_with fail
      refine (HU _ (HT.out.below kb)).mono ?_
      rintro e w1 ⟨rfl, hb1⟩
      have kb1 : Below w.heap.size w w1 := kb.trans (hb1.mono kl)
      have HO1 : Hid (OwnRow w.heap.size w1 w.heap.size 11 f) := HO.out.below hb1
      clear hb1 HU
      have hc := HO1.out.2.2.1 k hlt
      have hfz := HO1.out.2.2.2 k hlt
      obtain ⟨x0, hx0⟩ := HX.out k hlt
      rw [hx0] at hc
      clear hx0
      go_wp2
      refine ⟨⟨k + 1, by omega, by go_num, ⟨_, HO1.out.set hlt _, fun i hi => ?_, fun i hi => ?_⟩, by go_grown⟩, by simp [intOf]; omega⟩
      · by_cases e : i = k
        · exact ⟨_, by simp only [e, if_true]; rfl⟩
        · obtain ⟨x, hx⟩ := HX.out i hi
          exact ⟨x, by simp only [if_neg e]; exact hx⟩
      · by_cases e : i = k
        · simp only [e, if_true]; rw [HE.out]
        · simp only [if_neg e]; exact HF.out i (by omega)
    · have hke : k = 11 := by omega
      subst hke
      go_wp2
      go_returns
      exact ⟨_, rfl, HO.out.congr (fun i hi => HF.out i hi), kb⟩

theorem movedOn_four (zs : List Int) (ss : List ByteArray) (hss : ∀ i, i < 11 → (ss.getD i ByteArray.empty).size = 4) : ∀ s ∈ movedOn zs ss, s.size = 4 := by
  intro s hs
  simp only [movedOn, List.mem_map] at hs
  obtain ⟨k, hk, rfl⟩ := hs
  exact chainB_size _ _ _ (hss k (by simpa using hk))
theorem mk_size (l : List UInt8) : (⟨l.toArray⟩ : ByteArray).size = l.length := by simp [ByteArray.size]
theorem getElem_getD {ss : List ByteArray} {j : Nat} {x : ByteArray} (h : ss[j]? = some x) : j < ss.length ∧ ss.getD j ByteArray.empty = x := by
  have hl : j < ss.length := (List.getElem?_eq_some_iff.1 h).1
  exact ⟨hl, by simp [List.getD, h]⟩
set_option maxHeartbeats 1600000 in
theorem implJoinOn (V : Array Value) (zs : List Int) (ss : List ByteArray) (b off cap : Nat) (w : World) (hV : Digs V zs) (hss : ∀ i, i < 11 → (ss.getD i ByteArray.empty).size = 4) (hb : b < w.heap.size)
    (hcell : ∀ i, i < 11 → w.cell? ⟨b, off + i, none⟩ = some (.string (ss.getD i ByteArray.empty))) (ht : Table w) :
    Calls Tryd.prog 73 #[.slice (some ⟨b, off, none⟩) 11 cap, .func (.func 74) #[.agg V] #[]] w fun e w' => e = .returned (.string (catB (movedOn zs ss))) ∧ Below w.heap.size w w' := by
  have HU := implMoveOn V zs ss b off cap w hV hss hb hcell ht
  have h4 := movedOn_four zs ss hss
  have hl := movedOn_len zs ss
  clear hV hss hcell ht
  generalize movedOn zs ss = xs at *
  go_enter Tryd.func73, Tryd.ntmps73
  go_wp2_with fail
  refine HU.mono ?_
  rintro e w1 ⟨g, rfl, ho, hb1⟩
  have hJ := stringsJoin g 0 11 xs ⟨#[]⟩ w1 (fun j x hj => by
    obtain ⟨hlt, he⟩ := getElem_getD hj
    rw [hl] at hlt
    have := ho.2.2.1 j hlt
    rw [Nat.zero_add, this]
    show some (Value.string (xs.getD j ByteArray.empty)) = _
    rw [he]) ho.2.1 (by omega) (by omega) (by
      have := catB_join xs
      have hs := catB_size xs h4
      rw [← this] at hs
      have e : (Lib.join (xs.map (·.data.toList)) ([] : List UInt8)).length = 4 * xs.length := by rwa [mk_size] at hs
      show (Lib.join (xs.map (·.data.toList)) ([] : List UInt8)).length ≤ _
      rw [e]; omega)
  have e0 : (⟨(Lib.join (xs.map (·.data.toList)) (⟨#[]⟩ : ByteArray).data.toList).toArray⟩ : ByteArray) = catB xs := catB_join xs
  rw [e0, hl] at hJ
  clear e0 HU ho
  go_wp2_with fail
  refine hJ.mono ?_
  rintro e w2 ⟨rfl, hb2⟩
  go_wp2
  go_returns
  exact ⟨rfl, hb1.trans (hb2.mono hb1.size)⟩
end Go.Proofs.YtemkkofjakpjiaaDoor
