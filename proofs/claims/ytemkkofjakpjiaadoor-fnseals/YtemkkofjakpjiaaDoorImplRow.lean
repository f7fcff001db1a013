/- The contract of a row of pairs. Condition: the table of weights as it is laid; the row lies in memory. -/
import Derived.Test.YtemkkofjakpjiaaDoorImplTree
namespace Go.Proofs.YtemkkofjakpjiaaDoor
open Go.ChangeShapes Go.WideShapes Go.ChangeAt Go.RowKit Go.Deep
set_option linter.unusedVariables false
attribute [local go_sem ↓] Go.wp_at_zero Go.wp_at_succ

set_option maxHeartbeats 3200000 in
set_option maxRecDepth 100000 in
theorem implRow (s : ByteArray) (h m n g c : Nat) (w : World) (hn : n = 2 * m) (hm0 : 1 ≤ m) (hm1 : m ≤ 4) (hg : g < w.heap.size) (hcell : ∀ i, i < n → w.cell? ⟨g, i, none⟩ = some (.string (lev s h i))) (ht : Table w) :
    Calls Tryd.prog 119 #[.slice (some ⟨g, 0, none⟩) n c] w fun e w' => e = .returned (.slice (some ⟨w.heap.size, 0, none⟩) m m) ∧ OwnRow w.heap.size w' w.heap.size m (fun i => .string (lev s (h + 1) i)) ∧ Below w.heap.size w w' := by
  have hmk := fun W => makeN m (by omega) W
  have hmd := madeN m w
  have HT : Hid (Table w) := ht
  have HC : Hid (∀ i, i < n → w.cell? ⟨g, i, none⟩ = some (.string (lev s h i))) := hcell
  generalize madeCells #[Value.string ByteArray.empty] m = M at *
  have HM : Hid (OwnRow w.heap.size (w.alloc (.cells M 9)) w.heap.size m (fun _ => .string ByteArray.empty)) := hmd
  have hdv : (n : Int) / 2 = (m : Int) := by omega
  have HN : Hid (n = 2 * m) := hn
  have hn8 : n ≤ 8 := by omega
  clear hmd ht hcell hn
  go_enter Tryd.func119, Tryd.ntmps119
  go_wp2
  go_loopw [4, 11] (fun x i wr => ∃ k : Nat, k ≤ m ∧ i = .int .i64 k ∧ (∃ f, OwnRow w.heap.size wr w.heap.size m f ∧ (∀ i, i < m → ∃ x, f i = .string x) ∧ ∀ i, i < k → f i = .string (lev s (h + 1) i)) ∧ Below w.heap.size w wr) (fun _ i _ => m - (intOf i).toNat)
  case atStart => exact ⟨0, Nat.zero_le _, rfl, ⟨_, HM.out, fun i _ => ⟨_, rfl⟩, fun i hi => by omega⟩, by go_grown⟩
  case round =>
    obtain ⟨k, hk, rfl, ⟨f, ho, hx, hf⟩, kb⟩ := hrel
    have kl := kb.size
    have HO : Hid (OwnRow w.heap.size wr w.heap.size m f) := ho
    have HX : Hid (∀ i, i < m → ∃ x, f i = .string x) := hx
    have HF : Hid (∀ i, i < k → f i = .string (lev s (h + 1) i)) := hf
    have hgw := ho.2.1
    clear ho hx hf
    by_cases hlt : k < m
    · have hc := HO.out.2.2.1 k hlt
      have hfz := HO.out.2.2.2 k hlt
      obtain ⟨x0, hx0⟩ := HX.out k hlt
      rw [hx0] at hc
      clear hx0
      obtain ⟨I, hI⟩ : ∃ I, I = 2 * k := ⟨_, rfl⟩
      have ca : wr.cell? ⟨g, I, none⟩ = some (.string (lev s h (2 * k))) := by rw [hI]; exact (kb.cell (p := ⟨g, 2 * k, none⟩) hg).trans (HC.out _ (by rw [HN.out]; omega))
      have cb : wr.cell? ⟨g, I + 1, none⟩ = some (.string (lev s h (2 * k + 1))) := by rw [hI]; exact (kb.cell (p := ⟨g, 2 * k + 1, none⟩) hg).trans (HC.out _ (by rw [HN.out]; omega))
      have za := lev_size s h (2 * k)
      have zb := lev_size s h (2 * k + 1)
      have HP := fun W hT => implPair (lev s h (2 * k)) (lev s h (2 * k + 1)) W za zb hT
      have HE : Hid (lev s (h + 1) k = pairB (lev s h (2 * k)) (lev s h (2 * k + 1))) := rfl
      have HTr : Hid (Table wr) := HT.out.below kb
      generalize pairB (lev s h (2 * k)) (lev s h (2 * k + 1)) = r at *
      generalize lev s h (2 * k) = xa at *
      generalize lev s h (2 * k + 1) = xb at *
      have hgr : g < wr.heap.size := by omega
      have hne : w.heap.size ≠ g := by omega
      have hw0 : IntKind.i64.wrap (2 * (k : Int)) = (I : Int) := by rw [IntKind.wrap_i64]; omega
      have hw1 : IntKind.i64.wrap ((I : Int) + 1) = (I : Int) + 1 := by rw [IntKind.wrap_i64]; omega
      have hk0 : (0 : Int) ≤ (I : Int) := by omega
      have hk1 : (0 : Int) ≤ (I : Int) + 1 := by omega
      have hkk : (0 : Int) ≤ (k : Int) := by omega
      have hk2 : (I : Int) < (n : Int) := by have := HN.out; omega
      have hk3 : (I : Int) + 1 < (n : Int) := by have := HN.out; omega
      have hki : (k : Int) < (m : Int) := by omega
      have hI9 : I ≤ 8 := by omega
      clear hI
      go_upto_region 16 with fail
      go_region_held3 (fun w' => w'.cell? ⟨g, I, none⟩ = some (.string xa) ∧ w'.cell? ⟨g, I + 1, none⟩ = some (.string xb)) (first | go_keep | trivial)
        (first
          | (go_at_call 100; refine (HP _ (by exact HTr.out.below (by go_grown))).mono ?_; rintro e w4 ⟨rfl, hb4⟩; have hp4 := kept hb4 g (by go_size); have q4a : w4.cell? ⟨g, I, none⟩ = some (.string xa) := (hp4 I).trans (by simpa using ca); have q4b : w4.cell? ⟨g, I + 1, none⟩ = some (.string xb) := (hp4 (I + 1)).trans (by simpa using cb); have hz4 := hb4.size; (try simp only [World.size_drew] at hz4); have hg4 : g < w4.heap.size := (by omega); have hw4 : w.heap.size < w4.heap.size := (by omega); have kw4 : Below wr.heap.size wr w4 := (by exact Below.trans (by go_grown) (hb4.mono (by go_size))); have HO4 : Hid (OwnRow w.heap.size w4 w.heap.size m f) := HO.out.below kw4; have hc4 : w4.cell? ⟨w.heap.size, k, none⟩ = some (.string x0) := (by exact (kw4.cell (p := ⟨w.heap.size, k, none⟩) hgw).trans hc); have hf4 : w4.frozen? ⟨w.heap.size, k, none⟩ = false := (by exact (kw4.frozen (p := ⟨w.heap.size, k, none⟩) hgw).trans hfz); clear hb4))
      all_goals
        have kb4 : Below w.heap.size w w4 := kb.trans (kw4.mono kl)
        go_wp2_with fail
        refine ⟨⟨k + 1, by omega, by go_num, ⟨_, HO4.out.set hlt _, fun i hi => ?_, fun i hi => ?_⟩, by go_grown⟩, by simp [intOf]; omega⟩
        · by_cases e : i = k
          · exact ⟨_, by simp only [e, if_true]; rfl⟩
          · obtain ⟨x, hx⟩ := HX.out i hi
            exact ⟨x, by simp only [if_neg e]; exact hx⟩
        · by_cases e : i = k
          · simp only [e, if_true]; rw [HE.out]
          · simp only [if_neg e]; exact HF.out i (by omega)
    · have hke : k = m := by omega
      subst hke
      go_wp2
      go_returns
      exact ⟨rfl, HO.out.congr (fun i hi => HF.out i hi), kb⟩
end Go.Proofs.YtemkkofjakpjiaaDoor
