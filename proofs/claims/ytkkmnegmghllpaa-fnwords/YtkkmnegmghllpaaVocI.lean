/- Contract of the program's VocabularyOf. Condition: the documents lie in memory. -/
import Derived.Test.YtkkmnegmghllpaaVocSp
import Derived.Test.YtkkmnegmghllpaaImplLk
import Derived.Test.YtkkmnegmghllpaaShelfS
namespace Go.Proofs.Ytkkmnegmghllpaa
open Go.ChangeShapes Go.WideShapes Go.ChangeAt Go.RowKit Go.Deep Go.Maps Go.Sort
set_option linter.unusedVariables false
attribute [local go_sem ↓] Go.wp_at_zero Go.wp_at_succ

def leB9 (x y : List UInt8) : Bool := decide (x ≤ y)
theorem sorted_lt {ss : List (List UInt8)} (hn : ss.Nodup) : (ss.mergeSort (fun x y => decide (x ≤ y))).Pairwise (fun x y => x < y) := by
  have h1 : (ss.mergeSort (fun x y => decide (x ≤ y))).Pairwise (fun x y => decide (x ≤ y) = true) :=
    List.pairwise_mergeSort (fun a b c h g => by simp only [decide_eq_true_eq] at *; exact List.le_trans h g) (fun a b => by
      simp only [Bool.or_eq_true, decide_eq_true_eq]; exact List.le_total a b) ss
  have h2 : (ss.mergeSort (fun x y => decide (x ≤ y))).Nodup := (List.mergeSort_perm ss _).nodup_iff.2 hn
  have h3 := List.pairwise_iff_getElem.1 h1
  have h4 := List.pairwise_iff_getElem.1 h2
  refine List.pairwise_iff_getElem.2 fun i j hi hj hij => ?_
  have h5 := h3 i j hi hj hij
  have h6 := h4 i j hi hj hij
  rcases l_total (ss.mergeSort (fun x y => decide (x ≤ y)))[i] (ss.mergeSort (fun x y => decide (x ≤ y)))[j] with h | h | h
  · exact h
  · exact (h6 h).elim
  · exact (List.not_lt.2 (of_decide_eq_true h5) h).elim
def unL (l : List (List UInt8)) : List ByteArray := l.map fun x => ⟨x.toArray⟩
theorem unL_kL (l : List (List UInt8)) : (unL l).map kL = l := by
  unfold unL
  rw [List.map_map]
  conv => rhs; rw [← List.map_id l]
  rfl
theorem strsV_unL (l : List (List UInt8)) : strsV (unL l) = l.map encStr := by
  unfold strsV unL
  rw [List.map_map]
  rfl
theorem unL_mem (l : List (List UInt8)) (s : ByteArray) : s ∈ unL l ↔ kL s ∈ l := by
  unfold unL
  rw [List.mem_map]
  constructor
  · rintro ⟨x, h, rfl⟩; exact h
  · intro h; exact ⟨kL s, h, kL_inj rfl⟩
/-- The keys met, sorted, are the vocabulary. -/
theorem voc_of {ds : List ByteArray} {D : DataW Value} {left : Lit → Bool} {ss : List (List UInt8)} (hC : Collected D left ss) (hl : ∀ kl, left kl = false) (hh : ∀ s, Maps.has D (kS s) = true ↔ psK ds s ds.length ≠ []) :
    VocIs ds ds.length (unL (ss.mergeSort (fun x y => decide (x ≤ y)))) := by
  refine ⟨?_, fun s => ?_⟩
  · unfold SrtS; rw [unL_kL]; exact sorted_lt hC.1
  · rw [unL_mem, (List.mergeSort_perm ss _).mem_iff, hC.2, ← psK_has ds s ds.length, ← hh s]
    exact ⟨fun h => h.1, fun h => ⟨h, hl _⟩⟩
set_option maxHeartbeats 12800000 in
set_option maxRecDepth 100000 in
theorem implVoc (x : Value) (ds V : List ByteArray) (hVI : VoIs ds V) (w : World) (hx : StrsAt w x ds) (hl : ds.length ≤ 1048576) (hz : ∀ s ∈ ds, s.size ≤ 1048576) :
    Calls Try.prog 18 #[x] w fun e w' => (∃ v, e = .returned (.tuple #[v, .bool (docsB ds)]) ∧ OwnS w' w.heap.size 9 v V.length (strsV V)) ∧ Below w.heap.size w w' := by
  obtain ⟨i0, hi, hzz⟩ := Option.map_eq_some_iff.1 infoSt9
  simp only [Prod.mk.injEq] at hzz
  obtain ⟨hz0, hz1, hz2⟩ := hzz
  have HX := hid hx
  have HIX := fun W h => implIndex9 x ds W h hl hz
  have HNO := hid hVI.no
  have HYS := hid hVI.yes
  obtain ⟨xa, xc, hxe⟩ := hx.slice
  subst hxe
  clear hx hl hz
  go_enter Try.func18, Try.ntmps18
  go_wp2_with fail
  refine (HIX _ HX.out).mono ?_
  rintro e w1 ⟨hcs, hb1⟩
  have kl1 := hb1.size
  rcases hcs with ⟨hd, mb, n, rfl, hn, D, V0, F, hF⟩ | ⟨hd, rfl⟩
  · have hown := hF.own
    have hmb := hown.lt
    have hsz := hown.size_le
    have HHAS := hid hF.has
    have HD := hid hd
    clear hF hd HIX
    go_wp2_with (first | (at_range; refine wpList_range_own _ rfl _ 79 rfl 9 77 lawS Try.underlying79 hR mb n D rfl hown ?_; intro w0 hrg0 hg0 hs0) | fail)
    go_frame
    have k0 : Below w1.heap.size w1 w0 := (Below.refl _ _).grown hg0 (Nat.le_refl _) (fun j hj => by cases hj)
    clear hs0
    go_loopw [6] (fun v wr => ∃ (left : Lit → Bool) (cnt : Nat) (ss : List (List UInt8)), Hid (wr.ranges Try.prog 9 hR mb w1.heap.size n D left cnt) ∧ ss.length + cnt ≤ Maps.size D ∧ Hid (wr.ownsRow w1.heap.size 9 1 v ss.length (ss.map encStr)) ∧ Hid (Collected D left ss) ∧ Below w1.heap.size w1 wr) (fun _ wr => wr.rangeLeft mb w1.heap.size)
    case atStart => exact ⟨_, _, [], hrg0, by simp, World.ownsRow_nil _ _ _ _, Collected.start D, k0⟩
    case round =>
      obtain ⟨left, cnt, ss, hRG, hcs, hO, hC, kb⟩ := hrel
      have kl := kb.size
      go_wp2_with (first
        | (at_next; refine wpList_next_ranges _ rfl _ rfl 9 lawS hR Value.string (fun v : Value => v) (fun key kl hk => by obtain ⟨x, hx, _⟩ := Maps.keyOf_str Try.underlying9 hk; exact ⟨⟨x.toArray⟩, hx⟩) (fun v y hv => ⟨v, rfl⟩) mb w1.heap.size n D left cnt rfl hRG.out ?_ ?_)
        | fail)
      · intro hc0 hl0
        have HLN : Hid ((unL (ss.mergeSort (fun x y => decide (x ≤ y)))).length = ss.length ∧ (ss.mergeSort (fun x y => decide (x ≤ y))).length = ss.length) := by
          refine ⟨?_, List.length_mergeSort ss⟩
          unfold unL
          rw [List.length_map]; exact List.length_mergeSort ss
        have HA : Hid (V = unL (ss.mergeSort (fun x y => decide (x ≤ y)))) := (HYS.out HD.out _ (voc_of hC.out hl0 HHAS.out) (by rw [HLN.out.1]; omega)).symm
        have kw : Below w.heap.size w wr := hb1.trans (kb.mono kl1)
        rcases hO.out.2 with ⟨hnil, hnone⟩ | ⟨g, cap, cur, rfl, hbase, hb, h1, h2, h3, h4⟩
        · subst hnil
          have hss : ss = [] := List.eq_nil_of_length_eq_zero (by first | omega | (simp at hnone; omega))
          have HE : Hid (V = []) := by show _ = _; rw [HA.out, hss]; simp [unL]
          have hc := slicesSortNone none 0 wr
          clear hss hl0 hc0
          go_wp2_with fail
          refine hc.mono ?_
          rintro e w3 ⟨rfl, hw3⟩
          subst w3
          go_wp2_with fail
          go_returns
          exact ⟨⟨_, by rw [HD.out]; rfl, by rw [HE.out]; exact OwnS.nil _ _ _⟩, kw⟩
        · have hH : Holds encStr wr g 0 ss.toArray := holds_of_block hb (by simpa using h4)
          have hgl : g < wr.heap.size := (Array.getElem?_eq_some_iff.1 hb).1
          have hc := slicesSort g 0 cap ss wr hH hgl (by omega)
          have HB := hid hb
          have HX3 := hid h3
          clear hb h3 h4 hH hl0 hc0
          go_wp2_with fail
          refine hc.mono ?_
          rintro e w3 ⟨rfl, nn, os, hw3⟩
          have HOW : Hid (w3.ownsRow w1.heap.size 9 1 (.slice (some ⟨g, 0, none⟩) ss.length cap) ss.length ((ss.mergeSort (fun x y => decide (x ≤ y))).map encStr)) := by
            show World.ownsRow _ _ _ _ _ _ _
            rw [hw3]; exact ownsRow_sorted HLN.out.2 hbase HB.out h1 h2 HX3.out
          have kf : Below w.heap.size w w3 := by
            rw [hw3]; exact kw.grown (grownBy_sorted _) kw.size (fun j hj => by cases hj; exact Nat.le_trans kl1 hbase)
          clear hw3 hc
          go_wp2_with fail
          go_returns
          refine ⟨⟨.slice (some ⟨g, 0, none⟩) ss.length cap, by rw [HD.out]; rfl, ?_⟩, kf⟩
          rw [HA.out, HLN.out.1, strsV_unL]
          exact own_mono (.inl HOW.out) kl1
      · intro x1 c kl1' yd yp w2 cnt2 hkey hlk hv hat hrg2 hlt hg2 hs2 hen
        obtain ⟨x', ex, rfl, hxl⟩ := Maps.keyOf_str Try.underlying9 hkey
        obtain rfl : x1 = ⟨x'.toArray⟩ := Value.string.inj ex
        have HC2 := hid (hC.out.step hlk hat)
        have HRG2 := hid hrg2
        have hrow2 := hO.out.kept hg2 (Or.inr (row_ne_iter hO.out hRG.out).symm)
        have k2 : Below w1.heap.size w1 w2 := kb.grown hg2 kl (fun j hj => by cases hj; exact Nat.le_refl _)
        have kl2 := k2.size
        obtain ⟨tw, htw⟩ : ∃ tw : ByteArray, tw = ⟨x'.toArray⟩ := ⟨_, rfl⟩
        have HTW : Hid (encStr x' = .string tw) := by show _ = _; rw [htw]; first | done | rfl
        rw [← htw] at hen ⊢
        have hen2 : (Instr.entry (.pointer (some ⟨w1.heap.size, 0, none⟩))).run Try.prog w2 = .ok (.tuple #[.string tw, c]) w2 := hen
        have HLT : Hid (cnt2 < cnt) := hlt
        clear hs2 hg2 ex hkey hlk hv hat hrg2 htw hen hlt
        go_wp2_with (first | (at_builtin; refine wplOwn rfl _ _ 23 rfl w1.heap.size 9 i0 (.string ByteArray.empty) 1 16 Try.underlying23 hi hz0 hz1 hz2 rfl (by decide) _ _ _ rfl (hrow2.alloc _) _ 1 [.string tw] rfl (news1 _ _ _) ?c1 ?c2 ?c3 ?c4 ?_) | fail)
        case c1 => first | rfl | (intro u hu; simp at hu; subst hu; rfl)
        case c2 => unfold maxLen; omega
        case c3 => omega
        case c4 => first | omega | (simp; omega)
        intro x4 w4 ho1 hg1 he1
        have HRG4 := hid ((HRG2.out.alloc _).kept hg1 (row_ne_low hrow2 hmb) (row_ne_iter hrow2 HRG2.out))
        have HK4 : Below w1.heap.size w1 w4 := (k2.alloc kl2 _).grown hg1 (by simp; omega) (fun j hj => (hrow2.lt j hj).1)
        have HO4 : Hid (w4.ownsRow w1.heap.size 9 1 x4 (ss ++ [x']).length ((ss ++ [x']).map encStr)) := by
          show World.ownsRow _ _ _ _ _ _ _
          simpa [HTW.out] using ho1
        have HLN4 : Hid ((ss ++ [x']).length + cnt2 ≤ Maps.size D) := by
          show _ ≤ _
          have := HLT.out
          simp; omega
        obtain ⟨ua, uc, hve⟩ := (rows_of_own ho1).slice
        subst hve
        clear ho1 hg1 he1 hrow2 hen2
        go_wp2_with fail
        refine ⟨?_, by rw [HRG4.out.left_eq, hRG.out.left_eq]; exact HLT.out⟩
        first | exact ⟨_, cnt2, ss ++ [x'], HRG4, HLN4.out, HO4, HC2, HK4⟩ | ((repeat apply Exists.intro); exact ⟨⟨_, cnt2, ss ++ [x'], HRG4, HLN4.out, HO4, HC2, HK4⟩, rfl⟩)
  · have HB : Hid (docsB ds = false) := hd
    clear hd
    go_wp2_with fail
    go_returns
    exact ⟨⟨_, by rw [HB.out]; rfl, by rw [HNO.out HB.out]; exact OwnS.nil _ _ _⟩, hb1⟩
end Go.Proofs.Ytkkmnegmghllpaa
