/- Contracts of the list digest, program and model: both tell the texts behind their lengths, or refuse alike. Condition: the table of weights as it is laid; the list lies in memory, its texts together no more than 1048576. -/
import Derived.Test.YtmnebdgoombfoaaDoorStrs
import Derived.Test.YtmnebdgoombfoaaDoorDigest
import Derived.Lib.AppendStr
import Derived.Laws.Concat
namespace Go.Proofs.YtmnebdgoombfoaaDoor
open Go.ChangeShapes Go.WideShapes Go.ChangeAt Go.RowKit Go.Deep Go.Lib
set_option linter.unusedVariables false

/-- The texts behind their lengths. -/
def rowL (ss : List ByteArray) : List UInt8 := ss.foldl (fun l s => l ++ (UInt8.ofNat s.size :: s.data.toList)) []
theorem rowL_snoc (ss : List ByteArray) (s : ByteArray) : rowL (ss ++ [s]) = rowL ss ++ (UInt8.ofNat s.size :: s.data.toList) := by simp [rowL]
theorem rowL_len (ss : List ByteArray) : (rowL ss).length = ss.length + sumS ss := by
  have : ∀ m : List ByteArray, (rowL m.reverse).length = m.reverse.length + sumS m.reverse := by
    intro m
    induction m with
    | nil => simp [rowL, sumS]
    | cons c m ih => rw [List.reverse_cons, rowL_snoc, sumS_snoc]; simp only [List.length_append, List.length_cons, List.length_nil, Array.length_toList, ByteArray.size_data, ih]; omega
  have := this ss.reverse
  rwa [List.reverse_reverse] at this
def rowB (ss : List ByteArray) : ByteArray := ⟨(rowL ss).toArray⟩

theorem sumS_le (ss : List ByteArray) (h : ∀ s ∈ ss, s.size ≤ 100) : sumS ss ≤ 100 * ss.length := by
  have : ∀ m : List ByteArray, (∀ s ∈ m, s.size ≤ 100) → sumS m.reverse ≤ 100 * m.length := by
    intro m
    induction m with
    | nil => simp [sumS]
    | cons c m ih =>
      intro h
      rw [List.reverse_cons, sumS_snoc]
      have h1 := h c (by simp)
      have h2 := ih (fun s hs => h s (by simp [hs]))
      simp only [List.length_cons]; omega
  have := this ss.reverse (fun s hs => h s (by simpa using hs))
  rw [List.reverse_reverse] at this
  simpa using this
theorem rowB_size (ss : List ByteArray) : (rowB ss).size = ss.length + sumS ss := by
  rw [← rowL_len]; simp [rowB, ByteArray.size]
theorem rowB_snoc (ss : List ByteArray) (t : ByteArray) : rowB (ss ++ [t]) = rowB ss ++ (strOfNums [(t.size : Int)] ++ t) := by
  apply ByteArray.ext
  simp only [rowB, rowL_snoc, ByteArray.data_append, strOfNums]
  apply Array.ext'
  simp

theorem conv1 (w : World) (x : Int) (tt : TypeId) (g : Nat) (hg : g = w.heap.size) :
    (convert 22 9 (.slice (some ⟨g, 0, none⟩) 1 1)).run Tryd.prog (w.alloc (.cells #[.int .u8 x] tt)) =
      .ok (.string (strOfNums [x])) (w.alloc (.cells #[.int .u8 x] tt)) := by
  subst hg
  refine run_convert_bytes_arg _ 22 5 Tryd.underlying22 Tryd.underlying5 w.heap.size 0 1 1 [x] rfl ?_ 9 Tryd.underlying9
  intro i hi
  match i, hi with
  | 0, _ => simp

set_option maxHeartbeats 1600000 in
theorem specRow (v : Value) (ss : List ByteArray) (w : World) (h : StrsAt w v ss) (hlen : ss.length ≤ 20) (hsz : ∀ s ∈ ss, s.size ≤ 100) :
    Calls Tryd.prog 54 #[v] w fun e w' => e = .returned (.string (rowB ss)) ∧ Below w.heap.size w w' := by
  have hcv := conv1
  rcases h with ⟨a0, c0, rfl, rfl⟩ | ⟨b, off, cap, rfl, hb, hcell⟩
  · go_enter Tryd.func54, Tryd.ntmps54
    go_wp2
    go_loop [3, 5, 8] (fun x y i => i = .int .i64 0 ∧ x = .string (rowB [])) (fun _ _ _ => 0)
    case atStart => exact ⟨rfl, rfl⟩
    case round =>
      obtain ⟨rfl, rfl⟩ := hrel
      go_wp2
      go_ret
      exact ⟨rfl, by go_grown⟩
  · have HC : Hid (∀ i, i < ss.length → w.cell? ⟨b, off + i, none⟩ = some (.string (ss.getD i ByteArray.empty))) := hcell
    have HZ : Hid (∀ s ∈ ss, s.size ≤ 100) := hsz
    clear hcell hsz
    go_enter Tryd.func54, Tryd.ntmps54
    go_wp2
    go_loopw [3, 5, 8] (fun x y i wr => ∃ k : Nat, k ≤ ss.length ∧ i = .int .i64 k ∧ x = .string (rowB (ss.take k)) ∧ Below w.heap.size w wr) (fun _ _ i _ => ss.length - (intOf i).toNat)
    case atStart => exact ⟨0, Nat.zero_le _, rfl, rfl, by go_grown⟩
    case round =>
      obtain ⟨k, hk, rfl, rfl, kb⟩ := hrel
      have kl := kb.size
      by_cases hlt : k < ss.length
      · have hc : wr.cell? ⟨b, off + k, none⟩ = some (.string (ss.getD k ByteArray.empty)) := (kb.cell (p := ⟨b, off + k, none⟩) hb).trans (HC.out k hlt)
        have hm := HZ.out _ (getD_mem ss k hlt)
        have HS : Hid (rowB (ss.take (k + 1)) = rowB (ss.take k) ++ (strOfNums [((ss.getD k ByteArray.empty).size : Int)] ++ ss.getD k ByteArray.empty)) := by
          show _ = _
          rw [take_snocS ss k hlt]; exact rowB_snoc _ _
        have hR : (rowB (ss.take k)).size ≤ 2020 := by
          have h1 := rowB_size (ss.take k)
          have h2 := sumS_le (ss.take k) (fun s hs => HZ.out s (List.mem_of_mem_take hs))
          have h3 : (ss.take k).length ≤ 20 := by simp; omega
          omega
        generalize ss.getD k ByteArray.empty = t at *
        generalize rowB (ss.take k) = R at *
        have hs1 : (strOfNums [(t.size : Int)]).size = 1 := strOfNums_size _
        have hst : (strOfNums [(t.size : Int)] ++ t).size = 1 + t.size := by simp [ByteArray.size_append, strOfNums_size]
        go_wp2
        exact ⟨⟨k + 1, by omega, by go_num, by rw [HS.out], by go_grown⟩, by simp [intOf]; omega⟩
      · have hke : k = ss.length := by omega
        subst hke
        rw [List.take_length]
        go_wp2
        go_ret
        exact ⟨rfl, by go_grown⟩

theorem info8 : (Tryd.prog.info? 5).map (fun i => (i.zero, i.size, i.bytes)) = some (some (.int .u8 0), 1, 1) := by kernel_rfl
theorem conv_own (w : World) (base : Nat) (v : Value) (R : List UInt8) (h : w.ownsRow base 5 1 v R.length (R.map fun c => Value.int .u8 (c.toNat : Int))) :
    (convert 22 9 v).run Tryd.prog w = .ok (.string ⟨R.toArray⟩) w := by
  have hc := fun g hg => h.cells (g := g) hg
  obtain ⟨hl, ⟨rfl, h0⟩ | ⟨g, cap, cur, rfl, hb, hcur, _, _, _, _⟩⟩ := h
  · have hR : R = [] := List.eq_nil_of_length_eq_zero h0
    subst hR
    exact run_convert_bytes_nil w 22 5 Tryd.underlying22 Tryd.underlying5 0 0 9 Tryd.underlying9
  · refine run_convert_bytes_back w 22 9 5 ⟨g, 0, none⟩ cap R Tryd.underlying22 Tryd.underlying5 Tryd.underlying9 (fun j hj => ?_)
    exact hc g rfl j _ (by simp [hj])
/-- No text has more than a hundred bytes. -/
def okS (ss : List ByteArray) : Bool := ss.all fun s => decide (s.size ≤ 100)
theorem okS_true {ss : List ByteArray} : okS ss = true ↔ ∀ s ∈ ss, s.size ≤ 100 := by simp [okS]
theorem okS_false {ss : List ByteArray} {t : ByteArray} (h : t ∈ ss) (ht : 100 < t.size) : okS ss = false := by
  cases e : okS ss
  · rfl
  · have := okS_true.1 e t h; omega

def joinV (ss : List ByteArray) : Value := .tuple #[.string (if okS ss then rowB ss else ByteArray.empty), .bool (okS ss)]
theorem joinV_true {ss : List ByteArray} (h : okS ss = true) : joinV ss = .tuple #[.string (rowB ss), .bool true] := by simp [joinV, h]
theorem joinV_false {ss : List ByteArray} (h : okS ss = false) : joinV ss = .tuple #[.string ByteArray.empty, .bool false] := by simp [joinV, h]
set_option maxHeartbeats 1600000 in
theorem joinMid (v : Value) (ss : List ByteArray) (w : World) (h : StrsAt w v ss) (hlen : ss.length ≤ 20) (hsz : ∀ s ∈ ss, s.size ≤ maxLen) :
    Calls Tryd.prog 53 #[v] w fun e w' => e = .returned (joinV ss) ∧ Below w.heap.size w w' := by
  obtain ⟨i0, hi, hzz⟩ := Option.map_eq_some_iff.1 info8
  simp only [Prod.mk.injEq] at hzz
  obtain ⟨hz0, hz1, hz2⟩ := hzz
  have hnil := run_convert_bytes_nil (P := Tryd.prog)
  rcases h with ⟨a0, c0, rfl, rfl⟩ | ⟨b, off, cap, rfl, hb, hcell⟩
  · have hcn : ∀ w, (convert 22 9 (.slice none 0 0)).run Tryd.prog w = .ok (.string ByteArray.empty) w := fun w => run_convert_bytes_nil w 22 5 Tryd.underlying22 Tryd.underlying5 0 0 9 Tryd.underlying9
    clear hnil
    go_enter Tryd.func53, Tryd.ntmps53
    go_wp2
    go_loop [4, 6, 12] (fun x y i => i = .int .i64 0 ∧ x = .slice none 0 0) (fun _ _ _ => 0)
    case atStart => exact ⟨rfl, rfl⟩
    case round =>
      obtain ⟨rfl, rfl⟩ := hrel
      go_wp2
      go_returns
      exact ⟨rfl, by go_grown⟩
  · clear hnil
    have HC : Hid (∀ i, i < ss.length → w.cell? ⟨b, off + i, none⟩ = some (.string (ss.getD i ByteArray.empty))) := hcell
    have HZ : Hid (∀ s ∈ ss, s.size ≤ maxLen) := hsz
    clear hcell hsz
    have hd20 : decide ((20 : Int) < (ss.length : Int)) = false := by simp; omega
    go_enter Tryd.func53, Tryd.ntmps53
    go_wp2
    go_loopw [4, 6, 12] (fun x y i wr => ∃ k : Nat, k ≤ ss.length ∧ (∀ s ∈ ss.take k, s.size ≤ 100) ∧ i = .int .i64 k ∧ wr.ownsRow w.heap.size 5 1 x (rowL (ss.take k)).length ((rowL (ss.take k)).map fun c => Value.int .u8 (c.toNat : Int)) ∧ Below w.heap.size w wr) (fun _ _ i _ => ss.length - (intOf i).toNat)
    case atStart => exact ⟨0, Nat.zero_le _, fun s hs => by simp at hs, rfl, World.ownsRow_nil _ _ _ _, by go_grown⟩
    case round =>
      obtain ⟨k, hk, hall, rfl, hown, kb⟩ := hrel
      have HA : Hid (∀ s ∈ ss.take k, s.size ≤ 100) := hall
      clear hall
      have kl := kb.size
      by_cases hlt : k < ss.length
      · have hc : wr.cell? ⟨b, off + k, none⟩ = some (.string (ss.getD k ByteArray.empty)) := (kb.cell (p := ⟨b, off + k, none⟩) hb).trans (HC.out k hlt)
        have hm := HZ.out _ (getD_mem ss k hlt)
        unfold maxLen at hm
        have HK : Hid (100 < (ss.getD k ByteArray.empty).size → okS ss = false) := fun h => okS_false (getD_mem ss k hlt) h
        have HN : Hid ((ss.getD k ByteArray.empty).size ≤ 100 → ∀ s ∈ ss.take (k + 1), s.size ≤ 100) := by
          intro h s hs
          rw [take_snocS ss k hlt] at hs
          rcases List.mem_append.1 hs with h1 | h1
          · exact HA.out s h1
          · simp only [List.mem_singleton] at h1; subst h1; exact h
        have HS : Hid (rowL (ss.take (k + 1)) = rowL (ss.take k) ++ (UInt8.ofNat (ss.getD k ByteArray.empty).size :: (ss.getD k ByteArray.empty).data.toList)) := by
          show _ = _
          rw [take_snocS ss k hlt]; exact rowL_snoc _ _
        have hR : (rowL (ss.take k)).length ≤ 2020 := by
          have h1 := rowL_len (ss.take k)
          have h2 := sumS_le (ss.take k) HA.out
          have h3 : (ss.take k).length ≤ 20 := by simp; omega
          omega
        generalize ss.getD k ByteArray.empty = t at *
        generalize rowL (ss.take k) = R at *
        by_cases hbig : 100 < t.size
        · have hd100 : (100 : Int) < (t.size : Int) := by omega
          have HF : Hid (okS ss = false) := HK.out hbig
          go_wp2
          go_returns
          exact ⟨by rw [joinV_false HF.out]; rfl, kb⟩
        have hd100 : decide ((100 : Int) < (t.size : Int)) = false := by simp; omega
        go_wp2_with (first
          | (at_builtin; refine wpList_append_own _ rfl _ _ 22 rfl w.heap.size 5 i0 (.int .u8 0) 1 1 Tryd.underlying22 hi hz0 hz1 hz2 rfl (by decide) _ _ _ rfl (hown.alloc _) ⟨wr.heap.size, 0, none⟩ 1 1 [.int .u8 (t.size : Int)] rfl rfl ?c1 ?c2 ?c3 ?c4 ?c5 ?_)
          | fail)
        case c1 =>
          intro j u hj
          match j, hj with
          | 0, hj => simp at hj; subst hj; simp [Addr.add]
        case c2 => intro u hu; simp at hu; subst hu; rfl
        case c3 => unfold maxLen; omega
        case c4 => omega
        case c5 => simp; omega
        intro v1 w1 hown1 hg1 _
        have kb1 : Below w.heap.size w w1 := (kb.alloc kl _).grown hg1 (by simp; omega) (fun r hr => (hown.lt r hr).1)
        have kl1 := kb1.size
        clear hg1
        go_wp2_with (first
          | (at_builtin; refine wpList_append_own_string _ rfl _ _ 22 9 rfl w.heap.size 5 i0 Tryd.underlying22 Tryd.underlying9 hi hz0 hz1 hz2 _ _ _ rfl hown1 t rfl ?d1 ?d2 ?d3 ?_)
          | fail)
        case d1 => unfold maxLen; omega
        case d2 => omega
        case d3 => omega
        intro v2 w2 hown2 hg2 _
        have kb2 : Below w.heap.size w w2 := kb1.grown hg2 kl1 (fun r hr => (hown1.lt r hr).1)
        clear hg2
        go_wp2
        refine ⟨⟨k + 1, by omega, HN.out (by omega), by go_num, ?_, kb2⟩, by simp [intOf]; omega⟩
        rw [HS.out]
        have hb8 : ((UInt8.ofNat t.size).toNat : Int) = (t.size : Int) := by
          rw [UInt8.toNat_ofNat', Nat.mod_eq_of_lt (by omega)]
        have e1 : (R ++ (UInt8.ofNat t.size :: t.data.toList)).length = R.length + 1 + t.size := by simp; omega
        have e2 : ((R ++ (UInt8.ofNat t.size :: t.data.toList)).map fun c => Value.int .u8 (c.toNat : Int)) = R.map (fun c => Value.int .u8 (c.toNat : Int)) ++ Value.int .u8 (t.size : Int) :: strCells t := by
          simp only [List.map_append, List.map_cons, strCells, hb8]
        rw [e1, e2]
        exact hown2
      · have hke : k = ss.length := by omega
        subst hke
        rw [List.take_length] at hown
        have HF : Hid (okS ss = true) := okS_true.2 (by have := HA.out; rwa [List.take_length] at this)
        have hcv := conv_own wr w.heap.size u4 (rowL ss) hown
        go_wp2
        go_returns
        exact ⟨by rw [joinV_true HF.out]; rfl, kb⟩

set_option maxHeartbeats 800000 in
theorem joinLong (v : Value) (ss : List ByteArray) (w : World) (h : StrsAt w v ss) (hl : ss.length ≤ 1048576) (hno : 20 < ss.length) :
    Calls Tryd.prog 53 #[v] w fun e w' => e = .returned (.tuple #[.string ByteArray.empty, .bool false]) ∧ Below w.heap.size w w' := by
  rcases h with ⟨a0, c0, rfl, rfl⟩ | ⟨b, off, cap, rfl, hb, hcell⟩
  · simp at hno
  · clear hcell
    have hd20 : (20 : Int) < (ss.length : Int) := by omega
    go_enter Tryd.func53, Tryd.ntmps53
    go_wp2
    go_returns
    exact ⟨rfl, by go_grown⟩
end Go.Proofs.YtmnebdgoombfoaaDoor
