/- Contracts of the drawing functions of chapter 1 for texts and lists of texts. Condition: the bytes lie in memory. -/
import Derived.Test.YtmnebdgoombfoaaDoorDraws
import Derived.Test.YtmnebdgoombfoaaDoorListDig
namespace Go.Proofs.YtmnebdgoombfoaaDoor
open Go.ChangeShapes Go.WideShapes Go.ChangeAt Go.RowKit Go.Deep
set_option linter.unusedVariables false

set_option maxHeartbeats 800000 in
theorem drawDigest (v : Value) (n : Nat) (w : World) (h : CodeAt w v n) :
    Calls Tryd.prog 24 #[v] w fun e w' => ∃ (k : Int) (s : ByteArray), e = .returned (.tuple #[.int .u8 k, .string s]) ∧ 0 ≤ k ∧ k ≤ 255 ∧ s.size ≤ 601 ∧ Below w.heap.size w w' := by
  obtain ⟨ad, c, rfl⟩ : ∃ ad c, v = .slice ad n c := by
    obtain ⟨ad, c, e, _⟩ := h
    exact ⟨ad, c, e⟩
  have hbel := (Below.refl w.heap.size w).alloc (Nat.le_refl _) (.cells #[.slice ad n c, .int .i64 0, .int .u64 0] 64)
  have HK := kindIn w.heap.size (.slice ad n c) n 0 _ (cur_new w (.slice ad n c) 64) (h.bytes hbel (Nat.le_refl _)) (by omega)
  have HBE := hide hbel
  clear h hbel
  go_enter Tryd.func24, Tryd.ntmps24
  go_wp2_with fail
  refine HK.mono ?_
  rintro e w1 ⟨k, rfl, hk0, hk1, hd⟩
  clear HK
  have HB1 : Hid (Below w.heap.size w w1) := (unhide HBE).trans (gb_below hd.2.2 (Nat.le_refl _) (by simp))
  have HX := textIn w.heap.size (.slice ad n c) n (0 + 2) w1 hd.1 hd.2.1 (by omega)
  clear hd HBE
  go_wp2_with fail
  refine HX.mono ?_
  rintro e w2 ⟨s, rfl, hs, hd2⟩
  clear HX
  have hb2 : Below w.heap.size w w2 := HB1.out.trans (gb_below hd2.2.2 (Nat.le_refl _) HB1.out.size)
  clear hd2 HB1
  go_wp2
  go_returns
  exact ⟨k, s, rfl, hk0, hk1, hs, hb2⟩

set_option maxHeartbeats 1600000 in
theorem drawClash (v : Value) (n : Nat) (w : World) (h : CodeAt w v n) :
    Calls Tryd.prog 28 #[v] w fun e w' => ∃ (k : Int) (s t : ByteArray), e = .returned (.tuple #[.int .u8 k, .string s, .string t]) ∧ 0 ≤ k ∧ k ≤ 255 ∧ s.size ≤ 601 ∧ t.size ≤ 601 ∧ Below w.heap.size w w' := by
  obtain ⟨ad, c, rfl⟩ : ∃ ad c, v = .slice ad n c := by
    obtain ⟨ad, c, e, _⟩ := h
    exact ⟨ad, c, e⟩
  have hbel := (Below.refl w.heap.size w).alloc (Nat.le_refl _) (.cells #[.slice ad n c, .int .i64 0, .int .u64 0] 64)
  have HK := kindIn w.heap.size (.slice ad n c) n 0 _ (cur_new w (.slice ad n c) 64) (h.bytes hbel (Nat.le_refl _)) (by omega)
  have HBE := hide hbel
  clear h hbel
  go_enter Tryd.func28, Tryd.ntmps28
  go_wp2_with fail
  refine HK.mono ?_
  rintro e w1 ⟨k, rfl, hk0, hk1, hd⟩
  clear HK
  have HB1 : Hid (Below w.heap.size w w1) := (unhide HBE).trans (gb_below hd.2.2 (Nat.le_refl _) (by simp))
  have HX := pickIn w.heap.size (.slice ad n c) n (0 + 2) 3 w1 hd.1 hd.2.1 (by omega) (by omega) (by omega)
  clear hd HBE
  go_wp2_with fail
  refine HX.mono ?_
  rintro e w2 ⟨x, rfl, hx0, hx1, hd2⟩
  clear HX
  have HB2 : Hid (Below w.heap.size w w2) := HB1.out.trans (gb_below hd2.2.2 (Nat.le_refl _) HB1.out.size)
  have HX := textIn w.heap.size (.slice ad n c) n (0 + 2 + 2) w2 hd2.1 hd2.2.1 (by omega)
  clear hd2 HB1
  by_cases h0 : x = 0
  · subst h0
    clear HX
    have kb := HB2.out
    go_wp2
    go_returns
    exact ⟨k, _, _, rfl, hk0, hk1, by decide, by decide, kb⟩
  · have hx0b : (x == 0) = false := by simp [h0]
    by_cases h1 : x = 1
    · subst h1
      go_wp2_with fail
      refine HX.mono ?_
      rintro e w3 ⟨s, rfl, hs, hd3⟩
      clear HX
      have hb3 : Below w.heap.size w w3 := HB2.out.trans (gb_below hd3.2.2 (Nat.le_refl _) HB2.out.size)
      clear hd3
      go_wp2
      go_returns
      exact ⟨k, s, s, rfl, hk0, hk1, hs, hs, hb3⟩
    · have hx1b : (x == 1) = false := by simp [h1]
      go_wp2_with fail
      refine HX.mono ?_
      rintro e w3 ⟨s, rfl, hs, hd3⟩
      clear HX
      have HB3 : Hid (Below w.heap.size w w3) := HB2.out.trans (gb_below hd3.2.2 (Nat.le_refl _) HB2.out.size)
      have HY := textIn w.heap.size (.slice ad n c) n (0 + 2 + 2 + 100) w3 hd3.1 hd3.2.1 (by omega)
      clear hd3
      go_wp2_with fail
      refine HY.mono ?_
      rintro e w4 ⟨t, rfl, ht, hd4⟩
      clear HY
      have hb4 : Below w.heap.size w w4 := HB3.out.trans (gb_below hd4.2.2 (Nat.le_refl _) HB3.out.size)
      clear hd4
      go_wp2
      go_returns
      exact ⟨k, s, t, rfl, hk0, hk1, hs, ht, hb4⟩

theorem infoS : (Tryd.prog.info? 9).map (fun i => (i.zero, i.size, i.bytes)) = some (some (.string ByteArray.empty), 1, 16) := by kernel_rfl
def fives : List ByteArray := [⟨#[]⟩, ⟨#[97]⟩, ⟨#[98]⟩, ⟨#[115, 111, 109, 101]⟩, ⟨#[111, 116, 104, 101, 114, 32, 116, 101, 120, 116]⟩]
def fiveRow : Array Value := #[.string ⟨#[]⟩, .string ⟨#[97]⟩, .string ⟨#[98]⟩, .string ⟨#[115, 111, 109, 101]⟩, .string ⟨#[111, 116, 104, 101, 114, 32, 116, 101, 120, 116]⟩]
theorem five_cells (w : World) (t : TypeId) : ∀ i, i < fives.length → (w.alloc (.cells fiveRow t)).cell? ⟨w.heap.size, i, none⟩ = some (.string (fives.getD i ByteArray.empty)) := by
  intro i hi
  have h : i < 5 := hi
  match i, h with
  | 0, _ => simp [fiveRow, fives]
  | 1, _ => simp [fiveRow, fives]
  | 2, _ => simp [fiveRow, fives]
  | 3, _ => simp [fiveRow, fives]
  | 4, _ => simp [fiveRow, fives]

/-- A list of texts that the call itself has made. -/
def OwnStrs (w : World) (base : Nat) (v : Value) (ss : List ByteArray) : Prop := w.ownsRow base 9 1 v ss.length (ss.map Value.string)
theorem OwnStrs.strs {w : World} {base : Nat} {v : Value} {ss : List ByteArray} (h : OwnStrs w base v ss) : StrsAt w v ss := by
  have hc := fun g hg => World.ownsRow.cells h (g := g) hg
  obtain ⟨hl, ⟨rfl, h0⟩ | ⟨g, cap, cur, rfl, hb, hcur, _, _, _, _⟩⟩ := h
  · exact .inl ⟨_, _, rfl, List.eq_nil_of_length_eq_zero h0⟩
  · refine .inr ⟨g, 0, cap, rfl, ?_, fun i hi => ?_⟩
    · rcases Nat.lt_or_ge g w.heap.size with e | e
      · exact e
      · simp [Array.getElem?_eq_none e] at hcur
    · have := hc g rfl i (.string (ss.getD i ByteArray.empty)) (by simp [List.getD, hi])
      have hadd : ∀ off i : Nat, ((⟨g, off, none⟩ : Addr).add i) = ⟨g, off + i, none⟩ := fun off i => by simp [Addr.add]
      rw [hadd 0 i] at this
      exact this
theorem CurAt.same {w w' : World} {g : Nat} {v : Value} {m : Nat} (h : CurAt w g v m) (hk : w'.heap[g]? = w.heap[g]?) : CurAt w' g v m := by
  obtain ⟨a, s, ha0, ha1, c0, c1, c2, hs0, hs1, f0, f1, f2⟩ := h
  exact ⟨a, s, ha0, ha1, (World.cell?_of_block (a := ⟨g, 0, none⟩) hk).trans c0, (World.cell?_of_block (a := ⟨g, 1, none⟩) hk).trans c1, (World.cell?_of_block (a := ⟨g, 2, none⟩) hk).trans c2, hs0, hs1,
    (World.frozen?_of_block (a := ⟨g, 0, none⟩) hk).trans f0, (World.frozen?_of_block (a := ⟨g, 1, none⟩) hk).trans f1, (World.frozen?_of_block (a := ⟨g, 2, none⟩) hk).trans f2⟩
theorem Drawn.own {w w2 w3 : World} {g : Nat} {v : Value} {n m : Nat} {r : Option Nat} (h : Drawn w w2 g v n m) (hb : BytesAt w g v n) (hg : w2.grownBy w3 r) (hr : ∀ k, r = some k → w.heap.size ≤ k) (hgl : g < w.heap.size) : Drawn w w3 g v n m := by
  have hs := h.2.2.size
  have gb : w.grownBy w3 (some g) := ⟨hg.os.trans h.2.2.os, hg.tape.trans h.2.2.tape, hg.output.trans h.2.2.output, Nat.le_trans h.2.2.size hg.size, fun k hk hn => (hg.block k (by omega) (fun e => by have := hr k e.symm; omega)).trans (h.2.2.block k hk hn)⟩
  exact ⟨h.1.same (hg.block g (by omega) (fun e => by have := hr g e.symm; omega)), hb.kept gb, gb⟩

set_option maxHeartbeats 1600000 in
theorem textsIn (g : Nat) (v : Value) (n m : Nat) (w : World) (hc : CurAt w g v m) (hb : BytesAt w g v n) (hm : m ≤ 1000000 - 400) :
    Calls Tryd.prog 52 #[.pointer (some ⟨g, 0, none⟩), .int .i64 6] w fun e w' => ∃ (x : Value) (ss : List ByteArray), e = .returned x ∧ OwnStrs w' w.heap.size x ss ∧ ss.length ≤ 6 ∧ (∀ s ∈ ss, s.size ≤ 101) ∧ Drawn w w' g v n (m + 20) := by
  obtain ⟨i0, hi, hzz⟩ := Option.map_eq_some_iff.1 infoS
  simp only [Prod.mk.injEq] at hzz
  obtain ⟨hz0, hz1, hz2⟩ := hzz
  have HP := pickIn g v n m 7 w hc hb (by omega) (by omega) (by omega)
  have hgl := hc.lt
  have HB0 := hide hb
  clear hc hb
  go_enter Tryd.func52, Tryd.ntmps52
  go_wp2_with fail
  refine HP.mono ?_
  rintro e w1 ⟨x, rfl, hx0, hx1, hd1⟩
  clear HP
  obtain ⟨N, rfl⟩ := Int.eq_ofNat_of_zero_le hx0
  have HD1 := hide hd1
  clear hd1
  go_wp2
  go_loopw [5, 6] (fun x i wr => ∃ (k : Nat) (ss : List ByteArray), i = .int .i64 k ∧ k + ss.length = N ∧ OwnStrs wr w.heap.size x ss ∧ (∀ s ∈ ss, s.size ≤ 101) ∧ Drawn w wr g v n (m + 2 + 2 * ss.length)) (fun _ i _ => (intOf i).toNat)
  case atStart => exact ⟨N, [], rfl, by simp, World.ownsRow_nil _ _ _ _, by simp, HD1.out⟩
  case round =>
    obtain ⟨k, ss, rfl, hkN, hown, hall, hdr⟩ := hrel
    have HO := hide hown
    have HA := hide hall
    have HDR := hide hdr
    have hlr := hdr.2.2.size
    clear hown hall hdr
    by_cases hk : 0 < k
    · have hki : (0 : Int) < (k : Int) := by omega
      have hbel : Below wr.heap.size wr (wr.alloc (.cells fiveRow 9)) := (Below.refl _ wr).alloc (Nat.le_refl _) _
      have HF := ofIn g v n (m + 2 + 2 * ss.length) fives wr.heap.size 5 _ (HDR.out.below hbel).1 (HDR.out.below hbel).2.1 (by omega) (by decide) (by decide) (by omega) (five_cells wr 9)
      have HBE := hide hbel
      clear hbel
      go_wp2_with fail
      refine HF.mono ?_
      rintro e w2 ⟨t, rfl, ht, hd2⟩
      clear HF
      have hts : t.size ≤ 101 := by
        simp only [fives, List.mem_cons, List.not_mem_nil, or_false] at ht
        rcases ht with rfl | rfl | rfl | rfl | rfl <;> decide
      have HD2 : Hid (Drawn w w2 g v n (m + 2 + 2 * ss.length + 2)) := (HDR.out.below (unhide HBE)).trans hd2
      have hown2 : w2.ownsRow w.heap.size 9 1 u5 ss.length (ss.map Value.string) := World.ownsRow.kept (World.ownsRow.alloc HO.out _) hd2.2.2 (by
        cases e : u5.ownBlock with
        | none => exact .inl rfl
        | some q => exact .inr (fun e2 => by have := (World.ownsRow.lt HO.out q e).1; cases e2; omega))
      have hl2 := HD2.out.2.2.size
      clear hd2 HBE ht
      go_wp2_with (first
        | (at_builtin; refine wpList_append_own _ rfl _ _ 47 rfl w.heap.size 9 i0 (.string ByteArray.empty) 1 16 Tryd.underlying47 hi hz0 hz1 hz2 rfl (by decide) _ _ _ rfl (hown2.alloc _) ⟨w2.heap.size, 0, none⟩ 1 1 [.string t] rfl rfl ?c1 ?c2 ?c3 ?c4 ?c5 ?_)
        | fail)
      case c1 =>
        intro j u hj
        match j, hj with
        | 0, hj => simp at hj; subst hj; simp [Addr.add]
      case c2 => intro u hu; simp at hu; subst hu; rfl
      case c3 => unfold maxLen; omega
      case c4 => omega
      case c5 => simp; omega
      intro v1 w3 hown3 hg3 _
      have HD3 : Hid (Drawn w w3 g v n (m + 2 + 2 * ss.length + 2)) := (HD2.out.alloc _).own HB0.out hg3 (fun r hr => (World.ownsRow.lt hown2 r hr).1) hgl
      clear hg3
      go_wp2
      refine ⟨⟨k - 1, ss ++ [t], ?_, ?_, ?_, ?_, ?_⟩, ?_⟩
      · rw [show (((k - 1 : Nat) : Int)) = (k : Int) - 1 by omega]
      · simp; omega
      · simpa [OwnStrs] using hown3
      · intro s hs
        rcases List.mem_append.1 hs with h1 | h1
        · exact HA.out s h1
        · simp only [List.mem_singleton] at h1; subst h1; exact hts
      · exact HD3.out.mono (by simp; omega)
      · simp [intOf]; omega
    · have hki : ¬ (0 : Int) < (k : Int) := by omega
      go_wp2
      go_ret
      exact ⟨_, rfl, ss, HO.out, by omega, HA.out, HDR.out.mono (by omega)⟩

theorem ne_own {w : World} {base : Nat} {e : TypeId} {size : Nat} {v : Value} {n : Nat} {xs : List Value} (h : w.ownsRow base e size v n xs) (g : Nat) (hg : g < base) : v.ownBlock = none ∨ v.ownBlock ≠ some g := by
  cases e1 : v.ownBlock with
  | none => exact .inl rfl
  | some q => exact .inr (fun e2 => by have := (World.ownsRow.lt h q e1).1; cases e2; omega)
theorem StrsAt.drawn {w w' : World} {v : Value} {ss : List ByteArray} {g : Nat} (h : StrsAt w v ss) (hg : w.grownBy w' (some g)) (hn : ∀ b off cap, v = .slice (some ⟨b, off, none⟩) ss.length cap → b ≠ g) : StrsAt w' v ss := by
  rcases h with h | ⟨b, off, cap, h1, h2, h3⟩
  · exact .inl h
  · exact .inr ⟨b, off, cap, h1, Nat.lt_of_lt_of_le h2 hg.size, fun i hi => hg.cell (h3 i hi) (fun e => hn b off cap h1 (by cases e; rfl))⟩
theorem makeS (n : Nat) (h : n ≤ 601) (w : World) : (Instr.makeSlice 47 (.int .i64 (n : Int)) (.int .i64 (n : Int))).run Tryd.prog w = .ok (.slice (some ⟨w.heap.size, 0, none⟩) n n) (w.alloc (.cells (madeCells #[.string ByteArray.empty] n) 9)) :=
  run_make_row' (P := Tryd.prog) 47 9 (.string ByteArray.empty) 16 Tryd.underlying47 infoS rfl .i64 .i64 n (by omega) (by omega) w
theorem strs_new (w : World) (n : Nat) : StrsAt (w.alloc (.cells (madeCells #[.string ByteArray.empty] n) 9)) (.slice (some ⟨w.heap.size, 0, none⟩) n n) (List.replicate n ByteArray.empty) := by
  refine .inr ⟨w.heap.size, 0, n, by simp, by simp, fun i hi => ?_⟩
  have hi' : i < n := by simpa using hi
  have hm : (madeCells #[Value.string ByteArray.empty] n)[i]? = some (.string ByteArray.empty) := by simp [madeCells, hi', Nat.mod_one]
  simp [World.cell?_alloc_new, hm, List.getD, hi']

set_option maxHeartbeats 3200000 in
theorem drawList (v : Value) (n : Nat) (w : World) (h : CodeAt w v n) :
    Calls Tryd.prog 30 #[v] w fun e w' => ∃ (k : Int) (x : Value) (ss : List ByteArray), e = .returned (.tuple #[.int .u8 k, x]) ∧ 0 ≤ k ∧ k ≤ 255 ∧ StrsAt w' x ss ∧ ss.length ≤ 21 ∧ (∀ s ∈ ss, s.size ≤ 101) ∧ Below w.heap.size w w' := by
  obtain ⟨ad, c, rfl⟩ : ∃ ad c, v = .slice ad n c := by
    obtain ⟨ad, c, e, _⟩ := h
    exact ⟨ad, c, e⟩
  obtain ⟨i0, hi, hzz⟩ := Option.map_eq_some_iff.1 infoS
  simp only [Prod.mk.injEq] at hzz
  obtain ⟨hz0, hz1, hz2⟩ := hzz
  have hbel := (Below.refl w.heap.size w).alloc (Nat.le_refl _) (.cells #[.slice ad n c, .int .i64 0, .int .u64 0] 64)
  have hbW := h.bytes hbel (Nat.le_refl w.heap.size)
  have HK := textsIn w.heap.size (.slice ad n c) n 0 _ (cur_new w (.slice ad n c) 64) hbW (by omega)
  have HBE := hide hbel
  have HBW := hide hbW
  simp only [World.size_alloc] at HK
  clear h hbel hbW
  go_enter Tryd.func30, Tryd.ntmps30
  go_wp2_with fail
  refine HK.mono ?_
  rintro e w1 ⟨x, ss, rfl, hown, hlen, hall, hd1⟩
  clear HK
  -- the base: the world with the cursor's box
  generalize hWB : w.alloc (.cells #[.slice ad n c, .int .i64 0, .int .u64 0] 64) = WB at *
  have hWBs : WB.heap.size = w.heap.size + 1 := by rw [← hWB]; simp
  have HWBs := hide hWBs
  clear hWB
  have HO := hide hown
  have HA := hide hall
  have HD1 := hide hd1
  have hlw1 := hd1.2.2.size
  rw [hWBs] at hlw1
  clear hown hall hd1 hWBs
  have HX1 := oneIn w.heap.size (.slice ad n c) n (0 + 20) 12 w1 HD1.out.1 HD1.out.2.1 (by omega) (by omega) (by omega)
  go_wp2_with fail
  refine HX1.mono ?_
  rintro e w2 ⟨o1, rfl, hd2⟩
  clear HX1
  have hown2 : w2.ownsRow (w.heap.size + 1) 9 1 x ss.length (ss.map Value.string) := World.ownsRow.kept HO.out hd2.2.2 (by
    cases e : x.ownBlock with
    | none => exact .inl rfl
    | some q => exact .inr (fun e2 => by have := (World.ownsRow.lt HO.out q e).1; cases e2; omega))
  have HD2 : Hid (Drawn WB w2 w.heap.size (.slice ad n c) n (0 + 20 + 2)) := HD1.out.trans hd2
  have hl2 := hd2.2.2.size
  clear hd2 HO HD1
  have hls : ss.length ≤ 7 := by omega
  cases o1
  · have hownT := hown2
    have hallT := HA.out
    have HDT := HD2
    clear hown2 HD2
    have HX5 := oneIn w.heap.size (.slice ad n c) n (0 + 20 + 2) 20 w2 HDT.out.1 HDT.out.2.1 (by omega) (by omega) (by omega)
    go_wp2_with fail
    refine HX5.mono ?_
    rintro e w5 ⟨o2, rfl, hd5⟩
    clear HX5
    have hown5 : w5.ownsRow (w.heap.size + 1) 9 1 x (ss).length ((ss).map Value.string) := World.ownsRow.kept hownT hd5.2.2 (ne_own hownT w.heap.size (by omega))
    have HD5 : Hid (Drawn WB w5 w.heap.size (.slice ad n c) n (0 + 20 + 2 + 2)) := HDT.out.trans hd5
    have hl5 := hd5.2.2.size
    clear hd5 hownT HDT
    cases o2
    · have HX6 := kindIn w.heap.size (.slice ad n c) n (0 + 20 + 2 + 2) w5 HD5.out.1 HD5.out.2.1 (by omega)
      have HO5 := hide hown5
      clear hown5
      go_wp2_with fail
      refine HX6.mono ?_
      rintro e w6 ⟨k, rfl, hk0, hk1, hd6⟩
      clear HX6
      have hown6 : OwnStrs w6 (w.heap.size + 1) x (ss) := World.ownsRow.kept HO5.out hd6.2.2 (ne_own HO5.out w.heap.size (by omega))
      have hb6 : Below w.heap.size w w6 := HBE.out.trans (gb_below (HD5.out.2.2.trans hd6.2.2) (Nat.le_refl _) (by have := HWBs.out; omega))
      have HS6 := hide hown6.strs
      clear hd6 HO5 hown6 HD5
      go_wp2
      go_returns
      exact ⟨k, _, ss, rfl, hk0, hk1, HS6.out, by first | omega | (simp; omega), hallT, hb6⟩
    · have HX6 := pickIn w.heap.size (.slice ad n c) n (0 + 20 + 2 + 2) 2 w5 HD5.out.1 HD5.out.2.1 (by omega) (by omega) (by omega)
      clear hown5
      go_wp2_with fail
      refine HX6.mono ?_
      rintro e w6 ⟨y, rfl, hy0, hy1, hd6⟩
      clear HX6
      obtain ⟨N, hN, hNl⟩ : ∃ N : Nat, 20 + y = (N : Int) ∧ N ≤ 21 := ⟨(20 + y).toNat, by omega, by omega⟩
      have hmk := makeS N (by omega)
      rw [← hN] at hmk
      have HD6 : Hid (Drawn WB w6 w.heap.size (.slice ad n c) n (0 + 20 + 2 + 2 + 2)) := HD5.out.trans hd6
      have hl6 := hd6.2.2.size
      clear hd6 HD5
      have HX7 := kindIn w.heap.size (.slice ad n c) n (0 + 20 + 2 + 2 + 2) _ (HD6.out.alloc (.cells (madeCells #[.string ByteArray.empty] N) 9)).1 (HD6.out.alloc (.cells (madeCells #[.string ByteArray.empty] N) 9)).2.1 (by omega)
      have HN := hide hN
      clear hN
      go_wp2_with fail
      refine HX7.mono ?_
      rintro e w7 ⟨k, rfl, hk0, hk1, hd7⟩
      clear HX7
      have HS7 : Hid (StrsAt w7 (.slice (some ⟨w6.heap.size, 0, none⟩) N N) (List.replicate N ByteArray.empty)) := (strs_new w6 N).drawn hd7.2.2 (fun b off cap e => by simp only [Value.slice.injEq, Option.some.injEq, Addr.mk.injEq] at e; omega)
      have hb7 : Below w.heap.size w w7 := HBE.out.trans (gb_below ((HD6.out.alloc _).2.2.trans hd7.2.2) (Nat.le_refl _) (by have := HWBs.out; omega))
      clear hd7 HD6
      go_wp2
      go_returns
      exact ⟨k, _, List.replicate N ByteArray.empty, rfl, hk0, hk1, HS7.out, by simp; omega, fun s hs => by rw [List.eq_of_mem_replicate hs]; decide, hb7⟩
  · have HX3 := pickIn w.heap.size (.slice ad n c) n (0 + 20 + 2) 2 w2 HD2.out.1 HD2.out.2.1 (by omega) (by omega) (by omega)
    have HO2 := hide hown2
    clear hown2
    go_wp2_with fail
    refine HX3.mono ?_
    rintro e w3 ⟨y, rfl, hy0, hy1, hd3⟩
    clear HX3
    obtain ⟨N, hN, hNl⟩ : ∃ N : Nat, 100 + y = (N : Int) ∧ N ≤ 101 := ⟨(100 + y).toNat, by omega, by omega⟩
    have hmk := make8 N (by omega)
    rw [← hN] at hmk
    have hcz := conv_zero N
    have hown3 : w3.ownsRow (w.heap.size + 1) 9 1 x ss.length (ss.map Value.string) := World.ownsRow.kept HO2.out hd3.2.2 (ne_own HO2.out w.heap.size (by omega))
    have HD3 : Hid (Drawn WB w3 w.heap.size (.slice ad n c) n (0 + 20 + 2 + 2)) := HD2.out.trans hd3
    have hl3 := hd3.2.2.size
    clear hd3 HO2 HD2
    have HN := hide hN
    clear hN
    have hZs : (strOfNums (List.replicate N 0)).size ≤ 101 := by rw [strOfNums_size]; simpa using hNl
    go_wp2_with (first
      | (at_builtin; refine wpList_append_own _ rfl _ _ 47 rfl (w.heap.size + 1) 9 i0 (.string ByteArray.empty) 1 16 Tryd.underlying47 hi hz0 hz1 hz2 rfl (by decide) _ _ _ rfl ((hown3.alloc _).alloc _) ⟨w3.heap.size + 1, 0, none⟩ 1 1 [.string (strOfNums (List.replicate N 0))] rfl rfl ?c1 ?c2 ?c3 ?c4 ?c5 ?_)
      | fail)
    case c1 =>
      intro j u hj
      match j, hj with
      | 0, hj => simp at hj; subst hj; simp [Addr.add]
    case c2 => intro u hu; simp at hu; subst hu; rfl
    case c3 => unfold maxLen; omega
    case c4 => omega
    case c5 => simp; omega
    intro v1 w4 hown4 hg4 _
    have HDT : Hid (Drawn WB w4 w.heap.size (.slice ad n c) n (0 + 20 + 2 + 2)) := ((HD3.out.alloc _).alloc _).own HBW.out hg4 (fun r hr => by have := (World.ownsRow.lt hown3 r hr).1; have := HWBs.out; omega) (by have := HWBs.out; omega)
    have hl4 := hg4.size
    simp only [World.size_alloc] at hl4
    generalize hZ : strOfNums (List.replicate N 0) = Z at *
    clear hZ hg4 HD3 hown3 hcz hmk
    have hownT : w4.ownsRow (w.heap.size + 1) 9 1 v1 (ss ++ [Z]).length ((ss ++ [Z]).map Value.string) := by simpa using hown4
    have hallT : ∀ s ∈ ss ++ [Z], s.size ≤ 101 := by
      intro s hs
      rcases List.mem_append.1 hs with h1 | h1
      · exact HA.out s h1
      · simp only [List.mem_singleton] at h1; subst h1; exact hZs
    have hHA := HA
    clear hown4 HN
    have HX5 := oneIn w.heap.size (.slice ad n c) n (0 + 20 + 2 + 2) 20 w4 HDT.out.1 HDT.out.2.1 (by omega) (by omega) (by omega)
    go_wp2_with fail
    refine HX5.mono ?_
    rintro e w5 ⟨o2, rfl, hd5⟩
    clear HX5
    have hown5 : w5.ownsRow (w.heap.size + 1) 9 1 v1 (ss ++ [Z]).length ((ss ++ [Z]).map Value.string) := World.ownsRow.kept hownT hd5.2.2 (ne_own hownT w.heap.size (by omega))
    have HD5 : Hid (Drawn WB w5 w.heap.size (.slice ad n c) n (0 + 20 + 2 + 2 + 2)) := HDT.out.trans hd5
    have hl5 := hd5.2.2.size
    clear hd5 hownT HDT
    cases o2
    · have HX6 := kindIn w.heap.size (.slice ad n c) n (0 + 20 + 2 + 2 + 2) w5 HD5.out.1 HD5.out.2.1 (by omega)
      have HO5 := hide hown5
      clear hown5
      go_wp2_with fail
      refine HX6.mono ?_
      rintro e w6 ⟨k, rfl, hk0, hk1, hd6⟩
      clear HX6
      have hown6 : OwnStrs w6 (w.heap.size + 1) v1 (ss ++ [Z]) := World.ownsRow.kept HO5.out hd6.2.2 (ne_own HO5.out w.heap.size (by omega))
      have hb6 : Below w.heap.size w w6 := HBE.out.trans (gb_below (HD5.out.2.2.trans hd6.2.2) (Nat.le_refl _) (by have := HWBs.out; omega))
      have HS6 := hide hown6.strs
      clear hd6 HO5 hown6 HD5
      go_wp2
      go_returns
      exact ⟨k, _, ss ++ [Z], rfl, hk0, hk1, HS6.out, by first | omega | (simp; omega), hallT, hb6⟩
    · have HX6 := pickIn w.heap.size (.slice ad n c) n (0 + 20 + 2 + 2 + 2) 2 w5 HD5.out.1 HD5.out.2.1 (by omega) (by omega) (by omega)
      clear hown5
      go_wp2_with fail
      refine HX6.mono ?_
      rintro e w6 ⟨y, rfl, hy0, hy1, hd6⟩
      clear HX6
      obtain ⟨N, hN, hNl⟩ : ∃ N : Nat, 20 + y = (N : Int) ∧ N ≤ 21 := ⟨(20 + y).toNat, by omega, by omega⟩
      have hmk := makeS N (by omega)
      rw [← hN] at hmk
      have HD6 : Hid (Drawn WB w6 w.heap.size (.slice ad n c) n (0 + 20 + 2 + 2 + 2 + 2)) := HD5.out.trans hd6
      have hl6 := hd6.2.2.size
      clear hd6 HD5
      have HX7 := kindIn w.heap.size (.slice ad n c) n (0 + 20 + 2 + 2 + 2 + 2) _ (HD6.out.alloc (.cells (madeCells #[.string ByteArray.empty] N) 9)).1 (HD6.out.alloc (.cells (madeCells #[.string ByteArray.empty] N) 9)).2.1 (by omega)
      have HN := hide hN
      clear hN
      go_wp2_with fail
      refine HX7.mono ?_
      rintro e w7 ⟨k, rfl, hk0, hk1, hd7⟩
      clear HX7
      have HS7 : Hid (StrsAt w7 (.slice (some ⟨w6.heap.size, 0, none⟩) N N) (List.replicate N ByteArray.empty)) := (strs_new w6 N).drawn hd7.2.2 (fun b off cap e => by simp only [Value.slice.injEq, Option.some.injEq, Addr.mk.injEq] at e; omega)
      have hb7 : Below w.heap.size w w7 := HBE.out.trans (gb_below ((HD6.out.alloc _).2.2.trans hd7.2.2) (Nat.le_refl _) (by have := HWBs.out; omega))
      clear hd7 HD6
      go_wp2
      go_returns
      exact ⟨k, _, List.replicate N ByteArray.empty, rfl, hk0, hk1, HS7.out, by simp; omega, fun s hs => by rw [List.eq_of_mem_replicate hs]; decide, hb7⟩
end Go.Proofs.YtmnebdgoombfoaaDoor
