/- Contracts of PublicFrom and CheckOnce, program and model. Condition: the table of weights as it is laid; the sign lies in memory. -/
import Derived.Test.YtemkkofjakpjiaaDoorFrom
namespace Go.Proofs.YtemkkofjakpjiaaDoor
open Go.ChangeShapes Go.WideShapes Go.ChangeAt Go.RowKit Go.Deep
set_option linter.unusedVariables false

theorem goodS_row {w : World} {v : Value} {ss : List ByteArray} (h : StrsAt w v ss) (hg : GoodS ss) :
    ∃ b off cap, v = .slice (some ⟨b, off, none⟩) 11 cap ∧ b < w.heap.size ∧ (∀ i, i < 11 → w.cell? ⟨b, off + i, none⟩ = some (.string (ss.getD i ByteArray.empty))) ∧ ∀ i, i < 11 → (ss.getD i ByteArray.empty).size = 4 := by
  rcases h with ⟨a0, c0, rfl, rfl⟩ | ⟨b, off, cap, rfl, hb, hcell⟩
  · exact absurd hg.1 (by simp)
  · obtain ⟨h1, h2⟩ := hg
    rw [h1] at hcell h2
    exact ⟨b, off, cap, by rw [h1], hb, hcell, h2⟩
theorem ends_moved (t : ByteArray) (ss : List ByteArray) : movedOn (digs t) ss = endsB t ss := rfl

set_option maxHeartbeats 3200000 in
set_option maxRecDepth 100000 in
theorem specL2From (t : ByteArray) (ss : List ByteArray) (b off cap : Nat) (w : World) (h2 : t.size ≤ 200) (hb : b < w.heap.size)
    (hcell : ∀ i, i < 11 → w.cell? ⟨b, off + i, none⟩ = some (.string (ss.getD i ByteArray.empty))) (hss : ∀ i, i < 11 → (ss.getD i ByteArray.empty).size = 4) :
    Calls Tryd.prog 82 #[.string t, .slice (some ⟨b, off, none⟩) 11 cap] w fun e w' => e = .returned (.string (fromB t ss)) ∧ Below w.heap.size w w' := by
  have HC : Hid (∀ i, i < 11 → w.cell? ⟨b, off + i, none⟩ = some (.string (ss.getD i ByteArray.empty))) := hcell
  have HSS : Hid (∀ i, i < 11 → (ss.getD i ByteArray.empty).size = 4) := hss
  clear hcell hss
  go_enter Tryd.func82, Tryd.ntmps82
  go_wp2_with fail
  refine (specL2Digits t _ h2).mono ?_
  rintro e w0 ⟨gd, cd, rfl, hod, hb0⟩
  have hl0 := hb0.size
  have HD : Hid (OwnRow w.heap.size w0 gd 11 (fun i => .int .i64 ((digs t).getD i 0))) := hod
  clear hod
  go_wp2_with fail
  go_loopw [5, 6, 7, 11] (fun x y z i wr => ∃ k : Nat, k ≤ 11 ∧ i = .int .i64 k ∧ x = .string (catB ((endsB t ss).take k)) ∧ Below w0.heap.size w0 wr) (fun _ _ _ i _ => 11 - (intOf i).toNat)
  case atStart => exact ⟨0, Nat.zero_le _, rfl, rfl, by go_grown⟩
  case round =>
    obtain ⟨k, hk, rfl, rfl, kb⟩ := hrel
    have kl := kb.size
    have hcs := catB_take_size (endsB t ss) k (endsB_four t ss HSS.out) (by rw [endsB_len]; exact hk)
    by_cases hlt : k < 11
    · have HS : Hid (catB ((endsB t ss).take (k + 1)) = catB ((endsB t ss).take k) ++ chainB (ss.getD k ByteArray.empty) ((digs t).getD k 0).toNat (15 - (digs t).getD k 0).toNat) := by
        show _ = _
        unfold endsB; rw [take_range _ 11 k hlt]; exact catB_snoc _ _
      generalize catB ((endsB t ss).take k) = R at *
      have hcd : wr.cell? ⟨gd, k, none⟩ = some (.int .i64 ((digs t).getD k 0)) := (HD.out.below kb).2.2.1 k hlt
      have hcc : wr.cell? ⟨b, off + k, none⟩ = some (.string (ss.getD k ByteArray.empty)) := ((hb0.trans (kb.mono hl0)).cell (p := ⟨b, off + k, none⟩) hb).trans (HC.out k hlt)
      obtain ⟨hd0, hd1⟩ := digs_at t k hlt
      obtain ⟨N, hN⟩ := Int.eq_ofNat_of_zero_le hd0
      rw [hN] at hcd hd1
      have hN' : ((digs t).getD k 0).toNat = N := by omega
      have hN2 : (15 - (digs t).getD k 0).toNat = 15 - N := by omega
      rw [hN', hN2] at HS
      clear hN hN' hN2 hd0
      have hN15 : N ≤ 15 := by omega
      have hki : (k : Int) < 11 := by omega
      have hqs := HSS.out k hlt
      generalize ss.getD k ByteArray.empty = q at *
      go_wp2_with fail
      refine (specChainOn q N _ hqs hN15).mono ?_
      rintro e w2 ⟨rfl, hb2⟩
      have kb2 : Below w0.heap.size w0 w2 := kb.trans (hb2.mono kl)
      clear hb2
      have hcz := chainB_size q N (15 - N) hqs
      generalize chainB q N (15 - N) = r at *
      go_wp2
      exact ⟨⟨k + 1, by omega, by go_num, by rw [HS.out], kb2⟩, by simp [intOf]; omega⟩
    · have hke : k = 11 := by omega
      subst hke
      rw [List.take_of_length_le (by rw [endsB_len]; omega)] at hcs ⊢
      have HP : Hid (fromB t ss = digestB 112 (catB (endsB t ss))) := rfl
      generalize catB (endsB t ss) = R at *
      go_wp2_with fail
      refine (specL1Digest 112 R _ (by omega) (by omega) (by omega)).mono ?_
      rintro e w1 ⟨rfl, hb1⟩
      go_wp2
      go_returns
      exact ⟨by rw [HP.out]; rfl, (hb0.trans (kb.mono hl0)).trans (hb1.mono (Nat.le_trans hl0 kl))⟩

/-- Whether a sign's public part is told. -/
def FromYes (t : ByteArray) (ss : List ByteArray) : Prop := t.size ≤ 200 ∧ GoodS ss
set_option maxHeartbeats 1600000 in
theorem specFromYes (t : ByteArray) (v : Value) (ss : List ByteArray) (w : World) (h : StrsAt w v ss) (hlen : ss.length ≤ 1048576) (hy : FromYes t ss) :
    Calls Tryd.prog 29 #[.string t, v] w fun e w' => e = .returned (.tuple #[.string (fromB t ss), .bool true]) ∧ Below w.heap.size w w' := by
  have HS := fun W hW => specGoodSign v ss W hW hlen
  rw [goodSB_true.2 hy.2] at HS
  go_enter Tryd.func29, Tryd.ntmps29
  go_wp2_with fail
  refine (specLongYes t _ hy.1).mono ?_
  rintro e w0 ⟨rfl, rfl⟩
  go_wp2_with fail
  refine (HS _ h).mono ?_
  rintro e w1 ⟨rfl, hb1⟩
  have hl1 := hb1.size
  obtain ⟨b, off, cap, rfl, hb, hcell, hss⟩ := goodS_row (h.below hb1) hy.2
  clear HS h
  go_wp2_with fail
  refine (specL2From t ss b off cap _ hy.1 hb hcell hss).mono ?_
  rintro e w2 ⟨rfl, hb2⟩
  clear hcell hss
  go_wp2
  go_returns
  exact ⟨rfl, hb1.trans (hb2.mono hl1)⟩
set_option maxHeartbeats 1600000 in
theorem specFromNo (t : ByteArray) (v : Value) (ss : List ByteArray) (w : World) (hm : t.size ≤ maxLen) (h : StrsAt w v ss) (hlen : ss.length ≤ 1048576) (hn : ¬ FromYes t ss) :
    Calls Tryd.prog 29 #[.string t, v] w fun e w' => e = .returned (.tuple #[.string ByteArray.empty, .bool false]) ∧ Below w.heap.size w w' := by
  by_cases h1 : t.size ≤ 200
  · have HS := fun W hW => specGoodSign v ss W hW hlen
    rw [goodSB_false (fun g => hn ⟨h1, g⟩)] at HS
    go_enter Tryd.func29, Tryd.ntmps29
    go_wp2_with fail
    refine (specLongYes t _ h1).mono ?_
    rintro e w0 ⟨rfl, rfl⟩
    go_wp2_with fail
    refine (HS _ h).mono ?_
    rintro e w1 ⟨rfl, hb1⟩
    clear HS
    go_wp2
    go_returns
    exact ⟨rfl, hb1⟩
  · go_enter Tryd.func29, Tryd.ntmps29
    go_wp2_with fail
    refine (specLongNo t _ hm (by omega)).mono ?_
    rintro e w0 ⟨rfl, rfl⟩
    go_wp2
    go_returns
    exact ⟨rfl, by go_grown⟩

set_option maxHeartbeats 3200000 in
set_option maxRecDepth 100000 in
theorem implFromYes (t : ByteArray) (v : Value) (ss : List ByteArray) (w : World) (h : StrsAt w v ss) (hlen : ss.length ≤ 1048576) (hy : FromYes t ss) (ht : Table w) :
    Calls Tryd.prog 23 #[.string t, v] w fun e w' => e = .returned (.tuple #[.string (fromB t ss), .bool true]) ∧ Below w.heap.size w w' := by
  have hmf : ∀ (fn : Fn) (first cap : Array Value) (w : World), (Instr.makeFunc fn first cap).run Tryd.prog w = .ok (.func fn first cap) w := fun _ _ _ _ => rfl
  have hsz := digV_size t
  have hst := fun w : World => run_storeCells_new (P := Tryd.prog) w 90 #[.int .i64 0, .int .i64 0, .int .i64 0, .int .i64 0, .int .i64 0, .int .i64 0, .int .i64 0, .int .i64 0, .int .i64 0, .int .i64 0, .int .i64 0] (digV t) (by rw [hsz]; kernel_rfl) (by rw [hsz]; rfl) (digV_one t)
  have HV : Hid (Digs (digV t) (digs t)) := digs_V t
  have HA : Hid (∀ i, i < 11 → (digV t)[i]? = some (.int .i64 ((digs t).getD i 0))) := digV_at t
  have HTX := fun W hT => implTextYes t W hy.1 hT
  have HS := fun W hW => implGoodSign v ss W hW hlen
  rw [goodSB_true.2 hy.2] at HS
  have HT : Hid (Table w) := ht
  have HP : Hid (fromB t ss = digestB 112 (catB (endsB t ss))) := rfl
  have HY : Hid (GoodS ss) := hy.2
  clear ht hy
  generalize digV t = V at *
  go_enter Tryd.func23, Tryd.ntmps23
  go_wp2_with fail
  refine (HTX _ HT.out).mono ?_
  rintro e w1 ⟨rfl, hb1⟩
  have hl1 := hb1.size
  have k1 : Below w.heap.size w (w1.alloc (.cells V 90)) := hb1.alloc hl1 _
  have h1 := h.below k1
  clear HTX
  go_wp2_with fail
  refine (HS _ h1).mono ?_
  rintro e w2 ⟨rfl, hb2⟩
  have k2 : Below w.heap.size w w2 := k1.trans (hb2.mono k1.size)
  have h2 := h1.below hb2
  have hcs : ∀ i (hi : i < 11), w2.cell? ⟨w1.heap.size, i, none⟩ = some (V[i]'(by omega)) := fun i hi => by
    rw [hb2.cell (p := ⟨w1.heap.size, i, none⟩) (by simp)]
    have : V[i]? = some (V[i]'(by omega)) := Array.getElem?_eq_getElem _
    simp [World.cell?_alloc_new, this]
  have c0 := hcs 0 (by omega); have c1 := hcs 1 (by omega); have c2 := hcs 2 (by omega); have c3 := hcs 3 (by omega); have c4 := hcs 4 (by omega); have c5 := hcs 5 (by omega)
  have c6 := hcs 6 (by omega); have c7 := hcs 7 (by omega); have c8 := hcs 8 (by omega); have c9 := hcs 9 (by omega); have c10 := hcs 10 (by omega)
  clear hb2 HS hcs
  obtain ⟨b, off, cap, rfl, hb, hcell, hss⟩ := goodS_row h2 HY.out
  have HM := implJoinOn V (digs t) ss b off cap w2 HV.out hss hb hcell (HT.out.below k2)
  have hcz := catB_size (endsB t ss) (endsB_four t ss hss)
  rw [endsB_len] at hcz
  rw [ends_moved] at HM
  clear hcell hss h h1 h2
  generalize catB (endsB t ss) = R at *
  go_wp2_with fail
  rw [arr11 V hsz]
  refine HM.mono ?_
  rintro e w3 ⟨rfl, hb3⟩
  have k3 := k2.trans (hb3.mono k2.size)
  clear hb3 HM c0 c1 c2 c3 c4 c5 c6 c7 c8 c9 c10
  go_wp2_with fail
  refine (implDigestYes 112 R _ (by omega) (by omega) (by omega) (HT.out.below k3)).mono ?_
  rintro e w4 ⟨rfl, hb4⟩
  have k4 := k3.trans (hb4.mono k3.size)
  clear hb4
  go_wp2
  go_returns
  exact ⟨by rw [HP.out]; rfl, k4⟩
set_option maxHeartbeats 3200000 in
set_option maxRecDepth 100000 in
theorem implFromNo (t : ByteArray) (v : Value) (ss : List ByteArray) (w : World) (hm : t.size ≤ maxLen) (h : StrsAt w v ss) (hlen : ss.length ≤ 1048576) (hn : ¬ FromYes t ss) (ht : Table w) :
    Calls Tryd.prog 23 #[.string t, v] w fun e w' => e = .returned (.tuple #[.string ByteArray.empty, .bool false]) ∧ Below w.heap.size w w' := by
  by_cases h1 : t.size ≤ 200
  · have hsz := digV_size t
    have hst := fun w : World => run_storeCells_new (P := Tryd.prog) w 90 #[.int .i64 0, .int .i64 0, .int .i64 0, .int .i64 0, .int .i64 0, .int .i64 0, .int .i64 0, .int .i64 0, .int .i64 0, .int .i64 0, .int .i64 0] (digV t) (by rw [hsz]; kernel_rfl) (by rw [hsz]; rfl) (digV_one t)
    have HTX := fun W hT => implTextYes t W h1 hT
    have HS := fun W hW => implGoodSign v ss W hW hlen
    rw [goodSB_false (fun g => hn ⟨h1, g⟩)] at HS
    generalize digV t = V at *
    go_enter Tryd.func23, Tryd.ntmps23
    go_wp2_with fail
    refine (HTX _ ht).mono ?_
    rintro e w1 ⟨rfl, hb1⟩
    have hl1 := hb1.size
    have k1 : Below w.heap.size w (w1.alloc (.cells V 90)) := hb1.alloc hl1 _
    clear HTX
    go_wp2_with fail
    refine (HS _ (h.below k1)).mono ?_
    rintro e w2 ⟨rfl, hb2⟩
    have k2 : Below w.heap.size w w2 := k1.trans (hb2.mono k1.size)
    clear HS
    go_wp2
    go_returns
    exact ⟨rfl, k2⟩
  · go_enter Tryd.func23, Tryd.ntmps23
    go_wp2_with fail
    refine (implTextNo t _ hm (by omega)).mono ?_
    rintro e w1 ⟨rfl, hb1⟩
    have hl1 := hb1.size
    go_wp2
    go_returns
    exact ⟨rfl, by go_grown⟩
end Go.Proofs.YtemkkofjakpjiaaDoor
