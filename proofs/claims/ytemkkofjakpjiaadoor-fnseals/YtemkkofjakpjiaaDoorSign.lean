/- Contracts of SignOnce, program and model. Condition: the table of weights as it is laid. -/
import Derived.Test.YtemkkofjakpjiaaDoorMove
import Derived.Test.YtemkkofjakpjiaaDoorSpecDigits
namespace Go.Proofs.YtemkkofjakpjiaaDoor
open Go.ChangeShapes Go.WideShapes Go.ChangeAt Go.RowKit Go.Deep
set_option linter.unusedVariables false

theorem specChainUp (s : ByteArray) (n : Nat) (w : World) (hs : s.size = 4) (hn : n ≤ 15) :
    Calls Tryd.prog 108 #[.string s, .int .i64 0, .int .i64 n] w fun e w' => e = .returned (.string (chainB s 0 n)) ∧ Below w.heap.size w w' := specChain s 0 n w hs (by omega)
theorem specChainOn (s : ByteArray) (f : Nat) (w : World) (hs : s.size = 4) (hn : f ≤ 15) :
    Calls Tryd.prog 108 #[.string s, .int .i64 f, .int .i64 (15 - (f : Int))] w fun e w' => e = .returned (.string (chainB s f (15 - f))) ∧ Below w.heap.size w w' := by
  have h := specChain s f (15 - f) w hs (by omega)
  have e : ((15 - f : Nat) : Int) = 15 - (f : Int) := by omega
  rw [e] at h
  exact h
theorem specLongYes (s : ByteArray) (w : World) (h : s.size ≤ 200) : Calls Tryd.prog 70 #[.string s] w fun e w' => e = .returned (.bool true) ∧ w' = w := by
  have h1 : (s.size : Int) ≤ 200 := by omega
  go_enter Tryd.func70, Tryd.ntmps70
  go_wp2
  go_returns
  exact ⟨rfl, rfl⟩
theorem specLongNo (s : ByteArray) (w : World) (hm : s.size ≤ maxLen) (h : 200 < s.size) : Calls Tryd.prog 70 #[.string s] w fun e w' => e = .returned (.bool false) ∧ w' = w := by
  unfold maxLen at hm
  have h1 : decide ((s.size : Int) ≤ 200) = false := by simp; omega
  go_enter Tryd.func70, Tryd.ntmps70
  go_wp2
  go_returns
  exact ⟨rfl, rfl⟩

theorem arr11 (V : Array Value) (h : V.size = 11) : #[V[0]'(by omega), V[1]'(by omega), V[2]'(by omega), V[3]'(by omega), V[4]'(by omega), V[5]'(by omega), V[6]'(by omega), V[7]'(by omega), V[8]'(by omega), V[9]'(by omega), V[10]'(by omega)] = V := by
  apply Array.ext
  · simp [h]
  · intro i h1 h2
    have h3 : i < 11 := by simpa using h1
    match i, h3 with
    | 0, _ => rfl
    | 1, _ => rfl
    | 2, _ => rfl
    | 3, _ => rfl
    | 4, _ => rfl
    | 5, _ => rfl
    | 6, _ => rfl
    | 7, _ => rfl
    | 8, _ => rfl
    | 9, _ => rfl
    | 10, _ => rfl

theorem movedUp_sign (s t : ByteArray) : movedUp (digs t) (keysB s) = signB s t := by
  unfold movedUp signB
  apply List.map_congr_left
  intro k hk
  rw [keysB_at s k (by simpa using hk)]

set_option maxHeartbeats 3200000 in
set_option maxRecDepth 100000 in
theorem specL2Sign (s t : ByteArray) (w : World) (h0 : 1 ≤ s.size) (h1 : s.size ≤ 16) (h2 : t.size ≤ 200) :
    Calls Tryd.prog 71 #[.string s, .string t] w fun e w' => ∃ g cap, e = .returned (.slice (some ⟨g, 0, none⟩) 11 cap) ∧ OwnRow w.heap.size w' g 11 (fun i => .string ((signB s t).getD i ByteArray.empty)) ∧ Below w.heap.size w w' := by
  obtain ⟨i0, hi, hzz⟩ := Option.map_eq_some_iff.1 infoStr
  simp only [Prod.mk.injEq] at hzz
  obtain ⟨hz0, hz1, hz2⟩ := hzz
  go_enter Tryd.func71, Tryd.ntmps71
  go_wp2_with fail
  refine (specL2Digits t _ h2).mono ?_
  rintro e w0 ⟨gd, cd, rfl, hod, hb0⟩
  have HD : Hid (OwnRow w.heap.size w0 gd 11 (fun i => .int .i64 ((digs t).getD i 0))) := hod
  have hgd := hod.2.1
  clear hod
  go_wp2_with fail
  go_loopw [5, 6, 7, 11] (fun v x y i wr => ∃ k : Nat, k ≤ 11 ∧ i = .int .i64 k ∧ wr.ownsRow w0.heap.size 9 1 v k (strV ((signB s t).take k)) ∧ Below w0.heap.size w0 wr) (fun _ _ _ i _ => 11 - (intOf i).toNat)
  case atStart => exact ⟨0, Nat.zero_le _, rfl, World.ownsRow_nil _ _ _ _, by go_grown⟩
  case round =>
    obtain ⟨k, hk, rfl, hown, kb⟩ := hrel
    have kl := kb.size
    by_cases hlt : k < 11
    · have HS : Hid (strV ((signB s t).take (k + 1)) = strV ((signB s t).take k) ++ [.string (chainB (keyB s k) 0 ((digs t).getD k 0).toNat)]) := by
        show _ = _
        unfold signB; rw [take_range _ 11 k hlt]; exact strV_snoc _ _
      generalize strV ((signB s t).take k) = R at *
      have hcd : wr.cell? ⟨gd, k, none⟩ = some (.int .i64 ((digs t).getD k 0)) := (HD.out.below kb).2.2.1 k hlt
      obtain ⟨hd0, hd1⟩ := digs_at t k hlt
      obtain ⟨N, hN⟩ := Int.eq_ofNat_of_zero_le hd0
      rw [hN] at hcd hd1
      have hN' : ((digs t).getD k 0).toNat = N := by omega
      rw [hN'] at HS
      clear hN hN' hd0
      have hN15 : N ≤ 15 := by omega
      go_wp2_with fail
      refine (specKey s k _ (by omega) (by omega)).mono ?_
      rintro e w1 ⟨rfl, hb1⟩
      have kb1 : Below w0.heap.size w0 w1 := kb.trans (hb1.mono kl)
      have kl1 := kb1.size
      have hown1 : w1.ownsRow w0.heap.size 9 1 u5 k R := hown.kept (row := none) ⟨hb1.os, hb1.tape, hb1.output, hb1.size, fun k hk _ => hb1.block k hk⟩ (by cases h : u5.ownBlock <;> simp)
      clear hb1 hown
      have hks := keyB_size s k
      generalize keyB s k = q at *
      go_wp2_with fail
      refine (specChainUp q N _ hks hN15).mono ?_
      rintro e w2 ⟨rfl, hb2⟩
      have kb2 : Below w0.heap.size w0 w2 := kb1.trans (hb2.mono kl1)
      have kl2 := kb2.size
      have hown2 : w2.ownsRow w0.heap.size 9 1 u5 k R := hown1.kept (row := none) ⟨hb2.os, hb2.tape, hb2.output, hb2.size, fun k hk _ => hb2.block k hk⟩ (by cases h : u5.ownBlock <;> simp)
      clear hb2 hown1
      generalize chainB q 0 N = r at *
      go_wp2_with (first
        | (at_builtin; refine wpList_append_own _ rfl _ _ 25 rfl w0.heap.size 9 i0 (.string ByteArray.empty) 1 16 Tryd.underlying25 hi hz0 hz1 hz2 rfl (by decide) _ _ _ rfl (hown2.alloc _) ⟨w2.heap.size, 0, none⟩ 1 1 [.string r] rfl rfl ?c1 ?c2 ?c3 ?c4 ?c5 ?_)
        | fail)
      case c1 =>
        intro j u hj
        match j, hj with
        | 0, hj => simp at hj; subst hj; simp [Addr.add]
      case c2 => intro u hu; simp at hu; subst hu; rfl
      case c3 => unfold maxLen; omega
      case c4 => omega
      case c5 => simp; omega
      intro v3 w3 hown3 hg3 _
      have kb3 : Below w0.heap.size w0 w3 := (kb2.alloc kl2 _).grown hg3 (by simp; omega) (fun r hr => (hown2.lt r hr).1)
      clear hg3
      go_wp2
      exact ⟨⟨k + 1, by omega, by go_num, by rw [HS.out]; exact hown3, kb3⟩, by simp [intOf]; omega⟩
    · have hke : k = 11 := by omega
      subst hke
      rw [List.take_of_length_le (by rw [signB_len]; omega)] at hown
      obtain ⟨g, cap, hv, ho⟩ := ownRow_of hown (by omega)
      subst hv
      have HO : Hid (OwnRow w0.heap.size wr g 11 _) := ho
      clear ho hown
      go_wp2
      go_returns
      exact ⟨g, cap, rfl, (HO.out.mono hb0.size).congr (fun i hi => strV_at _ _ (by rw [signB_len]; exact hi)), hb0.trans (kb.mono hb0.size)⟩
set_option maxHeartbeats 1600000 in
theorem specSignYes (s t : ByteArray) (w : World) (h0 : 1 ≤ s.size) (h1 : s.size ≤ 16) (h2 : t.size ≤ 200) :
    Calls Tryd.prog 16 #[.string s, .string t] w fun e w' => ∃ g cap, e = .returned (.tuple #[.slice (some ⟨g, 0, none⟩) 11 cap, .bool true]) ∧ OwnRow w.heap.size w' g 11 (fun i => .string ((signB s t).getD i ByteArray.empty)) ∧ Below w.heap.size w w' := by
  go_enter Tryd.func16, Tryd.ntmps16
  go_wp2_with fail
  refine (specSeedYes s _ h0 h1).mono ?_
  rintro e w0 ⟨rfl, rfl⟩
  go_wp2_with fail
  refine (specLongYes t _ h2).mono ?_
  rintro e w1 ⟨rfl, rfl⟩
  go_wp2_with fail
  refine (specL2Sign s t _ h0 h1 h2).mono ?_
  rintro e w2 ⟨g, cap, rfl, ho, hb⟩
  go_wp2
  go_returns
  exact ⟨g, cap, rfl, ho, hb⟩
set_option maxHeartbeats 1600000 in
theorem specSignNo (s t : ByteArray) (w : World) (hms : s.size ≤ maxLen) (hmt : t.size ≤ maxLen) (h : ¬ ((1 ≤ s.size ∧ s.size ≤ 16) ∧ t.size ≤ 200)) :
    Calls Tryd.prog 16 #[.string s, .string t] w fun e w' => e = .returned (.tuple #[.slice none 0 0, .bool false]) ∧ Below w.heap.size w w' := by
  by_cases h1 : 1 ≤ s.size ∧ s.size ≤ 16
  · have h2 : 200 < t.size := by omega
    go_enter Tryd.func16, Tryd.ntmps16
    go_wp2_with fail
    refine (specSeedYes s _ h1.1 h1.2).mono ?_
    rintro e w0 ⟨rfl, rfl⟩
    go_wp2_with fail
    refine (specLongNo t _ hmt h2).mono ?_
    rintro e w1 ⟨rfl, rfl⟩
    go_wp2
    go_returns
    exact ⟨rfl, by go_grown⟩
  · go_enter Tryd.func16, Tryd.ntmps16
    go_wp2_with fail
    refine (specSeedNo s _ hms h1).mono ?_
    rintro e w0 ⟨rfl, rfl⟩
    go_wp2
    go_returns
    exact ⟨rfl, by go_grown⟩

set_option maxHeartbeats 1600000 in
set_option maxRecDepth 100000 in
theorem implSignYes (s t : ByteArray) (w : World) (h0 : 1 ≤ s.size) (h1 : s.size ≤ 16) (h2 : t.size ≤ 200) (ht : Table w) :
    Calls Tryd.prog 15 #[.string s, .string t] w fun e w' => ∃ g cap, e = .returned (.tuple #[.slice (some ⟨g, 0, none⟩) 11 cap, .bool true]) ∧ OwnRow w.heap.size w' g 11 (fun i => .string ((signB s t).getD i ByteArray.empty)) ∧ Below w.heap.size w w' := by
  have hmf : ∀ (fn : Fn) (first cap : Array Value) (w : World), (Instr.makeFunc fn first cap).run Tryd.prog w = .ok (.func fn first cap) w := fun _ _ _ _ => rfl
  have hsz := digV_size t
  have hst := fun w : World => run_storeCells_new (P := Tryd.prog) w 90 #[.int .i64 0, .int .i64 0, .int .i64 0, .int .i64 0, .int .i64 0, .int .i64 0, .int .i64 0, .int .i64 0, .int .i64 0, .int .i64 0, .int .i64 0] (digV t) (by rw [hsz]; kernel_rfl) (by rw [hsz]; rfl) (digV_one t)
  have hld := fun w : World => run_loadCellsFrom_new (P := Tryd.prog) w 90 (digV t) 11 hsz
  have HV : Hid (Digs (digV t) (digs t)) := digs_V t
  have HTX := fun W hT => implTextYes t W h2 hT
  have HT : Hid (Table w) := ht
  clear ht
  generalize digV t = V at *
  go_enter Tryd.func15, Tryd.ntmps15
  go_wp2_with fail
  refine (implKeysYes s _ h0 h1 HT.out).mono ?_
  rintro e w1 ⟨g1, cap1, rfl, ho1, hb1⟩
  have hl1 := hb1.size
  have HO1 : Hid (OwnRow w.heap.size w1 g1 11 (fun i => .string ((keysB s).getD i ByteArray.empty))) := ho1
  clear ho1
  go_wp2_with fail
  refine (HTX _ (HT.out.below hb1)).mono ?_
  rintro e w2 ⟨rfl, hb2⟩
  have k2 := hb1.trans (hb2.mono hl1)
  have hl2 := k2.size
  have HO2 : Hid (OwnRow w.heap.size (w2.alloc (.cells V 90)) g1 11 (fun i => .string ((keysB s).getD i ByteArray.empty))) := (HO1.out.below hb2).below ((Below.refl _ w2).alloc (Nat.le_refl _) _)
  have k3 : Below w.heap.size w (w2.alloc (.cells V 90)) := k2.alloc hl2 _
  clear hb2 HTX
  have HM := implMoveUp V (digs t) (keysB s) g1 0 cap1 _ HV.out (fun i hi => by rw [keysB_at s i hi]; exact keyB_size _ _) HO2.out.2.1 (fun i hi => by rw [Nat.zero_add]; exact HO2.out.2.2.1 i hi) (HT.out.below k3)
  rw [movedUp_sign] at HM
  go_wp2_with fail
  rw [arr11 V hsz]
  refine HM.mono ?_
  rintro e w4 ⟨g, rfl, ho, hb4⟩
  have k4 := k3.trans (hb4.mono k3.size)
  have HO4 : Hid (OwnRow w.heap.size w4 g 11 (fun i => .string ((signB s t).getD i ByteArray.empty))) := ho.mono k3.size
  clear ho hb4 HM
  go_wp2
  go_returns
  exact ⟨g, 11, rfl, HO4.out, k4⟩
set_option maxHeartbeats 1600000 in
set_option maxRecDepth 100000 in
theorem implSignNo (s t : ByteArray) (w : World) (hms : s.size ≤ maxLen) (hmt : t.size ≤ maxLen) (h : ¬ ((1 ≤ s.size ∧ s.size ≤ 16) ∧ t.size ≤ 200)) (ht : Table w) :
    Calls Tryd.prog 15 #[.string s, .string t] w fun e w' => e = .returned (.tuple #[.slice none 0 0, .bool false]) ∧ Below w.heap.size w w' := by
  by_cases h1 : 1 ≤ s.size ∧ s.size ≤ 16
  · have h2 : 200 < t.size := by omega
    go_enter Tryd.func15, Tryd.ntmps15
    go_wp2_with fail
    refine (implKeysYes s _ h1.1 h1.2 ht).mono ?_
    rintro e w1 ⟨g1, cap1, rfl, ho1, hb1⟩
    have hl1 := hb1.size
    clear ho1
    go_wp2_with fail
    refine (implTextNo t _ hmt h2).mono ?_
    rintro e w2 ⟨rfl, hb2⟩
    have k2 := hb1.trans (hb2.mono hl1)
    have hl2 := k2.size
    clear hb2
    go_wp2
    go_returns
    exact ⟨rfl, by go_grown⟩
  · go_enter Tryd.func15, Tryd.ntmps15
    go_wp2_with fail
    refine (implKeysNo s _ hms h1).mono ?_
    rintro e w1 ⟨rfl, hb1⟩
    have hl1 := hb1.size
    go_wp2
    go_returns
    exact ⟨rfl, by go_grown⟩
end Go.Proofs.YtemkkofjakpjiaaDoor
