/- Contracts of the program's bytes of rows, and of the bounds of a beginning. Condition: the list of values lies in memory. -/
import Derived.Test.YtolkiofdbdjfkaaImplR
import Derived.Test.YtolkiofdbdjfkaaImplB2
import Derived.Laws.OwnMore
namespace Go.Proofs.Ytolkiofdbdjfkaa
open Go.ChangeShapes Go.WideShapes Go.ChangeAt Go.RowKit Go.Deep
set_option linter.unusedVariables false
attribute [local go_sem ↓] Go.wp_at_zero Go.wp_at_succ

theorem OwnF.look {w : World} {base : Nat} {y : Value} {vs : List VV} (h : OwnF w base y vs) :
    ∃ ad cap, y = .slice ad vs.length cap ∧ ∀ k, k < vs.length → ∃ g, ad = some ⟨g, 0, none⟩ ∧ g < w.heap.size ∧ w.cell? ⟨g, k, none⟩ = some (fld (vs.getD k v0)) := by
  have h' : w.ownsRow base 73 1 y vs.length (vs.map fld) := h
  have hlt := World.ownsRow.lt h
  obtain ⟨hl, ⟨rfl, h0⟩ | ⟨g, cap, cur, rfl, hb, hcur, _, _, _, _⟩⟩ := h
  · exact ⟨none, 0, by rw [h0], fun k hk => by omega⟩
  · refine ⟨_, cap, rfl, fun k hk => ⟨g, rfl, (hlt g rfl).2, ?_⟩⟩
    rw [World.ownsRow.cellAt h' k (by omega)]
    simp [List.getD, hk]
theorem vrowL_take (vs : List VV) (k : Nat) (h : k < vs.length) : vrowL (vs.take (k + 1)) = vrowL (vs.take k) ++ bytesL (vs.getD k v0) := by
  rw [takeS vs k h, vrowL_append]; simp [vrowL]
set_option maxHeartbeats 6400000 in
set_option maxRecDepth 100000 in
theorem implRBYes (x : Value) (vs : List VV) (w : World) (h : ValsAt w x vs) (hl : vs.length ≤ 6) (hg : AllGood vs) :
    Calls Try.prog 28 #[x] w fun e w' => e = .returned (.tuple #[.string (vrowV vs), .bool true]) ∧ Below w.heap.size w w' := by
  have HF := implFsYes x vs w h hl hg
  have HG : Hid (AllGood vs) := hg
  clear h hg
  go_enter Try.func28, Try.ntmps28
  go_wp2_with fail
  refine HF.mono ?_
  rintro e w1 ⟨y, rfl, hy, hb1⟩
  obtain ⟨ad, cap, rfl, hlook⟩ := hy.look
  have HL : Hid (∀ k, k < vs.length → ∃ g, ad = some ⟨g, 0, none⟩ ∧ g < w1.heap.size ∧ w1.cell? ⟨g, k, none⟩ = some (fld (vs.getD k v0))) := hlook
  have HO0 := hid (OwnB.nil w1 w1.heap.size)
  have hl1 := hb1.size
  clear HF hy hlook
  go_wp2_with fail
  go_loopw [6, 8, 18] (fun b p i wr => ∃ k : Nat, k ≤ vs.length ∧ i = .int .i64 k ∧ OwnB wr w1.heap.size b (vrowL (vs.take k)) ∧ Below w1.heap.size w1 wr) (fun _ _ i _ => vs.length - (intOf i).toNat)
  case atStart => exact ⟨0, Nat.zero_le _, rfl, HO0.out, Below.refl _ _⟩
  case round =>
    obtain ⟨k, hk, rfl, hown, kb⟩ := hrel
    have kl := kb.size
    have hRl : (vrowL (vs.take k)).length ≤ 200 := by
      have h1 := vrowL_len (vs := vs.take k) (fun v hv => HG.out v (List.mem_of_mem_take hv))
      have h2 : (vs.take k).length ≤ 6 := by simp; omega
      omega
    by_cases hlt : k < vs.length
    · obtain ⟨g, rfl, hgl, hcell⟩ := HL.out k hlt
      have hce := (kb.cell (p := ⟨g, k, none⟩) hgl).trans hcell
      have hgr : g < wr.heap.size := by omega
      have hgk : GoodV (vs.getD k v0) := HG.out _ (by simp [List.getD, hlt])
      have HY := implFB _ (vrowL (vs.take k)) (vs.getD k v0) w1.heap.size wr hown kl (by omega) hgk
      rw [← vrowL_take vs k hlt] at HY
      clear hgk hcell hown
      generalize fld (vs.getD k v0) = F at *
      have hki : (k : Int) < (vs.length : Int) := by omega
      go_wp2_with fail
      refine HY.mono ?_
      rintro e w2 ⟨y2, rfl, hy2, hb2⟩
      have k2 : Below w1.heap.size w1 w2 := kb.trans hb2
      have HO2 := hid hy2
      clear hb2 HY hce hy2
      go_wp2
      exact ⟨⟨k + 1, by omega, by go_num, HO2.out, k2⟩, by simp [intOf]; omega⟩
    · have hke : k = vs.length := by omega
      subst hke
      rw [List.take_length] at hown hRl
      have hcv := conv_own wr w1.heap.size _ (vrowL vs) hown
      have kf : Below w.heap.size w wr := hb1.trans (kb.mono hl1)
      have HR : Hid (vrowV vs = ⟨(vrowL vs).toArray⟩) := rfl
      clear hown
      generalize vrowL vs = R at hcv HR hRl
      go_wp2
      go_returns
      exact ⟨by rw [HR.out]; rfl, kf⟩
set_option maxHeartbeats 1600000 in
theorem implRBNo (x : Value) (vs : List VV) (w : World) (h : ValsAt w x vs) (hlen : vs.length ≤ 1048576) (hsz : ∀ v ∈ vs, v.t.size ≤ maxLen) (hn : ¬ (AllGood vs ∧ vs.length ≤ 6)) :
    Calls Try.prog 28 #[x] w fun e w' => e = .returned (.tuple #[.string ByteArray.empty, .bool false]) ∧ Below w.heap.size w w' := by
  have HA := implFsNo x vs w h hlen hsz hn
  clear h hn hsz
  go_enter Try.func28, Try.ntmps28
  go_wp2_with fail
  refine HA.mono ?_
  rintro e w1 ⟨rfl, hb1⟩
  clear HA
  go_wp2
  go_returns
  exact ⟨rfl, hb1⟩
set_option maxHeartbeats 1600000 in
theorem implAfterYes (x : Value) (vs : List VV) (w : World) (h : ValsAt w x vs) (hl : vs.length ≤ 6) (hg : AllGood vs) :
    Calls Try.prog 32 #[x] w fun e w' => e = .returned (.tuple #[.string (vrowV vs), .string (vrowV vs ++ ⟨#[255]⟩), .bool true]) ∧ Below w.heap.size w w' := by
  have HA := implRBYes x vs w h hl hg
  have hz := vrowV_size hl hg
  have hz1 : (⟨#[255]⟩ : ByteArray).size = 1 := rfl
  clear h hg
  generalize vrowV vs = R at *
  go_enter Try.func32, Try.ntmps32
  go_wp2_with fail
  refine HA.mono ?_
  rintro e w1 ⟨rfl, hb1⟩
  clear HA
  go_wp2
  go_returns
  exact ⟨rfl, hb1⟩
set_option maxHeartbeats 1600000 in
theorem implAfterNo (x : Value) (vs : List VV) (w : World) (h : ValsAt w x vs) (hlen : vs.length ≤ 1048576) (hsz : ∀ v ∈ vs, v.t.size ≤ maxLen) (hn : ¬ (AllGood vs ∧ vs.length ≤ 6)) :
    Calls Try.prog 32 #[x] w fun e w' => e = .returned (.tuple #[.string ByteArray.empty, .string ByteArray.empty, .bool false]) ∧ Below w.heap.size w w' := by
  have HA := implRBNo x vs w h hlen hsz hn
  clear h hn hsz
  go_enter Try.func32, Try.ntmps32
  go_wp2_with fail
  refine HA.mono ?_
  rintro e w1 ⟨rfl, hb1⟩
  clear HA
  go_wp2
  go_returns
  exact ⟨rfl, hb1⟩
/-- One value as a list of one. -/
theorem one_vals (w : World) (v : VV) (T : TypeId) (c : Nat) : ValsAt (w.alloc (.cells #[.int .i64 v.k, .int .i64 v.n, .string v.t] T)) (.slice (some ⟨w.heap.size, 0, none⟩) 1 c) [v] := by
  refine .inr ⟨w.heap.size, 0, c, rfl, by simp, fun i hi => ?_⟩
  have : i = 0 := by simp at hi; omega
  subst this
  exact ⟨by simp, by simp, by simp⟩
theorem one_row (v : VV) : vrowV [v] = bytesV v := by simp [vrowV, bytesV, vrowL]
set_option maxHeartbeats 1600000 in
theorem implVBYes (v : VV) (w : World) (h : GoodV v) :
    Calls Try.prog 18 #[encV v] w fun e w' => e = .returned (.tuple #[.string (bytesV v), .bool true]) ∧ Below w.heap.size w w' := by
  have HR := fun W c T => implRBYes (.slice (some ⟨W.heap.size, 0, none⟩) 1 c) [v] _ (one_vals W v T c) (by simp) (fun u hu => by simp at hu; rw [hu]; exact h)
  rw [one_row] at HR
  clear h
  generalize bytesV v = R at *
  obtain ⟨k, n, t⟩ := v
  unfold encV
  simp only [] at *
  go_enter Try.func18, Try.ntmps18
  go_wp2_with fail
  have HR2 := HR (w.alloc (.cells #[.int .i64 k, .int .i64 n, .string t] 24)) 1 24
  rw [World.size_alloc] at HR2
  refine HR2.mono ?_
  rintro e w1 ⟨rfl, hb1⟩
  have k1 : Below w.heap.size w w1 := Below.trans (((Below.refl _ w).alloc (Nat.le_refl _) _).alloc (by simp) _) (hb1.mono (by simp; omega))
  clear HR HR2 hb1
  go_wp2
  go_returns
  exact ⟨rfl, k1⟩
set_option maxHeartbeats 1600000 in
theorem implVBNo (v : VV) (w : World) (hm : v.t.size ≤ maxLen) (h : ¬ GoodV v) :
    Calls Try.prog 18 #[encV v] w fun e w' => e = .returned (.tuple #[.string ByteArray.empty, .bool false]) ∧ Below w.heap.size w w' := by
  have HR := fun W c T => implRBNo (.slice (some ⟨W.heap.size, 0, none⟩) 1 c) [v] _ (one_vals W v T c) (by simp) (fun u hu => by simp at hu; rw [hu]; exact hm) (fun g => h (g.1 v (by simp)))
  clear h hm
  obtain ⟨k, n, t⟩ := v
  unfold encV
  simp only [] at *
  go_enter Try.func18, Try.ntmps18
  go_wp2_with fail
  have HR2 := HR (w.alloc (.cells #[.int .i64 k, .int .i64 n, .string t] 24)) 1 24
  rw [World.size_alloc] at HR2
  refine HR2.mono ?_
  rintro e w1 ⟨rfl, hb1⟩
  have k1 : Below w.heap.size w w1 := Below.trans (((Below.refl _ w).alloc (Nat.le_refl _) _).alloc (by simp) _) (hb1.mono (by simp; omega))
  clear HR HR2 hb1
  go_wp2
  go_returns
  exact ⟨rfl, k1⟩
end Go.Proofs.Ytolkiofdbdjfkaa
