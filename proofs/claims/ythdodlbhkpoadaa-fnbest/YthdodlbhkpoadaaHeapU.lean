/- The heap's own methods push and pop, and what puts to it and takes from it. Condition: the heap is the call's own. -/
import Derived.Test.YthdodlbhkpoadaaHeapR
import Derived.Test.YthdodlbhkpoadaaHeapS
import Derived.Test.YthdodlbhkpoadaaBoxW
namespace Go.Proofs.Ythdodlbhkpoadaa
open Go.ChangeShapes Go.WideShapes Go.ChangeAt Go.RowKit Go.Deep
set_option linter.unusedVariables false
attribute [local go_sem ↓] Go.wp_at_zero Go.wp_at_succ

theorem BoxAt.off {W W' : World} {b : Nat} {vs : List Value} {S : List Nat} (h : BoxAt W b vs) (ho : Off S W W') (hn : b ∉ S) : BoxAt W' b vs := by
  have e := ho.block b h.1 hn
  exact ⟨Nat.lt_of_lt_of_le h.1 ho.size, fun i v hv => (by simp only [World.cell?, e]; exact h.2.1 i v hv), fun i hi => (by simp only [World.frozen?, e]; exact h.2.2 i hi)⟩
theorem capH {base : Nat} {w : World} {a : Option Addr} {n cap : Nat} {l : List Sc} (h : OwnH base w (.slice a n cap) l) : n ≤ cap := by
  rcases h.2 with ⟨he, h2⟩ | ⟨g', cap', cur, he, h3, h4, h5, _⟩
  · cases he; exact Nat.le_refl _
  · cases he; exact h5
set_option maxHeartbeats 3200000 in
set_option maxRecDepth 100000 in
theorem implPush (base hb : Nat) (v : Value) (l : List Sc) (x : Sc) (w : World) (h : OwnH base w v l) (hx : BoxAt w hb [v]) (hne : hb ∉ hbl v) (hl : l.length + 1 ≤ 1048576) (hbs : base ≤ w.heap.size) :
    Calls Try.prog 87 #[.pointer (some ⟨hb, 0, none⟩), .agg #[.int .i64 x.1, .int .i64 x.2]] w fun e w' => ∃ qa qc, e = .returned (.tuple #[]) ∧ OwnH base w' (.slice qa (l.length + 1) qc) (l ++ [x]) ∧ BoxAt w' hb [.slice qa (l.length + 1) qc] ∧ hb ∉ hbl (.slice qa (l.length + 1) qc) ∧
      Off (hb :: hbl v) w w' ∧ (∀ g ∈ hbl (.slice qa (l.length + 1) qc), g ∈ hbl v ∨ w.heap.size ≤ g) := by
  obtain ⟨W1, hW1⟩ : ∃ W1, W1 = w.alloc (.cells #[.int .i64 x.1, .int .i64 x.2] 33) := ⟨_, rfl⟩
  have k1 : Below w.heap.size w W1 := by rw [hW1]; exact al_ _ _
  have hz1 : W1.heap.size = w.heap.size + 1 := by rw [hW1]; simp
  have bX : BoxAt W1 w.heap.size [.int .i64 x.1, .int .i64 x.2] := by rw [hW1]; exact boxNew w _ _
  have bH := hx.below k1
  have HOW := hid (h.below k1)
  have hbl1 := hx.1
  have hlt : ∀ g ∈ hbl v, g < w.heap.size := fun g hg => (h.lt g hg).2
  obtain ⟨va, vc, rfl⟩ := h.slice
  obtain ⟨xb, hxb⟩ : ∃ xb, xb = w.heap.size := ⟨_, rfl⟩
  have hnx : hb ≠ xb := by omega
  have HXB := hid hxb
  have HW1 := hid hW1
  have HNE := hid hne
  have HLT := hid hlt
  have c0 := bH.2.1 0 _ rfl
  rw [← hxb] at bX
  have p0 := bX.2.1 0 _ rfl
  have p1 := bX.2.1 1 _ rfl
  have hX := bX.1
  have hHl := bH.1
  have HZ1 := hid hz1
  clear h hx hne hlt hW1 hz1
  go_enter Try.func87, Try.ntmps87
  go_upto_region 1 with fail
  rw [← HW1.out, ← HXB.out]
  clear hxb
  have HSK : Hid (∀ W, Below W1.heap.size W1 W → (fun w' : World => w'.cell? ⟨hb, 0, none⟩ = some (.slice va l.length vc) ∧ w'.cell? ⟨xb, 0, none⟩ = some (.int .i64 x.1) ∧ w'.cell? ⟨xb, 1, none⟩ = some (.int .i64 x.2)) W) := fun W hW => ⟨(hW.cell hHl).trans c0, (hW.cell hX).trans p0, (hW.cell hX).trans p1⟩
  have hHeld := HSK.out W1.drew (Below.drew (Below.refl _ _))
  clear c0 p0 p1
  refine wp_region_swapL (m := 8) (S := fun w' : World => w'.cell? ⟨hb, 0, none⟩ = some (.slice va l.length vc) ∧ w'.cell? ⟨xb, 0, none⟩ = some (.int .i64 x.1) ∧ w'.cell? ⟨xb, 1, none⟩ = some (.int .i64 x.2)) (by kernel_rfl) rfl rfl rfl rfl (by kernel_rfl) (by kernel_rfl) ?_
  simp only [List.set_cons_zero, List.set_cons_succ]
  refine takeL (i := 0) (v := ?_) rfl (by kernel_rfl) (by kernel_rfl) (by kernel_rfl) (fun _ _ _ h => h) rfl ?_ (by assumption) ?_
  rotate_left
  · intro w hSw; (try dsimp only at hSw); go_simp; (try with_reducible rfl)
  (try simp only [Act.put, List.setIfInBounds_toArray, List.set_cons_zero, List.set_cons_succ])
  refine takeL (i := 1) (v := ?_) rfl (by kernel_rfl) (by kernel_rfl) (by kernel_rfl) (fun _ _ _ h => h) rfl ?_ (by assumption) ?_
  rotate_left
  · intro w hSw; (try dsimp only at hSw); go_simp; (try with_reducible rfl)
  (try simp only [Act.put, List.setIfInBounds_toArray, List.set_cons_zero, List.set_cons_succ])
  refine takeL (i := 2) (v := ?_) rfl (by kernel_rfl) (by kernel_rfl) (by kernel_rfl) (fun _ _ _ h => h) rfl ?_ (by assumption) ?_
  rotate_left
  · intro w hSw; (try dsimp only at hSw); go_simp; (try with_reducible rfl)
  (try simp only [Act.put, List.setIfInBounds_toArray, List.set_cons_zero, List.set_cons_succ])
  refine takeL (i := 3) (v := ?_) rfl (by kernel_rfl) (by kernel_rfl) (by kernel_rfl) (fun _ _ _ h => h) rfl ?_ (by assumption) ?_
  rotate_left
  · intro w hSw; (try dsimp only at hSw); go_simp; (try with_reducible rfl)
  (try simp only [Act.put, List.setIfInBounds_toArray, List.set_cons_zero, List.set_cons_succ])
  refine takeL (i := 4) (v := ?_) rfl (by kernel_rfl) (by kernel_rfl) (by kernel_rfl) (fun _ _ _ h => h) rfl ?_ (by assumption) ?_
  rotate_left
  · intro w hSw; (try dsimp only at hSw); go_simp; (try with_reducible rfl)
  (try simp only [Act.put, List.setIfInBounds_toArray, List.set_cons_zero, List.set_cons_succ])
  refine comesL (i := 5) rfl rfl (by kernel_rfl) (fun K hK => ?_)
  go_simp
  obtain ⟨W2, hW2⟩ : ∃ W2, W2 = (W1.alloc (.cells #[.int .i64 x.1, .int .i64 x.2] 33)).drew := ⟨_, rfl⟩
  have k2 : Below W1.heap.size W1 W2 := by rw [hW2]; exact (al_ _ _).drew
  have HR2 : Hid (RdS W2 (.slice (some ⟨W1.heap.size, 0, none⟩) 1 1) [x]) := by rw [hW2]; exact (rd1 W1 x _).below ((Below.refl _ _).drew)
  rw [← hW2]
  clear hW2
  refine hK.out _ _ (HSK.out W2 k2) (fun hH2 => ?_)
  clear hK K
  replace hHeld := hH2
  clear hH2
  (try simp only [Act.put, List.setIfInBounds_toArray, List.set_cons_zero, List.set_cons_succ])
  refine comesL (i := 6) rfl rfl (by kernel_rfl) (fun K hK => ?_)
  have HOW2 := hid (HOW.out.below k2)
  refine wpH (.tmp 7) (.tmp 9) 63 Try.underlying63 rfl base _ l HOW2.out _ [x] 1 rfl HR2.out (by omega) (by have := k2.size; have := HZ1.out; omega) rfl rfl ?_
  intro qa qc w3 ho3 hf3 hg3
  have hxv : xb ∉ hbl (.slice va l.length vc) := fun hm => by have := HLT.out _ hm; have := HXB.out; omega
  have bH3 := (bH.below k2).off hf3 HNE.out
  have bX3 := (bX.below k2).off hf3 hxv
  have hnq : hb ∉ hbl (.slice qa (l.length + 1) qc) := fun hm => by
    rcases hg3 _ hm with h9 | h9
    · exact HNE.out h9
    · have := k2.size; omega
  have HQ := hid hnq
  have HF := hid (ho3.off (off1 w3 hb 0 (.slice qa (l.length + 1) qc)) (fun g hg hm => by simp at hm; subst hm; exact hnq hg))
  have HBX : Hid (BoxAt (w3.setCell ⟨hb, 0, none⟩ (.slice qa (l.length + 1) qc)) hb [.slice qa (l.length + 1) qc]) := bH3.set 0 _
  have HO : Hid (Off (hb :: hbl (.slice va l.length vc)) w (w3.setCell ⟨hb, 0, none⟩ (.slice qa (l.length + 1) qc))) :=
    ((Off.of k1).trans (Off.of k2)).trans ((hf3.mono (fun g hg => .inl (by simp [hg]))).trans ((off1 w3 hb 0 _).mono (fun g hg => .inl (by simp at hg; simp [hg]))))
  have HG : Hid (∀ g ∈ hbl (.slice qa (l.length + 1) qc), g ∈ hbl (.slice va l.length vc) ∨ w.heap.size ≤ g) := fun g hg => by
    rcases hg3 g hg with h9 | h9
    · exact .inl h9
    · right; have := k2.size; have := k1.size; omega
  have g0 := bH3.2.1 0 _ rfl
  have gf := bH3.2.2 0 (by simp)
  have gl := bH3.1
  have x0 := bX3.2.1 0 _ rfl
  have x1 := bX3.2.1 1 _ rfl
  clear ho3 hf3 hg3 hnq bH3 bX3 hHeld k1 k2 bX bH hxv
  (try dsimp only)
  refine hK.out _ _ ⟨g0, x0, x1⟩ (fun hH2 => ?_)
  clear hK K
  have hHeld := hH2
  clear hH2 HSK x0 x1
  (try simp only [Act.put, List.setIfInBounds_toArray, List.set_cons_zero, List.set_cons_succ])
  refine takeL (i := 7) (v := ?_) rfl (by kernel_rfl) (by kernel_rfl) (by kernel_rfl) (fun _ _ _ h => h) rfl ?_ (by assumption) ?_
  rotate_left
  · intro w hSw; (try dsimp only at hSw); go_simp; (try with_reducible rfl)
  (try simp only [Act.put, List.setIfInBounds_toArray, List.set_cons_zero, List.set_cons_succ])
  refine takeL (i := 8) (v := ?_) rfl (by kernel_rfl) (by kernel_rfl) (by kernel_rfl) (fun _ _ _ h => h) rfl ?_ (by assumption) ?_
  rotate_left
  · intro w hSw; (try dsimp only at hSw); go_simp; (try with_reducible rfl)
  (try simp only [Act.put])
  refine wpAnyH_done (by kernel_rfl) ?_ _
  simp only [LastQ]
  go_simp
  go_wp2
  go_returns
  exact ⟨qa, qc, rfl, HF.out, HBX.out, HQ.out, HO.out, HG.out⟩
set_option maxHeartbeats 3200000 in
set_option maxRecDepth 100000 in
theorem implPop (base hb g n cap : Nat) (l : List Sc) (w : World) (h : OwnH base w (.slice (some ⟨g, 0, none⟩) n cap) l) (hn : n = l.length) (hx : BoxAt w hb [.slice (some ⟨g, 0, none⟩) n cap]) (hne : hb ≠ g) (h0 : 0 < l.length) (hl : l.length ≤ 1048576) (hbs : base ≤ w.heap.size) :
    Calls Try.prog 90 #[.pointer (some ⟨hb, 0, none⟩)] w fun e w' => e = .returned (.agg #[.int .i64 (gd l (l.length - 1)).1, .int .i64 (gd l (l.length - 1)).2]) ∧ OwnH base w' (.slice (some ⟨g, 0, none⟩) (l.length - 1) cap) (l.take (l.length - 1)) ∧
      BoxAt w' hb [.slice (some ⟨g, 0, none⟩) (l.length - 1) cap] ∧ Off [hb, g] w w' := by
  subst hn
  obtain ⟨m, hm⟩ : ∃ m, l.length = m + 1 := ⟨l.length - 1, by omega⟩
  have hm1 : l.length - 1 = m := by omega
  rw [hm1]
  have hcap : l.length ≤ cap := (capH h)
  have HOW := hid h
  obtain ⟨hg0, hg1⟩ := h.lt1
  have c0 := hx.2.1 0 _ rfl
  have cf := hx.2.2 0 (by simp)
  have cl := hx.1
  have p0 := h.c0 (k := m) (by omega)
  have p1 := h.c1 (k := m) (by omega)
  have f0 := h.fz (m * 2)
  have f1 := h.fz (m * 2 + 1)
  have hi1 : ((m + 1 : Nat) : Int) - 1 = (m : Int) := by omega
  have hi2 : (m : Int) < ((m + 1 : Nat) : Int) := by omega
  have hi3 : (m : Int) ≤ (cap : Int) := by omega
  have hne2 : g ≠ hb := Ne.symm hne
  have HXX := hid hx
  rw [hm] at hcap c0 HOW HXX
  have HF : Hid (OwnH base ((putC w g m (0, 0)).setCell ⟨hb, 0, none⟩ (.slice (some ⟨g, 0, none⟩) m cap)) (.slice (some ⟨g, 0, none⟩) m cap) (l.take m)) := by
    have h1 := (HOW.out.put m (0, 0)).cut (k := m) (by simp; omega)
    rw [List.take_set_of_le (Nat.le_refl m)] at h1
    exact h1.off (off1 _ hb 0 _) (fun x hx hm => by simp [hbl, Value.ownBlock] at hx; simp at hm; omega)
  have HB : Hid (BoxAt ((putC w g m (0, 0)).setCell ⟨hb, 0, none⟩ (.slice (some ⟨g, 0, none⟩) m cap)) hb [.slice (some ⟨g, 0, none⟩) m cap]) := (HXX.out.off (putC_off w g m (0, 0)) (by simpa using hne)).set 0 _
  have HO : Hid (Off [hb, g] w ((putC w g m (0, 0)).setCell ⟨hb, 0, none⟩ (.slice (some ⟨g, 0, none⟩) m cap))) := ((putC_off w g m (0, 0)).mono (fun x hx => .inl (by simp at hx; simp [hx]))).trans ((off1 _ hb 0 _).mono (fun x hx => .inl (by simp at hx; simp [hx])))
  unfold putC at HF HB HO
  clear h hx HOW HXX
  generalize gd l m = u at *
  go_enter Try.func90, Try.ntmps90
  go_wp2
  go_returns
  exact ⟨rfl, HF.out.below (by go_grown), HB.out.below (by go_grown), HO.out.trans (Off.of (by go_grown))⟩
end Go.Proofs.Ythdodlbhkpoadaa
