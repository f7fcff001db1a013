/- Contracts of the program's GetKey. Condition: the pages lie in memory. -/
import Derived.Test.YtmmccjdkafojgaaImplFd
import Derived.Test.YtmmccjdkafojgaaShelf
namespace Go.Proofs.Ytmmccjdkafojgaa
open Go.ChangeShapes Go.WideShapes Go.ChangeAt Go.RowKit Go.Deep
set_option linter.unusedVariables false
attribute [local go_sem ↓] Go.wp_at_zero Go.wp_at_succ

set_option maxRecDepth 100000 in
theorem implClone (s : ByteArray) (w : World) (h1 : s.size ≤ 12) :
    Calls Try.prog 77 #[.string s] w fun e w' => e = .returned (.string s) ∧ Below w.heap.size w w' := by
  go_enter Try.func77, Try.ntmps77
  go_wp2_with (first | (go_at_call 116; refine (stringsliteClone _ _ (by omega)).mono ?_; rintro e w2 ⟨rfl, hb2⟩) | go_in)
  go_returns
  exact ⟨rfl, hb2⟩
set_option maxHeartbeats 1600000 in
theorem implFind (p : List Pr) (k : ByteArray) (x y : Value) (w : World) (hx : RowsAt w 1 x p.length (keysV p)) (hy : ∃ a n c, y = .slice a n c) (hs : Srt p) (hl : p.length ≤ 1048576) :
    Calls Try.prog 104 #[.agg #[x, y], .string k] w fun e w' => e = .returned (.tuple #[.int .i64 (posN p k : Nat), .bool (hasN p k)]) ∧ Below w.heap.size w w' := by
  have HX := hid hx
  have HS := fun W h => searchIs p k x W h hs hl
  obtain ⟨a, c, rfl⟩ := hx.slice
  obtain ⟨a2, n2, c2, rfl⟩ := hy
  clear hx hs
  generalize hasN p k = B at *
  generalize posN p k = I at *
  go_enter Try.func104, Try.ntmps104
  go_wp2_with fail
  refine (HS _ (HX.out.below (by go_grown))).mono ?_
  rintro e w1 ⟨rfl, hw1⟩
  subst w1
  clear HS
  go_wp2_with fail
  go_returns
  exact ⟨rfl, by go_grown⟩
set_option maxHeartbeats 3200000 in
theorem implGet {t : Nd} {key : ByteArray} {r : Option ByteArray} (h : GetIs t key r) : ∀ (kv vv cv : Value) (w : World), Shape t → Srt (allN t) → NodeP (fun _ => True) w t kv vv cv →
    Calls Try.prog 66 #[.agg #[kv, vv, cv], .string key] w fun e w' => e = .returned (retG r) ∧ Below w.heap.size w w' := by
  induction h with
  | here p kids k hh =>
    intro kv vv cv w hsh hsr hn
    obtain ⟨a1, k1, a2, k2, a3, k3, rfl, rfl, rfl⟩ := hn.slices
    have hk4 := (shape_kids hsh).2
    simp only [Nd.prs, Nd.kids] at hn hk4 ⊢
    have HF := fun W (hW : Below w.heap.size w W) => implFind p k (.slice a1 p.length k1) (.slice a2 p.length k2) W (hn.1.1.below hW) ⟨_, _, _, rfl⟩ (srt_own hsr) (by omega)
    have hpl : posN p k < p.length := by
      have := hh; unfold hasN at this; exact (of_decide_eq_true this).1
    obtain ⟨b2, o2, c2, hce, hb2, hcl2⟩ := hn.2.1.1.cell1 hpl
    cases hce
    rw [valsV_get _ _ hpl] at hcl2
    rw [hh] at HF
    have HR : Hid (retG (some (p.getD (posN p k) default).2) = .tuple #[.string (p.getD (posN p k) default).2, .bool true]) := rfl
    rw [HR.out]
    generalize (p.getD (posN p k) default).2 = V at *
    clear HR hh hsh hsr hn
    generalize posN p k = I at *
    have hIi : (I : Int) < (p.length : Int) := by omega
    have hI0 : (0 : Int) ≤ (I : Int) := by omega
    have hbn : b2 ≠ w.heap.size := by omega
    go_enter Try.func66, Try.ntmps66
    go_wp2_with fail
    refine (HF _ (by go_grown)).mono ?_
    rintro e w1 ⟨rfl, hb1⟩
    obtain ⟨hc1, hf1⟩ := bcell hb1
    have hz1 := hb1.size
    try simp only [World.size_drew] at hz1
    try simp only [World.size_setCell] at hz1
    try simp only [World.size_alloc] at hz1
    have hz1_0 : w.heap.size < w1.heap.size := by omega
    clear hz1
    have k1 : Below w.heap.size w w1 := by
      refine Below.trans ?_ (hb1.mono ?_)
      · go_grown
      · go_size
    have hl1 : w.heap.size ≤ w1.heap.size := k1.size
    clear hb1
    go_wp2
    go_returns
    exact ⟨rfl, by go_grown⟩
  | leaf p k hh =>
    intro kv vv cv w hsh hsr hn
    obtain ⟨a1, k1, a2, k2, a3, k3, rfl, rfl, rfl⟩ := hn.slices
    have hk4 := (shape_kids hsh).2
    simp only [Nd.prs, Nd.kids, List.length_nil] at hn hk4 ⊢
    have HF := fun W (hW : Below w.heap.size w W) => implFind p k (.slice a1 p.length k1) (.slice a2 p.length k2) W (hn.1.1.below hW) ⟨_, _, _, rfl⟩ (srt_own hsr) (by omega)
    have HL := fun W => implLeaf a1 a2 a3 p.length p.length 0 k1 k2 k3 W (by omega)
    rw [decide_eq_true rfl] at HL
    rw [hh] at HF
    have HR : Hid (retG none = .tuple #[.string ⟨#[]⟩, .bool false]) := rfl
    rw [HR.out]
    clear HR hh hsh hsr hn
    generalize posN p k = I at *
    go_enter Try.func66, Try.ntmps66
    go_wp2_with fail
    refine (HF _ (by go_grown)).mono ?_
    rintro e w1 ⟨rfl, hb1⟩
    obtain ⟨hc1, hf1⟩ := bcell hb1
    have hz1 := hb1.size
    try simp only [World.size_drew] at hz1
    try simp only [World.size_setCell] at hz1
    try simp only [World.size_alloc] at hz1
    have hz1_0 : w.heap.size < w1.heap.size := by omega
    clear hz1
    have k1 : Below w.heap.size w w1 := by
      refine Below.trans ?_ (hb1.mono ?_)
      · go_grown
      · go_size
    have hl1 : w.heap.size ≤ w1.heap.size := k1.size
    clear hb1
    go_wp2_with fail
    refine (HL _).mono ?_
    rintro e w2 ⟨rfl, hb2⟩
    obtain ⟨hc2, hf2⟩ := bcell hb2
    have hz2 := hb2.size
    try simp only [World.size_drew] at hz2
    try simp only [World.size_setCell] at hz2
    try simp only [World.size_alloc] at hz2
    have hz2_0 : w.heap.size < w2.heap.size := by omega
    try have hy2_1 : w1.heap.size < w2.heap.size := (by omega)
    clear hz2
    have k2 : Below w.heap.size w w2 := by
      refine Below.trans ?_ (hb2.mono ?_)
      · go_grown
      · go_size
    have hl2 : w.heap.size ≤ w2.heap.size := k2.size
    clear hb2
    go_wp2
    go_returns
    exact ⟨rfl, by go_grown⟩
  | down p kids k r hh hpk hg ih =>
    intro kv vv cv w hsh hsr hn
    obtain ⟨a1, k1, a2, k2, a3, k3, rfl, rfl, rfl⟩ := hn.slices
    have hk4 := (shape_kids hsh).2
    have hk5 := (shape_kids hsh).1
    simp only [Nd.prs, Nd.kids] at hn hk4 hk5 ⊢
    have HF := fun W (hW : Below w.heap.size w W) => implFind p k (.slice a1 p.length k1) (.slice a2 p.length k2) W (hn.1.1.below hW) ⟨_, _, _, rfl⟩ (srt_own hsr) (by omega)
    have HL := fun W => implLeaf a1 a2 a3 p.length p.length kids.length k1 k2 k3 W (by omega)
    rw [decide_eq_false (by omega)] at HL
    rw [hh] at HF
    obtain ⟨b, off, c, x, y, z, hce, hb, c0, c1, c2, hnk⟩ := hn.kid hpk
    cases hce
    have hsk := shape_kid hsh hpk
    have hsrk := srt_kid hsr hsh hpk
    obtain ⟨K, hK⟩ : ∃ K, kids.getD (posN p k) default = K := ⟨_, rfl⟩
    rw [hK] at hnk hsk hsrk ih
    have HI := fun W (hW : Below w.heap.size w W) => ih _ _ _ W hsk hsrk (hnk.below hW)
    obtain ⟨x1, l1, x2, l2, x3, l3, rfl, rfl, rfl⟩ := hnk.slices
    obtain ⟨R, hR⟩ : ∃ R, R = retG r := ⟨_, rfl⟩
    have hRt : ∃ x y, R = .tuple #[x, y] := by rw [hR]; cases r <;> exact ⟨_, _, rfl⟩
    rw [← hR] at HI ⊢
    obtain ⟨R1, R2, rfl⟩ := hRt
    clear hK ih hsk hsrk hh hsh hsr hn hnk hg hR
    generalize posN p k = I at *
    have hIi : (I : Int) < (kids.length : Int) := by omega
    have hI0 : (0 : Int) ≤ (I : Int) := by omega
    have hbn : b ≠ w.heap.size := by omega
    go_enter Try.func66, Try.ntmps66
    go_wp2_with fail
    refine (HF _ (by go_grown)).mono ?_
    rintro e w1 ⟨rfl, hb1⟩
    obtain ⟨hc1, hf1⟩ := bcell hb1
    have hz1 := hb1.size
    try simp only [World.size_drew] at hz1
    try simp only [World.size_setCell] at hz1
    try simp only [World.size_alloc] at hz1
    have hz1_0 : w.heap.size < w1.heap.size := by omega
    clear hz1
    have k1 : Below w.heap.size w w1 := by
      refine Below.trans ?_ (hb1.mono ?_)
      · go_grown
      · go_size
    have hl1 : w.heap.size ≤ w1.heap.size := k1.size
    clear hb1
    go_wp2_with fail
    refine (HL _).mono ?_
    rintro e w2 ⟨rfl, hb2⟩
    obtain ⟨hc2, hf2⟩ := bcell hb2
    have hz2 := hb2.size
    try simp only [World.size_drew] at hz2
    try simp only [World.size_setCell] at hz2
    try simp only [World.size_alloc] at hz2
    have hz2_0 : w.heap.size < w2.heap.size := by omega
    try have hy2_1 : w1.heap.size < w2.heap.size := (by omega)
    clear hz2
    have k2 : Below w.heap.size w w2 := by
      refine Below.trans ?_ (hb2.mono ?_)
      · go_grown
      · go_size
    have hl2 : w.heap.size ≤ w2.heap.size := k2.size
    clear hb2
    have hbA : b < w1.heap.size := by omega
    have hbB : b < w2.heap.size := by omega
    go_wp2_with fail
    refine (HI _ k2).mono ?_
    rintro e w3 ⟨rfl, hb3⟩
    obtain ⟨hc3, hf3⟩ := bcell hb3
    have hz3 := hb3.size
    try simp only [World.size_drew] at hz3
    try simp only [World.size_setCell] at hz3
    try simp only [World.size_alloc] at hz3
    have hz3_0 : w.heap.size < w3.heap.size := by omega
    try have hy3_1 : w1.heap.size < w3.heap.size := (by omega)
    try have hy3_2 : w2.heap.size < w3.heap.size := (by omega)
    clear hz3
    have k3 : Below w.heap.size w w3 := by
      refine Below.trans ?_ (hb3.mono ?_)
      · go_grown
      · go_size
    have hl3 : w.heap.size ≤ w3.heap.size := k3.size
    clear hb3
    go_wp2
    go_returns
    exact ⟨rfl, by go_grown⟩
theorem rise_gd : ∀ {L : List Pr} {a : ByteArray}, Rise a L → ∀ q ∈ L, goodP q
  | [], _, _, q, hq => by simp at hq
  | x :: L, a, h, q, hq => by
    rcases List.mem_cons.1 hq with e | e
    · subst e; exact h.1
    · exact rise_gd h.2.2 q e
theorem get_in {t : Nd} {key : ByteArray} {r : Option ByteArray} (h : GetIs t key r) : Shape t → ∀ s, r = some s → ∃ q ∈ allN t, q.2 = s := by
  induction h with
  | here p kids k hh =>
    intro hsh s hs
    cases hs
    have hpl : posN p k < p.length := by
      have := hh; unfold hasN at this; exact (of_decide_eq_true this).1
    refine ⟨p.getD (posN p k) default, ?_, rfl⟩
    rw [allN]
    exact (inter_own kids p).subset (by simp [List.getD, hpl])
  | leaf p k hh => intro hsh s hs; cases hs
  | down p kids k r hh hpk hg ih =>
    intro hsh s hs
    obtain ⟨q, hq, he⟩ := ih (shape_kid hsh hpk) s hs
    refine ⟨q, ?_, he⟩
    rw [allN]
    refine (inter_kid kids p ?_ _ (by simp [List.getD, hpk])).subset hq
    cases hsh with
    | mk _ _ _ hk _ =>
      rcases hk with rfl | hk
      · simp at hpk
      · exact hk
set_option maxHeartbeats 1600000 in
theorem implGkYes {pages : List Pg} {t : Nd} (hh : Hand pages) (ht : TreeIs pages t) (key : ByteArray) (r : Option ByteArray) (hg : GetIs t key r) (w : World) (x : Value) (hx : PgsAt w x pages) :
    Calls Try.prog 20 #[.agg #[x], .string key] w fun e w' => e = .returned (retG r) ∧ Below w.heap.size w w' := by
  have HO := fun o => wholeYes hh ht (w.alloc o) x (hx.below (al1 w o))
  have HG := hid (fun kv vv cv W => implGet hg kv vv cv W ht.shape (srt_of_rise ht.2.2.2.1).1)
  obtain ⟨V, B, hV, hVs⟩ : ∃ (V : ByteArray) (B : Bool), retG r = .tuple #[.string V, .bool B] ∧ V.size ≤ 12 := by
    cases r with
    | none => exact ⟨_, _, rfl, by decide⟩
    | some s =>
      obtain ⟨q, hq, he⟩ := get_in hg ht.shape s rfl
      refine ⟨_, _, rfl, ?_⟩
      rw [← he]
      exact (rise_gd ht.2.2.2.1 q hq).2.2
  have HC := fun W => implClone V W hVs
  obtain ⟨a, c, rfl⟩ := hx.slice
  rw [hV] at HG ⊢
  clear hx ht hh hg hV hVs
  go_enter Try.func20, Try.ntmps20
  go_wp2_with fail
  refine (HO _).mono ?_
  rintro e w1 ⟨a1, k1, a2, k2, a3, k3, rfl, hn, hb⟩
  have kb := belA hb
  have HN := hid hn
  have HDD := HG.out _ _ _ (w1.alloc (.cells #[.slice a1 t.prs.length k1, .slice a2 t.prs.length k2, .slice a3 t.kids.length k3] 92)) (HN.out.below (al1 _ _))
  clear hb hn HO
  go_wp2_with fail
  refine HDD.mono ?_
  rintro e w2 ⟨rfl, hb2⟩
  have kb2 : Below w.heap.size w w2 := kb.trans ((belA hb2).mono kb.size)
  clear hb2 HDD HG
  go_wp2_with fail
  refine (HC _).mono ?_
  rintro e w3 ⟨rfl, hb3⟩
  have kb3 : Below w.heap.size w w3 := kb2.trans (hb3.mono kb2.size)
  clear hb3 HC
  go_wp2_with fail
  go_returns
  exact ⟨rfl, kb3⟩
set_option maxHeartbeats 1600000 in
theorem implGkNo {pages : List Pg} (hh : Hand pages) (ht : ∀ t, ¬ TreeIs pages t) (key : ByteArray) (w : World) (x : Value) (hx : PgsAt w x pages) :
    Calls Try.prog 20 #[.agg #[x], .string key] w fun e w' => e = .returned (retG none) ∧ Below w.heap.size w w' := by
  have HO := fun o => wholeNo hh ht (w.alloc o) x (hx.below (al1 w o))
  obtain ⟨a, c, rfl⟩ := hx.slice
  clear hx ht hh
  unfold retG
  go_enter Try.func20, Try.ntmps20
  go_wp2_with fail
  refine (HO _).mono ?_
  rintro e w1 ⟨rfl, hb⟩
  have kb := belA hb
  clear hb HO
  go_wp2_with fail
  go_returns
  exact ⟨rfl, kb.alloc kb.size _⟩
end Go.Proofs.Ytmmccjdkafojgaa
