/- Contracts of the model's GoodTree, GetKey, KeysIn, DepthOf. Condition: the pages lie in memory. -/
import Derived.Test.YtmmccjdkafojgaaSpecOf
namespace Go.Proofs.Ytmmccjdkafojgaa
open Go.ChangeShapes Go.WideShapes Go.ChangeAt Go.RowKit Go.Deep
set_option linter.unusedVariables false
attribute [local go_sem ↓] Go.wp_at_zero Go.wp_at_succ

/-- Pages that the laws hand over. -/
def Hand (pages : List Pg) : Prop := Small pages ∧ Texts pages
theorem specOfYes {pages : List Pg} {t : Nd} (hh : Hand pages) (h : TreeIs pages t) (w : World) (x : Value) (hx : PgsAt w x pages) :
    Calls Try.prog 71 #[.agg #[x]] w fun e w' => ∃ b F, e = .returned (.tuple #[.pointer (some ⟨b, 0, none⟩), .bool true]) ∧ OwnT w' w.heap.size t (.pointer (some ⟨b, 0, none⟩)) F ∧ Below w.heap.size w w' := by
  refine (specOf pages hh.1 hh.2 w x hx).mono ?_
  rintro e w' ⟨⟨t', v, F, ht, rfl, hot⟩ | ⟨hno, _⟩, hb⟩
  · have := ht.one h
    subst this
    cases t' with
    | mk p k =>
      have hot' := hot
      obtain ⟨b, _, _, _, _, _, he, _⟩ := hot'
      subst he
      exact ⟨b, F, rfl, hot, hb⟩
  · exact absurd h (hno t)
theorem specOfNo {pages : List Pg} (hh : Hand pages) (h : ∀ t, ¬ TreeIs pages t) (w : World) (x : Value) (hx : PgsAt w x pages) :
    Calls Try.prog 71 #[.agg #[x]] w fun e w' => e = .returned (.tuple #[.pointer none, .bool false]) ∧ Below w.heap.size w w' := by
  refine (specOf pages hh.1 hh.2 w x hx).mono ?_
  rintro e w' ⟨⟨t', v, F, ht, rfl, hot⟩ | ⟨hno, rfl⟩, hb⟩
  · exact absurd ht (h t')
  · exact ⟨rfl, hb⟩
theorem al1 (w : World) (o : Obj) : Below w.heap.size w (w.alloc o) := (Below.refl _ _).alloc (Nat.le_refl _) o
theorem belA {w w1 : World} {o : Obj} (h : Below (w.alloc o).heap.size (w.alloc o) w1) : Below w.heap.size w w1 := (al1 w o).trans (h.mono (by simp))
theorem TreeIs.shape {pages : List Pg} {t : Nd} (h : TreeIs pages t) : Shape t := readM_shape h.1

theorem specGoodYes {pages : List Pg} {t : Nd} (hh : Hand pages) (h : TreeIs pages t) (w : World) (x : Value) (hx : PgsAt w x pages) :
    Calls Try.prog 19 #[.agg #[x]] w fun e w' => e = .returned (.bool true) ∧ Below w.heap.size w w' := by
  have HO := fun o => specOfYes hh h (w.alloc o) x (hx.below (al1 w o))
  obtain ⟨a, c, rfl⟩ := hx.slice
  clear hx h hh
  go_enter Try.func19, Try.ntmps19
  go_wp2_with fail
  refine (HO _).mono ?_
  rintro e w1 ⟨b, F, rfl, hot, hb⟩
  have kb := belA hb
  clear hb hot HO
  go_wp2_with fail
  go_ret
  exact ⟨rfl, kb⟩
theorem specGoodNo {pages : List Pg} (hh : Hand pages) (h : ∀ t, ¬ TreeIs pages t) (w : World) (x : Value) (hx : PgsAt w x pages) :
    Calls Try.prog 19 #[.agg #[x]] w fun e w' => e = .returned (.bool false) ∧ Below w.heap.size w w' := by
  have HO := fun o => specOfNo hh h (w.alloc o) x (hx.below (al1 w o))
  obtain ⟨a, c, rfl⟩ := hx.slice
  clear hx h hh
  go_enter Try.func19, Try.ntmps19
  go_wp2_with fail
  refine (HO _).mono ?_
  rintro e w1 ⟨rfl, hb⟩
  have kb := belA hb
  clear hb HO
  go_wp2_with fail
  go_ret
  exact ⟨rfl, kb⟩
theorem specGetYes {pages : List Pg} {t : Nd} (hh : Hand pages) (h : TreeIs pages t) (key : ByteArray) (r : Option ByteArray) (hg : GetIs t key r) (w : World) (x : Value) (hx : PgsAt w x pages) :
    Calls Try.prog 26 #[.agg #[x], .string key] w fun e w' => e = .returned (retG r) ∧ Below w.heap.size w w' := by
  have HO := fun o => specOfYes hh h (w.alloc o) x (hx.below (al1 w o))
  have HS := hid h.shape
  obtain ⟨a, c, rfl⟩ := hx.slice
  obtain ⟨R, hR⟩ : ∃ R, R = retG r := ⟨_, rfl⟩
  have hRt : ∃ x y, R = .tuple #[x, y] := by rw [hR]; cases r <;> exact ⟨_, _, rfl⟩
  have HG := hid hg
  rw [← hR]
  have HR := hid hR
  obtain ⟨y, z, rfl⟩ := hRt
  clear hx h hh hg hR
  go_enter Try.func26, Try.ntmps26
  go_wp2_with fail
  refine (HO _).mono ?_
  rintro e w1 ⟨b, F, rfl, hot, hb⟩
  have kb := belA hb
  have kl := kb.size
  have HI := specGet HG.out w1 _ _ F hot HS.out
  rw [← HR.out] at HI
  clear hb HO hot
  go_wp2_with (first | (go_at_call 83; refine HI.mono ?_; rintro e w2 ⟨rfl, hb2⟩) | fail)
  go_returns
  exact ⟨rfl, kb.trans (hb2.mono kl)⟩
theorem specGetNo {pages : List Pg} (hh : Hand pages) (h : ∀ t, ¬ TreeIs pages t) (key : ByteArray) (w : World) (x : Value) (hx : PgsAt w x pages) :
    Calls Try.prog 26 #[.agg #[x], .string key] w fun e w' => e = .returned (retG none) ∧ Below w.heap.size w w' := by
  have HO := fun o => specOfNo hh h (w.alloc o) x (hx.below (al1 w o))
  obtain ⟨a, c, rfl⟩ := hx.slice
  unfold retG
  clear hx h hh
  go_enter Try.func26, Try.ntmps26
  go_wp2_with fail
  refine (HO _).mono ?_
  rintro e w1 ⟨rfl, hb⟩
  have kb := belA hb
  clear hb HO
  go_wp2_with fail
  go_returns
  exact ⟨rfl, kb⟩
theorem specDepthYes {pages : List Pg} {t : Nd} (hh : Hand pages) (h : TreeIs pages t) (d : Nat) (hd : Even d t) (w : World) (x : Value) (hx : PgsAt w x pages) :
    Calls Try.prog 31 #[.agg #[x]] w fun e w' => e = .returned (.tuple #[.int .i64 d, .bool true]) ∧ Below w.heap.size w w' := by
  have HO := fun o => specOfYes hh h (w.alloc o) x (hx.below (al1 w o))
  have HS := hid h.shape
  have HF := hid (readM_fit h.1)
  have HD := hid hd
  obtain ⟨a, c, rfl⟩ := hx.slice
  clear hx h hh hd
  go_enter Try.func31, Try.ntmps31
  go_wp2_with fail
  refine (HO _).mono ?_
  rintro e w1 ⟨b, F, rfl, hot, hb⟩
  have kb := belA hb
  have kl := kb.size
  have HI := specEven _ t 10 HS.out HF.out (by omega) w1 _ F hot
  clear hb HO hot
  go_wp2_with fail
  refine HI.mono ?_
  rintro e w2 ⟨d', hd', rfl, hb2⟩
  have : d' = d := by
    rcases hd'.ge with ⟨_, h2⟩ | ⟨m, rfl, _, _, h2⟩
    · exact absurd HD.out (h2 d)
    · rw [h2.one HD.out]
  subst this
  clear hd' HI
  go_wp2_with fail
  go_returns
  exact ⟨rfl, kb.trans (hb2.mono kl)⟩
theorem specDepthNo {pages : List Pg} (hh : Hand pages) (h : ∀ t, ¬ TreeIs pages t) (w : World) (x : Value) (hx : PgsAt w x pages) :
    Calls Try.prog 31 #[.agg #[x]] w fun e w' => e = .returned (.tuple #[.int .i64 0, .bool false]) ∧ Below w.heap.size w w' := by
  have HO := fun o => specOfNo hh h (w.alloc o) x (hx.below (al1 w o))
  obtain ⟨a, c, rfl⟩ := hx.slice
  clear hx h hh
  go_enter Try.func31, Try.ntmps31
  go_wp2_with fail
  refine (HO _).mono ?_
  rintro e w1 ⟨rfl, hb⟩
  have kb := belA hb
  clear hb HO
  go_wp2_with fail
  go_returns
  exact ⟨rfl, kb⟩
theorem specKeysYes {pages : List Pg} {t : Nd} (hh : Hand pages) (h : TreeIs pages t) (w : World) (x : Value) (hx : PgsAt w x pages) :
    Calls Try.prog 29 #[.agg #[x]] w fun e w' => ∃ kv, e = .returned (.tuple #[kv, .bool true]) ∧ OwnS w' w.heap.size 9 kv (allN t).length (keysV (allN t)) ∧ Below w.heap.size w w' := by
  have HO := fun o => specOfYes hh h (w.alloc o) x (hx.below (al1 w o))
  have HS := hid h.shape
  have H40 := hid h.2.2.2.2
  obtain ⟨a, c, rfl⟩ := hx.slice
  clear hx h hh
  go_enter Try.func29, Try.ntmps29
  go_wp2_with fail
  refine (HO _).mono ?_
  rintro e w1 ⟨b, F, rfl, hot, hb⟩
  have kb := belA hb
  have kl := kb.size
  have h40 := H40.out
  have HI := specAll _ w1.heap.size t HS.out w1 _ (.slice none 0 0) (.slice none 0 0) F [] hot (fun g hg => (hot.lt g hg).2) (Nat.le_refl _) (Acc.nil _ _) (by simp only [List.length_nil]; omega)
  clear hb HO hot
  go_wp2_with fail
  refine HI.mono ?_
  rintro e w2 ⟨kv, vv, rfl, hacc, hb2⟩
  simp only [List.nil_append] at hacc
  have HA := hid hacc
  clear hacc HI
  go_wp2_with fail
  go_returns
  exact ⟨kv, rfl, own_mono HA.out.1 kl, kb.trans (hb2.mono kl)⟩
theorem specKeysNo {pages : List Pg} (hh : Hand pages) (h : ∀ t, ¬ TreeIs pages t) (w : World) (x : Value) (hx : PgsAt w x pages) :
    Calls Try.prog 29 #[.agg #[x]] w fun e w' => e = .returned (.tuple #[.slice none 0 0, .bool false]) ∧ Below w.heap.size w w' := by
  have HO := fun o => specOfNo hh h (w.alloc o) x (hx.below (al1 w o))
  obtain ⟨a, c, rfl⟩ := hx.slice
  clear hx h hh
  go_enter Try.func29, Try.ntmps29
  go_wp2_with fail
  refine (HO _).mono ?_
  rintro e w1 ⟨rfl, hb⟩
  have kb := belA hb
  clear hb HO
  go_wp2_with fail
  go_returns
  exact ⟨rfl, kb⟩
end Go.Proofs.Ytmmccjdkafojgaa
