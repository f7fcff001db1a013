/- The model's tree in memory: a kid more, a field stored. -/
import Derived.Test.YtgjcegmjhkehnaaDoorSpecEven
namespace Go.Proofs.YtgjcegmjhkehnaaDoor
open Go.ChangeShapes Go.WideShapes Go.ChangeAt Go.RowKit Go.Deep
set_option linter.unusedVariables false

theorem readL_le {rd : Nat → Option (Nd × Nat)} {m : Nat} (hr : ∀ a t b, rd a = some (t, b) → a < b ∧ b ≤ m) : ∀ {c : List Int} {nx : Nat} {l : List Nd} {e : Nat}, readL rd c nx = some (l, e) → nx ≤ e ∧ (nx ≤ m → e ≤ m)
  | [], nx, l, e, h => by simp [readL] at h; omega
  | k :: ks, nx, l, e, h => by
    unfold readL at h
    split at h
    · split at h
      · simp at h
      · rename_i t e1 h1
        split at h
        · simp at h
        · rename_i l2 e2 hh
          simp at h
          have h2 := readL_le hr hh
          have h3 := hr _ _ _ h1
          omega
    · simp at h
theorem readM_le {pages : List Pg} : ∀ {f a : Nat} {t : Nd} {e : Nat}, readM pages f a = some (t, e) → a < e ∧ e ≤ pages.length
  | 0, a, t, e, h => by simp [readM] at h
  | f + 1, a, t, e, h => by
    obtain ⟨g, l, hg, h1, h2, h3, rfl⟩ := readM_some h
    have : g = f := by omega
    subst this
    have := readL_le (m := pages.length) (fun a t b h => readM_le h) h3
    omega
theorem obl_nodup (v : Value) : (obl v).Nodup := by
  unfold obl
  split <;> simp
theorem nodup3 {k v : Value} {n1 n2 : Nat} (h1 : ∀ g ∈ obl k, g < n1) (h2 : ∀ g ∈ obl v, n1 ≤ g ∧ g < n2) (h3 : n1 ≤ n2) : (n2 :: (obl k ++ obl v)).Nodup := by
  rw [List.nodup_cons, List.nodup_append]
  refine ⟨?_, obl_nodup k, obl_nodup v, ?_⟩
  · intro h
    rcases List.mem_append.1 h with h | h
    · have := h1 _ h; omega
    · have := h2 _ h; omega
  · intro a ha b hb e
    subst e
    have := h1 _ ha
    have := h2 _ hb
    omega
theorem setCell_same {w : World} {g : Nat} {cs : Array Value} {t : TypeId} {fz : Nat × Nat} (h : w.heap[g]? = some (.cells cs t fz)) (o : Nat) (v : Value) : (w.setCell ⟨g, o, none⟩ v).heap[g]? = some (.cells (cs.setIfInBounds o v) t fz) := by
  unfold World.setCell
  simp only [Array.getElem?_modify, h]
  simp
theorem setCell_other (w : World) (g k o : Nat) (v : Value) (hne : k ≠ g) : (w.setCell ⟨g, o, none⟩ v).heap[k]? = w.heap[k]? := Below.heap_setCell w ⟨g, o, none⟩ v k hne
/-- A kid more at the end. -/
theorem own_snoc {w3 w4 : World} {base N g : Nat} {p : List Pr} {l : List Nd} {t' : Nd} {kv vv cv cv' v' : Value} {ps : List Value} {Fc F' : List Nat} {o : Obj}
    (hb : base ≤ g) (hh : w3.heap[g]? = some (.cells #[kv, vv, cv] 178 (0, 0))) (h4 : OwnS w3 base 9 kv p.length (keysV p)) (h5 : OwnS w3 base 9 vv p.length (valsV p))
    (h7 : OwnTs w3 base l ps Fc) (hn : (g :: (obl kv ++ obl vv ++ obl cv ++ Fc)).Nodup) (h6 : OwnS w3 base 106 cv l.length ps)
    (ho : OwnS w4 base 106 cv' (l.length + 1) (ps ++ [v'])) (hoff : Off (obl cv) (w3.alloc o) w4) (hob : ∀ g ∈ obl cv', g ∈ obl cv ∨ w3.heap.size + 1 ≤ g)
    (hk : OwnT w3 base t' v' F') (hF : ∀ x ∈ g :: (obl kv ++ obl vv ++ obl cv ++ Fc), x < N) (hF' : ∀ x ∈ F', N ≤ x) (hnd' : F'.Nodup) :
    ∃ F2, OwnT (w4.setCell ⟨g, 2, none⟩ cv') base (.mk p (l ++ [t'])) (.pointer (some ⟨g, 0, none⟩)) F2 := by
  have hgl : g < w3.heap.size := by rw [Array.getElem?_eq_some_iff] at hh; exact hh.1
  have hst : ∀ k, k < w3.heap.size → k ∉ obl cv → k ≠ g → (w4.setCell ⟨g, 2, none⟩ cv').heap[k]? = w3.heap[k]? := by
    intro k hk hn hg
    rw [setCell_other _ _ _ _ _ hg, hoff.block k (by simp; omega) hn]
    exact ((Below.refl w3.heap.size w3).alloc (Nat.le_refl _) o).block k hk
  have hnc : g ∉ obl cv := fun h => by rw [List.nodup_cons] at hn; exact hn.1 (by simp [h])
  have hh4 : w4.heap[g]? = some (.cells #[kv, vv, cv] 178 (0, 0)) := by
    rw [hoff.block g (by simp; omega) hnc, ((Below.refl w3.heap.size w3).alloc (Nat.le_refl _) o).block g hgl, hh]
  have hh5 := setCell_same hh4 2 cv'
  have hmem : ∀ x, x ∈ g :: (obl kv ++ obl vv ++ obl cv ++ Fc) → x ∉ obl cv ∨ x ∈ obl cv := fun x _ => Classical.or_iff_not_imp_left.2 fun h => Classical.not_not.1 h
  rw [List.nodup_cons] at hn
  obtain ⟨hn1, hn2⟩ := hn
  have hn3 : ∀ x, (x ∈ obl kv ∨ x ∈ obl vv ∨ x ∈ Fc) → x ∉ obl cv ∧ x ≠ g := by
    intro x hx
    have hd := hn2
    simp only [List.nodup_append, List.mem_append] at hd
    refine ⟨fun hc => ?_, fun he => hn1 (by subst he; rcases hx with h | h | h <;> simp [h])⟩
    rcases hx with h | h | h
    · exact hd.1.2.2 x (.inl h) x hc rfl
    · exact hd.1.2.2 x (.inr h) x hc rfl
    · exact hd.2.2 x (.inr hc) x h rfl
  have hcv' : ∀ x ∈ obl cv', x ≠ g ∧ x ∉ obl kv ∧ x ∉ obl vv ∧ x ∉ Fc ∧ x ∉ F' := by
    intro x hx
    rcases hob x hx with h | h
    · refine ⟨fun e => hnc (e ▸ h), fun h2 => (hn3 x (.inl h2)).1 h, fun h2 => (hn3 x (.inr (.inl h2))).1 h, fun h2 => (hn3 x (.inr (.inr h2))).1 h, fun h2 => ?_⟩
      have := hF x (by simp [h])
      have := hF' x h2
      omega
    · refine ⟨by omega, fun h2 => ?_, fun h2 => ?_, fun h2 => ?_, fun h2 => ?_⟩
      · have := (own_lt h4 x h2).2; omega
      · have := (own_lt h5 x h2).2; omega
      · have := (h7.lt x h2).2; omega
      · have := (hk.lt x h2).2; omega
  refine ⟨_, g, kv, vv, cv', ps ++ [v'], Fc ++ F', rfl, hb, by simpa using hh5, ?_, ?_, ?_, ?_, rfl, ?_⟩
  · exact own_keep h4 fun x hx => hst x (own_lt h4 x hx).2 (hn3 x (.inl hx)).1 (hn3 x (.inl hx)).2
  · exact own_keep h5 fun x hx => hst x (own_lt h5 x hx).2 (hn3 x (.inr (.inl hx))).1 (hn3 x (.inr (.inl hx))).2
  · rw [List.length_append]
    exact own_keep ho fun x hx => setCell_other _ _ _ _ _ (hcv' x hx).1
  · refine OwnTs.append (h7.keep fun x hx => hst x (h7.lt x hx).2 (hn3 x (.inr (.inr hx))).1 (hn3 x (.inr (.inr hx))).2) ⟨v', [], F', [], rfl, by simp, hk.keep fun x hx => ?_, rfl, rfl⟩
    have h1 := hF' x hx
    have h2 := hF g (by simp)
    exact hst x (hk.lt x hx).2 (fun h => by have := hF x (by simp [h]); omega) (by omega)
  · rw [List.nodup_cons]
    have hd := hn2
    simp only [List.nodup_append, List.mem_append] at hd
    refine ⟨fun h => ?_, ?_⟩
    · simp only [List.mem_append] at h
      rcases h with ((h | h) | h) | (h | h)
      · exact (hn3 g (.inl h)).2 rfl
      · exact (hn3 g (.inr (.inl h))).2 rfl
      · exact (hcv' g h).1 rfl
      · exact (hn3 g (.inr (.inr h))).2 rfl
      · have := hF' g h
        have := hF g (by simp)
        omega
    · simp only [List.nodup_append, List.mem_append]
      refine ⟨⟨hd.1.1, obl_nodup cv', fun x hx y hy e => ?_⟩, ⟨hd.2.1, hnd', fun x hx y hy e => ?_⟩, fun x hx y hy e => ?_⟩
      · subst e
        rcases hx with h | h
        · exact (hcv' x hy).2.1 h
        · exact (hcv' x hy).2.2.1 h
      · subst e
        have := hF x (by simp [hx])
        have := hF' x hy
        omega
      · subst e
        rcases hx with hx | hx
        · rcases hy with hy | hy
          · exact hd.2.2 x (.inl hx) x hy rfl
          · have h1 := hF x (by rcases hx with h | h <;> simp [h])
            have := hF' x hy
            omega
        · rcases hy with hy | hy
          · exact (hcv' x hx).2.2.2.1 hy
          · exact (hcv' x hx).2.2.2.2 hy
theorem OwnT.nodup {w : World} {base : Nat} {t : Nd} {v : Value} {F : List Nat} (h : OwnT w base t v F) : F.Nodup := by
  cases t with
  | mk p kids =>
    obtain ⟨b, kv, vv, cv, ps, Fc, h1, h2, h3, h4, h5, h6, h7, h8, h9⟩ := h
    exact h9
end Go.Proofs.YtgjcegmjhkehnaaDoor
