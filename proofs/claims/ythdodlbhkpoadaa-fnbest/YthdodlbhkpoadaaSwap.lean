/- A region whose last operation waits for all others: the others are walked without it, and it is met at the end. -/
import Derived.Test.YthdodlbhkpoadaaMix
import Derived.Deep.RegionHeld3
namespace Go.Proofs.Ythdodlbhkpoadaa
open Go
set_option linter.unusedVariables false

section
variable {P : Program} {ops ops1 : Array Oper} {Q : Exit → Act → World → Prop} {md : Region.Mode} {S : World → Prop}

/-- What is to be shown where the walk without the last operation ends: that operation, and Q behind it. -/
def LastQ (P : Program) (o : Oper) (Q : Exit → Act → World → Prop) : Exit → Act → World → Prop
  | .normal, a, w => o.wp P a w (fun a' w' => Q .normal a' w') Q
  | e, a, w => Q e a w

/-- Each operation ahead of the last has a later one that waits for it. -/
def waitsAll (md : Region.Mode) (ops : Array Oper) (m : Nat) : Bool :=
  (List.range m).all fun j => (List.range (m + 1)).any fun k => decide (j < k) && ((ops[k]?).map (·.after.any fun e => Region.binds md e && e.on == j)).getD false
/-- No operation waits for a later one. -/
def backward (ops : Array Oper) : Bool := (List.range ops.size).all fun i => ((ops[i]?).map (·.after.all fun e => decide (e.on < i))).getD true

def InvL (md : Region.Mode) (ops : Array Oper) (listed : Array Bool) : Prop :=
  ∀ k o, ops[k]? = some o → listed.getD k false = true → ∀ e ∈ o.after, Region.binds md e = true → listed.getD e.on false = true

theorem invL_start : InvL md ops (Array.replicate ops.size false) := fun k o ho hk => by
  have hlt : k < ops.size := (Array.getElem?_eq_some_iff.1 ho).1
  simp [hlt] at hk
theorem invL_step {listed : Array Bool} {i : Nat} (h : InvL md ops listed) (hi : i ∈ Region.ready md ops listed) : InvL md ops (listed.setIfInBounds i true) := fun k o ho hk e he hb => by
  by_cases hki : i = k
  · subst hki
    obtain ⟨_, o', ho', hall⟩ := mem_ready.1 hi
    rw [ho] at ho'
    cases ho'
    exact getD_set_true (hall e he hb)
  · rw [getD_set_ne false hki] at hk
    exact getD_set_true (h k o ho hk e he hb)
theorem all_listed {listed : Array Bool} {m : Nat} (h : InvL md ops listed) (hw : waitsAll md ops m = true) (hm : m ∈ Region.ready md ops listed) : ∀ n j, j < m → m - j ≤ n → listed.getD j false = true := by
  intro n
  induction n with
  | zero => intro j h1 h2; omega
  | succ n ih =>
    intro j hj hn
    unfold waitsAll at hw
    rw [List.all_eq_true] at hw
    have h1 := hw j (List.mem_range.2 hj)
    rw [List.any_eq_true] at h1
    obtain ⟨k, hk, h2⟩ := h1
    rw [Bool.and_eq_true, decide_eq_true_eq] at h2
    obtain ⟨hjk, h2⟩ := h2
    have hkm := List.mem_range.1 hk
    cases ho : ops[k]? with
    | none => simp [ho] at h2
    | some o =>
      simp only [ho, Option.map_some, Option.getD_some] at h2
      rw [Array.any_eq_true'] at h2
      obtain ⟨e, he, h3⟩ := h2
      rw [Bool.and_eq_true, beq_iff_eq] at h3
      obtain ⟨hb, rfl⟩ := h3
      by_cases hkm2 : k = m
      · subst hkm2
        obtain ⟨_, o', ho', hall⟩ := mem_ready.1 hm
        rw [ho] at ho'
        cases ho'
        exact hall e he hb
      · exact h k o ho (ih k (by omega) (by omega)) e he hb

/-- Some operation may come up while one has not. -/
theorem ready_some {listed : Array Bool} (hbk : backward ops = true) (hs : listed.size = ops.size) : ∀ i, i < ops.size → listed.getD i false = false → Region.ready md ops listed ≠ [] := by
  intro i
  induction i using Nat.strongRecOn with
  | ind i ih =>
    intro hi hl hr
    by_cases hex : ∃ k, k < i ∧ listed.getD k false = false
    · obtain ⟨k, hk, hkl⟩ := hex
      exact ih k hk (by omega) hkl hr
    · have : i ∈ Region.ready md ops listed := by
        rw [mem_ready]
        refine ⟨?_, ops[i], by simp [hi], fun e he hb => ?_⟩
        · simp [hs, hi] at hl ⊢; exact hl
        · unfold backward at hbk
          rw [List.all_eq_true] at hbk
          have h1 := hbk i (List.mem_range.2 hi)
          simp only [hi, Array.getElem?_eq_getElem, Option.map_some, Option.getD_some] at h1
          rw [Array.all_eq_true_iff_forall_mem] at h1
          have h2 := of_decide_eq_true (h1 e he)
          cases hc : listed.getD e.on false with
          | true => rfl
          | false => exact absurd ⟨e.on, h2, hc⟩ hex
      rw [hr] at this
      cases this

/-- How many have not come up. -/
def unl (listed : Array Bool) : Nat → Nat
  | 0 => 0
  | n + 1 => unl listed n + (if listed.getD n true = true then 0 else 1)
theorem unl_ge (listed : Array Bool) (i : Nat) : ∀ n, n ≤ i → unl (listed.setIfInBounds i true) n = unl listed n
  | 0, _ => rfl
  | n + 1, h => by
    rw [unl, unl, unl_ge listed i n (by omega), getD_set_ne true (by omega)]
theorem unl_set (listed : Array Bool) (i : Nat) (hi : listed.getD i true = false) : ∀ n, i < n → unl (listed.setIfInBounds i true) n + 1 = unl listed n
  | 0, h => by omega
  | n + 1, h => by
    rw [unl, unl]
    by_cases e : i = n
    · subst e
      rw [unl_ge listed i i (Nat.le_refl _), hi]
      have hlt : i < listed.size := by
        rcases Nat.lt_or_ge i listed.size with h' | h'
        · exact h'
        · simp [Array.getElem?_eq_none h'] at hi
      simp [hlt]
    · rw [getD_set_ne true e, ← unl_set listed i hi n (by omega)]
      omega
theorem unl_zero (listed : Array Bool) : ∀ n, unl listed n = 0 → ∀ i, i < n → listed.getD i true = true
  | 0, _, i, h => by omega
  | n + 1, h0, i, h => by
    rw [unl] at h0
    by_cases e : i = n
    · subst e
      by_cases h1 : listed.getD i true = true
      · exact h1
      · rw [if_neg h1] at h0; omega
    · exact unl_zero listed n (by omega) i (by omega)
theorem unl_start : ∀ n k, k ≤ n → unl (Array.replicate n false) k = k
  | n, 0, _ => rfl
  | n, k + 1, h => by
    rw [unl, unl_start n k (by omega)]
    have : k < n := by omega
    simp [this]

theorem wpOp_last {o : Oper} {i : Nat} {K : Act → World → Prop} {a : Act} {w : World} (h : wpOp P ops (LastQ P o Q) i K a w) : wpOp P ops Q i K a w := by
  unfold wpOp at *
  cases ho : ops[i]? with
  | none => simpa only [ho] using h
  | some oi =>
    simp only [ho] at h ⊢
    split
    · rename_i hw
      rw [if_pos hw] at h
      rcases h with h | ⟨h1, h2⟩
      · refine .inl ?_
        unfold Oper.wp at *
        generalize (execOp a.eval oi).run P w = r at *
        cases r with
        | ok n w' =>
          cases n <;> simp only [Oper.upon] at h ⊢ <;> first | exact h | (refine Calls.mono h fun e w'' he => ?_; cases e <;> exact he)
        | halt x w' => cases x <;> simp only [Oper.upon] at h ⊢ <;> exact h
      · exact .inr ⟨h1, h2⟩
    · rename_i hw
      rw [if_neg hw] at h
      exact h

/-- ops1 is ops, but for what its last operation does. -/
structure Swapped (ops ops1 : Array Oper) (m : Nat) (o o1 : Oper) : Prop where
  size : ops.size = m + 1
  size1 : ops1.size = m + 1
  same : ∀ i, i ≠ m → ops1[i]? = ops[i]?
  at0 : ops[m]? = some o
  at1 : ops1[m]? = some o1
  dst : o.dst = none
  dst1 : o1.dst = none
  after : o1.after = o.after
  guard : o.guard = none
  guard1 : o1.guard = none

theorem Swapped.ready {m : Nat} {o o1 : Oper} (h : Swapped ops ops1 m o o1) (listed : Array Bool) : Region.ready md ops1 listed = Region.ready md ops listed := by
  unfold Region.ready
  rw [h.size, h.size1]
  refine List.filter_congr fun i _ => ?_
  by_cases e : i = m
  · subst e; simp only [h.at0, h.at1, Option.map_some, h.after]
  · rw [h.same i e]
theorem Swapped.yielded {m : Nat} {o o1 : Oper} (h : Swapped ops ops1 m o o1) (tmps : Array Value) : Go.yielded ops1 tmps = Go.yielded ops tmps := by
  funext j
  unfold Go.yielded
  by_cases e : j = m
  · subst e; simp only [h.at0, h.at1, Option.bind_some, h.dst, h.dst1]
  · rw [h.same j e]
theorem Swapped.wpOp {m : Nat} {o o1 : Oper} (h : Swapped ops ops1 m o o1) {Q' : Exit → Act → World → Prop} {i : Nat} (hi : i ≠ m) {K : Act → World → Prop} {a : Act} {w : World} (hw : Go.wpOp P ops1 Q' i K a w) : Go.wpOp P ops Q' i K a w := by
  unfold Go.wpOp at *
  rw [h.same i hi, h.yielded] at hw
  exact hw
theorem Swapped.last {m : Nat} {o o1 : Oper} (h : Swapped ops ops1 m o o1) {x : Operand} (ho1 : o1.op = .move x) {Q' : Exit → Act → World → Prop} {K : Act → World → Prop} {a : Act} {w : World} (hw : Go.wpOp P ops1 Q' m K a w) : K a w := by
  unfold Go.wpOp at hw
  simp only [h.at1, Region.wanted, h.guard1, if_true] at hw
  rcases hw with hw | ⟨hw, _⟩
  · unfold Oper.wp at hw
    have hr : (execOp a.eval o1).run P w = .ok (.value (a.eval x)) w := by
      unfold execOp
      rw [ho1]
      rfl
    rw [hr] at hw
    simp only [Oper.upon, Act.put, h.dst1] at hw
    exact hw
  · unfold Oper.asks at hw
    have hr : ((execOp a.eval o1).runT P w #[]).2 = #[] := by
      unfold execOp
      rw [ho1]
      rfl
    rw [hr] at hw
    simp at hw

theorem wpAny_swap {m : Nat} {o o1 : Oper} (h : Swapped ops ops1 m o o1) {x : Operand} (ho1 : o1.op = .move x) (hw : waitsAll md ops m = true) (hbk : backward ops = true) :
    ∀ (fuel : Nat) (listed : Array Bool) (a : Act) (w : World), listed.size = ops.size → InvL md ops listed → unl listed (m + 1) = fuel → listed.getD m true = false → wpAnyH P md ops1 (LastQ P o Q) S fuel listed a w → wpAny P md ops Q fuel listed a w
  | 0, listed, a, w, _, _, hu, hm, _ => by
    rw [unl_zero listed _ hu m (by omega)] at hm
    cases hm
  | fuel + 1, listed, a, w, hs, hinv, hu, hm, hH => by
    refine ⟨fun hr => ?_, fun i hi => ?_⟩
    · refine absurd hr (ready_some hbk hs m (by rw [h.size]; omega) ?_)
      have : m < listed.size := by rw [hs, h.size]; omega
      simp [this] at hm ⊢; exact hm
    · have h1 := hH.2 i (by rw [h.ready]; exact hi)
      have hlt : i < ops.size := by
        obtain ⟨_, o', ho', _⟩ := mem_ready.1 hi
        exact (Array.getElem?_eq_some_iff.1 ho').1
      have hun := (mem_ready.1 hi).1
      by_cases e : i = m
      · subst e
        have h2 := h.last ho1 h1
        have hall := all_listed hinv hw hi i
        have hdone : Region.ready md ops (listed.setIfInBounds i true) = [] := by
          rw [List.eq_nil_iff_forall_not_mem]
          intro j hj
          obtain ⟨hj1, o', ho', _⟩ := mem_ready.1 hj
          have hjl : j < ops.size := (Array.getElem?_eq_some_iff.1 ho').1
          by_cases e2 : i = j
          · subst e2
            have hil : i < listed.size := by rw [hs]; exact hjl
            simp [hil] at hj1
          · rw [getD_set_ne true e2] at hj1
            have h3 := hall j (by rw [h.size] at hjl; omega) (by omega)
            have hjl2 : j < listed.size := by rw [hs]; exact hjl
            simp [hjl2] at hj1 h3
            rw [h3] at hj1
            cases hj1
        have h3 : LastQ P o Q .normal a w := by
          have h4 := h2.2
          cases fuel with
          | zero => exact h4.2
          | succ f => exact h4.1 (by rw [h.ready]; exact hdone)
        unfold Go.wpOp
        simp only [h.at0, Region.wanted, h.guard, if_true]
        refine .inl (Oper.wp_mono (fun a' w' hq => ?_) h3)
        cases fuel with
        | zero => exact ⟨hdone, hq⟩
        | succ f => exact ⟨fun _ => hq, by rw [hdone]; simp⟩
      · refine wpOp_mono (fun a' w' h3 => ?_) (wpOp_last (h.wpOp e h1))
        refine wpAny_swap h ho1 hw hbk fuel _ a' w' (by simpa using hs) (invL_step hinv hi) ?_ ?_ h3.2
        · have := unl_set listed i hun (m + 1) (by rw [h.size] at hlt; exact hlt)
          omega
        · rw [getD_set_ne true e]; exact hm

/-- **A region whose last operation waits for all others.** -/
theorem wp_region_swap {id : Nat} {m : Nat} {o o1 : Oper} {a : Act} {w : World} (hm : P.follows .mixedOrders = true) (h : Swapped ops ops1 m o o1) {x : Operand} (ho1 : o1.op = .move x) (hw : waitsAll .any ops m = true) (hbk : backward ops = true)
    (hH : wpAnyH P .any ops1 (LastQ P o Q) S ops1.size (Array.replicate ops1.size false) a { w with drawn := w.drawn + 1 }) : (Code.region id ops true).wp P Q a w := by
  refine wp_region_any hm ?_
  have hss : ops1.size = ops.size := by rw [h.size, h.size1]
  rw [hss] at hH
  refine wpAny_swap h ho1 hw hbk _ _ _ _ (by simp) invL_start ?_ ?_ hH
  · rw [← h.size]; exact unl_start _ _ (Nat.le_refl _)
  · have : m < ops.size := by rw [h.size]; omega
    simp [this]
end
/-- The same, for a region that is written out. -/
theorem wp_region_swapL {P : Program} {l : List Oper} {S : World → Prop} {Q : Exit → Act → World → Prop} {id m : Nat} {o : Oper} {a : Act} {w : World} (hm : P.follows .mixedOrders = true) (hl : l.length = m + 1) (ho : l[m]? = some o) (hd : o.dst = none) (hg : o.guard = none) (hw : waitsAll .any l.toArray m = true) (hbk : backward l.toArray = true)
    (hH : wpAnyH P .any (l.set m { o with op := .move (.const undef) }).toArray (LastQ P o Q) S (m + 1) (Array.replicate (m + 1) false) a { w with drawn := w.drawn + 1 }) : (Code.region id l.toArray true).wp P Q a w := by
  refine wp_region_swap (ops1 := (l.set m { o with op := .move (.const undef) }).toArray) (m := m) (o := o) (o1 := { o with op := .move (.const undef) }) (S := S) hm ⟨by simpa using hl, by simpa using hl, fun i hi => ?_, by simpa using ho, ?_, hd, hd, rfl, hg, hg⟩ rfl hw hbk ?_
  · simp [List.getElem?_set_ne (Ne.symm hi)]
  · simp [List.getElem?_set_self (show m < l.length by omega)]
  · simpa [hl] using hH
theorem takeL {P : Program} {l : List Oper} {Q : Exit → Act → World → Prop} {md : Region.Mode} {S : World → Prop} {i : Nat} {oi : Oper} {v : Value} {fuel : Nat} {listed : Array Bool} {a : Act} {w : World} (hi : l[i]? = some oi)
    (hs : Region.noSelect l.toArray = true) (hf : Region.free md l.toArray listed i = true) (hr : (Region.ready md l.toArray listed).contains i = true)
    (hQ : ∀ c a w, Q (.panic c) (a.put oi.dst v) w → Q (.panic c) a w) (hg : oi.guard = none) (hy : ∀ w, S w → (execOp a.eval oi).run P w = .ok (.value v) w) (hS : S w)
    (h : wpAnyH P md l.toArray Q S fuel (listed.setIfInBounds i true) (a.put oi.dst v) w) : wpAnyH P md l.toArray Q S (fuel + 1) listed a w :=
  wpAnyH_take (by simpa using hi) hs hf hr hQ (.inl ⟨by simp [Region.wanted, hg], hy⟩) hS h
theorem comesL {P : Program} {l : List Oper} {Q : Exit → Act → World → Prop} {md : Region.Mode} {S : World → Prop} {i : Nat} {o : Oper} {fuel : Nat} {listed : Array Bool} {a : Act} {w : World} (hi : l[i]? = some o) (hg : o.guard = none) (hr : Region.ready md l.toArray listed = [i])
    (h : ∀ K' : Act → World → Prop, Shut (∀ a w, S w → (S w → wpAnyH P md l.toArray Q S fuel (listed.setIfInBounds i true) a w) → K' a w) → Oper.wp P o a w K' Q) : wpAnyH P md l.toArray Q S (fuel + 1) listed a w :=
  wpAnyH_ready (rs := [i]) hr (by simp) (AllReadyH.cons (o := o) (by simpa using hi) (fun K hK => by
    rw [if_pos (by simp [Region.wanted, hg])]
    exact h K hK) AllReadyH.nil)
theorem wp_region_heldL {P : Program} {l : List Oper} {S : World → Prop} {Q : Exit → Act → World → Prop} {id n : Nat} {a : Act} {w : World} (hm : P.follows .mixedOrders = true) (hl : l.length = n)
    (hH : wpAnyH P .any l.toArray Q S n (Array.replicate n false) a { w with drawn := w.drawn + 1 }) : (Code.region id l.toArray true).wp P Q a w := by
  subst hl
  exact wp_region_held hm (by simpa using hH)
theorem comes2L {P : Program} {l : List Oper} {Q : Exit → Act → World → Prop} {md : Region.Mode} {S : World → Prop} {i j : Nat} {o o' : Oper} {fuel : Nat} {listed : Array Bool} {a : Act} {w : World} (hi : l[i]? = some o) (hj : l[j]? = some o') (hg : o.guard = none) (hg' : o'.guard = none) (hr : Region.ready md l.toArray listed = [i, j])
    (h : ∀ K' : Act → World → Prop, Shut (∀ a w, S w → (S w → wpAnyH P md l.toArray Q S fuel (listed.setIfInBounds i true) a w) → K' a w) → Oper.wp P o a w K' Q)
    (h' : ∀ K' : Act → World → Prop, Shut (∀ a w, S w → (S w → wpAnyH P md l.toArray Q S fuel (listed.setIfInBounds j true) a w) → K' a w) → Oper.wp P o' a w K' Q) : wpAnyH P md l.toArray Q S (fuel + 1) listed a w :=
  wpAnyH_ready (rs := [i, j]) hr (by simp) (AllReadyH.cons (o := o) (by simpa using hi) (fun K hK => by
    rw [if_pos (by simp [Region.wanted, hg])]
    exact h K hK) (AllReadyH.cons (o := o') (by simpa using hj) (fun K hK => by
    rw [if_pos (by simp [Region.wanted, hg'])]
    exact h' K hK) AllReadyH.nil))
theorem comes3L {P : Program} {l : List Oper} {Q : Exit → Act → World → Prop} {md : Region.Mode} {S : World → Prop} {i j k : Nat} {o o' o2 : Oper} {fuel : Nat} {listed : Array Bool} {a : Act} {w : World} (hi : l[i]? = some o) (hj : l[j]? = some o') (hk : l[k]? = some o2) (hg : o.guard = none) (hg' : o'.guard = none) (hg2 : o2.guard = none) (hr : Region.ready md l.toArray listed = [i, j, k])
    (h : ∀ K' : Act → World → Prop, Shut (∀ a w, S w → (S w → wpAnyH P md l.toArray Q S fuel (listed.setIfInBounds i true) a w) → K' a w) → Oper.wp P o a w K' Q)
    (h' : ∀ K' : Act → World → Prop, Shut (∀ a w, S w → (S w → wpAnyH P md l.toArray Q S fuel (listed.setIfInBounds j true) a w) → K' a w) → Oper.wp P o' a w K' Q)
    (h2 : ∀ K' : Act → World → Prop, Shut (∀ a w, S w → (S w → wpAnyH P md l.toArray Q S fuel (listed.setIfInBounds k true) a w) → K' a w) → Oper.wp P o2 a w K' Q) : wpAnyH P md l.toArray Q S (fuel + 1) listed a w :=
  wpAnyH_ready (rs := [i, j, k]) hr (by simp) (AllReadyH.cons (o := o) (by simpa using hi) (fun K hK => by
    rw [if_pos (by simp [Region.wanted, hg])]
    exact h K hK) (AllReadyH.cons (o := o') (by simpa using hj) (fun K hK => by
    rw [if_pos (by simp [Region.wanted, hg'])]
    exact h' K hK) (AllReadyH.cons (o := o2) (by simpa using hk) (fun K hK => by
    rw [if_pos (by simp [Region.wanted, hg2])]
    exact h2 K hK) AllReadyH.nil)))
end Go.Proofs.Ythdodlbhkpoadaa
