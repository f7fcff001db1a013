/- Contracts of what the model reads of its tree: get, all, even. Condition: the tree lies in memory. -/
import Derived.Test.YtgjcegmjhkehnaaDoorSpecL
namespace Go.Proofs.YtgjcegmjhkehnaaDoor
open Go.ChangeShapes Go.WideShapes Go.ChangeAt Go.RowKit Go.Deep
set_option linter.unusedVariables false
attribute [local go_sem ↓] Go.wp_at_zero Go.wp_at_succ

/-- What is found at a key. -/
inductive GetIs : Nd → ByteArray → Option ByteArray → Prop
  | here (p : List Pr) (kids : List Nd) (k : ByteArray) : hasN p k = true → GetIs (.mk p kids) k (some (p.getD (posN p k) default).2)
  | leaf (p : List Pr) (k : ByteArray) : hasN p k = false → GetIs (.mk p []) k none
  | down (p : List Pr) (kids : List Nd) (k : ByteArray) (r : Option ByteArray) : hasN p k = false → posN p k < kids.length → GetIs (kids.getD (posN p k) default) k r → GetIs (.mk p kids) k r
theorem getIs_ex (k : ByteArray) : ∀ t, Shape t → ∃ r, GetIs t k r := by
  intro t
  induction t using Nd.ind with
  | h p kids ih =>
    intro hs
    cases hs with
    | mk _ _ h4 hk hsk =>
      by_cases hh : hasN p k = true
      · exact ⟨_, .here p kids k hh⟩
      · have hh : hasN p k = false := by simpa using hh
        rcases hk with rfl | hk
        · exact ⟨_, .leaf p k hh⟩
        · have := pos_le p k
          have hl : posN p k < kids.length := by omega
          have hm : kids.getD (posN p k) default ∈ kids := by simp [List.getD, hl]
          obtain ⟨r, hr⟩ := ih _ hm (hsk _ hm)
          exact ⟨r, .down p kids k r hh hl hr⟩
def retG : Option ByteArray → Value
  | none => .tuple #[.string ⟨#[]⟩, .bool false]
  | some s => .tuple #[.string s, .bool true]
set_option maxHeartbeats 3200000 in
set_option maxRecDepth 100000 in
theorem specGet {t : Nd} {key : ByteArray} {r : Option ByteArray} (h : GetIs t key r) : ∀ (w : World) (base : Nat) (v : Value) (F : List Nat), OwnT w base t v F → Shape t →
    Calls Tryd.prog 173 #[v, .string key] w fun e w' => e = .returned (retG r) ∧ Below w.heap.size w w' := by
  induction h with
  | here p kids k hh =>
    intro w base v F ht hs
    have hp : p.length ≤ 5 := by cases hs with | mk _ _ h4 _ _ => omega
    have HA := specAt ht k hp
    rw [hh] at HA
    have hl : posN p k < p.length := by
      unfold hasN at hh
      simp at hh; exact hh.1
    obtain ⟨b, kv, vv, cv, ps, Fc, rfl, hb, hk, hv, hc, rk, rv, rc, hts⟩ := ht.parts
    obtain ⟨b2, off, c2, rfl, hb2, hcell⟩ := rv.cell1 (i := posN p k) hl
    rw [valsV_get p _ hl] at hcell
    generalize (p.getD (posN p k) default).2 = s at *
    generalize posN p k = K at *
    have hki : (K : Int) < (p.length : Int) := by omega
    have hk0 : (0 : Int) ≤ (K : Int) := by omega
    unfold retG
    clear ht rk rv rc hts hs hh
    go_enter Tryd.func173, Tryd.ntmps173
    go_wp2_with (first | (go_at_call 126; refine HA.mono ?_; rintro e w1 ⟨rfl, hb1⟩; have hv1 := (hb1.cell (p := ⟨b, 1, none⟩) hb).trans hv; have hc1 := (hb1.cell (p := ⟨b2, off + K, none⟩) hb2).trans hcell; have hs1 := hb1.size) | fail)
    go_returns
    exact ⟨rfl, hb1⟩
  | leaf p k hh =>
    intro w base v F ht hs
    have hp : p.length ≤ 5 := by cases hs with | mk _ _ h4 _ _ => omega
    have HA := specAt ht k hp
    rw [hh] at HA
    have HL := fun W (hw : Below w.heap.size w W) => leafYes (ht.below hw)
    obtain ⟨b, kv, vv, cv, ps, Fc, rfl, hb, hk, hv, hc, rk, rv, rc, hts⟩ := ht.parts
    generalize posN p k = K at *
    unfold retG
    clear ht rk rv rc hts hs hh
    go_enter Tryd.func173, Tryd.ntmps173
    go_wp2_with (first | (go_at_call 126; refine HA.mono ?_; rintro e w1 ⟨rfl, hb1⟩) | (go_at_call 121; refine (HL _ hb1).mono ?_; rintro e w2 ⟨rfl, rfl⟩) | fail)
    go_returns
    exact ⟨rfl, hb1⟩
  | down p kids k r hh hl hg ih =>
    intro w base v F ht hs
    have hp : p.length ≤ 5 := by cases hs with | mk _ _ h4 _ _ => omega
    have hsk : ∀ x ∈ kids, Shape x := by cases hs with | mk _ _ _ _ h5 => exact h5
    have HA := specAt ht k hp
    rw [hh] at HA
    have hne : kids ≠ [] := by intro h; rw [h] at hl; simp at hl
    have HL := fun W (hw : Below w.heap.size w W) => leafNo (ht.below hw) hne
    obtain ⟨b, kv, vv, cv, ps, Fc, rfl, hb, hk, hv, hc, rk, rv, rc, hts⟩ := ht.parts
    obtain ⟨b2, off, c2, rfl, hb2, hcell⟩ := rc.cell1 (i := posN p k) hl
    obtain ⟨F1, hkid⟩ := hts.get (posN p k) hl
    have HI := fun W (hw : Below w.heap.size w W) => ih W base _ F1 (hkid.below hw) (hsk _ (by simp [List.getD, hl]))
    generalize ps.getD (posN p k) default = kp at *
    generalize posN p k = K at *
    have hki : (K : Int) < (kids.length : Int) := by omega
    have hk0 : (0 : Int) ≤ (K : Int) := by omega
    clear ht rk rv rc hts hs hh hkid ih hg
    obtain ⟨R, hR⟩ : ∃ R, R = retG r := ⟨_, rfl⟩
    have hRt : ∃ x y, R = .tuple #[x, y] := by rw [hR]; cases r <;> exact ⟨_, _, rfl⟩
    simp only [← hR] at HI ⊢
    obtain ⟨x, y, rfl⟩ := hRt
    clear hR
    go_enter Tryd.func173, Tryd.ntmps173
    go_wp2_with (first | (go_at_call 126; refine HA.mono ?_; rintro e w1 ⟨rfl, hb1⟩; have hv1 := (hb1.cell (p := ⟨b, 2, none⟩) hb).trans hc; have hc1 := (hb1.cell (p := ⟨b2, off + K, none⟩) hb2).trans hcell; have hs1 := hb1.size) | (go_at_call 121; refine (HL _ hb1).mono ?_; rintro e w2 ⟨rfl, hw2⟩; subst w2) | (go_at_call 173; refine (HI _ hb1).mono ?_; rintro e w3 ⟨rfl, hb3⟩) | fail)
    go_returns
    exact ⟨rfl, hb1.trans (hb3.mono hs1)⟩
end Go.Proofs.YtgjcegmjhkehnaaDoor
