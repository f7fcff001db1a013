/- Contracts of the program's RangeOf. Condition: the pages lie in memory. -/
import Derived.Test.YtmmccjdkafojgaaRangeX
import Derived.Test.YtmmccjdkafojgaaRangeS
import Derived.Test.YtmmccjdkafojgaaKeysX
import Derived.Test.YtmmccjdkafojgaaMkP
namespace Go.Proofs.Ytmmccjdkafojgaa
open Go.ChangeShapes Go.WideShapes Go.ChangeAt Go.RowKit Go.Deep
set_option linter.unusedVariables false
attribute [local go_sem ↓] Go.wp_at_zero Go.wp_at_succ

theorem vals_mapK (p : List Pr) : valsV p = strsV (p.map (·.2)) := by simp [valsV, strsV]
set_option maxHeartbeats 3200000 in
set_option maxRecDepth 100000 in
theorem implRangeYes {pages : List Pg} {t : Nd} (hh : Hand pages) (ht : TreeIs pages t) (f u : ByteArray) (hr : GoodR f u) (hf : f.size ≤ maxLen) (hu : u.size ≤ maxLen) (w : World) (x : Value) (hx : PgsAt w x pages) :
    Calls Try.prog 50 #[.agg #[x], .string f, .string u] w fun e w' => ∃ kv vv, e = .returned (.tuple #[kv, vv, .bool true]) ∧ Acc w' w.heap.size kv vv (selP f u (allN t)) ∧ Below w.heap.size w w' := by
  have HO := fun o1 => rangeInYes hh ht f u hr hf hu (w.alloc o1) x (hx.below (al1 w o1))
  have H40 : (selP f u (allN t)).length ≤ 40 := Nat.le_trans (selP_le _ _ _) ht.2.2.2.2
  have HGD : ∀ q ∈ selP f u (allN t), goodP q := fun q hq => rise_gd ht.2.2.2.1 q ((List.mem_filter.1 hq).1)
  obtain ⟨A, hA⟩ : ∃ A, selP f u (allN t) = A := ⟨_, rfl⟩
  rw [hA] at HO H40 HGD ⊢
  have HCK := fun y W h => implCloneT (A.map (·.1)) y W h (fun s hs => by
    obtain ⟨q, hq, rfl⟩ := List.mem_map.1 hs
    exact (HGD q hq).2.1) (by simp; omega)
  have HCV := fun y W h => implCloneT (A.map (·.2)) y W h (fun s hs => by
    obtain ⟨q, hq, rfl⟩ := List.mem_map.1 hs
    exact (HGD q hq).2.2) (by simp; omega)
  rw [← keys_mapK, List.length_map] at HCK
  rw [← vals_mapK, List.length_map] at HCV
  obtain ⟨a, c, rfl⟩ := hx.slice
  clear hx ht hh hr hA HGD
  go_enter Try.func50, Try.ntmps50
  go_wp2_with fail
  refine (HO _).mono ?_
  rintro e w1 ⟨ku, vu, rfl, hp, hb⟩
  obtain ⟨ka, kc, rfl⟩ := hp.1.slice
  obtain ⟨va, vc, rfl⟩ := hp.2.slice
  have kb := belA hb
  clear hb HO
  go_upto_region 4 with fail
  obtain ⟨lb, hlb⟩ : ∃ lb, lb = w1.heap.size := ⟨_, rfl⟩
  obtain ⟨W3, hW3⟩ : ∃ W3, W3 = w1.alloc (.cells #[.slice ka A.length kc, .slice va A.length vc] 88) := ⟨_, rfl⟩
  have bL : BoxAt W3 lb [.slice ka A.length kc, .slice va A.length vc] := by rw [hW3, hlb]; exact boxNew w1 _ _
  have kb3 : Below w1.heap.size w1 W3 := by rw [hW3]; exact al1 _ _
  rw [← hW3, ← hlb]
  have HP3 := hid (hp.below kb3)
  have z0 := bL.2.1 0 _ rfl
  have z1 := bL.2.1 1 _ rfl
  have zl := bL.1
  have HSK : Hid (∀ W, Below W3.heap.size W3 W → (fun w' : World => w'.cell? ⟨lb, 0, none⟩ = some (.slice ka A.length kc) ∧ w'.cell? ⟨lb, 1, none⟩ = some (.slice va A.length vc)) W) := fun W hW =>
    ⟨(hW.cell zl).trans z0, (hW.cell zl).trans z1⟩
  have HK3 : Hid (Below w.heap.size w W3) := kb.trans (kb3.mono kb.size)
  have HZ3 : Hid (w.heap.size ≤ W3.heap.size) := Nat.le_trans kb.size kb3.size
  have kd : Below W3.heap.size W3 W3.drew := Below.drew (Below.refl _ _)
  have HC1 := HCK _ W3.drew (HP3.out.1.below kd)
  have HC2 := hid (fun W (hW : Below W3.heap.size W3 W) => HCV _ W (HP3.out.2.below hW))
  clear hW3 hlb bL kb3 z0 z1 zl kb hp HCK HCV
  go_region_held3 (fun w' => w'.cell? ⟨lb, 0, none⟩ = some (.slice ka A.length kc) ∧ w'.cell? ⟨lb, 1, none⟩ = some (.slice va A.length vc)) (first | exact HSK.out _ k5 | exact HSK.out _ k4 | exact HSK.out _ kd)
    (first
      | (go_at_call_of 78 (Value.slice ka A.length kc); refine HC1.mono ?_; rintro e w4 ⟨yk, rfl, hok, hb4⟩; have k4 : Below W3.heap.size W3 w4 := (by exact Below.trans kd (hb4.mono (by simp))); have HOK := hid hok; have HC2' := HC2.out _ k4; clear hb4 hok)
      | (go_at_call_of 78 (Value.slice va A.length vc); refine HC2'.mono ?_; rintro e w5 ⟨yv, rfl, hov, hb5⟩; have HOV := hid hov; have HOK5 := hid (HOK.out.below hb5); have HLK := hid (fun g hg => (own_lt HOK.out g hg).2); have k5 : Below W3.heap.size W3 w5 := (by exact Below.trans k4 (hb5.mono k4.size)); have HZ5 := hid k4.size; clear hb5 hov))
  all_goals
    have hfin := HK3.out.trans (k5.mono HZ3.out)
    go_wp2_with fail
    go_returns
    refine ⟨_, _, rfl, ⟨own_mono HOK5.out (by have h1 := HZ3.out; simpa using h1), own_mono HOV.out (by have h1 := HZ3.out; have h2 := HZ5.out; omega), fun g hg hm => ?_⟩, hfin⟩
    have h1 := HLK.out g hg
    have h2 := (own_lt HOV.out g hm).1
    omega
theorem implRangeOut {pages : List Pg} {t : Nd} (hh : Hand pages) (ht : TreeIs pages t) (f u : ByteArray) (hr : ¬ GoodR f u) (hf : f.size ≤ maxLen) (hu : u.size ≤ maxLen) (w : World) (x : Value) (hx : PgsAt w x pages) :
    Calls Try.prog 50 #[.agg #[x], .string f, .string u] w fun e w' => e = .returned (.tuple #[.slice none 0 0, .slice none 0 0, .bool false]) ∧ Below w.heap.size w w' := by
  have HO := fun o1 => rangeInOut hh ht f u hr hf hu (w.alloc o1) x (hx.below (al1 w o1))
  obtain ⟨a, c, rfl⟩ := hx.slice
  clear hx ht hh hr
  go_enter Try.func50, Try.ntmps50
  go_wp2_with fail
  refine (HO _).mono ?_
  rintro e w1 ⟨rfl, hb⟩
  have kb := belA hb
  clear hb HO
  go_wp2_with fail
  go_returns
  exact ⟨rfl, kb.alloc kb.size _⟩
theorem implRangeNo {pages : List Pg} (hh : Hand pages) (ht : ∀ t, ¬ TreeIs pages t) (f u : ByteArray) (w : World) (x : Value) (hx : PgsAt w x pages) :
    Calls Try.prog 50 #[.agg #[x], .string f, .string u] w fun e w' => e = .returned (.tuple #[.slice none 0 0, .slice none 0 0, .bool false]) ∧ Below w.heap.size w w' := by
  have HO := fun o1 => rangeInNo hh ht f u (w.alloc o1) x (hx.below (al1 w o1))
  obtain ⟨a, c, rfl⟩ := hx.slice
  clear hx ht hh
  go_enter Try.func50, Try.ntmps50
  go_wp2_with fail
  refine (HO _).mono ?_
  rintro e w1 ⟨rfl, hb⟩
  have kb := belA hb
  clear hb HO
  go_wp2_with fail
  go_returns
  exact ⟨rfl, kb.alloc kb.size _⟩
/-- What the law keeps of its lists. -/
theorem accOff {w w' : World} {B : Nat} {k v : Value} {A : List Pr} {S : List Nat} (h : Acc w B k v A) (ho : Off S w w') (h1 : ∀ g ∈ obl k, g ∉ S) (h2 : ∀ g ∈ obl v, g ∉ S) : Acc w' B k v A := ⟨h.1.off ho h1, h.2.1.off ho h2, h.2.2⟩
theorem accStrs {w : World} {B : Nat} {k v : Value} {A : List Pr} (h : Acc w B k v A) : StrsAt w k (A.map (·.1)) ∧ StrsAt w v (A.map (·.2)) := by
  obtain ⟨h1, h2, _⟩ := h
  rw [keys_mapK] at h1
  rw [vals_mapK] at h2
  exact ⟨strs_own h1 (by simp), strs_own h2 (by simp)⟩
theorem own_cap {w : World} {B n : Nat} {e : TypeId} {v : Value} {xs : List Value} (h : OwnS w B e v n xs) : ∀ a c, v = .slice (some a) n c → 0 < n → 0 < c := by
  intro a c hv hn
  rcases h with h | ⟨h1, _⟩
  · rcases h.2 with ⟨_, h2⟩ | ⟨g', cap', cur, hv', _, _, hc, _⟩
    · omega
    · rw [hv] at hv'
      cases hv'
      omega
  · omega
theorem Marked.off {W W' : World} {B q n : Nat} {v : Value} {S : List Nat} (h : Marked W B q v n) (ho : Off S W W') (hc : ∀ a c, v = .slice (some a) n c → 0 < n → 0 < c) (hn : ∀ g ∈ obl v, g ∉ S) : Marked W' B q v n := by
  rcases h with h | ⟨g, cap, rfl, h1, h2, h3, h4⟩
  · exact .inl h
  · rcases Nat.eq_zero_or_pos n with h0 | h0
    · subst h0; exact .inl ⟨rfl, _, _, rfl⟩
    · have hp := hc _ _ rfl h0
      have hg : g ∉ S := hn g (by cases cap with
        | zero => omega
        | succ c => simp [obl])
      have e := ho.block g h2 hg
      exact .inr ⟨g, cap, rfl, h1, Nat.lt_of_lt_of_le h2 ho.size, fun i hi => by simp only [World.cell?, e]; exact h3 i hi, fun i hi => by simp only [World.frozen?, e]; exact h4 i hi⟩
end Go.Proofs.Ytmmccjdkafojgaa
