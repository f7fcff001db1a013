/- Contracts of KeysIn, and of the marks on an answer's list. Condition: the pages lie in memory. -/
import Derived.Test.YtmmccjdkafojgaaPickM
import Derived.Test.YtmmccjdkafojgaaImplAl
import Derived.Test.YtmmccjdkafojgaaCloneT
import Derived.Test.YtmmccjdkafojgaaImplT
import Derived.Test.YtmmccjdkafojgaaImplGt
import Derived.Test.YtmmccjdkafojgaaSpecEx
namespace Go.Proofs.Ytmmccjdkafojgaa
open Go.ChangeShapes Go.WideShapes Go.ChangeAt Go.RowKit Go.Deep
set_option linter.unusedVariables false
attribute [local go_sem ↓] Go.wp_at_zero Go.wp_at_succ

/-- A list that bears the marks from q on. -/
def Marked (W : World) (B q : Nat) (v : Value) (n : Nat) : Prop := (n = 0 ∧ ∃ a c, v = .slice a 0 c) ∨ ∃ g cap, v = .slice (some ⟨g, 0, none⟩) n cap ∧ OwnRow B W g n (fun i => .string (mkT (q + i)))
theorem Marked.below {W W' : World} {B q n : Nat} {v : Value} (h : Marked W B q v n) (hb : Below W.heap.size W W') : Marked W' B q v n := by
  rcases h with h | ⟨g, cap, h1, h2⟩
  · exact .inl h
  · exact .inr ⟨g, cap, h1, h2.below hb⟩
theorem row_of_ownS {w : World} {B n : Nat} {e : TypeId} {v : Value} {xs : List Value} (h : OwnS w B e v n xs) : (n = 0 ∧ ∃ a c, v = .slice a 0 c) ∨ (0 < n ∧ ∃ g cap, v = .slice (some ⟨g, 0, none⟩) n cap ∧ g ∈ obl v ∧ OwnRow B w g n (fun i => xs.getD i default)) := by
  rcases Nat.eq_zero_or_pos n with h0 | h0
  · subst h0
    obtain ⟨a, c, rfl⟩ := (rows_of_ownS h).slice
    exact .inl ⟨rfl, a, c, rfl⟩
  · rcases h with h | ⟨h1, _⟩
    · obtain ⟨g, cap, hv, ho⟩ := ownRow_of h h0
      refine .inr ⟨h0, g, cap, hv, ?_, ho⟩
      rcases h.2 with ⟨_, h2⟩ | ⟨g', cap', cur, hv', _, _, hc, _⟩
      · omega
      · rw [hv] at hv'
        cases hv'
        subst hv
        cases cap with
        | zero => omega
        | succ c => simp [obl]
    · omega
set_option maxHeartbeats 1600000 in
theorem markOwn (B n q : Nat) (ss : List ByteArray) (v : Value) (w : World) (h : OwnS w B 9 v n (strsV ss)) (hn : n = ss.length) (hq : 1 ≤ q) (hqn : q + n ≤ 99) :
    Calls Try.prog 45 #[v, .int .i64 q] w fun e w' => e = .returned (.int .i64 ((q + n : Nat) : Int)) ∧ Marked w' B q v n ∧ Off (obl v) w w' := by
  rcases row_of_ownS h with ⟨rfl, a, c, rfl⟩ | ⟨h0, g, cap, rfl, hg, ho⟩
  · refine (markStrKNil a c q w).mono ?_
    rintro e w' ⟨rfl, rfl⟩
    exact ⟨rfl, .inl ⟨rfl, a, c, rfl⟩, Off.refl _ _⟩
  · refine (markStrK B g n cap q _ w ho hq hqn (fun i hi => ?_)).mono ?_
    · have : i < ss.length := by omega
      exact ⟨ss.getD i ByteArray.empty, by simp [strsV, List.getD, this]⟩
    · rintro e w' ⟨rfl, h1, h2⟩
      exact ⟨rfl, .inr ⟨g, cap, rfl, h1⟩, ⟨h2.os, h2.tape, h2.output, h2.size, fun k hk hkn => h2.block k hk (fun e => by cases e; exact hkn hg)⟩⟩
theorem heldOwn (B n q : Nat) (v : Value) (w : World) (h : Marked w B q v n) (hq : 1 ≤ q) (hqn : q + n ≤ 99) :
    Calls Try.prog 46 #[v, .int .i64 q] w fun e w' => e = .returned (.int .i64 ((q + n : Nat) : Int)) ∧ Below w.heap.size w w' := by
  rcases h with ⟨rfl, a, c, rfl⟩ | ⟨g, cap, rfl, ho⟩
  · refine (heldStrKNil a c q w).mono ?_
    rintro e w' ⟨rfl, rfl⟩
    exact ⟨rfl, Below.refl _ _⟩
  · exact heldStrK B g n cap q w ho hq hqn
theorem keys_mapK (p : List Pr) : keysV p = strsV (p.map (·.1)) := by simp [keysV, strsV]
set_option maxHeartbeats 1600000 in
theorem implKeysYes {pages : List Pg} {t : Nd} (hh : Hand pages) (ht : TreeIs pages t) (w : World) (x : Value) (hx : PgsAt w x pages) :
    Calls Try.prog 21 #[.agg #[x]] w fun e w' => ∃ kv, e = .returned (.tuple #[kv, .bool true]) ∧ OwnS w' w.heap.size 9 kv (allN t).length (keysV (allN t)) ∧ Below w.heap.size w w' := by
  have HO := fun o => wholeYes hh ht (w.alloc o) x (hx.below (al1 w o))
  have HG := hid (fun kv vv cv W => implAll t ht.shape ht.2.2.2.2 kv vv cv W)
  have H40 := ht.2.2.2.2
  have HGD := rise_gd ht.2.2.2.1
  have HCL := hid (fun y W h => implCloneT ((allN t).map (·.1)) y W h (fun s hs => by
    obtain ⟨q, hq, rfl⟩ := List.mem_map.1 hs
    exact (HGD q hq).2.1) (by simp; omega))
  have HFL : ∀ a n c b m d W, (Instr.field 88 (.agg #[.slice a n c, .slice b m d]) 0).run Try.prog W = .ok (.slice a n c) W := fun a n c b m d W => by kernel_rfl
  obtain ⟨a, c, rfl⟩ := hx.slice
  clear hx ht hh H40 HGD
  go_enter Try.func21, Try.ntmps21
  go_wp2_with fail
  refine (HO _).mono ?_
  rintro e w1 ⟨a1, k1, a2, k2, a3, k3, rfl, hnd, hb⟩
  have kb := belA hb
  have HN := hid hnd
  have HDD := HG.out _ _ _ (w1.alloc (.cells #[.slice a1 t.prs.length k1, .slice a2 t.prs.length k2, .slice a3 t.kids.length k3] 92)) (HN.out.below (al1 _ _))
  clear hb hnd HO HG
  go_wp2_with fail
  refine HDD.mono ?_
  rintro e w2 ⟨ku, vu, rfl, hp, hb2⟩
  obtain ⟨ka, kc, rfl⟩ := hp.1.slice
  obtain ⟨va, vc, rfl⟩ := hp.2.slice
  have kb2 : Below w.heap.size w w2 := kb.trans ((belA hb2).mono kb.size)
  have hr := hp.1
  rw [keys_mapK] at hr
  have HC := HCL.out _ w2 (by simpa using hr)
  clear hb2 HDD hp hr HN HCL
  go_wp2_with fail
  refine HC.mono ?_
  rintro e w3 ⟨y, rfl, ho, hb3⟩
  have HO3 : Hid (OwnS w3 w.heap.size 9 y (allN t).length (keysV (allN t))) := by
    show OwnS _ _ _ _ _ _
    rw [keys_mapK]
    simpa using own_mono ho kb2.size
  have kb3 : Below w.heap.size w w3 := kb2.trans (hb3.mono kb2.size)
  clear ho hb3 HC
  go_wp2_with fail
  go_returns
  exact ⟨y, rfl, HO3.out, kb3⟩
theorem implKeysNo {pages : List Pg} (hh : Hand pages) (ht : ∀ t, ¬ TreeIs pages t) (w : World) (x : Value) (hx : PgsAt w x pages) :
    Calls Try.prog 21 #[.agg #[x]] w fun e w' => e = .returned (.tuple #[.slice none 0 0, .bool false]) ∧ Below w.heap.size w w' := by
  have HO := fun o => wholeNo hh ht (w.alloc o) x (hx.below (al1 w o))
  obtain ⟨a, c, rfl⟩ := hx.slice
  clear hx ht hh
  go_enter Try.func21, Try.ntmps21
  go_wp2_with fail
  refine (HO _).mono ?_
  rintro e w1 ⟨rfl, hb⟩
  have kb := belA hb
  clear hb HO
  go_wp2_with fail
  go_returns
  exact ⟨rfl, kb.alloc kb.size _⟩
end Go.Proofs.Ytmmccjdkafojgaa
