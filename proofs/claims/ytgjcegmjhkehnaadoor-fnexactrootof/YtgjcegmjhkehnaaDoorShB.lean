/- The bytes of shown pages. Contracts of the model and the program that write them. Condition: a good page whose lists lie in memory. -/
import Derived.Test.YtgjcegmjhkehnaaDoorSpecSh
import Derived.Test.YtgjcegmjhkehnaaDoorImplSh
import Derived.Test.YtgjcegmjhkehnaaDoorConvB
namespace Go.Proofs.YtgjcegmjhkehnaaDoor
open Go.ChangeShapes Go.WideShapes Go.ChangeAt Go.RowKit Go.Deep Go.Lib
set_option linter.unusedVariables false
attribute [local go_sem ↓] Go.wp_at_zero Go.wp_at_succ

/-- A text behind its length. -/
def sized (t : ByteArray) : List UInt8 := UInt8.ofNat t.size :: t.data.toList
def prsL (n : Nat) (L : List Pr) : List UInt8 := L.foldl (fun l q => l ++ sized q.1 ++ sized q.2) [UInt8.ofNat n]
def kidL (R : List UInt8) (n : Nat) (l : List ByteArray) : List UInt8 := l.foldl (fun l s => l ++ s.data.toList) (R ++ [UInt8.ofNat n])
def shL (p : Sh) : List UInt8 := kidL (prsL p.keys.length p.prs) p.kids.length p.kids
def mkB (R : List UInt8) : ByteArray := ⟨R.toArray⟩
def shB (p : Sh) : ByteArray := mkB (shL p)
theorem sized_len (t : ByteArray) : (sized t).length = t.size + 1 := by simp [sized]
theorem prsL_snoc (n : Nat) (L : List Pr) (q : Pr) : prsL n (L ++ [q]) = prsL n L ++ sized q.1 ++ sized q.2 := by simp [prsL]
theorem kidL_snoc (R : List UInt8) (n : Nat) (l : List ByteArray) (s : ByteArray) : kidL R n (l ++ [s]) = kidL R n l ++ s.data.toList := by simp [kidL]
theorem prsL_len (n : Nat) : ∀ m : List Pr, (∀ q ∈ m, goodP q) → (prsL n m.reverse).length ≤ 1 + 26 * m.length
  | [], _ => by simp [prsL]
  | q :: m, h => by
    have h1 := prsL_len n m (fun x hx => h x (by simp [hx]))
    have h2 := h q (by simp)
    obtain ⟨_, h3, h4⟩ := h2
    rw [List.reverse_cons, prsL_snoc]
    simp only [List.length_append, sized_len, List.length_cons]
    omega
theorem prsL_le {n : Nat} {L : List Pr} (h : ∀ q ∈ L, goodP q) : (prsL n L).length ≤ 1 + 26 * L.length := by
  have := prsL_len n L.reverse (fun q hq => h q (by simpa using hq))
  simpa using this
theorem kidL_len (R : List UInt8) (n : Nat) : ∀ m : List ByteArray, (∀ s ∈ m, s.size = 4) → (kidL R n m.reverse).length = R.length + 1 + 4 * m.length
  | [], _ => by simp [kidL]
  | q :: m, h => by
    have h1 := kidL_len R n m (fun x hx => h x (by simp [hx]))
    have h2 := h q (by simp)
    rw [List.reverse_cons, kidL_snoc]
    simp only [List.length_append, List.length_cons, Array.length_toList, ByteArray.size_data]
    omega
theorem kidL_le {R : List UInt8} {n : Nat} {l : List ByteArray} (h : ∀ s ∈ l, s.size = 4) : (kidL R n l).length = R.length + 1 + 4 * l.length := by
  have := kidL_len R n l.reverse (fun q hq => h q (by simpa using hq))
  simpa using this
theorem rise_good : ∀ {L : List Pr} {a : ByteArray}, Rise a L → ∀ q ∈ L, goodP q
  | [], _, _, q, hq => by simp at hq
  | x :: L, a, h, q, hq => by
    rcases List.mem_cons.1 hq with e | e
    · subst e; exact h.1
    · exact rise_good h.2.2 q e
theorem GoodSh.kid4 {p : Sh} (h : GoodSh p) : ∀ s ∈ p.kids, s.size = 4 := by
  intro s hs
  obtain ⟨i, hi, he⟩ := List.getElem_of_mem hs
  have := h.2.1 i hi
  simpa [List.getD, hi, he] using this
theorem take_prs {p : Sh} {k : Nat} (h1 : k < p.keys.length) (h2 : k < p.vals.length) : p.prs.take (k + 1) = p.prs.take k ++ [(p.keys.getD k ByteArray.empty, p.vals.getD k ByteArray.empty)] := by
  have hl : k < p.prs.length := by simp [Sh.prs]; omega
  rw [← prs_getD h1 h2, List.take_succ_eq_append_getElem hl]
  simp [List.getD, hl]
theorem mkB_pair (R : List UInt8) (k v : ByteArray) : mkB (R ++ sized k ++ sized v) = mkB R ++ (strOfNums [(k.size : Int)] ++ k ++ strOfNums [(v.size : Int)] ++ v) := by
  apply ByteArray.ext
  simp only [mkB, sized, ByteArray.data_append, strOfNums]
  apply Array.ext'
  simp
theorem mkB_one (R : List UInt8) (n : Nat) : mkB (R ++ [UInt8.ofNat n]) = mkB R ++ strOfNums [(n : Int)] := by
  apply ByteArray.ext
  simp only [mkB, ByteArray.data_append, strOfNums]
  apply Array.ext'
  simp
theorem mkB_kid (R : List UInt8) (s : ByteArray) : mkB (R ++ s.data.toList) = mkB R ++ s := by
  apply ByteArray.ext
  simp only [mkB, ByteArray.data_append]
  apply Array.ext'
  simp
theorem mkB_size (R : List UInt8) : (mkB R).size = R.length := by simp [mkB, ByteArray.size]
/-- One byte at any place in memory, as a text. -/
theorem convAt (x : Int) (W : World) (g : Nat) (h : W.cell? ⟨g, 0, none⟩ = some (.int .u8 x)) : (convert 22 9 (.slice (some ⟨g, 0, none⟩) 1 1)).run Tryd.prog W = .ok (.string (strOfNums [x])) W := by
  refine run_convert_bytes_arg _ 22 5 Tryd.underlying22 Tryd.underlying5 g 0 1 1 [x] rfl ?_ 9 Tryd.underlying9
  intro i hi
  match i, hi with
  | 0, _ => simpa using h
set_option maxHeartbeats 3200000 in
theorem implSized (x : Value) (R : List UInt8) (t : ByteArray) (base : Nat) (w : World) (hown : w.ownsRow base 5 1 x R.length (u8s R)) (hb : base ≤ w.heap.size) (hR : R.length ≤ 10000) (ht : t.size ≤ 12) :
    Calls Tryd.prog 59 #[x, .string t] w fun e w' => ∃ y, e = .returned y ∧ w'.ownsRow base 5 1 y (R ++ sized t).length (u8s (R ++ sized t)) ∧ Below base w w' := by
  obtain ⟨i0, hi, hzz⟩ := Option.map_eq_some_iff.1 info8
  simp only [Prod.mk.injEq] at hzz
  obtain ⟨hz0, hz1, hz2⟩ := hzz
  go_enter Tryd.func59, Tryd.ntmps59
  go_wp2_with (first
    | (at_builtin; refine wpList_append_own _ rfl _ _ 22 rfl base 5 i0 (.int .u8 0) 1 1 Tryd.underlying22 hi hz0 hz1 hz2 rfl (by decide) _ _ _ rfl (hown.alloc _) ⟨w.heap.size, 0, none⟩ 1 1 [.int .u8 (t.size : Int)] rfl rfl ?c1 ?c2 ?c3 ?c4 ?c5 ?_)
    | fail)
  case c1 => exact newsAt _ #[.int .u8 (t.size : Int)] _ _ rfl
  case c2 => intro u hu; simp at hu; subst hu; rfl
  case c3 => unfold maxLen; omega
  case c4 => omega
  case c5 => simp; omega
  intro v1 w1 hown1 hg1 _
  have kb1 : Below base w w1 := ((Below.refl base w).alloc hb _).grown hg1 (by simp; omega) (fun r hr => (hown.lt r hr).1)
  have kl1 := kb1.size
  clear hg1
  go_wp2_with (first
    | (at_builtin; refine wpList_append_own_string _ rfl _ _ 22 9 rfl base 5 i0 Tryd.underlying22 Tryd.underlying9 hi hz0 hz1 hz2 _ _ _ rfl hown1 t rfl ?d1 ?d2 ?d3 ?_)
    | fail)
  case d1 => unfold maxLen; omega
  case d2 => omega
  case d3 => omega
  intro v2 w2 hown2 hg2 _
  have kb2 : Below base w w2 := kb1.grown hg2 (by omega) (fun r hr => (hown1.lt r hr).1)
  have hO : w2.ownsRow base 5 1 v2 (R ++ sized t).length (u8s (R ++ sized t)) := by
    have hb8 : ((UInt8.ofNat t.size).toNat : Int) = (t.size : Int) := by
      rw [UInt8.toNat_ofNat', Nat.mod_eq_of_lt (by omega)]
    have e1 : (R ++ sized t).length = R.length + 1 + t.size := by simp [sized]; omega
    have e2 : u8s (R ++ sized t) = u8s R ++ Value.int .u8 (t.size : Int) :: strCells t := by
      simp only [u8s, sized, List.map_append, List.map_cons, strCells, hb8]
    rw [e1, e2]
    exact hown2
  have HO := hid hO
  clear hg2 hown1 hown2 hO
  go_wp2
  go_ret
  exact ⟨v2, rfl, HO.out, kb2⟩
end Go.Proofs.YtgjcegmjhkehnaaDoor
