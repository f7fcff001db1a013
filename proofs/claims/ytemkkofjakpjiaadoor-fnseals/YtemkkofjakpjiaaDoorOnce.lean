/- Chains, digits and keys for one use in plain mathematics. Of the program only the digest is named. -/
import Derived.Test.YtemkkofjakpjiaaDoorDigest
import Derived.Laws.Concat
import Derived.Lib.Join
namespace Go.Proofs.YtemkkofjakpjiaaDoor
set_option linter.unusedVariables false

theorem digestB_size (k : Int) (s : ByteArray) : (digestB k s).size = 4 := by unfold digestB endBytes; rw [strOfNums_size]; rfl
/-- The digest of a text behind a number of one byte. -/
def numB (k : Int) (i : Nat) (s : ByteArray) : ByteArray := digestB k (strOfNums [(i : Int)] ++ s)
theorem numB_size (k : Int) (i : Nat) (s : ByteArray) : (numB k i s).size = 4 := digestB_size _ _
/-- n steps of a chain, from the place f on. -/
def chainB (s : ByteArray) (f : Nat) : Nat → ByteArray
  | 0 => s
  | n + 1 => numB 99 (f + n) (chainB s f n)
theorem chainB_size (s : ByteArray) (f n : Nat) (h : s.size = 4) : (chainB s f n).size = 4 := by
  cases n with
  | zero => exact h
  | succ n => exact numB_size _ _ _
theorem chainB_add (s : ByteArray) (f a b : Nat) : chainB (chainB s f a) (f + a) b = chainB s f (a + b) := by
  induction b with
  | zero => rfl
  | succ b ih =>
    show numB 99 (f + a + b) _ = numB 99 (f + (a + b)) _
    rw [ih, Nat.add_assoc]
    rfl

/-- The check of four bytes: how much their digits want to fifteen each. -/
def chk (x0 x1 x2 x3 : Int) : Int := 120 - (x0 / 16 + x0 % 16 + (x1 / 16 + x1 % 16) + (x2 / 16 + x2 % 16) + (x3 / 16 + x3 % 16))
def dg (x0 x1 x2 x3 : Int) : List Int :=
  [x0 / 16, x0 % 16, x1 / 16, x1 % 16, x2 / 16, x2 % 16, x3 / 16, x3 % 16, chk x0 x1 x2 x3 / 256, chk x0 x1 x2 x3 / 16 % 16, chk x0 x1 x2 x3 % 16]
def digs (s : ByteArray) : List Int := dg ((feed (110, 110) s.data.toList).2 / 256) ((feed (110, 110) s.data.toList).2 % 256) ((feed (110, 110) s.data.toList).1 / 256) ((feed (110, 110) s.data.toList).1 % 256)
theorem digest_m (s : ByteArray) : digestB 109 s = strOfNums [(feed (110, 110) s.data.toList).2 / 256, (feed (110, 110) s.data.toList).2 % 256, (feed (110, 110) s.data.toList).1 / 256, (feed (110, 110) s.data.toList).1 % 256] := rfl
theorem digs_len (s : ByteArray) : (digs s).length = 11 := rfl
theorem dg_in {x0 x1 x2 x3 : Int} (h0 : 0 ≤ x0 ∧ x0 ≤ 255) (h1 : 0 ≤ x1 ∧ x1 ≤ 255) (h2 : 0 ≤ x2 ∧ x2 ≤ 255) (h3 : 0 ≤ x3 ∧ x3 ≤ 255) : ∀ d ∈ dg x0 x1 x2 x3, 0 ≤ d ∧ d ≤ 15 := by
  intro d hd
  simp only [dg, chk, List.mem_cons, List.not_mem_nil, or_false] at hd
  omega
/-- The four bytes of a digest are bytes. -/
theorem bytes_m (s : ByteArray) : ∃ x0 x1 x2 x3 : Int, digestB 109 s = strOfNums [x0, x1, x2, x3] ∧ digs s = dg x0 x1 x2 x3 ∧ (0 ≤ x0 ∧ x0 ≤ 255) ∧ (0 ≤ x1 ∧ x1 ≤ 255) ∧ (0 ≤ x2 ∧ x2 ≤ 255) ∧ (0 ≤ x3 ∧ x3 ≤ 255) := by
  have hin := feed_in (110, 110) s.data.toList (by simp only []; omega) (by simp only []; omega)
  exact ⟨_, _, _, _, digest_m s, rfl, by omega, by omega, by omega, by omega⟩
theorem digs_in (s : ByteArray) : ∀ d ∈ digs s, 0 ≤ d ∧ d ≤ 15 := by
  obtain ⟨x0, x1, x2, x3, _, e, h0, h1, h2, h3⟩ := bytes_m s
  rw [e]
  exact dg_in h0 h1 h2 h3
theorem digs_at (s : ByteArray) (k : Nat) (h : k < 11) : 0 ≤ (digs s).getD k 0 ∧ (digs s).getD k 0 ≤ 15 := by
  have hl := digs_len s
  refine digs_in s _ ?_
  simp [List.getD, show k < (digs s).length by omega]

/-- No digits are all at most those of another one, unless they are the same. -/
theorem dg_below {x0 x1 x2 x3 y0 y1 y2 y3 : Int} (h0 : 0 ≤ x0 ∧ x0 ≤ 255) (h1 : 0 ≤ x1 ∧ x1 ≤ 255) (h2 : 0 ≤ x2 ∧ x2 ≤ 255) (h3 : 0 ≤ x3 ∧ x3 ≤ 255)
    (g0 : 0 ≤ y0 ∧ y0 ≤ 255) (g1 : 0 ≤ y1 ∧ y1 ≤ 255) (g2 : 0 ≤ y2 ∧ y2 ≤ 255) (g3 : 0 ≤ y3 ∧ y3 ≤ 255)
    (h : ∀ k, k < 11 → (dg x0 x1 x2 x3).getD k 0 ≤ (dg y0 y1 y2 y3).getD k 0) : dg x0 x1 x2 x3 = dg y0 y1 y2 y3 := by
  have a0 := h 0 (by omega); have a1 := h 1 (by omega); have a2 := h 2 (by omega); have a3 := h 3 (by omega); have a4 := h 4 (by omega); have a5 := h 5 (by omega)
  have a6 := h 6 (by omega); have a7 := h 7 (by omega); have a8 := h 8 (by omega); have a9 := h 9 (by omega); have a10 := h 10 (by omega)
  simp only [dg, List.getD, List.getElem?_cons_zero, List.getElem?_cons_succ, Option.getD_some] at a0 a1 a2 a3 a4 a5 a6 a7 a8 a9 a10
  have hp : ∀ x : Int, 0 ≤ x ∧ x ≤ 255 → x = 16 * (x / 16) + x % 16 ∧ 0 ≤ x / 16 ∧ x / 16 ≤ 15 ∧ 0 ≤ x % 16 ∧ x % 16 ≤ 15 := fun x hx => by omega
  have hx0 := hp x0 h0; have hx1 := hp x1 h1; have hx2 := hp x2 h2; have hx3 := hp x3 h3
  have hy0 := hp y0 g0; have hy1 := hp y1 g1; have hy2 := hp y2 g2; have hy3 := hp y3 g3
  have hcc : ∀ c d : Int, 0 ≤ c → c ≤ 120 → 0 ≤ d → d ≤ 120 → c / 16 % 16 ≤ d / 16 % 16 → c % 16 ≤ d % 16 → c ≤ d := fun c d _ _ _ _ _ _ => by omega
  have key : chk x0 x1 x2 x3 ≤ chk y0 y1 y2 y3 := hcc _ _ (by unfold chk; omega) (by unfold chk; omega) (by unfold chk; omega) (by unfold chk; omega) a9 a10
  unfold chk at key
  clear a8 a9 a10 h hp hcc h0 h1 h2 h3 g0 g1 g2 g3
  generalize x0 / 16 = p0 at *; generalize x0 % 16 = p1 at *; generalize x1 / 16 = p2 at *; generalize x1 % 16 = p3 at *
  generalize x2 / 16 = p4 at *; generalize x2 % 16 = p5 at *; generalize x3 / 16 = p6 at *; generalize x3 % 16 = p7 at *
  generalize y0 / 16 = q0 at *; generalize y0 % 16 = q1 at *; generalize y1 / 16 = q2 at *; generalize y1 % 16 = q3 at *
  generalize y2 / 16 = q4 at *; generalize y2 % 16 = q5 at *; generalize y3 / 16 = q6 at *; generalize y3 % 16 = q7 at *
  have e0 : x0 = y0 := by omega
  have e1 : x1 = y1 := by omega
  have e2 : x2 = y2 := by omega
  have e3 : x3 = y3 := by omega
  rw [e0, e1, e2, e3]
theorem digs_below (s t : ByteArray) (h : ∀ k, k < 11 → (digs s).getD k 0 ≤ (digs t).getD k 0) : digs s = digs t := by
  obtain ⟨x0, x1, x2, x3, _, e, h0, h1, h2, h3⟩ := bytes_m s
  obtain ⟨y0, y1, y2, y3, _, f, g0, g1, g2, g3⟩ := bytes_m t
  rw [e, f] at h ⊢
  exact dg_below h0 h1 h2 h3 g0 g1 g2 g3 h

def keyB (seed : ByteArray) (k : Nat) : ByteArray := numB 107 k seed
theorem keyB_size (seed : ByteArray) (k : Nat) : (keyB seed k).size = 4 := numB_size _ _ _
def keysB (seed : ByteArray) : List ByteArray := (List.range 11).map (keyB seed)
def signB (seed text : ByteArray) : List ByteArray := (List.range 11).map fun k => chainB (keyB seed k) 0 ((digs text).getD k 0).toNat
/-- Texts one behind the other. -/
def catB (ss : List ByteArray) : ByteArray := ss.foldl (fun a b => a ++ b) ByteArray.empty
theorem catB_snoc (ss : List ByteArray) (s : ByteArray) : catB (ss ++ [s]) = catB ss ++ s := by simp [catB]
theorem catB_data (ss : List ByteArray) : (catB ss).data.toList = (ss.map (·.data.toList)).flatten := by
  have : ∀ (l : List ByteArray) (a : ByteArray), (l.foldl (fun a b => a ++ b) a).data.toList = a.data.toList ++ (l.map (·.data.toList)).flatten := by
    intro l
    induction l with
    | nil => intro a; simp
    | cons x l ih => intro a; simp only [List.foldl_cons]; rw [ih]; simp
  unfold catB
  rw [this]
  simp
theorem join_none (xs : List (List UInt8)) : Lib.join xs [] = xs.flatten := by
  cases xs with
  | nil => rfl
  | cons x r => rw [Lib.join_cons]; simp [Lib.joinTail]
theorem catB_join (ss : List ByteArray) : (⟨(Lib.join (ss.map (·.data.toList)) []).toArray⟩ : ByteArray) = catB ss := by
  apply ByteArray.ext
  apply Array.ext'
  rw [join_none, catB_data]
theorem catB_size (ss : List ByteArray) (h : ∀ s ∈ ss, s.size = 4) : (catB ss).size = 4 * ss.length := by
  have : (catB ss).data.toList.length = 4 * ss.length := by
    rw [catB_data]
    induction ss with
    | nil => rfl
    | cons x l ih =>
      have hx := h x (by simp)
      have := ih (fun s hs => h s (by simp [hs]))
      simp only [List.map_cons, List.flatten_cons, List.length_append, List.length_cons, Array.length_toList, ByteArray.size_data]
      rw [hx, this]; omega
  simpa using this
/-- All chains, each gone on from where a sign left it. -/
def endsB (text : ByteArray) (sign : List ByteArray) : List ByteArray := (List.range 11).map fun k => chainB (sign.getD k ByteArray.empty) ((digs text).getD k 0).toNat (15 - (digs text).getD k 0).toNat
def fromB (text : ByteArray) (sign : List ByteArray) : ByteArray := digestB 112 (catB (endsB text sign))
def wholeB (seed : ByteArray) : List ByteArray := (List.range 11).map fun k => chainB (keyB seed k) 0 15
def pubB (seed : ByteArray) : ByteArray := digestB 112 (catB (wholeB seed))
theorem getD_range {α : Type} (f : Nat → α) (d : α) (n k : Nat) (h : k < n) : ((List.range n).map f).getD k d = f k := by simp [List.getD, h]
theorem take_range {α : Type} (f : Nat → α) (n k : Nat) (h : k < n) : ((List.range n).map f).take (k + 1) = ((List.range n).map f).take k ++ [f k] := by
  rw [List.take_succ_eq_append_getElem (by simpa using h)]; simp
/-- A sign's public part is that of its key. -/
theorem from_sign (seed text : ByteArray) : fromB text (signB seed text) = pubB seed := by
  have : endsB text (signB seed text) = wholeB seed := by
    unfold endsB wholeB
    apply List.map_congr_left
    intro k hk
    have hk' : k < 11 := by simpa using hk
    have hd := digs_at text k hk'
    unfold signB
    rw [getD_range _ _ _ _ hk']
    have e := chainB_add (keyB seed k) 0 ((digs text).getD k 0).toNat (15 - (digs text).getD k 0).toNat
    rw [Nat.zero_add] at e
    rw [e]
    congr 1
    omega
  unfold fromB pubB
  rw [this]
theorem keysB_len (seed : ByteArray) : (keysB seed).length = 11 := by simp [keysB]
theorem signB_len (seed text : ByteArray) : (signB seed text).length = 11 := by simp [signB]
theorem keysB_at (seed : ByteArray) (k : Nat) (h : k < 11) : (keysB seed).getD k ByteArray.empty = keyB seed k := getD_range _ _ _ _ h
theorem signB_at (seed text : ByteArray) (k : Nat) (h : k < 11) : (signB seed text).getD k ByteArray.empty = chainB (keyB seed k) 0 ((digs text).getD k 0).toNat := getD_range _ _ _ _ h
theorem signB_four (seed text : ByteArray) : ∀ s ∈ signB seed text, s.size = 4 := by
  intro s hs
  simp only [signB, List.mem_map] at hs
  obtain ⟨k, _, rfl⟩ := hs
  exact chainB_size _ _ _ (keyB_size _ _)
theorem keysB_four (seed : ByteArray) : ∀ s ∈ keysB seed, s.size = 4 := by
  intro s hs
  simp only [keysB, List.mem_map] at hs
  obtain ⟨k, _, rfl⟩ := hs
  exact keyB_size _ _
end Go.Proofs.YtemkkofjakpjiaaDoor
