/- Places that are near to one another; the program's areNear. Condition: the lists lie in memory, within small bounds. -/
import Derived.Test.YtkkmnegmghllpaaImplLk
namespace Go.Proofs.Ytkkmnegmghllpaa
open Go.ChangeShapes Go.WideShapes Go.ChangeAt Go.RowKit Go.Deep
set_option linter.unusedVariables false
attribute [local go_sem ↓] Go.wp_at_zero Go.wp_at_succ

def nrP (n m y : Int) : Prop := n ≠ m ∧ n - m ≤ y ∧ m - n ≤ y
/-- Whether two lists have places near to one another. -/
def NrL (a b : List Int) (y : Int) : Prop := ∃ n ∈ a, ∃ m ∈ b, nrP n m y
open Classical in
theorem nr_ex (a b : List Int) (y : Int) : ∃ B : Bool, B = true ↔ NrL a b y := by
  by_cases h : NrL a b y
  · exact ⟨true, ⟨fun _ => h, fun _ => rfl⟩⟩
  · exact ⟨false, ⟨fun h => (by cases h), fun h2 => absurd h2 h⟩⟩
set_option maxHeartbeats 6400000 in
set_option maxRecDepth 100000 in
theorem implNear (x z : Value) (a b : List Int) (y : Int) (B : Bool) (hB : B = true ↔ NrL a b y) (w : World) (hx : IntsAt w x a) (hz : IntsAt w z b) (hla : a.length ≤ 1000) (hlb : b.length ≤ 1000)
    (ha : ∀ n ∈ a, 0 ≤ n ∧ n ≤ 1000) (hb : ∀ n ∈ b, 0 ≤ n ∧ n ≤ 1000) :
    Calls Try.prog 72 #[x, z, .int .i64 y] w fun e w' => e = .returned (.bool B) ∧ Below w.heap.size w w' := by
  have HX := hid hx
  have HZ := hid hz
  have HA := hid ha
  have HB := hid hb
  have HBB := hid hB
  obtain ⟨xa, xc, hxe⟩ := hx.slice
  subst hxe
  obtain ⟨za, zc, hze⟩ := hz.slice
  subst hze
  clear hx hz ha hb hB
  go_enter Try.func72, Try.ntmps72
  go_wp2
  go_loopw [13] (fun i wr => ∃ k : Nat, k ≤ a.length ∧ i = .int .i64 k ∧ Hid (∀ i, i < k → ∀ m ∈ b, ¬ nrP (a.getD i 0) m y) ∧ Below w.heap.size w wr) (fun i _ => a.length - (intOf i).toNat)
  case atStart => exact ⟨0, Nat.zero_le _, rfl, fun i hi => by omega, by go_grown⟩
  case round =>
    obtain ⟨k, hk, rfl, hall, kb⟩ := hrel
    have kl := kb.size
    by_cases hlt : k < a.length
    · obtain ⟨g, off, cap, hve, hgl, hc⟩ := (HX.out.below kb).cellI hlt
      cases hve
      have hki : (k : Int) < (a.length : Int) := by omega
      have hk0 : (0 : Int) ≤ (k : Int) := by omega
      have hnb := HA.out (a.getD k 0) (by simp [List.getD, hlt])
      have HIN : Hid (a.getD k 0 ∈ a) := by show _ ∈ _; simp [List.getD, hlt]
      have HNX : Hid ((∀ m ∈ b, ¬ nrP (a.getD k 0) m y) → ∀ i, i < k + 1 → ∀ m ∈ b, ¬ nrP (a.getD i 0) m y) := fun h i hi => by
        by_cases e : i = k
        · rw [e]; exact h
        · exact hall.out i (by omega)
      clear hall
      generalize a.getD k 0 = n at *
      go_wp2_with fail
      go_loopw [19] (fun i wr => ∃ j : Nat, j ≤ b.length ∧ i = .int .i64 j ∧ Hid (∀ i, i < j → ¬ nrP n (b.getD i 0) y) ∧ Below w.heap.size w wr) (fun i _ => b.length - (intOf i).toNat)
      case atStart => exact ⟨0, Nat.zero_le _, rfl, fun i hi => by omega, kb⟩
      case round =>
        obtain ⟨j, hj, rfl, hall, kb2⟩ := hrel
        generalize wr = w2 at *
        by_cases hjt : j < b.length
        · obtain ⟨g2, off2, cap2, hve, hgl2, hc2⟩ := (HZ.out.below kb2).cellI hjt
          cases hve
          have hji : (j : Int) < (b.length : Int) := by omega
          have hj0 : (0 : Int) ≤ (j : Int) := by omega
          have hmb := HB.out (b.getD j 0) (by simp [List.getD, hjt])
          have HIM : Hid (b.getD j 0 ∈ b) := by show _ ∈ _; simp [List.getD, hjt]
          have HNO : Hid (¬ nrP n (b.getD j 0) y → ∀ i, i < j + 1 → ¬ nrP n (b.getD i 0) y) := fun h i hi => by
            by_cases e : i = j
            · rw [e]; exact h
            · exact hall.out i (by omega)
          clear hall
          generalize b.getD j 0 = m at *
          have hw1 : IntKind.i64.wrap (n - m) = n - m := by rw [IntKind.wrap_i64]; omega
          have hw2 : IntKind.i64.wrap (m - n) = m - n := by rw [IntKind.wrap_i64]; omega
          by_cases h1 : n = m
          · have HS := hid (HNO.out (fun h => h.1 h1))
            have i1 : (n != m) = false := by simp [h1]
            clear h1 HNO
            go_wp2_with fail
            exact ⟨⟨j + 1, by omega, by go_num, HS, kb2⟩, by simp [intOf]; omega⟩
          · have i1 : (n != m) = true := by simp [h1]
            by_cases h2 : n - m ≤ y
            · have i2 : decide (n - m ≤ y) = true := decide_eq_true h2
              by_cases h3 : m - n ≤ y
              · have i3 : decide (m - n ≤ y) = true := decide_eq_true h3
                have HS : Hid (B = true) := HBB.out.2 ⟨n, HIN.out, m, HIM.out, h1, h2, h3⟩
                clear h1 h2 h3 HNO
                go_wp2_with fail
                go_returns
                exact ⟨by rw [HS.out]; rfl, kb2⟩
              · have i3 : decide (m - n ≤ y) = false := decide_eq_false h3
                have HS := hid (HNO.out (fun h => h3 h.2.2))
                clear h1 h2 h3 HNO
                go_wp2_with fail
                exact ⟨⟨j + 1, by omega, by go_num, HS, kb2⟩, by simp [intOf]; omega⟩
            · have i2 : decide (n - m ≤ y) = false := decide_eq_false h2
              have HS := hid (HNO.out (fun h => h2 h.2.1))
              clear h1 h2 HNO
              go_wp2_with fail
              exact ⟨⟨j + 1, by omega, by go_num, HS, kb2⟩, by simp [intOf]; omega⟩
        · have hje : j = b.length := by omega
          have hji : ¬ (j : Int) < (b.length : Int) := by omega
          have HS := hid (HNX.out (fun m hm => by
            obtain ⟨i, hi, he⟩ := mem_getD.1 hm
            have := hall.out i (by omega)
            rw [he] at this; exact this))
          clear HNX hall
          go_wp2_with fail
          exact ⟨⟨k + 1, by omega, by go_num, HS, kb2⟩, by simp [intOf]; omega⟩
    · have hke : k = a.length := by omega
      subst hke
      have hki : ¬ (a.length : Int) < (a.length : Int) := by omega
      have HS : Hid (B = false) := by
        show _ = _
        cases B
        · rfl
        · obtain ⟨n, hn, m, hm, h⟩ := HBB.out.1 rfl
          obtain ⟨i, hi, he⟩ := mem_getD.1 hn
          exact absurd (by rw [he]; exact h) (hall.out i hi m hm)
      go_wp2_with fail
      go_returns
      exact ⟨by rw [HS.out]; rfl, kb⟩
theorem plcs_left {d : Int} : ∀ {l1 l2 : List Po}, (∀ p ∈ l2, p.1 ≠ d) → plcs (l1 ++ l2) d = plcs l1 d
  | [], [], _ => rfl
  | [], p :: l2, h => by
    have h0 := h p (by simp)
    show plcs (p :: l2) d = []
    simp only [plcs, if_neg h0]
    exact plcs_left (l1 := []) (fun q hq => h q (by simp [hq]))
  | p :: l1, l2, h => by
    show plcs (p :: (l1 ++ l2)) d = plcs (p :: l1) d
    unfold plcs
    split
    · rfl
    · exact plcs_left h
theorem plcs_right {d : Int} : ∀ {l1 l2 : List Po}, (∀ p ∈ l1, p.1 ≠ d) → plcs (l1 ++ l2) d = plcs l2 d
  | [], _, _ => rfl
  | p :: l1, l2, h => by
    have h0 := h p (by simp)
    show plcs (p :: (l1 ++ l2)) d = plcs l2 d
    simp only [plcs, if_neg h0]
    exact plcs_right (fun q hq => h q (by simp [hq]))
/-- A word's places in one document. -/
theorem plcs_psK (ds : List ByteArray) (s : ByteArray) : ∀ n d, d < n → plcs (psK ds s n) (d : Int) = plK (docAt ds d) s (docAt ds d).length
  | 0, d, h => by omega
  | n + 1, d, h => by
    simp only [psK]
    by_cases e : d = n
    · subst e
      rw [plcs_right (fun p hp => by have := (psK_doc ds s d p hp).2.1; omega)]
      split
      · rename_i h0; rw [h0]; rfl
      · simp [plcs]
    · rw [plcs_left (fun p hp => ?_), plcs_psK ds s n d (by omega)]
      split at hp
      · simp at hp
      · simp at hp; subst hp; simp; omega
theorem plK_small {L : List ByteArray} (h : L.length ≤ 20) (s : ByteArray) : (plK L s L.length).length ≤ 1000 ∧ ∀ n ∈ plK L s L.length, 0 ≤ n ∧ n ≤ 1000 := by
  refine ⟨by have := plK_len L s L.length; omega, fun n hn => ?_⟩
  have := plK_bd L s L.length n hn
  omega
/-- What NearIn has of a document. -/
def NrD (ds : List ByteArray) (a b : ByteArray) (y : Int) (d : Nat) : Prop := NrL (plK (docAt ds d) a (docAt ds d).length) (plK (docAt ds d) b (docAt ds d).length) y
/-- The list l is of the documents, of the first n, in which they are near. -/
inductive NrIs (ds : List ByteArray) (a b : ByteArray) (y : Int) : Nat → List Int → Prop
  | zero : NrIs ds a b y 0 []
  | yes {n l} : NrIs ds a b y n l → NrD ds a b y n → NrIs ds a b y (n + 1) (l ++ [(n : Int)])
  | no {n l} : NrIs ds a b y n l → ¬ NrD ds a b y n → NrIs ds a b y (n + 1) l
theorem nrIs_ex (ds : List ByteArray) (a b : ByteArray) (y : Int) : ∀ n, ∃ l, NrIs ds a b y n l
  | 0 => ⟨[], .zero⟩
  | n + 1 => by
    obtain ⟨l, h⟩ := nrIs_ex ds a b y n
    by_cases hd : NrD ds a b y n
    · exact ⟨_, .yes h hd⟩
    · exact ⟨_, .no h hd⟩
theorem NrIs.len {ds : List ByteArray} {a b : ByteArray} {y : Int} {n : Nat} {l : List Int} (h : NrIs ds a b y n l) : l.length ≤ n := by
  induction h with
  | zero => simp
  | yes h1 h2 ih => simp; omega
  | no h1 h2 ih => omega
theorem NrIs.uniq {ds : List ByteArray} {a b : ByteArray} {y : Int} {n : Nat} {l l' : List Int} (h : NrIs ds a b y n l) (g : NrIs ds a b y n l') : l = l' := by
  induction h generalizing l' with
  | zero => cases g; rfl
  | yes h1 h2 ih =>
    cases g with
    | yes g1 g2 => rw [ih g1]
    | no g1 g2 => exact absurd h2 g2
  | no h1 h2 ih =>
    cases g with
    | yes g1 g2 => exact absurd g2 h2
    | no g1 g2 => exact ih g1
/-- The same over posts of the first word. -/
inductive NqIs (PB : List Po) (y : Int) : List Po → List Int → Prop
  | zero : NqIs PB y [] []
  | yes {ps l p} : NqIs PB y ps l → NrL p.2 (plcs PB p.1) y → NqIs PB y (ps ++ [p]) (l ++ [p.1])
  | no {ps l p} : NqIs PB y ps l → ¬ NrL p.2 (plcs PB p.1) y → NqIs PB y (ps ++ [p]) l
theorem NqIs.uniq {PB : List Po} {y : Int} {ps : List Po} {l : List Int} (h : NqIs PB y ps l) : ∀ {qs : List Po} {l' : List Int}, NqIs PB y qs l' → ps = qs → l = l' := by
  induction h with
  | zero =>
    intro qs l' g he
    cases g with
    | zero => rfl
    | yes g1 g2 => simp at he
    | no g1 g2 => simp at he
  | yes h1 h2 ih =>
    intro qs l' g he
    cases g with
    | zero => simp at he
    | yes g1 g2 =>
      obtain ⟨e1, e2⟩ := List.append_inj' he rfl
      simp at e2
      subst e2
      rw [ih g1 e1]
    | no g1 g2 =>
      obtain ⟨e1, e2⟩ := List.append_inj' he rfl
      simp at e2
      subst e2
      exact absurd h2 g2
  | no h1 h2 ih =>
    intro qs l' g he
    cases g with
    | zero => simp at he
    | yes g1 g2 =>
      obtain ⟨e1, e2⟩ := List.append_inj' he rfl
      simp at e2
      subst e2
      exact absurd g2 h2
    | no g1 g2 =>
      obtain ⟨e1, e2⟩ := List.append_inj' he rfl
      simp at e2
      subst e2
      exact ih g1 e1
theorem NrIs.posts {ds : List ByteArray} {a b : ByteArray} {y : Int} {N n : Nat} {l : List Int} (h : NrIs ds a b y n l) (hn : n ≤ N) : NqIs (psK ds b N) y (psK ds a n) l := by
  induction h with
  | zero => exact .zero
  | yes h1 h2 ih =>
    rename_i n l
    have i := ih (by omega)
    have hne : plK (docAt ds n) a (docAt ds n).length ≠ [] := by
      obtain ⟨x, hx, _⟩ := h2
      intro e; rw [e] at hx; simp at hx
    have : psK ds a (n + 1) = psK ds a n ++ [((n : Int), plK (docAt ds n) a (docAt ds n).length)] := by simp only [psK]; rw [if_neg hne]
    rw [this]
    exact NqIs.yes (p := ((n : Int), plK (docAt ds n) a (docAt ds n).length)) i (by rw [plcs_psK ds b N n (by omega)]; exact h2)
  | no h1 h2 ih =>
    rename_i n l
    have i := ih (by omega)
    by_cases hne : plK (docAt ds n) a (docAt ds n).length = []
    · have : psK ds a (n + 1) = psK ds a n := by simp only [psK]; rw [if_pos hne, List.append_nil]
      rw [this]; exact i
    · have : psK ds a (n + 1) = psK ds a n ++ [((n : Int), plK (docAt ds n) a (docAt ds n).length)] := by simp only [psK]; rw [if_neg hne]
      rw [this]
      exact NqIs.no (p := ((n : Int), plK (docAt ds n) a (docAt ds n).length)) i (by rw [plcs_psK ds b N n (by omega)]; exact h2)
/-- What NearIn answers. -/
def neB (ds : List ByteArray) (a b : ByteArray) (y : Int) : Bool := docsB ds && wdB a && wdB b && decide (1 ≤ y ∧ y ≤ 20)
def NeIs (ds : List ByteArray) (a b : ByteArray) (y : Int) (A : List Int) : Prop := (neB ds a b y = true ∧ NrIs ds a b y ds.length A) ∨ (neB ds a b y = false ∧ A = [])
theorem neIs_ex (ds : List ByteArray) (a b : ByteArray) (y : Int) : ∃ A, NeIs ds a b y A := by
  cases h : neB ds a b y
  · exact ⟨[], .inr ⟨h, rfl⟩⟩
  · obtain ⟨l, hl⟩ := nrIs_ex ds a b y ds.length
    exact ⟨l, .inl ⟨h, hl⟩⟩
theorem NeIs.len {ds : List ByteArray} {a b : ByteArray} {y : Int} {A : List Int} (h : NeIs ds a b y A) : A.length ≤ 12 := by
  rcases h with ⟨h1, h2⟩ | ⟨_, h2⟩
  · unfold neB at h1
    simp only [Bool.and_eq_true] at h1
    have := (docs_yes h1.1.1.1).1
    have := h2.len
    omega
  · rw [h2]; simp
end Go.Proofs.Ytkkmnegmghllpaa
