/- Contracts of NeedsKid, model and program. Condition: the page lies in memory, none of its lists longer than the laws let through. -/
import Derived.Test.YtmmccjdkafojgaaNeedK
namespace Go.Proofs.Ytmmccjdkafojgaa
open Go.ChangeShapes Go.WideShapes Go.ChangeAt Go.RowKit Go.Deep
set_option linter.unusedVariables false
attribute [local go_sem ↓] Go.wp_at_zero Go.wp_at_succ

/-- What NeedsKid asks of its arguments. -/
def NkA (p : Sh) (k : Int) (f t : ByteArray) : Prop := GoodSh p ∧ GoodR f t ∧ 0 ≤ k ∧ k < (p.kids.length : Int)
theorem NkA.key {p : Sh} {k : Int} {f t : ByteArray} (h : NkA p k f t) : ∃ K : Nat, k = (K : Int) ∧ K ≤ p.keys.length ∧ k.toNat = K := by
  obtain ⟨⟨⟨_, _, hk, _⟩, _⟩, _, h0, h1⟩ := h
  refine ⟨k.toNat, by omega, by rcases hk with hk | hk <;> omega, rfl⟩
set_option maxHeartbeats 3200000 in
set_option maxRecDepth 100000 in
theorem specNK (p : Sh) (k : Int) (f t : ByteArray) (A N : Bool) (hA : A = true ↔ NkA p k f t) (hN : N = (A && needB p.keys k.toNat f t)) (kv vv cv : Value) (w : World) (hs : SmSh p) (hf : f.size ≤ maxLen) (ht : t.size ≤ maxLen) (h : ShAt w kv vv cv p) :
    Calls Try.prog 52 #[.agg #[kv, vv, cv, .int .i64 p.go], .int .i64 k, .string f, .string t] w fun e w' => e = .returned (.tuple #[.bool N, .bool A]) ∧ Below w.heap.size w w' := by
  obtain ⟨B, hB⟩ := bool_of (GoodSh p)
  obtain ⟨R, hR⟩ := bool_of (GoodR f t)
  have HS := hid h
  have HSP := fun W (hW : Below w.heap.size w W) => specGoodSh p B hB kv vv cv W hs (HS.out.below hW)
  have HRG := fun W => l7RangeB f t R hR W hf ht
  have HA := hid hA
  have HB := hid hB
  have HR := hid hR
  have HN := hid hN
  have hl1 := hs.1.1
  obtain ⟨ka, kc, rfl⟩ := strs_len h.1
  obtain ⟨va, vc, rfl⟩ := strs_len h.2.1
  obtain ⟨ca, cc, rfl⟩ := strs_len h.2.2
  by_cases hok : NkA p k f t
  · obtain ⟨K, rfl, hK, hKn⟩ := hok.key
    have e1 : B = true := HB.out.2 hok.1
    have e2 : R = true := HR.out.2 hok.2.1
    have i1 : ¬ ((K : Int) < 0) := by omega
    have i2 : ¬ ((p.kids.length : Int) ≤ (K : Int)) := by have := hok.2.2.2; omega
    have HAT : Hid (A = true) := HA.out.2 hok
    have HNT : Hid (N = needB p.keys K f t) := by show _ = _; rw [HN.out, HAT.out, hKn]; rfl
    have HND := fun W (hW : Below w.heap.size w W) => specNeeds p K f t _ _ _ W (HS.out.below hW) hK hl1
    rw [e1] at HSP
    rw [e2] at HRG
    generalize p.go = G at *
    clear e1 e2 hok hKn hA hB hR hN h hs HB HR HN HA
    go_enter Try.func52, Try.ntmps52
    go_wp2_with fail
    refine (HSP _ (by go_grown)).mono ?_
    rintro e w1 ⟨rfl, hb1⟩
    obtain ⟨hc1, hf1⟩ := bcell hb1
    have hz1 := hb1.size
    try simp only [World.size_drew] at hz1
    try simp only [World.size_setCell] at hz1
    try simp only [World.size_alloc] at hz1
    have hz1_0 : w.heap.size < w1.heap.size := by omega
    clear hz1
    have k1 : Below w.heap.size w w1 := by
      refine Below.trans ?_ (hb1.mono ?_)
      · go_grown
      · go_size
    have hl1 : w.heap.size ≤ w1.heap.size := k1.size
    clear hb1
    go_wp2_with fail
    refine (HRG _).mono ?_
    rintro e w2 ⟨rfl, hw2⟩
    subst w2
    go_wp2_with fail
    refine (HND _ k1).mono ?_
    rintro e w3 ⟨rfl, hb3⟩
    have k3 : Below w.heap.size w w3 := k1.trans (hb3.mono k1.size)
    clear hc1 hf1 hb3
    go_wp2
    go_returns
    exact ⟨by rw [HAT.out, HNT.out]; rfl, k3⟩
  · have HAT : Hid (A = false) := bool_no HA.out hok
    have HNT : Hid (N = false) := by show _ = _; rw [HN.out, HAT.out]; rfl
    have HNO : Hid (¬ (B = true ∧ R = true ∧ 0 ≤ k ∧ k < (p.kids.length : Int))) := fun h => hok ⟨HB.out.1 h.1, HR.out.1 h.2.1, h.2.2⟩
    generalize p.go = G at *
    clear hok hA hB hR hN h hs HB HR HN HA
    cases B with
    | false =>
      clear HNO
      go_enter Try.func52, Try.ntmps52
      go_wp2_with fail
      refine (HSP _ (by go_grown)).mono ?_
      rintro e w1 ⟨rfl, hb1⟩
      obtain ⟨hc1, hf1⟩ := bcell hb1
      have hz1 := hb1.size
      try simp only [World.size_drew] at hz1
      try simp only [World.size_setCell] at hz1
      try simp only [World.size_alloc] at hz1
      have hz1_0 : w.heap.size < w1.heap.size := by omega
      clear hz1
      have k1 : Below w.heap.size w w1 := by
        refine Below.trans ?_ (hb1.mono ?_)
        · go_grown
        · go_size
      have hl1 : w.heap.size ≤ w1.heap.size := k1.size
      clear hb1
      clear hc1 hf1
      go_wp2
      go_returns
      exact ⟨by rw [HAT.out, HNT.out]; rfl, k1⟩
    | true =>
      cases R with
      | false =>
        clear HNO
        go_enter Try.func52, Try.ntmps52
        go_wp2_with fail
        refine (HSP _ (by go_grown)).mono ?_
        rintro e w1 ⟨rfl, hb1⟩
        obtain ⟨hc1, hf1⟩ := bcell hb1
        have hz1 := hb1.size
        try simp only [World.size_drew] at hz1
        try simp only [World.size_setCell] at hz1
        try simp only [World.size_alloc] at hz1
        have hz1_0 : w.heap.size < w1.heap.size := by omega
        clear hz1
        have k1 : Below w.heap.size w w1 := by
          refine Below.trans ?_ (hb1.mono ?_)
          · go_grown
          · go_size
        have hl1 : w.heap.size ≤ w1.heap.size := k1.size
        clear hb1
        go_wp2_with fail
        refine (HRG _).mono ?_
        rintro e w2 ⟨rfl, hw2⟩
        subst w2
        clear hc1 hf1
        go_wp2
        go_returns
        exact ⟨by rw [HAT.out, HNT.out]; rfl, k1⟩
      | true =>
        by_cases i1 : k < 0
        · clear HNO
          go_enter Try.func52, Try.ntmps52
          go_wp2_with fail
          refine (HSP _ (by go_grown)).mono ?_
          rintro e w1 ⟨rfl, hb1⟩
          obtain ⟨hc1, hf1⟩ := bcell hb1
          have hz1 := hb1.size
          try simp only [World.size_drew] at hz1
          try simp only [World.size_setCell] at hz1
          try simp only [World.size_alloc] at hz1
          have hz1_0 : w.heap.size < w1.heap.size := by omega
          clear hz1
          have k1 : Below w.heap.size w w1 := by
            refine Below.trans ?_ (hb1.mono ?_)
            · go_grown
            · go_size
          have hl1 : w.heap.size ≤ w1.heap.size := k1.size
          clear hb1
          go_wp2_with fail
          refine (HRG _).mono ?_
          rintro e w2 ⟨rfl, hw2⟩
          subst w2
          clear hc1 hf1
          go_wp2
          go_returns
          exact ⟨by rw [HAT.out, HNT.out]; rfl, k1⟩
        · have i2 : (p.kids.length : Int) ≤ k := by
            have := HNO.out
            simp only [true_and] at this
            omega
          clear HNO
          go_enter Try.func52, Try.ntmps52
          go_wp2_with fail
          refine (HSP _ (by go_grown)).mono ?_
          rintro e w1 ⟨rfl, hb1⟩
          obtain ⟨hc1, hf1⟩ := bcell hb1
          have hz1 := hb1.size
          try simp only [World.size_drew] at hz1
          try simp only [World.size_setCell] at hz1
          try simp only [World.size_alloc] at hz1
          have hz1_0 : w.heap.size < w1.heap.size := by omega
          clear hz1
          have k1 : Below w.heap.size w w1 := by
            refine Below.trans ?_ (hb1.mono ?_)
            · go_grown
            · go_size
          have hl1 : w.heap.size ≤ w1.heap.size := k1.size
          clear hb1
          go_wp2_with fail
          refine (HRG _).mono ?_
          rintro e w2 ⟨rfl, hw2⟩
          subst w2
          go_wp2
          go_returns
          exact ⟨by rw [HAT.out, HNT.out]; rfl, k1⟩
theorem implKidIn (f t : ByteArray) (w : World) : Calls Try.prog 102 #[.string f, .string t] w fun e w' => ∃ b1 b2, e = .returned (.func (.func 134) #[] #[.pointer (some ⟨b1, 0, none⟩), .pointer (some ⟨b2, 0, none⟩)]) ∧ w'.cell? ⟨b1, 0, none⟩ = some (.string t) ∧ w'.cell? ⟨b2, 0, none⟩ = some (.string f) ∧ Below w.heap.size w w' := by
  go_enter Try.func102, Try.ntmps102
  go_wp2
  go_returns
  exact ⟨_, _, rfl, by simp [go_sem], by simp [go_sem], by go_grown⟩
set_option maxHeartbeats 3200000 in
set_option maxRecDepth 100000 in
theorem implNK (p : Sh) (k : Int) (f t : ByteArray) (A N : Bool) (hA : A = true ↔ NkA p k f t) (hN : N = (A && needB p.keys k.toNat f t)) (kv vv cv : Value) (w : World) (hs : SmSh p) (hf : f.size ≤ maxLen) (ht : t.size ≤ maxLen) (h : ShAt w kv vv cv p) :
    Calls Try.prog 54 #[.agg #[kv, vv, cv, .int .i64 p.go], .int .i64 k, .string f, .string t] w fun e w' => e = .returned (.tuple #[.bool N, .bool A]) ∧ Below w.heap.size w w' := by
  obtain ⟨B, hB⟩ := bool_of (GoodSh p)
  obtain ⟨R, hR⟩ := bool_of (GoodR f t)
  have HS := hid h
  have HSP := fun W (hW : Below w.heap.size w W) => implGoodSh p B hB kv vv cv W hs (HS.out.below hW)
  have HRG := fun W => goodRangeB f t R hR W hf ht
  have HA := hid hA
  have HB := hid hB
  have HR := hid hR
  have HN := hid hN
  have hl1 := hs.1.1
  obtain ⟨ka, kc, rfl⟩ := strs_len h.1
  obtain ⟨va, vc, rfl⟩ := strs_len h.2.1
  obtain ⟨ca, cc, rfl⟩ := strs_len h.2.2
  by_cases hok : NkA p k f t
  · obtain ⟨K, rfl, hK, hKn⟩ := hok.key
    have e1 : B = true := HB.out.2 hok.1
    have e2 : R = true := HR.out.2 hok.2.1
    have i1 : ¬ ((K : Int) < 0) := by omega
    have i2 : ¬ ((p.kids.length : Int) ≤ (K : Int)) := by have := hok.2.2.2; omega
    have HAT : Hid (A = true) := HA.out.2 hok
    have HNT : Hid (N = needB p.keys K f t) := by show _ = _; rw [HN.out, HAT.out, hKn]; rfl
    have HND := fun W b1 b2 (hW : Below w.heap.size w W) h1 h2 => kidNeeds p K f t _ W b1 b2 (HS.out.1.below hW) hK hl1 h1 h2
    rw [e1] at HSP
    rw [e2] at HRG
    generalize p.go = G at *
    clear e1 e2 hok hKn hA hB hR hN h hs HB HR HN HA
    go_enter Try.func54, Try.ntmps54
    go_wp2_with fail
    refine (HSP _ (by go_grown)).mono ?_
    rintro e w1 ⟨rfl, hb1⟩
    obtain ⟨hc1, hf1⟩ := bcell hb1
    have hz1 := hb1.size
    try simp only [World.size_drew] at hz1
    try simp only [World.size_setCell] at hz1
    try simp only [World.size_alloc] at hz1
    have hz1_0 : w.heap.size < w1.heap.size := by omega
    clear hz1
    have k1 : Below w.heap.size w w1 := by
      refine Below.trans ?_ (hb1.mono ?_)
      · go_grown
      · go_size
    have hl1 : w.heap.size ≤ w1.heap.size := k1.size
    clear hb1
    have bx1 : w1.cell? ⟨w.heap.size, 0, none⟩ = some (.slice ka p.keys.length kc) := (hc1 _ 0 (by simp)).trans (by simp [go_sem])
    go_wp2_with fail
    refine (HRG _).mono ?_
    rintro e w2 ⟨rfl, hw2⟩
    subst w2
    clear hc1 hf1
    go_upto_region 3 with fail
    have HKI := fun W => implKidIn f t W
    go_region_held3 (fun w' => w'.cell? ⟨w.heap.size, 0, none⟩ = some (.slice ka p.keys.length kc)) (first | go_keep | assumption | trivial)
      (first
        | (go_at_call 102; refine (HKI _).mono ?_; rintro e w4 ⟨b1, b2, rfl, q1, q2, hb4⟩; have k4 : Below w.heap.size w w4 := (by exact Below.trans (Below.drew k1) (hb4.mono (by simp; exact k1.size))); have c4 : w4.cell? ⟨w.heap.size, 0, none⟩ = some (.slice ka p.keys.length kc) := (by rw [hb4.cell (p := ⟨w.heap.size, 0, none⟩) (by simp; exact hz1_0)]; simpa using bx1); have kz4 : w1.heap.size ≤ w4.heap.size := (by have h7 := hb4.size; simpa using h7); clear hb4)
        | (go_at_call 134; refine (HND w4 b1 b2 k4 q1 q2).mono ?_; rintro e w5 ⟨rfl, hb5⟩; have c5 : w5.cell? ⟨w.heap.size, 0, none⟩ = some (.slice ka p.keys.length kc) := (by rw [hb5.cell (p := ⟨w.heap.size, 0, none⟩) (by exact Nat.lt_of_lt_of_le (by exact hz1_0) (by exact kz4))]; exact c4); have k5 : Below w.heap.size w w5 := (by exact Below.trans k4 (hb5.mono k4.size)); clear hb5))
    all_goals
      go_wp2
      go_returns
      exact ⟨by rw [HAT.out, HNT.out]; rfl, k5⟩
  · have HAT : Hid (A = false) := bool_no HA.out hok
    have HNT : Hid (N = false) := by show _ = _; rw [HN.out, HAT.out]; rfl
    have HNO : Hid (¬ (B = true ∧ R = true ∧ 0 ≤ k ∧ k < (p.kids.length : Int))) := fun h => hok ⟨HB.out.1 h.1, HR.out.1 h.2.1, h.2.2⟩
    generalize p.go = G at *
    clear hok hA hB hR hN h hs HB HR HN HA
    cases B with
    | false =>
      clear HNO
      go_enter Try.func54, Try.ntmps54
      go_wp2_with fail
      refine (HSP _ (by go_grown)).mono ?_
      rintro e w1 ⟨rfl, hb1⟩
      obtain ⟨hc1, hf1⟩ := bcell hb1
      have hz1 := hb1.size
      try simp only [World.size_drew] at hz1
      try simp only [World.size_setCell] at hz1
      try simp only [World.size_alloc] at hz1
      have hz1_0 : w.heap.size < w1.heap.size := by omega
      clear hz1
      have k1 : Below w.heap.size w w1 := by
        refine Below.trans ?_ (hb1.mono ?_)
        · go_grown
        · go_size
      have hl1 : w.heap.size ≤ w1.heap.size := k1.size
      clear hb1
      clear hc1 hf1
      go_wp2
      go_returns
      exact ⟨by rw [HAT.out, HNT.out]; rfl, k1⟩
    | true =>
      by_cases i1 : k < 0
      · clear HNO
        go_enter Try.func54, Try.ntmps54
        go_wp2_with fail
        refine (HSP _ (by go_grown)).mono ?_
        rintro e w1 ⟨rfl, hb1⟩
        obtain ⟨hc1, hf1⟩ := bcell hb1
        have hz1 := hb1.size
        try simp only [World.size_drew] at hz1
        try simp only [World.size_setCell] at hz1
        try simp only [World.size_alloc] at hz1
        have hz1_0 : w.heap.size < w1.heap.size := by omega
        clear hz1
        have k1 : Below w.heap.size w w1 := by
          refine Below.trans ?_ (hb1.mono ?_)
          · go_grown
          · go_size
        have hl1 : w.heap.size ≤ w1.heap.size := k1.size
        clear hb1
        clear hc1 hf1
        go_wp2
        go_returns
        exact ⟨by rw [HAT.out, HNT.out]; rfl, k1⟩
      · by_cases i2 : (p.kids.length : Int) ≤ k
        · clear HNO
          go_enter Try.func54, Try.ntmps54
          go_wp2_with fail
          refine (HSP _ (by go_grown)).mono ?_
          rintro e w1 ⟨rfl, hb1⟩
          obtain ⟨hc1, hf1⟩ := bcell hb1
          have hz1 := hb1.size
          try simp only [World.size_drew] at hz1
          try simp only [World.size_setCell] at hz1
          try simp only [World.size_alloc] at hz1
          have hz1_0 : w.heap.size < w1.heap.size := by omega
          clear hz1
          have k1 : Below w.heap.size w w1 := by
            refine Below.trans ?_ (hb1.mono ?_)
            · go_grown
            · go_size
          have hl1 : w.heap.size ≤ w1.heap.size := k1.size
          clear hb1
          go_wp2
          go_returns
          exact ⟨by rw [HAT.out, HNT.out]; rfl, k1⟩
        · have hR0 : R = false := by
            have := HNO.out
            cases R
            · rfl
            · simp only [true_and] at this; omega
          rw [hR0] at HRG
          clear HNO hR0
          go_enter Try.func54, Try.ntmps54
          go_wp2_with fail
          refine (HSP _ (by go_grown)).mono ?_
          rintro e w1 ⟨rfl, hb1⟩
          obtain ⟨hc1, hf1⟩ := bcell hb1
          have hz1 := hb1.size
          try simp only [World.size_drew] at hz1
          try simp only [World.size_setCell] at hz1
          try simp only [World.size_alloc] at hz1
          have hz1_0 : w.heap.size < w1.heap.size := by omega
          clear hz1
          have k1 : Below w.heap.size w w1 := by
            refine Below.trans ?_ (hb1.mono ?_)
            · go_grown
            · go_size
          have hl1 : w.heap.size ≤ w1.heap.size := k1.size
          clear hb1
          go_wp2_with fail
          refine (HRG _).mono ?_
          rintro e w2 ⟨rfl, hw2⟩
          subst w2
          go_wp2
          go_returns
          exact ⟨by rw [HAT.out, HNT.out]; rfl, k1⟩
end Go.Proofs.Ytmmccjdkafojgaa
