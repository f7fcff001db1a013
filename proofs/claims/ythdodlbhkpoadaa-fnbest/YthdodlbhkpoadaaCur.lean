/- Contracts of the drawing cursor: what it reads and writes, and the range of what it tells. Condition: the cursor's block and its bytes lie in memory. -/
import Derived.Test.YthdodlbhkpoadaaMix
import Derived.RegionTactic
import Derived.Deep.OwnRows
import Derived.Maps.AppendAt
import Derived.Laws.BitsAllLaws
namespace Go.Proofs.Ythdodlbhkpoadaa
open Go.ChangeShapes Go.WideShapes Go.ChangeAt Go.RowKit
set_option linter.unusedVariables false

theorem gb_drew {a b : World} {r : Option Nat} (h : a.grownBy b r) : a.grownBy b.drew r := ⟨h.os, h.tape, h.output, h.size, h.block⟩
theorem gb_alloc {a b : World} {r : Option Nat} (h : a.grownBy b r) (o : Obj) : a.grownBy (b.alloc o) r :=
  ⟨h.os, h.tape, h.output, Nat.le_trans h.size (by simp), fun k hk hn => (Below.heap_alloc b o k (Nat.lt_of_lt_of_le hk h.size)).trans (h.block k hk hn)⟩
theorem gb_set {a b : World} {g : Nat} (h : a.grownBy b (some g)) (o : Nat) (u : Value) : a.grownBy (b.setCell ⟨g, o, none⟩ u) (some g) :=
  ⟨h.os, h.tape, h.output, Nat.le_trans h.size (by simp [World.setCell]), fun k hk hn => (Below.heap_setCell b ⟨g, o, none⟩ u k (fun e => hn (by rw [e]))).trans (h.block k hk hn)⟩
theorem gb_below {a b : World} {g B : Nat} (h : a.grownBy b (some g)) (hB : B ≤ g) (hs : B ≤ a.heap.size) : Below B a b :=
  ⟨h.os, h.tape, h.output, h.size, fun k hk => h.block k (by omega) (fun e => by cases e; omega)⟩
theorem gb_of_below {a b : World} {g : Nat} (h : Below a.heap.size a b) : a.grownBy b (some g) := ⟨h.os, h.tape, h.output, h.size, fun k hk _ => h.block k hk⟩

/-- The cursor of block g holds the bytes v; it has gone at most m steps. -/
def CurAt (w : World) (g : Nat) (v : Value) (m : Nat) : Prop :=
  ∃ a s : Int, 0 ≤ a ∧ a ≤ m ∧ w.cell? ⟨g, 0, none⟩ = some v ∧ w.cell? ⟨g, 1, none⟩ = some (.int .i64 a) ∧ w.cell? ⟨g, 2, none⟩ = some (.int .u64 s) ∧ 0 ≤ s ∧ s ≤ 18446744073709551615 ∧
    w.frozen? ⟨g, 0, none⟩ = false ∧ w.frozen? ⟨g, 1, none⟩ = false ∧ w.frozen? ⟨g, 2, none⟩ = false
/-- The slice value v holds n bytes that lie elsewhere than in block g. -/
def BytesAt (w : World) (g : Nat) (v : Value) (n : Nat) : Prop :=
  ∃ ad c, v = .slice ad n c ∧ n ≤ 1048576 ∧ (n = 0 ∨ ∃ b off, ad = some ⟨b, off, none⟩ ∧ b ≠ g ∧ b < w.heap.size ∧ ∀ i, i < n → ∃ x : Int, 0 ≤ x ∧ x ≤ 255 ∧ w.cell? ⟨b, off + i, none⟩ = some (.int .u8 x))
theorem BytesAt.kept {w w' : World} {g n : Nat} {v : Value} (h : BytesAt w g v n) (hg : w.grownBy w' (some g)) : BytesAt w' g v n := by
  obtain ⟨ad, c, e, hn, h0 | ⟨b, off, e2, hb, hl, hc⟩⟩ := h
  · exact ⟨ad, c, e, hn, .inl h0⟩
  · refine ⟨ad, c, e, hn, .inr ⟨b, off, e2, hb, Nat.lt_of_lt_of_le hl hg.size, fun i hi => ?_⟩⟩
    obtain ⟨x, h0, h1, h2⟩ := hc i hi
    exact ⟨x, h0, h1, hg.cell h2 (fun e => hb (by cases e; rfl))⟩

theorem wrap_u64_bd (n : Int) : 0 ≤ IntKind.u64.wrap n ∧ IntKind.u64.wrap n ≤ 18446744073709551615 := by rw [IntKind.wrap_u64]; omega

theorem and255 (y : Int) (h0 : 0 ≤ y) (h1 : y ≤ 18446744073709551615) : 0 ≤ wrap64 (bits .and .u64 y 255) ∧ wrap64 (bits .and .u64 y 255) ≤ 255 := by
  have h := u64_and y 255 h0 (by omega) (by omega) (by omega)
  have h2 : y.toNat &&& (255 : Int).toNat ≤ 255 := Nat.and_le_right
  rw [h, IntWalk.wrap64_in _ (by omega)]
  omega

set_option maxHeartbeats 1600000 in
theorem nextIn (g : Nat) (v : Value) (n m : Nat) (w : World) (hc : CurAt w g v m) (hb : BytesAt w g v n) (hm : m ≤ 1000000) :
    Calls Try.prog 82 #[.pointer (some ⟨g, 0, none⟩)] w fun e w' => ∃ x : Int, e = .returned (.int .i64 x) ∧ 0 ≤ x ∧ x ≤ 255 ∧ CurAt w' g v (m + 1) ∧ w.grownBy w' (some g) := by
  obtain ⟨a, s, ha0, ha1, c0, c1, c2, hs0, hs1, f0, f1, f2⟩ := hc
  obtain ⟨ad, c, rfl, hn, hby⟩ := hb
  obtain ⟨A, rfl⟩ := Int.eq_ofNat_of_zero_le ha0
  by_cases hlt : A < n
  · rcases hby with h0 | ⟨b, off, rfl, hbg, hbl, hcell⟩
    · omega
    · obtain ⟨x, hx0, hx1, hx⟩ := hcell A hlt
      have hi1 : (A : Int) < (n : Int) := by omega
      clear hcell
      go_enter Try.func82, Try.ntmps82
      go_wp2
      go_region
      go_wp2
      go_region
      go_wp2
      go_region
      go_wp2
      go_ret
      have hwb := wrap_u64_bd (IntKind.u64.wrap (IntKind.u64.wrap (s * 6364136223846793005) + x) + 1442695040888963407)
      generalize IntKind.u64.wrap (IntKind.u64.wrap (IntKind.u64.wrap (s * 6364136223846793005) + x) + 1442695040888963407) = S at *
      refine ⟨x, rfl, hx0, hx1, ⟨A + 1, S, by omega, by omega, ?_, ?_, ?_, hwb.1, hwb.2, ?_, ?_, ?_⟩, ?_⟩
      all_goals first | (simp [*, go_sem]; done) | (repeat (first | exact World.grownBy.refl _ _ | apply gb_drew | apply gb_set))
  · have hi1 : ¬ (A : Int) < (n : Int) := by omega
    have hi2 : ¬ (A : Int) + 1 ≤ (n : Int) := by omega
    clear hby
    go_enter Try.func82, Try.ntmps82
    go_wp2
    go_region
    go_wp2
    go_region
    go_wp2
    go_ret
    have hwb := wrap_u64_bd (IntKind.u64.wrap (IntKind.u64.wrap (s * 6364136223846793005)) + 1442695040888963407)
    generalize IntKind.u64.wrap (IntKind.u64.wrap (IntKind.u64.wrap (s * 6364136223846793005)) + 1442695040888963407) = S at *
    have hx := and255 (S / 1099511627776) (by omega) (by omega)
    refine ⟨_, rfl, hx.1, hx.2, ⟨A + 1, S, by omega, by omega, ?_, ?_, ?_, hwb.1, hwb.2, ?_, ?_, ?_⟩, ?_⟩
    all_goals first | (simp [*, go_sem]; done) | (repeat (first | exact World.grownBy.refl _ _ | apply gb_drew | apply gb_set))

theorem CurAt.mono {w : World} {g : Nat} {v : Value} {m m' : Nat} (h : CurAt w g v m) (hm : m ≤ m') : CurAt w g v m' := by
  obtain ⟨a, s, h0, h1, h2⟩ := h
  exact ⟨a, s, h0, by omega, h2⟩
theorem CurAt.below {w w' : World} {g : Nat} {v : Value} {m : Nat} (h : CurAt w g v m) (hb : Below w.heap.size w w') : CurAt w' g v m := by
  obtain ⟨a, s, ha0, ha1, c0, c1, c2, hs0, hs1, f0, f1, f2⟩ := h
  have hlt : g < w.heap.size := World.block_lt_of_cell? w ⟨g, 0, none⟩ c0
  exact ⟨a, s, ha0, ha1, (hb.cell (p := ⟨g, 0, none⟩) hlt).trans c0, (hb.cell (p := ⟨g, 1, none⟩) hlt).trans c1, (hb.cell (p := ⟨g, 2, none⟩) hlt).trans c2, hs0, hs1,
    (hb.frozen (p := ⟨g, 0, none⟩) hlt).trans f0, (hb.frozen (p := ⟨g, 1, none⟩) hlt).trans f1, (hb.frozen (p := ⟨g, 2, none⟩) hlt).trans f2⟩

/-- What every drawing leaves: the cursor, gone on, and all other blocks as they were. -/
def Drawn (w w' : World) (g : Nat) (v : Value) (n m : Nat) : Prop := CurAt w' g v m ∧ BytesAt w' g v n ∧ w.grownBy w' (some g)

theorem mod_lo (x p : Int) (h : 0 ≤ x) (hp : 0 < p) : 0 ≤ x % p := Int.emod_nonneg _ (by omega)
theorem mod_hi (x p : Int) (h : 0 ≤ x) (hp : 0 < p) : x % p < p := Int.emod_lt_of_pos _ hp

set_option maxHeartbeats 1600000 in
theorem pickIn (g : Nat) (v : Value) (n m : Nat) (p : Int) (w : World) (hc : CurAt w g v m) (hb : BytesAt w g v n) (hm : m ≤ 1000000 - 2) (hp0 : 1 ≤ p) (hp1 : p ≤ 65536) :
    Calls Try.prog 63 #[.pointer (some ⟨g, 0, none⟩), .int .i64 p] w fun e w' => ∃ x : Int, e = .returned (.int .i64 x) ∧ 0 ≤ x ∧ x < p ∧ Drawn w w' g v n (m + 2) := by
  by_cases h1 : p ≤ 1
  · have hp : p = 1 := by omega
    subst hp
    go_enter Try.func63, Try.ntmps63
    go_wp2
    go_ret
    exact ⟨0, rfl, by omega, by omega, hc.mono (by omega), hb, World.grownBy.refl _ _⟩
  · by_cases h2 : p ≤ 200
    · have h2n : ¬ 200 < p := by omega
      have HC : Hid (CurAt w g v m) := hc
      have HB : Hid (BytesAt w g v n) := hb
      clear hc hb
      go_enter Try.func63, Try.ntmps63
      go_wp2_with fail
      refine (nextIn g v n m _ HC.out HB.out (by omega)).mono ?_
      rintro e w1 ⟨x, rfl, hx0, hx1, hc1, hg1⟩
      have hb1 := HB.out.kept hg1
      go_wp2
      go_ret
      refine ⟨_, rfl, ?_, ?_, hc1.mono (by omega), hb1, hg1⟩
      · exact mod_lo x p hx0 (by omega)
      · exact mod_hi x p hx0 (by omega)
    · have h2n : 200 < p := by omega
      have HC : Hid (CurAt w g v m) := hc
      have HB : Hid (BytesAt w g v n) := hb
      clear hc hb
      go_enter Try.func63, Try.ntmps63
      go_wp2_with fail
      refine (nextIn g v n m _ HC.out HB.out (by omega)).mono ?_
      rintro e w1 ⟨x, rfl, hx0, hx1, hc1, hg1⟩
      have HB1 : Hid (BytesAt w1 g v n) := HB.out.kept hg1
      have HC1 : Hid (CurAt w1 g v (m + 1)) := hc1
      clear hc1
      go_wp2_with fail
      refine (nextIn g v n (m + 1) _ HC1.out HB1.out (by omega)).mono ?_
      rintro e w2 ⟨y, rfl, hy0, hy1, hc2, hg2⟩
      have hb2 := HB1.out.kept hg2
      go_wp2
      go_ret
      refine ⟨_, rfl, ?_, ?_, hc2, hb2, hg1.trans hg2⟩
      · exact mod_lo (x * 256 + y) p (by omega) (by omega)
      · exact mod_hi (x * 256 + y) p (by omega) (by omega)
theorem Drawn.trans {a b c : World} {g : Nat} {v : Value} {n m m' : Nat} (h : Drawn a b g v n m) (k : Drawn b c g v n m') : Drawn a c g v n m' := ⟨k.1, k.2.1, h.2.2.trans k.2.2⟩
theorem Drawn.below {a b c : World} {g : Nat} {v : Value} {n m : Nat} (h : Drawn a b g v n m) (k : Below b.heap.size b c) : Drawn a c g v n m :=
  ⟨h.1.below k, h.2.1.kept (gb_of_below k), h.2.2.trans (gb_of_below k)⟩

set_option maxHeartbeats 800000 in
theorem oneIn (g : Nat) (v : Value) (n m : Nat) (p : Int) (w : World) (hc : CurAt w g v m) (hb : BytesAt w g v n) (hm : m ≤ 1000000 - 2) (hp0 : 1 ≤ p) (hp1 : p ≤ 65536) :
    Calls Try.prog 81 #[.pointer (some ⟨g, 0, none⟩), .int .i64 p] w fun e w' => ∃ x : Bool, e = .returned (.bool x) ∧ Drawn w w' g v n (m + 2) := by
  have HP := pickIn g v n m p w hc hb hm hp0 hp1
  clear hc hb
  go_enter Try.func81, Try.ntmps81
  go_wp2_with fail
  refine HP.mono ?_
  rintro e w1 ⟨x, rfl, hx0, hx1, hd⟩
  clear HP
  go_wp2
  go_ret
  exact ⟨_, rfl, hd⟩


set_option maxHeartbeats 800000 in
theorem amongIn (g : Nat) (v : Value) (n m : Nat) (zs : List Int) (b c : Nat) (w : World) (hc : CurAt w g v m) (hb : BytesAt w g v n) (hm : m ≤ 1000000 - 2) (hz0 : 1 ≤ zs.length) (hz1 : zs.length ≤ 65536)
    (hbg : b ≠ g) (hrow : ∀ i, i < zs.length → w.cell? ⟨b, i, none⟩ = some (.int .i64 (zs.getD i 0))) :
    Calls Try.prog 64 #[.pointer (some ⟨g, 0, none⟩), .slice (some ⟨b, 0, none⟩) zs.length c] w fun e w' => ∃ x : Int, e = .returned (.int .i64 x) ∧ x ∈ zs ∧ Drawn w w' g v n (m + 2) := by
  have HP := pickIn g v n m (zs.length : Int) w hc hb hm (by omega) (by omega)
  have HR : Hid (∀ i, i < zs.length → w.cell? ⟨b, i, none⟩ = some (.int .i64 (zs.getD i 0))) := hrow
  clear hc hb hrow
  go_enter Try.func64, Try.ntmps64
  go_wp2_with fail
  refine HP.mono ?_
  rintro e w1 ⟨x, rfl, hx0, hx1, hd⟩
  clear HP
  obtain ⟨k, rfl⟩ := Int.eq_ofNat_of_zero_le hx0
  have hk : k < zs.length := by omega
  have hcell : w1.cell? ⟨b, k, none⟩ = some (.int .i64 (zs.getD k 0)) := hd.2.2.cell (HR.out k hk) (fun e => hbg (by cases e; rfl))
  have HM : Hid (zs.getD k 0 ∈ zs) := by
    show _ ∈ _
    simp [List.getD, hk]
  generalize zs.getD k 0 = z at *
  go_wp2
  go_ret
  exact ⟨z, rfl, HM.out, hd⟩

end Go.Proofs.Ythdodlbhkpoadaa
