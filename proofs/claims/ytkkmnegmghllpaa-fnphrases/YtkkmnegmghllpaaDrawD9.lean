/- Contracts of the model's drawing of documents and words. Condition: the bytes that are drawn from lie in memory. -/
import Derived.Test.YtkkmnegmghllpaaBytesV
import Derived.Test.YtkkmnegmghllpaaWordQ
namespace Go.Proofs.Ytkkmnegmghllpaa
open Go.ChangeShapes Go.WideShapes Go.ChangeAt Go.RowKit Go.Deep
set_option linter.unusedVariables false
attribute [local go_sem ↓] Go.wp_at_zero Go.wp_at_succ

theorem CurAt.keep {w w' : World} {g : Nat} {v : Value} {m : Nat} (h : CurAt w g v m) (hb : w'.heap[g]? = w.heap[g]?) : CurAt w' g v m := by
  obtain ⟨a, s, h1, h2, h3, h4, h5, h6, h7, h8, h9, h10⟩ := h
  exact ⟨a, s, h1, h2, by simp only [World.cell?, hb]; exact h3, by simp only [World.cell?, hb]; exact h4, by simp only [World.cell?, hb]; exact h5, h6, h7, by simp only [World.frozen?, hb]; exact h8, by simp only [World.frozen?, hb]; exact h9, by simp only [World.frozen?, hb]; exact h10⟩
theorem Drawn.offN {w w1 w2 : World} {g : Nat} {v : Value} {n m : Nat} {S : List Nat} (hb : BytesAt w g v n) (hg : g < w.heap.size) (h : Drawn w w1 g v n m) (hO : Off S w1 w2) (hS : ∀ k ∈ S, w.heap.size ≤ k) : Drawn w w2 g v n m := by
  have h2 : w.grownBy w2 (some g) := ⟨hO.os.trans h.2.2.os, hO.tape.trans h.2.2.tape, hO.output.trans h.2.2.output, Nat.le_trans h.2.2.size hO.size, fun k hk hne => (hO.block k (Nat.lt_of_lt_of_le hk h.2.2.size) (fun hm => by have := hS k hm; omega)).trans (h.2.2.block k hk hne)⟩
  exact ⟨h.1.keep (hO.block g (Nat.lt_of_lt_of_le hg h.2.2.size) (fun hm => by have := hS g hm; omega)), hb.kept h2, h2⟩
theorem Drawn.mono8 {w w1 : World} {g : Nat} {v : Value} {n m m' : Nat} (h : Drawn w w1 g v n m) (hm : m ≤ m') : Drawn w w1 g v n m' := ⟨h.1.mono hm, h.2⟩
theorem drawn_off {w w1 : World} {g : Nat} {v : Value} {n m : Nat} (h : Drawn w w1 g v n m) : Off [g] w w1 := ⟨h.2.2.os, h.2.2.tape, h.2.2.output, h.2.2.size, fun k hk hn => h.2.2.block k hk (fun e => by cases e; exact hn (by simp))⟩
theorem own_drawn {w w1 : World} {g base : Nat} {v : Value} {n m : Nat} (h : Drawn w w1 g v n m) {e : TypeId} {x : Value} {k : Nat} {xs : List Value} (ho : OwnS w base e x k xs) (hg : g < base) : OwnS w1 base e x k xs :=
  ho.off (drawn_off h) (fun j hj hm => by have := (own_lt ho j hj).1; simp at hm; omega)
theorem info8b : (Try.prog.info? 5).map (fun i => (i.zero, i.size, i.bytes)) = some (some (.int .u8 0), 1, 1) := by kernel_rfl
theorem make8 (n : Nat) (h : n ≤ 601) (w : World) : (Instr.makeSlice 22 (.int .i64 (n : Int)) (.int .i64 (n : Int))).run Try.prog w = .ok (.slice (some ⟨w.heap.size, 0, none⟩) n n) (w.alloc (.cells (madeCells #[.int .u8 0] n) 5)) :=
  run_make_row' (P := Try.prog) 22 5 (.int .u8 0) 1 Try.underlying22 info8b rfl .i64 .i64 n (by omega) (by omega) w
theorem made_at (n i : Nat) (h : i < n) : (madeCells #[Value.int .u8 0] n)[i]? = some (.int .u8 0) := by
  simp [madeCells, h, Nat.mod_one]
theorem conv_zero (n : Nat) (w : World) (g : Nat) (hg : g = w.heap.size) : (convert 22 9 (.slice (some ⟨g, 0, none⟩) n n)).run Try.prog (w.alloc (.cells (madeCells #[.int .u8 0] n) 5)) = .ok (.string (strOfNums (List.replicate n 0))) (w.alloc (.cells (madeCells #[.int .u8 0] n) 5)) := by
  subst hg
  refine run_convert_bytes_arg _ 22 5 Try.underlying22 Try.underlying5 w.heap.size 0 n n (List.replicate n 0) (by simp) ?_ 9 Try.underlying9
  intro i hi
  simp [World.cell?_alloc_new, made_at n i hi, List.getD, hi]
def docZs : List ByteArray := [⟨#[114, 101, 100, 32]⟩, ⟨#[98, 108, 117, 101, 32]⟩, ⟨#[82, 101, 100, 32]⟩, ⟨#[115, 101, 97, 32]⟩, ⟨#[98, 111, 97, 116, 44, 32]⟩, ⟨#[116, 104, 101, 32]⟩, ⟨#[120, 49, 121, 32]⟩]
theorem doc_sz : ∀ x ∈ docZs, x.size ≤ 6 := by decide
def abcZ : ByteArray := ⟨#[97, 32, 98, 32, 99, 32, 100, 32, 101, 32, 102, 32, 103, 32, 104, 32, 105, 32, 106, 32, 107, 32, 108, 32, 109, 32, 110, 32, 111, 32, 112, 32, 113, 32, 114, 32, 115, 32, 116, 32, 117]⟩
theorem al9 (w : World) (o : Obj) : Below w.heap.size w (w.alloc o) := (Below.refl _ _).alloc (Nat.le_refl _) o
set_option maxHeartbeats 6400000 in
set_option maxRecDepth 100000 in
theorem docIn (g : Nat) (v : Value) (n m : Nat) (w : World) (hc : CurAt w g v m) (hb : BytesAt w g v n) (hm : m ≤ 1000000 - 100) :
    Calls Try.prog 64 #[.pointer (some ⟨g, 0, none⟩)] w fun e w' => ∃ s : ByteArray, e = .returned (.string s) ∧ s.size ≤ 121 ∧ Drawn w w' g v n (m + 24) := by
  have hgl := hc.lt
  have HB := hide hb
  have HD0 : Hid (Drawn w w g v n m) := ⟨hc, hb, World.grownBy.refl _ _⟩
  clear hc hb
  go_enter Try.func64, Try.ntmps64
  go_wp2_with fail
  refine (pickIn g v n m 8 w HD0.out.1 HD0.out.2.1 (by omega) (by omega) (by omega)).mono ?_
  rintro e w1 ⟨x0, rfl, hx0, hx1, hd1⟩
  have HD1 := hide hd1
  clear hd1 HD0
  go_wp2
  go_loopw [3, 4] (fun sv nn wr => ∃ (c : Nat) (z : Int) (s : ByteArray), sv = .string s ∧ nn = .int .i64 z ∧ 0 ≤ z ∧ z + c ≤ 7 ∧ s.size ≤ 6 * c ∧ Hid (Drawn w wr g v n (m + 2 + 2 * c))) (fun _ nn _ => (intOf nn).toNat)
  case atStart => exact ⟨0, _, ⟨#[]⟩, rfl, rfl, by omega, by omega, by decide, HD1.out⟩
  case round =>
    obtain ⟨c, z, s, rfl, rfl, hza, hzb, hsz, hD⟩ := hrel
    clear HD1
    by_cases hlt : 0 < z
    · have hg2 : g < wr.heap.size := Nat.lt_of_lt_of_le hgl hD.out.2.2.size
      have HDa := hide (hD.out.below (al9 wr (.cells #[.string ⟨#[114, 101, 100, 32]⟩, .string ⟨#[98, 108, 117, 101, 32]⟩, .string ⟨#[82, 101, 100, 32]⟩, .string ⟨#[115, 101, 97, 32]⟩, .string ⟨#[98, 111, 97, 116, 44, 32]⟩, .string ⟨#[116, 104, 101, 32]⟩, .string ⟨#[120, 49, 121, 32]⟩] 9)))
      clear hD
      go_wp2_with fail
      refine (ofIn g v n (m + 2 + 2 * c) docZs wr.heap.size 7 _ HDa.out.1 HDa.out.2.1 (by omega) (by decide) (by decide) (by omega) (by intro i hi; match i, hi with | 0, _ => simp [World.cell?_alloc_new, docZs] | 1, _ => simp [World.cell?_alloc_new, docZs] | 2, _ => simp [World.cell?_alloc_new, docZs] | 3, _ => simp [World.cell?_alloc_new, docZs] | 4, _ => simp [World.cell?_alloc_new, docZs] | 5, _ => simp [World.cell?_alloc_new, docZs] | 6, _ => simp [World.cell?_alloc_new, docZs])).mono ?_
      rintro e w2 ⟨x, rfl, hx, hd2⟩
      have hx6 := doc_sz x hx
      have HD2 : Hid (Drawn w w2 g v n (m + 2 + 2 * (c + 1))) := (HDa.out.trans hd2).mono8 (by omega)
      clear hd2 HDa hx hg2
      go_wp2
      refine ⟨?_, by simp [intOf]; omega⟩
      first | exact ⟨c + 1, z - 1, s ++ x, rfl, rfl, by omega, by omega, by rw [ByteArray.size_append]; omega, HD2.out⟩ | ((repeat apply Exists.intro); exact ⟨⟨c + 1, z - 1, s ++ x, rfl, rfl, by omega, by omega, by rw [ByteArray.size_append]; omega, HD2.out⟩, rfl⟩)
    · have hz : z = 0 := by omega
      subst hz
      have HD2 : Hid (Drawn w wr g v n (m + 16)) := hD.out.mono8 (by omega)
      clear hD
      go_wp2_with fail
      refine (oneIn g v n (m + 16) 40 wr HD2.out.1 HD2.out.2.1 (by omega) (by omega) (by omega)).mono ?_
      rintro e w2 ⟨o, rfl, hd2⟩
      have HD3 := hide (HD2.out.trans hd2)
      clear hd2 HD2
      cases o
      · go_wp2
        go_ret
        exact ⟨s, rfl, by omega, HD3.out.mono8 (by omega)⟩
      · have hmk := make8 121 (by omega)
        have hcz := conv_zero 121
        have hzs : (strOfNums (List.replicate 121 0)).size ≤ 121 := by rw [strOfNums_size, List.length_replicate]; exact Nat.le_refl _
        have hl2 := HD3.out.2.2.size
        simp only [show ((121 : Nat) : Int) = 121 from rfl] at hmk
        have hg2 : g < w2.heap.size := Nat.lt_of_lt_of_le hgl hl2
        generalize strOfNums (List.replicate 121 0) = Z at *
        have HDa := hide ((HD3.out.below (al9 w2 (.cells (madeCells #[.int .u8 0] 121) 5))).below (al9 _ (.cells #[.string abcZ, .string Z] 9)))
        clear HD3 hl2
        go_wp2_with fail
        refine (ofIn g v n (m + 16 + 2) [abcZ, Z] (w2.heap.size + 1) 2 _ HDa.out.1 HDa.out.2.1 (by omega) (by simp) (by simp) (by omega) (by
          have hs : w2.heap.size + 1 = (w2.alloc (.cells (madeCells #[.int .u8 0] 121) 5)).heap.size := by simp
          rw [hs]
          intro i hi; match i, hi with | 0, _ => simp only [World.cell?_alloc_new]; rfl | 1, _ => simp only [World.cell?_alloc_new]; rfl)).mono ?_
        rintro e w3 ⟨x, rfl, hx, hd4⟩
        have hx6 : x.size ≤ 121 := by
          simp at hx
          rcases hx with h | h
          · rw [h]; decide
          · rw [h]; exact hzs
        have HD4 : Hid (Drawn w w3 g v n (m + 24)) := (HDa.out.trans hd4).mono8 (by omega)
        clear hd4 HDa hx hcz hmk
        go_wp2
        go_ret
        exact ⟨x, rfl, hx6, HD4.out⟩
theorem infoSt9d : (Try.prog.info? 9).map (fun i => (i.zero, i.size, i.bytes)) = some (some (.string ByteArray.empty), 1, 16) := by kernel_rfl
set_option maxHeartbeats 6400000 in
set_option maxRecDepth 100000 in
theorem docsIn (g : Nat) (v : Value) (n m : Nat) (w : World) (hc : CurAt w g v m) (hb : BytesAt w g v n) (hm : m ≤ 1000000 - 500) :
    Calls Try.prog 52 #[.pointer (some ⟨g, 0, none⟩)] w fun e w' => ∃ (x : Value) (ds : List ByteArray), e = .returned x ∧ OwnS w' w.heap.size 9 x ds.length (strsV ds) ∧ ds.length ≤ 13 ∧ (∀ s ∈ ds, s.size ≤ 121) ∧ Drawn w w' g v n (m + 400) := by
  obtain ⟨i0, hi, hzz⟩ := Option.map_eq_some_iff.1 infoSt9d
  simp only [Prod.mk.injEq] at hzz
  obtain ⟨hz0, hz1, hz2⟩ := hzz
  have hgl := hc.lt
  have HB := hide hb
  have HD0 : Hid (Drawn w w g v n m) := ⟨hc, hb, World.grownBy.refl _ _⟩
  clear hc hb
  go_enter Try.func52, Try.ntmps52
  go_wp2_with fail
  refine (pickIn g v n m 7 w HD0.out.1 HD0.out.2.1 (by omega) (by omega) (by omega)).mono ?_
  rintro e w1 ⟨x0, rfl, hx0, hx1, hd1⟩
  have HD1 := hide hd1
  clear hd1 HD0
  go_wp2_with fail
  refine (oneIn g v n (m + 2) 20 w1 HD1.out.1 HD1.out.2.1 (by omega) (by omega) (by omega)).mono ?_
  rintro e w2 ⟨o, rfl, hd2⟩
  have HD2 := hide (HD1.out.trans hd2)
  clear hd2 HD1
  cases o
  case' false =>
    have HD3 := hide (HD2.out.mono8 (m' := m + 6) (by omega))
    clear HD2
    generalize w2 = w3 at *
    obtain ⟨z0, hz0e⟩ : ∃ z, z = x0 := ⟨_, rfl⟩
    have hzb : 0 ≤ z0 ∧ z0 ≤ 13 := by omega
    obtain ⟨hzb0, hzb1⟩ := hzb
    rw [← hz0e]
    clear hz0e hx0 hx1
  case' true =>
    go_wp2_with fail
    refine (pickIn g v n (m + 4) 2 w2 HD2.out.1 HD2.out.2.1 (by omega) (by omega) (by omega)).mono ?_
    rintro e w3 ⟨y0, rfl, hy0, hy1, hd3⟩
    have HD3 := hide (HD2.out.trans hd3)
    clear hd3 HD2
    obtain ⟨z0, hz0e⟩ : ∃ z, z = 12 + y0 := ⟨_, rfl⟩
    have hzb : 0 ≤ z0 ∧ z0 ≤ 13 := by omega
    obtain ⟨hzb0, hzb1⟩ := hzb
  all_goals
    go_wp2
    go_loopw [3, 4] (fun x nn wr => ∃ (c : Nat) (z : Int) (l : List ByteArray), nn = .int .i64 z ∧ 0 ≤ z ∧ z + c ≤ 13 ∧ Hid (OwnS wr w.heap.size 9 x c (strsV l)) ∧ l.length = c ∧ Hid (∀ s ∈ l, s.size ≤ 121) ∧ Hid (Drawn w wr g v n (m + 6 + 24 * c))) (fun _ nn _ => (intOf nn).toNat)
    case atStart => exact ⟨0, _, [], rfl, by omega, by omega, OwnS.nil _ _ _, rfl, by simp [Hid], HD3.out⟩
    case round =>
      obtain ⟨c, z, l, rfl, hza, hzb, hO, hlc, hA, hD⟩ := hrel
      obtain ⟨xa, xc, hxe⟩ := (rows_of_ownS hO.out).slice
      subst hxe
      have hws := hD.out.2.2.size
      clear HD3
      by_cases hlt : 0 < z
      · go_wp2_with fail
        refine (docIn g v n (m + 6 + 24 * c) wr hD.out.1 hD.out.2.1 (by omega)).mono ?_
        rintro e w4 ⟨s, rfl, hs, hd4⟩
        have HO4 := hide (own_drawn hd4 hO.out hgl)
        have HD4 := hide (hD.out.trans hd4)
        have hws4 := HD4.out.2.2.size
        have how := HO4.out
        have HS := hide hs
        clear hd4 hD hO hs
        go_wp2_with (first | (at_builtin; refine wplS rfl _ _ 23 rfl w.heap.size 9 i0 (.string ByteArray.empty) 16 Try.underlying23 hi hz0 hz1 hz2 rfl _ _ _ rfl (how.alloc _) _ 1 [.string s] rfl (news1 _ _ _) ?c1 ?c2 ?c3 ?c4 ?_) | fail)
        case c1 => first | rfl | (intro u hu; simp at hu; subst hu; rfl)
        case c2 => unfold maxLen; omega
        case c3 => omega
        case c4 => first | omega | (simp; omega)
        intro x1 w6 ho1 hg1 he1
        obtain ⟨ya, yc, hye⟩ := (rows_of_ownS ho1).slice
        subst hye
        have HO6 : Hid (OwnS w6 w.heap.size 9 (.slice ya (c + 1) yc) (c + 1) (strsV (l ++ [s]))) := by
          show OwnS _ _ _ _ _ _
          simpa [strsV] using ho1
        have HD6 : Hid (Drawn w w6 g v n (m + 6 + 24 * (c + 1))) := (Drawn.offN HB.out hgl (HD4.out.below (al9 _ _)) hg1 (fun k hk => (own_lt how k hk).1)).mono8 (by omega)
        have HA6 : Hid (∀ u ∈ l ++ [s], u.size ≤ 121) := fun u hu => by
          rcases List.mem_append.1 hu with h | h
          · exact hA.out u h
          · simp at h; rw [h]; exact HS.out
        clear ho1 hg1 he1 how HO4 HD4
        go_wp2
        refine ⟨?_, by simp [intOf]; omega⟩
        first | exact ⟨c + 1, z - 1, l ++ [s], rfl, by omega, by omega, HO6.out, by simp [hlc], HA6.out, HD6.out⟩ | ((repeat apply Exists.intro); exact ⟨⟨c + 1, z - 1, l ++ [s], rfl, by omega, by omega, HO6.out, by simp [hlc], HA6.out, HD6.out⟩, rfl⟩)
      · have HD8 : Hid (Drawn w wr g v n (m + 400)) := hD.out.mono8 (by omega)
        rw [← hlc] at hO
        subst hlc
        clear hD
        go_wp2
        go_returns
        first | exact ⟨_, l, rfl, hO.out, by omega, hA.out, HD8.out⟩ | exact ⟨_, rfl, l, hO.out, by omega, hA.out, HD8.out⟩
def wordZs : List ByteArray := [⟨#[114, 101, 100]⟩, ⟨#[98, 108, 117, 101]⟩, ⟨#[115, 101, 97]⟩, ⟨#[98, 111, 97, 116]⟩, ⟨#[116, 104, 101]⟩, ⟨#[120]⟩, ⟨#[121]⟩, ⟨#[110, 111, 110, 101]⟩, ⟨#[]⟩, ⟨#[82, 101, 100]⟩]
theorem word_sz : ∀ x ∈ wordZs, x.size ≤ 4 := by decide
set_option maxHeartbeats 6400000 in
set_option maxRecDepth 100000 in
theorem wordIn (g : Nat) (v : Value) (n m : Nat) (w : World) (hc : CurAt w g v m) (hb : BytesAt w g v n) (hm : m ≤ 1000000 - 100) :
    Calls Try.prog 53 #[.pointer (some ⟨g, 0, none⟩)] w fun e w' => ∃ s : ByteArray, e = .returned (.string s) ∧ s.size ≤ 4 ∧ Drawn w w' g v n (m + 2) := by
  have hgl := hc.lt
  have HD0 : Hid (Drawn w w g v n m) := ⟨hc, hb, World.grownBy.refl _ _⟩
  clear hc hb
  have HDa := hide (HD0.out.below (al9 w (.cells #[.string ⟨#[114, 101, 100]⟩, .string ⟨#[98, 108, 117, 101]⟩, .string ⟨#[115, 101, 97]⟩, .string ⟨#[98, 111, 97, 116]⟩, .string ⟨#[116, 104, 101]⟩, .string ⟨#[120]⟩, .string ⟨#[121]⟩, .string ⟨#[110, 111, 110, 101]⟩, .string ⟨#[]⟩, .string ⟨#[82, 101, 100]⟩] 9)))
  clear HD0
  go_enter Try.func53, Try.ntmps53
  go_wp2_with fail
  refine (ofIn g v n m wordZs w.heap.size 10 _ HDa.out.1 HDa.out.2.1 (by omega) (by decide) (by decide) (by omega) (by intro i hi; match i, hi with | 0, _ => simp [World.cell?_alloc_new, wordZs] | 1, _ => simp [World.cell?_alloc_new, wordZs] | 2, _ => simp [World.cell?_alloc_new, wordZs] | 3, _ => simp [World.cell?_alloc_new, wordZs] | 4, _ => simp [World.cell?_alloc_new, wordZs] | 5, _ => simp [World.cell?_alloc_new, wordZs] | 6, _ => simp [World.cell?_alloc_new, wordZs] | 7, _ => simp [World.cell?_alloc_new, wordZs] | 8, _ => simp [World.cell?_alloc_new, wordZs] | 9, _ => simp [World.cell?_alloc_new, wordZs])).mono ?_
  rintro e w2 ⟨x, rfl, hx, hd2⟩
  have hx6 := word_sz x hx
  have HD2 := hide (HDa.out.trans hd2)
  clear hd2 HDa hx
  go_wp2
  go_ret
  exact ⟨x, rfl, hx6, HD2.out⟩
end Go.Proofs.Ytkkmnegmghllpaa
