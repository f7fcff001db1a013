/- Contracts of the model's bytes of a value. Condition: a good value. -/
import Derived.Test.YtolkiofdbdjfkaaSpecVal
import Derived.Deep.AppendLies
namespace Go.Proofs.Ytolkiofdbdjfkaa
open Go.ChangeShapes Go.WideShapes Go.ChangeAt Go.RowKit Go.Deep
set_option linter.unusedVariables false
attribute [local go_sem ↓] Go.wp_at_zero Go.wp_at_succ

def bytesV (v : VV) : ByteArray := ⟨(bytesL v).toArray⟩
theorem info8 : (Try.prog.info? 5).map (fun i => (i.zero, i.size, i.bytes)) = some (some (.int .u8 0), 1, 1) := by kernel_rfl
/-- Bytes as values. -/
def u8s (R : List UInt8) : List Value := R.map fun c => Value.int .u8 (c.toNat : Int)
theorem u8s_append (a b : List UInt8) : u8s (a ++ b) = u8s a ++ u8s b := by simp [u8s]
theorem conv_own (w : World) (base : Nat) (v : Value) (R : List UInt8) (h : w.ownsRow base 5 1 v R.length (u8s R)) :
    (convert 22 9 v).run Try.prog w = .ok (.string ⟨R.toArray⟩) w := by
  have hc := fun g hg => h.cells (g := g) hg
  obtain ⟨hl, ⟨rfl, h0⟩ | ⟨g, cap, cur, rfl, hb, hcur, _, _, _, _⟩⟩ := h
  · have hR : R = [] := List.eq_nil_of_length_eq_zero h0
    subst hR
    exact run_convert_bytes_nil w 22 5 Try.underlying22 Try.underlying5 0 0 9 Try.underlying9
  · refine run_convert_bytes_back w 22 9 5 ⟨g, 0, none⟩ cap R Try.underlying22 Try.underlying5 Try.underlying9 (fun j hj => ?_)
    exact hc g rfl j _ (by simp [u8s, hj])
/-- The bytes of a text without its end. -/
def escP : List UInt8 → List UInt8
  | [] => []
  | c :: r => if c = 0 then 0 :: 255 :: escP r else c :: escP r
theorem esc_P (t : List UInt8) : esc t = escP t ++ [0, 0] := by
  induction t with
  | nil => rfl
  | cons c r ih => by_cases h : c = 0 <;> simp [esc, escP, h, ih]
theorem escP_append (a b : List UInt8) : escP (a ++ b) = escP a ++ escP b := by
  induction a with
  | nil => rfl
  | cons c r ih => by_cases h : c = 0 <;> simp [escP, h, ih]
theorem escP_len (t : List UInt8) : (escP t).length ≤ 2 * t.length := by
  induction t with
  | nil => simp [escP]
  | cons c r ih =>
    by_cases h : c = 0
    · simp [escP, h]; omega
    · simp [escP, h]; omega
theorem takeU (s : ByteArray) (k : Nat) (h : k < s.size) : s.data.toList.take (k + 1) = s.data.toList.take k ++ [s[k]] := by
  have h' : k < s.data.toList.length := by simpa using h
  rw [List.take_succ_eq_append_getElem h']
  simp [ByteArray.getElem_eq_getElem_data]
theorem bytesL_len {v : VV} (h : GoodV v) : (bytesL v).length ≤ 27 := by
  rcases h with ⟨h, _⟩ | ⟨h, _⟩ | ⟨h, _⟩ | ⟨h, _, hz⟩
  · rw [bytesL_1 h]; decide
  · rw [bytesL_2 h]; simp
  · rw [bytesL_3 h]; simp [be4]
  · rw [bytesL_4 h, esc_P]
    have := escP_len v.t.data.toList
    have h2 : v.t.data.toList.length = v.t.size := by simp
    simp
    omega
theorem newsAt (X : World) (cs : Array Value) (T : TypeId) (b : Nat) (h : b = X.heap.size) : ∀ j u, cs.toList[j]? = some u → (X.alloc (.cells cs T)).cell? ((⟨b, 0, none⟩ : Addr).add j) = some u := by
  subst h
  exact World.news_of_block (cs := cs) (t := T) (fr := (0, 0)) (heap_alloc_new X _)
theorem be4_u8 (m : Nat) (h : m ≤ 2000000000) : [Value.int .u8 ((m : Int) / 16777216), .int .u8 ((m : Int) / 65536 % 256), .int .u8 ((m : Int) / 256 % 256), .int .u8 ((m : Int) % 256)] = u8s (be4 m) := by
  have e1 : ((UInt8.ofNat (m / 16777216)).toNat : Int) = (m : Int) / 16777216 := by rw [UInt8.toNat_ofNat']; omega
  have e2 : ((UInt8.ofNat (m / 65536)).toNat : Int) = (m : Int) / 65536 % 256 := by rw [UInt8.toNat_ofNat']; omega
  have e3 : ((UInt8.ofNat (m / 256)).toNat : Int) = (m : Int) / 256 % 256 := by rw [UInt8.toNat_ofNat']; omega
  have e4 : ((UInt8.ofNat m).toNat : Int) = (m : Int) % 256 := by rw [UInt8.toNat_ofNat']; omega
  simp only [u8s, be4, List.map_cons, List.map_nil, e1, e2, e3, e4]

set_option maxHeartbeats 3200000 in
set_option maxRecDepth 100000 in
theorem specBytes (v : VV) (w : World) (h : GoodV v) :
    Calls Try.prog 58 #[encV v] w fun e w' => e = .returned (.string (bytesV v)) ∧ Below w.heap.size w w' := by
  obtain ⟨i0, hi, hzz⟩ := Option.map_eq_some_iff.1 info8
  simp only [Prod.mk.injEq] at hzz
  obtain ⟨hz0, hz1, hz2⟩ := hzz
  obtain ⟨k, n, t⟩ := v
  unfold GoodV at h
  simp only [] at h
  unfold encV bytesV
  simp only []
  rcases h with ⟨rfl, rfl, rfl⟩ | ⟨rfl, h2, rfl⟩ | ⟨rfl, h2, rfl⟩ | ⟨rfl, rfl, h3⟩
  · have hcv := conv_own ((w.alloc (.cells #[.int .i64 1, .int .i64 0, .string ByteArray.empty] 24)).alloc (.cells #[.int .u8 1] 5)) w.heap.size (.slice (some ⟨w.heap.size + 1, 0, none⟩) 1 1) [1] (by
      have := World.ownsRow_lit (base := w.heap.size) (e := 5) (size := 1) (w.alloc (.cells #[.int .i64 1, .int .i64 0, .string ByteArray.empty] 24)) #[.int .u8 1] 1 (by simp) (by decide) rfl
      rwa [World.size_alloc] at this)
    rw [bytesL_1 rfl]
    go_enter Try.func58, Try.ntmps58
    go_wp2
    go_returns
    exact ⟨rfl, by go_grown⟩
  · have hown0 : ((w.alloc (.cells #[.int .i64 2, .int .i64 n, .string ByteArray.empty] 24)).alloc (.cells #[.int .u8 2] 5)).ownsRow w.heap.size 5 1 (.slice (some ⟨w.heap.size + 1, 0, none⟩) 1 1) 1 [.int .u8 2] := by
      have := World.ownsRow_lit (base := w.heap.size) (e := 5) (size := 1) (w.alloc (.cells #[.int .i64 2, .int .i64 n, .string ByteArray.empty] 24)) #[.int .u8 2] 1 (by simp) (by decide) rfl
      rwa [World.size_alloc] at this
    rw [bytesL_2 rfl]
    simp only []
    have hw8 : IntKind.u8.wrap n = n := by rw [IntKind.wrap_u8]; omega
    have hof : ((UInt8.ofNat n.toNat).toNat : Int) = n := by
      rw [UInt8.toNat_ofNat', Nat.mod_eq_of_lt (by omega)]; omega
    go_enter Try.func58, Try.ntmps58
    go_wp2_with (first | (at_builtin; refine wpList_append_own _ rfl _ _ 22 rfl w.heap.size 5 i0 (.int .u8 0) 1 1 Try.underlying22 hi hz0 hz1 hz2 rfl (by decide) _ _ _ rfl (hown0.alloc _) ⟨w.heap.size + 1 + 1, 0, none⟩ 1 1 [.int .u8 n] rfl rfl ?c1 ?c2 ?c3 ?c4 ?c5 ?_) | fail)
    case c1 => exact newsAt _ #[.int .u8 n] _ _ (by simp)
    case c2 => intro u hu; simp at hu; subst hu; rfl
    case c3 => decide
    case c4 => decide
    case c5 => simp; omega
    intro v1 w1 hown1 hg1 _
    have kb1 : Below w.heap.size w w1 := ((((Below.refl _ w).alloc (Nat.le_refl _) _).alloc (by simp) _).alloc (by simp; omega) _).grown hg1 (by simp; omega) (fun r hr => (hown0.lt r hr).1)
    have eu : [Value.int .u8 2, Value.int .u8 n] = u8s [2, UInt8.ofNat n.toNat] := by simp only [u8s, List.map_cons, List.map_nil, hof]; rfl
    (try simp only [List.cons_append, List.nil_append] at hown1)
    rw [eu] at hown1
    have hcv := conv_own w1 w.heap.size v1 [2, UInt8.ofNat n.toNat] hown1
    clear eu
    clear hg1 hown0
    go_wp2
    go_returns
    exact ⟨rfl, kb1⟩
  · obtain ⟨m, hm⟩ : ∃ m : Nat, n + 1000000000 = (m : Int) := ⟨(n + 1000000000).toNat, by omega⟩
    have hm2 : m ≤ 2000000000 := by omega
    have hown0 : ((w.alloc (.cells #[.int .i64 3, .int .i64 n, .string ByteArray.empty] 24)).alloc (.cells #[.int .u8 3] 5)).ownsRow w.heap.size 5 1 (.slice (some ⟨w.heap.size + 1, 0, none⟩) 1 1) 1 [.int .u8 3] := by
      have := World.ownsRow_lit (base := w.heap.size) (e := 5) (size := 1) (w.alloc (.cells #[.int .i64 3, .int .i64 n, .string ByteArray.empty] 24)) #[.int .u8 3] 1 (by simp) (by decide) rfl
      rwa [World.size_alloc] at this
    have hnm : n = (m : Int) - 1000000000 := by omega
    rw [bytesL_3 rfl]
    simp only []
    have hmt : (n + 1000000000).toNat = m := by omega
    rw [hmt]
    have hwm : IntKind.i64.wrap (n + 1000000000) = (m : Int) := by rw [hm, IntKind.wrap_i64]; omega
    clear hnm hmt
    go_enter Try.func58, Try.ntmps58
    go_wp2_with (first | (at_builtin; refine wpList_append_own _ rfl _ _ 22 rfl w.heap.size 5 i0 (.int .u8 0) 1 1 Try.underlying22 hi hz0 hz1 hz2 rfl (by decide) _ _ _ rfl (hown0.alloc _) ⟨w.heap.size + 1 + 1, 0, none⟩ 4 4 [.int .u8 ((m : Int) / 16777216), .int .u8 ((m : Int) / 65536 % 256), .int .u8 ((m : Int) / 256 % 256), .int .u8 ((m : Int) % 256)] rfl rfl ?c1 ?c2 ?c3 ?c4 ?c5 ?_) | fail)
    case c1 => exact newsAt _ #[.int .u8 ((m : Int) / 16777216), .int .u8 ((m : Int) / 65536 % 256), .int .u8 ((m : Int) / 256 % 256), .int .u8 ((m : Int) % 256)] _ _ (by simp)
    case c2 => intro u hu; simp at hu; rcases hu with rfl | rfl | rfl | rfl <;> rfl
    case c3 => decide
    case c4 => decide
    case c5 => simp; omega
    intro v1 w1 hown1 hg1 _
    have kb1 : Below w.heap.size w w1 := ((((Below.refl _ w).alloc (Nat.le_refl _) _).alloc (by simp) _).alloc (by simp; omega) _).grown hg1 (by simp; omega) (fun r hr => (hown0.lt r hr).1)
    have hu3 : Value.int .u8 3 :: [.int .u8 ((m : Int) / 16777216), .int .u8 ((m : Int) / 65536 % 256), .int .u8 ((m : Int) / 256 % 256), .int .u8 ((m : Int) % 256)] = u8s (3 :: be4 m) := by rw [be4_u8 m hm2]; rfl
    (try simp only [List.cons_append, List.nil_append] at hown1)
    rw [hu3] at hown1
    have hcv := conv_own w1 w.heap.size v1 (3 :: be4 m) hown1
    clear hg1 hown0 hu3
    go_wp2
    go_returns
    exact ⟨rfl, kb1⟩
  · have hown0 : ((w.alloc (.cells #[.int .i64 4, .int .i64 0, .string t] 24)).alloc (.cells #[.int .u8 4] 5)).ownsRow (w.heap.size + 1) 5 1 (.slice (some ⟨w.heap.size + 1, 0, none⟩) 1 1) 1 [.int .u8 4] := by
      have := World.ownsRow_lit (base := w.heap.size + 1) (e := 5) (size := 1) (w.alloc (.cells #[.int .i64 4, .int .i64 0, .string t] 24)) #[.int .u8 4] 1 (by simp) (by decide) rfl
      rwa [World.size_alloc] at this
    obtain ⟨W0, hW0⟩ : ∃ W0, w.alloc (.cells #[.int .i64 4, .int .i64 0, .string t] 24) = W0 := ⟨_, rfl⟩
    have hz0' : W0.heap.size = w.heap.size + 1 := by rw [← hW0]; simp
    have hbx : W0.cell? ⟨w.heap.size, 2, none⟩ = some (.string t) := by rw [← hW0]; simp
    have kb0 : Below w.heap.size w W0 := by rw [← hW0]; exact (Below.refl _ w).alloc (Nat.le_refl _) _
    have hb0 : Below (w.heap.size + 1) W0 (W0.alloc (.cells #[.int .u8 4] 5)) := (Below.refl _ W0).alloc (by omega) _
    have HW0 : Hid (_ = W0) := hW0
    clear hW0
    rw [bytesL_4 rfl]
    simp only []
    have HE : Hid (esc t.data.toList = escP t.data.toList ++ [0, 0]) := esc_P _
    go_enter Try.func58, Try.ntmps58
    go_wp2_with fail
    rw [HW0.out] at hown0 ⊢
    go_loopw [3, 5] (fun x i wr => ∃ k : Nat, k ≤ t.size ∧ i = .int .i64 k ∧ wr.ownsRow (w.heap.size + 1) 5 1 x (4 :: escP (t.data.toList.take k)).length (u8s (4 :: escP (t.data.toList.take k))) ∧ Below (w.heap.size + 1) W0 wr) (fun _ i _ => t.size - (intOf i).toNat)
    case atStart => exact ⟨0, Nat.zero_le _, rfl, hown0, hb0⟩
    case round =>
      obtain ⟨k, hk, rfl, hown, kb⟩ := hrel
      have kl := kb.size
      have hbk : wr.cell? ⟨w.heap.size, 2, none⟩ = some (.string t) := (kb.cell (p := ⟨w.heap.size, 2, none⟩) (by show w.heap.size < w.heap.size + 1; omega)).trans hbx
      have hR : (4 :: escP (t.data.toList.take k)).length ≤ 25 := by
        have h1 := escP_len (t.data.toList.take k)
        have h2 : (t.data.toList.take k).length ≤ 12 := by simp; omega
        simp; omega
      have hwk : w.heap.size < wr.heap.size := by omega
      by_cases hlt : k < t.size
      · have HS : Hid (4 :: escP (t.data.toList.take (k + 1)) = (4 :: escP (t.data.toList.take k)) ++ escP [t[k]]) := by
          show _ = _
          rw [takeU t k hlt, escP_append]; rfl
        generalize 4 :: escP (t.data.toList.take k) = R at *
        have hki : (k : Int) < (t.size : Int) := by omega
        have hk0 : (0 : Int) ≤ (k : Int) := by omega
        obtain ⟨c, hc⟩ : ∃ c : UInt8, c = t[k] := ⟨_, rfl⟩
        have HC : Hid (c = t[k]) := hc
        clear hc
        rw [← HC.out] at HS
        go_wp2_with (first | (at_builtin; refine wpList_append_own _ rfl _ _ 22 rfl (w.heap.size + 1) 5 i0 (.int .u8 0) 1 1 Try.underlying22 hi hz0 hz1 hz2 rfl (by decide) _ _ _ rfl (hown.alloc _) ⟨wr.heap.size, 0, none⟩ 1 1 [.int .u8 (t[k].toNat : Int)] rfl rfl ?c1 ?c2 ?c3 ?c4 ?c5 ?_) | fail)
        case c1 => exact newsAt _ #[.int .u8 (t[k].toNat : Int)] _ _ rfl
        case c2 => intro u hu; simp at hu; subst hu; rfl
        case c3 => unfold maxLen; omega
        case c4 => omega
        case c5 => simp; omega
        intro v1 w1 hown1 hg1 _
        have kb1 : Below (w.heap.size + 1) W0 w1 := (kb.alloc (by omega) _).grown hg1 (by simp; omega) (fun r hr => (hown.lt r hr).1)
        have kl1 := kb1.size
        have hb1 : w1.cell? ⟨w.heap.size, 2, none⟩ = some (.string t) := (kb1.cell (p := ⟨w.heap.size, 2, none⟩) (by show w.heap.size < w.heap.size + 1; omega)).trans hbx
        rw [← HC.out] at hown1
        have e1 : R.length + 1 = (R ++ [c]).length := by simp
        have e2 : u8s R ++ [Value.int .u8 (c.toNat : Int)] = u8s (R ++ [c]) := by rw [u8s_append]; rfl
        rw [e1, e2] at hown1
        clear hg1 hbk hown e1 e2
        by_cases hz : c = 0
        · have hzt : (t[k].toNat : Int) = 0 := by rw [← HC.out, hz]; rfl
          have HSz : Hid (4 :: escP (t.data.toList.take (k + 1)) = R ++ [c] ++ [255]) := by
            show _ = _
            rw [HS.out, hz]; simp [escP]
          generalize hR2 : R ++ [c] = R2 at *
          have hR2l : R2.length ≤ 26 := by rw [← hR2]; simp; omega
          clear hR2
          go_wp2_with (first | (at_builtin; refine wpList_append_own _ rfl _ _ 22 rfl (w.heap.size + 1) 5 i0 (.int .u8 0) 1 1 Try.underlying22 hi hz0 hz1 hz2 rfl (by decide) _ _ _ rfl (hown1.alloc _) ⟨w1.heap.size, 0, none⟩ 1 1 [.int .u8 255] rfl rfl ?d1 ?d2 ?d3 ?d4 ?d5 ?_) | fail)
          case d1 => exact newsAt _ #[.int .u8 255] _ _ rfl
          case d2 => intro u hu; simp at hu; subst hu; rfl
          case d3 => unfold maxLen; omega
          case d4 => omega
          case d5 => simp; omega
          intro v2 w2 hown2 hg2 _
          have kb2 : Below (w.heap.size + 1) W0 w2 := (kb1.alloc (by omega) _).grown hg2 (by simp; omega) (fun r hr => (hown1.lt r hr).1)
          have e1 : R2.length + 1 = (R2 ++ [255]).length := by simp
          have e2 : u8s R2 ++ [Value.int .u8 255] = u8s (R2 ++ [255]) := by rw [u8s_append]; rfl
          rw [e1, e2, ← HSz.out] at hown2
          clear hg2 hown1 e1 e2
          go_wp2
          exact ⟨⟨k + 1, by omega, by go_num, hown2, kb2⟩, by simp [intOf]; omega⟩
        · have hzt : ¬ (t[k].toNat : Int) = 0 := by
            rw [← HC.out]
            intro e
            exact hz (UInt8.toNat_inj.1 (by show c.toNat = 0; omega))
          have HSz : Hid (4 :: escP (t.data.toList.take (k + 1)) = R ++ [c]) := by
            show _ = _
            rw [HS.out]; simp [escP, hz]
          rw [← HSz.out] at hown1
          go_wp2
          exact ⟨⟨k + 1, by omega, by go_num, hown1, kb1⟩, by simp [intOf]; omega⟩
      · have hke : k = t.size := by omega
        subst hke
        have hfull : t.data.toList.take t.size = t.data.toList := List.take_of_length_le (by simp)
        rw [hfull] at hown hR
        clear hfull
        have HF : Hid (4 :: esc t.data.toList = (4 :: escP t.data.toList) ++ [0, 0]) := by
          show _ = _
          rw [HE.out]; rfl
        generalize 4 :: escP t.data.toList = R at *
        go_wp2_with (first | (at_builtin; refine wpList_append_own _ rfl _ _ 22 rfl (w.heap.size + 1) 5 i0 (.int .u8 0) 1 1 Try.underlying22 hi hz0 hz1 hz2 rfl (by decide) _ _ _ rfl (hown.alloc _) ⟨wr.heap.size, 0, none⟩ 2 2 [.int .u8 0, .int .u8 0] rfl rfl ?c1 ?c2 ?c3 ?c4 ?c5 ?_) | fail)
        case c1 => exact newsAt _ #[.int .u8 0, .int .u8 0] _ _ rfl
        case c2 => intro u hu; simp at hu; subst hu; rfl
        case c3 => unfold maxLen; omega
        case c4 => omega
        case c5 => simp; omega
        intro v1 w1 hown1 hg1 _
        have kb1 : Below (w.heap.size + 1) W0 w1 := (kb.alloc (by omega) _).grown hg1 (by simp; omega) (fun r hr => (hown.lt r hr).1)
        have e1 : R.length + 2 = (R ++ [0, 0]).length := by simp
        have e2 : u8s R ++ [Value.int .u8 0, Value.int .u8 0] = u8s (R ++ [0, 0]) := by rw [u8s_append]; rfl
        rw [e1, e2] at hown1
        have hcv := conv_own w1 (w.heap.size + 1) v1 (R ++ [0, 0]) hown1
        have kbf : Below w.heap.size w w1 := kb0.trans (kb1.mono (by omega))
        clear hg1 hown hown1 e1 e2
        go_wp2
        go_returns
        exact ⟨by rw [HF.out]; rfl, kbf⟩
set_option maxHeartbeats 1600000 in
theorem specVBYes (v : VV) (w : World) (h : GoodV v) :
    Calls Try.prog 24 #[encV v] w fun e w' => e = .returned (.tuple #[.string (bytesV v), .bool true]) ∧ Below w.heap.size w w' := by
  have HA := fun W => specGoodYes v W h
  have HB := fun W => specBytes v W h
  clear h
  generalize bytesV v = z at *
  obtain ⟨k, n, t⟩ := v
  unfold encV at *
  simp only [] at *
  go_enter Try.func24, Try.ntmps24
  go_wp2_with fail
  refine (HA _).mono ?_
  rintro e w1 ⟨rfl, hb1⟩
  obtain ⟨hc1, hf1⟩ := bcell hb1
  have hz1 := hb1.size
  try simp only [World.size_drew] at hz1
  try simp only [World.size_setCell] at hz1
  try simp only [World.size_alloc] at hz1
  have hz1_0 : w.heap.size < w1.heap.size := by omega
  clear hz1
  have k1 : Below w.heap.size w w1 := by
    refine Below.trans ?_ (hb1.mono ?_)
    · go_grown
    · go_size
  have hl1 : w.heap.size ≤ w1.heap.size := k1.size
  clear hb1
  go_wp2_with fail
  refine (HB _).mono ?_
  rintro e w2 ⟨rfl, hb2⟩
  obtain ⟨hc2, hf2⟩ := bcell hb2
  have hz2 := hb2.size
  try simp only [World.size_drew] at hz2
  try simp only [World.size_setCell] at hz2
  try simp only [World.size_alloc] at hz2
  have hz2_0 : w.heap.size < w2.heap.size := by omega
  try have hy2_1 : w1.heap.size < w2.heap.size := (by omega)
  clear hz2
  have k2 : Below w.heap.size w w2 := by
    refine Below.trans ?_ (hb2.mono ?_)
    · go_grown
    · go_size
  have hl2 : w.heap.size ≤ w2.heap.size := k2.size
  clear hb2
  go_wp2
  go_returns
  exact ⟨rfl, by go_grown⟩
set_option maxHeartbeats 1600000 in
theorem specVBNo (v : VV) (w : World) (hm : v.t.size ≤ maxLen) (h : ¬ GoodV v) :
    Calls Try.prog 24 #[encV v] w fun e w' => e = .returned (.tuple #[.string ByteArray.empty, .bool false]) ∧ Below w.heap.size w w' := by
  have HA := fun W => specGoodNo v W hm h
  clear h
  obtain ⟨k, n, t⟩ := v
  unfold encV at *
  simp only [] at *
  go_enter Try.func24, Try.ntmps24
  go_wp2_with fail
  refine (HA _).mono ?_
  rintro e w1 ⟨rfl, hb1⟩
  obtain ⟨hc1, hf1⟩ := bcell hb1
  have hz1 := hb1.size
  try simp only [World.size_drew] at hz1
  try simp only [World.size_setCell] at hz1
  try simp only [World.size_alloc] at hz1
  have hz1_0 : w.heap.size < w1.heap.size := by omega
  clear hz1
  have k1 : Below w.heap.size w w1 := by
    refine Below.trans ?_ (hb1.mono ?_)
    · go_grown
    · go_size
  have hl1 : w.heap.size ≤ w1.heap.size := k1.size
  clear hb1
  go_wp2
  go_returns
  exact ⟨rfl, by go_grown⟩
end Go.Proofs.Ytolkiofdbdjfkaa
