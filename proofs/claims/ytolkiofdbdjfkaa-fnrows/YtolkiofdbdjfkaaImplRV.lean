/- Contract of the program's reading of a value. Condition: at most six hundred bytes and a place within them; else the zero answer. -/
import Derived.Test.YtolkiofdbdjfkaaImplRT
import Derived.Test.YtolkiofdbdjfkaaImplF
import Derived.Test.YtolkiofdbdjfkaaReadV
import Derived.Test.YtolkiofdbdjfkaaBoxes2
namespace Go.Proofs.Ytolkiofdbdjfkaa
open Go.ChangeShapes Go.WideShapes Go.ChangeAt Go.RowKit Go.Deep
set_option linter.unusedVariables false
attribute [local go_sem ↓] Go.wp_at_zero Go.wp_at_succ

theorem esc_free {t u r q : List UInt8} (h : esc t ++ r = esc u ++ q) : u = t := by
  have e := cmp_esc t u r q
  rw [h, cmpB_refl] at e
  by_cases hz : cmpB t u = 0
  · exact (cmpB_zero hz).symm
  · rw [if_neg hz] at e
    exact absurd e.symm hz
set_option maxHeartbeats 12800000 in
set_option maxRecDepth 100000 in
theorem implRVIn (s : ByteArray) (a : Nat) (w : World) (hs : s.size ≤ 600) (ha : a < s.size) :
    Calls Try.prog 20 #[.string s, .int .i64 a] w fun e w' => ToldR s a e ∧ Below w.heap.size w w' := by
  have hai : (a : Int) < (s.size : Int) := by omega
  have ha0 : (0 : Int) ≤ (a : Int) := by omega
  have hs6 : ¬ (600 : Int) < (s.size : Int) := by omega
  have hsa : ¬ (s.size : Int) ≤ (a : Int) := by omega
  have han : ¬ (a : Int) < 0 := by omega
  have hm0 : (ByteArray.empty : ByteArray).size ≤ maxLen := by simp [maxLen]
  have HDr : Hid (s.data.toList.drop a = s[a] :: s.data.toList.drop (a + 1)) := drop_cons s a ha
  have HW : Hid (wrap64 (s[a].toNat : Int) = (s[a].toNat : Int)) := wrapB _
  by_cases h1 : s[a].toNat = 1
  · have hki : wrap64 (s[a].toNat : Int) = 1 := by rw [HW.out, h1]; rfl
    have hc : s[a] = 1 := UInt8.toNat_inj.1 h1
    have HT : Hid (ToldR s a (.returned (.tuple #[.agg #[.int .i64 1, .int .i64 0, .string ⟨#[]⟩], .int .i64 ((a : Int) + 1), .bool true]))) := by
      refine .inl ⟨⟨1, 0, ByteArray.empty⟩, ?_, rfl⟩
      rw [HDr.out, hc]
      exact stand_1 _
    have hg : GoodV ⟨1, 0, ByteArray.empty⟩ := .inl ⟨rfl, rfl, rfl⟩
    clear HDr h1 hc HW
    go_enter Try.func20, Try.ntmps20
    have HG := fun W => implGoodYes ⟨1, 0, ByteArray.empty⟩ W hg
    clear hg
    unfold encV at HG
    simp only [] at HG
    go_wp2_with fail
    refine (HG _).mono ?_
    rintro e w1 ⟨rfl, hb1⟩
    obtain ⟨qR, qX⟩ := boxOf2 hb1
    have BR := hid qR
    have BX := hid qX
    have HK := hid ((((Below.refl _ w).alloc (Nat.le_refl _) _).alloc (by simp) _).trans (hb1.mono (by simp; omega)))
    clear qR qX hb1 HG
    have BRz := BR.out.1
    have BRc0 := BR.out.2.1 0 _ rfl
    have BRc1 := BR.out.2.1 1 _ rfl
    have BRc2 := BR.out.2.1 2 _ rfl
    have BRf0 := BR.out.2.2 0 (by simp)
    have BRf1 := BR.out.2.2 1 (by simp)
    have BRf2 := BR.out.2.2 2 (by simp)
    have BXz := BX.out.1
    have BXc0 := BX.out.2.1 0 _ rfl
    have BXc1 := BX.out.2.1 1 _ rfl
    have BXc2 := BX.out.2.1 2 _ rfl
    have BXf0 := BX.out.2.2 0 (by simp)
    have BXf1 := BX.out.2.2 1 (by simp)
    have BXf2 := BX.out.2.2 2 (by simp)
    go_wp2
    (try simp only [Exit.inBlock, Exit.then])
    refine bodyPost_ret (by simp [*, results, Try.results20, go_sem]; try rfl) rfl ?_
    exact ⟨HT.out, ((HK.out.setCell (p := ⟨w.heap.size, 0, none⟩) (Nat.le_refl _) _).setCell (p := ⟨w.heap.size, 1, none⟩) (Nat.le_refl _) _).setCell (p := ⟨w.heap.size, 2, none⟩) (Nat.le_refl _) _⟩
  by_cases h2 : s[a].toNat = 2
  · have hki : wrap64 (s[a].toNat : Int) = 2 := by rw [HW.out, h2]; rfl
    have hc : s[a] = 2 := UInt8.toNat_inj.1 h2
    have HK : Hid (Below w.heap.size w ((w.alloc (.cells #[.int .i64 0, .int .i64 0, .string ⟨#[]⟩] 24)).alloc (.cells #[.int .i64 2, .int .i64 0, .string ⟨#[]⟩] 24))) := ((Below.refl _ w).alloc (Nat.le_refl _) _).alloc (by simp) _
    clear h1 h2 HW
    by_cases hl : a + 1 < s.size
    · have HN := fun W => implNumR1 s (a + 1) W hs hl
      simp only [show (((a + 1 : Nat) : Int)) = (a : Int) + 1 from by omega] at HN
      have HD2 : Hid (s.data.toList.drop a = 2 :: s[a + 1] :: s.data.toList.drop (a + 1 + 1)) := by show _ = _; rw [HDr.out, hc, drop_cons s (a + 1) hl]
      generalize s[a + 1] = c at *
      clear HDr hc
      by_cases hg : GoodV ⟨2, (c.toNat : Int), ByteArray.empty⟩
      · have HT : Hid (ToldR s a (.returned (.tuple #[.agg #[.int .i64 2, .int .i64 (c.toNat : Int), .string ⟨#[]⟩], .int .i64 ((a : Int) + 1 + 1), .bool true]))) := by
          refine .inl ⟨⟨2, (c.toNat : Int), ByteArray.empty⟩, ?_, ?_⟩
          · rw [HD2.out]; exact stand_2 _ _ hg
          · rw [show (a : Int) + 1 + 1 = (a : Int) + ((bytesV ⟨2, (c.toNat : Int), ByteArray.empty⟩).size : Int) from by rw [bytesV_size, bytesL_2 rfl]; simp; omega]; rfl
        generalize (c.toNat : Int) = N at *
        go_enter Try.func20, Try.ntmps20
        go_wp2_with fail
        refine (HN _).mono ?_
        rintro e w0 ⟨rfl, hw0⟩
        subst w0
        clear HN HK
        have HG := fun W => implGoodYes ⟨2, N, ByteArray.empty⟩ W hg
        clear hg
        unfold encV at HG
        simp only [] at HG
        go_wp2_with fail
        refine (HG _).mono ?_
        rintro e w1 ⟨rfl, hb1⟩
        obtain ⟨qR, qX⟩ := boxOf2 hb1
        have BR := hid qR
        have BX := hid qX
        have HK := hid ((((Below.refl _ w).alloc (Nat.le_refl _) _).alloc (by simp) _).trans (hb1.mono (by simp; omega)))
        clear qR qX hb1 HG
        have BRz := BR.out.1
        have BRc0 := BR.out.2.1 0 _ rfl
        have BRc1 := BR.out.2.1 1 _ rfl
        have BRc2 := BR.out.2.1 2 _ rfl
        have BRf0 := BR.out.2.2 0 (by simp)
        have BRf1 := BR.out.2.2 1 (by simp)
        have BRf2 := BR.out.2.2 2 (by simp)
        have BXz := BX.out.1
        have BXc0 := BX.out.2.1 0 _ rfl
        have BXc1 := BX.out.2.1 1 _ rfl
        have BXc2 := BX.out.2.1 2 _ rfl
        have BXf0 := BX.out.2.2 0 (by simp)
        have BXf1 := BX.out.2.2 1 (by simp)
        have BXf2 := BX.out.2.2 2 (by simp)
        go_wp2
        (try simp only [Exit.inBlock, Exit.then])
        refine bodyPost_ret (by simp [*, results, Try.results20, go_sem]; try rfl) rfl ?_
        exact ⟨HT.out, ((HK.out.setCell (p := ⟨w.heap.size, 0, none⟩) (Nat.le_refl _) _).setCell (p := ⟨w.heap.size, 1, none⟩) (Nat.le_refl _) _).setCell (p := ⟨w.heap.size, 2, none⟩) (Nat.le_refl _) _⟩
      · have HT : Hid (ToldR s a (.returned (.tuple #[.agg #[.int .i64 0, .int .i64 0, .string ⟨#[]⟩], .int .i64 0, .bool false]))) := by
          refine .inr ⟨?_, rfl⟩
          rw [HD2.out]
          exact none_bad (cand_2 _ _) hg
        have hm := hm0
        generalize (c.toNat : Int) = N at *
        go_enter Try.func20, Try.ntmps20
        go_wp2_with fail
        refine (HN _).mono ?_
        rintro e w0 ⟨rfl, hw0⟩
        subst w0
        clear HN HK
        have HG := fun W => implGoodNo ⟨2, N, ByteArray.empty⟩ W hm hg
        clear hg
        unfold encV at HG
        simp only [] at HG
        go_wp2_with fail
        refine (HG _).mono ?_
        rintro e w1 ⟨rfl, hb1⟩
        obtain ⟨qR, qX⟩ := boxOf2 hb1
        have BR := hid qR
        have BX := hid qX
        have HK := hid ((((Below.refl _ w).alloc (Nat.le_refl _) _).alloc (by simp) _).trans (hb1.mono (by simp; omega)))
        clear qR qX hb1 HG
        have BRz := BR.out.1
        have BRc0 := BR.out.2.1 0 _ rfl
        have BRc1 := BR.out.2.1 1 _ rfl
        have BRc2 := BR.out.2.1 2 _ rfl
        have BRf0 := BR.out.2.2 0 (by simp)
        have BRf1 := BR.out.2.2 1 (by simp)
        have BRf2 := BR.out.2.2 2 (by simp)
        have BXz := BX.out.1
        have BXc0 := BX.out.2.1 0 _ rfl
        have BXc1 := BX.out.2.1 1 _ rfl
        have BXc2 := BX.out.2.1 2 _ rfl
        have BXf0 := BX.out.2.2 0 (by simp)
        have BXf1 := BX.out.2.2 1 (by simp)
        have BXf2 := BX.out.2.2 2 (by simp)
        go_wp2
        (try simp only [Exit.inBlock, Exit.then])
        refine bodyPost_ret (by simp [*, results, Try.results20, go_sem]; try rfl) rfl ?_
        exact ⟨HT.out, ((HK.out.setCell (p := ⟨w.heap.size, 0, none⟩) (Nat.le_refl _) _).setCell (p := ⟨w.heap.size, 1, none⟩) (Nat.le_refl _) _).setCell (p := ⟨w.heap.size, 2, none⟩) (Nat.le_refl _) _⟩
    · have HN := fun W => implNumNo s (a + 1) 1 W hs (by omega) (by omega) (by omega)
      simp only [show (((a + 1 : Nat) : Int)) = (a : Int) + 1 from by omega, show ((1 : Nat) : Int) = 1 from rfl] at HN
      have HT : Hid (ToldR s a (.returned (.tuple #[.agg #[.int .i64 0, .int .i64 0, .string ⟨#[]⟩], .int .i64 0, .bool false]))) := by
        refine .inr ⟨?_, rfl⟩
        rw [HDr.out, hc, List.drop_eq_nil_of_le (by have : s.data.toList.length = s.size := by simp
                                                    omega)]
        exact none_2
      clear HDr hc
      go_enter Try.func20, Try.ntmps20
      go_wp2_with fail
      refine (HN _).mono ?_
      rintro e w0 ⟨rfl, hw0⟩
      subst w0
      clear HN
      go_wp2
      (try simp only [Exit.inBlock, Exit.then])
      refine bodyPost_ret (by simp [*, results, Try.results20, go_sem]; try rfl) rfl ?_
      exact ⟨HT.out, by go_grown⟩
  by_cases h3 : s[a].toNat = 3
  · have hki : wrap64 (s[a].toNat : Int) = 3 := by rw [HW.out, h3]; rfl
    have hc : s[a] = 3 := UInt8.toNat_inj.1 h3
    clear h1 h2 h3 HW
    by_cases hl : a + 1 + 3 < s.size
    · have HN := fun W => implNumR4 s (a + 1) W hs hl
      simp only [show (((a + 1 : Nat) : Int)) = (a : Int) + 1 from by omega] at HN
      have HD2 : Hid (s.data.toList.drop a = 3 :: s[a + 1] :: s[a + 1 + 1] :: s[a + 1 + 2] :: s[a + 1 + 3] :: s.data.toList.drop (a + 1 + 1 + 1 + 1 + 1)) := by show _ = _; rw [HDr.out, hc, drop_cons s (a + 1) (by omega), drop_cons s (a + 1 + 1) (by omega), drop_cons s (a + 1 + 1 + 1) (by omega), drop_cons s (a + 1 + 1 + 1 + 1) (by omega)]
      have hb0 := byteLt s[a + 1]
      have hb1 := byteLt s[a + 1 + 1]
      have hb2 := byteLt s[a + 1 + 2]
      have hb3 := byteLt s[a + 1 + 3]
      have hbd : 0 ≤ (s[a + 1].toNat : Int) * 16777216 + (s[a + 1 + 1].toNat : Int) * 65536 + (s[a + 1 + 2].toNat : Int) * 256 + (s[a + 1 + 3].toNat : Int) ∧ (s[a + 1].toNat : Int) * 16777216 + (s[a + 1 + 1].toNat : Int) * 65536 + (s[a + 1 + 2].toNat : Int) * 256 + (s[a + 1 + 3].toNat : Int) ≤ 4294967295 := by omega
      have HY : Hid (GoodV ⟨3, (s[a + 1].toNat : Int) * 16777216 + (s[a + 1 + 1].toNat : Int) * 65536 + (s[a + 1 + 2].toNat : Int) * 256 + (s[a + 1 + 3].toNat : Int) - 1000000000, ByteArray.empty⟩ → Stands (s.data.toList.drop a) ⟨3, (s[a + 1].toNat : Int) * 16777216 + (s[a + 1 + 1].toNat : Int) * 65536 + (s[a + 1 + 2].toNat : Int) * 256 + (s[a + 1 + 3].toNat : Int) - 1000000000, ByteArray.empty⟩) := by
        intro hg
        rw [HD2.out]
        exact stand_3 _ _ _ _ _ hg
      have HNo : Hid (¬ GoodV ⟨3, (s[a + 1].toNat : Int) * 16777216 + (s[a + 1 + 1].toNat : Int) * 65536 + (s[a + 1 + 2].toNat : Int) * 256 + (s[a + 1 + 3].toNat : Int) - 1000000000, ByteArray.empty⟩ → ∀ v, ¬ Stands (s.data.toList.drop a) v) := by
        intro hg
        rw [HD2.out]
        exact none_bad (cand_3 _ _ _ _ _) hg
      clear HDr hc hb0 hb1 hb2 hb3
      generalize (s[a + 1].toNat : Int) * 16777216 + (s[a + 1 + 1].toNat : Int) * 65536 + (s[a + 1 + 2].toNat : Int) * 256 + (s[a + 1 + 3].toNat : Int) = M at *
      have hw1 : wrap64 (M - 1000000000) = M - 1000000000 := by unfold wrap64; omega
      by_cases hg : GoodV ⟨3, M - 1000000000, ByteArray.empty⟩
      · have HT : Hid (ToldR s a (.returned (.tuple #[.agg #[.int .i64 3, .int .i64 (M - 1000000000), .string ⟨#[]⟩], .int .i64 ((a : Int) + 1 + 4), .bool true]))) := by
          refine .inl ⟨_, HY.out hg, ?_⟩
          rw [show (a : Int) + 1 + 4 = (a : Int) + ((bytesV ⟨3, M - 1000000000, ByteArray.empty⟩).size : Int) from by rw [bytesV_size, bytesL_3 rfl]; simp [be4]; omega]; rfl
        clear HY HNo HD2
        go_enter Try.func20, Try.ntmps20
        go_wp2_with fail
        refine (HN _).mono ?_
        rintro e w0 ⟨rfl, hw0⟩
        subst w0
        clear HN
        have HG := fun W => implGoodYes ⟨3, M - 1000000000, ByteArray.empty⟩ W hg
        clear hg
        unfold encV at HG
        simp only [] at HG
        go_wp2_with fail
        refine (HG _).mono ?_
        rintro e w1 ⟨rfl, hb1⟩
        obtain ⟨qR, qX⟩ := boxOf2 hb1
        have BR := hid qR
        have BX := hid qX
        have HK := hid ((((Below.refl _ w).alloc (Nat.le_refl _) _).alloc (by simp) _).trans (hb1.mono (by simp; omega)))
        clear qR qX hb1 HG
        have BRz := BR.out.1
        have BRc0 := BR.out.2.1 0 _ rfl
        have BRc1 := BR.out.2.1 1 _ rfl
        have BRc2 := BR.out.2.1 2 _ rfl
        have BRf0 := BR.out.2.2 0 (by simp)
        have BRf1 := BR.out.2.2 1 (by simp)
        have BRf2 := BR.out.2.2 2 (by simp)
        have BXz := BX.out.1
        have BXc0 := BX.out.2.1 0 _ rfl
        have BXc1 := BX.out.2.1 1 _ rfl
        have BXc2 := BX.out.2.1 2 _ rfl
        have BXf0 := BX.out.2.2 0 (by simp)
        have BXf1 := BX.out.2.2 1 (by simp)
        have BXf2 := BX.out.2.2 2 (by simp)
        go_wp2
        (try simp only [Exit.inBlock, Exit.then])
        refine bodyPost_ret (by simp [*, results, Try.results20, go_sem]; try rfl) rfl ?_
        exact ⟨HT.out, ((HK.out.setCell (p := ⟨w.heap.size, 0, none⟩) (Nat.le_refl _) _).setCell (p := ⟨w.heap.size, 1, none⟩) (Nat.le_refl _) _).setCell (p := ⟨w.heap.size, 2, none⟩) (Nat.le_refl _) _⟩
      · have HT : Hid (ToldR s a (.returned (.tuple #[.agg #[.int .i64 0, .int .i64 0, .string ⟨#[]⟩], .int .i64 0, .bool false]))) := .inr ⟨HNo.out hg, rfl⟩
        have hm := hm0
        clear HY HNo HD2
        go_enter Try.func20, Try.ntmps20
        go_wp2_with fail
        refine (HN _).mono ?_
        rintro e w0 ⟨rfl, hw0⟩
        subst w0
        clear HN
        have HG := fun W => implGoodNo ⟨3, M - 1000000000, ByteArray.empty⟩ W hm hg
        clear hg
        unfold encV at HG
        simp only [] at HG
        go_wp2_with fail
        refine (HG _).mono ?_
        rintro e w1 ⟨rfl, hb1⟩
        obtain ⟨qR, qX⟩ := boxOf2 hb1
        have BR := hid qR
        have BX := hid qX
        have HK := hid ((((Below.refl _ w).alloc (Nat.le_refl _) _).alloc (by simp) _).trans (hb1.mono (by simp; omega)))
        clear qR qX hb1 HG
        have BRz := BR.out.1
        have BRc0 := BR.out.2.1 0 _ rfl
        have BRc1 := BR.out.2.1 1 _ rfl
        have BRc2 := BR.out.2.1 2 _ rfl
        have BRf0 := BR.out.2.2 0 (by simp)
        have BRf1 := BR.out.2.2 1 (by simp)
        have BRf2 := BR.out.2.2 2 (by simp)
        have BXz := BX.out.1
        have BXc0 := BX.out.2.1 0 _ rfl
        have BXc1 := BX.out.2.1 1 _ rfl
        have BXc2 := BX.out.2.1 2 _ rfl
        have BXf0 := BX.out.2.2 0 (by simp)
        have BXf1 := BX.out.2.2 1 (by simp)
        have BXf2 := BX.out.2.2 2 (by simp)
        go_wp2
        (try simp only [Exit.inBlock, Exit.then])
        refine bodyPost_ret (by simp [*, results, Try.results20, go_sem]; try rfl) rfl ?_
        exact ⟨HT.out, ((HK.out.setCell (p := ⟨w.heap.size, 0, none⟩) (Nat.le_refl _) _).setCell (p := ⟨w.heap.size, 1, none⟩) (Nat.le_refl _) _).setCell (p := ⟨w.heap.size, 2, none⟩) (Nat.le_refl _) _⟩
    · have HN := fun W => implNumNo s (a + 1) 4 W hs (by omega) (by omega) (by omega)
      simp only [show (((a + 1 : Nat) : Int)) = (a : Int) + 1 from by omega, show ((4 : Nat) : Int) = 4 from rfl] at HN
      have HT : Hid (ToldR s a (.returned (.tuple #[.agg #[.int .i64 0, .int .i64 0, .string ⟨#[]⟩], .int .i64 0, .bool false]))) := by
        refine .inr ⟨?_, rfl⟩
        rw [HDr.out, hc]
        refine none_3 _ ?_
        have : s.data.toList.length = s.size := by simp
        simp only [List.length_drop]
        omega
      clear HDr hc
      go_enter Try.func20, Try.ntmps20
      go_wp2_with fail
      refine (HN _).mono ?_
      rintro e w0 ⟨rfl, hw0⟩
      subst w0
      clear HN
      go_wp2
      (try simp only [Exit.inBlock, Exit.then])
      refine bodyPost_ret (by simp [*, results, Try.results20, go_sem]; try rfl) rfl ?_
      exact ⟨HT.out, by go_grown⟩
  by_cases h4 : s[a].toNat = 4
  · have hki : wrap64 (s[a].toNat : Int) = 4 := by rw [HW.out, h4]; rfl
    have hc : s[a] = 4 := UInt8.toNat_inj.1 h4
    have HN := fun W => implRT s (a + 1) W hs (by omega)
    simp only [show (((a + 1 : Nat) : Int)) = (a : Int) + 1 from by omega] at HN
    have HD2 : Hid (s.data.toList.drop a = 4 :: s.data.toList.drop (a + 1)) := by show _ = _; rw [HDr.out, hc]
    clear h1 h2 h3 h4 HW HDr hc
    go_enter Try.func20, Try.ntmps20
    go_wp2_with fail
    refine (HN _).mono ?_
    rintro e w2 ⟨he, hb2⟩
    obtain ⟨qR, qX⟩ := boxOf2 hb2
    have BR2 : Hid (BoxAt w2 w.heap.size [.int .i64 0, .int .i64 0, .string ⟨#[]⟩]) := qR
    have BX2 : Hid (BoxAt w2 (w.heap.size + 1) [.int .i64 4, .int .i64 0, .string ⟨#[]⟩]) := qX
    have HK2 := hid ((((Below.refl _ w).alloc (Nat.le_refl _) _).alloc (by simp) _).trans (hb2.mono (by simp; omega)))
    have hl2 := HK2.out.size
    clear qR qX hb2 HN
    rcases he with ⟨t, r, h1, hl, rfl⟩ | ⟨h1, rfl⟩
    · have hm : (⟨t.toArray⟩ : ByteArray).size ≤ maxLen := by show t.length ≤ maxLen; unfold maxLen; omega
      by_cases hg : GoodV ⟨4, 0, ⟨t.toArray⟩⟩
      · have HT : Hid (ToldR s a (.returned (.tuple #[.agg #[.int .i64 4, .int .i64 0, .string ⟨t.toArray⟩], .int .i64 (((a + 1 : Nat) : Int) + ((esc t).length : Int)), .bool true]))) := by
          refine .inl ⟨⟨4, 0, ⟨t.toArray⟩⟩, ?_, ?_⟩
          · rw [HD2.out, h1]; exact stand_4 _ _ hg
          · rw [bytes_size_4, show (((a + 1 : Nat) : Int) + ((esc t).length : Int)) = (a : Int) + (1 + ((esc t).length : Int)) from by omega]; rfl
        clear h1 HD2
        generalize (((a + 1 : Nat) : Int) + ((esc t).length : Int)) = Z at *
        obtain ⟨W1, hW1⟩ : ∃ W1, w2.setCell ⟨w.heap.size + 1, 2, none⟩ (.string ⟨t.toArray⟩) = W1 := ⟨_, rfl⟩
        have BR1 : Hid (BoxAt W1 w.heap.size [.int .i64 0, .int .i64 0, .string ⟨#[]⟩]) := by rw [← hW1]; exact BR2.out.other (by omega) _
        have BX1 : Hid (BoxAt W1 (w.heap.size + 1) [.int .i64 4, .int .i64 0, .string ⟨t.toArray⟩]) := by rw [← hW1]; exact BX2.out.set (by simp) _
        have kb1 : Below w.heap.size w W1 := by rw [← hW1]; exact HK2.out.setCell (p := ⟨w.heap.size + 1, 2, none⟩) (by show w.heap.size ≤ w.heap.size + 1; omega) _
        have HW1 := hid hW1
        have kl1 := kb1.size
        have BXc0 := BX1.out.2.1 0 _ rfl
        have BXc1 := BX1.out.2.1 1 _ rfl
        have BXc2 := BX1.out.2.1 2 _ rfl
        have BY2 := BX2.out.2.1 2 _ rfl
        have BYf := BX2.out.2.2 2 (by simp)
        clear hW1
        go_upto_region 13 with fail
        rw [HW1.out]
        clear BY2 BYf
        have HG := fun W => implGoodYes ⟨4, 0, ⟨t.toArray⟩⟩ W hg
        clear hg
        unfold encV at HG
        simp only [] at HG
        go_wp2_with fail
        refine (HG _).mono ?_
        rintro e w1 ⟨rfl, hb1⟩
        have BR := hid (BR1.out.below hb1)
        have BX := hid (BX1.out.below hb1)
        have HK := hid (kb1.trans (hb1.mono kl1))
        clear BXc0 BXc1 BXc2
        clear hb1 HG
        have BRz := BR.out.1
        have BRc0 := BR.out.2.1 0 _ rfl
        have BRc1 := BR.out.2.1 1 _ rfl
        have BRc2 := BR.out.2.1 2 _ rfl
        have BRf0 := BR.out.2.2 0 (by simp)
        have BRf1 := BR.out.2.2 1 (by simp)
        have BRf2 := BR.out.2.2 2 (by simp)
        have BXz := BX.out.1
        have BXc0 := BX.out.2.1 0 _ rfl
        have BXc1 := BX.out.2.1 1 _ rfl
        have BXc2 := BX.out.2.1 2 _ rfl
        have BXf0 := BX.out.2.2 0 (by simp)
        have BXf1 := BX.out.2.2 1 (by simp)
        have BXf2 := BX.out.2.2 2 (by simp)
        go_wp2
        (try simp only [Exit.inBlock, Exit.then])
        refine bodyPost_ret (by simp [*, results, Try.results20, go_sem]; try rfl) rfl ?_
        exact ⟨HT.out, ((HK.out.setCell (p := ⟨w.heap.size, 0, none⟩) (Nat.le_refl _) _).setCell (p := ⟨w.heap.size, 1, none⟩) (Nat.le_refl _) _).setCell (p := ⟨w.heap.size, 2, none⟩) (Nat.le_refl _) _⟩
      · have HT : Hid (ToldR s a (.returned (.tuple #[.agg #[.int .i64 0, .int .i64 0, .string ⟨#[]⟩], .int .i64 0, .bool false]))) := by
          refine .inr ⟨?_, rfl⟩
          rw [HD2.out]
          intro v hv
          exact hg (by
            obtain ⟨gv, q, e⟩ := hv
            have hk2 : v.k = 4 := (bytes_head gv e).symm
            obtain ⟨hn, _⟩ := good_4 gv hk2
            rw [bytesL_4 hk2, h1] at e
            simp only [List.cons_append, List.cons.injEq, true_and] at e
            have et := esc_free e
            obtain ⟨k, n, tt⟩ := v
            simp only [] at hk2 hn et
            subst hk2 hn
            have : tt = ⟨t.toArray⟩ := by cases tt with
              | mk d => cases d; simp at et; simp [et]
            rw [← this]; exact gv)
        clear h1 HD2
        generalize (((a + 1 : Nat) : Int) + ((esc t).length : Int)) = Z at *
        obtain ⟨W1, hW1⟩ : ∃ W1, w2.setCell ⟨w.heap.size + 1, 2, none⟩ (.string ⟨t.toArray⟩) = W1 := ⟨_, rfl⟩
        have BR1 : Hid (BoxAt W1 w.heap.size [.int .i64 0, .int .i64 0, .string ⟨#[]⟩]) := by rw [← hW1]; exact BR2.out.other (by omega) _
        have BX1 : Hid (BoxAt W1 (w.heap.size + 1) [.int .i64 4, .int .i64 0, .string ⟨t.toArray⟩]) := by rw [← hW1]; exact BX2.out.set (by simp) _
        have kb1 : Below w.heap.size w W1 := by rw [← hW1]; exact HK2.out.setCell (p := ⟨w.heap.size + 1, 2, none⟩) (by show w.heap.size ≤ w.heap.size + 1; omega) _
        have HW1 := hid hW1
        have kl1 := kb1.size
        have BXc0 := BX1.out.2.1 0 _ rfl
        have BXc1 := BX1.out.2.1 1 _ rfl
        have BXc2 := BX1.out.2.1 2 _ rfl
        have BY2 := BX2.out.2.1 2 _ rfl
        have BYf := BX2.out.2.2 2 (by simp)
        clear hW1
        go_upto_region 13 with fail
        rw [HW1.out]
        clear BY2 BYf
        have HG := fun W => implGoodNo ⟨4, 0, ⟨t.toArray⟩⟩ W hm hg
        clear hg
        unfold encV at HG
        simp only [] at HG
        go_wp2_with fail
        refine (HG _).mono ?_
        rintro e w1 ⟨rfl, hb1⟩
        have BR := hid (BR1.out.below hb1)
        have BX := hid (BX1.out.below hb1)
        have HK := hid (kb1.trans (hb1.mono kl1))
        clear BXc0 BXc1 BXc2
        clear hb1 HG
        have BRz := BR.out.1
        have BRc0 := BR.out.2.1 0 _ rfl
        have BRc1 := BR.out.2.1 1 _ rfl
        have BRc2 := BR.out.2.1 2 _ rfl
        have BRf0 := BR.out.2.2 0 (by simp)
        have BRf1 := BR.out.2.2 1 (by simp)
        have BRf2 := BR.out.2.2 2 (by simp)
        have BXz := BX.out.1
        have BXc0 := BX.out.2.1 0 _ rfl
        have BXc1 := BX.out.2.1 1 _ rfl
        have BXc2 := BX.out.2.1 2 _ rfl
        have BXf0 := BX.out.2.2 0 (by simp)
        have BXf1 := BX.out.2.2 1 (by simp)
        have BXf2 := BX.out.2.2 2 (by simp)
        go_wp2
        (try simp only [Exit.inBlock, Exit.then])
        refine bodyPost_ret (by simp [*, results, Try.results20, go_sem]; try rfl) rfl ?_
        exact ⟨HT.out, ((HK.out.setCell (p := ⟨w.heap.size, 0, none⟩) (Nat.le_refl _) _).setCell (p := ⟨w.heap.size, 1, none⟩) (Nat.le_refl _) _).setCell (p := ⟨w.heap.size, 2, none⟩) (Nat.le_refl _) _⟩
    · have HT : Hid (ToldR s a (.returned (.tuple #[.agg #[.int .i64 0, .int .i64 0, .string ⟨#[]⟩], .int .i64 0, .bool false]))) := by
        refine .inr ⟨?_, rfl⟩
        rw [HD2.out]
        exact none_4 _ h1
      obtain ⟨W1, hW1⟩ : ∃ W1, w2.setCell ⟨w.heap.size + 1, 2, none⟩ (.string ByteArray.empty) = W1 := ⟨_, rfl⟩
      have BR : Hid (BoxAt W1 w.heap.size [.int .i64 0, .int .i64 0, .string ⟨#[]⟩]) := by rw [← hW1]; exact BR2.out.other (by omega) _
      have HK : Hid (Below w.heap.size w W1) := by rw [← hW1]; exact HK2.out.setCell (p := ⟨w.heap.size + 1, 2, none⟩) (by show w.heap.size ≤ w.heap.size + 1; omega) _
      have HW1 := hid hW1
      have BY2 := BX2.out.2.1 2 _ rfl
      have BYf := BX2.out.2.2 2 (by simp)
      clear hW1 h1 HD2
      go_upto_region 13 with fail
      rw [HW1.out]
      clear BY2 BYf
      have BRz := BR.out.1
      have BRc0 := BR.out.2.1 0 _ rfl
      have BRc1 := BR.out.2.1 1 _ rfl
      have BRc2 := BR.out.2.1 2 _ rfl
      have BRf0 := BR.out.2.2 0 (by simp)
      have BRf1 := BR.out.2.2 1 (by simp)
      have BRf2 := BR.out.2.2 2 (by simp)
      go_wp2
      (try simp only [Exit.inBlock, Exit.then])
      refine bodyPost_ret (by simp [*, results, Try.results20, go_sem]; try rfl) rfl ?_
      exact ⟨HT.out, ((HK.out.setCell (p := ⟨w.heap.size, 0, none⟩) (Nat.le_refl _) _).setCell (p := ⟨w.heap.size, 1, none⟩) (Nat.le_refl _) _).setCell (p := ⟨w.heap.size, 2, none⟩) (Nat.le_refl _) _⟩
  have HT : Hid (ToldR s a (.returned (.tuple #[.agg #[.int .i64 0, .int .i64 0, .string ⟨#[]⟩], .int .i64 0, .bool false]))) := by
    refine .inr ⟨?_, rfl⟩
    rw [HDr.out]
    exact none_0 _ _ h1 h2 h3 h4
  have hm := hm0
  obtain ⟨N, hN⟩ : ∃ N : Int, N = (s[a].toNat : Int) := ⟨_, rfl⟩
  have hki : wrap64 (s[a].toNat : Int) = N := by rw [hN]; exact HW.out
  have g1 : ¬ N = 1 := by omega
  have g2 : ¬ N = 2 := by omega
  have g3 : ¬ N = 3 := by omega
  have g4 : ¬ N = 4 := by omega
  have hg : ¬ GoodV ⟨N, 0, ByteArray.empty⟩ := by
    unfold GoodV
    simp only []
    omega
  clear h1 h2 h3 h4 HDr HW hN
  go_enter Try.func20, Try.ntmps20
  have HG := fun W => implGoodNo ⟨N, 0, ByteArray.empty⟩ W hm hg
  clear hg
  unfold encV at HG
  simp only [] at HG
  go_wp2_with fail
  refine (HG _).mono ?_
  rintro e w1 ⟨rfl, hb1⟩
  obtain ⟨qR, qX⟩ := boxOf2 hb1
  have BR := hid qR
  have BX := hid qX
  have HK := hid ((((Below.refl _ w).alloc (Nat.le_refl _) _).alloc (by simp) _).trans (hb1.mono (by simp; omega)))
  clear qR qX hb1 HG
  have BRz := BR.out.1
  have BRc0 := BR.out.2.1 0 _ rfl
  have BRc1 := BR.out.2.1 1 _ rfl
  have BRc2 := BR.out.2.1 2 _ rfl
  have BRf0 := BR.out.2.2 0 (by simp)
  have BRf1 := BR.out.2.2 1 (by simp)
  have BRf2 := BR.out.2.2 2 (by simp)
  have BXz := BX.out.1
  have BXc0 := BX.out.2.1 0 _ rfl
  have BXc1 := BX.out.2.1 1 _ rfl
  have BXc2 := BX.out.2.1 2 _ rfl
  have BXf0 := BX.out.2.2 0 (by simp)
  have BXf1 := BX.out.2.2 1 (by simp)
  have BXf2 := BX.out.2.2 2 (by simp)
  go_wp2
  (try simp only [Exit.inBlock, Exit.then])
  refine bodyPost_ret (by simp [*, results, Try.results20, go_sem]; try rfl) rfl ?_
  exact ⟨HT.out, ((HK.out.setCell (p := ⟨w.heap.size, 0, none⟩) (Nat.le_refl _) _).setCell (p := ⟨w.heap.size, 1, none⟩) (Nat.le_refl _) _).setCell (p := ⟨w.heap.size, 2, none⟩) (Nat.le_refl _) _⟩
set_option maxHeartbeats 1600000 in
theorem implRVOut (s : ByteArray) (a : Int) (w : World) (hm : s.size ≤ maxLen) (hw : -9223372036854775808 ≤ a ∧ a ≤ 9223372036854775807) (h : ¬ (s.size ≤ 600 ∧ 0 ≤ a ∧ a < (s.size : Int))) :
    Calls Try.prog 20 #[.string s, .int .i64 a] w fun e w' => e = .returned (.tuple #[.agg #[.int .i64 0, .int .i64 0, .string ⟨#[]⟩], .int .i64 0, .bool false]) ∧ Below w.heap.size w w' := by
  unfold maxLen at hm
  by_cases h1 : (600 : Int) < (s.size : Int)
  · clear h
    go_enter Try.func20, Try.ntmps20
    go_wp2
    (try simp only [Exit.inBlock, Exit.then])
    refine bodyPost_ret (by simp [*, results, Try.results20, go_sem]; try rfl) rfl ?_
    exact ⟨rfl, by go_grown⟩
  by_cases h2 : a < 0
  · clear h
    go_enter Try.func20, Try.ntmps20
    go_wp2
    (try simp only [Exit.inBlock, Exit.then])
    refine bodyPost_ret (by simp [*, results, Try.results20, go_sem]; try rfl) rfl ?_
    exact ⟨rfl, by go_grown⟩
  have h3 : (s.size : Int) ≤ a := by omega
  clear h
  go_enter Try.func20, Try.ntmps20
  go_wp2
  (try simp only [Exit.inBlock, Exit.then])
  refine bodyPost_ret (by simp [*, results, Try.results20, go_sem]; try rfl) rfl ?_
  exact ⟨rfl, by go_grown⟩
end Go.Proofs.Ytolkiofdbdjfkaa
