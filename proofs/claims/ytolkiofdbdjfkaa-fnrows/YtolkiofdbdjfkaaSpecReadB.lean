/- Contracts of the model's reading of a value. Condition: at most six hundred bytes, and a place within them. -/
import Derived.Test.YtolkiofdbdjfkaaRead
import Derived.Test.YtolkiofdbdjfkaaBoxes2
import Derived.Test.YtolkiofdbdjfkaaImplB
namespace Go.Proofs.Ytolkiofdbdjfkaa
open Go.ChangeShapes Go.WideShapes Go.ChangeAt Go.RowKit Go.Deep
set_option linter.unusedVariables false
attribute [local go_sem ↓] Go.wp_at_zero Go.wp_at_succ

theorem at_ext (s : ByteArray) (a i : Nat) (h : i < (s.extract (a + 1) s.size).size) (h2 : a + 1 + i < s.size) : (s.extract (a + 1) s.size)[i] = s[a + 1 + i] := by
  simp [ByteArray.getElem_eq_getElem_data, ByteArray.data_extract]
set_option maxHeartbeats 12800000 in
set_option maxRecDepth 100000 in
theorem specReadB (s : ByteArray) (a : Nat) (w : World) (hs : s.size ≤ 600) (ha : a < s.size) (hk : s[a].toNat = 3) (ht : a + 4 < s.size) :
    Calls Try.prog 56 #[.string s, .int .i64 a] w fun e w' => Told s a e ∧ Below w.heap.size w w' := by
  have HCd : Hid (Cand (s.data.toList.drop a) ⟨3, (s[a + 1].toNat : Int) * 16777216 + (s[a + 2].toNat : Int) * 65536 + (s[a + 3].toNat : Int) * 256 + (s[a + 4].toNat : Int) - 1000000000, ByteArray.empty⟩) := by
    show Cand _ _
    rw [drop_cons s a ha, drop_cons s (a + 1) (by omega), drop_cons s (a + 1 + 1) (by omega), drop_cons s (a + 1 + 1 + 1) (by omega), drop_cons s (a + 1 + 1 + 1 + 1) (by omega), show s[a] = 3 from UInt8.toNat_inj.1 hk]
    exact cand_3 _ _ _ _ _
  have hai : (a : Int) < (s.size : Int) := by omega
  have ha0 : (0 : Int) ≤ (a : Int) := by omega
  have hki : wrap64 (s[a].toNat : Int) = 3 := by rw [wrapB, hk]; rfl
  have hTz : (s.extract (a + 1) s.size).size = s.size - (a + 1) := by simp
  obtain ⟨T, hT⟩ : ∃ T, s.extract (a + 1) s.size = T := ⟨_, rfl⟩
  have hz : T.size = s.size - (a + 1) := by rw [← hT]; exact hTz
  clear hTz
  have p0 : 0 < T.size := by omega
  have p1 : 1 < T.size := by omega
  have p2 : 2 < T.size := by omega
  have p3 : 3 < T.size := by omega
  obtain ⟨N0, hN0⟩ : ∃ N : Int, (s[a + 1].toNat : Int) = N := ⟨_, rfl⟩
  have hn0 : 0 ≤ N0 ∧ N0 ≤ 255 := by rw [← hN0]; exact byteLt _
  have hix0 : ((T[0]'p0).toNat : Int) = N0 := by subst hT; rw [← hN0, at_ext s a 0 p0 (by omega)]
  obtain ⟨N1, hN1⟩ : ∃ N : Int, (s[a + 2].toNat : Int) = N := ⟨_, rfl⟩
  have hn1 : 0 ≤ N1 ∧ N1 ≤ 255 := by rw [← hN1]; exact byteLt _
  have hix1 : ((T[1]'p1).toNat : Int) = N1 := by subst hT; rw [← hN1, at_ext s a 1 p1 (by omega)]
  obtain ⟨N2, hN2⟩ : ∃ N : Int, (s[a + 3].toNat : Int) = N := ⟨_, rfl⟩
  have hn2 : 0 ≤ N2 ∧ N2 ≤ 255 := by rw [← hN2]; exact byteLt _
  have hix2 : ((T[2]'p2).toNat : Int) = N2 := by subst hT; rw [← hN2, at_ext s a 2 p2 (by omega)]
  obtain ⟨N3, hN3⟩ : ∃ N : Int, (s[a + 4].toNat : Int) = N := ⟨_, rfl⟩
  have hn3 : 0 ≤ N3 ∧ N3 ≤ 255 := by rw [← hN3]; exact byteLt _
  have hix3 : ((T[3]'p3).toNat : Int) = N3 := by subst hT; rw [← hN3, at_ext s a 3 p3 (by omega)]
  rw [hN0, hN1, hN2, hN3] at HCd
  have HT := hid hT
  clear hN0 hN1 hN2 hN3 hT hk
  have hz4 : (3 : Int) < (T.size : Int) := by omega
  obtain ⟨W0, hW0⟩ : ∃ W0, (w.alloc (.cells #[.int .i64 0, .int .i64 0, .string ⟨#[]⟩] 24)).alloc (.cells #[.int .i64 3, .int .i64 0, .string ⟨#[]⟩] 24) = W0 := ⟨_, rfl⟩
  have hbb := boxOf2 (w' := W0) (X := w) (a := #[.int .i64 0, .int .i64 0, .string ⟨#[]⟩]) (b := #[.int .i64 3, .int .i64 0, .string ⟨#[]⟩]) (A := 24) (B := 24) (by rw [← hW0]; exact Below.refl _ _)
  have kb0 : Below w.heap.size w W0 := by rw [← hW0]; exact ((Below.refl _ w).alloc (Nat.le_refl _) _).alloc (by simp) _
  have kz0 : W0.heap.size = w.heap.size + 2 := by rw [← hW0]; simp
  have BR0 : Hid (BoxAt W0 w.heap.size [.int .i64 0, .int .i64 0, .string ⟨#[]⟩]) := hbb.1
  have BX0 : Hid (BoxAt W0 (w.heap.size + 1) [.int .i64 3, .int .i64 0, .string ⟨#[]⟩]) := hbb.2
  have HW0 := hid hW0
  have KZ0 := hid kz0
  clear hbb hW0 kz0
  go_enter Try.func56, Try.ntmps56
  go_upto_region 3 with fail
  rw [HT.out, HW0.out]
  have BRz := BR0.out.1
  have BXz := BX0.out.1
  have BXc0 := BX0.out.2.1 0 _ rfl
  have BXc1 := BX0.out.2.1 1 _ rfl
  have BXc2 := BX0.out.2.1 2 _ rfl
  have BXf0 := BX0.out.2.2 0 (by simp)
  have BXf1 := BX0.out.2.2 1 (by simp)
  have BXf2 := BX0.out.2.2 2 (by simp)
  go_upto_region 6 with fail
  go_region
  generalize N0 * 16777216 + N1 * 65536 + N2 * 256 + N3 - 1000000000 = M at *
  obtain ⟨W1, hW1⟩ : ∃ W1, (W0.setCell ⟨w.heap.size + 1, 1, none⟩ (.int .i64 M)).drew = W1 := ⟨_, rfl⟩
  have BR1 : Hid (BoxAt W1 w.heap.size [.int .i64 0, .int .i64 0, .string ⟨#[]⟩]) := by rw [← hW1]; exact (BR0.out.other (by omega) _).drew
  have BX1 : Hid (BoxAt W1 (w.heap.size + 1) [.int .i64 3, .int .i64 M, .string ⟨#[]⟩]) := by rw [← hW1]; exact (BX0.out.set (by simp) _).drew
  have kb1 : Below w.heap.size w W1 := by rw [← hW1]; exact (kb0.setCell (p := ⟨w.heap.size + 1, 1, none⟩) (by show w.heap.size ≤ w.heap.size + 1; omega) _).drew
  rw [hW1]
  have kl1 := kb1.size
  clear hW1 BRz BXz BXc0 BXc1 BXc2 BXf0 BXf1 BXf2 hix0 hix1 hix2 hix3 hn0 hn1 hn2 hn3 BR0 BX0 HW0
  have BXc0 := BX1.out.2.1 0 _ rfl
  have BXc1 := BX1.out.2.1 1 _ rfl
  have BXc2 := BX1.out.2.1 2 _ rfl
  by_cases hg : GoodV (⟨3, M, ByteArray.empty⟩ : VV)
  · have HG := fun W => specGoodYes (⟨3, M, ByteArray.empty⟩ : VV) W hg
    have HBy := fun W => specBytes (⟨3, M, ByteArray.empty⟩ : VV) W hg
    have hXl := bytesL_len hg
    rw [← bytesV_size] at hXl
    have HNOs : Hid ((¬ ∃ r, s.data.toList.drop a = bytesL (⟨3, M, ByteArray.empty⟩ : VV) ++ r) → ∀ v, ¬ Stands (s.data.toList.drop a) v) := fun hn v hv => hn (by rw [HCd.out v hv]; exact hv.2)
    have HEX : Hid (∀ r, s.data.toList.drop a = bytesL (⟨3, M, ByteArray.empty⟩ : VV) ++ r → a + (bytesV (⟨3, M, ByteArray.empty⟩ : VV)).size ≤ s.size ∧ s.extract a (a + (bytesV (⟨3, M, ByteArray.empty⟩ : VV)).size) = bytesV (⟨3, M, ByteArray.empty⟩ : VV)) := fun r hr => stand_extract ha hr
    have HNE : Hid ((¬ ∃ r, s.data.toList.drop a = bytesL (⟨3, M, ByteArray.empty⟩ : VV) ++ r) → a + (bytesV (⟨3, M, ByteArray.empty⟩ : VV)).size ≤ s.size → ((s.extract a (a + (bytesV (⟨3, M, ByteArray.empty⟩ : VV)).size)).toList == (bytesV (⟨3, M, ByteArray.empty⟩ : VV)).toList) = false) := fun h1 h2 => no_stand h1 h2
    have HYES : Hid (∀ r, s.data.toList.drop a = bytesL (⟨3, M, ByteArray.empty⟩ : VV) ++ r → Told s a (.returned (.tuple #[encV (⟨3, M, ByteArray.empty⟩ : VV), .int .i64 ((a : Int) + ((bytesV (⟨3, M, ByteArray.empty⟩ : VV)).size : Int))]))) := fun r hr => .inl ⟨_, ⟨hg, r, hr⟩, rfl⟩
    clear hg
    unfold encV at HG HBy HYES
    simp only [] at HG HBy HYES
    generalize bytesV (⟨3, M, ByteArray.empty⟩ : VV) = X at *
    go_wp2_with fail
    refine (HG _).mono ?_
    rintro e w1 ⟨rfl, hb1⟩
    have BR := hid (BR1.out.below hb1)
    have BX := hid (BX1.out.below hb1)
    clear BXc0 BXc1 BXc2
    have HK := hid (kb1.trans (hb1.mono kl1))
    clear hb1
    have BRz := BR.out.1
    have BRc0 := BR.out.2.1 0 _ rfl
    have BRc1 := BR.out.2.1 1 _ rfl
    have BRc2 := BR.out.2.1 2 _ rfl
    have BRf0 := BR.out.2.2 0 (by simp)
    have BRf1 := BR.out.2.2 1 (by simp)
    have BRf2 := BR.out.2.2 2 (by simp)
    have BXz := BX.out.1
    have BXc0 := BX.out.2.1 0 _ rfl
    have BXc1 := BX.out.2.1 1 _ rfl
    have BXc2 := BX.out.2.1 2 _ rfl
    have BXf0 := BX.out.2.2 0 (by simp)
    have BXf1 := BX.out.2.2 1 (by simp)
    have BXf2 := BX.out.2.2 2 (by simp)
    clear HG
    go_wp2_with fail
    refine (HBy _).mono ?_
    rintro e w2 ⟨rfl, hb2⟩
    (try clear BRz BRc0 BRc1 BRc2 BRf0 BRf1 BRf2)
    (try clear BXz BXc0 BXc1 BXc2 BXf0 BXf1 BXf2)
    replace BR := hid (BR.out.below hb2)
    replace BX := hid (BX.out.below hb2)
    replace HK := hid (HK.out.trans (hb2.mono HK.out.size))
    clear hb2 HBy
    have BRz := BR.out.1
    have BRc0 := BR.out.2.1 0 _ rfl
    have BRc1 := BR.out.2.1 1 _ rfl
    have BRc2 := BR.out.2.1 2 _ rfl
    have BRf0 := BR.out.2.2 0 (by simp)
    have BRf1 := BR.out.2.2 1 (by simp)
    have BRf2 := BR.out.2.2 2 (by simp)
    have BXz := BX.out.1
    have BXc0 := BX.out.2.1 0 _ rfl
    have BXc1 := BX.out.2.1 1 _ rfl
    have BXc2 := BX.out.2.1 2 _ rfl
    have BXf0 := BX.out.2.2 0 (by simp)
    have BXf1 := BX.out.2.2 1 (by simp)
    have BXf2 := BX.out.2.2 2 (by simp)
    by_cases hst : ∃ r, s.data.toList.drop a = bytesL (⟨3, M, ByteArray.empty⟩ : VV) ++ r
    · obtain ⟨r, hr⟩ := hst
      obtain ⟨hle, hex⟩ := HEX.out r hr
      have HT := hid (HYES.out r hr)
      have hnl : ¬ (s.size : Int) < (a : Int) + (X.size : Int) := by omega
      have hle2 : (a : Int) + (X.size : Int) ≤ (s.size : Int) := by omega
      have hla : (a : Int) ≤ (a : Int) + (X.size : Int) := by omega
      clear HEX HNE HNOs HYES hr hle
      go_wp2
      (try simp only [Exit.inBlock, Exit.then])
      refine bodyPost_ret (by simp [*, results, Try.results56, go_sem]; try rfl) rfl ?_
      exact ⟨HT.out, ((HK.out.setCell (p := ⟨w.heap.size, 0, none⟩) (Nat.le_refl _) _).setCell (p := ⟨w.heap.size, 1, none⟩) (Nat.le_refl _) _).setCell (p := ⟨w.heap.size, 2, none⟩) (Nat.le_refl _) _⟩
    · have HNO := hid (HNOs.out hst)
      by_cases hlt2 : s.size < a + X.size
      · have hnl : (s.size : Int) < (a : Int) + (X.size : Int) := by omega
        clear HEX HNE HNOs HYES hst
        go_wp2
        (try simp only [Exit.inBlock, Exit.then])
        refine bodyPost_ret (by simp [*, results, Try.results56, go_sem]; try rfl) rfl ?_
        exact ⟨.inr ⟨HNO.out, rfl⟩, ((HK.out.setCell (p := ⟨w.heap.size, 0, none⟩) (Nat.le_refl _) _).setCell (p := ⟨w.heap.size, 1, none⟩) (Nat.le_refl _) _).setCell (p := ⟨w.heap.size, 2, none⟩) (Nat.le_refl _) _⟩
      · have hne := HNE.out hst (by omega)
        have hnl : ¬ (s.size : Int) < (a : Int) + (X.size : Int) := by omega
        have hle2 : (a : Int) + (X.size : Int) ≤ (s.size : Int) := by omega
        have hla : (a : Int) ≤ (a : Int) + (X.size : Int) := by omega
        clear HEX HNE HNOs HYES hst
        go_wp2
        (try simp only [Exit.inBlock, Exit.then])
        refine bodyPost_ret (by simp [*, results, Try.results56, go_sem]; try rfl) rfl ?_
        exact ⟨.inr ⟨HNO.out, rfl⟩, ((HK.out.setCell (p := ⟨w.heap.size, 0, none⟩) (Nat.le_refl _) _).setCell (p := ⟨w.heap.size, 1, none⟩) (Nat.le_refl _) _).setCell (p := ⟨w.heap.size, 2, none⟩) (Nat.le_refl _) _⟩
  · have HG := fun W => specGoodNo (⟨3, M, ByteArray.empty⟩ : VV) W (by simp [maxLen]) hg
    have HNO : Hid (∀ v, ¬ Stands (s.data.toList.drop a) v) := fun v hv => hg (by rw [HCd.out v hv]; exact hv.1)
    clear hg
    unfold encV at HG
    simp only [] at HG
    go_wp2_with fail
    refine (HG _).mono ?_
    rintro e w1 ⟨rfl, hb1⟩
    have BR := hid (BR1.out.below hb1)
    have BX := hid (BX1.out.below hb1)
    clear BXc0 BXc1 BXc2
    have HK := hid (kb1.trans (hb1.mono kl1))
    clear hb1
    have BRz := BR.out.1
    have BRc0 := BR.out.2.1 0 _ rfl
    have BRc1 := BR.out.2.1 1 _ rfl
    have BRc2 := BR.out.2.1 2 _ rfl
    have BRf0 := BR.out.2.2 0 (by simp)
    have BRf1 := BR.out.2.2 1 (by simp)
    have BRf2 := BR.out.2.2 2 (by simp)
    have BXz := BX.out.1
    have BXc0 := BX.out.2.1 0 _ rfl
    have BXc1 := BX.out.2.1 1 _ rfl
    have BXc2 := BX.out.2.1 2 _ rfl
    have BXf0 := BX.out.2.2 0 (by simp)
    have BXf1 := BX.out.2.2 1 (by simp)
    have BXf2 := BX.out.2.2 2 (by simp)
    clear HG
    go_wp2
    (try simp only [Exit.inBlock, Exit.then])
    refine bodyPost_ret (by simp [*, results, Try.results56, go_sem]; try rfl) rfl ?_
    exact ⟨.inr ⟨HNO.out, rfl⟩, ((HK.out.setCell (p := ⟨w.heap.size, 0, none⟩) (Nat.le_refl _) _).setCell (p := ⟨w.heap.size, 1, none⟩) (Nat.le_refl _) _).setCell (p := ⟨w.heap.size, 2, none⟩) (Nat.le_refl _) _⟩
end Go.Proofs.Ytolkiofdbdjfkaa
