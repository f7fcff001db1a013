/- Contracts of the model's reading of a value. Condition: at most six hundred bytes, and a place within them. -/
import Derived.Test.YtolkiofdbdjfkaaRead
import Derived.Test.YtolkiofdbdjfkaaBoxes
namespace Go.Proofs.Ytolkiofdbdjfkaa
open Go.ChangeShapes Go.WideShapes Go.ChangeAt Go.RowKit Go.Deep
set_option linter.unusedVariables false
attribute [local go_sem ↓] Go.wp_at_zero Go.wp_at_succ

set_option maxHeartbeats 12800000 in
set_option maxRecDepth 100000 in
theorem specReadA (s : ByteArray) (a : Nat) (w : World) (hs : s.size ≤ 600) (ha : a < s.size) (hk : s[a].toNat = 2) (ht : a + 1 < s.size) :
    Calls Try.prog 56 #[.string s, .int .i64 a] w fun e w' => Told s a e ∧ Below w.heap.size w w' := by
  have HCd : Hid (Cand (s.data.toList.drop a) ⟨2, (s[a + 1].toNat : Int), ByteArray.empty⟩) := by
    show Cand _ _
    rw [drop_cons s a ha, drop_cons s (a + 1) ht, show s[a] = 2 from UInt8.toNat_inj.1 hk]
    exact cand_2 _ _
  have hai : (a : Int) < (s.size : Int) := by omega
  have ha0 : (0 : Int) ≤ (a : Int) := by omega
  have hki : wrap64 (s[a].toNat : Int) = 2 := by rw [wrapB, hk]; rfl
  have hlt : 0 < s.size - (a + 1) := by omega
  have hlt' : 0 < (s.extract (a + 1) s.size).size := by simp; omega
  obtain ⟨N, hN⟩ : ∃ N, N = (s[a + 1].toNat : Int) := ⟨_, rfl⟩
  rw [← hN] at HCd
  have hix : wrap64 (((s.extract (a + 1) s.size)[0]'hlt').toNat : Int) = N := by
    rw [wrapB, hN]; simp [ByteArray.getElem_eq_getElem_data, ByteArray.data_extract]
  clear hN
  go_enter Try.func56, Try.ntmps56
  by_cases hg : GoodV (⟨2, N, ByteArray.empty⟩ : VV)
  · have HG := fun W => specGoodYes (⟨2, N, ByteArray.empty⟩ : VV) W hg
    have HBy := fun W => specBytes (⟨2, N, ByteArray.empty⟩ : VV) W hg
    have hXl := bytesL_len hg
    rw [← bytesV_size] at hXl
    have HNOs : Hid ((¬ ∃ r, s.data.toList.drop a = bytesL (⟨2, N, ByteArray.empty⟩ : VV) ++ r) → ∀ v, ¬ Stands (s.data.toList.drop a) v) := fun hn v hv => hn (by rw [HCd.out v hv]; exact hv.2)
    have HEX : Hid (∀ r, s.data.toList.drop a = bytesL (⟨2, N, ByteArray.empty⟩ : VV) ++ r → a + (bytesV (⟨2, N, ByteArray.empty⟩ : VV)).size ≤ s.size ∧ s.extract a (a + (bytesV (⟨2, N, ByteArray.empty⟩ : VV)).size) = bytesV (⟨2, N, ByteArray.empty⟩ : VV)) := fun r hr => stand_extract ha hr
    have HNE : Hid ((¬ ∃ r, s.data.toList.drop a = bytesL (⟨2, N, ByteArray.empty⟩ : VV) ++ r) → a + (bytesV (⟨2, N, ByteArray.empty⟩ : VV)).size ≤ s.size → ((s.extract a (a + (bytesV (⟨2, N, ByteArray.empty⟩ : VV)).size)).toList == (bytesV (⟨2, N, ByteArray.empty⟩ : VV)).toList) = false) := fun h1 h2 => no_stand h1 h2
    have HYES : Hid (∀ r, s.data.toList.drop a = bytesL (⟨2, N, ByteArray.empty⟩ : VV) ++ r → Told s a (.returned (.tuple #[encV (⟨2, N, ByteArray.empty⟩ : VV), .int .i64 ((a : Int) + ((bytesV (⟨2, N, ByteArray.empty⟩ : VV)).size : Int))]))) := fun r hr => .inl ⟨_, ⟨hg, r, hr⟩, rfl⟩
    clear hg
    unfold encV at HG HBy HYES
    simp only [] at HG HBy HYES
    generalize bytesV (⟨2, N, ByteArray.empty⟩ : VV) = X at *
    go_wp2_with fail
    refine (HG _).mono ?_
    rintro e w1 ⟨rfl, hb1⟩
    obtain ⟨qR, qX⟩ := boxOf2 hb1
    have BR := hid qR
    have BX := hid qX
    clear qR qX
    have HK := hid (((((Below.refl _ w).alloc (Nat.le_refl _) _).alloc (by simp) _).trans (hb1.mono (by simp; omega))))
    clear hb1
    have BRz := BR.out.1
    have BRc0 := BR.out.2.1 0 _ rfl
    have BRc1 := BR.out.2.1 1 _ rfl
    have BRc2 := BR.out.2.1 2 _ rfl
    have BRf0 := BR.out.2.2 0 (by simp)
    have BRf1 := BR.out.2.2 1 (by simp)
    have BRf2 := BR.out.2.2 2 (by simp)
    have BXz := BX.out.1
    have BXc0 := BX.out.2.1 0 _ rfl
    have BXc1 := BX.out.2.1 1 _ rfl
    have BXc2 := BX.out.2.1 2 _ rfl
    have BXf0 := BX.out.2.2 0 (by simp)
    have BXf1 := BX.out.2.2 1 (by simp)
    have BXf2 := BX.out.2.2 2 (by simp)
    clear HG
    go_wp2_with fail
    refine (HBy _).mono ?_
    rintro e w2 ⟨rfl, hb2⟩
    (try clear BRz BRc0 BRc1 BRc2 BRf0 BRf1 BRf2)
    (try clear BXz BXc0 BXc1 BXc2 BXf0 BXf1 BXf2)
    replace BR := hid (BR.out.below hb2)
    replace BX := hid (BX.out.below hb2)
    replace HK := hid (HK.out.trans (hb2.mono HK.out.size))
    clear hb2 HBy
    have BRz := BR.out.1
    have BRc0 := BR.out.2.1 0 _ rfl
    have BRc1 := BR.out.2.1 1 _ rfl
    have BRc2 := BR.out.2.1 2 _ rfl
    have BRf0 := BR.out.2.2 0 (by simp)
    have BRf1 := BR.out.2.2 1 (by simp)
    have BRf2 := BR.out.2.2 2 (by simp)
    have BXz := BX.out.1
    have BXc0 := BX.out.2.1 0 _ rfl
    have BXc1 := BX.out.2.1 1 _ rfl
    have BXc2 := BX.out.2.1 2 _ rfl
    have BXf0 := BX.out.2.2 0 (by simp)
    have BXf1 := BX.out.2.2 1 (by simp)
    have BXf2 := BX.out.2.2 2 (by simp)
    by_cases hst : ∃ r, s.data.toList.drop a = bytesL (⟨2, N, ByteArray.empty⟩ : VV) ++ r
    · obtain ⟨r, hr⟩ := hst
      obtain ⟨hle, hex⟩ := HEX.out r hr
      have HT := hid (HYES.out r hr)
      have hnl : ¬ (s.size : Int) < (a : Int) + (X.size : Int) := by omega
      have hle2 : (a : Int) + (X.size : Int) ≤ (s.size : Int) := by omega
      have hla : (a : Int) ≤ (a : Int) + (X.size : Int) := by omega
      clear HEX HNE HNOs HYES hr hle
      go_wp2
      (try simp only [Exit.inBlock, Exit.then])
      refine bodyPost_ret (by simp [*, results, Try.results56, go_sem]; try rfl) rfl ?_
      exact ⟨HT.out, ((HK.out.setCell (p := ⟨w.heap.size, 0, none⟩) (Nat.le_refl _) _).setCell (p := ⟨w.heap.size, 1, none⟩) (Nat.le_refl _) _).setCell (p := ⟨w.heap.size, 2, none⟩) (Nat.le_refl _) _⟩
    · have HNO := hid (HNOs.out hst)
      by_cases hlt2 : s.size < a + X.size
      · have hnl : (s.size : Int) < (a : Int) + (X.size : Int) := by omega
        clear HEX HNE HNOs HYES hst
        go_wp2
        (try simp only [Exit.inBlock, Exit.then])
        refine bodyPost_ret (by simp [*, results, Try.results56, go_sem]; try rfl) rfl ?_
        exact ⟨.inr ⟨HNO.out, rfl⟩, ((HK.out.setCell (p := ⟨w.heap.size, 0, none⟩) (Nat.le_refl _) _).setCell (p := ⟨w.heap.size, 1, none⟩) (Nat.le_refl _) _).setCell (p := ⟨w.heap.size, 2, none⟩) (Nat.le_refl _) _⟩
      · have hne := HNE.out hst (by omega)
        have hnl : ¬ (s.size : Int) < (a : Int) + (X.size : Int) := by omega
        have hle2 : (a : Int) + (X.size : Int) ≤ (s.size : Int) := by omega
        have hla : (a : Int) ≤ (a : Int) + (X.size : Int) := by omega
        clear HEX HNE HNOs HYES hst
        go_wp2
        (try simp only [Exit.inBlock, Exit.then])
        refine bodyPost_ret (by simp [*, results, Try.results56, go_sem]; try rfl) rfl ?_
        exact ⟨.inr ⟨HNO.out, rfl⟩, ((HK.out.setCell (p := ⟨w.heap.size, 0, none⟩) (Nat.le_refl _) _).setCell (p := ⟨w.heap.size, 1, none⟩) (Nat.le_refl _) _).setCell (p := ⟨w.heap.size, 2, none⟩) (Nat.le_refl _) _⟩
  · have HG := fun W => specGoodNo (⟨2, N, ByteArray.empty⟩ : VV) W (by simp [maxLen]) hg
    have HNO : Hid (∀ v, ¬ Stands (s.data.toList.drop a) v) := fun v hv => hg (by rw [HCd.out v hv]; exact hv.1)
    clear hg
    unfold encV at HG
    simp only [] at HG
    go_wp2_with fail
    refine (HG _).mono ?_
    rintro e w1 ⟨rfl, hb1⟩
    obtain ⟨qR, qX⟩ := boxOf2 hb1
    have BR := hid qR
    have BX := hid qX
    clear qR qX
    have HK := hid (((((Below.refl _ w).alloc (Nat.le_refl _) _).alloc (by simp) _).trans (hb1.mono (by simp; omega))))
    clear hb1
    have BRz := BR.out.1
    have BRc0 := BR.out.2.1 0 _ rfl
    have BRc1 := BR.out.2.1 1 _ rfl
    have BRc2 := BR.out.2.1 2 _ rfl
    have BRf0 := BR.out.2.2 0 (by simp)
    have BRf1 := BR.out.2.2 1 (by simp)
    have BRf2 := BR.out.2.2 2 (by simp)
    have BXz := BX.out.1
    have BXc0 := BX.out.2.1 0 _ rfl
    have BXc1 := BX.out.2.1 1 _ rfl
    have BXc2 := BX.out.2.1 2 _ rfl
    have BXf0 := BX.out.2.2 0 (by simp)
    have BXf1 := BX.out.2.2 1 (by simp)
    have BXf2 := BX.out.2.2 2 (by simp)
    clear HG
    go_wp2
    (try simp only [Exit.inBlock, Exit.then])
    refine bodyPost_ret (by simp [*, results, Try.results56, go_sem]; try rfl) rfl ?_
    exact ⟨.inr ⟨HNO.out, rfl⟩, ((HK.out.setCell (p := ⟨w.heap.size, 0, none⟩) (Nat.le_refl _) _).setCell (p := ⟨w.heap.size, 1, none⟩) (Nat.le_refl _) _).setCell (p := ⟨w.heap.size, 2, none⟩) (Nat.le_refl _) _⟩
set_option maxHeartbeats 12800000 in
set_option maxRecDepth 100000 in
theorem specReadD (s : ByteArray) (a : Nat) (w : World) (hs : s.size ≤ 600) (ha : a < s.size) (h2 : s[a].toNat = 2 → s.size ≤ a + 1) (h3 : s[a].toNat = 3 → s.size ≤ a + 4) (h4 : s[a].toNat ≠ 4) :
    Calls Try.prog 56 #[.string s, .int .i64 a] w fun e w' => Told s a e ∧ Below w.heap.size w w' := by
  have HCd : Hid (Cand (s.data.toList.drop a) ⟨(s[a].toNat : Int), 0, ByteArray.empty⟩) := by
    show Cand _ _
    rw [drop_cons s a ha]
    have hz : s.data.toList.length = s.size := by simp
    refine cand_0 _ _ (fun e => List.drop_eq_nil_of_le (by have := h2 e; omega)) (fun e => by have := h3 e; simp only [List.length_drop]; omega) h4
  have hai : (a : Int) < (s.size : Int) := by omega
  have ha0 : (0 : Int) ≤ (a : Int) := by omega
  obtain ⟨N, hN⟩ : ∃ N, N = (s[a].toNat : Int) := ⟨_, rfl⟩
  rw [← hN] at HCd
  have hw : wrap64 (s[a].toNat : Int) = N := by rw [wrapB, hN]
  have g4 : ¬ N = 4 := by omega
  have g2 : ¬ N = 2 ∨ (N = 2 ∧ ¬ 0 < s.size - (a + 1)) := by
    by_cases e : s[a].toNat = 2
    · exact .inr ⟨by omega, by have := h2 e; omega⟩
    · exact .inl (by omega)
  have g3 : ¬ N = 3 ∨ (N = 3 ∧ ¬ 3 < s.size - (a + 1)) := by
    by_cases e : s[a].toNat = 3
    · exact .inr ⟨by omega, by have := h3 e; omega⟩
    · exact .inl (by omega)
  clear h2 h3 h4 hN
  rcases g2 with g2 | ⟨rfl, g2⟩
  · rcases g3 with g3 | ⟨rfl, g3⟩
    · go_enter Try.func56, Try.ntmps56
      by_cases hg : GoodV (⟨N, 0, ByteArray.empty⟩ : VV)
      · have HG := fun W => specGoodYes (⟨N, 0, ByteArray.empty⟩ : VV) W hg
        have HBy := fun W => specBytes (⟨N, 0, ByteArray.empty⟩ : VV) W hg
        have hXl := bytesL_len hg
        rw [← bytesV_size] at hXl
        have HNOs : Hid ((¬ ∃ r, s.data.toList.drop a = bytesL (⟨N, 0, ByteArray.empty⟩ : VV) ++ r) → ∀ v, ¬ Stands (s.data.toList.drop a) v) := fun hn v hv => hn (by rw [HCd.out v hv]; exact hv.2)
        have HEX : Hid (∀ r, s.data.toList.drop a = bytesL (⟨N, 0, ByteArray.empty⟩ : VV) ++ r → a + (bytesV (⟨N, 0, ByteArray.empty⟩ : VV)).size ≤ s.size ∧ s.extract a (a + (bytesV (⟨N, 0, ByteArray.empty⟩ : VV)).size) = bytesV (⟨N, 0, ByteArray.empty⟩ : VV)) := fun r hr => stand_extract ha hr
        have HNE : Hid ((¬ ∃ r, s.data.toList.drop a = bytesL (⟨N, 0, ByteArray.empty⟩ : VV) ++ r) → a + (bytesV (⟨N, 0, ByteArray.empty⟩ : VV)).size ≤ s.size → ((s.extract a (a + (bytesV (⟨N, 0, ByteArray.empty⟩ : VV)).size)).toList == (bytesV (⟨N, 0, ByteArray.empty⟩ : VV)).toList) = false) := fun h1 h2 => no_stand h1 h2
        have HYES : Hid (∀ r, s.data.toList.drop a = bytesL (⟨N, 0, ByteArray.empty⟩ : VV) ++ r → Told s a (.returned (.tuple #[encV (⟨N, 0, ByteArray.empty⟩ : VV), .int .i64 ((a : Int) + ((bytesV (⟨N, 0, ByteArray.empty⟩ : VV)).size : Int))]))) := fun r hr => .inl ⟨_, ⟨hg, r, hr⟩, rfl⟩
        clear hg
        unfold encV at HG HBy HYES
        simp only [] at HG HBy HYES
        generalize bytesV (⟨N, 0, ByteArray.empty⟩ : VV) = X at *
        go_wp2_with fail
        refine (HG _).mono ?_
        rintro e w1 ⟨rfl, hb1⟩
        obtain ⟨qR, qX⟩ := boxOf2 hb1
        have BR := hid qR
        have BX := hid qX
        clear qR qX
        have HK := hid (((((Below.refl _ w).alloc (Nat.le_refl _) _).alloc (by simp) _).trans (hb1.mono (by simp; omega))))
        clear hb1
        have BRz := BR.out.1
        have BRc0 := BR.out.2.1 0 _ rfl
        have BRc1 := BR.out.2.1 1 _ rfl
        have BRc2 := BR.out.2.1 2 _ rfl
        have BRf0 := BR.out.2.2 0 (by simp)
        have BRf1 := BR.out.2.2 1 (by simp)
        have BRf2 := BR.out.2.2 2 (by simp)
        have BXz := BX.out.1
        have BXc0 := BX.out.2.1 0 _ rfl
        have BXc1 := BX.out.2.1 1 _ rfl
        have BXc2 := BX.out.2.1 2 _ rfl
        have BXf0 := BX.out.2.2 0 (by simp)
        have BXf1 := BX.out.2.2 1 (by simp)
        have BXf2 := BX.out.2.2 2 (by simp)
        clear HG
        go_wp2_with fail
        refine (HBy _).mono ?_
        rintro e w2 ⟨rfl, hb2⟩
        (try clear BRz BRc0 BRc1 BRc2 BRf0 BRf1 BRf2)
        (try clear BXz BXc0 BXc1 BXc2 BXf0 BXf1 BXf2)
        replace BR := hid (BR.out.below hb2)
        replace BX := hid (BX.out.below hb2)
        replace HK := hid (HK.out.trans (hb2.mono HK.out.size))
        clear hb2 HBy
        have BRz := BR.out.1
        have BRc0 := BR.out.2.1 0 _ rfl
        have BRc1 := BR.out.2.1 1 _ rfl
        have BRc2 := BR.out.2.1 2 _ rfl
        have BRf0 := BR.out.2.2 0 (by simp)
        have BRf1 := BR.out.2.2 1 (by simp)
        have BRf2 := BR.out.2.2 2 (by simp)
        have BXz := BX.out.1
        have BXc0 := BX.out.2.1 0 _ rfl
        have BXc1 := BX.out.2.1 1 _ rfl
        have BXc2 := BX.out.2.1 2 _ rfl
        have BXf0 := BX.out.2.2 0 (by simp)
        have BXf1 := BX.out.2.2 1 (by simp)
        have BXf2 := BX.out.2.2 2 (by simp)
        by_cases hst : ∃ r, s.data.toList.drop a = bytesL (⟨N, 0, ByteArray.empty⟩ : VV) ++ r
        · obtain ⟨r, hr⟩ := hst
          obtain ⟨hle, hex⟩ := HEX.out r hr
          have HT := hid (HYES.out r hr)
          have hnl : ¬ (s.size : Int) < (a : Int) + (X.size : Int) := by omega
          have hle2 : (a : Int) + (X.size : Int) ≤ (s.size : Int) := by omega
          have hla : (a : Int) ≤ (a : Int) + (X.size : Int) := by omega
          clear HEX HNE HNOs HYES hr hle
          go_wp2
          (try simp only [Exit.inBlock, Exit.then])
          refine bodyPost_ret (by simp [*, results, Try.results56, go_sem]; try rfl) rfl ?_
          exact ⟨HT.out, ((HK.out.setCell (p := ⟨w.heap.size, 0, none⟩) (Nat.le_refl _) _).setCell (p := ⟨w.heap.size, 1, none⟩) (Nat.le_refl _) _).setCell (p := ⟨w.heap.size, 2, none⟩) (Nat.le_refl _) _⟩
        · have HNO := hid (HNOs.out hst)
          by_cases hlt2 : s.size < a + X.size
          · have hnl : (s.size : Int) < (a : Int) + (X.size : Int) := by omega
            clear HEX HNE HNOs HYES hst
            go_wp2
            (try simp only [Exit.inBlock, Exit.then])
            refine bodyPost_ret (by simp [*, results, Try.results56, go_sem]; try rfl) rfl ?_
            exact ⟨.inr ⟨HNO.out, rfl⟩, ((HK.out.setCell (p := ⟨w.heap.size, 0, none⟩) (Nat.le_refl _) _).setCell (p := ⟨w.heap.size, 1, none⟩) (Nat.le_refl _) _).setCell (p := ⟨w.heap.size, 2, none⟩) (Nat.le_refl _) _⟩
          · have hne := HNE.out hst (by omega)
            have hnl : ¬ (s.size : Int) < (a : Int) + (X.size : Int) := by omega
            have hle2 : (a : Int) + (X.size : Int) ≤ (s.size : Int) := by omega
            have hla : (a : Int) ≤ (a : Int) + (X.size : Int) := by omega
            clear HEX HNE HNOs HYES hst
            go_wp2
            (try simp only [Exit.inBlock, Exit.then])
            refine bodyPost_ret (by simp [*, results, Try.results56, go_sem]; try rfl) rfl ?_
            exact ⟨.inr ⟨HNO.out, rfl⟩, ((HK.out.setCell (p := ⟨w.heap.size, 0, none⟩) (Nat.le_refl _) _).setCell (p := ⟨w.heap.size, 1, none⟩) (Nat.le_refl _) _).setCell (p := ⟨w.heap.size, 2, none⟩) (Nat.le_refl _) _⟩
      · have HG := fun W => specGoodNo (⟨N, 0, ByteArray.empty⟩ : VV) W (by simp [maxLen]) hg
        have HNO : Hid (∀ v, ¬ Stands (s.data.toList.drop a) v) := fun v hv => hg (by rw [HCd.out v hv]; exact hv.1)
        clear hg
        unfold encV at HG
        simp only [] at HG
        go_wp2_with fail
        refine (HG _).mono ?_
        rintro e w1 ⟨rfl, hb1⟩
        obtain ⟨qR, qX⟩ := boxOf2 hb1
        have BR := hid qR
        have BX := hid qX
        clear qR qX
        have HK := hid (((((Below.refl _ w).alloc (Nat.le_refl _) _).alloc (by simp) _).trans (hb1.mono (by simp; omega))))
        clear hb1
        have BRz := BR.out.1
        have BRc0 := BR.out.2.1 0 _ rfl
        have BRc1 := BR.out.2.1 1 _ rfl
        have BRc2 := BR.out.2.1 2 _ rfl
        have BRf0 := BR.out.2.2 0 (by simp)
        have BRf1 := BR.out.2.2 1 (by simp)
        have BRf2 := BR.out.2.2 2 (by simp)
        have BXz := BX.out.1
        have BXc0 := BX.out.2.1 0 _ rfl
        have BXc1 := BX.out.2.1 1 _ rfl
        have BXc2 := BX.out.2.1 2 _ rfl
        have BXf0 := BX.out.2.2 0 (by simp)
        have BXf1 := BX.out.2.2 1 (by simp)
        have BXf2 := BX.out.2.2 2 (by simp)
        clear HG
        go_wp2
        (try simp only [Exit.inBlock, Exit.then])
        refine bodyPost_ret (by simp [*, results, Try.results56, go_sem]; try rfl) rfl ?_
        exact ⟨.inr ⟨HNO.out, rfl⟩, ((HK.out.setCell (p := ⟨w.heap.size, 0, none⟩) (Nat.le_refl _) _).setCell (p := ⟨w.heap.size, 1, none⟩) (Nat.le_refl _) _).setCell (p := ⟨w.heap.size, 2, none⟩) (Nat.le_refl _) _⟩
    · clear g4 g2
      go_enter Try.func56, Try.ntmps56
      by_cases hg : GoodV (⟨3, 0, ByteArray.empty⟩ : VV)
      · have HG := fun W => specGoodYes (⟨3, 0, ByteArray.empty⟩ : VV) W hg
        have HBy := fun W => specBytes (⟨3, 0, ByteArray.empty⟩ : VV) W hg
        have hXl := bytesL_len hg
        rw [← bytesV_size] at hXl
        have HNOs : Hid ((¬ ∃ r, s.data.toList.drop a = bytesL (⟨3, 0, ByteArray.empty⟩ : VV) ++ r) → ∀ v, ¬ Stands (s.data.toList.drop a) v) := fun hn v hv => hn (by rw [HCd.out v hv]; exact hv.2)
        have HEX : Hid (∀ r, s.data.toList.drop a = bytesL (⟨3, 0, ByteArray.empty⟩ : VV) ++ r → a + (bytesV (⟨3, 0, ByteArray.empty⟩ : VV)).size ≤ s.size ∧ s.extract a (a + (bytesV (⟨3, 0, ByteArray.empty⟩ : VV)).size) = bytesV (⟨3, 0, ByteArray.empty⟩ : VV)) := fun r hr => stand_extract ha hr
        have HNE : Hid ((¬ ∃ r, s.data.toList.drop a = bytesL (⟨3, 0, ByteArray.empty⟩ : VV) ++ r) → a + (bytesV (⟨3, 0, ByteArray.empty⟩ : VV)).size ≤ s.size → ((s.extract a (a + (bytesV (⟨3, 0, ByteArray.empty⟩ : VV)).size)).toList == (bytesV (⟨3, 0, ByteArray.empty⟩ : VV)).toList) = false) := fun h1 h2 => no_stand h1 h2
        have HYES : Hid (∀ r, s.data.toList.drop a = bytesL (⟨3, 0, ByteArray.empty⟩ : VV) ++ r → Told s a (.returned (.tuple #[encV (⟨3, 0, ByteArray.empty⟩ : VV), .int .i64 ((a : Int) + ((bytesV (⟨3, 0, ByteArray.empty⟩ : VV)).size : Int))]))) := fun r hr => .inl ⟨_, ⟨hg, r, hr⟩, rfl⟩
        clear hg
        unfold encV at HG HBy HYES
        simp only [] at HG HBy HYES
        generalize bytesV (⟨3, 0, ByteArray.empty⟩ : VV) = X at *
        go_wp2_with fail
        refine (HG _).mono ?_
        rintro e w1 ⟨rfl, hb1⟩
        obtain ⟨qR, qX⟩ := boxOf2 hb1
        have BR := hid qR
        have BX := hid qX
        clear qR qX
        have HK := hid (((((Below.refl _ w).alloc (Nat.le_refl _) _).alloc (by simp) _).trans (hb1.mono (by simp; omega))))
        clear hb1
        have BRz := BR.out.1
        have BRc0 := BR.out.2.1 0 _ rfl
        have BRc1 := BR.out.2.1 1 _ rfl
        have BRc2 := BR.out.2.1 2 _ rfl
        have BRf0 := BR.out.2.2 0 (by simp)
        have BRf1 := BR.out.2.2 1 (by simp)
        have BRf2 := BR.out.2.2 2 (by simp)
        have BXz := BX.out.1
        have BXc0 := BX.out.2.1 0 _ rfl
        have BXc1 := BX.out.2.1 1 _ rfl
        have BXc2 := BX.out.2.1 2 _ rfl
        have BXf0 := BX.out.2.2 0 (by simp)
        have BXf1 := BX.out.2.2 1 (by simp)
        have BXf2 := BX.out.2.2 2 (by simp)
        clear HG
        go_wp2_with fail
        refine (HBy _).mono ?_
        rintro e w2 ⟨rfl, hb2⟩
        (try clear BRz BRc0 BRc1 BRc2 BRf0 BRf1 BRf2)
        (try clear BXz BXc0 BXc1 BXc2 BXf0 BXf1 BXf2)
        replace BR := hid (BR.out.below hb2)
        replace BX := hid (BX.out.below hb2)
        replace HK := hid (HK.out.trans (hb2.mono HK.out.size))
        clear hb2 HBy
        have BRz := BR.out.1
        have BRc0 := BR.out.2.1 0 _ rfl
        have BRc1 := BR.out.2.1 1 _ rfl
        have BRc2 := BR.out.2.1 2 _ rfl
        have BRf0 := BR.out.2.2 0 (by simp)
        have BRf1 := BR.out.2.2 1 (by simp)
        have BRf2 := BR.out.2.2 2 (by simp)
        have BXz := BX.out.1
        have BXc0 := BX.out.2.1 0 _ rfl
        have BXc1 := BX.out.2.1 1 _ rfl
        have BXc2 := BX.out.2.1 2 _ rfl
        have BXf0 := BX.out.2.2 0 (by simp)
        have BXf1 := BX.out.2.2 1 (by simp)
        have BXf2 := BX.out.2.2 2 (by simp)
        by_cases hst : ∃ r, s.data.toList.drop a = bytesL (⟨3, 0, ByteArray.empty⟩ : VV) ++ r
        · obtain ⟨r, hr⟩ := hst
          obtain ⟨hle, hex⟩ := HEX.out r hr
          have HT := hid (HYES.out r hr)
          have hnl : ¬ (s.size : Int) < (a : Int) + (X.size : Int) := by omega
          have hle2 : (a : Int) + (X.size : Int) ≤ (s.size : Int) := by omega
          have hla : (a : Int) ≤ (a : Int) + (X.size : Int) := by omega
          clear HEX HNE HNOs HYES hr hle
          go_wp2
          (try simp only [Exit.inBlock, Exit.then])
          refine bodyPost_ret (by simp [*, results, Try.results56, go_sem]; try rfl) rfl ?_
          exact ⟨HT.out, ((HK.out.setCell (p := ⟨w.heap.size, 0, none⟩) (Nat.le_refl _) _).setCell (p := ⟨w.heap.size, 1, none⟩) (Nat.le_refl _) _).setCell (p := ⟨w.heap.size, 2, none⟩) (Nat.le_refl _) _⟩
        · have HNO := hid (HNOs.out hst)
          by_cases hlt2 : s.size < a + X.size
          · have hnl : (s.size : Int) < (a : Int) + (X.size : Int) := by omega
            clear HEX HNE HNOs HYES hst
            go_wp2
            (try simp only [Exit.inBlock, Exit.then])
            refine bodyPost_ret (by simp [*, results, Try.results56, go_sem]; try rfl) rfl ?_
            exact ⟨.inr ⟨HNO.out, rfl⟩, ((HK.out.setCell (p := ⟨w.heap.size, 0, none⟩) (Nat.le_refl _) _).setCell (p := ⟨w.heap.size, 1, none⟩) (Nat.le_refl _) _).setCell (p := ⟨w.heap.size, 2, none⟩) (Nat.le_refl _) _⟩
          · have hne := HNE.out hst (by omega)
            have hnl : ¬ (s.size : Int) < (a : Int) + (X.size : Int) := by omega
            have hle2 : (a : Int) + (X.size : Int) ≤ (s.size : Int) := by omega
            have hla : (a : Int) ≤ (a : Int) + (X.size : Int) := by omega
            clear HEX HNE HNOs HYES hst
            go_wp2
            (try simp only [Exit.inBlock, Exit.then])
            refine bodyPost_ret (by simp [*, results, Try.results56, go_sem]; try rfl) rfl ?_
            exact ⟨.inr ⟨HNO.out, rfl⟩, ((HK.out.setCell (p := ⟨w.heap.size, 0, none⟩) (Nat.le_refl _) _).setCell (p := ⟨w.heap.size, 1, none⟩) (Nat.le_refl _) _).setCell (p := ⟨w.heap.size, 2, none⟩) (Nat.le_refl _) _⟩
      · have HG := fun W => specGoodNo (⟨3, 0, ByteArray.empty⟩ : VV) W (by simp [maxLen]) hg
        have HNO : Hid (∀ v, ¬ Stands (s.data.toList.drop a) v) := fun v hv => hg (by rw [HCd.out v hv]; exact hv.1)
        clear hg
        unfold encV at HG
        simp only [] at HG
        go_wp2_with fail
        refine (HG _).mono ?_
        rintro e w1 ⟨rfl, hb1⟩
        obtain ⟨qR, qX⟩ := boxOf2 hb1
        have BR := hid qR
        have BX := hid qX
        clear qR qX
        have HK := hid (((((Below.refl _ w).alloc (Nat.le_refl _) _).alloc (by simp) _).trans (hb1.mono (by simp; omega))))
        clear hb1
        have BRz := BR.out.1
        have BRc0 := BR.out.2.1 0 _ rfl
        have BRc1 := BR.out.2.1 1 _ rfl
        have BRc2 := BR.out.2.1 2 _ rfl
        have BRf0 := BR.out.2.2 0 (by simp)
        have BRf1 := BR.out.2.2 1 (by simp)
        have BRf2 := BR.out.2.2 2 (by simp)
        have BXz := BX.out.1
        have BXc0 := BX.out.2.1 0 _ rfl
        have BXc1 := BX.out.2.1 1 _ rfl
        have BXc2 := BX.out.2.1 2 _ rfl
        have BXf0 := BX.out.2.2 0 (by simp)
        have BXf1 := BX.out.2.2 1 (by simp)
        have BXf2 := BX.out.2.2 2 (by simp)
        clear HG
        go_wp2
        (try simp only [Exit.inBlock, Exit.then])
        refine bodyPost_ret (by simp [*, results, Try.results56, go_sem]; try rfl) rfl ?_
        exact ⟨.inr ⟨HNO.out, rfl⟩, ((HK.out.setCell (p := ⟨w.heap.size, 0, none⟩) (Nat.le_refl _) _).setCell (p := ⟨w.heap.size, 1, none⟩) (Nat.le_refl _) _).setCell (p := ⟨w.heap.size, 2, none⟩) (Nat.le_refl _) _⟩
  · clear g3 g4
    go_enter Try.func56, Try.ntmps56
    by_cases hg : GoodV (⟨2, 0, ByteArray.empty⟩ : VV)
    · have HG := fun W => specGoodYes (⟨2, 0, ByteArray.empty⟩ : VV) W hg
      have HBy := fun W => specBytes (⟨2, 0, ByteArray.empty⟩ : VV) W hg
      have hXl := bytesL_len hg
      rw [← bytesV_size] at hXl
      have HNOs : Hid ((¬ ∃ r, s.data.toList.drop a = bytesL (⟨2, 0, ByteArray.empty⟩ : VV) ++ r) → ∀ v, ¬ Stands (s.data.toList.drop a) v) := fun hn v hv => hn (by rw [HCd.out v hv]; exact hv.2)
      have HEX : Hid (∀ r, s.data.toList.drop a = bytesL (⟨2, 0, ByteArray.empty⟩ : VV) ++ r → a + (bytesV (⟨2, 0, ByteArray.empty⟩ : VV)).size ≤ s.size ∧ s.extract a (a + (bytesV (⟨2, 0, ByteArray.empty⟩ : VV)).size) = bytesV (⟨2, 0, ByteArray.empty⟩ : VV)) := fun r hr => stand_extract ha hr
      have HNE : Hid ((¬ ∃ r, s.data.toList.drop a = bytesL (⟨2, 0, ByteArray.empty⟩ : VV) ++ r) → a + (bytesV (⟨2, 0, ByteArray.empty⟩ : VV)).size ≤ s.size → ((s.extract a (a + (bytesV (⟨2, 0, ByteArray.empty⟩ : VV)).size)).toList == (bytesV (⟨2, 0, ByteArray.empty⟩ : VV)).toList) = false) := fun h1 h2 => no_stand h1 h2
      have HYES : Hid (∀ r, s.data.toList.drop a = bytesL (⟨2, 0, ByteArray.empty⟩ : VV) ++ r → Told s a (.returned (.tuple #[encV (⟨2, 0, ByteArray.empty⟩ : VV), .int .i64 ((a : Int) + ((bytesV (⟨2, 0, ByteArray.empty⟩ : VV)).size : Int))]))) := fun r hr => .inl ⟨_, ⟨hg, r, hr⟩, rfl⟩
      clear hg
      unfold encV at HG HBy HYES
      simp only [] at HG HBy HYES
      generalize bytesV (⟨2, 0, ByteArray.empty⟩ : VV) = X at *
      go_wp2_with fail
      refine (HG _).mono ?_
      rintro e w1 ⟨rfl, hb1⟩
      obtain ⟨qR, qX⟩ := boxOf2 hb1
      have BR := hid qR
      have BX := hid qX
      clear qR qX
      have HK := hid (((((Below.refl _ w).alloc (Nat.le_refl _) _).alloc (by simp) _).trans (hb1.mono (by simp; omega))))
      clear hb1
      have BRz := BR.out.1
      have BRc0 := BR.out.2.1 0 _ rfl
      have BRc1 := BR.out.2.1 1 _ rfl
      have BRc2 := BR.out.2.1 2 _ rfl
      have BRf0 := BR.out.2.2 0 (by simp)
      have BRf1 := BR.out.2.2 1 (by simp)
      have BRf2 := BR.out.2.2 2 (by simp)
      have BXz := BX.out.1
      have BXc0 := BX.out.2.1 0 _ rfl
      have BXc1 := BX.out.2.1 1 _ rfl
      have BXc2 := BX.out.2.1 2 _ rfl
      have BXf0 := BX.out.2.2 0 (by simp)
      have BXf1 := BX.out.2.2 1 (by simp)
      have BXf2 := BX.out.2.2 2 (by simp)
      clear HG
      go_wp2_with fail
      refine (HBy _).mono ?_
      rintro e w2 ⟨rfl, hb2⟩
      (try clear BRz BRc0 BRc1 BRc2 BRf0 BRf1 BRf2)
      (try clear BXz BXc0 BXc1 BXc2 BXf0 BXf1 BXf2)
      replace BR := hid (BR.out.below hb2)
      replace BX := hid (BX.out.below hb2)
      replace HK := hid (HK.out.trans (hb2.mono HK.out.size))
      clear hb2 HBy
      have BRz := BR.out.1
      have BRc0 := BR.out.2.1 0 _ rfl
      have BRc1 := BR.out.2.1 1 _ rfl
      have BRc2 := BR.out.2.1 2 _ rfl
      have BRf0 := BR.out.2.2 0 (by simp)
      have BRf1 := BR.out.2.2 1 (by simp)
      have BRf2 := BR.out.2.2 2 (by simp)
      have BXz := BX.out.1
      have BXc0 := BX.out.2.1 0 _ rfl
      have BXc1 := BX.out.2.1 1 _ rfl
      have BXc2 := BX.out.2.1 2 _ rfl
      have BXf0 := BX.out.2.2 0 (by simp)
      have BXf1 := BX.out.2.2 1 (by simp)
      have BXf2 := BX.out.2.2 2 (by simp)
      by_cases hst : ∃ r, s.data.toList.drop a = bytesL (⟨2, 0, ByteArray.empty⟩ : VV) ++ r
      · obtain ⟨r, hr⟩ := hst
        obtain ⟨hle, hex⟩ := HEX.out r hr
        have HT := hid (HYES.out r hr)
        have hnl : ¬ (s.size : Int) < (a : Int) + (X.size : Int) := by omega
        have hle2 : (a : Int) + (X.size : Int) ≤ (s.size : Int) := by omega
        have hla : (a : Int) ≤ (a : Int) + (X.size : Int) := by omega
        clear HEX HNE HNOs HYES hr hle
        go_wp2
        (try simp only [Exit.inBlock, Exit.then])
        refine bodyPost_ret (by simp [*, results, Try.results56, go_sem]; try rfl) rfl ?_
        exact ⟨HT.out, ((HK.out.setCell (p := ⟨w.heap.size, 0, none⟩) (Nat.le_refl _) _).setCell (p := ⟨w.heap.size, 1, none⟩) (Nat.le_refl _) _).setCell (p := ⟨w.heap.size, 2, none⟩) (Nat.le_refl _) _⟩
      · have HNO := hid (HNOs.out hst)
        by_cases hlt2 : s.size < a + X.size
        · have hnl : (s.size : Int) < (a : Int) + (X.size : Int) := by omega
          clear HEX HNE HNOs HYES hst
          go_wp2
          (try simp only [Exit.inBlock, Exit.then])
          refine bodyPost_ret (by simp [*, results, Try.results56, go_sem]; try rfl) rfl ?_
          exact ⟨.inr ⟨HNO.out, rfl⟩, ((HK.out.setCell (p := ⟨w.heap.size, 0, none⟩) (Nat.le_refl _) _).setCell (p := ⟨w.heap.size, 1, none⟩) (Nat.le_refl _) _).setCell (p := ⟨w.heap.size, 2, none⟩) (Nat.le_refl _) _⟩
        · have hne := HNE.out hst (by omega)
          have hnl : ¬ (s.size : Int) < (a : Int) + (X.size : Int) := by omega
          have hle2 : (a : Int) + (X.size : Int) ≤ (s.size : Int) := by omega
          have hla : (a : Int) ≤ (a : Int) + (X.size : Int) := by omega
          clear HEX HNE HNOs HYES hst
          go_wp2
          (try simp only [Exit.inBlock, Exit.then])
          refine bodyPost_ret (by simp [*, results, Try.results56, go_sem]; try rfl) rfl ?_
          exact ⟨.inr ⟨HNO.out, rfl⟩, ((HK.out.setCell (p := ⟨w.heap.size, 0, none⟩) (Nat.le_refl _) _).setCell (p := ⟨w.heap.size, 1, none⟩) (Nat.le_refl _) _).setCell (p := ⟨w.heap.size, 2, none⟩) (Nat.le_refl _) _⟩
    · have HG := fun W => specGoodNo (⟨2, 0, ByteArray.empty⟩ : VV) W (by simp [maxLen]) hg
      have HNO : Hid (∀ v, ¬ Stands (s.data.toList.drop a) v) := fun v hv => hg (by rw [HCd.out v hv]; exact hv.1)
      clear hg
      unfold encV at HG
      simp only [] at HG
      go_wp2_with fail
      refine (HG _).mono ?_
      rintro e w1 ⟨rfl, hb1⟩
      obtain ⟨qR, qX⟩ := boxOf2 hb1
      have BR := hid qR
      have BX := hid qX
      clear qR qX
      have HK := hid (((((Below.refl _ w).alloc (Nat.le_refl _) _).alloc (by simp) _).trans (hb1.mono (by simp; omega))))
      clear hb1
      have BRz := BR.out.1
      have BRc0 := BR.out.2.1 0 _ rfl
      have BRc1 := BR.out.2.1 1 _ rfl
      have BRc2 := BR.out.2.1 2 _ rfl
      have BRf0 := BR.out.2.2 0 (by simp)
      have BRf1 := BR.out.2.2 1 (by simp)
      have BRf2 := BR.out.2.2 2 (by simp)
      have BXz := BX.out.1
      have BXc0 := BX.out.2.1 0 _ rfl
      have BXc1 := BX.out.2.1 1 _ rfl
      have BXc2 := BX.out.2.1 2 _ rfl
      have BXf0 := BX.out.2.2 0 (by simp)
      have BXf1 := BX.out.2.2 1 (by simp)
      have BXf2 := BX.out.2.2 2 (by simp)
      clear HG
      go_wp2
      (try simp only [Exit.inBlock, Exit.then])
      refine bodyPost_ret (by simp [*, results, Try.results56, go_sem]; try rfl) rfl ?_
      exact ⟨.inr ⟨HNO.out, rfl⟩, ((HK.out.setCell (p := ⟨w.heap.size, 0, none⟩) (Nat.le_refl _) _).setCell (p := ⟨w.heap.size, 1, none⟩) (Nat.le_refl _) _).setCell (p := ⟨w.heap.size, 2, none⟩) (Nat.le_refl _) _⟩
end Go.Proofs.Ytolkiofdbdjfkaa
