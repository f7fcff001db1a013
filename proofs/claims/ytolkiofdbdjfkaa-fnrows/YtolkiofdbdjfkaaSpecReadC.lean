/- Contracts of the model's reading of a value. Condition: at most six hundred bytes, and a place within them. -/
import Derived.Test.YtolkiofdbdjfkaaRead
import Derived.Test.YtolkiofdbdjfkaaBoxes2
import Derived.Test.YtolkiofdbdjfkaaImplB
namespace Go.Proofs.Ytolkiofdbdjfkaa
open Go.ChangeShapes Go.WideShapes Go.ChangeAt Go.RowKit Go.Deep
set_option linter.unusedVariables false
attribute [local go_sem ↓] Go.wp_at_zero Go.wp_at_succ

set_option maxHeartbeats 12800000 in
set_option maxRecDepth 100000 in
theorem specReadC (s : ByteArray) (a : Nat) (w : World) (hs : s.size ≤ 600) (ha : a < s.size) (hk : s[a].toNat = 4) :
    Calls Try.prog 56 #[.string s, .int .i64 a] w fun e w' => Told s a e ∧ Below w.heap.size w w' := by
  obtain ⟨i0, hi, hzz⟩ := Option.map_eq_some_iff.1 info8
  simp only [Prod.mk.injEq] at hzz
  obtain ⟨hz0, hz1, hz2⟩ := hzz
  have hai : (a : Int) < (s.size : Int) := by omega
  have ha0 : (0 : Int) ≤ (a : Int) := by omega
  have hki : wrap64 (s[a].toNat : Int) = 4 := by rw [wrapB, hk]; rfl
  have hTz : (s.extract (a + 1) s.size).size = s.size - (a + 1) := by simp
  obtain ⟨T, hT⟩ : ∃ T, s.extract (a + 1) s.size = T := ⟨_, rfl⟩
  have hz : T.size = s.size - (a + 1) := by rw [← hT]; exact hTz
  have hTl : T.data.toList.length = T.size := by simp
  have HDr : Hid (s.data.toList.drop a = 4 :: T.data.toList) := by
    show _ = _
    rw [drop_cons s a ha, show s[a] = 4 from UInt8.toNat_inj.1 hk, ← hT, extract_list, List.take_of_length_le (by simp)]
  have HTl := hid hTl
  have HT := hid hT
  have hz6 : T.size ≤ 600 := by omega
  clear hTz hT hTl hk
  obtain ⟨W0, hW0⟩ : ∃ W0, (w.alloc (.cells #[.int .i64 0, .int .i64 0, .string ⟨#[]⟩] 24)).alloc (.cells #[.int .i64 4, .int .i64 0, .string ⟨#[]⟩] 24) = W0 := ⟨_, rfl⟩
  have hbb := boxOf2 (w' := W0) (X := w) (a := #[.int .i64 0, .int .i64 0, .string ⟨#[]⟩]) (b := #[.int .i64 4, .int .i64 0, .string ⟨#[]⟩]) (A := 24) (B := 24) (by rw [← hW0]; exact Below.refl _ _)
  have kb0 : Below w.heap.size w W0 := by rw [← hW0]; exact ((Below.refl _ w).alloc (Nat.le_refl _) _).alloc (by simp) _
  have kz0 : W0.heap.size = w.heap.size + 2 := by rw [← hW0]; simp
  have BR0 : Hid (BoxAt W0 w.heap.size [.int .i64 0, .int .i64 0, .string ⟨#[]⟩]) := hbb.1
  have BX0 : Hid (BoxAt W0 (w.heap.size + 1) [.int .i64 4, .int .i64 0, .string ⟨#[]⟩]) := hbb.2
  have HW0 := hid hW0
  have KZ0 := hid kz0
  clear hbb hW0 kz0
  go_enter Try.func56, Try.ntmps56
  go_upto_region 3 with fail
  rw [HT.out, HW0.out]
  have BRz := BR0.out.1
  have BXz := BX0.out.1
  have BXc0 := BX0.out.2.1 0 _ rfl
  have BXc1 := BX0.out.2.1 1 _ rfl
  have BXc2 := BX0.out.2.1 2 _ rfl
  have BXf0 := BX0.out.2.2 0 (by simp)
  have BXf1 := BX0.out.2.2 1 (by simp)
  have BXf2 := BX0.out.2.2 2 (by simp)
  (try rw [hki])
  clear hki
  have HO0 := hid (OwnB.nil W0 W0.heap.size)
  go_upto_region 10 with fail
  go_loopw [8, 9] (fun x i wr => ∃ (b : List UInt8) (k : Nat), k ≤ T.size ∧ i = .int .i64 k ∧ b.length ≤ k ∧ Gone T.data.toList b k ∧ OwnB wr W0.heap.size x b ∧ Below W0.heap.size W0 wr) (fun _ i _ => T.size - (intOf i).toNat)
  case atStart => exact ⟨[], 0, Nat.zero_le _, rfl, Nat.le_refl _, gone_0 _, HO0.out, Below.refl _ _⟩
  case round =>
    obtain ⟨b, k, hk, rfl, hbl, hgone, hown, kb⟩ := hrel
    have HGo := hid hgone
    have kl := kb.size
    have BRr := hid (BR0.out.below kb)
    have BXr := hid (BX0.out.below kb)
    have kbw : Below w.heap.size w wr := kb0.trans (kb.mono kb0.size)
    clear hgone
    by_cases hlt : k + 1 < T.size
    · have hd : T.data.toList.drop k = T[k] :: T[k + 1] :: T.data.toList.drop (k + 1 + 1) := by rw [drop_cons T k (by omega), drop_cons T (k + 1) hlt]
      have HD := hid hd
      clear hd
      have hki1 : (k : Int) + 1 < (T.size : Int) := by omega
      have hki : (k : Int) < (T.size : Int) := by omega
      have hk0 : (0 : Int) ≤ (k : Int) := by omega
      have hk1 : (0 : Int) ≤ (k : Int) + 1 := by omega
      obtain ⟨c, hc⟩ : ∃ c : UInt8, T[k] = c := ⟨_, rfl⟩
      obtain ⟨d, hdd⟩ : ∃ d : UInt8, T[k + 1] = d := ⟨_, rfl⟩
      rw [hc, hdd] at HD
      by_cases hend : c = 0 ∧ d = 0
      · obtain ⟨rfl, rfl⟩ := hend
        have hc0 : (T[k].toNat : Int) = 0 := by rw [hc]; rfl
        have hd0 : (T[k + 1].toNat : Int) = 0 := by rw [hdd]; rfl
        have HCd : Hid (Cand (s.data.toList.drop a) ⟨4, 0, ⟨b.toArray⟩⟩) := by
          show Cand _ _
          rw [HDr.out]
          exact cand_4 HGo.out (.inr ⟨_, HD.out⟩)
        have hbm : (⟨b.toArray⟩ : ByteArray).size ≤ maxLen := by show b.length ≤ maxLen; unfold maxLen; omega
        have hcv := conv_own wr W0.heap.size _ b hown
        have BXrc := BXr.out.2.1 2 _ rfl
        have BXrf := BXr.out.2.2 2 (by simp)
        have BXrz := BXr.out.1
        clear hc hdd HD hown HGo
        obtain ⟨W1, hW1⟩ : ∃ W1, wr.setCell ⟨w.heap.size + 1, 2, none⟩ (.string ⟨b.toArray⟩) = W1 := ⟨_, rfl⟩
        have BR1 : Hid (BoxAt W1 w.heap.size [.int .i64 0, .int .i64 0, .string ⟨#[]⟩]) := by rw [← hW1]; exact BRr.out.other (by omega) _
        have BX1 : Hid (BoxAt W1 (w.heap.size + 1) [.int .i64 4, .int .i64 0, .string ⟨b.toArray⟩]) := by rw [← hW1]; exact BXr.out.set (by simp) _
        have kb1 : Below w.heap.size w W1 := by rw [← hW1]; exact kbw.setCell (p := ⟨w.heap.size + 1, 2, none⟩) (by show w.heap.size ≤ w.heap.size + 1; omega) _
        have HW1 := hid hW1
        have kl1 := kb1.size
        have BXc0 := BX1.out.2.1 0 _ rfl
        have BXc1 := BX1.out.2.1 1 _ rfl
        have BXc2 := BX1.out.2.1 2 _ rfl
        clear hW1
        go_upto_region 16 with fail
        rw [HW1.out]
        clear hcv BXrc BXrf BXrz
        by_cases hg : GoodV (⟨4, 0, (⟨b.toArray⟩ : ByteArray)⟩ : VV)
        · have HG := fun W => specGoodYes (⟨4, 0, (⟨b.toArray⟩ : ByteArray)⟩ : VV) W hg
          have HBy := fun W => specBytes (⟨4, 0, (⟨b.toArray⟩ : ByteArray)⟩ : VV) W hg
          have hXl := bytesL_len hg
          rw [← bytesV_size] at hXl
          have HNOs : Hid ((¬ ∃ r, s.data.toList.drop a = bytesL (⟨4, 0, (⟨b.toArray⟩ : ByteArray)⟩ : VV) ++ r) → ∀ v, ¬ Stands (s.data.toList.drop a) v) := fun hn v hv => hn (by rw [HCd.out v hv]; exact hv.2)
          have HEX : Hid (∀ r, s.data.toList.drop a = bytesL (⟨4, 0, (⟨b.toArray⟩ : ByteArray)⟩ : VV) ++ r → a + (bytesV (⟨4, 0, (⟨b.toArray⟩ : ByteArray)⟩ : VV)).size ≤ s.size ∧ s.extract a (a + (bytesV (⟨4, 0, (⟨b.toArray⟩ : ByteArray)⟩ : VV)).size) = bytesV (⟨4, 0, (⟨b.toArray⟩ : ByteArray)⟩ : VV)) := fun r hr => stand_extract ha hr
          have HNE : Hid ((¬ ∃ r, s.data.toList.drop a = bytesL (⟨4, 0, (⟨b.toArray⟩ : ByteArray)⟩ : VV) ++ r) → a + (bytesV (⟨4, 0, (⟨b.toArray⟩ : ByteArray)⟩ : VV)).size ≤ s.size → ((s.extract a (a + (bytesV (⟨4, 0, (⟨b.toArray⟩ : ByteArray)⟩ : VV)).size)).toList == (bytesV (⟨4, 0, (⟨b.toArray⟩ : ByteArray)⟩ : VV)).toList) = false) := fun h1 h2 => no_stand h1 h2
          have HYES : Hid (∀ r, s.data.toList.drop a = bytesL (⟨4, 0, (⟨b.toArray⟩ : ByteArray)⟩ : VV) ++ r → Told s a (.returned (.tuple #[encV (⟨4, 0, (⟨b.toArray⟩ : ByteArray)⟩ : VV), .int .i64 ((a : Int) + ((bytesV (⟨4, 0, (⟨b.toArray⟩ : ByteArray)⟩ : VV)).size : Int))]))) := fun r hr => .inl ⟨_, ⟨hg, r, hr⟩, rfl⟩
          clear hg
          unfold encV at HG HBy HYES
          simp only [] at HG HBy HYES
          generalize bytesV (⟨4, 0, (⟨b.toArray⟩ : ByteArray)⟩ : VV) = X at *
          go_wp2_with fail
          refine (HG _).mono ?_
          rintro e w1 ⟨rfl, hb1⟩
          have BR := hid (BR1.out.below hb1)
          have BX := hid (BX1.out.below hb1)
          clear BXc0 BXc1 BXc2
          have HK := hid (kb1.trans (hb1.mono kl1))
          clear hb1
          have BRz := BR.out.1
          have BRc0 := BR.out.2.1 0 _ rfl
          have BRc1 := BR.out.2.1 1 _ rfl
          have BRc2 := BR.out.2.1 2 _ rfl
          have BRf0 := BR.out.2.2 0 (by simp)
          have BRf1 := BR.out.2.2 1 (by simp)
          have BRf2 := BR.out.2.2 2 (by simp)
          have BXz := BX.out.1
          have BXc0 := BX.out.2.1 0 _ rfl
          have BXc1 := BX.out.2.1 1 _ rfl
          have BXc2 := BX.out.2.1 2 _ rfl
          have BXf0 := BX.out.2.2 0 (by simp)
          have BXf1 := BX.out.2.2 1 (by simp)
          have BXf2 := BX.out.2.2 2 (by simp)
          clear HG
          go_wp2_with fail
          refine (HBy _).mono ?_
          rintro e w2 ⟨rfl, hb2⟩
          (try clear BRz BRc0 BRc1 BRc2 BRf0 BRf1 BRf2)
          (try clear BXz BXc0 BXc1 BXc2 BXf0 BXf1 BXf2)
          replace BR := hid (BR.out.below hb2)
          replace BX := hid (BX.out.below hb2)
          replace HK := hid (HK.out.trans (hb2.mono HK.out.size))
          clear hb2 HBy
          have BRz := BR.out.1
          have BRc0 := BR.out.2.1 0 _ rfl
          have BRc1 := BR.out.2.1 1 _ rfl
          have BRc2 := BR.out.2.1 2 _ rfl
          have BRf0 := BR.out.2.2 0 (by simp)
          have BRf1 := BR.out.2.2 1 (by simp)
          have BRf2 := BR.out.2.2 2 (by simp)
          have BXz := BX.out.1
          have BXc0 := BX.out.2.1 0 _ rfl
          have BXc1 := BX.out.2.1 1 _ rfl
          have BXc2 := BX.out.2.1 2 _ rfl
          have BXf0 := BX.out.2.2 0 (by simp)
          have BXf1 := BX.out.2.2 1 (by simp)
          have BXf2 := BX.out.2.2 2 (by simp)
          by_cases hst : ∃ r, s.data.toList.drop a = bytesL (⟨4, 0, (⟨b.toArray⟩ : ByteArray)⟩ : VV) ++ r
          · obtain ⟨r, hr⟩ := hst
            obtain ⟨hle, hex⟩ := HEX.out r hr
            have HT := hid (HYES.out r hr)
            have hnl : ¬ (s.size : Int) < (a : Int) + (X.size : Int) := by omega
            have hle2 : (a : Int) + (X.size : Int) ≤ (s.size : Int) := by omega
            have hla : (a : Int) ≤ (a : Int) + (X.size : Int) := by omega
            clear HEX HNE HNOs HYES hr hle
            go_wp2
            (try simp only [Exit.inBlock, Exit.then])
            refine bodyPost_ret (by simp [*, results, Try.results56, go_sem]; try rfl) rfl ?_
            exact ⟨HT.out, ((HK.out.setCell (p := ⟨w.heap.size, 0, none⟩) (Nat.le_refl _) _).setCell (p := ⟨w.heap.size, 1, none⟩) (Nat.le_refl _) _).setCell (p := ⟨w.heap.size, 2, none⟩) (Nat.le_refl _) _⟩
          · have HNO := hid (HNOs.out hst)
            by_cases hlt2 : s.size < a + X.size
            · have hnl : (s.size : Int) < (a : Int) + (X.size : Int) := by omega
              clear HEX HNE HNOs HYES hst
              go_wp2
              (try simp only [Exit.inBlock, Exit.then])
              refine bodyPost_ret (by simp [*, results, Try.results56, go_sem]; try rfl) rfl ?_
              exact ⟨.inr ⟨HNO.out, rfl⟩, ((HK.out.setCell (p := ⟨w.heap.size, 0, none⟩) (Nat.le_refl _) _).setCell (p := ⟨w.heap.size, 1, none⟩) (Nat.le_refl _) _).setCell (p := ⟨w.heap.size, 2, none⟩) (Nat.le_refl _) _⟩
            · have hne := HNE.out hst (by omega)
              have hnl : ¬ (s.size : Int) < (a : Int) + (X.size : Int) := by omega
              have hle2 : (a : Int) + (X.size : Int) ≤ (s.size : Int) := by omega
              have hla : (a : Int) ≤ (a : Int) + (X.size : Int) := by omega
              clear HEX HNE HNOs HYES hst
              go_wp2
              (try simp only [Exit.inBlock, Exit.then])
              refine bodyPost_ret (by simp [*, results, Try.results56, go_sem]; try rfl) rfl ?_
              exact ⟨.inr ⟨HNO.out, rfl⟩, ((HK.out.setCell (p := ⟨w.heap.size, 0, none⟩) (Nat.le_refl _) _).setCell (p := ⟨w.heap.size, 1, none⟩) (Nat.le_refl _) _).setCell (p := ⟨w.heap.size, 2, none⟩) (Nat.le_refl _) _⟩
        · have HG := fun W => specGoodNo (⟨4, 0, (⟨b.toArray⟩ : ByteArray)⟩ : VV) W (by exact hbm) hg
          have HNO : Hid (∀ v, ¬ Stands (s.data.toList.drop a) v) := fun v hv => hg (by rw [HCd.out v hv]; exact hv.1)
          clear hg
          unfold encV at HG
          simp only [] at HG
          go_wp2_with fail
          refine (HG _).mono ?_
          rintro e w1 ⟨rfl, hb1⟩
          have BR := hid (BR1.out.below hb1)
          have BX := hid (BX1.out.below hb1)
          clear BXc0 BXc1 BXc2
          have HK := hid (kb1.trans (hb1.mono kl1))
          clear hb1
          have BRz := BR.out.1
          have BRc0 := BR.out.2.1 0 _ rfl
          have BRc1 := BR.out.2.1 1 _ rfl
          have BRc2 := BR.out.2.1 2 _ rfl
          have BRf0 := BR.out.2.2 0 (by simp)
          have BRf1 := BR.out.2.2 1 (by simp)
          have BRf2 := BR.out.2.2 2 (by simp)
          have BXz := BX.out.1
          have BXc0 := BX.out.2.1 0 _ rfl
          have BXc1 := BX.out.2.1 1 _ rfl
          have BXc2 := BX.out.2.1 2 _ rfl
          have BXf0 := BX.out.2.2 0 (by simp)
          have BXf1 := BX.out.2.2 1 (by simp)
          have BXf2 := BX.out.2.2 2 (by simp)
          clear HG
          go_wp2
          (try simp only [Exit.inBlock, Exit.then])
          refine bodyPost_ret (by simp [*, results, Try.results56, go_sem]; try rfl) rfl ?_
          exact ⟨.inr ⟨HNO.out, rfl⟩, ((HK.out.setCell (p := ⟨w.heap.size, 0, none⟩) (Nat.le_refl _) _).setCell (p := ⟨w.heap.size, 1, none⟩) (Nat.le_refl _) _).setCell (p := ⟨w.heap.size, 2, none⟩) (Nat.le_refl _) _⟩
      · have HG2 := hid (gone_step HGo.out HD.out hend)
        have HE2 : Hid (u8s b ++ [Value.int .u8 (c.toNat : Int)] = u8s (b ++ [c])) := by show _ = _; rw [u8s_append]; rfl
        have HL2 : Hid (b.length + 1 = (b ++ [c]).length) := by show _ = _; simp
        have hown' : wr.ownsRow W0.heap.size 5 1 _ b.length (u8s b) := hown
        have hcn : (c.toNat : Int) = 0 ∨ ¬ (c.toNat : Int) = 0 := by omega
        have hcz : (c.toNat : Int) = 0 ↔ c = 0 := ⟨fun e => UInt8.toNat_inj.1 (by show c.toNat = 0; omega), fun e => by rw [e]; rfl⟩
        have hdz : (d.toNat : Int) = 0 ↔ d = 0 := ⟨fun e => UInt8.toNat_inj.1 (by show d.toNat = 0; omega), fun e => by rw [e]; rfl⟩
        have hct : (T[k].toNat : Int) = (c.toNat : Int) := by rw [hc]
        have hdt : (T[k + 1].toNat : Int) = (d.toNat : Int) := by rw [hdd]
        have HB8 := hid (byteLt c)
        clear hown HGo HD hc hdd
        by_cases hz : c = 0
        · have hc0 : (T[k].toNat : Int) = 0 := by rw [hct]; exact hcz.2 hz
          have hd0 : ¬ (T[k + 1].toNat : Int) = 0 := by rw [hdt]; exact fun e => hend ⟨hz, hdz.1 e⟩
          have hd0b : ((T[k + 1].toNat : Int) == 0) = false := beq_false_of_ne hd0
          have HCC : Hid (c.toNat = 0) := by show _ = _; rw [hz]; rfl
          rw [if_pos hz] at HG2
          clear hct hdt hcn hcz hdz hend
          go_wp2_with (first | (at_builtin; refine wpList_append_own _ rfl _ _ 22 rfl W0.heap.size 5 i0 (.int .u8 0) 1 1 Try.underlying22 hi hz0 hz1 hz2 rfl (by decide) _ _ _ rfl (hown'.alloc _) ⟨wr.heap.size, 0, none⟩ 1 1 [.int .u8 0] rfl rfl ?c1 ?c2 ?c3 ?c4 ?c5 ?_) | fail)
          case c1 => exact newsAt _ #[.int .u8 0] _ _ rfl
          case c2 => intro u hu; simp at hu; subst hu; rfl
          case c3 => unfold maxLen; omega
          case c4 => omega
          case c5 => simp; omega
          intro v1 w1 hown1 hg1 _
          have kb1 : Below W0.heap.size W0 w1 := (kb.alloc (by omega) _).grown hg1 (by simp; omega) (fun r hr => (hown'.lt r hr).1)
          have hO1 : OwnB w1 W0.heap.size v1 (b ++ [c]) := by
            have h := HE2.out
            rw [HCC.out] at h
            unfold OwnB
            rw [← HL2.out, ← h]
            exact hown1
          have HO1 := hid hO1
          have hbl2 : (b ++ [c]).length ≤ k + 2 := by simp; omega
          clear hown1 hg1 hown' hO1
          go_wp2
          refine ⟨?_, by simp [intOf]; omega⟩
          first | exact ⟨b ++ [c], k + 2, by omega, by go_num, hbl2, HG2.out, HO1.out, kb1⟩ | ((repeat apply Exists.intro); refine ⟨⟨b ++ [c], k + 2, by omega, ?_, hbl2, HG2.out, HO1.out, kb1⟩, rfl⟩; (congr 1; omega))
        · have hc0 : ¬ (T[k].toNat : Int) = 0 := by rw [hct]; exact fun e => hz (hcz.1 e)
          rw [if_neg hz] at HG2
          clear hdt hcn hcz hdz hend
          go_wp2_with (first | (at_builtin; refine wpList_append_own _ rfl _ _ 22 rfl W0.heap.size 5 i0 (.int .u8 0) 1 1 Try.underlying22 hi hz0 hz1 hz2 rfl (by decide) _ _ _ rfl (hown'.alloc _) ⟨wr.heap.size, 0, none⟩ 1 1 [.int .u8 (c.toNat : Int)] rfl rfl ?c1 ?c2 ?c3 ?c4 ?c5 ?_) | fail)
          case c1 => exact newsAt _ #[.int .u8 (c.toNat : Int)] _ _ rfl
          case c2 => intro u hu; simp at hu; subst hu; rfl
          case c3 => unfold maxLen; omega
          case c4 => omega
          case c5 => simp; omega
          intro v1 w1 hown1 hg1 _
          have kb1 : Below W0.heap.size W0 w1 := (kb.alloc (by omega) _).grown hg1 (by simp; omega) (fun r hr => (hown'.lt r hr).1)
          rw [HE2.out, HL2.out] at hown1
          have HO1 : Hid (OwnB w1 W0.heap.size v1 (b ++ [c])) := hown1
          have hbl2 : (b ++ [c]).length ≤ k + 1 := by simp; omega
          clear hown1 hg1 hown'
          go_wp2
          refine ⟨?_, by simp [intOf]; omega⟩
          first | exact ⟨b ++ [c], k + 1, by omega, by go_num, hbl2, HG2.out, HO1.out, kb1⟩ | ((repeat apply Exists.intro); refine ⟨⟨b ++ [c], k + 1, by omega, ?_, hbl2, HG2.out, HO1.out, kb1⟩, rfl⟩; (congr 1; omega))
    · have hki1 : ¬ (k : Int) + 1 < (T.size : Int) := by omega
      have HCd : Hid (Cand (s.data.toList.drop a) ⟨4, 0, ⟨b.toArray⟩⟩) := by
        show Cand _ _
        rw [HDr.out]
        exact cand_4 HGo.out (.inl (by have := HTl.out; omega))
      have hbm : (⟨b.toArray⟩ : ByteArray).size ≤ maxLen := by show b.length ≤ maxLen; unfold maxLen; omega
      have hcv := conv_own wr W0.heap.size _ b hown
      have BXrc := BXr.out.2.1 2 _ rfl
      have BXrf := BXr.out.2.2 2 (by simp)
      have BXrz := BXr.out.1
      clear hown HGo
      obtain ⟨W1, hW1⟩ : ∃ W1, wr.setCell ⟨w.heap.size + 1, 2, none⟩ (.string ⟨b.toArray⟩) = W1 := ⟨_, rfl⟩
      have BR1 : Hid (BoxAt W1 w.heap.size [.int .i64 0, .int .i64 0, .string ⟨#[]⟩]) := by rw [← hW1]; exact BRr.out.other (by omega) _
      have BX1 : Hid (BoxAt W1 (w.heap.size + 1) [.int .i64 4, .int .i64 0, .string ⟨b.toArray⟩]) := by rw [← hW1]; exact BXr.out.set (by simp) _
      have kb1 : Below w.heap.size w W1 := by rw [← hW1]; exact kbw.setCell (p := ⟨w.heap.size + 1, 2, none⟩) (by show w.heap.size ≤ w.heap.size + 1; omega) _
      have HW1 := hid hW1
      have kl1 := kb1.size
      have BXc0 := BX1.out.2.1 0 _ rfl
      have BXc1 := BX1.out.2.1 1 _ rfl
      have BXc2 := BX1.out.2.1 2 _ rfl
      clear hW1
      go_upto_region 16 with fail
      rw [HW1.out]
      clear hcv BXrc BXrf BXrz
      by_cases hg : GoodV (⟨4, 0, (⟨b.toArray⟩ : ByteArray)⟩ : VV)
      · have HG := fun W => specGoodYes (⟨4, 0, (⟨b.toArray⟩ : ByteArray)⟩ : VV) W hg
        have HBy := fun W => specBytes (⟨4, 0, (⟨b.toArray⟩ : ByteArray)⟩ : VV) W hg
        have hXl := bytesL_len hg
        rw [← bytesV_size] at hXl
        have HNOs : Hid ((¬ ∃ r, s.data.toList.drop a = bytesL (⟨4, 0, (⟨b.toArray⟩ : ByteArray)⟩ : VV) ++ r) → ∀ v, ¬ Stands (s.data.toList.drop a) v) := fun hn v hv => hn (by rw [HCd.out v hv]; exact hv.2)
        have HEX : Hid (∀ r, s.data.toList.drop a = bytesL (⟨4, 0, (⟨b.toArray⟩ : ByteArray)⟩ : VV) ++ r → a + (bytesV (⟨4, 0, (⟨b.toArray⟩ : ByteArray)⟩ : VV)).size ≤ s.size ∧ s.extract a (a + (bytesV (⟨4, 0, (⟨b.toArray⟩ : ByteArray)⟩ : VV)).size) = bytesV (⟨4, 0, (⟨b.toArray⟩ : ByteArray)⟩ : VV)) := fun r hr => stand_extract ha hr
        have HNE : Hid ((¬ ∃ r, s.data.toList.drop a = bytesL (⟨4, 0, (⟨b.toArray⟩ : ByteArray)⟩ : VV) ++ r) → a + (bytesV (⟨4, 0, (⟨b.toArray⟩ : ByteArray)⟩ : VV)).size ≤ s.size → ((s.extract a (a + (bytesV (⟨4, 0, (⟨b.toArray⟩ : ByteArray)⟩ : VV)).size)).toList == (bytesV (⟨4, 0, (⟨b.toArray⟩ : ByteArray)⟩ : VV)).toList) = false) := fun h1 h2 => no_stand h1 h2
        have HYES : Hid (∀ r, s.data.toList.drop a = bytesL (⟨4, 0, (⟨b.toArray⟩ : ByteArray)⟩ : VV) ++ r → Told s a (.returned (.tuple #[encV (⟨4, 0, (⟨b.toArray⟩ : ByteArray)⟩ : VV), .int .i64 ((a : Int) + ((bytesV (⟨4, 0, (⟨b.toArray⟩ : ByteArray)⟩ : VV)).size : Int))]))) := fun r hr => .inl ⟨_, ⟨hg, r, hr⟩, rfl⟩
        clear hg
        unfold encV at HG HBy HYES
        simp only [] at HG HBy HYES
        generalize bytesV (⟨4, 0, (⟨b.toArray⟩ : ByteArray)⟩ : VV) = X at *
        go_wp2_with fail
        refine (HG _).mono ?_
        rintro e w1 ⟨rfl, hb1⟩
        have BR := hid (BR1.out.below hb1)
        have BX := hid (BX1.out.below hb1)
        clear BXc0 BXc1 BXc2
        have HK := hid (kb1.trans (hb1.mono kl1))
        clear hb1
        have BRz := BR.out.1
        have BRc0 := BR.out.2.1 0 _ rfl
        have BRc1 := BR.out.2.1 1 _ rfl
        have BRc2 := BR.out.2.1 2 _ rfl
        have BRf0 := BR.out.2.2 0 (by simp)
        have BRf1 := BR.out.2.2 1 (by simp)
        have BRf2 := BR.out.2.2 2 (by simp)
        have BXz := BX.out.1
        have BXc0 := BX.out.2.1 0 _ rfl
        have BXc1 := BX.out.2.1 1 _ rfl
        have BXc2 := BX.out.2.1 2 _ rfl
        have BXf0 := BX.out.2.2 0 (by simp)
        have BXf1 := BX.out.2.2 1 (by simp)
        have BXf2 := BX.out.2.2 2 (by simp)
        clear HG
        go_wp2_with fail
        refine (HBy _).mono ?_
        rintro e w2 ⟨rfl, hb2⟩
        (try clear BRz BRc0 BRc1 BRc2 BRf0 BRf1 BRf2)
        (try clear BXz BXc0 BXc1 BXc2 BXf0 BXf1 BXf2)
        replace BR := hid (BR.out.below hb2)
        replace BX := hid (BX.out.below hb2)
        replace HK := hid (HK.out.trans (hb2.mono HK.out.size))
        clear hb2 HBy
        have BRz := BR.out.1
        have BRc0 := BR.out.2.1 0 _ rfl
        have BRc1 := BR.out.2.1 1 _ rfl
        have BRc2 := BR.out.2.1 2 _ rfl
        have BRf0 := BR.out.2.2 0 (by simp)
        have BRf1 := BR.out.2.2 1 (by simp)
        have BRf2 := BR.out.2.2 2 (by simp)
        have BXz := BX.out.1
        have BXc0 := BX.out.2.1 0 _ rfl
        have BXc1 := BX.out.2.1 1 _ rfl
        have BXc2 := BX.out.2.1 2 _ rfl
        have BXf0 := BX.out.2.2 0 (by simp)
        have BXf1 := BX.out.2.2 1 (by simp)
        have BXf2 := BX.out.2.2 2 (by simp)
        by_cases hst : ∃ r, s.data.toList.drop a = bytesL (⟨4, 0, (⟨b.toArray⟩ : ByteArray)⟩ : VV) ++ r
        · obtain ⟨r, hr⟩ := hst
          obtain ⟨hle, hex⟩ := HEX.out r hr
          have HT := hid (HYES.out r hr)
          have hnl : ¬ (s.size : Int) < (a : Int) + (X.size : Int) := by omega
          have hle2 : (a : Int) + (X.size : Int) ≤ (s.size : Int) := by omega
          have hla : (a : Int) ≤ (a : Int) + (X.size : Int) := by omega
          clear HEX HNE HNOs HYES hr hle
          go_wp2
          (try simp only [Exit.inBlock, Exit.then])
          refine bodyPost_ret (by simp [*, results, Try.results56, go_sem]; try rfl) rfl ?_
          exact ⟨HT.out, ((HK.out.setCell (p := ⟨w.heap.size, 0, none⟩) (Nat.le_refl _) _).setCell (p := ⟨w.heap.size, 1, none⟩) (Nat.le_refl _) _).setCell (p := ⟨w.heap.size, 2, none⟩) (Nat.le_refl _) _⟩
        · have HNO := hid (HNOs.out hst)
          by_cases hlt2 : s.size < a + X.size
          · have hnl : (s.size : Int) < (a : Int) + (X.size : Int) := by omega
            clear HEX HNE HNOs HYES hst
            go_wp2
            (try simp only [Exit.inBlock, Exit.then])
            refine bodyPost_ret (by simp [*, results, Try.results56, go_sem]; try rfl) rfl ?_
            exact ⟨.inr ⟨HNO.out, rfl⟩, ((HK.out.setCell (p := ⟨w.heap.size, 0, none⟩) (Nat.le_refl _) _).setCell (p := ⟨w.heap.size, 1, none⟩) (Nat.le_refl _) _).setCell (p := ⟨w.heap.size, 2, none⟩) (Nat.le_refl _) _⟩
          · have hne := HNE.out hst (by omega)
            have hnl : ¬ (s.size : Int) < (a : Int) + (X.size : Int) := by omega
            have hle2 : (a : Int) + (X.size : Int) ≤ (s.size : Int) := by omega
            have hla : (a : Int) ≤ (a : Int) + (X.size : Int) := by omega
            clear HEX HNE HNOs HYES hst
            go_wp2
            (try simp only [Exit.inBlock, Exit.then])
            refine bodyPost_ret (by simp [*, results, Try.results56, go_sem]; try rfl) rfl ?_
            exact ⟨.inr ⟨HNO.out, rfl⟩, ((HK.out.setCell (p := ⟨w.heap.size, 0, none⟩) (Nat.le_refl _) _).setCell (p := ⟨w.heap.size, 1, none⟩) (Nat.le_refl _) _).setCell (p := ⟨w.heap.size, 2, none⟩) (Nat.le_refl _) _⟩
      · have HG := fun W => specGoodNo (⟨4, 0, (⟨b.toArray⟩ : ByteArray)⟩ : VV) W (by exact hbm) hg
        have HNO : Hid (∀ v, ¬ Stands (s.data.toList.drop a) v) := fun v hv => hg (by rw [HCd.out v hv]; exact hv.1)
        clear hg
        unfold encV at HG
        simp only [] at HG
        go_wp2_with fail
        refine (HG _).mono ?_
        rintro e w1 ⟨rfl, hb1⟩
        have BR := hid (BR1.out.below hb1)
        have BX := hid (BX1.out.below hb1)
        clear BXc0 BXc1 BXc2
        have HK := hid (kb1.trans (hb1.mono kl1))
        clear hb1
        have BRz := BR.out.1
        have BRc0 := BR.out.2.1 0 _ rfl
        have BRc1 := BR.out.2.1 1 _ rfl
        have BRc2 := BR.out.2.1 2 _ rfl
        have BRf0 := BR.out.2.2 0 (by simp)
        have BRf1 := BR.out.2.2 1 (by simp)
        have BRf2 := BR.out.2.2 2 (by simp)
        have BXz := BX.out.1
        have BXc0 := BX.out.2.1 0 _ rfl
        have BXc1 := BX.out.2.1 1 _ rfl
        have BXc2 := BX.out.2.1 2 _ rfl
        have BXf0 := BX.out.2.2 0 (by simp)
        have BXf1 := BX.out.2.2 1 (by simp)
        have BXf2 := BX.out.2.2 2 (by simp)
        clear HG
        go_wp2
        (try simp only [Exit.inBlock, Exit.then])
        refine bodyPost_ret (by simp [*, results, Try.results56, go_sem]; try rfl) rfl ?_
        exact ⟨.inr ⟨HNO.out, rfl⟩, ((HK.out.setCell (p := ⟨w.heap.size, 0, none⟩) (Nat.le_refl _) _).setCell (p := ⟨w.heap.size, 1, none⟩) (Nat.le_refl _) _).setCell (p := ⟨w.heap.size, 2, none⟩) (Nat.le_refl _) _⟩
end Go.Proofs.Ytolkiofdbdjfkaa
