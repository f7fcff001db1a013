/- At every two lists of bytes the function FnMixes returns true and leaves its arguments as they were. The table of weights lies as the program's text lays it (the card ties that). No other condition. -/
import Derived.Test.YtmnebdgoombfoaaDoorBoth
import Derived.Deep.RegionHeld3
import Derived.Deep.DeepCutAuto
import Derived.Deep.DrawnRows
namespace Go.Proofs.YtmnebdgoombfoaaDoor.fnMixes
open Go.ChangeShapes Go.WideShapes Go.ChangeAt Go.RowKit Go.Joins
open Go.ChangeMaps (open_string shut_string)
set_option linter.unusedVariables false
attribute [local go_sem ↓] Go.wp_at_zero Go.wp_at_succ

set_option maxRecDepth 100000 in
set_option maxHeartbeats 6400000 in
theorem walk0 (v0 : Value) (n0 : Nat) (v1 : Value) (n1 : Nat) (w : World) (ht : Table w) (hc0 : CodeAt w v0 n0) (hc1 : CodeAt w v1 n1) (hn : n0 + n1 ≤ 1048576) :
    Calls Tryd.prog 3 #[v0, v1] w fun e w' => e = .returned (.bool true) ∧ Below w.heap.size w w' := by
  obtain ⟨ad0, c0, rfl⟩ : ∃ ad c, v0 = .slice ad n0 c := by
    obtain ⟨ad, c, e, _⟩ := hc0
    exact ⟨ad, c, e⟩
  obtain ⟨ad1, c1, rfl⟩ : ∃ ad c, v1 = .slice ad n1 c := by
    obtain ⟨ad, c, e, _⟩ := hc1
    exact ⟨ad, c, e⟩
  have HT := hide ht
  have HC0 := hide hc0
  have HC1 := hide hc1
  clear ht hc0 hc1
  have hbig : ¬ (1048576 : Int) < (n0 : Int) + (n1 : Int) := by omega
  have HK0 : Hid (Below w.heap.size w w) := Below.refl _ _
  have HF := drawFeed _ n0 w HC0.out
  go_enter Tryd.func3, Tryd.ntmps3
  go_wp2_with fail
  refine HF.mono ?_
  rintro e w1 ⟨a, b, l, s, rfl, hs, hb1⟩
  clear HF
  have hk := HK0.out.trans (hb1.mono HK0.out.size)
  have hz1 := hb1.size
  try simp only [World.size_drew] at hz1
  try simp only [World.size_alloc] at hz1
  have HK1 : Hid (Below w.heap.size w ((w1).alloc (.cells #[.int .i64 a, .int .i64 b, .int .i64 l] 24))) := (hk).alloc (hk).size _
  have HB1_5 : Hid (Three ((w1).alloc (.cells #[.int .i64 a, .int .i64 b, .int .i64 l] 24)) (w1.heap.size) a b l) := by
    have h := (three_new (w1) a b l 24)
    try simp only [World.size_alloc] at h
    exact h
  clear hk hb1 HK0 
  have hsm : s.size ≤ maxLen := by unfold maxLen; omega
  obtain ⟨X, Y, Z, O, HFI, HFS, HFY⟩ := feedBoth a b l s hsm
  obtain ⟨q5_0, q5_1, q5_2, qf5_0, qf5_1, qf5_2⟩ := HB1_5.out
  go_wp2_with fail
  clear q5_0 qf5_0 q5_1 qf5_1 q5_2 qf5_2
  refine (HFI _ (HT.out.below HK1.out)).mono ?_
  rintro e w2 ⟨rfl, hb2⟩
  have hk := HK1.out.trans (hb2.mono HK1.out.size)
  have hz2 := hb2.size
  try simp only [World.size_drew] at hz2
  try simp only [World.size_alloc] at hz2
  have HK2 : Hid (Below w.heap.size w ((w2).alloc (.cells #[.int .i64 X, .int .i64 Y, .int .i64 Z] 24))) := (hk).alloc (hk).size _
  have HB2_5 : Hid (Three ((w2).alloc (.cells #[.int .i64 X, .int .i64 Y, .int .i64 Z] 24)) (w1.heap.size) a b l) := (HB1_5.out.below hb2).below ((Below.refl _ _).alloc (by first | exact Nat.le_refl _ | (simp; done) | (simp; omega)) _)
  have HB2_7 : Hid (Three ((w2).alloc (.cells #[.int .i64 X, .int .i64 Y, .int .i64 Z] 24)) (w2.heap.size) X Y Z) := by
    have h := (three_new (w2) X Y Z 24)
    try simp only [World.size_alloc] at h
    exact h
  clear hk hb2 HK1 HB1_5
  obtain ⟨q5_0, q5_1, q5_2, qf5_0, qf5_1, qf5_2⟩ := HB2_5.out
  go_wp2_with fail
  clear q5_0 qf5_0 q5_1 qf5_1 q5_2 qf5_2
  refine (HFS _).mono ?_
  rintro e w3 ⟨rfl, hb3⟩
  have hk := HK2.out.trans (hb3.mono HK2.out.size)
  have hz3 := hb3.size
  try simp only [World.size_drew] at hz3
  try simp only [World.size_alloc] at hz3
  have HK3 : Hid (Below w.heap.size w ((w3).alloc (.cells #[.int .i64 X, .int .i64 Y, .int .i64 Z] 24))) := (hk).alloc (hk).size _
  have HB3_5 : Hid (Three ((w3).alloc (.cells #[.int .i64 X, .int .i64 Y, .int .i64 Z] 24)) (w1.heap.size) a b l) := (HB2_5.out.below hb3).below ((Below.refl _ _).alloc (by first | exact Nat.le_refl _ | (simp; done) | (simp; omega)) _)
  have HB3_7 : Hid (Three ((w3).alloc (.cells #[.int .i64 X, .int .i64 Y, .int .i64 Z] 24)) (w2.heap.size) X Y Z) := (HB2_7.out.below hb3).below ((Below.refl _ _).alloc (by first | exact Nat.le_refl _ | (simp; done) | (simp; omega)) _)
  have HB3_9 : Hid (Three ((w3).alloc (.cells #[.int .i64 X, .int .i64 Y, .int .i64 Z] 24)) (w3.heap.size) X Y Z) := by
    have h := (three_new (w3) X Y Z 24)
    try simp only [World.size_alloc] at h
    exact h
  clear hk hb3 HK2 HB2_5 HB2_7
  have HFYh := hide HFY
  clear HFI HFS HFY
  obtain ⟨q5_0, q5_1, q5_2, qf5_0, qf5_1, qf5_2⟩ := HB3_5.out
  obtain ⟨q7_0, q7_1, q7_2, qf7_0, qf7_1, qf7_2⟩ := HB3_7.out
  obtain ⟨q9_0, q9_1, q9_2, qf9_0, qf9_1, qf9_2⟩ := HB3_9.out
  go_wp2_with fail
  go_region_held3 (fun w' => w'.cell? ⟨w1.heap.size, 0, none⟩ = some (.int .i64 a) ∧ w'.cell? ⟨w1.heap.size, 1, none⟩ = some (.int .i64 b) ∧ w'.cell? ⟨w1.heap.size, 2, none⟩ = some (.int .i64 l) ∧ w'.cell? ⟨w2.heap.size, 0, none⟩ = some (.int .i64 X) ∧ w'.cell? ⟨w2.heap.size, 1, none⟩ = some (.int .i64 Y) ∧ w'.cell? ⟨w2.heap.size, 2, none⟩ = some (.int .i64 Z) ∧ w'.cell? ⟨w3.heap.size, 0, none⟩ = some (.int .i64 X) ∧ w'.cell? ⟨w3.heap.size, 1, none⟩ = some (.int .i64 Y) ∧ w'.cell? ⟨w3.heap.size, 2, none⟩ = some (.int .i64 Z)) (go_keep)
    (first
      | (go_at_call 12; refine (implGood a b l _).mono ?_; rintro e w4 ⟨rfl, hb4⟩; have hp4_5 := kept hb4 (w1.heap.size) (by go_size); have hp4_7 := kept hb4 (w2.heap.size) (by go_size); have hp4_9 := kept hb4 (w3.heap.size) (by go_size); have hz4 := hb4.size; (try simp only [World.size_drew] at hz4); (try simp only [World.size_alloc] at hz4); have HK4 : Hid (Below w.heap.size w w4) := (HK3.out.drew.trans (hb4.mono (show w.heap.size ≤ _ from HK3.out.size))))
      | (go_at_call 13; refine (specGood a b l _).mono ?_; rintro e w5 ⟨rfl, hb5⟩; have hp5_5 := kept hb5 (w1.heap.size) (by go_size); have hp5_7 := kept hb5 (w2.heap.size) (by go_size); have hp5_9 := kept hb5 (w3.heap.size) (by go_size); have HK5 : Hid (Below w.heap.size w w5) := (HK4.out.trans (hb5.mono HK4.out.size))))
  clear q5_0 qf5_0 q5_1 qf5_1 q5_2 qf5_2 q7_0 qf7_0 q7_1 qf7_1 q7_2 qf7_2 q9_0 qf9_0 q9_1 qf9_1 q9_2 qf9_2
  clear hp4_5 hp4_7 hp4_9 hp5_5 hp5_7 hp5_9
  have HB5_5 : Hid (Three w5 (w1.heap.size) a b l) := ((HB3_5.out.below (Below.drew (Below.refl _ _))).below hb4).below hb5
  have HB5_7 : Hid (Three w5 (w2.heap.size) X Y Z) := ((HB3_7.out.below (Below.drew (Below.refl _ _))).below hb4).below hb5
  have HB5_9 : Hid (Three w5 (w3.heap.size) X Y Z) := ((HB3_9.out.below (Below.drew (Below.refl _ _))).below hb4).below hb5
  have hz5 := hb5.size
  clear hb4 hb5 HK4 HK3 HB3_5 HB3_7 HB3_9
  cases O
  · clear HFYh
    clear HB5_5 HB5_7 HB5_9
    have HDJ := drawJoin _ n1 _ (HC1.out.below HK5.out)
    go_wp2_with fail
    refine HDJ.mono ?_
    rintro e w6 ⟨ja, jb, jl, jx, jy, jz, rfl, hb6⟩
    clear HDJ
    have hk := HK5.out.trans (hb6.mono HK5.out.size)
    have hz6 := hb6.size
    try simp only [World.size_drew] at hz6
    try simp only [World.size_alloc] at hz6
    have HK6 : Hid (Below w.heap.size w (((w6).alloc (.cells #[.int .i64 ja, .int .i64 jb, .int .i64 jl] 24)).alloc (.cells #[.int .i64 jx, .int .i64 jy, .int .i64 jz] 24))) := ((hk).alloc (hk).size _).alloc ((hk).alloc (hk).size _).size _
    have HB6_20 : Hid (Three (((w6).alloc (.cells #[.int .i64 ja, .int .i64 jb, .int .i64 jl] 24)).alloc (.cells #[.int .i64 jx, .int .i64 jy, .int .i64 jz] 24)) (w6.heap.size) ja jb jl) := by
      have h := ((three_new (w6) ja jb jl 24).below ((Below.refl _ _).alloc (by first | exact Nat.le_refl _ | (simp; done) | (simp; omega)) (.cells #[.int .i64 jx, .int .i64 jy, .int .i64 jz] 24)))
      try simp only [World.size_alloc] at h
      exact h
    have HB6_21 : Hid (Three (((w6).alloc (.cells #[.int .i64 ja, .int .i64 jb, .int .i64 jl] 24)).alloc (.cells #[.int .i64 jx, .int .i64 jy, .int .i64 jz] 24)) (w6.heap.size + 1) jx jy jz) := by
      have h := (three_new ((w6).alloc (.cells #[.int .i64 ja, .int .i64 jb, .int .i64 jl] 24)) jx jy jz 24)
      try simp only [World.size_alloc] at h
      exact h
    clear hk hb6 HK5 
    obtain ⟨JX, JY, JZ, JO, HJI, HJS⟩ := joinBoth ja jb jl jx jy jz
    obtain ⟨q20_0, q20_1, q20_2, qf20_0, qf20_1, qf20_2⟩ := HB6_20.out
    obtain ⟨q21_0, q21_1, q21_2, qf21_0, qf21_1, qf21_2⟩ := HB6_21.out
    go_wp2_with fail
    clear q20_0 qf20_0 q20_1 qf20_1 q20_2 qf20_2 q21_0 qf21_0 q21_1 qf21_1 q21_2 qf21_2
    refine (HJI _).mono ?_
    rintro e w7 ⟨rfl, hb7⟩
    have hk := HK6.out.trans (hb7.mono HK6.out.size)
    have hz7 := hb7.size
    try simp only [World.size_drew] at hz7
    try simp only [World.size_alloc] at hz7
    have HK7 : Hid (Below w.heap.size w ((w7).alloc (.cells #[.int .i64 JX, .int .i64 JY, .int .i64 JZ] 24))) := (hk).alloc (hk).size _
    have HB7_20 : Hid (Three ((w7).alloc (.cells #[.int .i64 JX, .int .i64 JY, .int .i64 JZ] 24)) (w6.heap.size) ja jb jl) := (HB6_20.out.below hb7).below ((Below.refl _ _).alloc (by first | exact Nat.le_refl _ | (simp; done) | (simp; omega)) _)
    have HB7_21 : Hid (Three ((w7).alloc (.cells #[.int .i64 JX, .int .i64 JY, .int .i64 JZ] 24)) (w6.heap.size + 1) jx jy jz) := (HB6_21.out.below hb7).below ((Below.refl _ _).alloc (by first | exact Nat.le_refl _ | (simp; done) | (simp; omega)) _)
    have HB7_22 : Hid (Three ((w7).alloc (.cells #[.int .i64 JX, .int .i64 JY, .int .i64 JZ] 24)) (w7.heap.size) JX JY JZ) := by
      have h := (three_new (w7) JX JY JZ 24)
      try simp only [World.size_alloc] at h
      exact h
    clear hk hb7 HK6 HB6_20 HB6_21
    obtain ⟨q20_0, q20_1, q20_2, qf20_0, qf20_1, qf20_2⟩ := HB7_20.out
    obtain ⟨q21_0, q21_1, q21_2, qf21_0, qf21_1, qf21_2⟩ := HB7_21.out
    go_wp2_with fail
    clear q20_0 qf20_0 q20_1 qf20_1 q20_2 qf20_2 q21_0 qf21_0 q21_1 qf21_1 q21_2 qf21_2
    refine (HJS _).mono ?_
    rintro e w8 ⟨rfl, hb8⟩
    have hk := HK7.out.trans (hb8.mono HK7.out.size)
    have hz8 := hb8.size
    try simp only [World.size_drew] at hz8
    try simp only [World.size_alloc] at hz8
    have HK8 : Hid (Below w.heap.size w ((w8).alloc (.cells #[.int .i64 JX, .int .i64 JY, .int .i64 JZ] 24))) := (hk).alloc (hk).size _
    have HB8_20 : Hid (Three ((w8).alloc (.cells #[.int .i64 JX, .int .i64 JY, .int .i64 JZ] 24)) (w6.heap.size) ja jb jl) := (HB7_20.out.below hb8).below ((Below.refl _ _).alloc (by first | exact Nat.le_refl _ | (simp; done) | (simp; omega)) _)
    have HB8_21 : Hid (Three ((w8).alloc (.cells #[.int .i64 JX, .int .i64 JY, .int .i64 JZ] 24)) (w6.heap.size + 1) jx jy jz) := (HB7_21.out.below hb8).below ((Below.refl _ _).alloc (by first | exact Nat.le_refl _ | (simp; done) | (simp; omega)) _)
    have HB8_22 : Hid (Three ((w8).alloc (.cells #[.int .i64 JX, .int .i64 JY, .int .i64 JZ] 24)) (w7.heap.size) JX JY JZ) := (HB7_22.out.below hb8).below ((Below.refl _ _).alloc (by first | exact Nat.le_refl _ | (simp; done) | (simp; omega)) _)
    have HB8_24 : Hid (Three ((w8).alloc (.cells #[.int .i64 JX, .int .i64 JY, .int .i64 JZ] 24)) (w8.heap.size) JX JY JZ) := by
      have h := (three_new (w8) JX JY JZ 24)
      try simp only [World.size_alloc] at h
      exact h
    clear hk hb8 HK7 HB7_20 HB7_21 HB7_22
    clear HJI HJS
    clear HB8_20 HB8_21
    have HDK := drawKind _ n1 _ (HC1.out.below HK8.out)
    go_wp2_with fail
    refine HDK.mono ?_
    rintro e w9 ⟨kd, rfl, kd0, kd1, hb9⟩
    clear HDK
    have hk := HK8.out.trans (hb9.mono HK8.out.size)
    have hz9 := hb9.size
    try simp only [World.size_drew] at hz9
    try simp only [World.size_alloc] at hz9
    have HK9 : Hid (Below w.heap.size w (w9)) := hk
    have HB9_22 : Hid (Three (w9) (w7.heap.size) JX JY JZ) := (HB8_22.out.below hb9)
    have HB9_24 : Hid (Three (w9) (w8.heap.size) JX JY JZ) := (HB8_24.out.below hb9)
    clear hk hb9 HK8 HB8_22 HB8_24
    obtain ⟨NX, NY, NZ, NO, HNI, HNS⟩ := newBoth kd
    go_wp2_with fail
    refine (HNI _).mono ?_
    rintro e w10 ⟨rfl, hb10⟩
    have hk := HK9.out.trans (hb10.mono HK9.out.size)
    have hz10 := hb10.size
    try simp only [World.size_drew] at hz10
    try simp only [World.size_alloc] at hz10
    have HK10 : Hid (Below w.heap.size w ((w10).alloc (.cells #[.int .i64 NX, .int .i64 NY, .int .i64 NZ] 24))) := (hk).alloc (hk).size _
    have HB10_22 : Hid (Three ((w10).alloc (.cells #[.int .i64 NX, .int .i64 NY, .int .i64 NZ] 24)) (w7.heap.size) JX JY JZ) := (HB9_22.out.below hb10).below ((Below.refl _ _).alloc (by first | exact Nat.le_refl _ | (simp; done) | (simp; omega)) _)
    have HB10_24 : Hid (Three ((w10).alloc (.cells #[.int .i64 NX, .int .i64 NY, .int .i64 NZ] 24)) (w8.heap.size) JX JY JZ) := (HB9_24.out.below hb10).below ((Below.refl _ _).alloc (by first | exact Nat.le_refl _ | (simp; done) | (simp; omega)) _)
    have HB10_27 : Hid (Three ((w10).alloc (.cells #[.int .i64 NX, .int .i64 NY, .int .i64 NZ] 24)) (w10.heap.size) NX NY NZ) := by
      have h := (three_new (w10) NX NY NZ 24)
      try simp only [World.size_alloc] at h
      exact h
    clear hk hb10 HK9 HB9_22 HB9_24
    go_wp2_with fail
    refine (HNS _).mono ?_
    rintro e w11 ⟨rfl, hb11⟩
    have hk := HK10.out.trans (hb11.mono HK10.out.size)
    have hz11 := hb11.size
    try simp only [World.size_drew] at hz11
    try simp only [World.size_alloc] at hz11
    have HK11 : Hid (Below w.heap.size w ((w11).alloc (.cells #[.int .i64 NX, .int .i64 NY, .int .i64 NZ] 24))) := (hk).alloc (hk).size _
    have HB11_22 : Hid (Three ((w11).alloc (.cells #[.int .i64 NX, .int .i64 NY, .int .i64 NZ] 24)) (w7.heap.size) JX JY JZ) := (HB10_22.out.below hb11).below ((Below.refl _ _).alloc (by first | exact Nat.le_refl _ | (simp; done) | (simp; omega)) _)
    have HB11_24 : Hid (Three ((w11).alloc (.cells #[.int .i64 NX, .int .i64 NY, .int .i64 NZ] 24)) (w8.heap.size) JX JY JZ) := (HB10_24.out.below hb11).below ((Below.refl _ _).alloc (by first | exact Nat.le_refl _ | (simp; done) | (simp; omega)) _)
    have HB11_27 : Hid (Three ((w11).alloc (.cells #[.int .i64 NX, .int .i64 NY, .int .i64 NZ] 24)) (w10.heap.size) NX NY NZ) := (HB10_27.out.below hb11).below ((Below.refl _ _).alloc (by first | exact Nat.le_refl _ | (simp; done) | (simp; omega)) _)
    have HB11_29 : Hid (Three ((w11).alloc (.cells #[.int .i64 NX, .int .i64 NY, .int .i64 NZ] 24)) (w11.heap.size) NX NY NZ) := by
      have h := (three_new (w11) NX NY NZ 24)
      try simp only [World.size_alloc] at h
      exact h
    clear hk hb11 HK10 HB10_22 HB10_24 HB10_27
    clear HNI HNS
    have HDE := drawEnd _ n1 _ (HC1.out.below HK11.out)
    go_wp2_with fail
    refine HDE.mono ?_
    rintro e w12 ⟨ea, eb, el, rfl, hb12⟩
    clear HDE
    have hk := HK11.out.trans (hb12.mono HK11.out.size)
    have hz12 := hb12.size
    try simp only [World.size_drew] at hz12
    try simp only [World.size_alloc] at hz12
    have HK12 : Hid (Below w.heap.size w ((w12).alloc (.cells #[.int .i64 ea, .int .i64 eb, .int .i64 el] 24))) := (hk).alloc (hk).size _
    have HB12_22 : Hid (Three ((w12).alloc (.cells #[.int .i64 ea, .int .i64 eb, .int .i64 el] 24)) (w7.heap.size) JX JY JZ) := (HB11_22.out.below hb12).below ((Below.refl _ _).alloc (by first | exact Nat.le_refl _ | (simp; done) | (simp; omega)) _)
    have HB12_24 : Hid (Three ((w12).alloc (.cells #[.int .i64 ea, .int .i64 eb, .int .i64 el] 24)) (w8.heap.size) JX JY JZ) := (HB11_24.out.below hb12).below ((Below.refl _ _).alloc (by first | exact Nat.le_refl _ | (simp; done) | (simp; omega)) _)
    have HB12_27 : Hid (Three ((w12).alloc (.cells #[.int .i64 ea, .int .i64 eb, .int .i64 el] 24)) (w10.heap.size) NX NY NZ) := (HB11_27.out.below hb12).below ((Below.refl _ _).alloc (by first | exact Nat.le_refl _ | (simp; done) | (simp; omega)) _)
    have HB12_29 : Hid (Three ((w12).alloc (.cells #[.int .i64 ea, .int .i64 eb, .int .i64 el] 24)) (w11.heap.size) NX NY NZ) := (HB11_29.out.below hb12).below ((Below.refl _ _).alloc (by first | exact Nat.le_refl _ | (simp; done) | (simp; omega)) _)
    have HB12_31 : Hid (Three ((w12).alloc (.cells #[.int .i64 ea, .int .i64 eb, .int .i64 el] 24)) (w12.heap.size) ea eb el) := by
      have h := (three_new (w12) ea eb el 24)
      try simp only [World.size_alloc] at h
      exact h
    clear hk hb12 HK11 HB11_22 HB11_24 HB11_27 HB11_29
    obtain ⟨ES, EO, HEI, HES, HEZ⟩ := endBoth ea eb el
    obtain ⟨q31_0, q31_1, q31_2, qf31_0, qf31_1, qf31_2⟩ := HB12_31.out
    go_wp2_with fail
    clear q31_0 qf31_0 q31_1 qf31_1 q31_2 qf31_2
    refine (HEI _).mono ?_
    rintro e w13 ⟨rfl, hb13⟩
    have hk := HK12.out.trans (hb13.mono HK12.out.size)
    have hz13 := hb13.size
    try simp only [World.size_drew] at hz13
    try simp only [World.size_alloc] at hz13
    have HK13 : Hid (Below w.heap.size w (w13)) := hk
    have HB13_22 : Hid (Three (w13) (w7.heap.size) JX JY JZ) := (HB12_22.out.below hb13)
    have HB13_24 : Hid (Three (w13) (w8.heap.size) JX JY JZ) := (HB12_24.out.below hb13)
    have HB13_27 : Hid (Three (w13) (w10.heap.size) NX NY NZ) := (HB12_27.out.below hb13)
    have HB13_29 : Hid (Three (w13) (w11.heap.size) NX NY NZ) := (HB12_29.out.below hb13)
    have HB13_31 : Hid (Three (w13) (w12.heap.size) ea eb el) := (HB12_31.out.below hb13)
    clear hk hb13 HK12 HB12_22 HB12_24 HB12_27 HB12_29 HB12_31
    obtain ⟨q31_0, q31_1, q31_2, qf31_0, qf31_1, qf31_2⟩ := HB13_31.out
    go_wp2_with fail
    clear q31_0 qf31_0 q31_1 qf31_1 q31_2 qf31_2
    refine (HES _).mono ?_
    rintro e w14 ⟨rfl, hb14⟩
    have hk := HK13.out.trans (hb14.mono HK13.out.size)
    have hz14 := hb14.size
    try simp only [World.size_drew] at hz14
    try simp only [World.size_alloc] at hz14
    have HK14 : Hid (Below w.heap.size w (w14)) := hk
    have HB14_22 : Hid (Three (w14) (w7.heap.size) JX JY JZ) := (HB13_22.out.below hb14)
    have HB14_24 : Hid (Three (w14) (w8.heap.size) JX JY JZ) := (HB13_24.out.below hb14)
    have HB14_27 : Hid (Three (w14) (w10.heap.size) NX NY NZ) := (HB13_27.out.below hb14)
    have HB14_29 : Hid (Three (w14) (w11.heap.size) NX NY NZ) := (HB13_29.out.below hb14)
    have HB14_31 : Hid (Three (w14) (w12.heap.size) ea eb el) := (HB13_31.out.below hb14)
    clear hk hb14 HK13 HB13_22 HB13_24 HB13_27 HB13_29 HB13_31
    clear HEI HES
    clear HB14_31
    obtain ⟨q22_0, q22_1, q22_2, qf22_0, qf22_1, qf22_2⟩ := HB14_22.out
    obtain ⟨q24_0, q24_1, q24_2, qf24_0, qf24_1, qf24_2⟩ := HB14_24.out
    obtain ⟨q27_0, q27_1, q27_2, qf27_0, qf27_1, qf27_2⟩ := HB14_27.out
    obtain ⟨q29_0, q29_1, q29_2, qf29_0, qf29_1, qf29_2⟩ := HB14_29.out
    have kfin := HK14.out
    cases EO
    · go_wp2
      go_returns
      exact ⟨rfl, kfin⟩
    · have hE4 : ((ES.size : Int) == 4) = true := by rw [HEZ rfl]; rfl
      go_wp2
      go_returns
      exact ⟨rfl, kfin⟩
  · obtain ⟨g1, g2, g3, hX, hY, hZ⟩ := HFYh.out rfl
    clear HFYh
    have HNum := numberIn _ n1 _ (HC1.out.below HK5.out)
    go_wp2_with fail
    refine HNum.mono ?_
    rintro e w6 ⟨num, rfl, hnum0, hnum1, hw6⟩
    subst hw6
    clear HNum
    have hsz1 : (0 : Int) < (s.size : Int) + 1 := by omega
    have hmlo := mod_lo num ((s.size : Int) + 1) hnum0 hsz1
    have hmhi := mod_hi num ((s.size : Int) + 1) hnum0 hsz1
    have hX2 := hide hX
    have hY2 := hide hY
    have hZ2 := hide hZ
    clear hX hY hZ
    clear HB5_9
    go_upto_region 10 with fail
    generalize num % ((s.size : Int) + 1) = kk at *
    obtain ⟨K, rfl⟩ := Int.eq_ofNat_of_zero_le hmlo
    have hKs : K ≤ s.size := by omega
    obtain ⟨P, Q, R, A, B, C, gP, gA, gX, HP, HR, HPQ, HRZ, HA, HCC, HJA, HJB, HJC⟩ := cut_feed a b l s K hKs g1 g2 g3
    rw [← unhide hX2, ← unhide hY2] at HPQ gX
    rw [← unhide hX2] at HJA
    rw [← unhide hY2] at HJB
    rw [← unhide hZ2] at HRZ HJC gX
    have z0 : (s.extract 0 K).size ≤ 600 := by simp; omega
    have z1 : (s.extract K s.size).size ≤ 600 := by simp; omega
    have hKi0 : (0 : Int) ≤ (K : Int) := by omega
    have hKi1 : (K : Int) ≤ (s.size : Int) := by omega
    have hR1 : l + ((s.extract 0 K).size : Int) ≤ 1000000 := by have : (s.extract 0 K).size ≤ s.size := (by simp; omega); omega
    have hR2 : R + ((s.extract K s.size).size : Int) ≤ 1000000 := by rw [HRZ, unhide hZ2]; omega
    have HF1 := fun (W : World) (hT : Table W) => feedYesL a b l (s.extract 0 K) P Q R g1 z0 hR1 HP HR W hT
    have HF2 := fun (W : World) (hT : Table W) => feedYesL P Q R (s.extract K s.size) X Y Z gP z1 hR2 HPQ HRZ W hT
    have HF3 := fun (W : World) (hT : Table W) => feedYesL 1 0 0 (s.extract K s.size) A B C (by decide) z1 (by omega) HA HCC W hT
    have HF4 := fun (W : World) => joinYesL P Q R A B C X Y Z gP gA (by rw [HJC, unhide hZ2]; omega) HJA HJB HJC W
    have HF5 := fun (W : World) => goodYesL X Y Z gX W
    clear HP HR HPQ HRZ HA HCC HJA HJB HJC gP gA gX hX2 hY2 hZ2 g1 g3 hR1 hR2
    obtain ⟨q5_0, q5_1, q5_2, qf5_0, qf5_1, qf5_2⟩ := HB5_5.out
    go_upto_region 10 with fail
    go_cut [12, 13] (fun p ok wa => ∃ g', p = .pointer (some ⟨g', 0, none⟩) ∧ ok = .bool true ∧ Three wa g' P Q R ∧ Three wa (w1.heap.size) a b l ∧ Three wa (w2.heap.size) X Y Z ∧ Below w.heap.size w wa)
    case first =>
      have hlt5 := HB5_5.out.lt
      have hlt7 := HB5_7.out.lt
      have hlt5' : w1.heap.size < w5.heap.size + 1 := by omega
      have hnn5 : w5.heap.size ≠ w1.heap.size := by omega
      have hnm5 : w1.heap.size ≠ w5.heap.size := by omega
      go_region_held3 (fun w' => w'.cell? ⟨w1.heap.size, 0, none⟩ = some (.int .i64 a) ∧ w'.cell? ⟨w1.heap.size, 1, none⟩ = some (.int .i64 b) ∧ w'.cell? ⟨w1.heap.size, 2, none⟩ = some (.int .i64 l)) (go_keep)
        (first
          | (go_at_call 10; refine (HF1 _ (HT.out.below (Below.trans HK5.out (by first | exact (Below.drew (Below.refl _ _)) | exact (((Below.refl _ _).alloc HK5.out.size _).drew))))).mono ?_; rintro e w7 ⟨rfl, hb7⟩; have hp7_5 := kept hb7 (w1.heap.size) (by go_size); obtain ⟨hc7, hf7⟩ := bcell hb7; have hz7 := hb7.size; (try simp only [World.size_drew] at hz7); (try simp only [World.size_alloc] at hz7); (try have hm7 : w5.heap.size < w7.heap.size := (by omega))))
      all_goals
        go_wp2_with fail
        go_meet
        have hbW : Below w5.heap.size w5 w7 := by first | exact (Below.drew (Below.refl _ _)).trans hb7 | exact (((Below.refl _ _).alloc (Nat.le_refl _) _).drew).trans (hb7.mono (by go_size))
        have hT5 := HB5_5.out.below hbW
        have hT7 := HB5_7.out.below hbW
        have hkW := HK5.out.trans (hbW.mono HK5.out.size)
        first
          | exact ⟨_, rfl, rfl, three_new w7 P Q R 24, hT5.below ((Below.refl _ _).alloc (Nat.le_refl _) _), hT7.below ((Below.refl _ _).alloc (Nat.le_refl _) _), hkW.alloc hkW.size _⟩
          | exact ⟨_, rfl, rfl, three_set ((three_new w5 0 0 0 24).below (Below.trans (Below.drew (Below.refl _ _)) hb7)) P Q R, ((hT5.far _ (by simp only []; omega) _).far _ (by simp only []; omega) _).far _ (by simp only []; omega) _, ((hT7.far _ (by simp only []; omega) _).far _ (by simp only []; omega) _).far _ (by simp only []; omega) _, ((hkW.setCell (by simp only []; have := HK5.out.size; omega) _).setCell (by simp only []; have := HK5.out.size; omega) _).setCell (by simp only []; have := HK5.out.size; omega) _⟩
    case rest =>
      clear q5_0 qf5_0 q5_1 qf5_1 q5_2 qf5_2
      rename World => wa
      obtain ⟨g12, rfl, rfl, hn0, h_5, h_7, hkk⟩ := hcut
      have HBg12 : Hid (Three wa g12 P Q R) := hn0
      have HC_g12_5 : Hid (Three wa (w1.heap.size) a b l) := h_5
      have HC_g12_7 : Hid (Three wa (w2.heap.size) X Y Z) := h_7
      have HKg12 : Hid (Below w.heap.size w wa) := hkk
      clear hn0 hkk h_5 h_7 HK5 HB5_5 HB5_7
      clear HF1
      clear HC_g12_5
      obtain ⟨qg12_0, qg12_1, qg12_2, qfg12_0, qfg12_1, qfg12_2⟩ := HBg12.out
      go_upto_region 11 with fail
      go_cut [14, 15] (fun p ok wb => ∃ g', p = .pointer (some ⟨g', 0, none⟩) ∧ ok = .bool true ∧ Three wb g' X Y Z ∧ Three wb (w2.heap.size) X Y Z ∧ Three wb (g12) P Q R ∧ Below w.heap.size w wb)
      case first =>
        have hlt7 := HC_g12_7.out.lt
        have hltg12 := HBg12.out.lt
        have hltg12' : g12 < wa.heap.size + 1 := by omega
        have hnng12 : wa.heap.size ≠ g12 := by omega
        have hnmg12 : g12 ≠ wa.heap.size := by omega
        go_region_held3 (fun w' => w'.cell? ⟨g12, 0, none⟩ = some (.int .i64 P) ∧ w'.cell? ⟨g12, 1, none⟩ = some (.int .i64 Q) ∧ w'.cell? ⟨g12, 2, none⟩ = some (.int .i64 R)) (go_keep)
          (first
            | (go_at_call 10; refine (HF2 _ (HT.out.below (Below.trans HKg12.out (by first | exact (Below.drew (Below.refl _ _)) | exact (((Below.refl _ _).alloc HKg12.out.size _).drew))))).mono ?_; rintro e w8 ⟨rfl, hb8⟩; have hp8_g12 := kept hb8 (g12) (by go_size); obtain ⟨hc8, hf8⟩ := bcell hb8; have hz8 := hb8.size; (try simp only [World.size_drew] at hz8); (try simp only [World.size_alloc] at hz8); (try have hm8 : wa.heap.size < w8.heap.size := (by omega))))
        all_goals
          go_wp2_with fail
          go_meet
          have hbW : Below wa.heap.size wa w8 := by first | exact (Below.drew (Below.refl _ _)).trans hb8 | exact (((Below.refl _ _).alloc (Nat.le_refl _) _).drew).trans (hb8.mono (by go_size))
          have hT7 := HC_g12_7.out.below hbW
          have hTg12 := HBg12.out.below hbW
          have hkW := HKg12.out.trans (hbW.mono HKg12.out.size)
          first
            | exact ⟨_, rfl, rfl, three_new w8 X Y Z 24, hT7.below ((Below.refl _ _).alloc (Nat.le_refl _) _), hTg12.below ((Below.refl _ _).alloc (Nat.le_refl _) _), hkW.alloc hkW.size _⟩
            | exact ⟨_, rfl, rfl, three_set ((three_new wa 0 0 0 24).below (Below.trans (Below.drew (Below.refl _ _)) hb8)) X Y Z, ((hT7.far _ (by simp only []; omega) _).far _ (by simp only []; omega) _).far _ (by simp only []; omega) _, ((hTg12.far _ (by simp only []; omega) _).far _ (by simp only []; omega) _).far _ (by simp only []; omega) _, ((hkW.setCell (by simp only []; have := HKg12.out.size; omega) _).setCell (by simp only []; have := HKg12.out.size; omega) _).setCell (by simp only []; have := HKg12.out.size; omega) _⟩
      case rest =>
        clear qg12_0 qfg12_0 qg12_1 qfg12_1 qg12_2 qfg12_2
        rename World => wb
        obtain ⟨g14, rfl, rfl, hn0, h_7, h_g12, hkk⟩ := hcut
        have HBg14 : Hid (Three wb g14 X Y Z) := hn0
        have HC_g14_7 : Hid (Three wb (w2.heap.size) X Y Z) := h_7
        have HC_g14_g12 : Hid (Three wb (g12) P Q R) := h_g12
        have HKg14 : Hid (Below w.heap.size w wb) := hkk
        clear hn0 hkk h_7 h_g12 HKg12 HC_g12_7 HBg12
        clear HF2
        go_wp2_with fail
        refine (HF3 _ (HT.out.below HKg14.out)).mono ?_
        rintro e w9 ⟨rfl, hb9⟩
        have hk := HKg14.out.trans (hb9.mono HKg14.out.size)
        have hz9 := hb9.size
        try simp only [World.size_drew] at hz9
        try simp only [World.size_alloc] at hz9
        have HK9 : Hid (Below w.heap.size w ((w9).alloc (.cells #[.int .i64 A, .int .i64 B, .int .i64 C] 24))) := (hk).alloc (hk).size _
        have HB9_7 : Hid (Three ((w9).alloc (.cells #[.int .i64 A, .int .i64 B, .int .i64 C] 24)) (w2.heap.size) X Y Z) := (HC_g14_7.out.below hb9).below ((Below.refl _ _).alloc (by first | exact Nat.le_refl _ | (simp; done) | (simp; omega)) _)
        have HB9_g12 : Hid (Three ((w9).alloc (.cells #[.int .i64 A, .int .i64 B, .int .i64 C] 24)) (g12) P Q R) := (HC_g14_g12.out.below hb9).below ((Below.refl _ _).alloc (by first | exact Nat.le_refl _ | (simp; done) | (simp; omega)) _)
        have HB9_g14 : Hid (Three ((w9).alloc (.cells #[.int .i64 A, .int .i64 B, .int .i64 C] 24)) (g14) X Y Z) := (HBg14.out.below hb9).below ((Below.refl _ _).alloc (by first | exact Nat.le_refl _ | (simp; done) | (simp; omega)) _)
        have HB9_16 : Hid (Three ((w9).alloc (.cells #[.int .i64 A, .int .i64 B, .int .i64 C] 24)) (w9.heap.size) A B C) := by
          have h := (three_new (w9) A B C 24)
          try simp only [World.size_alloc] at h
          exact h
        clear hk hb9 HKg14 HC_g14_7 HC_g14_g12 HBg14
        obtain ⟨qg12_0, qg12_1, qg12_2, qfg12_0, qfg12_1, qfg12_2⟩ := HB9_g12.out
        obtain ⟨q16_0, q16_1, q16_2, qf16_0, qf16_1, qf16_2⟩ := HB9_16.out
        go_wp2_with fail
        clear qg12_0 qfg12_0 qg12_1 qfg12_1 qg12_2 qfg12_2 q16_0 qf16_0 q16_1 qf16_1 q16_2 qf16_2
        refine (HF4 _).mono ?_
        rintro e w10 ⟨rfl, hb10⟩
        have hk := HK9.out.trans (hb10.mono HK9.out.size)
        have hz10 := hb10.size
        try simp only [World.size_drew] at hz10
        try simp only [World.size_alloc] at hz10
        have HK10 : Hid (Below w.heap.size w ((w10).alloc (.cells #[.int .i64 X, .int .i64 Y, .int .i64 Z] 24))) := (hk).alloc (hk).size _
        have HB10_7 : Hid (Three ((w10).alloc (.cells #[.int .i64 X, .int .i64 Y, .int .i64 Z] 24)) (w2.heap.size) X Y Z) := (HB9_7.out.below hb10).below ((Below.refl _ _).alloc (by first | exact Nat.le_refl _ | (simp; done) | (simp; omega)) _)
        have HB10_g12 : Hid (Three ((w10).alloc (.cells #[.int .i64 X, .int .i64 Y, .int .i64 Z] 24)) (g12) P Q R) := (HB9_g12.out.below hb10).below ((Below.refl _ _).alloc (by first | exact Nat.le_refl _ | (simp; done) | (simp; omega)) _)
        have HB10_g14 : Hid (Three ((w10).alloc (.cells #[.int .i64 X, .int .i64 Y, .int .i64 Z] 24)) (g14) X Y Z) := (HB9_g14.out.below hb10).below ((Below.refl _ _).alloc (by first | exact Nat.le_refl _ | (simp; done) | (simp; omega)) _)
        have HB10_16 : Hid (Three ((w10).alloc (.cells #[.int .i64 X, .int .i64 Y, .int .i64 Z] 24)) (w9.heap.size) A B C) := (HB9_16.out.below hb10).below ((Below.refl _ _).alloc (by first | exact Nat.le_refl _ | (simp; done) | (simp; omega)) _)
        have HB10_18 : Hid (Three ((w10).alloc (.cells #[.int .i64 X, .int .i64 Y, .int .i64 Z] 24)) (w10.heap.size) X Y Z) := by
          have h := (three_new (w10) X Y Z 24)
          try simp only [World.size_alloc] at h
          exact h
        clear hk hb10 HK9 HB9_7 HB9_g12 HB9_g14 HB9_16
        clear HF3 HF4
        clear HB10_g12 HB10_16
        obtain ⟨q7_0, q7_1, q7_2, qf7_0, qf7_1, qf7_2⟩ := HB10_7.out
        obtain ⟨qg14_0, qg14_1, qg14_2, qfg14_0, qfg14_1, qfg14_2⟩ := HB10_g14.out
        obtain ⟨q18_0, q18_1, q18_2, qf18_0, qf18_1, qf18_2⟩ := HB10_18.out
        go_wp2_with fail
        clear qg14_0 qfg14_0 qg14_1 qfg14_1 qg14_2 qfg14_2 q18_0 qf18_0 q18_1 qf18_1 q18_2 qf18_2 q7_0 qf7_0 q7_1 qf7_1 q7_2 qf7_2
        refine (HF5 _).mono ?_
        rintro e w11 ⟨rfl, hb11⟩
        have hk := HK10.out.trans (hb11.mono HK10.out.size)
        have hz11 := hb11.size
        try simp only [World.size_drew] at hz11
        try simp only [World.size_alloc] at hz11
        have HK11 : Hid (Below w.heap.size w (w11)) := hk
        have HB11_7 : Hid (Three (w11) (w2.heap.size) X Y Z) := (HB10_7.out.below hb11)
        have HB11_g14 : Hid (Three (w11) (g14) X Y Z) := (HB10_g14.out.below hb11)
        have HB11_18 : Hid (Three (w11) (w10.heap.size) X Y Z) := (HB10_18.out.below hb11)
        clear hk hb11 HK10 HB10_7 HB10_g14 HB10_18
        clear HF5
        clear HB11_7 HB11_g14 HB11_18
        have HDJ := drawJoin _ n1 _ (HC1.out.below HK11.out)
        go_wp2_with fail
        refine HDJ.mono ?_
        rintro e w12 ⟨ja, jb, jl, jx, jy, jz, rfl, hb12⟩
        clear HDJ
        have hk := HK11.out.trans (hb12.mono HK11.out.size)
        have hz12 := hb12.size
        try simp only [World.size_drew] at hz12
        try simp only [World.size_alloc] at hz12
        have HK12 : Hid (Below w.heap.size w (((w12).alloc (.cells #[.int .i64 ja, .int .i64 jb, .int .i64 jl] 24)).alloc (.cells #[.int .i64 jx, .int .i64 jy, .int .i64 jz] 24))) := ((hk).alloc (hk).size _).alloc ((hk).alloc (hk).size _).size _
        have HB12_20 : Hid (Three (((w12).alloc (.cells #[.int .i64 ja, .int .i64 jb, .int .i64 jl] 24)).alloc (.cells #[.int .i64 jx, .int .i64 jy, .int .i64 jz] 24)) (w12.heap.size) ja jb jl) := by
          have h := ((three_new (w12) ja jb jl 24).below ((Below.refl _ _).alloc (by first | exact Nat.le_refl _ | (simp; done) | (simp; omega)) (.cells #[.int .i64 jx, .int .i64 jy, .int .i64 jz] 24)))
          try simp only [World.size_alloc] at h
          exact h
        have HB12_21 : Hid (Three (((w12).alloc (.cells #[.int .i64 ja, .int .i64 jb, .int .i64 jl] 24)).alloc (.cells #[.int .i64 jx, .int .i64 jy, .int .i64 jz] 24)) (w12.heap.size + 1) jx jy jz) := by
          have h := (three_new ((w12).alloc (.cells #[.int .i64 ja, .int .i64 jb, .int .i64 jl] 24)) jx jy jz 24)
          try simp only [World.size_alloc] at h
          exact h
        clear hk hb12 HK11 
        obtain ⟨JX, JY, JZ, JO, HJI, HJS⟩ := joinBoth ja jb jl jx jy jz
        obtain ⟨q20_0, q20_1, q20_2, qf20_0, qf20_1, qf20_2⟩ := HB12_20.out
        obtain ⟨q21_0, q21_1, q21_2, qf21_0, qf21_1, qf21_2⟩ := HB12_21.out
        go_wp2_with fail
        clear q20_0 qf20_0 q20_1 qf20_1 q20_2 qf20_2 q21_0 qf21_0 q21_1 qf21_1 q21_2 qf21_2
        refine (HJI _).mono ?_
        rintro e w13 ⟨rfl, hb13⟩
        have hk := HK12.out.trans (hb13.mono HK12.out.size)
        have hz13 := hb13.size
        try simp only [World.size_drew] at hz13
        try simp only [World.size_alloc] at hz13
        have HK13 : Hid (Below w.heap.size w ((w13).alloc (.cells #[.int .i64 JX, .int .i64 JY, .int .i64 JZ] 24))) := (hk).alloc (hk).size _
        have HB13_20 : Hid (Three ((w13).alloc (.cells #[.int .i64 JX, .int .i64 JY, .int .i64 JZ] 24)) (w12.heap.size) ja jb jl) := (HB12_20.out.below hb13).below ((Below.refl _ _).alloc (by first | exact Nat.le_refl _ | (simp; done) | (simp; omega)) _)
        have HB13_21 : Hid (Three ((w13).alloc (.cells #[.int .i64 JX, .int .i64 JY, .int .i64 JZ] 24)) (w12.heap.size + 1) jx jy jz) := (HB12_21.out.below hb13).below ((Below.refl _ _).alloc (by first | exact Nat.le_refl _ | (simp; done) | (simp; omega)) _)
        have HB13_22 : Hid (Three ((w13).alloc (.cells #[.int .i64 JX, .int .i64 JY, .int .i64 JZ] 24)) (w13.heap.size) JX JY JZ) := by
          have h := (three_new (w13) JX JY JZ 24)
          try simp only [World.size_alloc] at h
          exact h
        clear hk hb13 HK12 HB12_20 HB12_21
        obtain ⟨q20_0, q20_1, q20_2, qf20_0, qf20_1, qf20_2⟩ := HB13_20.out
        obtain ⟨q21_0, q21_1, q21_2, qf21_0, qf21_1, qf21_2⟩ := HB13_21.out
        go_wp2_with fail
        clear q20_0 qf20_0 q20_1 qf20_1 q20_2 qf20_2 q21_0 qf21_0 q21_1 qf21_1 q21_2 qf21_2
        refine (HJS _).mono ?_
        rintro e w14 ⟨rfl, hb14⟩
        have hk := HK13.out.trans (hb14.mono HK13.out.size)
        have hz14 := hb14.size
        try simp only [World.size_drew] at hz14
        try simp only [World.size_alloc] at hz14
        have HK14 : Hid (Below w.heap.size w ((w14).alloc (.cells #[.int .i64 JX, .int .i64 JY, .int .i64 JZ] 24))) := (hk).alloc (hk).size _
        have HB14_20 : Hid (Three ((w14).alloc (.cells #[.int .i64 JX, .int .i64 JY, .int .i64 JZ] 24)) (w12.heap.size) ja jb jl) := (HB13_20.out.below hb14).below ((Below.refl _ _).alloc (by first | exact Nat.le_refl _ | (simp; done) | (simp; omega)) _)
        have HB14_21 : Hid (Three ((w14).alloc (.cells #[.int .i64 JX, .int .i64 JY, .int .i64 JZ] 24)) (w12.heap.size + 1) jx jy jz) := (HB13_21.out.below hb14).below ((Below.refl _ _).alloc (by first | exact Nat.le_refl _ | (simp; done) | (simp; omega)) _)
        have HB14_22 : Hid (Three ((w14).alloc (.cells #[.int .i64 JX, .int .i64 JY, .int .i64 JZ] 24)) (w13.heap.size) JX JY JZ) := (HB13_22.out.below hb14).below ((Below.refl _ _).alloc (by first | exact Nat.le_refl _ | (simp; done) | (simp; omega)) _)
        have HB14_24 : Hid (Three ((w14).alloc (.cells #[.int .i64 JX, .int .i64 JY, .int .i64 JZ] 24)) (w14.heap.size) JX JY JZ) := by
          have h := (three_new (w14) JX JY JZ 24)
          try simp only [World.size_alloc] at h
          exact h
        clear hk hb14 HK13 HB13_20 HB13_21 HB13_22
        clear HJI HJS
        clear HB14_20 HB14_21
        have HDK := drawKind _ n1 _ (HC1.out.below HK14.out)
        go_wp2_with fail
        refine HDK.mono ?_
        rintro e w15 ⟨kd, rfl, kd0, kd1, hb15⟩
        clear HDK
        have hk := HK14.out.trans (hb15.mono HK14.out.size)
        have hz15 := hb15.size
        try simp only [World.size_drew] at hz15
        try simp only [World.size_alloc] at hz15
        have HK15 : Hid (Below w.heap.size w (w15)) := hk
        have HB15_22 : Hid (Three (w15) (w13.heap.size) JX JY JZ) := (HB14_22.out.below hb15)
        have HB15_24 : Hid (Three (w15) (w14.heap.size) JX JY JZ) := (HB14_24.out.below hb15)
        clear hk hb15 HK14 HB14_22 HB14_24
        obtain ⟨NX, NY, NZ, NO, HNI, HNS⟩ := newBoth kd
        go_wp2_with fail
        refine (HNI _).mono ?_
        rintro e w16 ⟨rfl, hb16⟩
        have hk := HK15.out.trans (hb16.mono HK15.out.size)
        have hz16 := hb16.size
        try simp only [World.size_drew] at hz16
        try simp only [World.size_alloc] at hz16
        have HK16 : Hid (Below w.heap.size w ((w16).alloc (.cells #[.int .i64 NX, .int .i64 NY, .int .i64 NZ] 24))) := (hk).alloc (hk).size _
        have HB16_22 : Hid (Three ((w16).alloc (.cells #[.int .i64 NX, .int .i64 NY, .int .i64 NZ] 24)) (w13.heap.size) JX JY JZ) := (HB15_22.out.below hb16).below ((Below.refl _ _).alloc (by first | exact Nat.le_refl _ | (simp; done) | (simp; omega)) _)
        have HB16_24 : Hid (Three ((w16).alloc (.cells #[.int .i64 NX, .int .i64 NY, .int .i64 NZ] 24)) (w14.heap.size) JX JY JZ) := (HB15_24.out.below hb16).below ((Below.refl _ _).alloc (by first | exact Nat.le_refl _ | (simp; done) | (simp; omega)) _)
        have HB16_27 : Hid (Three ((w16).alloc (.cells #[.int .i64 NX, .int .i64 NY, .int .i64 NZ] 24)) (w16.heap.size) NX NY NZ) := by
          have h := (three_new (w16) NX NY NZ 24)
          try simp only [World.size_alloc] at h
          exact h
        clear hk hb16 HK15 HB15_22 HB15_24
        go_wp2_with fail
        refine (HNS _).mono ?_
        rintro e w17 ⟨rfl, hb17⟩
        have hk := HK16.out.trans (hb17.mono HK16.out.size)
        have hz17 := hb17.size
        try simp only [World.size_drew] at hz17
        try simp only [World.size_alloc] at hz17
        have HK17 : Hid (Below w.heap.size w ((w17).alloc (.cells #[.int .i64 NX, .int .i64 NY, .int .i64 NZ] 24))) := (hk).alloc (hk).size _
        have HB17_22 : Hid (Three ((w17).alloc (.cells #[.int .i64 NX, .int .i64 NY, .int .i64 NZ] 24)) (w13.heap.size) JX JY JZ) := (HB16_22.out.below hb17).below ((Below.refl _ _).alloc (by first | exact Nat.le_refl _ | (simp; done) | (simp; omega)) _)
        have HB17_24 : Hid (Three ((w17).alloc (.cells #[.int .i64 NX, .int .i64 NY, .int .i64 NZ] 24)) (w14.heap.size) JX JY JZ) := (HB16_24.out.below hb17).below ((Below.refl _ _).alloc (by first | exact Nat.le_refl _ | (simp; done) | (simp; omega)) _)
        have HB17_27 : Hid (Three ((w17).alloc (.cells #[.int .i64 NX, .int .i64 NY, .int .i64 NZ] 24)) (w16.heap.size) NX NY NZ) := (HB16_27.out.below hb17).below ((Below.refl _ _).alloc (by first | exact Nat.le_refl _ | (simp; done) | (simp; omega)) _)
        have HB17_29 : Hid (Three ((w17).alloc (.cells #[.int .i64 NX, .int .i64 NY, .int .i64 NZ] 24)) (w17.heap.size) NX NY NZ) := by
          have h := (three_new (w17) NX NY NZ 24)
          try simp only [World.size_alloc] at h
          exact h
        clear hk hb17 HK16 HB16_22 HB16_24 HB16_27
        clear HNI HNS
        have HDE := drawEnd _ n1 _ (HC1.out.below HK17.out)
        go_wp2_with fail
        refine HDE.mono ?_
        rintro e w18 ⟨ea, eb, el, rfl, hb18⟩
        clear HDE
        have hk := HK17.out.trans (hb18.mono HK17.out.size)
        have hz18 := hb18.size
        try simp only [World.size_drew] at hz18
        try simp only [World.size_alloc] at hz18
        have HK18 : Hid (Below w.heap.size w ((w18).alloc (.cells #[.int .i64 ea, .int .i64 eb, .int .i64 el] 24))) := (hk).alloc (hk).size _
        have HB18_22 : Hid (Three ((w18).alloc (.cells #[.int .i64 ea, .int .i64 eb, .int .i64 el] 24)) (w13.heap.size) JX JY JZ) := (HB17_22.out.below hb18).below ((Below.refl _ _).alloc (by first | exact Nat.le_refl _ | (simp; done) | (simp; omega)) _)
        have HB18_24 : Hid (Three ((w18).alloc (.cells #[.int .i64 ea, .int .i64 eb, .int .i64 el] 24)) (w14.heap.size) JX JY JZ) := (HB17_24.out.below hb18).below ((Below.refl _ _).alloc (by first | exact Nat.le_refl _ | (simp; done) | (simp; omega)) _)
        have HB18_27 : Hid (Three ((w18).alloc (.cells #[.int .i64 ea, .int .i64 eb, .int .i64 el] 24)) (w16.heap.size) NX NY NZ) := (HB17_27.out.below hb18).below ((Below.refl _ _).alloc (by first | exact Nat.le_refl _ | (simp; done) | (simp; omega)) _)
        have HB18_29 : Hid (Three ((w18).alloc (.cells #[.int .i64 ea, .int .i64 eb, .int .i64 el] 24)) (w17.heap.size) NX NY NZ) := (HB17_29.out.below hb18).below ((Below.refl _ _).alloc (by first | exact Nat.le_refl _ | (simp; done) | (simp; omega)) _)
        have HB18_31 : Hid (Three ((w18).alloc (.cells #[.int .i64 ea, .int .i64 eb, .int .i64 el] 24)) (w18.heap.size) ea eb el) := by
          have h := (three_new (w18) ea eb el 24)
          try simp only [World.size_alloc] at h
          exact h
        clear hk hb18 HK17 HB17_22 HB17_24 HB17_27 HB17_29
        obtain ⟨ES, EO, HEI, HES, HEZ⟩ := endBoth ea eb el
        obtain ⟨q31_0, q31_1, q31_2, qf31_0, qf31_1, qf31_2⟩ := HB18_31.out
        go_wp2_with fail
        clear q31_0 qf31_0 q31_1 qf31_1 q31_2 qf31_2
        refine (HEI _).mono ?_
        rintro e w19 ⟨rfl, hb19⟩
        have hk := HK18.out.trans (hb19.mono HK18.out.size)
        have hz19 := hb19.size
        try simp only [World.size_drew] at hz19
        try simp only [World.size_alloc] at hz19
        have HK19 : Hid (Below w.heap.size w (w19)) := hk
        have HB19_22 : Hid (Three (w19) (w13.heap.size) JX JY JZ) := (HB18_22.out.below hb19)
        have HB19_24 : Hid (Three (w19) (w14.heap.size) JX JY JZ) := (HB18_24.out.below hb19)
        have HB19_27 : Hid (Three (w19) (w16.heap.size) NX NY NZ) := (HB18_27.out.below hb19)
        have HB19_29 : Hid (Three (w19) (w17.heap.size) NX NY NZ) := (HB18_29.out.below hb19)
        have HB19_31 : Hid (Three (w19) (w18.heap.size) ea eb el) := (HB18_31.out.below hb19)
        clear hk hb19 HK18 HB18_22 HB18_24 HB18_27 HB18_29 HB18_31
        obtain ⟨q31_0, q31_1, q31_2, qf31_0, qf31_1, qf31_2⟩ := HB19_31.out
        go_wp2_with fail
        clear q31_0 qf31_0 q31_1 qf31_1 q31_2 qf31_2
        refine (HES _).mono ?_
        rintro e w20 ⟨rfl, hb20⟩
        have hk := HK19.out.trans (hb20.mono HK19.out.size)
        have hz20 := hb20.size
        try simp only [World.size_drew] at hz20
        try simp only [World.size_alloc] at hz20
        have HK20 : Hid (Below w.heap.size w (w20)) := hk
        have HB20_22 : Hid (Three (w20) (w13.heap.size) JX JY JZ) := (HB19_22.out.below hb20)
        have HB20_24 : Hid (Three (w20) (w14.heap.size) JX JY JZ) := (HB19_24.out.below hb20)
        have HB20_27 : Hid (Three (w20) (w16.heap.size) NX NY NZ) := (HB19_27.out.below hb20)
        have HB20_29 : Hid (Three (w20) (w17.heap.size) NX NY NZ) := (HB19_29.out.below hb20)
        have HB20_31 : Hid (Three (w20) (w18.heap.size) ea eb el) := (HB19_31.out.below hb20)
        clear hk hb20 HK19 HB19_22 HB19_24 HB19_27 HB19_29 HB19_31
        clear HEI HES
        clear HB20_31
        obtain ⟨q22_0, q22_1, q22_2, qf22_0, qf22_1, qf22_2⟩ := HB20_22.out
        obtain ⟨q24_0, q24_1, q24_2, qf24_0, qf24_1, qf24_2⟩ := HB20_24.out
        obtain ⟨q27_0, q27_1, q27_2, qf27_0, qf27_1, qf27_2⟩ := HB20_27.out
        obtain ⟨q29_0, q29_1, q29_2, qf29_0, qf29_1, qf29_2⟩ := HB20_29.out
        have kfin := HK20.out
        cases EO
        · go_wp2
          go_returns
          exact ⟨rfl, kfin⟩
        · have hE4 : ((ES.size : Int) == 4) = true := by rw [HEZ rfl]; rfl
          go_wp2
          go_returns
          exact ⟨rfl, kfin⟩

set_option maxRecDepth 100000 in
set_option maxHeartbeats 800000 in
theorem walk (v0 : Value) (n0 : Nat) (h0 : n0 ≤ 140737488351232) (v1 : Value) (n1 : Nat) (h1 : n1 ≤ 140737488351232) (w : World) (ht : Table w) (hb0 : ByteRow w v0 n0) (hb1 : ByteRow w v1 n1) :
    Calls Tryd.prog 3 #[v0, v1] w fun e w' => e = .returned (.bool true) ∧ Below w.heap.size w w' := by
  by_cases hn : n0 + n1 ≤ 1048576
  · exact walk0 v0 n0 v1 n1 w ht (hb0.code (by omega)) (hb1.code (by omega)) hn
  · obtain ⟨ad0, c0, rfl, _⟩ := hb0
    obtain ⟨ad1, c1, rfl, _⟩ := hb1
    have hbig : (1048576 : Int) < (n0 : Int) + (n1 : Int) := by omega
    go_enter Tryd.func3, Tryd.ntmps3
    go_wp2
    go_returns
    exact ⟨rfl, by go_grown⟩

theorem own : ownKnob Tryd.prog.godebug = none := by kernel_rfl
theorem laidOut : laidOutB Tryd.prog = true := by kernel_rfl
theorem contract (H : Type) (enc : TypeId × Value → H) (W : World) (base : Nat) (args : Array Value) (ds gs : List (DataW H)) (before : List MemPlace)
    (hval : ∀ (j : Nat) t v, Tryd.f3.params[j]? = some t → args[j]? = some v → Value.okWide Tryd.prog W .any base t v)
    (hW : DataW.Whole enc Tryd.prog Tryd.f3.params.toList Rows.fnMixesSpec.vars false W args.toList ds gs before) (hL : laidMetH Tryd.prog Rows.fnMixesRow.laid W) (hsz : (DataW.weightsEach Tryd.prog (Tryd.f3.params.toList ++ (OpenSpec.ofChange Rows.fnMixesSpec).bare.plain.varTypes Tryd.prog) (ds ++ gs)).all (· ≤ reachBytes) = true) :
    Calls Tryd.prog 3 args W fun e W' => ∃ v, e = .returned v ∧ Rows.fnMixesSpec.post enc Tryd.prog Tryd.f3 false true false false W args v W' := by
  have tab := table_of hL
  have hW' := hW
  obtain ⟨p, q, hA0, hV, rfl, hfz, hnd⟩ := hW
  have hA : DataW.TrodAll enc Tryd.prog W 0 (fun _ => true) true Tryd.f3.params.toList args.toList ds p := hA0
  rw [Tryd.params3] at hA hval
  obtain ⟨v0, vs0, d0, ds0, p0, q0, hargs, rfl, rfl, h0, r0⟩ := trodAll_cons hA
  obtain ⟨v1, vs1, d1, ds1, p1, q1, rfl, rfl, rfl, h1, r1⟩ := trodAll_cons r0
  obtain ⟨rfl, rfl, rfl⟩ := trodAll_nil r1
  obtain rfl : args = #[v0, v1] := by cases args; simp_all
  obtain ⟨g, t, cs, fuel, d, pv, rfl, hg, hty, hv, htr, rfl⟩ := trodVars_one hV
  obtain rfl := Option.some.inj (gTab.symm.trans hg)
  obtain rfl := Option.some.inj (gTabType.symm.trans hty)
  have kv : DataW.Trod enc Tryd.prog W 0 (fun _ => true) true 81 (.agg cs) d pv := ⟨fuel, htr⟩
  have ltv : ∀ x ∈ pv, x.block < W.heap.size := DataW.trod_lt fuel _ _ _ htr
  obtain ⟨ad0, len0, cap0, rfl⟩ := okWide_slice Tryd.underlying22 (hval 0 22 v0 rfl rfl)
  have kk0 := h0
  have lt0 : ∀ x ∈ p0, x.block < W.heap.size := by obtain ⟨m, hm⟩ := kk0; exact DataW.trod_lt m _ _ _ hm
  obtain ⟨hbr0, hbn0⟩ := bytes_of h0 hsz (j := 0) (by rw [Tryd.params3]; rfl) rfl
  obtain ⟨ad1, len1, cap1, rfl⟩ := okWide_slice Tryd.underlying22 (hval 1 22 v1 rfl rfl)
  have kk1 := h1
  have lt1 : ∀ x ∈ p1, x.block < W.heap.size := by obtain ⟨m, hm⟩ := kk1; exact DataW.trod_lt m _ _ _ hm
  obtain ⟨hbr1, hbn1⟩ := bytes_of h1 hsz (j := 1) (by rw [Tryd.params3]; rfl) rfl
  clear hA0
  refine (walk _ len0 hbn0 _ len1 hbn1 W tab hbr0 hbr1).mono fun e W' ⟨he, bel⟩ => ?_
  subst he
  obtain ⟨f2, hf2⟩ := Below.trod laidOut (by kernel_rfl) (of_decide_eq_true (by kernel_rfl)) kv bel ltv
  exact ⟨_, rfl, _, _, _, [], _, _, hW', trodAll_mk1 (shut_bool Tryd.underlying4 _), (trodAll_cons_mk (Below.trod laidOut (by kernel_rfl) (of_decide_eq_true (by kernel_rfl)) kk0 bel lt0) (trodAll_cons_mk (Below.trod laidOut (by kernel_rfl) (of_decide_eq_true (by kernel_rfl)) kk1 bel lt1) trodAll_mk0)), ⟨0, 81, cs, f2, pv, [], gTab, gTabType, var?_below bel gTab tab.1 hv, hf2, rfl, rfl⟩, bel.frame _, fun h => by cases h⟩

theorem reads (os : Os) {H : Type} (enc : TypeId × Value → H) : ∃ places, DataW.whole enc Tryd.prog (({ World.holding Tryd.prog os ⟨#[], #[], []⟩ with heap := (World.holding Tryd.prog os ⟨#[], #[], []⟩).heap.modify 0 layTab } : World).forCall (fun _ _ => 0) ⟨#[], #[.slice none 0 0, .slice none 0 0], []⟩).memory Tryd.f3.params.toList Rows.fnMixesSpec.vars false (#[.slice none 0 0, .slice none 0 0] : Array Value).toList 16 = some ([.nil, .nil], [Rows.laid_loop_example_g00537_impl_pieceWeights], places) :=
  ⟨MemPlace.row ⟨0, 0, none⟩ 8, by kernel_rfl⟩
theorem laid_met (os : Os) : laidMet Tryd.prog Rows.fnMixesRow.laid (({ World.holding Tryd.prog os ⟨#[], #[], []⟩ with heap := (World.holding Tryd.prog os ⟨#[], #[], []⟩).heap.modify 0 layTab } : World).forCall (fun _ _ => 0) ⟨#[], #[.slice none 0 0, .slice none 0 0], []⟩).memory :=
  laidMet_of_run' 16 (by kernel_rfl) (by kernel_rfl)
set_option maxRecDepth 100000 in
theorem lifted (os : Os) (started : os.Started) (H : Type) (enc : TypeId × Value → H) (F : Stop.Interp) :
    ReturnsInHanded {} Tryd.checked os 3 .any ((OpenSpec.ofChange Rows.fnMixesSpec).preRow enc Tryd.prog Tryd.f3 Rows.fnMixesRow.domain false Rows.fnMixesRow.laid) (((OpenSpec.ofChange Rows.fnMixesSpec).at F).post enc Tryd.prog Tryd.f3 false true false false) := by
  obtain ⟨places, hx⟩ := reads os enc
  refine returnsInHanded_of_row (C := Tryd.checked) (s := OpenSpec.ofChange Rows.fnMixesSpec) own started (by kernel_rfl) Tryd.func3
    (witness_row_at (enc := enc) (C := Tryd.checked) false ({ World.holding Tryd.prog os ⟨#[], #[], []⟩ with heap := (World.holding Tryd.prog os ⟨#[], #[], []⟩).heap.modify 0 layTab } : World) #[.slice none 0 0, .slice none 0 0] rfl (by kernel_rfl) (by kernel_rfl) (by kernel_rfl)
      (OpenSpec.preRow_of_cond 16 hx (by kernel_rfl) (fun k hk => by cases hk) (by kernel_rfl) (laid_met os))) ?_
  intro W base args ds gs before hval hW _ _ hsz hL _ _
  exact contract H enc W base args ds gs before hval hW hL hsz
theorem said : Rows.FnMixesSaid :=
  OpenClaim.holds_of_cond 3 Tryd.f3 rfl rfl rfl rfl rfl rfl rfl ⟨rfl, rfl, rfl, rfl, rfl⟩ rfl rfl rfl rfl rfl (by kernel_rfl) Tryd.func3 (by kernel_rfl)
    (of_decide_eq_true (by kernel_rfl)) (by unfold Func.isWrapper; first | (rw [if_pos (by decide +kernel)]; kernel_rfl) | (rw [if_neg (by decide +kernel)]; exact ⟨rfl, rfl⟩))
    (fun os started H enc _ F => by rw [OpenClaim.pre_eq_preRow]; exact lifted os started H enc F)
theorem plain (f : FuncId) (fn : Func) (hf : Tryd.pinned.checked.prog.funcNamed Rows.fnMixesRow.func = some f) (hfn : Tryd.pinned.checked.prog.funcs[f]? = some fn) :
    false = Tryd.pinned.checked.prog.looks [] ∧ ∀ (j : Nat) t, fn.params[j]? = some t → Tryd.pinned.checked.prog.wantsStandIn t = false := by
  obtain rfl : f = 3 := Option.some.inj ((show Tryd.prog.funcNamed Rows.fnMixesRow.func = some 3 by kernel_rfl).symm.trans hf) |>.symm
  obtain rfl : fn = Tryd.f3 := (Option.some.inj (Tryd.func3.symm.trans hfn)).symm
  refine ⟨by kernel_rfl, fun j t ht => ?_⟩
  rw [Tryd.params3] at ht
  have hm : t ∈ [22, 22] := by simpa using Array.mem_of_getElem? ht
  have hall : ([22, 22].all fun u => !Tryd.prog.wantsStandIn u) = true := by kernel_rfl
  exact (show Tryd.prog.wantsStandIn t = false by simpa using List.all_eq_true.1 hall t hm)
theorem card : Rows.FnMixesCardSaid :=
  Claim7.holds_tied_plain_at .later [] _ _ _ _ said (fun _ h => by cases h) (by kernel_rfl) (fun _ h => by cases h) fnMixes_row_tie rfl ⟨rfl, rfl⟩ (by kernel_rfl) rfl plain (by kernel_rfl)
end Go.Proofs.YtmnebdgoombfoaaDoor.fnMixes
namespace Go.Proofs.YtmnebdgoombfoaaDoor
theorem fnMixes_card_holds : Rows.FnMixesCardSaid := fnMixes.card
#print axioms fnMixes_card_holds
end Go.Proofs.YtmnebdgoombfoaaDoor
