/-
  STACK: StackKnown, walked (tools/gen_stkwalk.py).
-/
import Derived.Test.YtnfpfagojeieeaaStkAwake
import Derived.Test.YtnfpfagojeieeaaStkLeave
namespace Go.Proofs.Ytnfpfagojeieeaa.Stk
open Go.RowKit
set_option linter.unusedVariables false

set_option maxRecDepth 100000 in
set_option maxHeartbeats 4000000 in
theorem stackKnown_walk (w : World) : Calls Try.prog 6 #[] w fun e w' => e = .returned (.bool true) ∧ Below w.heap.size w w' := by
  have HB := hid (Below.refl w.heap.size w)
  go_enter Try.func6, Try.ntmps6
  have CC1 := hid (new_any 0 w)
  go_wp2_with fail
  refine CC1.out.mono ?_
  intro e1 v1 hm1
  obtain ⟨a1, c1, rfl, ho1, hst1, hb1⟩ := hm1.at (h := 0) (l := [⟨0, 0, 0, false⟩]) (n := 1) (er := 0) (by rfl) (by decide) (by omega)
  clear hm1 CC1
  replace HB := hid (HB.out.trans (hb1.mono HB.out.size))
  have HT1 := hid hst1
  clear ho1 hst1 hb1
  go_upto_region 2 with fail
  obtain ⟨u1, hu1⟩ : ∃ u, u = v1.alloc (.cells #[.int .i64 0, .slice a1 1 c1] 24) := ⟨_, rfl⟩
  rw [← hu1]
  have hA1 : Below v1.heap.size v1 u1 := by rw [hu1]; exact (Below.refl _ _).alloc (Nat.le_refl _) _
  have hx1 : Bx u1 v1.heap.size (.int .i64 0) (.slice a1 1 c1) := by rw [hu1]; exact Bx.made _ _ _
  have HS1 := hid (HT1.out.on hA1)
  replace HB := hid (HB.out.trans (hA1.mono HB.out.size))
  obtain ⟨g1, hg1⟩ : ∃ g, g = v1.heap.size := ⟨_, rfl⟩
  rw [← hg1] at hx1 ⊢
  have HX1 := hid hx1
  clear hg1 hx1 hA1 hu1 HT1
  have p1x := HX1.out.c0
  have p1y := HX1.out.c1
  have CC2 := hid (push_any 0 a1 1 c1 [⟨0, 0, 0, false⟩] 1 u1 HS1.out)
  go_wp2_with fail
  refine CC2.out.mono ?_
  intro e2 v2 hm2
  obtain ⟨a2, c2, rfl, ho2, hst2, hb2⟩ := hm2.at (h := 1) (l := [⟨0, 0, 0, false⟩]) (n := 1) (er := 0) (by rfl) (by decide) (by omega)
  clear p1x p1y
  clear hm2 CC2
  replace HX1 := hid (HX1.out.below hb2)
  replace HS1 := hid (HS1.out.on hb2)
  replace HB := hid (HB.out.trans (hb2.mono HB.out.size))
  have HT2 := hid hst2
  clear ho2 hst2 hb2
  go_upto_region 3 with fail
  obtain ⟨u2, hu2⟩ : ∃ u, u = v2.alloc (.cells #[.int .i64 1, .slice a2 1 c2] 24) := ⟨_, rfl⟩
  rw [← hu2]
  have hA2 : Below v2.heap.size v2 u2 := by rw [hu2]; exact (Below.refl _ _).alloc (Nat.le_refl _) _
  have hx2 : Bx u2 v2.heap.size (.int .i64 1) (.slice a2 1 c2) := by rw [hu2]; exact Bx.made _ _ _
  have HS3 := hid (HT2.out.on hA2)
  replace HX1 := hid (HX1.out.below hA2)
  replace HS1 := hid (HS1.out.on hA2)
  replace HB := hid (HB.out.trans (hA2.mono HB.out.size))
  obtain ⟨g3, hg3⟩ : ∃ g, g = v2.heap.size := ⟨_, rfl⟩
  rw [← hg3] at hx2 ⊢
  have HX3 := hid hx2
  clear hg3 hx2 hA2 hu2 HT2
  have p3x := HX3.out.c0
  have p3y := HX3.out.c1
  have CC3 := hid (enter_any 1 a2 1 c2 [⟨0, 0, 0, false⟩] 3 1 u2 HS3.out)
  go_wp2_with fail
  refine CC3.out.mono ?_
  intro e3 v3 hm3
  obtain ⟨a3, c3, rfl, ho3, hst3, hb3⟩ := hm3.at (h := 1) (l := [⟨0, 0, 0, false⟩, ⟨3, 1, 1, false⟩]) (n := 2) (er := 0) (by rfl) (by decide) (by omega)
  clear p3x p3y
  clear hm3 CC3
  replace HX1 := hid (HX1.out.below hb3)
  replace HS1 := hid (HS1.out.on hb3)
  replace HX3 := hid (HX3.out.below hb3)
  replace HS3 := hid (HS3.out.on hb3)
  replace HB := hid (HB.out.trans (hb3.mono HB.out.size))
  have HT3 := hid hst3
  clear ho3 hst3 hb3
  go_upto_region 4 with fail
  obtain ⟨u3, hu3⟩ : ∃ u, u = v3.alloc (.cells #[.int .i64 1, .slice a3 2 c3] 24) := ⟨_, rfl⟩
  rw [← hu3]
  have hA3 : Below v3.heap.size v3 u3 := by rw [hu3]; exact (Below.refl _ _).alloc (Nat.le_refl _) _
  have hx3 : Bx u3 v3.heap.size (.int .i64 1) (.slice a3 2 c3) := by rw [hu3]; exact Bx.made _ _ _
  have HS5 := hid (HT3.out.on hA3)
  replace HX1 := hid (HX1.out.below hA3)
  replace HS1 := hid (HS1.out.on hA3)
  replace HX3 := hid (HX3.out.below hA3)
  replace HS3 := hid (HS3.out.on hA3)
  replace HB := hid (HB.out.trans (hA3.mono HB.out.size))
  obtain ⟨g5, hg5⟩ : ∃ g, g = v3.heap.size := ⟨_, rfl⟩
  rw [← hg5] at hx3 ⊢
  have HX5 := hid hx3
  clear hg5 hx3 hA3 hu3 HT3
  have p5x := HX5.out.c0
  have p5y := HX5.out.c1
  have CC4 := hid (pop_any 1 a3 2 c3 [⟨0, 0, 0, false⟩, ⟨3, 1, 1, false⟩] 1 u3 HS5.out (by omega))
  go_wp2_with fail
  refine CC4.out.mono ?_
  intro e4 v4 hm4
  obtain ⟨a4, c4, rfl, ho4, hst4, hb4⟩ := hm4.at (h := 0) (l := []) (n := 0) (er := 200) (by rfl) (by decide) (by omega)
  clear p5x p5y
  clear hm4 CC4
  replace HX1 := hid (HX1.out.below hb4)
  replace HS1 := hid (HS1.out.on hb4)
  replace HX3 := hid (HX3.out.below hb4)
  replace HS3 := hid (HS3.out.on hb4)
  replace HX5 := hid (HX5.out.below hb4)
  replace HS5 := hid (HS5.out.on hb4)
  replace HB := hid (HB.out.trans (hb4.mono HB.out.size))
  have HT4 := hid hst4
  clear ho4 hst4 hb4
  go_upto_region 5 with fail
  obtain ⟨u4, hu4⟩ : ∃ u, u = v4.alloc (.cells #[.int .i64 0, .slice a4 0 c4] 24) := ⟨_, rfl⟩
  rw [← hu4]
  have hA4 : Below v4.heap.size v4 u4 := by rw [hu4]; exact (Below.refl _ _).alloc (Nat.le_refl _) _
  have hx4 : Bx u4 v4.heap.size (.int .i64 0) (.slice a4 0 c4) := by rw [hu4]; exact Bx.made _ _ _
  have HS7 := hid (HT4.out.on hA4)
  replace HX1 := hid (HX1.out.below hA4)
  replace HS1 := hid (HS1.out.on hA4)
  replace HX3 := hid (HX3.out.below hA4)
  replace HS3 := hid (HS3.out.on hA4)
  replace HX5 := hid (HX5.out.below hA4)
  replace HS5 := hid (HS5.out.on hA4)
  replace HB := hid (HB.out.trans (hA4.mono HB.out.size))
  obtain ⟨g7, hg7⟩ : ∃ g, g = v4.heap.size := ⟨_, rfl⟩
  rw [← hg7] at hx4 ⊢
  have HX7 := hid hx4
  clear hg7 hx4 hA4 hu4 HT4
  have p5x := HX5.out.c0
  have p5y := HX5.out.c1
  have CC5 := hid (label_any 1 a3 2 c3 [⟨0, 0, 0, false⟩, ⟨3, 1, 1, false⟩] 0 u4 HS5.out)
  rw [show labelR 1 [⟨0, 0, 0, false⟩, ⟨3, 1, 1, false⟩] 0 = (0, 0) from by rfl] at CC5
  go_wp2_with fail
  refine CC5.out.mono ?_
  rintro e5 v5 ⟨rfl, hb5⟩
  clear p5x p5y
  clear CC5
  replace HX1 := hid (HX1.out.below hb5)
  replace HS1 := hid (HS1.out.on hb5)
  replace HX3 := hid (HX3.out.below hb5)
  replace HS3 := hid (HS3.out.on hb5)
  replace HX5 := hid (HX5.out.below hb5)
  replace HS5 := hid (HS5.out.on hb5)
  replace HX7 := hid (HX7.out.below hb5)
  replace HS7 := hid (HS7.out.on hb5)
  replace HB := hid (HB.out.trans (hb5.mono HB.out.size))
  clear hb5
  have p5x := HX5.out.c0
  have p5y := HX5.out.c1
  have CC6 := hid (label_any 1 a3 2 c3 [⟨0, 0, 0, false⟩, ⟨3, 1, 1, false⟩] 1 v5 HS5.out)
  rw [show labelR 1 [⟨0, 0, 0, false⟩, ⟨3, 1, 1, false⟩] 1 = (0, 0) from by rfl] at CC6
  go_wp2_with fail
  refine CC6.out.mono ?_
  rintro e6 v6 ⟨rfl, hb6⟩
  clear p5x p5y
  clear CC6
  replace HX1 := hid (HX1.out.below hb6)
  replace HS1 := hid (HS1.out.on hb6)
  replace HX3 := hid (HX3.out.below hb6)
  replace HS3 := hid (HS3.out.on hb6)
  replace HX5 := hid (HX5.out.below hb6)
  replace HS5 := hid (HS5.out.on hb6)
  replace HX7 := hid (HX7.out.below hb6)
  replace HS7 := hid (HS7.out.on hb6)
  replace HB := hid (HB.out.trans (hb6.mono HB.out.size))
  clear hb6
  have p5x := HX5.out.c0
  have p5y := HX5.out.c1
  have CC7 := hid (label_any 1 a3 2 c3 [⟨0, 0, 0, false⟩, ⟨3, 1, 1, false⟩] 2 v6 HS5.out)
  rw [show labelR 1 [⟨0, 0, 0, false⟩, ⟨3, 1, 1, false⟩] 2 = (0, 6) from by rfl] at CC7
  go_wp2_with fail
  refine CC7.out.mono ?_
  rintro e7 v7 ⟨rfl, hb7⟩
  clear p5x p5y
  clear CC7
  replace HX1 := hid (HX1.out.below hb7)
  replace HS1 := hid (HS1.out.on hb7)
  replace HX3 := hid (HX3.out.below hb7)
  replace HS3 := hid (HS3.out.on hb7)
  replace HX5 := hid (HX5.out.below hb7)
  replace HS5 := hid (HS5.out.on hb7)
  replace HX7 := hid (HX7.out.below hb7)
  replace HS7 := hid (HS7.out.on hb7)
  replace HB := hid (HB.out.trans (hb7.mono HB.out.size))
  clear hb7
  clear HX3 HS3
  clear HX5 HS5
  clear HX7 HS7
  go_upto_region 9 with fail
  have p1x := HX1.out.c0
  have p1y := HX1.out.c1
  have CC8 := hid (enter_any 0 a1 1 c1 [⟨0, 0, 0, false⟩] 2 1 v7 HS1.out)
  go_wp2_with fail
  refine CC8.out.mono ?_
  intro e8 v8 hm8
  obtain ⟨a8, c8, rfl, ho8, hst8, hb8⟩ := hm8.at (h := 0) (l := [⟨0, 0, 0, false⟩, ⟨2, 0, 1, false⟩]) (n := 2) (er := 0) (by rfl) (by decide) (by omega)
  clear p1x p1y
  clear hm8 CC8
  replace HX1 := hid (HX1.out.below hb8)
  replace HS1 := hid (HS1.out.on hb8)
  replace HB := hid (HB.out.trans (hb8.mono HB.out.size))
  have HT8 := hid hst8
  clear ho8 hst8 hb8
  go_upto_region 10 with fail
  obtain ⟨u8, hu8⟩ : ∃ u, u = v8.alloc (.cells #[.int .i64 0, .slice a8 2 c8] 24) := ⟨_, rfl⟩
  rw [← hu8]
  have hA8 : Below v8.heap.size v8 u8 := by rw [hu8]; exact (Below.refl _ _).alloc (Nat.le_refl _) _
  have hx8 : Bx u8 v8.heap.size (.int .i64 0) (.slice a8 2 c8) := by rw [hu8]; exact Bx.made _ _ _
  have HS16 := hid (HT8.out.on hA8)
  replace HX1 := hid (HX1.out.below hA8)
  replace HS1 := hid (HS1.out.on hA8)
  replace HB := hid (HB.out.trans (hA8.mono HB.out.size))
  obtain ⟨g16, hg16⟩ : ∃ g, g = v8.heap.size := ⟨_, rfl⟩
  rw [← hg16] at hx8 ⊢
  have HX16 := hid hx8
  clear hg16 hx8 hA8 hu8 HT8
  have p16x := HX16.out.c0
  have p16y := HX16.out.c1
  have CC9 := hid (dead_any 0 a8 2 c8 [⟨0, 0, 0, false⟩, ⟨2, 0, 1, false⟩] u8 HS16.out)
  go_wp2_with fail
  refine CC9.out.mono ?_
  intro e9 v9 hm9
  obtain ⟨a9, c9, rfl, ho9, hst9, hb9⟩ := hm9.at (h := 0) (l := [⟨0, 0, 0, false⟩, ⟨2, 0, 1, true⟩]) (n := 2) (er := 0) (by rfl) (by decide) (by omega)
  clear p16x p16y
  clear hm9 CC9
  replace HX1 := hid (HX1.out.below hb9)
  replace HS1 := hid (HS1.out.on hb9)
  replace HX16 := hid (HX16.out.below hb9)
  replace HS16 := hid (HS16.out.on hb9)
  replace HB := hid (HB.out.trans (hb9.mono HB.out.size))
  have HT9 := hid hst9
  clear ho9 hst9 hb9
  go_upto_region 11 with fail
  obtain ⟨u9, hu9⟩ : ∃ u, u = v9.alloc (.cells #[.int .i64 0, .slice a9 2 c9] 24) := ⟨_, rfl⟩
  rw [← hu9]
  have hA9 : Below v9.heap.size v9 u9 := by rw [hu9]; exact (Below.refl _ _).alloc (Nat.le_refl _) _
  have hx9 : Bx u9 v9.heap.size (.int .i64 0) (.slice a9 2 c9) := by rw [hu9]; exact Bx.made _ _ _
  have HS18 := hid (HT9.out.on hA9)
  replace HX1 := hid (HX1.out.below hA9)
  replace HS1 := hid (HS1.out.on hA9)
  replace HX16 := hid (HX16.out.below hA9)
  replace HS16 := hid (HS16.out.on hA9)
  replace HB := hid (HB.out.trans (hA9.mono HB.out.size))
  obtain ⟨g18, hg18⟩ : ∃ g, g = v9.heap.size := ⟨_, rfl⟩
  rw [← hg18] at hx9 ⊢
  have HX18 := hid hx9
  clear hg18 hx9 hA9 hu9 HT9
  have p18x := HX18.out.c0
  have p18y := HX18.out.c1
  have CC10 := hid (pop_any 0 a9 2 c9 [⟨0, 0, 0, false⟩, ⟨2, 0, 1, true⟩] 3 u9 HS18.out (by omega))
  go_wp2_with fail
  refine CC10.out.mono ?_
  intro e10 v10 hm10
  obtain ⟨a10, c10, rfl, ho10, hst10, hb10⟩ := hm10.at (h := 0) (l := [⟨0, 0, 0, false⟩, ⟨2, 0, 1, true⟩]) (n := 2) (er := 0) (by rfl) (by decide) (by omega)
  clear p18x p18y
  clear hm10 CC10
  replace HX1 := hid (HX1.out.below hb10)
  replace HS1 := hid (HS1.out.on hb10)
  replace HX16 := hid (HX16.out.below hb10)
  replace HS16 := hid (HS16.out.on hb10)
  replace HX18 := hid (HX18.out.below hb10)
  replace HS18 := hid (HS18.out.on hb10)
  replace HB := hid (HB.out.trans (hb10.mono HB.out.size))
  have HT10 := hid hst10
  clear ho10 hst10 hb10
  go_upto_region 12 with fail
  obtain ⟨u10, hu10⟩ : ∃ u, u = v10.alloc (.cells #[.int .i64 0, .slice a10 2 c10] 24) := ⟨_, rfl⟩
  rw [← hu10]
  have hA10 : Below v10.heap.size v10 u10 := by rw [hu10]; exact (Below.refl _ _).alloc (Nat.le_refl _) _
  have hx10 : Bx u10 v10.heap.size (.int .i64 0) (.slice a10 2 c10) := by rw [hu10]; exact Bx.made _ _ _
  have HS20 := hid (HT10.out.on hA10)
  replace HX1 := hid (HX1.out.below hA10)
  replace HS1 := hid (HS1.out.on hA10)
  replace HX16 := hid (HX16.out.below hA10)
  replace HS16 := hid (HS16.out.on hA10)
  replace HX18 := hid (HX18.out.below hA10)
  replace HS18 := hid (HS18.out.on hA10)
  replace HB := hid (HB.out.trans (hA10.mono HB.out.size))
  obtain ⟨g20, hg20⟩ : ∃ g, g = v10.heap.size := ⟨_, rfl⟩
  rw [← hg20] at hx10 ⊢
  have HX20 := hid hx10
  clear hg20 hx10 hA10 hu10 HT10
  have p20x := HX20.out.c0
  have p20y := HX20.out.c1
  have CC11 := hid (leave_any 0 a10 2 c10 [⟨0, 0, 0, false⟩, ⟨2, 0, 1, true⟩] u10 HS20.out)
  go_wp2_with fail
  refine CC11.out.mono ?_
  intro e11 v11 hm11
  obtain ⟨a11, c11, rfl, ho11, hst11, hb11⟩ := hm11.at (h := 1) (l := [⟨0, 0, 0, false⟩]) (n := 1) (er := 0) (by rfl) (by decide) (by omega)
  clear p20x p20y
  clear hm11 CC11
  replace HX1 := hid (HX1.out.below hb11)
  replace HS1 := hid (HS1.out.on hb11)
  replace HX16 := hid (HX16.out.below hb11)
  replace HS16 := hid (HS16.out.on hb11)
  replace HX18 := hid (HX18.out.below hb11)
  replace HS18 := hid (HS18.out.on hb11)
  replace HX20 := hid (HX20.out.below hb11)
  replace HS20 := hid (HS20.out.on hb11)
  replace HB := hid (HB.out.trans (hb11.mono HB.out.size))
  have HT11 := hid hst11
  clear ho11 hst11 hb11
  go_upto_region 13 with fail
  obtain ⟨u11, hu11⟩ : ∃ u, u = v11.alloc (.cells #[.int .i64 1, .slice a11 1 c11] 24) := ⟨_, rfl⟩
  rw [← hu11]
  have hA11 : Below v11.heap.size v11 u11 := by rw [hu11]; exact (Below.refl _ _).alloc (Nat.le_refl _) _
  have hx11 : Bx u11 v11.heap.size (.int .i64 1) (.slice a11 1 c11) := by rw [hu11]; exact Bx.made _ _ _
  have HS22 := hid (HT11.out.on hA11)
  replace HX1 := hid (HX1.out.below hA11)
  replace HS1 := hid (HS1.out.on hA11)
  replace HX16 := hid (HX16.out.below hA11)
  replace HS16 := hid (HS16.out.on hA11)
  replace HX18 := hid (HX18.out.below hA11)
  replace HS18 := hid (HS18.out.on hA11)
  replace HX20 := hid (HX20.out.below hA11)
  replace HS20 := hid (HS20.out.on hA11)
  replace HB := hid (HB.out.trans (hA11.mono HB.out.size))
  obtain ⟨g22, hg22⟩ : ∃ g, g = v11.heap.size := ⟨_, rfl⟩
  rw [← hg22] at hx11 ⊢
  have HX22 := hid hx11
  clear hg22 hx11 hA11 hu11 HT11
  clear HX1 HS1
  clear HX16 HS16
  clear HX18 HS18
  clear HX20 HS20
  have CC12 := hid (new_any 1 u11)
  go_wp2_with fail
  refine CC12.out.mono ?_
  intro e12 v12 hm12
  obtain ⟨a12, c12, rfl, ho12, hst12, hb12⟩ := hm12.at (h := 0) (l := [⟨0, 0, 1, false⟩]) (n := 1) (er := 0) (by rfl) (by decide) (by omega)
  clear hm12 CC12
  replace HX22 := hid (HX22.out.below hb12)
  replace HS22 := hid (HS22.out.on hb12)
  replace HB := hid (HB.out.trans (hb12.mono HB.out.size))
  have HT12 := hid hst12
  clear ho12 hst12 hb12
  go_upto_region 14 with fail
  obtain ⟨u12, hu12⟩ : ∃ u, u = v12.alloc (.cells #[.int .i64 0, .slice a12 1 c12] 24) := ⟨_, rfl⟩
  rw [← hu12]
  have hA12 : Below v12.heap.size v12 u12 := by rw [hu12]; exact (Below.refl _ _).alloc (Nat.le_refl _) _
  have hx12 : Bx u12 v12.heap.size (.int .i64 0) (.slice a12 1 c12) := by rw [hu12]; exact Bx.made _ _ _
  have HS24 := hid (HT12.out.on hA12)
  replace HX22 := hid (HX22.out.below hA12)
  replace HS22 := hid (HS22.out.on hA12)
  replace HB := hid (HB.out.trans (hA12.mono HB.out.size))
  obtain ⟨g24, hg24⟩ : ∃ g, g = v12.heap.size := ⟨_, rfl⟩
  rw [← hg24] at hx12 ⊢
  have HX24 := hid hx12
  clear hg24 hx12 hA12 hu12 HT12
  have p24x := HX24.out.c0
  have p24y := HX24.out.c1
  have CC13 := hid (push_any 0 a12 1 c12 [⟨0, 0, 1, false⟩] 2 u12 HS24.out)
  go_wp2_with fail
  refine CC13.out.mono ?_
  intro e13 v13 hm13
  obtain ⟨a13, c13, rfl, ho13, hst13, hb13⟩ := hm13.at (h := 2) (l := [⟨0, 0, 1, false⟩]) (n := 1) (er := 0) (by rfl) (by decide) (by omega)
  clear p24x p24y
  clear hm13 CC13
  replace HX22 := hid (HX22.out.below hb13)
  replace HS22 := hid (HS22.out.on hb13)
  replace HX24 := hid (HX24.out.below hb13)
  replace HS24 := hid (HS24.out.on hb13)
  replace HB := hid (HB.out.trans (hb13.mono HB.out.size))
  have HT13 := hid hst13
  clear ho13 hst13 hb13
  go_upto_region 15 with fail
  obtain ⟨u13, hu13⟩ : ∃ u, u = v13.alloc (.cells #[.int .i64 2, .slice a13 1 c13] 24) := ⟨_, rfl⟩
  rw [← hu13]
  have hA13 : Below v13.heap.size v13 u13 := by rw [hu13]; exact (Below.refl _ _).alloc (Nat.le_refl _) _
  have hx13 : Bx u13 v13.heap.size (.int .i64 2) (.slice a13 1 c13) := by rw [hu13]; exact Bx.made _ _ _
  have HS26 := hid (HT13.out.on hA13)
  replace HX22 := hid (HX22.out.below hA13)
  replace HS22 := hid (HS22.out.on hA13)
  replace HX24 := hid (HX24.out.below hA13)
  replace HS24 := hid (HS24.out.on hA13)
  replace HB := hid (HB.out.trans (hA13.mono HB.out.size))
  obtain ⟨g26, hg26⟩ : ∃ g, g = v13.heap.size := ⟨_, rfl⟩
  rw [← hg26] at hx13 ⊢
  have HX26 := hid hx13
  clear hg26 hx13 hA13 hu13 HT13
  have p26x := HX26.out.c0
  have p26y := HX26.out.c1
  have CC14 := hid (leave_any 2 a13 1 c13 [⟨0, 0, 1, false⟩] u13 HS26.out)
  go_wp2_with fail
  refine CC14.out.mono ?_
  intro e14 v14 hm14
  obtain ⟨a14, c14, rfl, ho14, hst14, hb14⟩ := hm14.at (h := 0) (l := []) (n := 0) (er := 201) (by rfl) (by decide) (by omega)
  clear p26x p26y
  clear hm14 CC14
  replace HX22 := hid (HX22.out.below hb14)
  replace HS22 := hid (HS22.out.on hb14)
  replace HX24 := hid (HX24.out.below hb14)
  replace HS24 := hid (HS24.out.on hb14)
  replace HX26 := hid (HX26.out.below hb14)
  replace HS26 := hid (HS26.out.on hb14)
  replace HB := hid (HB.out.trans (hb14.mono HB.out.size))
  have HT14 := hid hst14
  clear ho14 hst14 hb14
  go_upto_region 16 with fail
  obtain ⟨u14, hu14⟩ : ∃ u, u = v14.alloc (.cells #[.int .i64 0, .slice a14 0 c14] 24) := ⟨_, rfl⟩
  rw [← hu14]
  have hA14 : Below v14.heap.size v14 u14 := by rw [hu14]; exact (Below.refl _ _).alloc (Nat.le_refl _) _
  have hx14 : Bx u14 v14.heap.size (.int .i64 0) (.slice a14 0 c14) := by rw [hu14]; exact Bx.made _ _ _
  have HS28 := hid (HT14.out.on hA14)
  replace HX22 := hid (HX22.out.below hA14)
  replace HS22 := hid (HS22.out.on hA14)
  replace HX24 := hid (HX24.out.below hA14)
  replace HS24 := hid (HS24.out.on hA14)
  replace HX26 := hid (HX26.out.below hA14)
  replace HS26 := hid (HS26.out.on hA14)
  replace HB := hid (HB.out.trans (hA14.mono HB.out.size))
  obtain ⟨g28, hg28⟩ : ∃ g, g = v14.heap.size := ⟨_, rfl⟩
  rw [← hg28] at hx14 ⊢
  have HX28 := hid hx14
  clear hg28 hx14 hA14 hu14 HT14
  have p24x := HX24.out.c0
  have p24y := HX24.out.c1
  have CC15 := hid (leave_any 0 a12 1 c12 [⟨0, 0, 1, false⟩] u14 HS24.out)
  go_wp2_with fail
  refine CC15.out.mono ?_
  intro e15 v15 hm15
  obtain ⟨a15, c15, rfl, ho15, hst15, hb15⟩ := hm15.at (h := 0) (l := []) (n := 0) (er := 200) (by rfl) (by decide) (by omega)
  clear p24x p24y
  clear hm15 CC15
  replace HX22 := hid (HX22.out.below hb15)
  replace HS22 := hid (HS22.out.on hb15)
  replace HX24 := hid (HX24.out.below hb15)
  replace HS24 := hid (HS24.out.on hb15)
  replace HX26 := hid (HX26.out.below hb15)
  replace HS26 := hid (HS26.out.on hb15)
  replace HX28 := hid (HX28.out.below hb15)
  replace HS28 := hid (HS28.out.on hb15)
  replace HB := hid (HB.out.trans (hb15.mono HB.out.size))
  have HT15 := hid hst15
  clear ho15 hst15 hb15
  go_upto_region 17 with fail
  obtain ⟨u15, hu15⟩ : ∃ u, u = v15.alloc (.cells #[.int .i64 0, .slice a15 0 c15] 24) := ⟨_, rfl⟩
  rw [← hu15]
  have hA15 : Below v15.heap.size v15 u15 := by rw [hu15]; exact (Below.refl _ _).alloc (Nat.le_refl _) _
  have hx15 : Bx u15 v15.heap.size (.int .i64 0) (.slice a15 0 c15) := by rw [hu15]; exact Bx.made _ _ _
  have HS30 := hid (HT15.out.on hA15)
  replace HX22 := hid (HX22.out.below hA15)
  replace HS22 := hid (HS22.out.on hA15)
  replace HX24 := hid (HX24.out.below hA15)
  replace HS24 := hid (HS24.out.on hA15)
  replace HX26 := hid (HX26.out.below hA15)
  replace HS26 := hid (HS26.out.on hA15)
  replace HX28 := hid (HX28.out.below hA15)
  replace HS28 := hid (HS28.out.on hA15)
  replace HB := hid (HB.out.trans (hA15.mono HB.out.size))
  obtain ⟨g30, hg30⟩ : ∃ g, g = v15.heap.size := ⟨_, rfl⟩
  rw [← hg30] at hx15 ⊢
  have HX30 := hid hx15
  clear hg30 hx15 hA15 hu15 HT15
  have p24x := HX24.out.c0
  have p24y := HX24.out.c1
  have CC16 := hid (push_any 0 a12 1 c12 [⟨0, 0, 1, false⟩] 1 u15 HS24.out)
  go_wp2_with fail
  refine CC16.out.mono ?_
  intro e16 v16 hm16
  obtain ⟨a16, c16, rfl, ho16, hst16, hb16⟩ := hm16.at (h := 1) (l := [⟨0, 0, 1, false⟩]) (n := 1) (er := 0) (by rfl) (by decide) (by omega)
  clear p24x p24y
  clear hm16 CC16
  replace HX22 := hid (HX22.out.below hb16)
  replace HS22 := hid (HS22.out.on hb16)
  replace HX24 := hid (HX24.out.below hb16)
  replace HS24 := hid (HS24.out.on hb16)
  replace HX26 := hid (HX26.out.below hb16)
  replace HS26 := hid (HS26.out.on hb16)
  replace HX28 := hid (HX28.out.below hb16)
  replace HS28 := hid (HS28.out.on hb16)
  replace HX30 := hid (HX30.out.below hb16)
  replace HS30 := hid (HS30.out.on hb16)
  replace HB := hid (HB.out.trans (hb16.mono HB.out.size))
  have HT16 := hid hst16
  clear ho16 hst16 hb16
  go_upto_region 18 with fail
  obtain ⟨u16, hu16⟩ : ∃ u, u = v16.alloc (.cells #[.int .i64 1, .slice a16 1 c16] 24) := ⟨_, rfl⟩
  rw [← hu16]
  have hA16 : Below v16.heap.size v16 u16 := by rw [hu16]; exact (Below.refl _ _).alloc (Nat.le_refl _) _
  have hx16 : Bx u16 v16.heap.size (.int .i64 1) (.slice a16 1 c16) := by rw [hu16]; exact Bx.made _ _ _
  have HS32 := hid (HT16.out.on hA16)
  replace HX22 := hid (HX22.out.below hA16)
  replace HS22 := hid (HS22.out.on hA16)
  replace HX24 := hid (HX24.out.below hA16)
  replace HS24 := hid (HS24.out.on hA16)
  replace HX26 := hid (HX26.out.below hA16)
  replace HS26 := hid (HS26.out.on hA16)
  replace HX28 := hid (HX28.out.below hA16)
  replace HS28 := hid (HS28.out.on hA16)
  replace HX30 := hid (HX30.out.below hA16)
  replace HS30 := hid (HS30.out.on hA16)
  replace HB := hid (HB.out.trans (hA16.mono HB.out.size))
  obtain ⟨g32, hg32⟩ : ∃ g, g = v16.heap.size := ⟨_, rfl⟩
  rw [← hg32] at hx16 ⊢
  have HX32 := hid hx16
  clear hg32 hx16 hA16 hu16 HT16
  have p32x := HX32.out.c0
  have p32y := HX32.out.c1
  have CC17 := hid (leave_any 1 a16 1 c16 [⟨0, 0, 1, false⟩] u16 HS32.out)
  go_wp2_with fail
  refine CC17.out.mono ?_
  intro e17 v17 hm17
  obtain ⟨a17, c17, rfl, ho17, hst17, hb17⟩ := hm17.at (h := 1) (l := []) (n := 0) (er := 0) (by rfl) (by decide) (by omega)
  clear p32x p32y
  clear hm17 CC17
  replace HX22 := hid (HX22.out.below hb17)
  replace HS22 := hid (HS22.out.on hb17)
  replace HX24 := hid (HX24.out.below hb17)
  replace HS24 := hid (HS24.out.on hb17)
  replace HX26 := hid (HX26.out.below hb17)
  replace HS26 := hid (HS26.out.on hb17)
  replace HX28 := hid (HX28.out.below hb17)
  replace HS28 := hid (HS28.out.on hb17)
  replace HX30 := hid (HX30.out.below hb17)
  replace HS30 := hid (HS30.out.on hb17)
  replace HX32 := hid (HX32.out.below hb17)
  replace HS32 := hid (HS32.out.on hb17)
  replace HB := hid (HB.out.trans (hb17.mono HB.out.size))
  have HT17 := hid hst17
  clear ho17 hst17 hb17
  go_upto_region 19 with fail
  obtain ⟨u17, hu17⟩ : ∃ u, u = v17.alloc (.cells #[.int .i64 1, .slice a17 0 c17] 24) := ⟨_, rfl⟩
  rw [← hu17]
  have hA17 : Below v17.heap.size v17 u17 := by rw [hu17]; exact (Below.refl _ _).alloc (Nat.le_refl _) _
  have hx17 : Bx u17 v17.heap.size (.int .i64 1) (.slice a17 0 c17) := by rw [hu17]; exact Bx.made _ _ _
  have HS34 := hid (HT17.out.on hA17)
  replace HX22 := hid (HX22.out.below hA17)
  replace HS22 := hid (HS22.out.on hA17)
  replace HX24 := hid (HX24.out.below hA17)
  replace HS24 := hid (HS24.out.on hA17)
  replace HX26 := hid (HX26.out.below hA17)
  replace HS26 := hid (HS26.out.on hA17)
  replace HX28 := hid (HX28.out.below hA17)
  replace HS28 := hid (HS28.out.on hA17)
  replace HX30 := hid (HX30.out.below hA17)
  replace HS30 := hid (HS30.out.on hA17)
  replace HX32 := hid (HX32.out.below hA17)
  replace HS32 := hid (HS32.out.on hA17)
  replace HB := hid (HB.out.trans (hA17.mono HB.out.size))
  obtain ⟨g34, hg34⟩ : ∃ g, g = v17.heap.size := ⟨_, rfl⟩
  rw [← hg34] at hx17 ⊢
  have HX34 := hid hx17
  clear hg34 hx17 hA17 hu17 HT17
  have p22x := HX22.out.c0
  have p22y := HX22.out.c1
  have p34x := HX34.out.c0
  have p34y := HX34.out.c1
  have CA := hid (awake_any u17)
  go_wp2_with fail
  refine CA.out.mono ?_
  rintro e v ⟨rfl, hb⟩
  replace HB := hid (HB.out.trans (hb.mono HB.out.size))
  clear hb
  go_wp2
  go_ret
  exact ⟨rfl, HB.out⟩
end Go.Proofs.Ytnfpfagojeieeaa.Stk
