/-
  STACK: StackBack, walked (tools/gen_stkwalk.py).
-/
import Derived.Test.YtnfpfagojeieeaaStkAwake
import Derived.Test.YtnfpfagojeieeaaStkMore
namespace Go.Proofs.Ytnfpfagojeieeaa.Stk
open Go.RowKit
set_option linter.unusedVariables false

set_option maxRecDepth 100000 in
set_option maxHeartbeats 4000000 in
theorem stackBack_walk (w : World) (h : Int) (a : Option Addr) (c : Nat) (l : List Fr) (hs : StAt w.heap.size w a l.length c l) (hh : -9223372036854775808 ≤ h ∧ h ≤ 9223372036854775807) (k : Int) (hk : -9223372036854775808 ≤ k ∧ k ≤ 9223372036854775807) :
    Calls Try.prog 4 #[.agg #[.int .i64 h, .slice a l.length c], .int .i64 k] w fun e w' => e = .returned (.bool true) ∧ Below w.heap.size w w' := by
  obtain ⟨n, hn⟩ : ∃ n, l.length = n := ⟨_, rfl⟩
  rw [hn] at hs ⊢
  obtain ⟨W0, hW0⟩ : ∃ W0, W0 = w.alloc (.cells #[.int .i64 h, .slice a n c] 24) := ⟨_, rfl⟩
  have hx0 : Bx W0 w.heap.size (.int .i64 h) (.slice a n c) := by rw [hW0]; exact Bx.made w _ _
  have hb0 : Below w.heap.size w W0 := by rw [hW0]; exact (Below.refl _ _).alloc (Nat.le_refl _) _
  have HS2 := hid (hs.on hb0)
  have HB := hid hb0
  have HW := hid hW0
  obtain ⟨g2, hg2⟩ : ∃ g, g = w.heap.size := ⟨_, rfl⟩
  rw [← hg2] at hx0
  have HX2 := hid hx0
  have HG := hid hg2
  have HLN := hid hn
  have hfit := hs.fit
  clear hx0 hb0 hW0 hs hg2 hn
  cases hv : valid h l with
  | false =>
    have hc : chk h l = 2 := by simp [chk, hv]
    go_enter Try.func4, Try.ntmps4
    go_upto_region 1 with fail
    rw [← HW.out, ← HG.out]
    clear HW HG
    have CC1 := hid (awake_any W0)
    go_wp2_with fail
    refine CC1.out.mono ?_
    rintro e1 v1 ⟨rfl, hb1⟩
    clear CC1
    replace HX2 := hid (HX2.out.below hb1)
    replace HS2 := hid (HS2.out.on hb1)
    replace HB := hid (HB.out.trans (hb1.mono HB.out.size))
    clear hb1
    have p2x := HX2.out.c0
    have p2y := HX2.out.c1
    have CC2 := hid (check_any h a n c l v1 HS2.out)
    rw [show chk h l = 2 from hc] at CC2
    go_wp2_with fail
    refine CC2.out.mono ?_
    rintro e2 v2 ⟨rfl, hb2⟩
    clear p2x p2y
    clear CC2
    replace HX2 := hid (HX2.out.below hb2)
    replace HS2 := hid (HS2.out.on hb2)
    replace HB := hid (HB.out.trans (hb2.mono HB.out.size))
    clear hb2
    go_wp2
    go_ret
    exact ⟨rfl, HB.out⟩
  | true =>
  have hc : chk h l = 0 := by simp [chk, hv]
  by_cases g1 : k < 0
  · go_enter Try.func4, Try.ntmps4
    go_upto_region 1 with fail
    rw [← HW.out, ← HG.out]
    clear HW HG
    have CC1 := hid (awake_any W0)
    go_wp2_with fail
    refine CC1.out.mono ?_
    rintro e1 v1 ⟨rfl, hb1⟩
    clear CC1
    replace HX2 := hid (HX2.out.below hb1)
    replace HS2 := hid (HS2.out.on hb1)
    replace HB := hid (HB.out.trans (hb1.mono HB.out.size))
    clear hb1
    have p2x := HX2.out.c0
    have p2y := HX2.out.c1
    have CC2 := hid (check_any h a n c l v1 HS2.out)
    rw [show chk h l = 0 from hc] at CC2
    go_wp2_with fail
    refine CC2.out.mono ?_
    rintro e2 v2 ⟨rfl, hb2⟩
    clear p2x p2y
    clear CC2
    replace HX2 := hid (HX2.out.below hb2)
    replace HS2 := hid (HS2.out.on hb2)
    replace HB := hid (HB.out.trans (hb2.mono HB.out.size))
    clear hb2
    go_wp2
    go_ret
    exact ⟨rfl, HB.out⟩
  by_cases g2 : 1000 < k
  · go_enter Try.func4, Try.ntmps4
    go_upto_region 1 with fail
    rw [← HW.out, ← HG.out]
    clear HW HG
    have CC1 := hid (awake_any W0)
    go_wp2_with fail
    refine CC1.out.mono ?_
    rintro e1 v1 ⟨rfl, hb1⟩
    clear CC1
    replace HX2 := hid (HX2.out.below hb1)
    replace HS2 := hid (HS2.out.on hb1)
    replace HB := hid (HB.out.trans (hb1.mono HB.out.size))
    clear hb1
    have p2x := HX2.out.c0
    have p2y := HX2.out.c1
    have CC2 := hid (check_any h a n c l v1 HS2.out)
    rw [show chk h l = 0 from hc] at CC2
    go_wp2_with fail
    refine CC2.out.mono ?_
    rintro e2 v2 ⟨rfl, hb2⟩
    clear p2x p2y
    clear CC2
    replace HX2 := hid (HX2.out.below hb2)
    replace HS2 := hid (HS2.out.on hb2)
    replace HB := hid (HB.out.trans (hb2.mono HB.out.size))
    clear hb2
    go_wp2
    go_ret
    exact ⟨rfl, HB.out⟩
  obtain ⟨hh0, hh1, -, hle⟩ := valid_yes hv
  have hle2 : n ≤ 1000 := by rw [← HLN.out]; exact hle
  have HV := hid hv
  clear hv hle
  by_cases g3 : 1073741824 - h < k
  · go_enter Try.func4, Try.ntmps4
    go_upto_region 1 with fail
    rw [← HW.out, ← HG.out]
    clear HW HG
    have CC1 := hid (awake_any W0)
    go_wp2_with fail
    refine CC1.out.mono ?_
    rintro e1 v1 ⟨rfl, hb1⟩
    clear CC1
    replace HX2 := hid (HX2.out.below hb1)
    replace HS2 := hid (HS2.out.on hb1)
    replace HB := hid (HB.out.trans (hb1.mono HB.out.size))
    clear hb1
    have p2x := HX2.out.c0
    have p2y := HX2.out.c1
    have CC2 := hid (check_any h a n c l v1 HS2.out)
    rw [show chk h l = 0 from hc] at CC2
    go_wp2_with fail
    refine CC2.out.mono ?_
    rintro e2 v2 ⟨rfl, hb2⟩
    clear p2x p2y
    clear CC2
    replace HX2 := hid (HX2.out.below hb2)
    replace HS2 := hid (HS2.out.on hb2)
    replace HB := hid (HB.out.trans (hb2.mono HB.out.size))
    clear hb2
    have p2x := HX2.out.c0
    have p2y := HX2.out.c1
    have CC3 := hid (push_any h a n c l k v2 HS2.out)
    go_wp2_with fail
    refine CC3.out.mono ?_
    intro e3 v3 hm3
    obtain ⟨a3, c3, rfl, ho3, hst3, hb3⟩ := hm3.at (h := 0) (l := []) (n := 0) (er := 8) (by simp [pushR, HV.out, g1, g3, bad]) (rfl) (by omega)
    clear p2x p2y
    clear hm3 CC3
    replace HX2 := hid (HX2.out.below hb3)
    replace HS2 := hid (HS2.out.on hb3)
    replace HB := hid (HB.out.trans (hb3.mono HB.out.size))
    have HT3 := hid hst3
    clear ho3 hst3 hb3
    go_upto_region 5 with fail
    obtain ⟨u3, hu3⟩ : ∃ u, u = v3.alloc (.cells #[.int .i64 0, .slice a3 0 c3] 24) := ⟨_, rfl⟩
    rw [← hu3]
    have hA3 : Below v3.heap.size v3 u3 := by rw [hu3]; exact (Below.refl _ _).alloc (Nat.le_refl _) _
    have hx3 : Bx u3 v3.heap.size (.int .i64 0) (.slice a3 0 c3) := by rw [hu3]; exact Bx.made _ _ _
    have HS6 := hid (HT3.out.on hA3)
    replace HX2 := hid (HX2.out.below hA3)
    replace HS2 := hid (HS2.out.on hA3)
    replace HB := hid (HB.out.trans (hA3.mono HB.out.size))
    obtain ⟨g6, hg6⟩ : ∃ g, g = v3.heap.size := ⟨_, rfl⟩
    rw [← hg6] at hx3 ⊢
    have HX6 := hid hx3
    clear hg6 hx3 hA3 hu3 HT3
    clear HV
    go_wp2
    go_ret
    exact ⟨rfl, HB.out⟩
  obtain ⟨x, y, hw⟩ : ∃ x y, without h k (lastF l) = (x, y) := ⟨_, _, rfl⟩
  have HPU : Hid (pushR h l k = ⟨h + k, l, 0⟩) := hid (by simp [pushR, HV.out, g1, g3])
  have HPO : Hid (popR (h + k) l k = ⟨h, l, 0⟩) := hid (pop_push HV.out (by omega) (by omega))
  have HPP : Hid (popR h l k = if y = 0 then ⟨x, l, 0⟩ else bad y) := hid (by rw [popR, HV.out, hw, if_neg (by simp), if_neg g1])
  by_cases hy : y = 0
  rotate_left
  · have HPY : Hid (popR h l k = ⟨0, [], y⟩) := hid (by rw [HPP.out, if_neg hy]; rfl)
    clear HPP hw HV
    go_enter Try.func4, Try.ntmps4
    go_upto_region 1 with fail
    rw [← HW.out, ← HG.out]
    clear HW HG
    have CC1 := hid (awake_any W0)
    go_wp2_with fail
    refine CC1.out.mono ?_
    rintro e1 v1 ⟨rfl, hb1⟩
    clear CC1
    replace HX2 := hid (HX2.out.below hb1)
    replace HS2 := hid (HS2.out.on hb1)
    replace HB := hid (HB.out.trans (hb1.mono HB.out.size))
    clear hb1
    have p2x := HX2.out.c0
    have p2y := HX2.out.c1
    have CC2 := hid (check_any h a n c l v1 HS2.out)
    rw [show chk h l = 0 from hc] at CC2
    go_wp2_with fail
    refine CC2.out.mono ?_
    rintro e2 v2 ⟨rfl, hb2⟩
    clear p2x p2y
    clear CC2
    replace HX2 := hid (HX2.out.below hb2)
    replace HS2 := hid (HS2.out.on hb2)
    replace HB := hid (HB.out.trans (hb2.mono HB.out.size))
    clear hb2
    have p2x := HX2.out.c0
    have p2y := HX2.out.c1
    have CC3 := hid (push_any h a n c l k v2 HS2.out)
    go_wp2_with fail
    refine CC3.out.mono ?_
    intro e3 v3 hm3
    obtain ⟨a3, c3, rfl, ho3, hst3, hb3⟩ := hm3.at (h := (h + k)) (l := l) (n := n) (er := 0) (HPU.out) (HLN.out) (by omega)
    clear p2x p2y
    clear hm3 CC3
    replace HX2 := hid (HX2.out.below hb3)
    replace HS2 := hid (HS2.out.on hb3)
    replace HB := hid (HB.out.trans (hb3.mono HB.out.size))
    have HT3 := hid hst3
    clear ho3 hst3 hb3
    go_upto_region 5 with fail
    obtain ⟨u3, hu3⟩ : ∃ u, u = v3.alloc (.cells #[.int .i64 (h + k), .slice a3 n c3] 24) := ⟨_, rfl⟩
    rw [← hu3]
    have hA3 : Below v3.heap.size v3 u3 := by rw [hu3]; exact (Below.refl _ _).alloc (Nat.le_refl _) _
    have hx3 : Bx u3 v3.heap.size (.int .i64 (h + k)) (.slice a3 n c3) := by rw [hu3]; exact Bx.made _ _ _
    have HS6 := hid (HT3.out.on hA3)
    replace HX2 := hid (HX2.out.below hA3)
    replace HS2 := hid (HS2.out.on hA3)
    replace HB := hid (HB.out.trans (hA3.mono HB.out.size))
    obtain ⟨g6, hg6⟩ : ∃ g, g = v3.heap.size := ⟨_, rfl⟩
    rw [← hg6] at hx3 ⊢
    have HX6 := hid hx3
    clear hg6 hx3 hA3 hu3 HT3
    have p6x := HX6.out.c0
    have p6y := HX6.out.c1
    have CC4 := hid (pop_any (h + k) a3 n c3 l k u3 HS6.out hk.2)
    go_wp2_with fail
    refine CC4.out.mono ?_
    intro e4 v4 hm4
    obtain ⟨a4, c4, rfl, ho4, hst4, hb4⟩ := hm4.at (h := h) (l := l) (n := n) (er := 0) (HPO.out) (HLN.out) (by omega)
    clear p6x p6y
    clear hm4 CC4
    replace HX2 := hid (HX2.out.below hb4)
    replace HS2 := hid (HS2.out.on hb4)
    replace HX6 := hid (HX6.out.below hb4)
    replace HS6 := hid (HS6.out.on hb4)
    replace HB := hid (HB.out.trans (hb4.mono HB.out.size))
    have HT4 := hid hst4
    clear ho4 hst4 hb4
    go_upto_region 8 with fail
    obtain ⟨u4, hu4⟩ : ∃ u, u = v4.alloc (.cells #[.int .i64 h, .slice a4 n c4] 24) := ⟨_, rfl⟩
    rw [← hu4]
    have hA4 : Below v4.heap.size v4 u4 := by rw [hu4]; exact (Below.refl _ _).alloc (Nat.le_refl _) _
    have hx4 : Bx u4 v4.heap.size (.int .i64 h) (.slice a4 n c4) := by rw [hu4]; exact Bx.made _ _ _
    have HS8 := hid (HT4.out.on hA4)
    replace HX2 := hid (HX2.out.below hA4)
    replace HS2 := hid (HS2.out.on hA4)
    replace HX6 := hid (HX6.out.below hA4)
    replace HS6 := hid (HS6.out.on hA4)
    replace HB := hid (HB.out.trans (hA4.mono HB.out.size))
    obtain ⟨g8, hg8⟩ : ∃ g, g = v4.heap.size := ⟨_, rfl⟩
    rw [← hg8] at hx4 ⊢
    have HX8 := hid hx4
    clear hg8 hx4 hA4 hu4 HT4
    have p8x := HX8.out.c0
    have p8y := HX8.out.c1
    have p2x := HX2.out.c0
    have p2y := HX2.out.c1
    have CC5 := hid (same_yes h a4 a n c4 c l u4 HS8.out HS2.out)
    go_wp2_with fail
    refine CC5.out.mono ?_
    rintro e5 v5 ⟨rfl, hb5⟩
    clear p8x p8y p2x p2y
    clear CC5
    replace HX2 := hid (HX2.out.below hb5)
    replace HS2 := hid (HS2.out.on hb5)
    replace HX6 := hid (HX6.out.below hb5)
    replace HS6 := hid (HS6.out.on hb5)
    replace HX8 := hid (HX8.out.below hb5)
    replace HS8 := hid (HS8.out.on hb5)
    replace HB := hid (HB.out.trans (hb5.mono HB.out.size))
    clear hb5
    clear HX6 HS6 HX8 HS8
    have p2x := HX2.out.c0
    have p2y := HX2.out.c1
    have CC6 := hid (pop_any h a n c l k v5 HS2.out hk.2)
    go_wp2_with fail
    refine CC6.out.mono ?_
    intro e6 v6 hm6
    obtain ⟨a6, c6, rfl, ho6, hst6, hb6⟩ := hm6.at (h := 0) (l := []) (n := 0) (er := y) (HPY.out) (rfl) (by omega)
    clear p2x p2y
    clear hm6 CC6
    replace HX2 := hid (HX2.out.below hb6)
    replace HS2 := hid (HS2.out.on hb6)
    replace HB := hid (HB.out.trans (hb6.mono HB.out.size))
    have HT6 := hid hst6
    clear ho6 hst6 hb6
    go_upto_region 11 with fail
    obtain ⟨u6, hu6⟩ : ∃ u, u = v6.alloc (.cells #[.int .i64 0, .slice a6 0 c6] 24) := ⟨_, rfl⟩
    rw [← hu6]
    have hA6 : Below v6.heap.size v6 u6 := by rw [hu6]; exact (Below.refl _ _).alloc (Nat.le_refl _) _
    have hx6 : Bx u6 v6.heap.size (.int .i64 0) (.slice a6 0 c6) := by rw [hu6]; exact Bx.made _ _ _
    have HS10 := hid (HT6.out.on hA6)
    replace HX2 := hid (HX2.out.below hA6)
    replace HS2 := hid (HS2.out.on hA6)
    replace HB := hid (HB.out.trans (hA6.mono HB.out.size))
    obtain ⟨g10, hg10⟩ : ∃ g, g = v6.heap.size := ⟨_, rfl⟩
    rw [← hg10] at hx6 ⊢
    have HX10 := hid hx6
    clear hg10 hx6 hA6 hu6 HT6
    have hyb : (y != 0) = true := by simp [hy]
    go_wp2
    go_ret
    exact ⟨rfl, HB.out⟩
  subst hy
  have HPX : Hid (popR h l k = ⟨x, l, 0⟩) := hid (by rw [HPP.out, if_pos rfl])
  clear HPP
  obtain ⟨hxv, hxh⟩ := pop_valid HV.out (by omega) hw
  have hcx : chk x l = 0 := by simp [chk, hxv]
  clear hw HV hxv
  go_enter Try.func4, Try.ntmps4
  go_upto_region 1 with fail
  rw [← HW.out, ← HG.out]
  clear HW HG
  have CC1 := hid (awake_any W0)
  go_wp2_with fail
  refine CC1.out.mono ?_
  rintro e1 v1 ⟨rfl, hb1⟩
  clear CC1
  replace HX2 := hid (HX2.out.below hb1)
  replace HS2 := hid (HS2.out.on hb1)
  replace HB := hid (HB.out.trans (hb1.mono HB.out.size))
  clear hb1
  have p2x := HX2.out.c0
  have p2y := HX2.out.c1
  have CC2 := hid (check_any h a n c l v1 HS2.out)
  rw [show chk h l = 0 from hc] at CC2
  go_wp2_with fail
  refine CC2.out.mono ?_
  rintro e2 v2 ⟨rfl, hb2⟩
  clear p2x p2y
  clear CC2
  replace HX2 := hid (HX2.out.below hb2)
  replace HS2 := hid (HS2.out.on hb2)
  replace HB := hid (HB.out.trans (hb2.mono HB.out.size))
  clear hb2
  have p2x := HX2.out.c0
  have p2y := HX2.out.c1
  have CC3 := hid (push_any h a n c l k v2 HS2.out)
  go_wp2_with fail
  refine CC3.out.mono ?_
  intro e3 v3 hm3
  obtain ⟨a3, c3, rfl, ho3, hst3, hb3⟩ := hm3.at (h := (h + k)) (l := l) (n := n) (er := 0) (HPU.out) (HLN.out) (by omega)
  clear p2x p2y
  clear hm3 CC3
  replace HX2 := hid (HX2.out.below hb3)
  replace HS2 := hid (HS2.out.on hb3)
  replace HB := hid (HB.out.trans (hb3.mono HB.out.size))
  have HT3 := hid hst3
  clear ho3 hst3 hb3
  go_upto_region 5 with fail
  obtain ⟨u3, hu3⟩ : ∃ u, u = v3.alloc (.cells #[.int .i64 (h + k), .slice a3 n c3] 24) := ⟨_, rfl⟩
  rw [← hu3]
  have hA3 : Below v3.heap.size v3 u3 := by rw [hu3]; exact (Below.refl _ _).alloc (Nat.le_refl _) _
  have hx3 : Bx u3 v3.heap.size (.int .i64 (h + k)) (.slice a3 n c3) := by rw [hu3]; exact Bx.made _ _ _
  have HS6 := hid (HT3.out.on hA3)
  replace HX2 := hid (HX2.out.below hA3)
  replace HS2 := hid (HS2.out.on hA3)
  replace HB := hid (HB.out.trans (hA3.mono HB.out.size))
  obtain ⟨g6, hg6⟩ : ∃ g, g = v3.heap.size := ⟨_, rfl⟩
  rw [← hg6] at hx3 ⊢
  have HX6 := hid hx3
  clear hg6 hx3 hA3 hu3 HT3
  have p6x := HX6.out.c0
  have p6y := HX6.out.c1
  have CC4 := hid (pop_any (h + k) a3 n c3 l k u3 HS6.out hk.2)
  go_wp2_with fail
  refine CC4.out.mono ?_
  intro e4 v4 hm4
  obtain ⟨a4, c4, rfl, ho4, hst4, hb4⟩ := hm4.at (h := h) (l := l) (n := n) (er := 0) (HPO.out) (HLN.out) (by omega)
  clear p6x p6y
  clear hm4 CC4
  replace HX2 := hid (HX2.out.below hb4)
  replace HS2 := hid (HS2.out.on hb4)
  replace HX6 := hid (HX6.out.below hb4)
  replace HS6 := hid (HS6.out.on hb4)
  replace HB := hid (HB.out.trans (hb4.mono HB.out.size))
  have HT4 := hid hst4
  clear ho4 hst4 hb4
  go_upto_region 8 with fail
  obtain ⟨u4, hu4⟩ : ∃ u, u = v4.alloc (.cells #[.int .i64 h, .slice a4 n c4] 24) := ⟨_, rfl⟩
  rw [← hu4]
  have hA4 : Below v4.heap.size v4 u4 := by rw [hu4]; exact (Below.refl _ _).alloc (Nat.le_refl _) _
  have hx4 : Bx u4 v4.heap.size (.int .i64 h) (.slice a4 n c4) := by rw [hu4]; exact Bx.made _ _ _
  have HS8 := hid (HT4.out.on hA4)
  replace HX2 := hid (HX2.out.below hA4)
  replace HS2 := hid (HS2.out.on hA4)
  replace HX6 := hid (HX6.out.below hA4)
  replace HS6 := hid (HS6.out.on hA4)
  replace HB := hid (HB.out.trans (hA4.mono HB.out.size))
  obtain ⟨g8, hg8⟩ : ∃ g, g = v4.heap.size := ⟨_, rfl⟩
  rw [← hg8] at hx4 ⊢
  have HX8 := hid hx4
  clear hg8 hx4 hA4 hu4 HT4
  have p8x := HX8.out.c0
  have p8y := HX8.out.c1
  have p2x := HX2.out.c0
  have p2y := HX2.out.c1
  have CC5 := hid (same_yes h a4 a n c4 c l u4 HS8.out HS2.out)
  go_wp2_with fail
  refine CC5.out.mono ?_
  rintro e5 v5 ⟨rfl, hb5⟩
  clear p8x p8y p2x p2y
  clear CC5
  replace HX2 := hid (HX2.out.below hb5)
  replace HS2 := hid (HS2.out.on hb5)
  replace HX6 := hid (HX6.out.below hb5)
  replace HS6 := hid (HS6.out.on hb5)
  replace HX8 := hid (HX8.out.below hb5)
  replace HS8 := hid (HS8.out.on hb5)
  replace HB := hid (HB.out.trans (hb5.mono HB.out.size))
  clear hb5
  clear HX6 HS6 HX8 HS8
  have p2x := HX2.out.c0
  have p2y := HX2.out.c1
  have CC6 := hid (pop_any h a n c l k v5 HS2.out hk.2)
  go_wp2_with fail
  refine CC6.out.mono ?_
  intro e6 v6 hm6
  obtain ⟨a6, c6, rfl, ho6, hst6, hb6⟩ := hm6.at (h := x) (l := l) (n := n) (er := 0) (HPX.out) (HLN.out) (by omega)
  clear p2x p2y
  clear hm6 CC6
  replace HX2 := hid (HX2.out.below hb6)
  replace HS2 := hid (HS2.out.on hb6)
  replace HB := hid (HB.out.trans (hb6.mono HB.out.size))
  have HT6 := hid hst6
  clear ho6 hst6 hb6
  go_upto_region 11 with fail
  obtain ⟨u6, hu6⟩ : ∃ u, u = v6.alloc (.cells #[.int .i64 x, .slice a6 n c6] 24) := ⟨_, rfl⟩
  rw [← hu6]
  have hA6 : Below v6.heap.size v6 u6 := by rw [hu6]; exact (Below.refl _ _).alloc (Nat.le_refl _) _
  have hx6 : Bx u6 v6.heap.size (.int .i64 x) (.slice a6 n c6) := by rw [hu6]; exact Bx.made _ _ _
  have HS10 := hid (HT6.out.on hA6)
  replace HX2 := hid (HX2.out.below hA6)
  replace HS2 := hid (HS2.out.on hA6)
  replace HB := hid (HB.out.trans (hA6.mono HB.out.size))
  obtain ⟨g10, hg10⟩ : ∃ g, g = v6.heap.size := ⟨_, rfl⟩
  rw [← hg10] at hx6 ⊢
  have HX10 := hid hx6
  clear hg10 hx6 hA6 hu6 HT6
  have p10x := HX10.out.c0
  have p10y := HX10.out.c1
  have CC7 := hid (check_any x a6 n c6 l u6 HS10.out)
  rw [show chk x l = 0 from hcx] at CC7
  go_wp2_with fail
  refine CC7.out.mono ?_
  rintro e7 v7 ⟨rfl, hb7⟩
  clear p10x p10y
  clear CC7
  replace HX2 := hid (HX2.out.below hb7)
  replace HS2 := hid (HS2.out.on hb7)
  replace HX10 := hid (HX10.out.below hb7)
  replace HS10 := hid (HS10.out.on hb7)
  replace HB := hid (HB.out.trans (hb7.mono HB.out.size))
  clear hb7
  have p10x := HX10.out.c0
  have p10y := HX10.out.c1
  have p2x := HX2.out.c0
  have p2y := HX2.out.c1
  go_wp2
  go_ret
  exact ⟨rfl, HB.out⟩
end Go.Proofs.Ytnfpfagojeieeaa.Stk
