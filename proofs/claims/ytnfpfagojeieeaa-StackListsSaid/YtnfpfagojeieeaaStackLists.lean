/-
  STACK: StackLists, walked (tools/gen_stkwalk.py).
-/
import Derived.Test.YtnfpfagojeieeaaStkAwake
import Derived.Test.YtnfpfagojeieeaaStkMore
import Derived.Test.YtnfpfagojeieeaaStkLeave
namespace Go.Proofs.Ytnfpfagojeieeaa.Stk
open Go.RowKit
set_option linter.unusedVariables false

theorem enter_cases (h : Int) (l : List Fr) (op re : Int) : (∃ e, e ≠ 0 ∧ enterR h l op re = ⟨0, [], e⟩) ∨ (valid h l = true ∧ opens op = true ∧ wrongRe re = false ∧ l.length < 1000 ∧ enterR h l op re = ⟨h, l ++ [⟨op, h, re, false⟩], 0⟩) := by
  unfold enterR
  cases hv : valid h l with
  | false => exact .inl ⟨2, by decide, by simp [bad]⟩
  | true =>
    by_cases h1 : opens op = false ∨ wrongRe re = true
    · exact .inl ⟨2, by decide, by simp [h1, bad]⟩
    · by_cases h2 : l.length = 1000
      · exact .inl ⟨8, by decide, by rw [if_neg (by simp), if_neg h1, if_pos h2]; rfl⟩
      · have := (valid_yes hv).2.2.2
        refine .inr ⟨rfl, by simpa using fun e => h1 (.inl e), by simpa using fun e => h1 (.inr e), by omega, by rw [if_neg (by simp), if_neg h1, if_neg h2]⟩
theorem dead_entered {h : Int} {l : List Fr} {op re : Int} (hv : valid h (l ++ [⟨op, h, re, false⟩]) = true) : deadR h (l ++ [⟨op, h, re, false⟩]) = ⟨h, l ++ [⟨op, h, re, true⟩], 0⟩ := by
  unfold deadR
  rw [if_neg (by simp [hv]), lastF_snoc]
  simp
theorem push_entered {h k : Int} {l : List Fr} (hv : valid h l = true) (h0 : 0 ≤ k) (h1 : h + k ≤ 1073741824) : pushR h l k = ⟨h + k, l, 0⟩ := by
  unfold pushR
  rw [if_neg (by simp [hv]), if_neg (by omega), if_neg (by omega)]
theorem leave_entered {h k : Int} {l : List Fr} {op re : Int} {d : Bool} (hv : valid h (l ++ [⟨op, h, re, d⟩]) = true) (h0 : 0 ≤ k) (h1 : h + k ≤ 1073741824) (hr : 0 ≤ re ∧ re ≤ 1) :
    leaveR (h + k) (l ++ [⟨op, h, re, d⟩]) = if re < k then ⟨0, [], 201⟩ else if k < re ∧ d = false then ⟨0, [], 200⟩ else ⟨h + re, l, 0⟩ := by
  obtain ⟨hh, -⟩ := valid_yes hv
  have hv2 : valid (h + k) (l ++ [⟨op, h, re, d⟩]) = true := valid_shift hv (by omega) h1 (fun f hm => by have := (valid_fine hv f hm).2.1; omega)
  unfold leaveR
  rw [if_neg (by simp [hv2]), lastF_snoc]
  simp only [without, bad]
  by_cases g1 : k < re ∧ d = false
  · have g2 : h + k - h < re ∧ d = false := ⟨by omega, g1.2⟩
    rw [if_pos g2, if_pos (by simp), if_neg (by omega), if_pos g1]
  · have g2 : ¬ (h + k - h < re ∧ d = false) := fun hh => g1 ⟨by omega, hh.2⟩
    rw [if_neg g2, if_neg (by simp), if_neg g1]
    by_cases g3 : re < k
    · rw [if_pos g3, if_pos (by rw [if_pos (by omega)]; omega)]
    · rw [if_neg g3]
      have hx : (if h ≤ h + k - re then h + k - re else h) = h := by split <;> omega
      rw [hx, if_neg (by omega)]
      simp
set_option maxRecDepth 100000 in
set_option maxHeartbeats 4000000 in
theorem stackLists_walk (w : World) (h : Int) (a : Option Addr) (c : Nat) (l : List Fr) (hs : StAt w.heap.size w a l.length c l) (hh : -9223372036854775808 ≤ h ∧ h ≤ 9223372036854775807) (op : Int) (hop : -9223372036854775808 ≤ op ∧ op ≤ 9223372036854775807) (re : Int) (hre : -9223372036854775808 ≤ re ∧ re ≤ 9223372036854775807) (k : Int) (hk : -9223372036854775808 ≤ k ∧ k ≤ 9223372036854775807) (d : Bool) :
    Calls Try.prog 5 #[.agg #[.int .i64 h, .slice a l.length c], .int .i64 op, .int .i64 re, .int .i64 k, .bool d] w fun e w' => e = .returned (.bool true) ∧ Below w.heap.size w w' := by
  obtain ⟨n, hn⟩ : ∃ n, l.length = n := ⟨_, rfl⟩
  rw [hn] at hs ⊢
  obtain ⟨W0, hW0⟩ : ∃ W0, W0 = w.alloc (.cells #[.int .i64 h, .slice a n c] 24) := ⟨_, rfl⟩
  have hx0 : Bx W0 w.heap.size (.int .i64 h) (.slice a n c) := by rw [hW0]; exact Bx.made w _ _
  have hb0 : Below w.heap.size w W0 := by rw [hW0]; exact (Below.refl _ _).alloc (Nat.le_refl _) _
  have HS5 := hid (hs.on hb0)
  have HB := hid hb0
  have HW := hid hW0
  obtain ⟨g5, hg5⟩ : ∃ g, g = w.heap.size := ⟨_, rfl⟩
  rw [← hg5] at hx0
  have HX5 := hid hx0
  have HG := hid hg5
  have HLN := hid hn
  have hfit := hs.fit
  clear hx0 hb0 hW0 hs hg5 hn
  by_cases g1 : k < 0
  · go_enter Try.func5, Try.ntmps5
    go_upto_region 1 with fail
    rw [← HW.out, ← HG.out]
    clear HW HG
    have CC1 := hid (awake_any W0)
    go_wp2_with fail
    refine CC1.out.mono ?_
    rintro e1 v1 ⟨rfl, hb1⟩
    clear CC1
    replace HX5 := hid (HX5.out.below hb1)
    replace HS5 := hid (HS5.out.on hb1)
    replace HB := hid (HB.out.trans (hb1.mono HB.out.size))
    clear hb1
    have p5x := HX5.out.c0
    have p5y := HX5.out.c1
    go_wp2
    go_ret
    exact ⟨rfl, HB.out⟩
  by_cases g2 : 1000 < k
  · go_enter Try.func5, Try.ntmps5
    go_upto_region 1 with fail
    rw [← HW.out, ← HG.out]
    clear HW HG
    have CC1 := hid (awake_any W0)
    go_wp2_with fail
    refine CC1.out.mono ?_
    rintro e1 v1 ⟨rfl, hb1⟩
    clear CC1
    replace HX5 := hid (HX5.out.below hb1)
    replace HS5 := hid (HS5.out.on hb1)
    replace HB := hid (HB.out.trans (hb1.mono HB.out.size))
    clear hb1
    have p5x := HX5.out.c0
    have p5y := HX5.out.c1
    go_wp2
    go_ret
    exact ⟨rfl, HB.out⟩
  by_cases g3 : 536870912 < h
  · go_enter Try.func5, Try.ntmps5
    go_upto_region 1 with fail
    rw [← HW.out, ← HG.out]
    clear HW HG
    have CC1 := hid (awake_any W0)
    go_wp2_with fail
    refine CC1.out.mono ?_
    rintro e1 v1 ⟨rfl, hb1⟩
    clear CC1
    replace HX5 := hid (HX5.out.below hb1)
    replace HS5 := hid (HS5.out.on hb1)
    replace HB := hid (HB.out.trans (hb1.mono HB.out.size))
    clear hb1
    have p5x := HX5.out.c0
    have p5y := HX5.out.c1
    go_wp2
    go_ret
    exact ⟨rfl, HB.out⟩
  rcases enter_cases h l op re with ⟨ee, hee, hen⟩ | ⟨hv, ho, hr, hle, hen⟩
  · have HEN := hid hen
    clear hen
    go_enter Try.func5, Try.ntmps5
    go_upto_region 1 with fail
    rw [← HW.out, ← HG.out]
    clear HW HG
    have CC1 := hid (awake_any W0)
    go_wp2_with fail
    refine CC1.out.mono ?_
    rintro e1 v1 ⟨rfl, hb1⟩
    clear CC1
    replace HX5 := hid (HX5.out.below hb1)
    replace HS5 := hid (HS5.out.on hb1)
    replace HB := hid (HB.out.trans (hb1.mono HB.out.size))
    clear hb1
    have p5x := HX5.out.c0
    have p5y := HX5.out.c1
    clear p5x p5y
    have p5x := HX5.out.c0
    have p5y := HX5.out.c1
    have CC2 := hid (enter_any h a n c l op re v1 HS5.out)
    go_wp2_with fail
    refine CC2.out.mono ?_
    intro e2 v2 hm2
    obtain ⟨a2, c2, rfl, ho2, hst2, hb2⟩ := hm2.at (h := 0) (l := []) (n := 0) (er := ee) (HEN.out) (rfl) (by omega)
    clear p5x p5y
    clear hm2 CC2
    replace HX5 := hid (HX5.out.below hb2)
    replace HS5 := hid (HS5.out.on hb2)
    replace HB := hid (HB.out.trans (hb2.mono HB.out.size))
    have HT2 := hid hst2
    clear ho2 hst2 hb2
    go_upto_region 5 with fail
    obtain ⟨u2, hu2⟩ : ∃ u, u = v2.alloc (.cells #[.int .i64 0, .slice a2 0 c2] 24) := ⟨_, rfl⟩
    rw [← hu2]
    have hA2 : Below v2.heap.size v2 u2 := by rw [hu2]; exact (Below.refl _ _).alloc (Nat.le_refl _) _
    have hx2 : Bx u2 v2.heap.size (.int .i64 0) (.slice a2 0 c2) := by rw [hu2]; exact Bx.made _ _ _
    have HS12 := hid (HT2.out.on hA2)
    have HL2_5 := hid HX5.out.lt
    have HQ2 := hid HB.out.size
    replace HX5 := hid (HX5.out.below hA2)
    replace HS5 := hid (HS5.out.on hA2)
    replace HB := hid (HB.out.trans (hA2.mono HB.out.size))
    obtain ⟨g12, hg12⟩ : ∃ g, g = v2.heap.size := ⟨_, rfl⟩
    have HN12_5 := hid (show g5 ≠ g12 from by rw [hg12]; exact Nat.ne_of_lt HL2_5.out)
    clear HL2_5
    have HGE12 := hid (show w.heap.size ≤ g12 from by rw [hg12]; exact HQ2.out)
    clear HQ2
    rw [← hg12] at hx2 ⊢
    have HX12 := hid hx2
    clear hg12 hx2 hA2 hu2 HT2
    have hyb : (ee != 0) = true := by simp [hee]
    go_wp2
    go_ret
    exact ⟨rfl, HB.out⟩
  have HEN := hid hen
  have hr2 : 0 ≤ re ∧ re ≤ 1 := by
    unfold wrongRe at hr
    simp only [Bool.or_eq_false_iff, decide_eq_false_iff_not] at hr
    omega
  have hh0 := (valid_yes hv).1
  have HL1 : Hid ((l ++ [(⟨op, h, re, d⟩ : Fr)]).length = n + 1) := hid (by simp [HLN.out])
  have HL0 : Hid ((l ++ [(⟨op, h, re, false⟩ : Fr)]).length = n + 1) := hid (by simp [HLN.out])
  have hn1 : n < 1000 := by rw [← HLN.out]; exact hle
  have HPU : Hid (pushR h (l ++ [⟨op, h, re, d⟩]) k = ⟨h + k, l ++ [⟨op, h, re, d⟩], 0⟩) := hid (push_entered (valid_enter d hv ho hr hle) (by omega) (by omega))
  have HPW : Hid (pushR h l re = ⟨h + re, l, 0⟩) := hid (push_entered hv (by omega) (by omega))
  have HDE := hid (dead_entered (valid_enter false hv ho hr hle))
  have HLE := hid (leave_entered (k := k) (valid_enter d hv ho hr hle) (by omega) (by omega) hr2)
  clear hen hv ho hr hle
  cases d with
  | true =>
    by_cases g4 : re < k
    · have HLX : Hid (leaveR (h + k) (l ++ [⟨op, h, re, true⟩]) = ⟨0, [], 201⟩) := hid (by rw [HLE.out, if_pos g4])
      clear HLE
      go_enter Try.func5, Try.ntmps5
      go_upto_region 1 with fail
      rw [← HW.out, ← HG.out]
      clear HW HG
      have CC1 := hid (awake_any W0)
      go_wp2_with fail
      refine CC1.out.mono ?_
      rintro e1 v1 ⟨rfl, hb1⟩
      clear CC1
      replace HX5 := hid (HX5.out.below hb1)
      replace HS5 := hid (HS5.out.on hb1)
      replace HB := hid (HB.out.trans (hb1.mono HB.out.size))
      clear hb1
      have p5x := HX5.out.c0
      have p5y := HX5.out.c1
      clear p5x p5y
      have p5x := HX5.out.c0
      have p5y := HX5.out.c1
      have CC2 := hid (enter_any h a n c l op re v1 HS5.out)
      go_wp2_with fail
      refine CC2.out.mono ?_
      intro e2 v2 hm2
      obtain ⟨a2, c2, rfl, ho2, hst2, hb2⟩ := hm2.at (h := h) (l := (l ++ [⟨op, h, re, false⟩])) (n := (n + 1)) (er := 0) (HEN.out) (HL0.out) (by omega)
      clear p5x p5y
      clear hm2 CC2
      replace HX5 := hid (HX5.out.below hb2)
      replace HS5 := hid (HS5.out.on hb2)
      replace HB := hid (HB.out.trans (hb2.mono HB.out.size))
      have HT2 := hid hst2
      clear ho2 hst2 hb2
      go_upto_region 5 with fail
      obtain ⟨u2, hu2⟩ : ∃ u, u = v2.alloc (.cells #[.int .i64 h, .slice a2 (n + 1) c2] 24) := ⟨_, rfl⟩
      rw [← hu2]
      have hA2 : Below v2.heap.size v2 u2 := by rw [hu2]; exact (Below.refl _ _).alloc (Nat.le_refl _) _
      have hx2 : Bx u2 v2.heap.size (.int .i64 h) (.slice a2 (n + 1) c2) := by rw [hu2]; exact Bx.made _ _ _
      have HS12 := hid (HT2.out.on hA2)
      have HL2_5 := hid HX5.out.lt
      have HQ2 := hid HB.out.size
      replace HX5 := hid (HX5.out.below hA2)
      replace HS5 := hid (HS5.out.on hA2)
      replace HB := hid (HB.out.trans (hA2.mono HB.out.size))
      obtain ⟨g12, hg12⟩ : ∃ g, g = v2.heap.size := ⟨_, rfl⟩
      have HN12_5 := hid (show g5 ≠ g12 from by rw [hg12]; exact Nat.ne_of_lt HL2_5.out)
      clear HL2_5
      have HGE12 := hid (show w.heap.size ≤ g12 from by rw [hg12]; exact HQ2.out)
      clear HQ2
      rw [← hg12] at hx2 ⊢
      have HX12 := hid hx2
      clear hg12 hx2 hA2 hu2 HT2
      go_upto_region 8 with fail
      have p12x := HX12.out.c0
      have p12y := HX12.out.c1
      have CC3 := hid (dead_any h a2 (n + 1) c2 (l ++ [⟨op, h, re, false⟩]) u2 HS12.out)
      go_wp2_with fail
      refine CC3.out.mono ?_
      intro e3 v3 hm3
      obtain ⟨a3, c3, rfl, ho3, hst3, hb3⟩ := hm3.at (h := h) (l := (l ++ [⟨op, h, re, true⟩])) (n := (n + 1)) (er := 0) (HDE.out) (HL1.out) (by omega)
      clear p12x p12y
      clear hm3 CC3
      replace HX5 := hid (HX5.out.below hb3)
      replace HS5 := hid (HS5.out.on hb3)
      replace HX12 := hid (HX12.out.below hb3)
      replace HS12 := hid (HS12.out.on hb3)
      replace HB := hid (HB.out.trans (hb3.mono HB.out.size))
      have HT3 := hid hst3
      clear ho3 hst3 hb3
      have q0 := HX12.out.c0
      have q1 := HX12.out.c1
      have q2 := HX12.out.f 0
      have q3 := HX12.out.f 1
      go_upto_region 9 with fail
      obtain ⟨u3, hu3⟩ : ∃ u, u = (v3.setCell ⟨g12, 0, none⟩ (.int .i64 h)).setCell ⟨g12, 1, none⟩ (.slice a3 (n + 1) c3) := ⟨_, rfl⟩
      rw [← hu3]
      clear q0 q1 q2 q3
      replace HX5 := hid ((HX5.out.far (p := ⟨g12, 0, none⟩) HN12_5.out (.int .i64 h)).far (p := ⟨g12, 1, none⟩) HN12_5.out (.slice a3 (n + 1) c3))
      replace HS5 := hid (HS5.out.set2 HX12.out (.int .i64 h) (.slice a3 (n + 1) c3))
      rw [← hu3] at HX5 HS5
      replace HS12 := hid (HT3.out.set2 HX12.out (.int .i64 h) (.slice a3 (n + 1) c3))
      replace HX12 := hid (box2 HX12.out (.int .i64 h) (.slice a3 (n + 1) c3))
      replace HB := hid ((HB.out.setCell (p := ⟨g12, 0, none⟩) HGE12.out (.int .i64 h)).setCell (p := ⟨g12, 1, none⟩) HGE12.out (.slice a3 (n + 1) c3))
      rw [← hu3] at HX12 HS12 HB
      clear hu3 HT3
      have p12x := HX12.out.c0
      have p12y := HX12.out.c1
      have CC4 := hid (push_any h a3 (n + 1) c3 (l ++ [⟨op, h, re, true⟩]) k u3 HS12.out)
      go_wp2_with fail
      refine CC4.out.mono ?_
      intro e4 v4 hm4
      obtain ⟨a4, c4, rfl, ho4, hst4, hb4⟩ := hm4.at (h := (h + k)) (l := (l ++ [⟨op, h, re, true⟩])) (n := (n + 1)) (er := 0) (HPU.out) (HL1.out) (by omega)
      clear p12x p12y
      clear hm4 CC4
      replace HX5 := hid (HX5.out.below hb4)
      replace HS5 := hid (HS5.out.on hb4)
      replace HX12 := hid (HX12.out.below hb4)
      replace HS12 := hid (HS12.out.on hb4)
      replace HB := hid (HB.out.trans (hb4.mono HB.out.size))
      have HT4 := hid hst4
      clear ho4 hst4 hb4
      go_upto_region 10 with fail
      obtain ⟨u4, hu4⟩ : ∃ u, u = v4.alloc (.cells #[.int .i64 (h + k), .slice a4 (n + 1) c4] 24) := ⟨_, rfl⟩
      rw [← hu4]
      have hA4 : Below v4.heap.size v4 u4 := by rw [hu4]; exact (Below.refl _ _).alloc (Nat.le_refl _) _
      have hx4 : Bx u4 v4.heap.size (.int .i64 (h + k)) (.slice a4 (n + 1) c4) := by rw [hu4]; exact Bx.made _ _ _
      have HS14 := hid (HT4.out.on hA4)
      have HL4_5 := hid HX5.out.lt
      have HL4_12 := hid HX12.out.lt
      have HQ4 := hid HB.out.size
      replace HX5 := hid (HX5.out.below hA4)
      replace HS5 := hid (HS5.out.on hA4)
      replace HX12 := hid (HX12.out.below hA4)
      replace HS12 := hid (HS12.out.on hA4)
      replace HB := hid (HB.out.trans (hA4.mono HB.out.size))
      obtain ⟨g14, hg14⟩ : ∃ g, g = v4.heap.size := ⟨_, rfl⟩
      have HN14_5 := hid (show g5 ≠ g14 from by rw [hg14]; exact Nat.ne_of_lt HL4_5.out)
      clear HL4_5
      have HN14_12 := hid (show g12 ≠ g14 from by rw [hg14]; exact Nat.ne_of_lt HL4_12.out)
      clear HL4_12
      have HGE14 := hid (show w.heap.size ≤ g14 from by rw [hg14]; exact HQ4.out)
      clear HQ4
      rw [← hg14] at hx4 ⊢
      have HX14 := hid hx4
      clear hg14 hx4 hA4 hu4 HT4
      have p14x := HX14.out.c0
      have p14y := HX14.out.c1
      have CC5 := hid (leave_any (h + k) a4 (n + 1) c4 (l ++ [⟨op, h, re, true⟩]) u4 HS14.out)
      go_wp2_with fail
      refine CC5.out.mono ?_
      intro e5 v5 hm5
      obtain ⟨a5, c5, rfl, ho5, hst5, hb5⟩ := hm5.at (h := 0) (l := []) (n := 0) (er := 201) (HLX.out) (rfl) (by omega)
      clear p14x p14y
      clear hm5 CC5
      replace HX5 := hid (HX5.out.below hb5)
      replace HS5 := hid (HS5.out.on hb5)
      replace HX12 := hid (HX12.out.below hb5)
      replace HS12 := hid (HS12.out.on hb5)
      replace HX14 := hid (HX14.out.below hb5)
      replace HS14 := hid (HS14.out.on hb5)
      replace HB := hid (HB.out.trans (hb5.mono HB.out.size))
      have HT5 := hid hst5
      clear ho5 hst5 hb5
      go_upto_region 13 with fail
      obtain ⟨u5, hu5⟩ : ∃ u, u = v5.alloc (.cells #[.int .i64 0, .slice a5 0 c5] 24) := ⟨_, rfl⟩
      rw [← hu5]
      have hA5 : Below v5.heap.size v5 u5 := by rw [hu5]; exact (Below.refl _ _).alloc (Nat.le_refl _) _
      have hx5 : Bx u5 v5.heap.size (.int .i64 0) (.slice a5 0 c5) := by rw [hu5]; exact Bx.made _ _ _
      have HS16 := hid (HT5.out.on hA5)
      have HL5_5 := hid HX5.out.lt
      have HL5_12 := hid HX12.out.lt
      have HL5_14 := hid HX14.out.lt
      have HQ5 := hid HB.out.size
      replace HX5 := hid (HX5.out.below hA5)
      replace HS5 := hid (HS5.out.on hA5)
      replace HX12 := hid (HX12.out.below hA5)
      replace HS12 := hid (HS12.out.on hA5)
      replace HX14 := hid (HX14.out.below hA5)
      replace HS14 := hid (HS14.out.on hA5)
      replace HB := hid (HB.out.trans (hA5.mono HB.out.size))
      obtain ⟨g16, hg16⟩ : ∃ g, g = v5.heap.size := ⟨_, rfl⟩
      have HN16_5 := hid (show g5 ≠ g16 from by rw [hg16]; exact Nat.ne_of_lt HL5_5.out)
      clear HL5_5
      have HN16_12 := hid (show g12 ≠ g16 from by rw [hg16]; exact Nat.ne_of_lt HL5_12.out)
      clear HL5_12
      have HN16_14 := hid (show g14 ≠ g16 from by rw [hg16]; exact Nat.ne_of_lt HL5_14.out)
      clear HL5_14
      have HGE16 := hid (show w.heap.size ≤ g16 from by rw [hg16]; exact HQ5.out)
      clear HQ5
      rw [← hg16] at hx5 ⊢
      have HX16 := hid hx5
      clear hg16 hx5 hA5 hu5 HT5
      go_wp2
      go_ret
      exact ⟨rfl, HB.out⟩
    by_cases z5 : k < re
    · have HLX : Hid (leaveR (h + k) (l ++ [⟨op, h, re, true⟩]) = ⟨h + re, l, 0⟩) := hid (by rw [HLE.out, if_neg g4, if_neg (fun hh => by cases hh.2)])
      clear HLE
      go_enter Try.func5, Try.ntmps5
      go_upto_region 1 with fail
      rw [← HW.out, ← HG.out]
      clear HW HG
      have CC1 := hid (awake_any W0)
      go_wp2_with fail
      refine CC1.out.mono ?_
      rintro e1 v1 ⟨rfl, hb1⟩
      clear CC1
      replace HX5 := hid (HX5.out.below hb1)
      replace HS5 := hid (HS5.out.on hb1)
      replace HB := hid (HB.out.trans (hb1.mono HB.out.size))
      clear hb1
      have p5x := HX5.out.c0
      have p5y := HX5.out.c1
      clear p5x p5y
      have p5x := HX5.out.c0
      have p5y := HX5.out.c1
      have CC2 := hid (enter_any h a n c l op re v1 HS5.out)
      go_wp2_with fail
      refine CC2.out.mono ?_
      intro e2 v2 hm2
      obtain ⟨a2, c2, rfl, ho2, hst2, hb2⟩ := hm2.at (h := h) (l := (l ++ [⟨op, h, re, false⟩])) (n := (n + 1)) (er := 0) (HEN.out) (HL0.out) (by omega)
      clear p5x p5y
      clear hm2 CC2
      replace HX5 := hid (HX5.out.below hb2)
      replace HS5 := hid (HS5.out.on hb2)
      replace HB := hid (HB.out.trans (hb2.mono HB.out.size))
      have HT2 := hid hst2
      clear ho2 hst2 hb2
      go_upto_region 5 with fail
      obtain ⟨u2, hu2⟩ : ∃ u, u = v2.alloc (.cells #[.int .i64 h, .slice a2 (n + 1) c2] 24) := ⟨_, rfl⟩
      rw [← hu2]
      have hA2 : Below v2.heap.size v2 u2 := by rw [hu2]; exact (Below.refl _ _).alloc (Nat.le_refl _) _
      have hx2 : Bx u2 v2.heap.size (.int .i64 h) (.slice a2 (n + 1) c2) := by rw [hu2]; exact Bx.made _ _ _
      have HS12 := hid (HT2.out.on hA2)
      have HL2_5 := hid HX5.out.lt
      have HQ2 := hid HB.out.size
      replace HX5 := hid (HX5.out.below hA2)
      replace HS5 := hid (HS5.out.on hA2)
      replace HB := hid (HB.out.trans (hA2.mono HB.out.size))
      obtain ⟨g12, hg12⟩ : ∃ g, g = v2.heap.size := ⟨_, rfl⟩
      have HN12_5 := hid (show g5 ≠ g12 from by rw [hg12]; exact Nat.ne_of_lt HL2_5.out)
      clear HL2_5
      have HGE12 := hid (show w.heap.size ≤ g12 from by rw [hg12]; exact HQ2.out)
      clear HQ2
      rw [← hg12] at hx2 ⊢
      have HX12 := hid hx2
      clear hg12 hx2 hA2 hu2 HT2
      go_upto_region 8 with fail
      have p12x := HX12.out.c0
      have p12y := HX12.out.c1
      have CC3 := hid (dead_any h a2 (n + 1) c2 (l ++ [⟨op, h, re, false⟩]) u2 HS12.out)
      go_wp2_with fail
      refine CC3.out.mono ?_
      intro e3 v3 hm3
      obtain ⟨a3, c3, rfl, ho3, hst3, hb3⟩ := hm3.at (h := h) (l := (l ++ [⟨op, h, re, true⟩])) (n := (n + 1)) (er := 0) (HDE.out) (HL1.out) (by omega)
      clear p12x p12y
      clear hm3 CC3
      replace HX5 := hid (HX5.out.below hb3)
      replace HS5 := hid (HS5.out.on hb3)
      replace HX12 := hid (HX12.out.below hb3)
      replace HS12 := hid (HS12.out.on hb3)
      replace HB := hid (HB.out.trans (hb3.mono HB.out.size))
      have HT3 := hid hst3
      clear ho3 hst3 hb3
      have q0 := HX12.out.c0
      have q1 := HX12.out.c1
      have q2 := HX12.out.f 0
      have q3 := HX12.out.f 1
      go_upto_region 9 with fail
      obtain ⟨u3, hu3⟩ : ∃ u, u = (v3.setCell ⟨g12, 0, none⟩ (.int .i64 h)).setCell ⟨g12, 1, none⟩ (.slice a3 (n + 1) c3) := ⟨_, rfl⟩
      rw [← hu3]
      clear q0 q1 q2 q3
      replace HX5 := hid ((HX5.out.far (p := ⟨g12, 0, none⟩) HN12_5.out (.int .i64 h)).far (p := ⟨g12, 1, none⟩) HN12_5.out (.slice a3 (n + 1) c3))
      replace HS5 := hid (HS5.out.set2 HX12.out (.int .i64 h) (.slice a3 (n + 1) c3))
      rw [← hu3] at HX5 HS5
      replace HS12 := hid (HT3.out.set2 HX12.out (.int .i64 h) (.slice a3 (n + 1) c3))
      replace HX12 := hid (box2 HX12.out (.int .i64 h) (.slice a3 (n + 1) c3))
      replace HB := hid ((HB.out.setCell (p := ⟨g12, 0, none⟩) HGE12.out (.int .i64 h)).setCell (p := ⟨g12, 1, none⟩) HGE12.out (.slice a3 (n + 1) c3))
      rw [← hu3] at HX12 HS12 HB
      clear hu3 HT3
      have p12x := HX12.out.c0
      have p12y := HX12.out.c1
      have CC4 := hid (push_any h a3 (n + 1) c3 (l ++ [⟨op, h, re, true⟩]) k u3 HS12.out)
      go_wp2_with fail
      refine CC4.out.mono ?_
      intro e4 v4 hm4
      obtain ⟨a4, c4, rfl, ho4, hst4, hb4⟩ := hm4.at (h := (h + k)) (l := (l ++ [⟨op, h, re, true⟩])) (n := (n + 1)) (er := 0) (HPU.out) (HL1.out) (by omega)
      clear p12x p12y
      clear hm4 CC4
      replace HX5 := hid (HX5.out.below hb4)
      replace HS5 := hid (HS5.out.on hb4)
      replace HX12 := hid (HX12.out.below hb4)
      replace HS12 := hid (HS12.out.on hb4)
      replace HB := hid (HB.out.trans (hb4.mono HB.out.size))
      have HT4 := hid hst4
      clear ho4 hst4 hb4
      go_upto_region 10 with fail
      obtain ⟨u4, hu4⟩ : ∃ u, u = v4.alloc (.cells #[.int .i64 (h + k), .slice a4 (n + 1) c4] 24) := ⟨_, rfl⟩
      rw [← hu4]
      have hA4 : Below v4.heap.size v4 u4 := by rw [hu4]; exact (Below.refl _ _).alloc (Nat.le_refl _) _
      have hx4 : Bx u4 v4.heap.size (.int .i64 (h + k)) (.slice a4 (n + 1) c4) := by rw [hu4]; exact Bx.made _ _ _
      have HS14 := hid (HT4.out.on hA4)
      have HL4_5 := hid HX5.out.lt
      have HL4_12 := hid HX12.out.lt
      have HQ4 := hid HB.out.size
      replace HX5 := hid (HX5.out.below hA4)
      replace HS5 := hid (HS5.out.on hA4)
      replace HX12 := hid (HX12.out.below hA4)
      replace HS12 := hid (HS12.out.on hA4)
      replace HB := hid (HB.out.trans (hA4.mono HB.out.size))
      obtain ⟨g14, hg14⟩ : ∃ g, g = v4.heap.size := ⟨_, rfl⟩
      have HN14_5 := hid (show g5 ≠ g14 from by rw [hg14]; exact Nat.ne_of_lt HL4_5.out)
      clear HL4_5
      have HN14_12 := hid (show g12 ≠ g14 from by rw [hg14]; exact Nat.ne_of_lt HL4_12.out)
      clear HL4_12
      have HGE14 := hid (show w.heap.size ≤ g14 from by rw [hg14]; exact HQ4.out)
      clear HQ4
      rw [← hg14] at hx4 ⊢
      have HX14 := hid hx4
      clear hg14 hx4 hA4 hu4 HT4
      have p14x := HX14.out.c0
      have p14y := HX14.out.c1
      have CC5 := hid (leave_any (h + k) a4 (n + 1) c4 (l ++ [⟨op, h, re, true⟩]) u4 HS14.out)
      go_wp2_with fail
      refine CC5.out.mono ?_
      intro e5 v5 hm5
      obtain ⟨a5, c5, rfl, ho5, hst5, hb5⟩ := hm5.at (h := (h + re)) (l := l) (n := n) (er := 0) (HLX.out) (HLN.out) (by omega)
      clear p14x p14y
      clear hm5 CC5
      replace HX5 := hid (HX5.out.below hb5)
      replace HS5 := hid (HS5.out.on hb5)
      replace HX12 := hid (HX12.out.below hb5)
      replace HS12 := hid (HS12.out.on hb5)
      replace HX14 := hid (HX14.out.below hb5)
      replace HS14 := hid (HS14.out.on hb5)
      replace HB := hid (HB.out.trans (hb5.mono HB.out.size))
      have HT5 := hid hst5
      clear ho5 hst5 hb5
      go_upto_region 13 with fail
      obtain ⟨u5, hu5⟩ : ∃ u, u = v5.alloc (.cells #[.int .i64 (h + re), .slice a5 n c5] 24) := ⟨_, rfl⟩
      rw [← hu5]
      have hA5 : Below v5.heap.size v5 u5 := by rw [hu5]; exact (Below.refl _ _).alloc (Nat.le_refl _) _
      have hx5 : Bx u5 v5.heap.size (.int .i64 (h + re)) (.slice a5 n c5) := by rw [hu5]; exact Bx.made _ _ _
      have HS16 := hid (HT5.out.on hA5)
      have HL5_5 := hid HX5.out.lt
      have HL5_12 := hid HX12.out.lt
      have HL5_14 := hid HX14.out.lt
      have HQ5 := hid HB.out.size
      replace HX5 := hid (HX5.out.below hA5)
      replace HS5 := hid (HS5.out.on hA5)
      replace HX12 := hid (HX12.out.below hA5)
      replace HS12 := hid (HS12.out.on hA5)
      replace HX14 := hid (HX14.out.below hA5)
      replace HS14 := hid (HS14.out.on hA5)
      replace HB := hid (HB.out.trans (hA5.mono HB.out.size))
      obtain ⟨g16, hg16⟩ : ∃ g, g = v5.heap.size := ⟨_, rfl⟩
      have HN16_5 := hid (show g5 ≠ g16 from by rw [hg16]; exact Nat.ne_of_lt HL5_5.out)
      clear HL5_5
      have HN16_12 := hid (show g12 ≠ g16 from by rw [hg16]; exact Nat.ne_of_lt HL5_12.out)
      clear HL5_12
      have HN16_14 := hid (show g14 ≠ g16 from by rw [hg16]; exact Nat.ne_of_lt HL5_14.out)
      clear HL5_14
      have HGE16 := hid (show w.heap.size ≤ g16 from by rw [hg16]; exact HQ5.out)
      clear HQ5
      rw [← hg16] at hx5 ⊢
      have HX16 := hid hx5
      clear hg16 hx5 hA5 hu5 HT5
      have p5x := HX5.out.c0
      have p5y := HX5.out.c1
      have CC6 := hid (push_any h a n c l re u5 HS5.out)
      go_wp2_with fail
      refine CC6.out.mono ?_
      intro e6 v6 hm6
      obtain ⟨a6, c6, rfl, ho6, hst6, hb6⟩ := hm6.at (h := (h + re)) (l := l) (n := n) (er := 0) (HPW.out) (HLN.out) (by omega)
      clear p5x p5y
      clear hm6 CC6
      replace HX5 := hid (HX5.out.below hb6)
      replace HS5 := hid (HS5.out.on hb6)
      replace HX12 := hid (HX12.out.below hb6)
      replace HS12 := hid (HS12.out.on hb6)
      replace HX14 := hid (HX14.out.below hb6)
      replace HS14 := hid (HS14.out.on hb6)
      replace HX16 := hid (HX16.out.below hb6)
      replace HS16 := hid (HS16.out.on hb6)
      replace HB := hid (HB.out.trans (hb6.mono HB.out.size))
      have HT6 := hid hst6
      clear ho6 hst6 hb6
      go_upto_region 18 with fail
      obtain ⟨u6, hu6⟩ : ∃ u, u = v6.alloc (.cells #[.int .i64 (h + re), .slice a6 n c6] 24) := ⟨_, rfl⟩
      rw [← hu6]
      have hA6 : Below v6.heap.size v6 u6 := by rw [hu6]; exact (Below.refl _ _).alloc (Nat.le_refl _) _
      have hx6 : Bx u6 v6.heap.size (.int .i64 (h + re)) (.slice a6 n c6) := by rw [hu6]; exact Bx.made _ _ _
      have HS18 := hid (HT6.out.on hA6)
      have HL6_5 := hid HX5.out.lt
      have HL6_12 := hid HX12.out.lt
      have HL6_14 := hid HX14.out.lt
      have HL6_16 := hid HX16.out.lt
      have HQ6 := hid HB.out.size
      replace HX5 := hid (HX5.out.below hA6)
      replace HS5 := hid (HS5.out.on hA6)
      replace HX12 := hid (HX12.out.below hA6)
      replace HS12 := hid (HS12.out.on hA6)
      replace HX14 := hid (HX14.out.below hA6)
      replace HS14 := hid (HS14.out.on hA6)
      replace HX16 := hid (HX16.out.below hA6)
      replace HS16 := hid (HS16.out.on hA6)
      replace HB := hid (HB.out.trans (hA6.mono HB.out.size))
      obtain ⟨g18, hg18⟩ : ∃ g, g = v6.heap.size := ⟨_, rfl⟩
      have HN18_5 := hid (show g5 ≠ g18 from by rw [hg18]; exact Nat.ne_of_lt HL6_5.out)
      clear HL6_5
      have HN18_12 := hid (show g12 ≠ g18 from by rw [hg18]; exact Nat.ne_of_lt HL6_12.out)
      clear HL6_12
      have HN18_14 := hid (show g14 ≠ g18 from by rw [hg18]; exact Nat.ne_of_lt HL6_14.out)
      clear HL6_14
      have HN18_16 := hid (show g16 ≠ g18 from by rw [hg18]; exact Nat.ne_of_lt HL6_16.out)
      clear HL6_16
      have HGE18 := hid (show w.heap.size ≤ g18 from by rw [hg18]; exact HQ6.out)
      clear HQ6
      rw [← hg18] at hx6 ⊢
      have HX18 := hid hx6
      clear hg18 hx6 hA6 hu6 HT6
      have p16x := HX16.out.c0
      have p16y := HX16.out.c1
      have p18x := HX18.out.c0
      have p18y := HX18.out.c1
      have CC7 := hid (same_yes (h + re) a5 a6 n c5 c6 l u6 HS16.out HS18.out)
      go_wp2_with fail
      refine CC7.out.mono ?_
      rintro e7 v7 ⟨rfl, hb7⟩
      clear p16x p16y p18x p18y
      clear CC7
      replace HX5 := hid (HX5.out.below hb7)
      replace HS5 := hid (HS5.out.on hb7)
      replace HX12 := hid (HX12.out.below hb7)
      replace HS12 := hid (HS12.out.on hb7)
      replace HX14 := hid (HX14.out.below hb7)
      replace HS14 := hid (HS14.out.on hb7)
      replace HX16 := hid (HX16.out.below hb7)
      replace HS16 := hid (HS16.out.on hb7)
      replace HX18 := hid (HX18.out.below hb7)
      replace HS18 := hid (HS18.out.on hb7)
      replace HB := hid (HB.out.trans (hb7.mono HB.out.size))
      clear hb7
      go_wp2
      go_ret
      exact ⟨rfl, HB.out⟩
    · have HLX : Hid (leaveR (h + k) (l ++ [⟨op, h, re, true⟩]) = ⟨h + re, l, 0⟩) := hid (by rw [HLE.out, if_neg g4, if_neg (fun hh => by cases hh.2)])
      clear HLE
      go_enter Try.func5, Try.ntmps5
      go_upto_region 1 with fail
      rw [← HW.out, ← HG.out]
      clear HW HG
      have CC1 := hid (awake_any W0)
      go_wp2_with fail
      refine CC1.out.mono ?_
      rintro e1 v1 ⟨rfl, hb1⟩
      clear CC1
      replace HX5 := hid (HX5.out.below hb1)
      replace HS5 := hid (HS5.out.on hb1)
      replace HB := hid (HB.out.trans (hb1.mono HB.out.size))
      clear hb1
      have p5x := HX5.out.c0
      have p5y := HX5.out.c1
      clear p5x p5y
      have p5x := HX5.out.c0
      have p5y := HX5.out.c1
      have CC2 := hid (enter_any h a n c l op re v1 HS5.out)
      go_wp2_with fail
      refine CC2.out.mono ?_
      intro e2 v2 hm2
      obtain ⟨a2, c2, rfl, ho2, hst2, hb2⟩ := hm2.at (h := h) (l := (l ++ [⟨op, h, re, false⟩])) (n := (n + 1)) (er := 0) (HEN.out) (HL0.out) (by omega)
      clear p5x p5y
      clear hm2 CC2
      replace HX5 := hid (HX5.out.below hb2)
      replace HS5 := hid (HS5.out.on hb2)
      replace HB := hid (HB.out.trans (hb2.mono HB.out.size))
      have HT2 := hid hst2
      clear ho2 hst2 hb2
      go_upto_region 5 with fail
      obtain ⟨u2, hu2⟩ : ∃ u, u = v2.alloc (.cells #[.int .i64 h, .slice a2 (n + 1) c2] 24) := ⟨_, rfl⟩
      rw [← hu2]
      have hA2 : Below v2.heap.size v2 u2 := by rw [hu2]; exact (Below.refl _ _).alloc (Nat.le_refl _) _
      have hx2 : Bx u2 v2.heap.size (.int .i64 h) (.slice a2 (n + 1) c2) := by rw [hu2]; exact Bx.made _ _ _
      have HS12 := hid (HT2.out.on hA2)
      have HL2_5 := hid HX5.out.lt
      have HQ2 := hid HB.out.size
      replace HX5 := hid (HX5.out.below hA2)
      replace HS5 := hid (HS5.out.on hA2)
      replace HB := hid (HB.out.trans (hA2.mono HB.out.size))
      obtain ⟨g12, hg12⟩ : ∃ g, g = v2.heap.size := ⟨_, rfl⟩
      have HN12_5 := hid (show g5 ≠ g12 from by rw [hg12]; exact Nat.ne_of_lt HL2_5.out)
      clear HL2_5
      have HGE12 := hid (show w.heap.size ≤ g12 from by rw [hg12]; exact HQ2.out)
      clear HQ2
      rw [← hg12] at hx2 ⊢
      have HX12 := hid hx2
      clear hg12 hx2 hA2 hu2 HT2
      go_upto_region 8 with fail
      have p12x := HX12.out.c0
      have p12y := HX12.out.c1
      have CC3 := hid (dead_any h a2 (n + 1) c2 (l ++ [⟨op, h, re, false⟩]) u2 HS12.out)
      go_wp2_with fail
      refine CC3.out.mono ?_
      intro e3 v3 hm3
      obtain ⟨a3, c3, rfl, ho3, hst3, hb3⟩ := hm3.at (h := h) (l := (l ++ [⟨op, h, re, true⟩])) (n := (n + 1)) (er := 0) (HDE.out) (HL1.out) (by omega)
      clear p12x p12y
      clear hm3 CC3
      replace HX5 := hid (HX5.out.below hb3)
      replace HS5 := hid (HS5.out.on hb3)
      replace HX12 := hid (HX12.out.below hb3)
      replace HS12 := hid (HS12.out.on hb3)
      replace HB := hid (HB.out.trans (hb3.mono HB.out.size))
      have HT3 := hid hst3
      clear ho3 hst3 hb3
      have q0 := HX12.out.c0
      have q1 := HX12.out.c1
      have q2 := HX12.out.f 0
      have q3 := HX12.out.f 1
      go_upto_region 9 with fail
      obtain ⟨u3, hu3⟩ : ∃ u, u = (v3.setCell ⟨g12, 0, none⟩ (.int .i64 h)).setCell ⟨g12, 1, none⟩ (.slice a3 (n + 1) c3) := ⟨_, rfl⟩
      rw [← hu3]
      clear q0 q1 q2 q3
      replace HX5 := hid ((HX5.out.far (p := ⟨g12, 0, none⟩) HN12_5.out (.int .i64 h)).far (p := ⟨g12, 1, none⟩) HN12_5.out (.slice a3 (n + 1) c3))
      replace HS5 := hid (HS5.out.set2 HX12.out (.int .i64 h) (.slice a3 (n + 1) c3))
      rw [← hu3] at HX5 HS5
      replace HS12 := hid (HT3.out.set2 HX12.out (.int .i64 h) (.slice a3 (n + 1) c3))
      replace HX12 := hid (box2 HX12.out (.int .i64 h) (.slice a3 (n + 1) c3))
      replace HB := hid ((HB.out.setCell (p := ⟨g12, 0, none⟩) HGE12.out (.int .i64 h)).setCell (p := ⟨g12, 1, none⟩) HGE12.out (.slice a3 (n + 1) c3))
      rw [← hu3] at HX12 HS12 HB
      clear hu3 HT3
      have p12x := HX12.out.c0
      have p12y := HX12.out.c1
      have CC4 := hid (push_any h a3 (n + 1) c3 (l ++ [⟨op, h, re, true⟩]) k u3 HS12.out)
      go_wp2_with fail
      refine CC4.out.mono ?_
      intro e4 v4 hm4
      obtain ⟨a4, c4, rfl, ho4, hst4, hb4⟩ := hm4.at (h := (h + k)) (l := (l ++ [⟨op, h, re, true⟩])) (n := (n + 1)) (er := 0) (HPU.out) (HL1.out) (by omega)
      clear p12x p12y
      clear hm4 CC4
      replace HX5 := hid (HX5.out.below hb4)
      replace HS5 := hid (HS5.out.on hb4)
      replace HX12 := hid (HX12.out.below hb4)
      replace HS12 := hid (HS12.out.on hb4)
      replace HB := hid (HB.out.trans (hb4.mono HB.out.size))
      have HT4 := hid hst4
      clear ho4 hst4 hb4
      go_upto_region 10 with fail
      obtain ⟨u4, hu4⟩ : ∃ u, u = v4.alloc (.cells #[.int .i64 (h + k), .slice a4 (n + 1) c4] 24) := ⟨_, rfl⟩
      rw [← hu4]
      have hA4 : Below v4.heap.size v4 u4 := by rw [hu4]; exact (Below.refl _ _).alloc (Nat.le_refl _) _
      have hx4 : Bx u4 v4.heap.size (.int .i64 (h + k)) (.slice a4 (n + 1) c4) := by rw [hu4]; exact Bx.made _ _ _
      have HS14 := hid (HT4.out.on hA4)
      have HL4_5 := hid HX5.out.lt
      have HL4_12 := hid HX12.out.lt
      have HQ4 := hid HB.out.size
      replace HX5 := hid (HX5.out.below hA4)
      replace HS5 := hid (HS5.out.on hA4)
      replace HX12 := hid (HX12.out.below hA4)
      replace HS12 := hid (HS12.out.on hA4)
      replace HB := hid (HB.out.trans (hA4.mono HB.out.size))
      obtain ⟨g14, hg14⟩ : ∃ g, g = v4.heap.size := ⟨_, rfl⟩
      have HN14_5 := hid (show g5 ≠ g14 from by rw [hg14]; exact Nat.ne_of_lt HL4_5.out)
      clear HL4_5
      have HN14_12 := hid (show g12 ≠ g14 from by rw [hg14]; exact Nat.ne_of_lt HL4_12.out)
      clear HL4_12
      have HGE14 := hid (show w.heap.size ≤ g14 from by rw [hg14]; exact HQ4.out)
      clear HQ4
      rw [← hg14] at hx4 ⊢
      have HX14 := hid hx4
      clear hg14 hx4 hA4 hu4 HT4
      have p14x := HX14.out.c0
      have p14y := HX14.out.c1
      have CC5 := hid (leave_any (h + k) a4 (n + 1) c4 (l ++ [⟨op, h, re, true⟩]) u4 HS14.out)
      go_wp2_with fail
      refine CC5.out.mono ?_
      intro e5 v5 hm5
      obtain ⟨a5, c5, rfl, ho5, hst5, hb5⟩ := hm5.at (h := (h + re)) (l := l) (n := n) (er := 0) (HLX.out) (HLN.out) (by omega)
      clear p14x p14y
      clear hm5 CC5
      replace HX5 := hid (HX5.out.below hb5)
      replace HS5 := hid (HS5.out.on hb5)
      replace HX12 := hid (HX12.out.below hb5)
      replace HS12 := hid (HS12.out.on hb5)
      replace HX14 := hid (HX14.out.below hb5)
      replace HS14 := hid (HS14.out.on hb5)
      replace HB := hid (HB.out.trans (hb5.mono HB.out.size))
      have HT5 := hid hst5
      clear ho5 hst5 hb5
      go_upto_region 13 with fail
      obtain ⟨u5, hu5⟩ : ∃ u, u = v5.alloc (.cells #[.int .i64 (h + re), .slice a5 n c5] 24) := ⟨_, rfl⟩
      rw [← hu5]
      have hA5 : Below v5.heap.size v5 u5 := by rw [hu5]; exact (Below.refl _ _).alloc (Nat.le_refl _) _
      have hx5 : Bx u5 v5.heap.size (.int .i64 (h + re)) (.slice a5 n c5) := by rw [hu5]; exact Bx.made _ _ _
      have HS16 := hid (HT5.out.on hA5)
      have HL5_5 := hid HX5.out.lt
      have HL5_12 := hid HX12.out.lt
      have HL5_14 := hid HX14.out.lt
      have HQ5 := hid HB.out.size
      replace HX5 := hid (HX5.out.below hA5)
      replace HS5 := hid (HS5.out.on hA5)
      replace HX12 := hid (HX12.out.below hA5)
      replace HS12 := hid (HS12.out.on hA5)
      replace HX14 := hid (HX14.out.below hA5)
      replace HS14 := hid (HS14.out.on hA5)
      replace HB := hid (HB.out.trans (hA5.mono HB.out.size))
      obtain ⟨g16, hg16⟩ : ∃ g, g = v5.heap.size := ⟨_, rfl⟩
      have HN16_5 := hid (show g5 ≠ g16 from by rw [hg16]; exact Nat.ne_of_lt HL5_5.out)
      clear HL5_5
      have HN16_12 := hid (show g12 ≠ g16 from by rw [hg16]; exact Nat.ne_of_lt HL5_12.out)
      clear HL5_12
      have HN16_14 := hid (show g14 ≠ g16 from by rw [hg16]; exact Nat.ne_of_lt HL5_14.out)
      clear HL5_14
      have HGE16 := hid (show w.heap.size ≤ g16 from by rw [hg16]; exact HQ5.out)
      clear HQ5
      rw [← hg16] at hx5 ⊢
      have HX16 := hid hx5
      clear hg16 hx5 hA5 hu5 HT5
      have p5x := HX5.out.c0
      have p5y := HX5.out.c1
      have CC6 := hid (push_any h a n c l re u5 HS5.out)
      go_wp2_with fail
      refine CC6.out.mono ?_
      intro e6 v6 hm6
      obtain ⟨a6, c6, rfl, ho6, hst6, hb6⟩ := hm6.at (h := (h + re)) (l := l) (n := n) (er := 0) (HPW.out) (HLN.out) (by omega)
      clear p5x p5y
      clear hm6 CC6
      replace HX5 := hid (HX5.out.below hb6)
      replace HS5 := hid (HS5.out.on hb6)
      replace HX12 := hid (HX12.out.below hb6)
      replace HS12 := hid (HS12.out.on hb6)
      replace HX14 := hid (HX14.out.below hb6)
      replace HS14 := hid (HS14.out.on hb6)
      replace HX16 := hid (HX16.out.below hb6)
      replace HS16 := hid (HS16.out.on hb6)
      replace HB := hid (HB.out.trans (hb6.mono HB.out.size))
      have HT6 := hid hst6
      clear ho6 hst6 hb6
      go_upto_region 18 with fail
      obtain ⟨u6, hu6⟩ : ∃ u, u = v6.alloc (.cells #[.int .i64 (h + re), .slice a6 n c6] 24) := ⟨_, rfl⟩
      rw [← hu6]
      have hA6 : Below v6.heap.size v6 u6 := by rw [hu6]; exact (Below.refl _ _).alloc (Nat.le_refl _) _
      have hx6 : Bx u6 v6.heap.size (.int .i64 (h + re)) (.slice a6 n c6) := by rw [hu6]; exact Bx.made _ _ _
      have HS18 := hid (HT6.out.on hA6)
      have HL6_5 := hid HX5.out.lt
      have HL6_12 := hid HX12.out.lt
      have HL6_14 := hid HX14.out.lt
      have HL6_16 := hid HX16.out.lt
      have HQ6 := hid HB.out.size
      replace HX5 := hid (HX5.out.below hA6)
      replace HS5 := hid (HS5.out.on hA6)
      replace HX12 := hid (HX12.out.below hA6)
      replace HS12 := hid (HS12.out.on hA6)
      replace HX14 := hid (HX14.out.below hA6)
      replace HS14 := hid (HS14.out.on hA6)
      replace HX16 := hid (HX16.out.below hA6)
      replace HS16 := hid (HS16.out.on hA6)
      replace HB := hid (HB.out.trans (hA6.mono HB.out.size))
      obtain ⟨g18, hg18⟩ : ∃ g, g = v6.heap.size := ⟨_, rfl⟩
      have HN18_5 := hid (show g5 ≠ g18 from by rw [hg18]; exact Nat.ne_of_lt HL6_5.out)
      clear HL6_5
      have HN18_12 := hid (show g12 ≠ g18 from by rw [hg18]; exact Nat.ne_of_lt HL6_12.out)
      clear HL6_12
      have HN18_14 := hid (show g14 ≠ g18 from by rw [hg18]; exact Nat.ne_of_lt HL6_14.out)
      clear HL6_14
      have HN18_16 := hid (show g16 ≠ g18 from by rw [hg18]; exact Nat.ne_of_lt HL6_16.out)
      clear HL6_16
      have HGE18 := hid (show w.heap.size ≤ g18 from by rw [hg18]; exact HQ6.out)
      clear HQ6
      rw [← hg18] at hx6 ⊢
      have HX18 := hid hx6
      clear hg18 hx6 hA6 hu6 HT6
      have p16x := HX16.out.c0
      have p16y := HX16.out.c1
      have p18x := HX18.out.c0
      have p18y := HX18.out.c1
      have CC7 := hid (same_yes (h + re) a5 a6 n c5 c6 l u6 HS16.out HS18.out)
      go_wp2_with fail
      refine CC7.out.mono ?_
      rintro e7 v7 ⟨rfl, hb7⟩
      clear p16x p16y p18x p18y
      clear CC7
      replace HX5 := hid (HX5.out.below hb7)
      replace HS5 := hid (HS5.out.on hb7)
      replace HX12 := hid (HX12.out.below hb7)
      replace HS12 := hid (HS12.out.on hb7)
      replace HX14 := hid (HX14.out.below hb7)
      replace HS14 := hid (HS14.out.on hb7)
      replace HX16 := hid (HX16.out.below hb7)
      replace HS16 := hid (HS16.out.on hb7)
      replace HX18 := hid (HX18.out.below hb7)
      replace HS18 := hid (HS18.out.on hb7)
      replace HB := hid (HB.out.trans (hb7.mono HB.out.size))
      clear hb7
      go_wp2
      go_ret
      exact ⟨rfl, HB.out⟩
  | false =>
    by_cases g4 : re < k
    · have HLX : Hid (leaveR (h + k) (l ++ [⟨op, h, re, false⟩]) = ⟨0, [], 201⟩) := hid (by rw [HLE.out, if_pos g4])
      clear HLE
      go_enter Try.func5, Try.ntmps5
      go_upto_region 1 with fail
      rw [← HW.out, ← HG.out]
      clear HW HG
      have CC1 := hid (awake_any W0)
      go_wp2_with fail
      refine CC1.out.mono ?_
      rintro e1 v1 ⟨rfl, hb1⟩
      clear CC1
      replace HX5 := hid (HX5.out.below hb1)
      replace HS5 := hid (HS5.out.on hb1)
      replace HB := hid (HB.out.trans (hb1.mono HB.out.size))
      clear hb1
      have p5x := HX5.out.c0
      have p5y := HX5.out.c1
      clear p5x p5y
      have p5x := HX5.out.c0
      have p5y := HX5.out.c1
      have CC2 := hid (enter_any h a n c l op re v1 HS5.out)
      go_wp2_with fail
      refine CC2.out.mono ?_
      intro e2 v2 hm2
      obtain ⟨a2, c2, rfl, ho2, hst2, hb2⟩ := hm2.at (h := h) (l := (l ++ [⟨op, h, re, false⟩])) (n := (n + 1)) (er := 0) (HEN.out) (HL0.out) (by omega)
      clear p5x p5y
      clear hm2 CC2
      replace HX5 := hid (HX5.out.below hb2)
      replace HS5 := hid (HS5.out.on hb2)
      replace HB := hid (HB.out.trans (hb2.mono HB.out.size))
      have HT2 := hid hst2
      clear ho2 hst2 hb2
      go_upto_region 5 with fail
      obtain ⟨u2, hu2⟩ : ∃ u, u = v2.alloc (.cells #[.int .i64 h, .slice a2 (n + 1) c2] 24) := ⟨_, rfl⟩
      rw [← hu2]
      have hA2 : Below v2.heap.size v2 u2 := by rw [hu2]; exact (Below.refl _ _).alloc (Nat.le_refl _) _
      have hx2 : Bx u2 v2.heap.size (.int .i64 h) (.slice a2 (n + 1) c2) := by rw [hu2]; exact Bx.made _ _ _
      have HS12 := hid (HT2.out.on hA2)
      have HL2_5 := hid HX5.out.lt
      have HQ2 := hid HB.out.size
      replace HX5 := hid (HX5.out.below hA2)
      replace HS5 := hid (HS5.out.on hA2)
      replace HB := hid (HB.out.trans (hA2.mono HB.out.size))
      obtain ⟨g12, hg12⟩ : ∃ g, g = v2.heap.size := ⟨_, rfl⟩
      have HN12_5 := hid (show g5 ≠ g12 from by rw [hg12]; exact Nat.ne_of_lt HL2_5.out)
      clear HL2_5
      have HGE12 := hid (show w.heap.size ≤ g12 from by rw [hg12]; exact HQ2.out)
      clear HQ2
      rw [← hg12] at hx2 ⊢
      have HX12 := hid hx2
      clear hg12 hx2 hA2 hu2 HT2
      have p12x := HX12.out.c0
      have p12y := HX12.out.c1
      have CC3 := hid (push_any h a2 (n + 1) c2 (l ++ [⟨op, h, re, false⟩]) k u2 HS12.out)
      go_wp2_with fail
      refine CC3.out.mono ?_
      intro e3 v3 hm3
      obtain ⟨a3, c3, rfl, ho3, hst3, hb3⟩ := hm3.at (h := (h + k)) (l := (l ++ [⟨op, h, re, false⟩])) (n := (n + 1)) (er := 0) (HPU.out) (HL1.out) (by omega)
      clear p12x p12y
      clear hm3 CC3
      replace HX5 := hid (HX5.out.below hb3)
      replace HS5 := hid (HS5.out.on hb3)
      replace HX12 := hid (HX12.out.below hb3)
      replace HS12 := hid (HS12.out.on hb3)
      replace HB := hid (HB.out.trans (hb3.mono HB.out.size))
      have HT3 := hid hst3
      clear ho3 hst3 hb3
      go_upto_region 10 with fail
      obtain ⟨u3, hu3⟩ : ∃ u, u = v3.alloc (.cells #[.int .i64 (h + k), .slice a3 (n + 1) c3] 24) := ⟨_, rfl⟩
      rw [← hu3]
      have hA3 : Below v3.heap.size v3 u3 := by rw [hu3]; exact (Below.refl _ _).alloc (Nat.le_refl _) _
      have hx3 : Bx u3 v3.heap.size (.int .i64 (h + k)) (.slice a3 (n + 1) c3) := by rw [hu3]; exact Bx.made _ _ _
      have HS14 := hid (HT3.out.on hA3)
      have HL3_5 := hid HX5.out.lt
      have HL3_12 := hid HX12.out.lt
      have HQ3 := hid HB.out.size
      replace HX5 := hid (HX5.out.below hA3)
      replace HS5 := hid (HS5.out.on hA3)
      replace HX12 := hid (HX12.out.below hA3)
      replace HS12 := hid (HS12.out.on hA3)
      replace HB := hid (HB.out.trans (hA3.mono HB.out.size))
      obtain ⟨g14, hg14⟩ : ∃ g, g = v3.heap.size := ⟨_, rfl⟩
      have HN14_5 := hid (show g5 ≠ g14 from by rw [hg14]; exact Nat.ne_of_lt HL3_5.out)
      clear HL3_5
      have HN14_12 := hid (show g12 ≠ g14 from by rw [hg14]; exact Nat.ne_of_lt HL3_12.out)
      clear HL3_12
      have HGE14 := hid (show w.heap.size ≤ g14 from by rw [hg14]; exact HQ3.out)
      clear HQ3
      rw [← hg14] at hx3 ⊢
      have HX14 := hid hx3
      clear hg14 hx3 hA3 hu3 HT3
      have p14x := HX14.out.c0
      have p14y := HX14.out.c1
      have CC4 := hid (leave_any (h + k) a3 (n + 1) c3 (l ++ [⟨op, h, re, false⟩]) u3 HS14.out)
      go_wp2_with fail
      refine CC4.out.mono ?_
      intro e4 v4 hm4
      obtain ⟨a4, c4, rfl, ho4, hst4, hb4⟩ := hm4.at (h := 0) (l := []) (n := 0) (er := 201) (HLX.out) (rfl) (by omega)
      clear p14x p14y
      clear hm4 CC4
      replace HX5 := hid (HX5.out.below hb4)
      replace HS5 := hid (HS5.out.on hb4)
      replace HX12 := hid (HX12.out.below hb4)
      replace HS12 := hid (HS12.out.on hb4)
      replace HX14 := hid (HX14.out.below hb4)
      replace HS14 := hid (HS14.out.on hb4)
      replace HB := hid (HB.out.trans (hb4.mono HB.out.size))
      have HT4 := hid hst4
      clear ho4 hst4 hb4
      go_upto_region 13 with fail
      obtain ⟨u4, hu4⟩ : ∃ u, u = v4.alloc (.cells #[.int .i64 0, .slice a4 0 c4] 24) := ⟨_, rfl⟩
      rw [← hu4]
      have hA4 : Below v4.heap.size v4 u4 := by rw [hu4]; exact (Below.refl _ _).alloc (Nat.le_refl _) _
      have hx4 : Bx u4 v4.heap.size (.int .i64 0) (.slice a4 0 c4) := by rw [hu4]; exact Bx.made _ _ _
      have HS16 := hid (HT4.out.on hA4)
      have HL4_5 := hid HX5.out.lt
      have HL4_12 := hid HX12.out.lt
      have HL4_14 := hid HX14.out.lt
      have HQ4 := hid HB.out.size
      replace HX5 := hid (HX5.out.below hA4)
      replace HS5 := hid (HS5.out.on hA4)
      replace HX12 := hid (HX12.out.below hA4)
      replace HS12 := hid (HS12.out.on hA4)
      replace HX14 := hid (HX14.out.below hA4)
      replace HS14 := hid (HS14.out.on hA4)
      replace HB := hid (HB.out.trans (hA4.mono HB.out.size))
      obtain ⟨g16, hg16⟩ : ∃ g, g = v4.heap.size := ⟨_, rfl⟩
      have HN16_5 := hid (show g5 ≠ g16 from by rw [hg16]; exact Nat.ne_of_lt HL4_5.out)
      clear HL4_5
      have HN16_12 := hid (show g12 ≠ g16 from by rw [hg16]; exact Nat.ne_of_lt HL4_12.out)
      clear HL4_12
      have HN16_14 := hid (show g14 ≠ g16 from by rw [hg16]; exact Nat.ne_of_lt HL4_14.out)
      clear HL4_14
      have HGE16 := hid (show w.heap.size ≤ g16 from by rw [hg16]; exact HQ4.out)
      clear HQ4
      rw [← hg16] at hx4 ⊢
      have HX16 := hid hx4
      clear hg16 hx4 hA4 hu4 HT4
      go_wp2
      go_ret
      exact ⟨rfl, HB.out⟩
    by_cases z5 : k < re
    · have HLX : Hid (leaveR (h + k) (l ++ [⟨op, h, re, false⟩]) = ⟨0, [], 200⟩) := hid (by rw [HLE.out, if_neg g4, if_pos ⟨z5, rfl⟩])
      clear HLE
      go_enter Try.func5, Try.ntmps5
      go_upto_region 1 with fail
      rw [← HW.out, ← HG.out]
      clear HW HG
      have CC1 := hid (awake_any W0)
      go_wp2_with fail
      refine CC1.out.mono ?_
      rintro e1 v1 ⟨rfl, hb1⟩
      clear CC1
      replace HX5 := hid (HX5.out.below hb1)
      replace HS5 := hid (HS5.out.on hb1)
      replace HB := hid (HB.out.trans (hb1.mono HB.out.size))
      clear hb1
      have p5x := HX5.out.c0
      have p5y := HX5.out.c1
      clear p5x p5y
      have p5x := HX5.out.c0
      have p5y := HX5.out.c1
      have CC2 := hid (enter_any h a n c l op re v1 HS5.out)
      go_wp2_with fail
      refine CC2.out.mono ?_
      intro e2 v2 hm2
      obtain ⟨a2, c2, rfl, ho2, hst2, hb2⟩ := hm2.at (h := h) (l := (l ++ [⟨op, h, re, false⟩])) (n := (n + 1)) (er := 0) (HEN.out) (HL0.out) (by omega)
      clear p5x p5y
      clear hm2 CC2
      replace HX5 := hid (HX5.out.below hb2)
      replace HS5 := hid (HS5.out.on hb2)
      replace HB := hid (HB.out.trans (hb2.mono HB.out.size))
      have HT2 := hid hst2
      clear ho2 hst2 hb2
      go_upto_region 5 with fail
      obtain ⟨u2, hu2⟩ : ∃ u, u = v2.alloc (.cells #[.int .i64 h, .slice a2 (n + 1) c2] 24) := ⟨_, rfl⟩
      rw [← hu2]
      have hA2 : Below v2.heap.size v2 u2 := by rw [hu2]; exact (Below.refl _ _).alloc (Nat.le_refl _) _
      have hx2 : Bx u2 v2.heap.size (.int .i64 h) (.slice a2 (n + 1) c2) := by rw [hu2]; exact Bx.made _ _ _
      have HS12 := hid (HT2.out.on hA2)
      have HL2_5 := hid HX5.out.lt
      have HQ2 := hid HB.out.size
      replace HX5 := hid (HX5.out.below hA2)
      replace HS5 := hid (HS5.out.on hA2)
      replace HB := hid (HB.out.trans (hA2.mono HB.out.size))
      obtain ⟨g12, hg12⟩ : ∃ g, g = v2.heap.size := ⟨_, rfl⟩
      have HN12_5 := hid (show g5 ≠ g12 from by rw [hg12]; exact Nat.ne_of_lt HL2_5.out)
      clear HL2_5
      have HGE12 := hid (show w.heap.size ≤ g12 from by rw [hg12]; exact HQ2.out)
      clear HQ2
      rw [← hg12] at hx2 ⊢
      have HX12 := hid hx2
      clear hg12 hx2 hA2 hu2 HT2
      have p12x := HX12.out.c0
      have p12y := HX12.out.c1
      have CC3 := hid (push_any h a2 (n + 1) c2 (l ++ [⟨op, h, re, false⟩]) k u2 HS12.out)
      go_wp2_with fail
      refine CC3.out.mono ?_
      intro e3 v3 hm3
      obtain ⟨a3, c3, rfl, ho3, hst3, hb3⟩ := hm3.at (h := (h + k)) (l := (l ++ [⟨op, h, re, false⟩])) (n := (n + 1)) (er := 0) (HPU.out) (HL1.out) (by omega)
      clear p12x p12y
      clear hm3 CC3
      replace HX5 := hid (HX5.out.below hb3)
      replace HS5 := hid (HS5.out.on hb3)
      replace HX12 := hid (HX12.out.below hb3)
      replace HS12 := hid (HS12.out.on hb3)
      replace HB := hid (HB.out.trans (hb3.mono HB.out.size))
      have HT3 := hid hst3
      clear ho3 hst3 hb3
      go_upto_region 10 with fail
      obtain ⟨u3, hu3⟩ : ∃ u, u = v3.alloc (.cells #[.int .i64 (h + k), .slice a3 (n + 1) c3] 24) := ⟨_, rfl⟩
      rw [← hu3]
      have hA3 : Below v3.heap.size v3 u3 := by rw [hu3]; exact (Below.refl _ _).alloc (Nat.le_refl _) _
      have hx3 : Bx u3 v3.heap.size (.int .i64 (h + k)) (.slice a3 (n + 1) c3) := by rw [hu3]; exact Bx.made _ _ _
      have HS14 := hid (HT3.out.on hA3)
      have HL3_5 := hid HX5.out.lt
      have HL3_12 := hid HX12.out.lt
      have HQ3 := hid HB.out.size
      replace HX5 := hid (HX5.out.below hA3)
      replace HS5 := hid (HS5.out.on hA3)
      replace HX12 := hid (HX12.out.below hA3)
      replace HS12 := hid (HS12.out.on hA3)
      replace HB := hid (HB.out.trans (hA3.mono HB.out.size))
      obtain ⟨g14, hg14⟩ : ∃ g, g = v3.heap.size := ⟨_, rfl⟩
      have HN14_5 := hid (show g5 ≠ g14 from by rw [hg14]; exact Nat.ne_of_lt HL3_5.out)
      clear HL3_5
      have HN14_12 := hid (show g12 ≠ g14 from by rw [hg14]; exact Nat.ne_of_lt HL3_12.out)
      clear HL3_12
      have HGE14 := hid (show w.heap.size ≤ g14 from by rw [hg14]; exact HQ3.out)
      clear HQ3
      rw [← hg14] at hx3 ⊢
      have HX14 := hid hx3
      clear hg14 hx3 hA3 hu3 HT3
      have p14x := HX14.out.c0
      have p14y := HX14.out.c1
      have CC4 := hid (leave_any (h + k) a3 (n + 1) c3 (l ++ [⟨op, h, re, false⟩]) u3 HS14.out)
      go_wp2_with fail
      refine CC4.out.mono ?_
      intro e4 v4 hm4
      obtain ⟨a4, c4, rfl, ho4, hst4, hb4⟩ := hm4.at (h := 0) (l := []) (n := 0) (er := 200) (HLX.out) (rfl) (by omega)
      clear p14x p14y
      clear hm4 CC4
      replace HX5 := hid (HX5.out.below hb4)
      replace HS5 := hid (HS5.out.on hb4)
      replace HX12 := hid (HX12.out.below hb4)
      replace HS12 := hid (HS12.out.on hb4)
      replace HX14 := hid (HX14.out.below hb4)
      replace HS14 := hid (HS14.out.on hb4)
      replace HB := hid (HB.out.trans (hb4.mono HB.out.size))
      have HT4 := hid hst4
      clear ho4 hst4 hb4
      go_upto_region 13 with fail
      obtain ⟨u4, hu4⟩ : ∃ u, u = v4.alloc (.cells #[.int .i64 0, .slice a4 0 c4] 24) := ⟨_, rfl⟩
      rw [← hu4]
      have hA4 : Below v4.heap.size v4 u4 := by rw [hu4]; exact (Below.refl _ _).alloc (Nat.le_refl _) _
      have hx4 : Bx u4 v4.heap.size (.int .i64 0) (.slice a4 0 c4) := by rw [hu4]; exact Bx.made _ _ _
      have HS16 := hid (HT4.out.on hA4)
      have HL4_5 := hid HX5.out.lt
      have HL4_12 := hid HX12.out.lt
      have HL4_14 := hid HX14.out.lt
      have HQ4 := hid HB.out.size
      replace HX5 := hid (HX5.out.below hA4)
      replace HS5 := hid (HS5.out.on hA4)
      replace HX12 := hid (HX12.out.below hA4)
      replace HS12 := hid (HS12.out.on hA4)
      replace HX14 := hid (HX14.out.below hA4)
      replace HS14 := hid (HS14.out.on hA4)
      replace HB := hid (HB.out.trans (hA4.mono HB.out.size))
      obtain ⟨g16, hg16⟩ : ∃ g, g = v4.heap.size := ⟨_, rfl⟩
      have HN16_5 := hid (show g5 ≠ g16 from by rw [hg16]; exact Nat.ne_of_lt HL4_5.out)
      clear HL4_5
      have HN16_12 := hid (show g12 ≠ g16 from by rw [hg16]; exact Nat.ne_of_lt HL4_12.out)
      clear HL4_12
      have HN16_14 := hid (show g14 ≠ g16 from by rw [hg16]; exact Nat.ne_of_lt HL4_14.out)
      clear HL4_14
      have HGE16 := hid (show w.heap.size ≤ g16 from by rw [hg16]; exact HQ4.out)
      clear HQ4
      rw [← hg16] at hx4 ⊢
      have HX16 := hid hx4
      clear hg16 hx4 hA4 hu4 HT4
      go_wp2
      go_ret
      exact ⟨rfl, HB.out⟩
    · have HLX : Hid (leaveR (h + k) (l ++ [⟨op, h, re, false⟩]) = ⟨h + re, l, 0⟩) := hid (by rw [HLE.out, if_neg g4, if_neg (fun hh => z5 hh.1)])
      clear HLE
      go_enter Try.func5, Try.ntmps5
      go_upto_region 1 with fail
      rw [← HW.out, ← HG.out]
      clear HW HG
      have CC1 := hid (awake_any W0)
      go_wp2_with fail
      refine CC1.out.mono ?_
      rintro e1 v1 ⟨rfl, hb1⟩
      clear CC1
      replace HX5 := hid (HX5.out.below hb1)
      replace HS5 := hid (HS5.out.on hb1)
      replace HB := hid (HB.out.trans (hb1.mono HB.out.size))
      clear hb1
      have p5x := HX5.out.c0
      have p5y := HX5.out.c1
      clear p5x p5y
      have p5x := HX5.out.c0
      have p5y := HX5.out.c1
      have CC2 := hid (enter_any h a n c l op re v1 HS5.out)
      go_wp2_with fail
      refine CC2.out.mono ?_
      intro e2 v2 hm2
      obtain ⟨a2, c2, rfl, ho2, hst2, hb2⟩ := hm2.at (h := h) (l := (l ++ [⟨op, h, re, false⟩])) (n := (n + 1)) (er := 0) (HEN.out) (HL0.out) (by omega)
      clear p5x p5y
      clear hm2 CC2
      replace HX5 := hid (HX5.out.below hb2)
      replace HS5 := hid (HS5.out.on hb2)
      replace HB := hid (HB.out.trans (hb2.mono HB.out.size))
      have HT2 := hid hst2
      clear ho2 hst2 hb2
      go_upto_region 5 with fail
      obtain ⟨u2, hu2⟩ : ∃ u, u = v2.alloc (.cells #[.int .i64 h, .slice a2 (n + 1) c2] 24) := ⟨_, rfl⟩
      rw [← hu2]
      have hA2 : Below v2.heap.size v2 u2 := by rw [hu2]; exact (Below.refl _ _).alloc (Nat.le_refl _) _
      have hx2 : Bx u2 v2.heap.size (.int .i64 h) (.slice a2 (n + 1) c2) := by rw [hu2]; exact Bx.made _ _ _
      have HS12 := hid (HT2.out.on hA2)
      have HL2_5 := hid HX5.out.lt
      have HQ2 := hid HB.out.size
      replace HX5 := hid (HX5.out.below hA2)
      replace HS5 := hid (HS5.out.on hA2)
      replace HB := hid (HB.out.trans (hA2.mono HB.out.size))
      obtain ⟨g12, hg12⟩ : ∃ g, g = v2.heap.size := ⟨_, rfl⟩
      have HN12_5 := hid (show g5 ≠ g12 from by rw [hg12]; exact Nat.ne_of_lt HL2_5.out)
      clear HL2_5
      have HGE12 := hid (show w.heap.size ≤ g12 from by rw [hg12]; exact HQ2.out)
      clear HQ2
      rw [← hg12] at hx2 ⊢
      have HX12 := hid hx2
      clear hg12 hx2 hA2 hu2 HT2
      have p12x := HX12.out.c0
      have p12y := HX12.out.c1
      have CC3 := hid (push_any h a2 (n + 1) c2 (l ++ [⟨op, h, re, false⟩]) k u2 HS12.out)
      go_wp2_with fail
      refine CC3.out.mono ?_
      intro e3 v3 hm3
      obtain ⟨a3, c3, rfl, ho3, hst3, hb3⟩ := hm3.at (h := (h + k)) (l := (l ++ [⟨op, h, re, false⟩])) (n := (n + 1)) (er := 0) (HPU.out) (HL1.out) (by omega)
      clear p12x p12y
      clear hm3 CC3
      replace HX5 := hid (HX5.out.below hb3)
      replace HS5 := hid (HS5.out.on hb3)
      replace HX12 := hid (HX12.out.below hb3)
      replace HS12 := hid (HS12.out.on hb3)
      replace HB := hid (HB.out.trans (hb3.mono HB.out.size))
      have HT3 := hid hst3
      clear ho3 hst3 hb3
      go_upto_region 10 with fail
      obtain ⟨u3, hu3⟩ : ∃ u, u = v3.alloc (.cells #[.int .i64 (h + k), .slice a3 (n + 1) c3] 24) := ⟨_, rfl⟩
      rw [← hu3]
      have hA3 : Below v3.heap.size v3 u3 := by rw [hu3]; exact (Below.refl _ _).alloc (Nat.le_refl _) _
      have hx3 : Bx u3 v3.heap.size (.int .i64 (h + k)) (.slice a3 (n + 1) c3) := by rw [hu3]; exact Bx.made _ _ _
      have HS14 := hid (HT3.out.on hA3)
      have HL3_5 := hid HX5.out.lt
      have HL3_12 := hid HX12.out.lt
      have HQ3 := hid HB.out.size
      replace HX5 := hid (HX5.out.below hA3)
      replace HS5 := hid (HS5.out.on hA3)
      replace HX12 := hid (HX12.out.below hA3)
      replace HS12 := hid (HS12.out.on hA3)
      replace HB := hid (HB.out.trans (hA3.mono HB.out.size))
      obtain ⟨g14, hg14⟩ : ∃ g, g = v3.heap.size := ⟨_, rfl⟩
      have HN14_5 := hid (show g5 ≠ g14 from by rw [hg14]; exact Nat.ne_of_lt HL3_5.out)
      clear HL3_5
      have HN14_12 := hid (show g12 ≠ g14 from by rw [hg14]; exact Nat.ne_of_lt HL3_12.out)
      clear HL3_12
      have HGE14 := hid (show w.heap.size ≤ g14 from by rw [hg14]; exact HQ3.out)
      clear HQ3
      rw [← hg14] at hx3 ⊢
      have HX14 := hid hx3
      clear hg14 hx3 hA3 hu3 HT3
      have p14x := HX14.out.c0
      have p14y := HX14.out.c1
      have CC4 := hid (leave_any (h + k) a3 (n + 1) c3 (l ++ [⟨op, h, re, false⟩]) u3 HS14.out)
      go_wp2_with fail
      refine CC4.out.mono ?_
      intro e4 v4 hm4
      obtain ⟨a4, c4, rfl, ho4, hst4, hb4⟩ := hm4.at (h := (h + re)) (l := l) (n := n) (er := 0) (HLX.out) (HLN.out) (by omega)
      clear p14x p14y
      clear hm4 CC4
      replace HX5 := hid (HX5.out.below hb4)
      replace HS5 := hid (HS5.out.on hb4)
      replace HX12 := hid (HX12.out.below hb4)
      replace HS12 := hid (HS12.out.on hb4)
      replace HX14 := hid (HX14.out.below hb4)
      replace HS14 := hid (HS14.out.on hb4)
      replace HB := hid (HB.out.trans (hb4.mono HB.out.size))
      have HT4 := hid hst4
      clear ho4 hst4 hb4
      go_upto_region 13 with fail
      obtain ⟨u4, hu4⟩ : ∃ u, u = v4.alloc (.cells #[.int .i64 (h + re), .slice a4 n c4] 24) := ⟨_, rfl⟩
      rw [← hu4]
      have hA4 : Below v4.heap.size v4 u4 := by rw [hu4]; exact (Below.refl _ _).alloc (Nat.le_refl _) _
      have hx4 : Bx u4 v4.heap.size (.int .i64 (h + re)) (.slice a4 n c4) := by rw [hu4]; exact Bx.made _ _ _
      have HS16 := hid (HT4.out.on hA4)
      have HL4_5 := hid HX5.out.lt
      have HL4_12 := hid HX12.out.lt
      have HL4_14 := hid HX14.out.lt
      have HQ4 := hid HB.out.size
      replace HX5 := hid (HX5.out.below hA4)
      replace HS5 := hid (HS5.out.on hA4)
      replace HX12 := hid (HX12.out.below hA4)
      replace HS12 := hid (HS12.out.on hA4)
      replace HX14 := hid (HX14.out.below hA4)
      replace HS14 := hid (HS14.out.on hA4)
      replace HB := hid (HB.out.trans (hA4.mono HB.out.size))
      obtain ⟨g16, hg16⟩ : ∃ g, g = v4.heap.size := ⟨_, rfl⟩
      have HN16_5 := hid (show g5 ≠ g16 from by rw [hg16]; exact Nat.ne_of_lt HL4_5.out)
      clear HL4_5
      have HN16_12 := hid (show g12 ≠ g16 from by rw [hg16]; exact Nat.ne_of_lt HL4_12.out)
      clear HL4_12
      have HN16_14 := hid (show g14 ≠ g16 from by rw [hg16]; exact Nat.ne_of_lt HL4_14.out)
      clear HL4_14
      have HGE16 := hid (show w.heap.size ≤ g16 from by rw [hg16]; exact HQ4.out)
      clear HQ4
      rw [← hg16] at hx4 ⊢
      have HX16 := hid hx4
      clear hg16 hx4 hA4 hu4 HT4
      have p5x := HX5.out.c0
      have p5y := HX5.out.c1
      have CC5 := hid (push_any h a n c l re u4 HS5.out)
      go_wp2_with fail
      refine CC5.out.mono ?_
      intro e5 v5 hm5
      obtain ⟨a5, c5, rfl, ho5, hst5, hb5⟩ := hm5.at (h := (h + re)) (l := l) (n := n) (er := 0) (HPW.out) (HLN.out) (by omega)
      clear p5x p5y
      clear hm5 CC5
      replace HX5 := hid (HX5.out.below hb5)
      replace HS5 := hid (HS5.out.on hb5)
      replace HX12 := hid (HX12.out.below hb5)
      replace HS12 := hid (HS12.out.on hb5)
      replace HX14 := hid (HX14.out.below hb5)
      replace HS14 := hid (HS14.out.on hb5)
      replace HX16 := hid (HX16.out.below hb5)
      replace HS16 := hid (HS16.out.on hb5)
      replace HB := hid (HB.out.trans (hb5.mono HB.out.size))
      have HT5 := hid hst5
      clear ho5 hst5 hb5
      go_upto_region 18 with fail
      obtain ⟨u5, hu5⟩ : ∃ u, u = v5.alloc (.cells #[.int .i64 (h + re), .slice a5 n c5] 24) := ⟨_, rfl⟩
      rw [← hu5]
      have hA5 : Below v5.heap.size v5 u5 := by rw [hu5]; exact (Below.refl _ _).alloc (Nat.le_refl _) _
      have hx5 : Bx u5 v5.heap.size (.int .i64 (h + re)) (.slice a5 n c5) := by rw [hu5]; exact Bx.made _ _ _
      have HS18 := hid (HT5.out.on hA5)
      have HL5_5 := hid HX5.out.lt
      have HL5_12 := hid HX12.out.lt
      have HL5_14 := hid HX14.out.lt
      have HL5_16 := hid HX16.out.lt
      have HQ5 := hid HB.out.size
      replace HX5 := hid (HX5.out.below hA5)
      replace HS5 := hid (HS5.out.on hA5)
      replace HX12 := hid (HX12.out.below hA5)
      replace HS12 := hid (HS12.out.on hA5)
      replace HX14 := hid (HX14.out.below hA5)
      replace HS14 := hid (HS14.out.on hA5)
      replace HX16 := hid (HX16.out.below hA5)
      replace HS16 := hid (HS16.out.on hA5)
      replace HB := hid (HB.out.trans (hA5.mono HB.out.size))
      obtain ⟨g18, hg18⟩ : ∃ g, g = v5.heap.size := ⟨_, rfl⟩
      have HN18_5 := hid (show g5 ≠ g18 from by rw [hg18]; exact Nat.ne_of_lt HL5_5.out)
      clear HL5_5
      have HN18_12 := hid (show g12 ≠ g18 from by rw [hg18]; exact Nat.ne_of_lt HL5_12.out)
      clear HL5_12
      have HN18_14 := hid (show g14 ≠ g18 from by rw [hg18]; exact Nat.ne_of_lt HL5_14.out)
      clear HL5_14
      have HN18_16 := hid (show g16 ≠ g18 from by rw [hg18]; exact Nat.ne_of_lt HL5_16.out)
      clear HL5_16
      have HGE18 := hid (show w.heap.size ≤ g18 from by rw [hg18]; exact HQ5.out)
      clear HQ5
      rw [← hg18] at hx5 ⊢
      have HX18 := hid hx5
      clear hg18 hx5 hA5 hu5 HT5
      have p16x := HX16.out.c0
      have p16y := HX16.out.c1
      have p18x := HX18.out.c0
      have p18y := HX18.out.c1
      have CC6 := hid (same_yes (h + re) a4 a5 n c4 c5 l u5 HS16.out HS18.out)
      go_wp2_with fail
      refine CC6.out.mono ?_
      rintro e6 v6 ⟨rfl, hb6⟩
      clear p16x p16y p18x p18y
      clear CC6
      replace HX5 := hid (HX5.out.below hb6)
      replace HS5 := hid (HS5.out.on hb6)
      replace HX12 := hid (HX12.out.below hb6)
      replace HS12 := hid (HS12.out.on hb6)
      replace HX14 := hid (HX14.out.below hb6)
      replace HS14 := hid (HS14.out.on hb6)
      replace HX16 := hid (HX16.out.below hb6)
      replace HS16 := hid (HS16.out.on hb6)
      replace HX18 := hid (HX18.out.below hb6)
      replace HS18 := hid (HS18.out.on hb6)
      replace HB := hid (HB.out.trans (hb6.mono HB.out.size))
      clear hb6
      go_wp2
      go_ret
      exact ⟨rfl, HB.out⟩
end Go.Proofs.Ytnfpfagojeieeaa.Stk
