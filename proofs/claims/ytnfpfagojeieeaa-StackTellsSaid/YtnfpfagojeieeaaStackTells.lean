/-
  STACK: StackTells, walked (tools/gen_stkwalk.py).
-/
import Derived.Test.YtnfpfagojeieeaaStkAwake
import Derived.Test.YtnfpfagojeieeaaStkLeave
import Derived.Test.YtnfpfagojeieeaaStkRefLeave
import Derived.Deep.RegionHeld3
namespace Go.Proofs.Ytnfpfagojeieeaa.Stk
open Go.RowKit
set_option linter.unusedVariables false

theorem len_push (h : Int) (l : List Fr) (k : Int) : (pushR h l k).l.length ≤ 1001 := by
  unfold pushR
  cases hv : valid h l with
  | false => simp [bad]
  | true =>
    have := (valid_yes hv).2.2.2
    repeat' split
    all_goals simp [bad]
    all_goals omega
theorem len_pop (h : Int) (l : List Fr) (k : Int) : (popR h l k).l.length ≤ 1001 := by
  unfold popR
  cases hv : valid h l with
  | false => simp [bad]
  | true =>
    have := (valid_yes hv).2.2.2
    repeat' split
    all_goals simp [bad]
    all_goals omega
theorem len_dead (h : Int) (l : List Fr) : (deadR h l).l.length ≤ 1001 := by
  unfold deadR
  cases hv : valid h l with
  | false => simp [bad]
  | true =>
    have := (valid_yes hv).2.2.2
    simp
    omega
theorem len_enter (h : Int) (l : List Fr) (op re : Int) : (enterR h l op re).l.length ≤ 1001 := by
  unfold enterR
  cases hv : valid h l with
  | false => simp [bad]
  | true =>
    have := (valid_yes hv).2.2.2
    repeat' split
    all_goals simp [bad]
    all_goals omega
theorem len_leave (h : Int) (l : List Fr) : (leaveR h l).l.length ≤ 1001 := by
  unfold leaveR
  cases hv : valid h l with
  | false => simp [bad]
  | true =>
    have := (valid_yes hv).2.2.2
    repeat' split
    all_goals simp [bad]
    all_goals omega
theorem len_new (re : Int) : (newR re).l.length ≤ 1001 := by
  unfold newR
  split <;> simp [bad]
theorem r_parts (r : R) (hr : r.l.length ≤ 1001) : ∃ (x : Int) (y : List Fr) (z : Int) (m : Nat), r = ⟨x, y, z⟩ ∧ y.length = m ∧ m ≤ 1000000 := by
  obtain ⟨x, y, z⟩ := r
  exact ⟨x, y, z, _, rfl, rfl, Nat.le_trans hr (by omega)⟩
/-- What is kept over the last statement. -/
structure TS (w W : World) (B g4 g9 g10 g12 : Nat) (h : Int) (a : Option Addr) (n c : Nat) (l : List Fr) (a9 : Option Addr) (c9 : Nat) (x10 y10 x12 y12 : Value) : Prop where
  x4 : Bx W g4 (.int .i64 h) (.slice a n c)
  x9 : Bx W g9 (.int .i64 h) (.slice a9 n c9)
  x10 : Bx W g10 x10 y10
  x12 : Bx W g12 x12 y12
  s4 : StAt B W a n c l
  s9 : StAt B W a9 n c9 l
  below : Below w.heap.size w W
  size : B ≤ W.heap.size
theorem TS.on {w W W' : World} {B g4 g9 g10 g12 : Nat} {h : Int} {a : Option Addr} {n c : Nat} {l : List Fr} {a9 : Option Addr} {c9 : Nat} {x10 y10 x12 y12 : Value} (t : TS w W B g4 g9 g10 g12 h a n c l a9 c9 x10 y10 x12 y12) (hb : Below W.heap.size W W') : TS w W' B g4 g9 g10 g12 h a n c l a9 c9 x10 y10 x12 y12 :=
  ⟨t.x4.below hb, t.x9.below hb, t.x10.below hb, t.x12.below hb, t.s4.below (hb.mono t.size), t.s9.below (hb.mono t.size), t.below.trans (hb.mono t.below.size), Nat.le_trans t.size hb.size⟩
theorem TS.limbs {w W : World} {B g4 g9 g10 g12 : Nat} {h : Int} {a : Option Addr} {n c : Nat} {l : List Fr} {a9 : Option Addr} {c9 : Nat} {x10 y10 x12 y12 : Value} (t : TS w W B g4 g9 g10 g12 h a n c l a9 c9 x10 y10 x12 y12) :
    TS w W B g4 g9 g10 g12 h a n c l a9 c9 x10 y10 x12 y12 ∧ W.cell? ⟨g4, 0, none⟩ = some (.int .i64 h) ∧ W.cell? ⟨g4, 1, none⟩ = some (.slice a n c) ∧ W.cell? ⟨g9, 0, none⟩ = some (.int .i64 h) ∧ W.cell? ⟨g9, 1, none⟩ = some (.slice a9 n c9) ∧
      W.cell? ⟨g10, 0, none⟩ = some x10 ∧ W.cell? ⟨g10, 1, none⟩ = some y10 ∧ W.cell? ⟨g12, 0, none⟩ = some x12 ∧ W.cell? ⟨g12, 1, none⟩ = some y12 :=
  ⟨t, t.x4.c0, t.x4.c1, t.x9.c0, t.x9.c1, t.x10.c0, t.x10.c1, t.x12.c0, t.x12.c1⟩
set_option maxRecDepth 100000 in
set_option maxHeartbeats 4000000 in
theorem stackTells_walk (w : World) (h : Int) (a : Option Addr) (c : Nat) (l : List Fr) (hs : StAt w.heap.size w a l.length c l) (hh : -9223372036854775808 ≤ h ∧ h ≤ 9223372036854775807) (k : Int) (hk : -9223372036854775808 ≤ k ∧ k ≤ 9223372036854775807) (op : Int) (hop : -9223372036854775808 ≤ op ∧ op ≤ 9223372036854775807) (re : Int) (hre : -9223372036854775808 ≤ re ∧ re ≤ 9223372036854775807) :
    Calls Try.prog 3 #[.agg #[.int .i64 h, .slice a l.length c], .int .i64 k, .int .i64 op, .int .i64 re] w fun e w' => e = .returned (.bool true) ∧ Below w.heap.size w w' := by
  obtain ⟨n, hn⟩ : ∃ n, l.length = n := ⟨_, rfl⟩
  rw [hn] at hs ⊢
  obtain ⟨W0, hW0⟩ : ∃ W0, W0 = w.alloc (.cells #[.int .i64 h, .slice a n c] 24) := ⟨_, rfl⟩
  have hx0 : Bx W0 w.heap.size (.int .i64 h) (.slice a n c) := by rw [hW0]; exact Bx.made w _ _
  have hb0 : Below w.heap.size w W0 := by rw [hW0]; exact (Below.refl _ _).alloc (Nat.le_refl _) _
  have HS4 := hid (hs.on hb0)
  have HB := hid hb0
  have HW := hid hW0
  obtain ⟨g4, hg4⟩ : ∃ g, g = w.heap.size := ⟨_, rfl⟩
  rw [← hg4] at hx0
  have HX4 := hid hx0
  have HG := hid hg4
  have HLN := hid hn
  have hfit := hs.fit
  clear hx0 hb0 hW0 hs hg4 hn
  by_cases z1 : 1100 < n
  · have z1i : (1100 : Int) < (n : Int) := by omega
    have p4x := HX4.out.c0
    have p4y := HX4.out.c1
    go_enter Try.func3, Try.ntmps3
    go_upto_region 1 with fail
    rw [← HW.out, ← HG.out]
    clear HW HG
    go_wp2
    go_ret
    exact ⟨rfl, HB.out⟩
  have z1i : ¬ (1100 : Int) < (n : Int) := by omega
  obtain ⟨Ph, Pl, Pe, Pm, hRP, hMP, hZP⟩ := r_parts (pushR h l k) (len_push h l k)
  have HRP := hid hRP
  have HMP := hid hMP
  have HZP := hid hZP
  clear hRP hMP hZP
  obtain ⟨Qh, Ql, Qe, Qm, hRQ, hMQ, hZQ⟩ := r_parts (popR h l k) (len_pop h l k)
  have HRQ := hid hRQ
  have HMQ := hid hMQ
  have HZQ := hid hZQ
  clear hRQ hMQ hZQ
  obtain ⟨Dh, Dl, De, Dm, hRD, hMD, hZD⟩ := r_parts (deadR h l) (len_dead h l)
  have HRD := hid hRD
  have HMD := hid hMD
  have HZD := hid hZD
  clear hRD hMD hZD
  obtain ⟨Eh, El, Ee, Em, hRE, hME, hZE⟩ := r_parts (enterR h l op re) (len_enter h l op re)
  have HRE := hid hRE
  have HME := hid hME
  have HZE := hid hZE
  clear hRE hME hZE
  obtain ⟨Lh, Ll, Le, Lm, hRL, hML, hZL⟩ := r_parts (leaveR h l) (len_leave h l)
  have HRL := hid hRL
  have HML := hid hML
  have HZL := hid hZL
  clear hRL hML hZL
  obtain ⟨Kh, Kl, Ke, Km, hRK, hMK, hZK⟩ := r_parts (newR re) (len_new re)
  have HRK := hid hRK
  have HMK := hid hMK
  have HZK := hid hZK
  clear hRK hMK hZK
  obtain ⟨lx, ly, hLL⟩ : ∃ x y, labelR h l k = (x, y) := ⟨_, _, rfl⟩
  have HLL := hid hLL
  obtain ⟨ck, hck⟩ : ∃ x, chk h l = x := ⟨_, rfl⟩
  have HCK := hid hck
  clear hLL hck
  have p4x := HX4.out.c0
  have p4y := HX4.out.c1
  go_enter Try.func3, Try.ntmps3
  go_upto_region 1 with fail
  rw [← HW.out, ← HG.out]
  clear HW HG
  have CO := hid (own_any h a n c l W0 HLN.out HS4.out.rows (by omega))
  go_wp2_with fail
  refine CO.out.mono ?_
  rintro e1 v1 ⟨a9, c9, rfl, ho9, hb1⟩
  obtain ⟨aa, cc, hv9, hst9⟩ := ho9.slice (by rw [HLN.out]; omega)
  rw [HLN.out] at hv9 hst9
  simp only [Value.slice.injEq] at hv9
  obtain ⟨rfl, -, rfl⟩ := hv9
  clear p4x p4y CO
  replace HX4 := hid (HX4.out.below hb1)
  replace HS4 := hid (HS4.out.on hb1)
  replace HB := hid (HB.out.trans (hb1.mono HB.out.size))
  have HT9 := hid hst9
  clear hst9 ho9 hb1
  go_upto_region 4 with fail
  obtain ⟨u1, hu1⟩ : ∃ u, u = v1.alloc (.cells #[.int .i64 h, .slice a9 n c9] 24) := ⟨_, rfl⟩
  rw [← hu1]
  have hA1 : Below v1.heap.size v1 u1 := by rw [hu1]; exact (Below.refl _ _).alloc (Nat.le_refl _) _
  have hx1 : Bx u1 v1.heap.size (.int .i64 h) (.slice a9 n c9) := by rw [hu1]; exact Bx.made _ _ _
  have HS9 := hid (HT9.out.on hA1)
  have hl4 := HX4.out.lt
  replace HX4 := hid (HX4.out.below hA1)
  replace HS4 := hid (HS4.out.on hA1)
  replace HB := hid (HB.out.trans (hA1.mono HB.out.size))
  obtain ⟨g9, hg9⟩ : ∃ g, g = v1.heap.size := ⟨_, rfl⟩
  have HN9_4 := hid (show g4 ≠ g9 by rw [hg9]; exact Nat.ne_of_lt hl4)
  rw [← hg9] at hx1 ⊢
  have HX9 := hid hx1
  obtain ⟨B, hB⟩ : ∃ B, B = u1.heap.size := ⟨_, rfl⟩
  rw [← hB] at HS4 HS9
  have HBB := hid (show B ≤ u1.heap.size from Nat.le_of_eq hB)
  have HWB := hid (show w.heap.size ≤ B by rw [hB]; exact HB.out.size)
  clear hl4 hg9 hx1 hA1 hu1 HT9 hB
  obtain ⟨LO, hLO⟩ : ∃ LO, LO = u1.heap.size := ⟨_, rfl⟩
  have HLB := hid (show B ≤ LO by rw [hLO]; exact HBB.out)
  have HLW := hid (show LO ≤ u1.heap.size from Nat.le_of_eq hLO)
  have px := HX9.out.c0
  have py := HX9.out.c1
  have CC := hid (push_any h a9 n c9 l k u1 (HS9.out.more HBB.out))
  go_wp2_with fail
  refine CC.out.mono ?_
  intro e2 v2 hm
  obtain ⟨a10, c10, rfl, ho, hst, hb⟩ := hm.at (h := Ph) (l := Pl) (n := Pm) (er := Pe) HRP.out HMP.out HZP.out
  clear px py CC hm
  replace HX4 := hid (HX4.out.below hb)
  replace HX9 := hid (HX9.out.below hb)
  replace HS4 := hid (HS4.out.below (hb.mono HBB.out))
  replace HS9 := hid (HS9.out.below (hb.mono HBB.out))
  replace HB := hid (HB.out.trans (hb.mono HB.out.size))
  replace HBB := hid (Nat.le_trans HBB.out hb.size)
  rw [← hLO] at ho
  have HO := hid ho
  replace HLW := hid (Nat.le_trans HLW.out hb.size)
  clear ho hst hb hLO
  go_upto_region 5 with fail
  obtain ⟨u2, hu⟩ : ∃ u, u = v2.alloc (.cells #[.int .i64 Ph, .slice a10 Pm c10] 24) := ⟨_, rfl⟩
  rw [← hu]
  have hA : Below v2.heap.size v2 u2 := by rw [hu]; exact (Below.refl _ _).alloc (Nat.le_refl _) _
  have hx : Bx u2 v2.heap.size (.int .i64 Ph) (.slice a10 Pm c10) := by rw [hu]; exact Bx.made _ _ _
  have hl4 := HX4.out.lt
  have hl9 := HX9.out.lt
  have hq := HB.out.size
  replace HX4 := hid (HX4.out.below hA)
  replace HX9 := hid (HX9.out.below hA)
  replace HS4 := hid (HS4.out.below (hA.mono HBB.out))
  replace HS9 := hid (HS9.out.below (hA.mono HBB.out))
  replace HO := hid (HO.out.below hA)
  replace HB := hid (HB.out.trans (hA.mono HB.out.size))
  replace HBB := hid (Nat.le_trans HBB.out hA.size)
  replace HLW := hid (Nat.le_trans HLW.out hA.size)
  obtain ⟨g10, hg⟩ : ∃ g, g = v2.heap.size := ⟨_, rfl⟩
  have HN10_4 := hid (show g4 ≠ g10 by rw [hg]; exact Nat.ne_of_lt hl4)
  clear hl4
  have HN10_9 := hid (show g9 ≠ g10 by rw [hg]; exact Nat.ne_of_lt hl9)
  clear hl9
  have HGE10 := hid (show w.heap.size ≤ g10 by rw [hg]; exact hq)
  rw [← hg] at hx ⊢
  have HX10 := hid hx
  clear hq hg hx hA hu
  have px := HX4.out.c0
  have py := HX4.out.c1
  have CC := hid (refPush_any h a n c l k u2 (HS4.out.more HBB.out))
  go_wp2_with fail
  refine CC.out.mono ?_
  intro e3 v3 hm
  obtain ⟨a12, c12, rfl, ho, hst, hb⟩ := hm.at (h := Ph) (l := Pl) (n := Pm) (er := Pe) HRP.out HMP.out HZP.out
  clear px py CC hm
  replace HX4 := hid (HX4.out.below hb)
  replace HX9 := hid (HX9.out.below hb)
  replace HX10 := hid (HX10.out.below hb)
  replace HS4 := hid (HS4.out.below (hb.mono HBB.out))
  replace HS9 := hid (HS9.out.below (hb.mono HBB.out))
  replace HO := hid (HO.out.below hb)
  replace HB := hid (HB.out.trans (hb.mono HB.out.size))
  replace HBB := hid (Nat.le_trans HBB.out hb.size)
  have HS12 := hid hst
  replace HLW := hid (Nat.le_trans HLW.out hb.size)
  clear ho hst hb
  go_upto_region 6 with fail
  obtain ⟨u3, hu⟩ : ∃ u, u = v3.alloc (.cells #[.int .i64 Ph, .slice a12 Pm c12] 24) := ⟨_, rfl⟩
  rw [← hu]
  have hA : Below v3.heap.size v3 u3 := by rw [hu]; exact (Below.refl _ _).alloc (Nat.le_refl _) _
  have hx : Bx u3 v3.heap.size (.int .i64 Ph) (.slice a12 Pm c12) := by rw [hu]; exact Bx.made _ _ _
  have hl4 := HX4.out.lt
  have hl9 := HX9.out.lt
  have hl10 := HX10.out.lt
  have hq := HB.out.size
  replace HX4 := hid (HX4.out.below hA)
  replace HX9 := hid (HX9.out.below hA)
  replace HX10 := hid (HX10.out.below hA)
  replace HS4 := hid (HS4.out.below (hA.mono HBB.out))
  replace HS9 := hid (HS9.out.below (hA.mono HBB.out))
  replace HO := hid (HO.out.below hA)
  replace HS12 := hid (HS12.out.on hA)
  replace HB := hid (HB.out.trans (hA.mono HB.out.size))
  replace HBB := hid (Nat.le_trans HBB.out hA.size)
  replace HLW := hid (Nat.le_trans HLW.out hA.size)
  obtain ⟨g12, hg⟩ : ∃ g, g = v3.heap.size := ⟨_, rfl⟩
  have HN12_4 := hid (show g4 ≠ g12 by rw [hg]; exact Nat.ne_of_lt hl4)
  clear hl4
  have HN12_9 := hid (show g9 ≠ g12 by rw [hg]; exact Nat.ne_of_lt hl9)
  clear hl9
  have HN12_10 := hid (show g10 ≠ g12 by rw [hg]; exact Nat.ne_of_lt hl10)
  clear hl10
  have HGE12 := hid (show w.heap.size ≤ g12 by rw [hg]; exact hq)
  rw [← hg] at hx ⊢
  have HX12 := hid hx
  clear hq hg hx hA hu
  have p4x := HX4.out.c0
  have p4y := HX4.out.c1
  have p9x := HX9.out.c0
  have p9y := HX9.out.c1
  have p10x := HX10.out.c0
  have p10y := HX10.out.c1
  have p12x := HX12.out.c0
  have p12y := HX12.out.c1
  have CT := hid (told_yes LO Ph a10 Pm c10 Pl Pe a12 c12 h a9 n c9 a c l u3 HLW.out HO.out HMP.out HZP.out HS12.out (HS9.out.more HLB.out) (HS4.out.more HLB.out))
  go_wp2_with fail
  refine CT.out.mono ?_
  rintro e4 v4 ⟨rfl, hb, hst⟩
  clear p4x p4y p9x p9y p10x p10y p12x p12y CT HO HS12
  replace HX4 := hid (hst _ _ _ HX4.out)
  replace HX9 := hid (hst _ _ _ HX9.out)
  replace HX10 := hid (hst _ _ _ HX10.out)
  replace HX12 := hid (hst _ _ _ HX12.out)
  replace HS4 := hid (HS4.out.below (hb.mono HLB.out))
  replace HS9 := hid (HS9.out.below (hb.mono HLB.out))
  replace HB := hid (HB.out.trans (hb.mono (Nat.le_trans HWB.out HLB.out)))
  replace HBB := hid (Nat.le_trans HBB.out hb.size)
  clear hb hst HLB HLW LO
  go_upto_region 8 with fail
  obtain ⟨LO, hLO⟩ : ∃ LO, LO = v4.heap.size := ⟨_, rfl⟩
  have HLB := hid (show B ≤ LO by rw [hLO]; exact HBB.out)
  have HLW := hid (show LO ≤ v4.heap.size from Nat.le_of_eq hLO)
  have px := HX9.out.c0
  have py := HX9.out.c1
  have CC := hid (pop_any h a9 n c9 l k v4 (HS9.out.more HBB.out) hk.2)
  go_wp2_with fail
  refine CC.out.mono ?_
  intro e5 v5 hm
  obtain ⟨a10, c10, rfl, ho, hst, hb⟩ := hm.at (h := Qh) (l := Ql) (n := Qm) (er := Qe) HRQ.out HMQ.out HZQ.out
  clear px py CC hm
  replace HX4 := hid (HX4.out.below hb)
  replace HX9 := hid (HX9.out.below hb)
  replace HX10 := hid (HX10.out.below hb)
  replace HX12 := hid (HX12.out.below hb)
  replace HS4 := hid (HS4.out.below (hb.mono HBB.out))
  replace HS9 := hid (HS9.out.below (hb.mono HBB.out))
  replace HB := hid (HB.out.trans (hb.mono HB.out.size))
  replace HBB := hid (Nat.le_trans HBB.out hb.size)
  rw [← hLO] at ho
  have HO := hid ho
  replace HLW := hid (Nat.le_trans HLW.out hb.size)
  clear ho hst hb hLO
  have q0 := HX10.out.c0
  have q1 := HX10.out.c1
  have q2 := HX10.out.f 0
  have q3 := HX10.out.f 1
  go_upto_region 9 with fail
  obtain ⟨u5, hu⟩ : ∃ u, u = (v5.setCell ⟨g10, 0, none⟩ (.int .i64 Qh)).setCell ⟨g10, 1, none⟩ (.slice a10 Qm c10) := ⟨_, rfl⟩
  rw [← hu]
  clear q0 q1 q2 q3
  replace HX4 := hid ((HX4.out.far (p := ⟨g10, 0, none⟩) HN10_4.out (.int .i64 Qh)).far (p := ⟨g10, 1, none⟩) HN10_4.out (.slice a10 Qm c10))
  rw [← hu] at HX4
  replace HX9 := hid ((HX9.out.far (p := ⟨g10, 0, none⟩) HN10_9.out (.int .i64 Qh)).far (p := ⟨g10, 1, none⟩) HN10_9.out (.slice a10 Qm c10))
  rw [← hu] at HX9
  replace HX12 := hid ((HX12.out.far (p := ⟨g10, 0, none⟩) (Ne.symm HN12_10.out) (.int .i64 Qh)).far (p := ⟨g10, 1, none⟩) (Ne.symm HN12_10.out) (.slice a10 Qm c10))
  rw [← hu] at HX12
  replace HS4 := hid ((HS4.out.set HX10.out 0 (.int .i64 Qh)).set (HX10.out.set0 (.int .i64 Qh)) 1 (.slice a10 Qm c10))
  rw [← hu] at HS4
  replace HS9 := hid ((HS9.out.set HX10.out 0 (.int .i64 Qh)).set (HX10.out.set0 (.int .i64 Qh)) 1 (.slice a10 Qm c10))
  rw [← hu] at HS9
  replace HO := hid ((HO.out.apart HX10.out 0 (.int .i64 Qh)).apart (HX10.out.set0 (.int .i64 Qh)) 1 (.slice a10 Qm c10))
  rw [← hu] at HO
  have hus : u5.heap.size = v5.heap.size := by rw [hu]; simp [World.setCell]
  replace HBB := hid (show B ≤ u5.heap.size by rw [hus]; exact HBB.out)
  replace HLW := hid (show LO ≤ u5.heap.size by rw [hus]; exact HLW.out)
  replace HB := hid ((HB.out.setCell (p := ⟨g10, 0, none⟩) HGE10.out (.int .i64 Qh)).setCell (p := ⟨g10, 1, none⟩) HGE10.out (.slice a10 Qm c10))
  replace HX10 := hid (box2 HX10.out (.int .i64 Qh) (.slice a10 Qm c10))
  rw [← hu] at HX10 HB
  clear hus hu
  have px := HX4.out.c0
  have py := HX4.out.c1
  have CC := hid (refPop_any h a n c l k u5 (HS4.out.more HBB.out) hk.2)
  go_wp2_with fail
  refine CC.out.mono ?_
  intro e6 v6 hm
  obtain ⟨a12, c12, rfl, ho, hst, hb⟩ := hm.at (h := Qh) (l := Ql) (n := Qm) (er := Qe) HRQ.out HMQ.out HZQ.out
  clear px py CC hm
  replace HX4 := hid (HX4.out.below hb)
  replace HX9 := hid (HX9.out.below hb)
  replace HX10 := hid (HX10.out.below hb)
  replace HX12 := hid (HX12.out.below hb)
  replace HS4 := hid (HS4.out.below (hb.mono HBB.out))
  replace HS9 := hid (HS9.out.below (hb.mono HBB.out))
  replace HO := hid (HO.out.below hb)
  replace HB := hid (HB.out.trans (hb.mono HB.out.size))
  replace HBB := hid (Nat.le_trans HBB.out hb.size)
  have HS12 := hid hst
  replace HLW := hid (Nat.le_trans HLW.out hb.size)
  clear ho hst hb
  have q0 := HX12.out.c0
  have q1 := HX12.out.c1
  have q2 := HX12.out.f 0
  have q3 := HX12.out.f 1
  go_upto_region 10 with fail
  obtain ⟨u6, hu⟩ : ∃ u, u = (v6.setCell ⟨g12, 0, none⟩ (.int .i64 Qh)).setCell ⟨g12, 1, none⟩ (.slice a12 Qm c12) := ⟨_, rfl⟩
  rw [← hu]
  clear q0 q1 q2 q3
  replace HX4 := hid ((HX4.out.far (p := ⟨g12, 0, none⟩) HN12_4.out (.int .i64 Qh)).far (p := ⟨g12, 1, none⟩) HN12_4.out (.slice a12 Qm c12))
  rw [← hu] at HX4
  replace HX9 := hid ((HX9.out.far (p := ⟨g12, 0, none⟩) HN12_9.out (.int .i64 Qh)).far (p := ⟨g12, 1, none⟩) HN12_9.out (.slice a12 Qm c12))
  rw [← hu] at HX9
  replace HX10 := hid ((HX10.out.far (p := ⟨g12, 0, none⟩) HN12_10.out (.int .i64 Qh)).far (p := ⟨g12, 1, none⟩) HN12_10.out (.slice a12 Qm c12))
  rw [← hu] at HX10
  replace HS4 := hid ((HS4.out.set HX12.out 0 (.int .i64 Qh)).set (HX12.out.set0 (.int .i64 Qh)) 1 (.slice a12 Qm c12))
  rw [← hu] at HS4
  replace HS9 := hid ((HS9.out.set HX12.out 0 (.int .i64 Qh)).set (HX12.out.set0 (.int .i64 Qh)) 1 (.slice a12 Qm c12))
  rw [← hu] at HS9
  replace HO := hid ((HO.out.apart HX12.out 0 (.int .i64 Qh)).apart (HX12.out.set0 (.int .i64 Qh)) 1 (.slice a12 Qm c12))
  rw [← hu] at HO
  replace HS12 := hid (HS12.out.set2 HX12.out (.int .i64 Qh) (.slice a12 Qm c12))
  rw [← hu] at HS12
  have hus : u6.heap.size = v6.heap.size := by rw [hu]; simp [World.setCell]
  replace HBB := hid (show B ≤ u6.heap.size by rw [hus]; exact HBB.out)
  replace HLW := hid (show LO ≤ u6.heap.size by rw [hus]; exact HLW.out)
  replace HB := hid ((HB.out.setCell (p := ⟨g12, 0, none⟩) HGE12.out (.int .i64 Qh)).setCell (p := ⟨g12, 1, none⟩) HGE12.out (.slice a12 Qm c12))
  replace HX12 := hid (box2 HX12.out (.int .i64 Qh) (.slice a12 Qm c12))
  rw [← hu] at HX12 HB
  clear hus hu
  have p4x := HX4.out.c0
  have p4y := HX4.out.c1
  have p9x := HX9.out.c0
  have p9y := HX9.out.c1
  have p10x := HX10.out.c0
  have p10y := HX10.out.c1
  have p12x := HX12.out.c0
  have p12y := HX12.out.c1
  have CT := hid (told_yes LO Qh a10 Qm c10 Ql Qe a12 c12 h a9 n c9 a c l u6 HLW.out HO.out HMQ.out HZQ.out HS12.out (HS9.out.more HLB.out) (HS4.out.more HLB.out))
  go_wp2_with fail
  refine CT.out.mono ?_
  rintro e7 v7 ⟨rfl, hb, hst⟩
  clear p4x p4y p9x p9y p10x p10y p12x p12y CT HO HS12
  replace HX4 := hid (hst _ _ _ HX4.out)
  replace HX9 := hid (hst _ _ _ HX9.out)
  replace HX10 := hid (hst _ _ _ HX10.out)
  replace HX12 := hid (hst _ _ _ HX12.out)
  replace HS4 := hid (HS4.out.below (hb.mono HLB.out))
  replace HS9 := hid (HS9.out.below (hb.mono HLB.out))
  replace HB := hid (HB.out.trans (hb.mono (Nat.le_trans HWB.out HLB.out)))
  replace HBB := hid (Nat.le_trans HBB.out hb.size)
  clear hb hst HLB HLW LO
  go_upto_region 12 with fail
  obtain ⟨LO, hLO⟩ : ∃ LO, LO = v7.heap.size := ⟨_, rfl⟩
  have HLB := hid (show B ≤ LO by rw [hLO]; exact HBB.out)
  have HLW := hid (show LO ≤ v7.heap.size from Nat.le_of_eq hLO)
  have px := HX9.out.c0
  have py := HX9.out.c1
  have CC := hid (dead_any h a9 n c9 l v7 (HS9.out.more HBB.out))
  go_wp2_with fail
  refine CC.out.mono ?_
  intro e8 v8 hm
  obtain ⟨a10, c10, rfl, ho, hst, hb⟩ := hm.at (h := Dh) (l := Dl) (n := Dm) (er := De) HRD.out HMD.out HZD.out
  clear px py CC hm
  replace HX4 := hid (HX4.out.below hb)
  replace HX9 := hid (HX9.out.below hb)
  replace HX10 := hid (HX10.out.below hb)
  replace HX12 := hid (HX12.out.below hb)
  replace HS4 := hid (HS4.out.below (hb.mono HBB.out))
  replace HS9 := hid (HS9.out.below (hb.mono HBB.out))
  replace HB := hid (HB.out.trans (hb.mono HB.out.size))
  replace HBB := hid (Nat.le_trans HBB.out hb.size)
  rw [← hLO] at ho
  have HO := hid ho
  replace HLW := hid (Nat.le_trans HLW.out hb.size)
  clear ho hst hb hLO
  have q0 := HX10.out.c0
  have q1 := HX10.out.c1
  have q2 := HX10.out.f 0
  have q3 := HX10.out.f 1
  go_upto_region 13 with fail
  obtain ⟨u8, hu⟩ : ∃ u, u = (v8.setCell ⟨g10, 0, none⟩ (.int .i64 Dh)).setCell ⟨g10, 1, none⟩ (.slice a10 Dm c10) := ⟨_, rfl⟩
  rw [← hu]
  clear q0 q1 q2 q3
  replace HX4 := hid ((HX4.out.far (p := ⟨g10, 0, none⟩) HN10_4.out (.int .i64 Dh)).far (p := ⟨g10, 1, none⟩) HN10_4.out (.slice a10 Dm c10))
  rw [← hu] at HX4
  replace HX9 := hid ((HX9.out.far (p := ⟨g10, 0, none⟩) HN10_9.out (.int .i64 Dh)).far (p := ⟨g10, 1, none⟩) HN10_9.out (.slice a10 Dm c10))
  rw [← hu] at HX9
  replace HX12 := hid ((HX12.out.far (p := ⟨g10, 0, none⟩) (Ne.symm HN12_10.out) (.int .i64 Dh)).far (p := ⟨g10, 1, none⟩) (Ne.symm HN12_10.out) (.slice a10 Dm c10))
  rw [← hu] at HX12
  replace HS4 := hid ((HS4.out.set HX10.out 0 (.int .i64 Dh)).set (HX10.out.set0 (.int .i64 Dh)) 1 (.slice a10 Dm c10))
  rw [← hu] at HS4
  replace HS9 := hid ((HS9.out.set HX10.out 0 (.int .i64 Dh)).set (HX10.out.set0 (.int .i64 Dh)) 1 (.slice a10 Dm c10))
  rw [← hu] at HS9
  replace HO := hid ((HO.out.apart HX10.out 0 (.int .i64 Dh)).apart (HX10.out.set0 (.int .i64 Dh)) 1 (.slice a10 Dm c10))
  rw [← hu] at HO
  have hus : u8.heap.size = v8.heap.size := by rw [hu]; simp [World.setCell]
  replace HBB := hid (show B ≤ u8.heap.size by rw [hus]; exact HBB.out)
  replace HLW := hid (show LO ≤ u8.heap.size by rw [hus]; exact HLW.out)
  replace HB := hid ((HB.out.setCell (p := ⟨g10, 0, none⟩) HGE10.out (.int .i64 Dh)).setCell (p := ⟨g10, 1, none⟩) HGE10.out (.slice a10 Dm c10))
  replace HX10 := hid (box2 HX10.out (.int .i64 Dh) (.slice a10 Dm c10))
  rw [← hu] at HX10 HB
  clear hus hu
  have px := HX4.out.c0
  have py := HX4.out.c1
  have CC := hid (refDead_any h a n c l u8 (HS4.out.more HBB.out))
  go_wp2_with fail
  refine CC.out.mono ?_
  intro e9 v9 hm
  obtain ⟨a12, c12, rfl, ho, hst, hb⟩ := hm.at (h := Dh) (l := Dl) (n := Dm) (er := De) HRD.out HMD.out HZD.out
  clear px py CC hm
  replace HX4 := hid (HX4.out.below hb)
  replace HX9 := hid (HX9.out.below hb)
  replace HX10 := hid (HX10.out.below hb)
  replace HX12 := hid (HX12.out.below hb)
  replace HS4 := hid (HS4.out.below (hb.mono HBB.out))
  replace HS9 := hid (HS9.out.below (hb.mono HBB.out))
  replace HO := hid (HO.out.below hb)
  replace HB := hid (HB.out.trans (hb.mono HB.out.size))
  replace HBB := hid (Nat.le_trans HBB.out hb.size)
  have HS12 := hid hst
  replace HLW := hid (Nat.le_trans HLW.out hb.size)
  clear ho hst hb
  have q0 := HX12.out.c0
  have q1 := HX12.out.c1
  have q2 := HX12.out.f 0
  have q3 := HX12.out.f 1
  go_upto_region 14 with fail
  obtain ⟨u9, hu⟩ : ∃ u, u = (v9.setCell ⟨g12, 0, none⟩ (.int .i64 Dh)).setCell ⟨g12, 1, none⟩ (.slice a12 Dm c12) := ⟨_, rfl⟩
  rw [← hu]
  clear q0 q1 q2 q3
  replace HX4 := hid ((HX4.out.far (p := ⟨g12, 0, none⟩) HN12_4.out (.int .i64 Dh)).far (p := ⟨g12, 1, none⟩) HN12_4.out (.slice a12 Dm c12))
  rw [← hu] at HX4
  replace HX9 := hid ((HX9.out.far (p := ⟨g12, 0, none⟩) HN12_9.out (.int .i64 Dh)).far (p := ⟨g12, 1, none⟩) HN12_9.out (.slice a12 Dm c12))
  rw [← hu] at HX9
  replace HX10 := hid ((HX10.out.far (p := ⟨g12, 0, none⟩) HN12_10.out (.int .i64 Dh)).far (p := ⟨g12, 1, none⟩) HN12_10.out (.slice a12 Dm c12))
  rw [← hu] at HX10
  replace HS4 := hid ((HS4.out.set HX12.out 0 (.int .i64 Dh)).set (HX12.out.set0 (.int .i64 Dh)) 1 (.slice a12 Dm c12))
  rw [← hu] at HS4
  replace HS9 := hid ((HS9.out.set HX12.out 0 (.int .i64 Dh)).set (HX12.out.set0 (.int .i64 Dh)) 1 (.slice a12 Dm c12))
  rw [← hu] at HS9
  replace HO := hid ((HO.out.apart HX12.out 0 (.int .i64 Dh)).apart (HX12.out.set0 (.int .i64 Dh)) 1 (.slice a12 Dm c12))
  rw [← hu] at HO
  replace HS12 := hid (HS12.out.set2 HX12.out (.int .i64 Dh) (.slice a12 Dm c12))
  rw [← hu] at HS12
  have hus : u9.heap.size = v9.heap.size := by rw [hu]; simp [World.setCell]
  replace HBB := hid (show B ≤ u9.heap.size by rw [hus]; exact HBB.out)
  replace HLW := hid (show LO ≤ u9.heap.size by rw [hus]; exact HLW.out)
  replace HB := hid ((HB.out.setCell (p := ⟨g12, 0, none⟩) HGE12.out (.int .i64 Dh)).setCell (p := ⟨g12, 1, none⟩) HGE12.out (.slice a12 Dm c12))
  replace HX12 := hid (box2 HX12.out (.int .i64 Dh) (.slice a12 Dm c12))
  rw [← hu] at HX12 HB
  clear hus hu
  have p4x := HX4.out.c0
  have p4y := HX4.out.c1
  have p9x := HX9.out.c0
  have p9y := HX9.out.c1
  have p10x := HX10.out.c0
  have p10y := HX10.out.c1
  have p12x := HX12.out.c0
  have p12y := HX12.out.c1
  have CT := hid (told_yes LO Dh a10 Dm c10 Dl De a12 c12 h a9 n c9 a c l u9 HLW.out HO.out HMD.out HZD.out HS12.out (HS9.out.more HLB.out) (HS4.out.more HLB.out))
  go_wp2_with fail
  refine CT.out.mono ?_
  rintro e10 v10 ⟨rfl, hb, hst⟩
  clear p4x p4y p9x p9y p10x p10y p12x p12y CT HO HS12
  replace HX4 := hid (hst _ _ _ HX4.out)
  replace HX9 := hid (hst _ _ _ HX9.out)
  replace HX10 := hid (hst _ _ _ HX10.out)
  replace HX12 := hid (hst _ _ _ HX12.out)
  replace HS4 := hid (HS4.out.below (hb.mono HLB.out))
  replace HS9 := hid (HS9.out.below (hb.mono HLB.out))
  replace HB := hid (HB.out.trans (hb.mono (Nat.le_trans HWB.out HLB.out)))
  replace HBB := hid (Nat.le_trans HBB.out hb.size)
  clear hb hst HLB HLW LO
  go_upto_region 16 with fail
  obtain ⟨LO, hLO⟩ : ∃ LO, LO = v10.heap.size := ⟨_, rfl⟩
  have HLB := hid (show B ≤ LO by rw [hLO]; exact HBB.out)
  have HLW := hid (show LO ≤ v10.heap.size from Nat.le_of_eq hLO)
  have px := HX9.out.c0
  have py := HX9.out.c1
  have CC := hid (enter_any h a9 n c9 l op re v10 (HS9.out.more HBB.out))
  go_wp2_with fail
  refine CC.out.mono ?_
  intro e11 v11 hm
  obtain ⟨a10, c10, rfl, ho, hst, hb⟩ := hm.at (h := Eh) (l := El) (n := Em) (er := Ee) HRE.out HME.out HZE.out
  clear px py CC hm
  replace HX4 := hid (HX4.out.below hb)
  replace HX9 := hid (HX9.out.below hb)
  replace HX10 := hid (HX10.out.below hb)
  replace HX12 := hid (HX12.out.below hb)
  replace HS4 := hid (HS4.out.below (hb.mono HBB.out))
  replace HS9 := hid (HS9.out.below (hb.mono HBB.out))
  replace HB := hid (HB.out.trans (hb.mono HB.out.size))
  replace HBB := hid (Nat.le_trans HBB.out hb.size)
  rw [← hLO] at ho
  have HO := hid ho
  replace HLW := hid (Nat.le_trans HLW.out hb.size)
  clear ho hst hb hLO
  have q0 := HX10.out.c0
  have q1 := HX10.out.c1
  have q2 := HX10.out.f 0
  have q3 := HX10.out.f 1
  go_upto_region 17 with fail
  obtain ⟨u11, hu⟩ : ∃ u, u = (v11.setCell ⟨g10, 0, none⟩ (.int .i64 Eh)).setCell ⟨g10, 1, none⟩ (.slice a10 Em c10) := ⟨_, rfl⟩
  rw [← hu]
  clear q0 q1 q2 q3
  replace HX4 := hid ((HX4.out.far (p := ⟨g10, 0, none⟩) HN10_4.out (.int .i64 Eh)).far (p := ⟨g10, 1, none⟩) HN10_4.out (.slice a10 Em c10))
  rw [← hu] at HX4
  replace HX9 := hid ((HX9.out.far (p := ⟨g10, 0, none⟩) HN10_9.out (.int .i64 Eh)).far (p := ⟨g10, 1, none⟩) HN10_9.out (.slice a10 Em c10))
  rw [← hu] at HX9
  replace HX12 := hid ((HX12.out.far (p := ⟨g10, 0, none⟩) (Ne.symm HN12_10.out) (.int .i64 Eh)).far (p := ⟨g10, 1, none⟩) (Ne.symm HN12_10.out) (.slice a10 Em c10))
  rw [← hu] at HX12
  replace HS4 := hid ((HS4.out.set HX10.out 0 (.int .i64 Eh)).set (HX10.out.set0 (.int .i64 Eh)) 1 (.slice a10 Em c10))
  rw [← hu] at HS4
  replace HS9 := hid ((HS9.out.set HX10.out 0 (.int .i64 Eh)).set (HX10.out.set0 (.int .i64 Eh)) 1 (.slice a10 Em c10))
  rw [← hu] at HS9
  replace HO := hid ((HO.out.apart HX10.out 0 (.int .i64 Eh)).apart (HX10.out.set0 (.int .i64 Eh)) 1 (.slice a10 Em c10))
  rw [← hu] at HO
  have hus : u11.heap.size = v11.heap.size := by rw [hu]; simp [World.setCell]
  replace HBB := hid (show B ≤ u11.heap.size by rw [hus]; exact HBB.out)
  replace HLW := hid (show LO ≤ u11.heap.size by rw [hus]; exact HLW.out)
  replace HB := hid ((HB.out.setCell (p := ⟨g10, 0, none⟩) HGE10.out (.int .i64 Eh)).setCell (p := ⟨g10, 1, none⟩) HGE10.out (.slice a10 Em c10))
  replace HX10 := hid (box2 HX10.out (.int .i64 Eh) (.slice a10 Em c10))
  rw [← hu] at HX10 HB
  clear hus hu
  have px := HX4.out.c0
  have py := HX4.out.c1
  have CC := hid (refEnter_any h a n c l op re u11 (HS4.out.more HBB.out))
  go_wp2_with fail
  refine CC.out.mono ?_
  intro e12 v12 hm
  obtain ⟨a12, c12, rfl, ho, hst, hb⟩ := hm.at (h := Eh) (l := El) (n := Em) (er := Ee) HRE.out HME.out HZE.out
  clear px py CC hm
  replace HX4 := hid (HX4.out.below hb)
  replace HX9 := hid (HX9.out.below hb)
  replace HX10 := hid (HX10.out.below hb)
  replace HX12 := hid (HX12.out.below hb)
  replace HS4 := hid (HS4.out.below (hb.mono HBB.out))
  replace HS9 := hid (HS9.out.below (hb.mono HBB.out))
  replace HO := hid (HO.out.below hb)
  replace HB := hid (HB.out.trans (hb.mono HB.out.size))
  replace HBB := hid (Nat.le_trans HBB.out hb.size)
  have HS12 := hid hst
  replace HLW := hid (Nat.le_trans HLW.out hb.size)
  clear ho hst hb
  have q0 := HX12.out.c0
  have q1 := HX12.out.c1
  have q2 := HX12.out.f 0
  have q3 := HX12.out.f 1
  go_upto_region 18 with fail
  obtain ⟨u12, hu⟩ : ∃ u, u = (v12.setCell ⟨g12, 0, none⟩ (.int .i64 Eh)).setCell ⟨g12, 1, none⟩ (.slice a12 Em c12) := ⟨_, rfl⟩
  rw [← hu]
  clear q0 q1 q2 q3
  replace HX4 := hid ((HX4.out.far (p := ⟨g12, 0, none⟩) HN12_4.out (.int .i64 Eh)).far (p := ⟨g12, 1, none⟩) HN12_4.out (.slice a12 Em c12))
  rw [← hu] at HX4
  replace HX9 := hid ((HX9.out.far (p := ⟨g12, 0, none⟩) HN12_9.out (.int .i64 Eh)).far (p := ⟨g12, 1, none⟩) HN12_9.out (.slice a12 Em c12))
  rw [← hu] at HX9
  replace HX10 := hid ((HX10.out.far (p := ⟨g12, 0, none⟩) HN12_10.out (.int .i64 Eh)).far (p := ⟨g12, 1, none⟩) HN12_10.out (.slice a12 Em c12))
  rw [← hu] at HX10
  replace HS4 := hid ((HS4.out.set HX12.out 0 (.int .i64 Eh)).set (HX12.out.set0 (.int .i64 Eh)) 1 (.slice a12 Em c12))
  rw [← hu] at HS4
  replace HS9 := hid ((HS9.out.set HX12.out 0 (.int .i64 Eh)).set (HX12.out.set0 (.int .i64 Eh)) 1 (.slice a12 Em c12))
  rw [← hu] at HS9
  replace HO := hid ((HO.out.apart HX12.out 0 (.int .i64 Eh)).apart (HX12.out.set0 (.int .i64 Eh)) 1 (.slice a12 Em c12))
  rw [← hu] at HO
  replace HS12 := hid (HS12.out.set2 HX12.out (.int .i64 Eh) (.slice a12 Em c12))
  rw [← hu] at HS12
  have hus : u12.heap.size = v12.heap.size := by rw [hu]; simp [World.setCell]
  replace HBB := hid (show B ≤ u12.heap.size by rw [hus]; exact HBB.out)
  replace HLW := hid (show LO ≤ u12.heap.size by rw [hus]; exact HLW.out)
  replace HB := hid ((HB.out.setCell (p := ⟨g12, 0, none⟩) HGE12.out (.int .i64 Eh)).setCell (p := ⟨g12, 1, none⟩) HGE12.out (.slice a12 Em c12))
  replace HX12 := hid (box2 HX12.out (.int .i64 Eh) (.slice a12 Em c12))
  rw [← hu] at HX12 HB
  clear hus hu
  have p4x := HX4.out.c0
  have p4y := HX4.out.c1
  have p9x := HX9.out.c0
  have p9y := HX9.out.c1
  have p10x := HX10.out.c0
  have p10y := HX10.out.c1
  have p12x := HX12.out.c0
  have p12y := HX12.out.c1
  have CT := hid (told_yes LO Eh a10 Em c10 El Ee a12 c12 h a9 n c9 a c l u12 HLW.out HO.out HME.out HZE.out HS12.out (HS9.out.more HLB.out) (HS4.out.more HLB.out))
  go_wp2_with fail
  refine CT.out.mono ?_
  rintro e13 v13 ⟨rfl, hb, hst⟩
  clear p4x p4y p9x p9y p10x p10y p12x p12y CT HO HS12
  replace HX4 := hid (hst _ _ _ HX4.out)
  replace HX9 := hid (hst _ _ _ HX9.out)
  replace HX10 := hid (hst _ _ _ HX10.out)
  replace HX12 := hid (hst _ _ _ HX12.out)
  replace HS4 := hid (HS4.out.below (hb.mono HLB.out))
  replace HS9 := hid (HS9.out.below (hb.mono HLB.out))
  replace HB := hid (HB.out.trans (hb.mono (Nat.le_trans HWB.out HLB.out)))
  replace HBB := hid (Nat.le_trans HBB.out hb.size)
  clear hb hst HLB HLW LO
  go_upto_region 20 with fail
  obtain ⟨LO, hLO⟩ : ∃ LO, LO = v13.heap.size := ⟨_, rfl⟩
  have HLB := hid (show B ≤ LO by rw [hLO]; exact HBB.out)
  have HLW := hid (show LO ≤ v13.heap.size from Nat.le_of_eq hLO)
  have px := HX9.out.c0
  have py := HX9.out.c1
  have CC := hid (leave_any h a9 n c9 l v13 (HS9.out.more HBB.out))
  go_wp2_with fail
  refine CC.out.mono ?_
  intro e14 v14 hm
  obtain ⟨a10, c10, rfl, ho, hst, hb⟩ := hm.at (h := Lh) (l := Ll) (n := Lm) (er := Le) HRL.out HML.out HZL.out
  clear px py CC hm
  replace HX4 := hid (HX4.out.below hb)
  replace HX9 := hid (HX9.out.below hb)
  replace HX10 := hid (HX10.out.below hb)
  replace HX12 := hid (HX12.out.below hb)
  replace HS4 := hid (HS4.out.below (hb.mono HBB.out))
  replace HS9 := hid (HS9.out.below (hb.mono HBB.out))
  replace HB := hid (HB.out.trans (hb.mono HB.out.size))
  replace HBB := hid (Nat.le_trans HBB.out hb.size)
  rw [← hLO] at ho
  have HO := hid ho
  replace HLW := hid (Nat.le_trans HLW.out hb.size)
  clear ho hst hb hLO
  have q0 := HX10.out.c0
  have q1 := HX10.out.c1
  have q2 := HX10.out.f 0
  have q3 := HX10.out.f 1
  go_upto_region 21 with fail
  obtain ⟨u14, hu⟩ : ∃ u, u = (v14.setCell ⟨g10, 0, none⟩ (.int .i64 Lh)).setCell ⟨g10, 1, none⟩ (.slice a10 Lm c10) := ⟨_, rfl⟩
  rw [← hu]
  clear q0 q1 q2 q3
  replace HX4 := hid ((HX4.out.far (p := ⟨g10, 0, none⟩) HN10_4.out (.int .i64 Lh)).far (p := ⟨g10, 1, none⟩) HN10_4.out (.slice a10 Lm c10))
  rw [← hu] at HX4
  replace HX9 := hid ((HX9.out.far (p := ⟨g10, 0, none⟩) HN10_9.out (.int .i64 Lh)).far (p := ⟨g10, 1, none⟩) HN10_9.out (.slice a10 Lm c10))
  rw [← hu] at HX9
  replace HX12 := hid ((HX12.out.far (p := ⟨g10, 0, none⟩) (Ne.symm HN12_10.out) (.int .i64 Lh)).far (p := ⟨g10, 1, none⟩) (Ne.symm HN12_10.out) (.slice a10 Lm c10))
  rw [← hu] at HX12
  replace HS4 := hid ((HS4.out.set HX10.out 0 (.int .i64 Lh)).set (HX10.out.set0 (.int .i64 Lh)) 1 (.slice a10 Lm c10))
  rw [← hu] at HS4
  replace HS9 := hid ((HS9.out.set HX10.out 0 (.int .i64 Lh)).set (HX10.out.set0 (.int .i64 Lh)) 1 (.slice a10 Lm c10))
  rw [← hu] at HS9
  replace HO := hid ((HO.out.apart HX10.out 0 (.int .i64 Lh)).apart (HX10.out.set0 (.int .i64 Lh)) 1 (.slice a10 Lm c10))
  rw [← hu] at HO
  have hus : u14.heap.size = v14.heap.size := by rw [hu]; simp [World.setCell]
  replace HBB := hid (show B ≤ u14.heap.size by rw [hus]; exact HBB.out)
  replace HLW := hid (show LO ≤ u14.heap.size by rw [hus]; exact HLW.out)
  replace HB := hid ((HB.out.setCell (p := ⟨g10, 0, none⟩) HGE10.out (.int .i64 Lh)).setCell (p := ⟨g10, 1, none⟩) HGE10.out (.slice a10 Lm c10))
  replace HX10 := hid (box2 HX10.out (.int .i64 Lh) (.slice a10 Lm c10))
  rw [← hu] at HX10 HB
  clear hus hu
  have px := HX4.out.c0
  have py := HX4.out.c1
  have CC := hid (refLeave_any h a n c l u14 (HS4.out.more HBB.out))
  go_wp2_with fail
  refine CC.out.mono ?_
  intro e15 v15 hm
  obtain ⟨a12, c12, rfl, ho, hst, hb⟩ := hm.at (h := Lh) (l := Ll) (n := Lm) (er := Le) HRL.out HML.out HZL.out
  clear px py CC hm
  replace HX4 := hid (HX4.out.below hb)
  replace HX9 := hid (HX9.out.below hb)
  replace HX10 := hid (HX10.out.below hb)
  replace HX12 := hid (HX12.out.below hb)
  replace HS4 := hid (HS4.out.below (hb.mono HBB.out))
  replace HS9 := hid (HS9.out.below (hb.mono HBB.out))
  replace HO := hid (HO.out.below hb)
  replace HB := hid (HB.out.trans (hb.mono HB.out.size))
  replace HBB := hid (Nat.le_trans HBB.out hb.size)
  have HS12 := hid hst
  replace HLW := hid (Nat.le_trans HLW.out hb.size)
  clear ho hst hb
  have q0 := HX12.out.c0
  have q1 := HX12.out.c1
  have q2 := HX12.out.f 0
  have q3 := HX12.out.f 1
  go_upto_region 22 with fail
  obtain ⟨u15, hu⟩ : ∃ u, u = (v15.setCell ⟨g12, 0, none⟩ (.int .i64 Lh)).setCell ⟨g12, 1, none⟩ (.slice a12 Lm c12) := ⟨_, rfl⟩
  rw [← hu]
  clear q0 q1 q2 q3
  replace HX4 := hid ((HX4.out.far (p := ⟨g12, 0, none⟩) HN12_4.out (.int .i64 Lh)).far (p := ⟨g12, 1, none⟩) HN12_4.out (.slice a12 Lm c12))
  rw [← hu] at HX4
  replace HX9 := hid ((HX9.out.far (p := ⟨g12, 0, none⟩) HN12_9.out (.int .i64 Lh)).far (p := ⟨g12, 1, none⟩) HN12_9.out (.slice a12 Lm c12))
  rw [← hu] at HX9
  replace HX10 := hid ((HX10.out.far (p := ⟨g12, 0, none⟩) HN12_10.out (.int .i64 Lh)).far (p := ⟨g12, 1, none⟩) HN12_10.out (.slice a12 Lm c12))
  rw [← hu] at HX10
  replace HS4 := hid ((HS4.out.set HX12.out 0 (.int .i64 Lh)).set (HX12.out.set0 (.int .i64 Lh)) 1 (.slice a12 Lm c12))
  rw [← hu] at HS4
  replace HS9 := hid ((HS9.out.set HX12.out 0 (.int .i64 Lh)).set (HX12.out.set0 (.int .i64 Lh)) 1 (.slice a12 Lm c12))
  rw [← hu] at HS9
  replace HO := hid ((HO.out.apart HX12.out 0 (.int .i64 Lh)).apart (HX12.out.set0 (.int .i64 Lh)) 1 (.slice a12 Lm c12))
  rw [← hu] at HO
  replace HS12 := hid (HS12.out.set2 HX12.out (.int .i64 Lh) (.slice a12 Lm c12))
  rw [← hu] at HS12
  have hus : u15.heap.size = v15.heap.size := by rw [hu]; simp [World.setCell]
  replace HBB := hid (show B ≤ u15.heap.size by rw [hus]; exact HBB.out)
  replace HLW := hid (show LO ≤ u15.heap.size by rw [hus]; exact HLW.out)
  replace HB := hid ((HB.out.setCell (p := ⟨g12, 0, none⟩) HGE12.out (.int .i64 Lh)).setCell (p := ⟨g12, 1, none⟩) HGE12.out (.slice a12 Lm c12))
  replace HX12 := hid (box2 HX12.out (.int .i64 Lh) (.slice a12 Lm c12))
  rw [← hu] at HX12 HB
  clear hus hu
  have p4x := HX4.out.c0
  have p4y := HX4.out.c1
  have p9x := HX9.out.c0
  have p9y := HX9.out.c1
  have p10x := HX10.out.c0
  have p10y := HX10.out.c1
  have p12x := HX12.out.c0
  have p12y := HX12.out.c1
  have CT := hid (told_yes LO Lh a10 Lm c10 Ll Le a12 c12 h a9 n c9 a c l u15 HLW.out HO.out HML.out HZL.out HS12.out (HS9.out.more HLB.out) (HS4.out.more HLB.out))
  go_wp2_with fail
  refine CT.out.mono ?_
  rintro e16 v16 ⟨rfl, hb, hst⟩
  clear p4x p4y p9x p9y p10x p10y p12x p12y CT HO HS12
  replace HX4 := hid (hst _ _ _ HX4.out)
  replace HX9 := hid (hst _ _ _ HX9.out)
  replace HX10 := hid (hst _ _ _ HX10.out)
  replace HX12 := hid (hst _ _ _ HX12.out)
  replace HS4 := hid (HS4.out.below (hb.mono HLB.out))
  replace HS9 := hid (HS9.out.below (hb.mono HLB.out))
  replace HB := hid (HB.out.trans (hb.mono (Nat.le_trans HWB.out HLB.out)))
  replace HBB := hid (Nat.le_trans HBB.out hb.size)
  clear hb hst HLB HLW LO
  go_upto_region 24 with fail
  have px := HX9.out.c0
  have py := HX9.out.c1
  have CC := hid (label_any h a9 n c9 l k v16 (HS9.out.more HBB.out))
  rw [HLL.out] at CC
  go_wp2_with fail
  refine CC.out.mono ?_
  rintro e17 v17 ⟨rfl, hb⟩
  clear px py CC
  replace HX4 := hid (HX4.out.below hb)
  replace HX9 := hid (HX9.out.below hb)
  replace HX10 := hid (HX10.out.below hb)
  replace HX12 := hid (HX12.out.below hb)
  replace HS4 := hid (HS4.out.below (hb.mono HBB.out))
  replace HS9 := hid (HS9.out.below (hb.mono HBB.out))
  replace HB := hid (HB.out.trans (hb.mono HB.out.size))
  replace HBB := hid (Nat.le_trans HBB.out hb.size)
  clear hb
  go_upto_region 25 with fail
  have px := HX4.out.c0
  have py := HX4.out.c1
  have CC := hid (refLabel_any h a n c l k v17 (HS4.out.more HBB.out))
  rw [HLL.out] at CC
  go_wp2_with fail
  refine CC.out.mono ?_
  rintro e18 v18 ⟨rfl, hb⟩
  clear px py CC
  replace HX4 := hid (HX4.out.below hb)
  replace HX9 := hid (HX9.out.below hb)
  replace HX10 := hid (HX10.out.below hb)
  replace HX12 := hid (HX12.out.below hb)
  replace HS4 := hid (HS4.out.below (hb.mono HBB.out))
  replace HS9 := hid (HS9.out.below (hb.mono HBB.out))
  replace HB := hid (HB.out.trans (hb.mono HB.out.size))
  replace HBB := hid (Nat.le_trans HBB.out hb.size)
  clear hb
  go_upto_region 26 with fail
  obtain ⟨LO, hLO⟩ : ∃ LO, LO = v18.heap.size := ⟨_, rfl⟩
  have HLB := hid (show B ≤ LO by rw [hLO]; exact HBB.out)
  have HLW := hid (show LO ≤ v18.heap.size from Nat.le_of_eq hLO)
  have px := HX9.out.c0
  have py := HX9.out.c1
  have CC := hid (new_any re v18)
  go_wp2_with fail
  refine CC.out.mono ?_
  intro e19 v19 hm
  obtain ⟨a10, c10, rfl, ho, hst, hb⟩ := hm.at (h := Kh) (l := Kl) (n := Km) (er := Ke) HRK.out HMK.out HZK.out
  clear px py CC hm
  replace HX4 := hid (HX4.out.below hb)
  replace HX9 := hid (HX9.out.below hb)
  replace HX10 := hid (HX10.out.below hb)
  replace HX12 := hid (HX12.out.below hb)
  replace HS4 := hid (HS4.out.below (hb.mono HBB.out))
  replace HS9 := hid (HS9.out.below (hb.mono HBB.out))
  replace HB := hid (HB.out.trans (hb.mono HB.out.size))
  replace HBB := hid (Nat.le_trans HBB.out hb.size)
  rw [← hLO] at ho
  have HO := hid ho
  replace HLW := hid (Nat.le_trans HLW.out hb.size)
  clear ho hst hb hLO
  have q0 := HX10.out.c0
  have q1 := HX10.out.c1
  have q2 := HX10.out.f 0
  have q3 := HX10.out.f 1
  go_upto_region 27 with fail
  obtain ⟨u19, hu⟩ : ∃ u, u = (v19.setCell ⟨g10, 0, none⟩ (.int .i64 Kh)).setCell ⟨g10, 1, none⟩ (.slice a10 Km c10) := ⟨_, rfl⟩
  rw [← hu]
  clear q0 q1 q2 q3
  replace HX4 := hid ((HX4.out.far (p := ⟨g10, 0, none⟩) HN10_4.out (.int .i64 Kh)).far (p := ⟨g10, 1, none⟩) HN10_4.out (.slice a10 Km c10))
  rw [← hu] at HX4
  replace HX9 := hid ((HX9.out.far (p := ⟨g10, 0, none⟩) HN10_9.out (.int .i64 Kh)).far (p := ⟨g10, 1, none⟩) HN10_9.out (.slice a10 Km c10))
  rw [← hu] at HX9
  replace HX12 := hid ((HX12.out.far (p := ⟨g10, 0, none⟩) (Ne.symm HN12_10.out) (.int .i64 Kh)).far (p := ⟨g10, 1, none⟩) (Ne.symm HN12_10.out) (.slice a10 Km c10))
  rw [← hu] at HX12
  replace HS4 := hid ((HS4.out.set HX10.out 0 (.int .i64 Kh)).set (HX10.out.set0 (.int .i64 Kh)) 1 (.slice a10 Km c10))
  rw [← hu] at HS4
  replace HS9 := hid ((HS9.out.set HX10.out 0 (.int .i64 Kh)).set (HX10.out.set0 (.int .i64 Kh)) 1 (.slice a10 Km c10))
  rw [← hu] at HS9
  replace HO := hid ((HO.out.apart HX10.out 0 (.int .i64 Kh)).apart (HX10.out.set0 (.int .i64 Kh)) 1 (.slice a10 Km c10))
  rw [← hu] at HO
  have hus : u19.heap.size = v19.heap.size := by rw [hu]; simp [World.setCell]
  replace HBB := hid (show B ≤ u19.heap.size by rw [hus]; exact HBB.out)
  replace HLW := hid (show LO ≤ u19.heap.size by rw [hus]; exact HLW.out)
  replace HB := hid ((HB.out.setCell (p := ⟨g10, 0, none⟩) HGE10.out (.int .i64 Kh)).setCell (p := ⟨g10, 1, none⟩) HGE10.out (.slice a10 Km c10))
  replace HX10 := hid (box2 HX10.out (.int .i64 Kh) (.slice a10 Km c10))
  rw [← hu] at HX10 HB
  clear hus hu
  have px := HX4.out.c0
  have py := HX4.out.c1
  have CC := hid (refNew_any re u19)
  go_wp2_with fail
  refine CC.out.mono ?_
  intro e20 v20 hm
  obtain ⟨a12, c12, rfl, ho, hst, hb⟩ := hm.at (h := Kh) (l := Kl) (n := Km) (er := Ke) HRK.out HMK.out HZK.out
  clear px py CC hm
  replace HX4 := hid (HX4.out.below hb)
  replace HX9 := hid (HX9.out.below hb)
  replace HX10 := hid (HX10.out.below hb)
  replace HX12 := hid (HX12.out.below hb)
  replace HS4 := hid (HS4.out.below (hb.mono HBB.out))
  replace HS9 := hid (HS9.out.below (hb.mono HBB.out))
  replace HO := hid (HO.out.below hb)
  replace HB := hid (HB.out.trans (hb.mono HB.out.size))
  replace HBB := hid (Nat.le_trans HBB.out hb.size)
  have HS12 := hid hst
  replace HLW := hid (Nat.le_trans HLW.out hb.size)
  clear ho hst hb
  have q0 := HX12.out.c0
  have q1 := HX12.out.c1
  have q2 := HX12.out.f 0
  have q3 := HX12.out.f 1
  go_upto_region 28 with fail
  obtain ⟨u20, hu⟩ : ∃ u, u = (v20.setCell ⟨g12, 0, none⟩ (.int .i64 Kh)).setCell ⟨g12, 1, none⟩ (.slice a12 Km c12) := ⟨_, rfl⟩
  rw [← hu]
  clear q0 q1 q2 q3
  replace HX4 := hid ((HX4.out.far (p := ⟨g12, 0, none⟩) HN12_4.out (.int .i64 Kh)).far (p := ⟨g12, 1, none⟩) HN12_4.out (.slice a12 Km c12))
  rw [← hu] at HX4
  replace HX9 := hid ((HX9.out.far (p := ⟨g12, 0, none⟩) HN12_9.out (.int .i64 Kh)).far (p := ⟨g12, 1, none⟩) HN12_9.out (.slice a12 Km c12))
  rw [← hu] at HX9
  replace HX10 := hid ((HX10.out.far (p := ⟨g12, 0, none⟩) HN12_10.out (.int .i64 Kh)).far (p := ⟨g12, 1, none⟩) HN12_10.out (.slice a12 Km c12))
  rw [← hu] at HX10
  replace HS4 := hid ((HS4.out.set HX12.out 0 (.int .i64 Kh)).set (HX12.out.set0 (.int .i64 Kh)) 1 (.slice a12 Km c12))
  rw [← hu] at HS4
  replace HS9 := hid ((HS9.out.set HX12.out 0 (.int .i64 Kh)).set (HX12.out.set0 (.int .i64 Kh)) 1 (.slice a12 Km c12))
  rw [← hu] at HS9
  replace HO := hid ((HO.out.apart HX12.out 0 (.int .i64 Kh)).apart (HX12.out.set0 (.int .i64 Kh)) 1 (.slice a12 Km c12))
  rw [← hu] at HO
  replace HS12 := hid (HS12.out.set2 HX12.out (.int .i64 Kh) (.slice a12 Km c12))
  rw [← hu] at HS12
  have hus : u20.heap.size = v20.heap.size := by rw [hu]; simp [World.setCell]
  replace HBB := hid (show B ≤ u20.heap.size by rw [hus]; exact HBB.out)
  replace HLW := hid (show LO ≤ u20.heap.size by rw [hus]; exact HLW.out)
  replace HB := hid ((HB.out.setCell (p := ⟨g12, 0, none⟩) HGE12.out (.int .i64 Kh)).setCell (p := ⟨g12, 1, none⟩) HGE12.out (.slice a12 Km c12))
  replace HX12 := hid (box2 HX12.out (.int .i64 Kh) (.slice a12 Km c12))
  rw [← hu] at HX12 HB
  clear hus hu
  have HTS := hid (show TS w u20 B g4 g9 g10 g12 h a n c l a9 c9 (.int .i64 Kh) (.slice a10 Km c10) (.int .i64 Kh) (.slice a12 Km c12) from ⟨HX4.out, HX9.out, HX10.out, HX12.out, HS4.out, HS9.out, HB.out, HBB.out⟩)
  have CT := hid (fun (W' : World) (hW : Below u20.heap.size u20 W') => told_yes LO Kh a10 Km c10 Kl Ke a12 c12 h a9 n c9 a c l W' (Nat.le_trans HLW.out hW.size) (HO.out.below hW) HMK.out HZK.out (HS12.out.on hW) ((HS9.out.below (hW.mono HBB.out)).more HLB.out) ((HS4.out.below (hW.mono HBB.out)).more HLB.out))
  have CT2 := hid (fun (W' v : World) (hW : TS w W' B g4 g9 g10 g12 h a n c l a9 c9 (.int .i64 Kh) (.slice a10 Km c10) (.int .i64 Kh) (.slice a12 Km c12)) (hb : Below LO W' v) (hst : ∀ k x y, Bx W' k x y → Bx v k x y) => (show TS w v B g4 g9 g10 g12 h a n c l a9 c9 (.int .i64 Kh) (.slice a10 Km c10) (.int .i64 Kh) (.slice a12 Km c12) from ⟨hst _ _ _ hW.x4, hst _ _ _ hW.x9, hst _ _ _ hW.x10, hst _ _ _ hW.x12, hW.s4.below (hb.mono HLB.out), hW.s9.below (hb.mono HLB.out), hW.below.trans (hb.mono (Nat.le_trans HWB.out HLB.out)), Nat.le_trans hW.size hb.size⟩))
  have CK := hid (fun (W' : World) (hW : TS w W' B g4 g9 g10 g12 h a n c l a9 c9 (.int .i64 Kh) (.slice a10 Km c10) (.int .i64 Kh) (.slice a12 Km c12)) => check_any h a9 n c9 l W' (hW.s9.more hW.size))
  have CR := hid (fun (W' : World) (hW : TS w W' B g4 g9 g10 g12 h a n c l a9 c9 (.int .i64 Kh) (.slice a10 Km c10) (.int .i64 Kh) (.slice a12 Km c12)) => refCheck_any h a n c l W' (hW.s4.more hW.size))
  rw [HCK.out] at CK CR
  have CA := hid awake_any
  have hS := HTS.out.limbs
  have HD := hid (show TS w u20.drew B g4 g9 g10 g12 h a n c l a9 c9 (.int .i64 Kh) (.slice a10 Km c10) (.int .i64 Kh) (.slice a12 Km c12) from HTS.out.on ((Below.refl _ _).drew))
  clear HX4 HX9 HX10 HX12 HS4 HS9 HB HBB HO HS12
  go_region_held3 (fun w' => TS w w' B g4 g9 g10 g12 h a n c l a9 c9 (.int .i64 Kh) (.slice a10 Km c10) (.int .i64 Kh) (.slice a12 Km c12) ∧ w'.cell? ⟨g4, 0, none⟩ = some (.int .i64 h) ∧ w'.cell? ⟨g4, 1, none⟩ = some (.slice a n c) ∧ w'.cell? ⟨g9, 0, none⟩ = some (.int .i64 h) ∧ w'.cell? ⟨g9, 1, none⟩ = some (.slice a9 n c9) ∧ w'.cell? ⟨g10, 0, none⟩ = some (.int .i64 Kh) ∧ w'.cell? ⟨g10, 1, none⟩ = some (.slice a10 Km c10) ∧ w'.cell? ⟨g12, 0, none⟩ = some (.int .i64 Kh) ∧ w'.cell? ⟨g12, 1, none⟩ = some (.slice a12 Km c12))
    (first
      | (with_reducible assumption)
      | (with_reducible exact hT1.limbs)
      | (with_reducible exact hT2.limbs)
      | (with_reducible exact hT3.limbs)
      | (with_reducible exact hT4.limbs)
      | (with_reducible exact HD.out.limbs)
      | (with_reducible exact HTS.out.limbs))
    (first
      | (go_at_call 10; refine (CT.out _ (by first | exact Below.refl _ _ | exact (Below.refl _ _).drew)).mono ?_; rintro e' x1 ⟨rfl, hb, hst⟩; have hT1 := CT2.out _ x1 (by first | exact HTS.out | exact HD.out) hb hst)
      | (go_at_call 23; refine (CK.out _ (by first | exact hT2 | exact hT3 | exact hT1)).mono ?_; rintro e' x2 ⟨rfl, hb2⟩; have hT2 : TS w x2 B g4 g9 g10 g12 h a n c l a9 c9 (.int .i64 Kh) (.slice a10 Km c10) (.int .i64 Kh) (.slice a12 Km c12) := (by first | exact hT3.on hb2 | exact hT1.on hb2))
      | (go_at_call 24; refine (CR.out _ (by first | exact hT2 | exact hT3 | exact hT1)).mono ?_; rintro e' x3 ⟨rfl, hb3⟩; have hT3 : TS w x3 B g4 g9 g10 g12 h a n c l a9 c9 (.int .i64 Kh) (.slice a10 Km c10) (.int .i64 Kh) (.slice a12 Km c12) := (by first | exact hT2.on hb3 | exact hT1.on hb3))
      | (go_at_call 25; refine (CA.out _).mono ?_; rintro e' x4 ⟨rfl, hb4⟩; have hT4 : TS w x4 B g4 g9 g10 g12 h a n c l a9 c9 (.int .i64 Kh) (.slice a10 Km c10) (.int .i64 Kh) (.slice a12 Km c12) := (by first | exact hT2.on hb4 | exact hT3.on hb4)))
  all_goals go_wp2
  all_goals go_ret
  all_goals first | exact ⟨rfl, hT4.below⟩ | exact ⟨rfl, hT4.below.drew⟩
end Go.Proofs.Ytnfpfagojeieeaa.Stk
