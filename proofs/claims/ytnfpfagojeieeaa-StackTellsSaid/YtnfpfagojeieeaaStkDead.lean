/-
  STACK: Dead, Enter by contract (tools/gen_stkcalls.py).
-/
import Derived.Test.YtnfpfagojeieeaaStkSet
namespace Go.Proofs.Ytnfpfagojeieeaa.Stk
open Go.RowKit
set_option linter.unusedVariables false

theorem lit_news (w : World) (f : Fr) : ∀ j u, ([f.v].flatten)[j]? = some u → (w.alloc (.cells #[.int .i64 f.op, .int .i64 f.ba, .int .i64 f.re, .bool f.de] 46)).cell? ((⟨w.heap.size, 0, none⟩ : Addr).add j) = some u := by
  intro j u hj
  have hadd : (⟨w.heap.size, 0, none⟩ : Addr).add j = ⟨w.heap.size, j, none⟩ := by unfold Addr.add; split <;> simp_all
  rw [hadd, cell_of_row _ _ j _ _ _ (heap_alloc_new w _)]
  rw [List.flatten_cons, List.flatten_nil, List.append_nil] at hj
  rw [← Array.getElem?_toList]
  exact hj
theorem append_own {base : Nat} {w : World} {v : Value} {l : List Fr} {f : Fr} (h : OwnR 46 4 base w v (l.map Fr.v ++ [f.v])) : OwnF base w v (l ++ [f]) := by
  unfold OwnF
  rw [List.map_append]
  exact h
set_option maxRecDepth 100000 in
set_option maxHeartbeats 4000000 in
theorem dead_any (h : Int) (a : Option Addr) (n c : Nat) (l : List Fr) (w : World) (hs : StAt w.heap.size w a n c l) :
    Calls Try.prog 13 #[.agg #[.int .i64 h, .slice a n c]] w fun e w' => MadeP w (deadR h l) e w' := by
  obtain ⟨W0, hW0, hb, hx, hy, hsz⟩ := two_boxes w (.int .i64 h) (.slice a n c)
  have hsW := hs.on hb
  have c0 := hx.c0
  have c1 := hx.c1
  have HB := hid hb
  have HX := hid hx
  have HY := hid hy
  have HW := hid hW0
  have HS := hid hsz
  have HRE : Hid (deadR h l = deadR h l) := rfl
  obtain ⟨r, hr⟩ : ∃ r, r = deadR h l := ⟨_, rfl⟩
  rw [← hr]
  clear HRE
  clear hb hx hy hW0 hsz
  cases hv : valid h l with
  | false =>
    have HE : Hid (r = bad 2) := hid (by rw [hr]; simp [deadR, hv])
    have CC := hid (copied_no h a n c l W0 hsW hv)
    clear hs hsW hv hr
    go_enter Try.func13, Try.ntmps13
    go_upto_region 1 with fail
    rw [← HW.out]
    go_wp2_with fail
    refine CC.out.mono ?_
    rintro e w1 ⟨rfl, hb1⟩
    have hx1 := HX.out.below hb1
    have hy1 := HY.out.below hb1
    have f0 := hx1.f 0
    have f1 := hx1.f 1
    have k0 := hx1.c0
    have k1 := hx1.c1
    have HX1 := hid hx1
    have HY1 := hid hy1
    have HB1 := hid (HB.out.trans (hb1.mono HB.out.size))
    clear hx1 hy1 hb1 c0 c1 CC
    go_upto_region 2 with fail
    obtain ⟨w2, hw2⟩ : ∃ w2, w2 = (w1.setCell ⟨w.heap.size, 0, none⟩ (.int .i64 0)).setCell ⟨w.heap.size, 1, none⟩ (.slice none 0 0) := ⟨_, rfl⟩
    rw [← hw2]
    have hy2 : Bx w2 (w.heap.size + 1) (.int .i64 0) (.slice none 0 0) := by rw [hw2]; exact (HY1.out.far (by simp) _).far (by simp) _
    have HB2 : Hid (Below w.heap.size w w2) := hid (by rw [hw2]; exact (HB1.out.setCell (by simp) _).setCell (by simp) _)
    have HY2 := hid hy2
    have f0 := hy2.f 0
    have f1 := hy2.f 1
    have k0 := hy2.c0
    have k1 := hy2.c1
    clear hy2 hw2 HX1 HY1 HB1
    go_wp2
    exact bodyPost_ret (results_cs Try.results13 _ _ (w.heap.size + 1) rfl (box2 HY2.out _ _)) rfl (made_bad (h := 0) (z := 0) (v := .bool true) ((HB2.out.setCell (by simp) _).setCell (by simp) _) HE.out)
  | true =>
    have CC := hid (copied_yes h a n c l W0 hsW hv)
    have HV := hid hv
    have HR := hid hr
    have HLN := hid hs.len
    clear hs hsW hv hr
    obtain ⟨hh0, hh1, hne, hle⟩ := valid_yes HV.out
    obtain ⟨m, rfl⟩ : ∃ m, n = m + 1 := ⟨n - 1, by have := HLN.out; have := List.length_pos_iff.2 hne; omega⟩
    have hm : m ≤ 1000 := by have := HLN.out; omega
    have hfi := lastF_fine HV.out
    have HT := hid (fun (W : World) (g c' : Nat) (ho : OwnF (w.heap.size + 2) W (.slice (some ⟨g, 0, none⟩) (m + 1) c') l) => own_last ho HLN.out hm)
    obtain ⟨f, hf⟩ : ∃ f, lastF l = f := ⟨_, rfl⟩
    rw [hf] at HT hfi
    obtain ⟨op, ba, re, de⟩ := f
    have hlk : l[m]'(by have := HLN.out; omega) = ⟨op, ba, re, de⟩ := by rw [lastF_at HLN.out, hf]
    dsimp only [fine] at HT hfi
    obtain ⟨hb0, hb1', hr0, hr1⟩ := hfi
    rw [Nat.add_sub_cancel] at CC
    have HE : Hid (r = ⟨ba, l.set m ⟨op, ba, re, true⟩, 0⟩) := hid (by rw [HR.out]; simp only [deadR, HV.out, hf, HLN.out]; rfl)
    have HLK := hid hlk
    clear hlk hf HR hh0 hh1 hb0 hb1' hr0 hr1 hne hle HV
    go_enter Try.func13, Try.ntmps13
    go_upto_region 1 with fail
    rw [← HW.out]
    go_wp2_with fail
    refine CC.out.mono ?_
    rintro e w1 ⟨g, c', rfl, ho, hb1⟩
    have HM0 := hid (Mid.of (h := h) HB.out HX.out HY.out HS.out ho hb1)
    have hx1 := HX.out.below hb1
    have f0 := hx1.f 0
    have f1 := hx1.f 1
    have k0 := hx1.c0
    have k1 := hx1.c1
    clear hx1 hb1 ho c0 c1 CC
    go_upto_region 2 with fail
    obtain ⟨w2, hw2⟩ : ∃ w2, w2 = (w1.setCell ⟨w.heap.size, 0, none⟩ (.int .i64 h)).setCell ⟨w.heap.size, 1, none⟩ (.slice (some ⟨g, 0, none⟩) (m + 1) c') := ⟨_, rfl⟩
    rw [← hw2] at HM0 ⊢
    clear hw2 f0 f1 k0 k1 HB HX HY HS HW
    have hp := HM0.out.par
    have hy := HM0.out.res
    have p0 := hp.c0
    have p1 := hp.c1
    have pf0 := hp.f 0
    have pf1 := hp.f 1
    have r0 := hy.c0
    have r1 := hy.c1
    have rf0 := hy.f 0
    have rf1 := hy.f 1
    clear hp hy
    obtain ⟨t0, t1, t2, t3⟩ := HT.out _ _ _ HM0.out.own
    have HGB := hid (own_block HM0.out.own)
    have z1 := HM0.out.own.frozen HLN.out (m * 4 + 3)
    clear HT
    go_upto_region 5 with fail
    obtain ⟨w3, hw3⟩ : ∃ w3, w3 = w2.setCell ⟨w.heap.size, 0, none⟩ (.int .i64 ba) := ⟨_, rfl⟩
    rw [← hw3]
    have hp3 : Bx w3 w.heap.size (.int .i64 ba) (.slice (some ⟨g, 0, none⟩) (m + 1) c') := by rw [hw3]; exact HM0.out.par.set0 _
    have hy3 : Bx w3 (w.heap.size + 1) (.int .i64 0) (.slice none 0 0) := by rw [hw3]; exact HM0.out.res.far (by simp) _
    have HO3 : Hid (OwnF (w.heap.size + 2) w3 (.slice (some ⟨g, 0, none⟩) (m + 1) c') l) := hid (by rw [hw3]; exact HM0.out.own.set (by simp) _)
    have HB3 : Hid (Below w.heap.size w w3) := hid (by rw [hw3]; exact HM0.out.below.setCell (by simp) _)
    have t3 := (own_last HO3.out HLN.out hm).2.2.2
    have z3 := HO3.out.frozen HLN.out (m * 4 + 3)
    have HP3 := hid hp3
    have HY3 := hid hy3
    clear hw3 hp3 hy3 HM0 p0 p1 pf0 pf1 r0 r1 rf0 rf1 t0 t1 t2 z1
    go_upto_region 6 with fail
    obtain ⟨w4, hw4⟩ : ∃ w4, w4 = w3.setCell ⟨g, m * 4 + 3, none⟩ (.bool true) := ⟨_, rfl⟩
    rw [← hw4]
    have hgb := HGB.out
    have hp4 : Bx w4 w.heap.size (.int .i64 ba) (.slice (some ⟨g, 0, none⟩) (m + 1) c') := by rw [hw4]; exact HP3.out.far (by show _ ≠ g; omega) _
    have hy4 : Bx w4 (w.heap.size + 1) (.int .i64 0) (.slice none 0 0) := by rw [hw4]; exact HY3.out.far (by show _ ≠ g; omega) _
    have HO4 : Hid (OwnF (w.heap.size + 2) w4 (.slice (some ⟨g, 0, none⟩) (m + 1) c') (l.set m ⟨op, ba, re, true⟩)) := hid (by
      rw [hw4]; exact HO3.out.store HLN.out (by have := HLN.out; omega) (by omega) (by rw [HLK.out]; rfl))
    have HB4 : Hid (Below w.heap.size w w4) := hid (by rw [hw4]; exact HB3.out.setCell (by show _ ≤ g; omega) _)
    have p0 := hp4.c0
    have p1 := hp4.c1
    have r0 := hy4.c0
    have r1 := hy4.c1
    have rf0 := hy4.f 0
    have rf1 := hy4.f 1
    have HY4 := hid hy4
    clear hw4 hp4 hy4 hgb t3 z3 HO3 HB3 HP3 HY3
    go_wp2
    exact bodyPost_ret (results_cs Try.results13 _ _ (w.heap.size + 1) rfl (box2 HY4.out _ _)) rfl (made_ok HE.out ((HO4.out.set (by simp) _).set (by simp) _) ((HB4.out.setCell (by simp) _).setCell (by simp) _))
set_option maxRecDepth 100000 in
set_option maxHeartbeats 4000000 in
theorem enter_any (h : Int) (a : Option Addr) (n c : Nat) (l : List Fr) (op re : Int) (w : World) (hs : StAt w.heap.size w a n c l) :
    Calls Try.prog 15 #[.agg #[.int .i64 h, .slice a n c], .int .i64 op, .int .i64 re] w fun e w' => MadeP w (enterR h l op re) e w' := by
  obtain ⟨W0, hW0, hb, hx, hy, hsz⟩ := two_boxes w (.int .i64 h) (.slice a n c)
  have hsW := hs.on hb
  have c0 := hx.c0
  have c1 := hx.c1
  have HB := hid hb
  have HX := hid hx
  have HY := hid hy
  have HW := hid hW0
  have HS := hid hsz
  have HRE : Hid (enterR h l op re = enterR h l op re) := rfl
  obtain ⟨r, hr⟩ : ∃ r, r = enterR h l op re := ⟨_, rfl⟩
  rw [← hr]
  clear HRE
  clear hb hx hy hW0 hsz
  cases hv : valid h l with
  | false =>
    have HE : Hid (r = bad 2) := hid (by rw [hr]; simp [enterR, hv])
    have CC := hid (copied_no h a n c l W0 hsW hv)
    clear hs hsW hv hr
    go_enter Try.func15, Try.ntmps15
    go_upto_region 1 with fail
    rw [← HW.out]
    go_wp2_with fail
    refine CC.out.mono ?_
    rintro e w1 ⟨rfl, hb1⟩
    have hx1 := HX.out.below hb1
    have hy1 := HY.out.below hb1
    have f0 := hx1.f 0
    have f1 := hx1.f 1
    have k0 := hx1.c0
    have k1 := hx1.c1
    have HX1 := hid hx1
    have HY1 := hid hy1
    have HB1 := hid (HB.out.trans (hb1.mono HB.out.size))
    clear hx1 hy1 hb1 c0 c1 CC
    go_upto_region 2 with fail
    obtain ⟨w2, hw2⟩ : ∃ w2, w2 = (w1.setCell ⟨w.heap.size, 0, none⟩ (.int .i64 0)).setCell ⟨w.heap.size, 1, none⟩ (.slice none 0 0) := ⟨_, rfl⟩
    rw [← hw2]
    have hy2 : Bx w2 (w.heap.size + 1) (.int .i64 0) (.slice none 0 0) := by rw [hw2]; exact (HY1.out.far (by simp) _).far (by simp) _
    have HB2 : Hid (Below w.heap.size w w2) := hid (by rw [hw2]; exact (HB1.out.setCell (by simp) _).setCell (by simp) _)
    have HY2 := hid hy2
    have f0 := hy2.f 0
    have f1 := hy2.f 1
    have k0 := hy2.c0
    have k1 := hy2.c1
    clear hy2 hw2 HX1 HY1 HB1
    go_wp2
    exact bodyPost_ret (results_cs Try.results15 _ _ (w.heap.size + 1) rfl (box2 HY2.out _ _)) rfl (made_bad (h := 0) (z := 0) (v := .bool true) ((HB2.out.setCell (by simp) _).setCell (by simp) _) HE.out)
  | true =>
    have CC := hid (copied_yes h a n c l W0 hsW hv)
    have HV := hid hv
    have HR := hid hr
    have HLN := hid hs.len
    clear hs hsW hv hr
    have CO := hid (fun W => opensList_any op W)
    have CR := hid (fun W => wrongResults_any re W)
    have HR1 : Hid (r = if opens op = false ∨ wrongRe re = true then bad 2 else if l.length = 1000 then bad 8 else ⟨h, l ++ [⟨op, h, re, false⟩], 0⟩) := hid (by rw [HR.out]; simp [enterR, HV.out])
    obtain ⟨hh0, hh1, hne, hle⟩ := valid_yes HV.out
    have HLE := hid (show n ≤ 1000 by rw [← HLN.out]; exact hle)
    clear HR HV hh0 hh1 hne hle
    obtain ⟨q1, hq1⟩ : ∃ q, opens op = q := ⟨_, rfl⟩
    obtain ⟨q2, hq2⟩ : ∃ q, wrongRe re = q := ⟨_, rfl⟩
    rw [hq1] at CO HR1
    rw [hq2] at CR HR1
    clear hq1 hq2
    cases q1 with
    | false =>
      have HE : Hid (r = bad 2) := hid (by rw [HR1.out]; rfl)
      clear HR1 CR
      go_enter Try.func15, Try.ntmps15
      go_upto_region 1 with fail
      rw [← HW.out]
      go_wp2_with fail
      refine CC.out.mono ?_
      rintro e w1 ⟨g, c', rfl, ho, hb1⟩
      have HM0 := hid (Mid.of (h := h) HB.out HX.out HY.out HS.out ho hb1)
      have hx1 := HX.out.below hb1
      have f0 := hx1.f 0
      have f1 := hx1.f 1
      have k0 := hx1.c0
      have k1 := hx1.c1
      clear hx1 hb1 ho c0 c1 CC
      go_upto_region 2 with fail
      obtain ⟨w2, hw2⟩ : ∃ w2, w2 = (w1.setCell ⟨w.heap.size, 0, none⟩ (.int .i64 h)).setCell ⟨w.heap.size, 1, none⟩ (.slice (some ⟨g, 0, none⟩) n c') := ⟨_, rfl⟩
      rw [← hw2] at HM0 ⊢
      clear hw2 f0 f1 k0 k1 HB HX HY HS HW
      have hp := HM0.out.par
      have hy := HM0.out.res
      have p0 := hp.c0
      have p1 := hp.c1
      have pf0 := hp.f 0
      have pf1 := hp.f 1
      have r0 := hy.c0
      have r1 := hy.c1
      have rf0 := hy.f 0
      have rf1 := hy.f 1
      clear hp hy
      go_wp2_with fail
      refine (CO.out _).mono ?_
      rintro e w3 ⟨rfl, rfl⟩
      go_wp2
      exact bodyPost_ret (results_cs Try.results15 _ _ (w.heap.size + 1) rfl (box2 HM0.out.res _ _)) rfl (made_bad (h := 0) (z := 0) (v := .bool true) ((HM0.out.below.setCell (by simp) _).setCell (by simp) _) HE.out)
    | true =>
    cases q2 with
    | true =>
      have HE : Hid (r = bad 2) := hid (by rw [HR1.out]; rfl)
      clear HR1
      go_enter Try.func15, Try.ntmps15
      go_upto_region 1 with fail
      rw [← HW.out]
      go_wp2_with fail
      refine CC.out.mono ?_
      rintro e w1 ⟨g, c', rfl, ho, hb1⟩
      have HM0 := hid (Mid.of (h := h) HB.out HX.out HY.out HS.out ho hb1)
      have hx1 := HX.out.below hb1
      have f0 := hx1.f 0
      have f1 := hx1.f 1
      have k0 := hx1.c0
      have k1 := hx1.c1
      clear hx1 hb1 ho c0 c1 CC
      go_upto_region 2 with fail
      obtain ⟨w2, hw2⟩ : ∃ w2, w2 = (w1.setCell ⟨w.heap.size, 0, none⟩ (.int .i64 h)).setCell ⟨w.heap.size, 1, none⟩ (.slice (some ⟨g, 0, none⟩) n c') := ⟨_, rfl⟩
      rw [← hw2] at HM0 ⊢
      clear hw2 f0 f1 k0 k1 HB HX HY HS HW
      have hp := HM0.out.par
      have hy := HM0.out.res
      have p0 := hp.c0
      have p1 := hp.c1
      have pf0 := hp.f 0
      have pf1 := hp.f 1
      have r0 := hy.c0
      have r1 := hy.c1
      have rf0 := hy.f 0
      have rf1 := hy.f 1
      clear hp hy
      go_wp2_with fail
      refine (CO.out _).mono ?_
      rintro e w3 ⟨rfl, rfl⟩
      go_wp2_with fail
      refine (CR.out _).mono ?_
      rintro e w3 ⟨rfl, rfl⟩
      go_wp2
      exact bodyPost_ret (results_cs Try.results15 _ _ (w.heap.size + 1) rfl (box2 HM0.out.res _ _)) rfl (made_bad (h := 0) (z := 0) (v := .bool true) ((HM0.out.below.setCell (by simp) _).setCell (by simp) _) HE.out)
    | false =>
    by_cases g3 : n = 1000
    · have HE : Hid (r = bad 8) := hid (by rw [HR1.out, HLN.out, if_neg (by simp), if_pos g3])
      subst g3
      clear HR1
      go_enter Try.func15, Try.ntmps15
      go_upto_region 1 with fail
      rw [← HW.out]
      go_wp2_with fail
      refine CC.out.mono ?_
      rintro e w1 ⟨g, c', rfl, ho, hb1⟩
      have HM0 := hid (Mid.of (h := h) HB.out HX.out HY.out HS.out ho hb1)
      have hx1 := HX.out.below hb1
      have f0 := hx1.f 0
      have f1 := hx1.f 1
      have k0 := hx1.c0
      have k1 := hx1.c1
      clear hx1 hb1 ho c0 c1 CC
      go_upto_region 2 with fail
      obtain ⟨w2, hw2⟩ : ∃ w2, w2 = (w1.setCell ⟨w.heap.size, 0, none⟩ (.int .i64 h)).setCell ⟨w.heap.size, 1, none⟩ (.slice (some ⟨g, 0, none⟩) 1000 c') := ⟨_, rfl⟩
      rw [← hw2] at HM0 ⊢
      clear hw2 f0 f1 k0 k1 HB HX HY HS HW
      have hp := HM0.out.par
      have hy := HM0.out.res
      have p0 := hp.c0
      have p1 := hp.c1
      have pf0 := hp.f 0
      have pf1 := hp.f 1
      have r0 := hy.c0
      have r1 := hy.c1
      have rf0 := hy.f 0
      have rf1 := hy.f 1
      clear hp hy
      go_wp2_with fail
      refine (CO.out _).mono ?_
      rintro e w3 ⟨rfl, rfl⟩
      go_wp2_with fail
      refine (CR.out _).mono ?_
      rintro e w3 ⟨rfl, rfl⟩
      go_wp2
      exact bodyPost_ret (results_cs Try.results15 _ _ (w.heap.size + 1) rfl (box2 HM0.out.res _ _)) rfl (made_bad (h := 0) (z := 0) (v := .bool true) ((HM0.out.below.setCell (by simp) _).setCell (by simp) _) HE.out)
    have HE : Hid (r = ⟨h, l ++ [⟨op, h, re, false⟩], 0⟩) := hid (by rw [HR1.out, HLN.out, if_neg (by simp), if_neg g3])
    have g3i : ((n : Int) == 1000) = false := by simp; omega
    clear HR1
    go_enter Try.func15, Try.ntmps15
    go_upto_region 1 with fail
    rw [← HW.out]
    go_wp2_with fail
    refine CC.out.mono ?_
    rintro e w1 ⟨g, c', rfl, ho, hb1⟩
    have HM0 := hid (Mid.of (h := h) HB.out HX.out HY.out HS.out ho hb1)
    have hx1 := HX.out.below hb1
    have f0 := hx1.f 0
    have f1 := hx1.f 1
    have k0 := hx1.c0
    have k1 := hx1.c1
    clear hx1 hb1 ho c0 c1 CC
    go_upto_region 2 with fail
    obtain ⟨w2, hw2⟩ : ∃ w2, w2 = (w1.setCell ⟨w.heap.size, 0, none⟩ (.int .i64 h)).setCell ⟨w.heap.size, 1, none⟩ (.slice (some ⟨g, 0, none⟩) n c') := ⟨_, rfl⟩
    rw [← hw2] at HM0 ⊢
    clear hw2 f0 f1 k0 k1 HB HX HY HS HW
    have hp := HM0.out.par
    have hy := HM0.out.res
    have p0 := hp.c0
    have p1 := hp.c1
    have pf0 := hp.f 0
    have pf1 := hp.f 1
    have r0 := hy.c0
    have r1 := hy.c1
    have rf0 := hy.f 0
    have rf1 := hy.f 1
    clear hp hy
    go_wp2_with fail
    refine (CO.out _).mono ?_
    rintro e w3 ⟨rfl, rfl⟩
    go_wp2_with fail
    refine (CR.out _).mono ?_
    rintro e w3 ⟨rfl, rfl⟩
    have HOW := hid HM0.out.own
    have HNL := hid (lit_news w2 ⟨op, h, re, false⟩)
    have HBW : Hid (Below (w.heap.size + 2) w2 (w2.alloc (.cells #[.int .i64 op, .int .i64 h, .int .i64 re, .bool false] 46))) := hid ((Below.refl _ _).alloc (by have := (own_block HM0.out.own).2; have := (own_block HM0.out.own).1; omega) _)
    have HOA := hid (OwnF.below HOW.out ((Below.refl _ _).alloc (Nat.le_refl _) (.cells #[.int .i64 op, .int .i64 h, .int .i64 re, .bool false] 46)))
    have HZ := hid (show w.heap.size + 2 ≤ w2.heap.size by have := (own_block HM0.out.own).2; have := (own_block HM0.out.own).1; omega)
    have HL1 : Hid ((l ++ [(⟨op, h, re, false⟩ : Fr)]).length = n + 1) := hid (by simp [HLN.out])
    clear HOW
    go_upto_region 8 with fail
    go_upto_region 9 with (at_builtin; refine append_rows infoFr rfl (by omega) (by omega) Try.underlying22 rfl (.tmp 37) (.tmp 43) rfl (base := w.heap.size + 2) (w0 := w2) (xs := l.map Fr.v) [(⟨op, h, re, false⟩ : Fr).v] rfl HOA.out HBW.out (by rw [World.size_alloc]; have := HZ.out; omega) ⟨w2.heap.size, 0, none⟩ 1 1 rfl rfl (by simp [Fr.v]) HNL.out (by simp [Fr.v, Value.oneCell']) (by rw [List.length_map, HLN.out]; have := HLE.out; omega) ?_; intro v1 u1 ho hb hsz hgrow; have ho1 := append_own ho; obtain ⟨a1, c1, hv1, -⟩ := OwnF.slice ho1 (by simp; rw [HLN.out]; have := HLE.out; omega); rw [HL1.out] at hv1; subst hv1; have hp := HM0.out.par.belowB hb (by omega); have hy := HM0.out.res.belowB hb (by omega); have p0 := hp.c0; have p1 := hp.c1; have pf0 := hp.f 0; have pf1 := hp.f 1; have HO1 := hid ho1; have HP := hid hp; have HY := hid hy; have HB1 := hid (HM0.out.below.trans (hb.mono (by omega))); clear hp hy ho ho1 hb hsz hgrow)
    obtain ⟨w5, hw5⟩ : ∃ w5, w5 = u1.setCell ⟨w.heap.size, 1, none⟩ (.slice a1 (n + 1) c1) := ⟨_, rfl⟩
    rw [← hw5]
    have hp5 : Bx w5 w.heap.size (.int .i64 h) (.slice a1 (n + 1) c1) := by rw [hw5]; exact HP.out.set1 _
    have hy5 : Bx w5 (w.heap.size + 1) (.int .i64 0) (.slice none 0 0) := by rw [hw5]; exact HY.out.far (by simp) _
    have HO5 := hid (HO1.out.set (p := ⟨w.heap.size, 1, none⟩) (by simp) (.slice a1 (n + 1) c1))
    have HB5 := hid (HB1.out.setCell (p := ⟨w.heap.size, 1, none⟩) (by simp) (.slice a1 (n + 1) c1))
    rw [← hw5] at HO5 HB5
    have p0 := hp5.c0
    have p1 := hp5.c1
    have r0 := hy5.c0
    have r1 := hy5.c1
    have rf0 := hy5.f 0
    have rf1 := hy5.f 1
    have HY5 := hid hy5
    clear hw5 hp5 hy5 HO1 HB1 HP HY HM0 HNL HBW HOA
    go_wp2
    exact bodyPost_ret (results_cs Try.results15 _ _ (w.heap.size + 1) rfl (box2 HY5.out _ _)) rfl (made_ok HE.out ((HO5.out.set (by simp) _).set (by simp) _) ((HB5.out.setCell (by simp) _).setCell (by simp) _))
end Go.Proofs.Ytnfpfagojeieeaa.Stk
