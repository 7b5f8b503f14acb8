/-
  STACK: Pop, Leave by contract (tools/gen_stkcalls.py).
-/
import Derived.Test.YtnfpfagojeieeaaStkPush
import Derived.Deep.RegionWith
namespace Go.Proofs.Ytnfpfagojeieeaa.Stk
open Go.RowKit
set_option linter.unusedVariables false

/-- What stays over a region that calls what leaves all that was there. -/
theorem pop_keep {w w2 W : World} {x y : Value} {g o : Nat} {t0 t1 t2 t3 : Value} (hx : Bx w2 w.heap.size x y) (c0 : w2.cell? ⟨g, o, none⟩ = some t0) (c1 : w2.cell? ⟨g, o + 1, none⟩ = some t1) (c2 : w2.cell? ⟨g, o + 2, none⟩ = some t2) (c3 : w2.cell? ⟨g, o + 3, none⟩ = some t3) (h : Below w2.heap.size w2 W) :
    Below w2.heap.size w2 W ∧ W.cell? ⟨w.heap.size, 0, none⟩ = some x ∧ W.cell? ⟨g, o, none⟩ = some t0 ∧ W.cell? ⟨g, o + 1, none⟩ = some t1 ∧ W.cell? ⟨g, o + 2, none⟩ = some t2 ∧ W.cell? ⟨g, o + 3, none⟩ = some t3 :=
  ⟨h, (hx.below h).c0, keep h c0, keep h c1, keep h c2, keep h c3⟩
set_option maxRecDepth 100000 in
set_option maxHeartbeats 4000000 in
theorem pop_any (h : Int) (a : Option Addr) (n c : Nat) (l : List Fr) (k : Int) (w : World) (hs : StAt w.heap.size w a n c l) (hk : k ≤ 9223372036854775807) :
    Calls Try.prog 11 #[.agg #[.int .i64 h, .slice a n c], .int .i64 k] w fun e w' => MadeP w (popR h l k) e w' := by
  obtain ⟨W0, hW0, hb, hx, hy, hsz⟩ := two_boxes w (.int .i64 h) (.slice a n c)
  have hsW := hs.on hb
  have c0 := hx.c0
  have c1 := hx.c1
  have HB := hid hb
  have HX := hid hx
  have HY := hid hy
  have HW := hid hW0
  have HS := hid hsz
  have HRE : Hid (popR h l k = popR h l k) := rfl
  obtain ⟨r, hr⟩ : ∃ r, r = popR h l k := ⟨_, rfl⟩
  rw [← hr]
  clear HRE
  clear hb hx hy hW0 hsz
  cases hv : valid h l with
  | false =>
    have HE : Hid (r = bad 2) := hid (by rw [hr]; simp [popR, hv])
    have CC := hid (copied_no h a n c l W0 hsW hv)
    clear hs hsW hv hr
    go_enter Try.func11, Try.ntmps11
    go_upto_region 1 with fail
    rw [← HW.out]
    go_wp2_with fail
    refine CC.out.mono ?_
    rintro e w1 ⟨rfl, hb1⟩
    have hx1 := HX.out.below hb1
    have hy1 := HY.out.below hb1
    have f0 := hx1.f 0
    have f1 := hx1.f 1
    have k0 := hx1.c0
    have k1 := hx1.c1
    have HX1 := hid hx1
    have HY1 := hid hy1
    have HB1 := hid (HB.out.trans (hb1.mono HB.out.size))
    clear hx1 hy1 hb1 c0 c1 CC
    go_upto_region 2 with fail
    obtain ⟨w2, hw2⟩ : ∃ w2, w2 = (w1.setCell ⟨w.heap.size, 0, none⟩ (.int .i64 0)).setCell ⟨w.heap.size, 1, none⟩ (.slice none 0 0) := ⟨_, rfl⟩
    rw [← hw2]
    have hy2 : Bx w2 (w.heap.size + 1) (.int .i64 0) (.slice none 0 0) := by rw [hw2]; exact (HY1.out.far (by simp) _).far (by simp) _
    have HB2 : Hid (Below w.heap.size w w2) := hid (by rw [hw2]; exact (HB1.out.setCell (by simp) _).setCell (by simp) _)
    have HY2 := hid hy2
    have f0 := hy2.f 0
    have f1 := hy2.f 1
    have k0 := hy2.c0
    have k1 := hy2.c1
    clear hy2 hw2 HX1 HY1 HB1
    go_wp2
    exact bodyPost_ret (results_cs Try.results11 _ _ (w.heap.size + 1) rfl (box2 HY2.out _ _)) rfl (made_bad (h := 0) (z := 0) (v := .bool true) ((HB2.out.setCell (by simp) _).setCell (by simp) _) HE.out)
  | true =>
    have CC := hid (copied_yes h a n c l W0 hsW hv)
    have HV := hid hv
    have HR := hid hr
    have HLN := hid hs.len
    clear hs hsW hv hr
    obtain ⟨hh0, hh1, hne, hle⟩ := valid_yes HV.out
    obtain ⟨m, rfl⟩ : ∃ m, n = m + 1 := ⟨n - 1, by have := HLN.out; have := List.length_pos_iff.2 hne; omega⟩
    have hm : m ≤ 1000 := by have := HLN.out; omega
    have hfi := lastF_fine HV.out
    have HT := hid (fun (W : World) (g c' : Nat) (ho : OwnF (w.heap.size + 2) W (.slice (some ⟨g, 0, none⟩) (m + 1) c') l) => own_last ho HLN.out hm)
    obtain ⟨f, hf⟩ : ∃ f, lastF l = f := ⟨_, rfl⟩
    rw [hf] at HT hfi
    obtain ⟨op, ba, re, de⟩ := f
    dsimp only [fine] at HT hfi
    obtain ⟨hb0, hb1', hr0, hr1⟩ := hfi
    rw [Nat.add_sub_cancel] at CC
    by_cases g1 : k < 0
    · have HE : Hid (r = bad 2) := hid (by rw [HR.out]; simp [popR, HV.out, g1])
      clear hm
      go_enter Try.func11, Try.ntmps11
      go_upto_region 1 with fail
      rw [← HW.out]
      go_wp2_with fail
      refine CC.out.mono ?_
      rintro e w1 ⟨g, c', rfl, ho, hb1⟩
      have HM0 := hid (Mid.of (h := h) HB.out HX.out HY.out HS.out ho hb1)
      have hx1 := HX.out.below hb1
      have f0 := hx1.f 0
      have f1 := hx1.f 1
      have k0 := hx1.c0
      have k1 := hx1.c1
      clear hx1 hb1 ho c0 c1 CC
      go_upto_region 2 with fail
      obtain ⟨w2, hw2⟩ : ∃ w2, w2 = (w1.setCell ⟨w.heap.size, 0, none⟩ (.int .i64 h)).setCell ⟨w.heap.size, 1, none⟩ (.slice (some ⟨g, 0, none⟩) (m + 1) c') := ⟨_, rfl⟩
      rw [← hw2] at HM0 ⊢
      clear hw2 f0 f1 k0 k1 HB HX HY HS HW
      have hp := HM0.out.par
      have hy := HM0.out.res
      have p0 := hp.c0
      have p1 := hp.c1
      have pf0 := hp.f 0
      have pf1 := hp.f 1
      have r0 := hy.c0
      have r1 := hy.c1
      have rf0 := hy.f 0
      have rf1 := hy.f 1
      clear hp hy
      go_wp2
      exact bodyPost_ret (results_cs Try.results11 _ _ (w.heap.size + 1) rfl (box2 HM0.out.res _ _)) rfl (made_bad (h := 0) (z := 0) (v := .bool true) ((HM0.out.below.setCell (by simp) _).setCell (by simp) _) HE.out)
    have CW := hid (fun W => without_any h k ⟨op, ba, re, de⟩ W hh0 hh1 hb0 hb1' (by omega) hk)
    have HR1 : Hid (r = if (without h k ⟨op, ba, re, de⟩).2 = 0 then ⟨(without h k ⟨op, ba, re, de⟩).1, l, 0⟩ else bad (without h k ⟨op, ba, re, de⟩).2) := hid (by rw [HR.out]; simp [popR, HV.out, g1, hf])
    obtain ⟨x, y, hxy⟩ : ∃ x y, without h k ⟨op, ba, re, de⟩ = (x, y) := ⟨_, _, rfl⟩
    rw [hxy] at CW HR1
    dsimp only at CW HR1
    clear hxy hf HR hh0 hh1 hb0 hb1' hr0 hr1 hne hle hk HV
    go_enter Try.func11, Try.ntmps11
    go_upto_region 1 with fail
    rw [← HW.out]
    go_wp2_with fail
    refine CC.out.mono ?_
    rintro e w1 ⟨g, c', rfl, ho, hb1⟩
    have HM0 := hid (Mid.of (h := h) HB.out HX.out HY.out HS.out ho hb1)
    have hx1 := HX.out.below hb1
    have f0 := hx1.f 0
    have f1 := hx1.f 1
    have k0 := hx1.c0
    have k1 := hx1.c1
    clear hx1 hb1 ho c0 c1 CC
    go_upto_region 2 with fail
    obtain ⟨w2, hw2⟩ : ∃ w2, w2 = (w1.setCell ⟨w.heap.size, 0, none⟩ (.int .i64 h)).setCell ⟨w.heap.size, 1, none⟩ (.slice (some ⟨g, 0, none⟩) (m + 1) c') := ⟨_, rfl⟩
    rw [← hw2] at HM0 ⊢
    clear hw2 f0 f1 k0 k1 HB HX HY HS HW
    have hp := HM0.out.par
    have hy := HM0.out.res
    have p0 := hp.c0
    have p1 := hp.c1
    have pf0 := hp.f 0
    have pf1 := hp.f 1
    have r0 := hy.c0
    have r1 := hy.c1
    have rf0 := hy.f 0
    have rf1 := hy.f 1
    clear hp hy
    obtain ⟨t0, t1, t2, t3⟩ := HT.out _ _ _ HM0.out.own
    have hS := pop_keep HM0.out.par t0 t1 t2 t3 (Below.refl _ _)
    have HKP := hid (fun (W : World) (h : Below w2.heap.size w2 W) => pop_keep HM0.out.par t0 t1 t2 t3 h)
    clear HT
    go_wp2
    go_region_with
      (go_at_call 29; refine (CW.out _).mono ?_; rintro e w3 ⟨rfl, hb3'⟩; have hb3 : Below w2.heap.size w2 w3 := (by first | exact hb3' | exact undrew hb3'); have q0 := (HKP.out _ hb3).2.1; have q1 : w3.frozen? ⟨w.heap.size, 0, none⟩ = false := (HM0.out.par.below hb3).f 0; have HB3 := hid hb3; clear hb3 hb3')
    all_goals
      obtain ⟨w4, hw4⟩ : ∃ w4, w4 = w3.setCell ⟨w.heap.size, 0, none⟩ (.int .i64 x) := ⟨_, rfl⟩
      rw [← hw4]
      have hp4 : Bx w4 w.heap.size (.int .i64 x) (.slice (some ⟨g, 0, none⟩) (m + 1) c') := by rw [hw4]; exact (HM0.out.par.below HB3.out).set0 _
      have hy4 : Bx w4 (w.heap.size + 1) (.int .i64 0) (.slice none 0 0) := by rw [hw4]; exact (HM0.out.res.below HB3.out).far (by simp) _
      have HO4 : Hid (OwnF (w.heap.size + 2) w4 (.slice (some ⟨g, 0, none⟩) (m + 1) c') l) := hid (by rw [hw4]; exact (HM0.out.own.below HB3.out).set (by simp) _)
      have HB4 : Hid (Below w.heap.size w w4) := hid (by rw [hw4]; exact (HM0.out.below.trans (HB3.out.mono HM0.out.below.size)).setCell (by simp) _)
      have HY4 := hid hy4
      have p0 := hp4.c0
      have p1 := hp4.c1
      have r0 := hy4.c0
      have r1 := hy4.c1
      have rf0 := hy4.f 0
      have rf1 := hy4.f 1
      clear hw4 hp4 hy4 HM0 HB3 q0 q1 HKP hS t0 t1 t2 t3
      by_cases hy : y = 0
      · subst hy
        have HE : Hid (r = ⟨x, l, 0⟩) := HR1.out
        go_wp2
        exact bodyPost_ret (results_cs Try.results11 _ _ (w.heap.size + 1) rfl (box2 HY4.out _ _)) rfl (made_ok HE.out ((HO4.out.set (by simp) _).set (by simp) _) ((HB4.out.setCell (by simp) _).setCell (by simp) _))
      · have HE : Hid (r = bad y) := hid (by rw [HR1.out, if_neg hy])
        have hyb : (y != 0) = true := by simp [hy]
        go_wp2
        exact bodyPost_ret (results_cs Try.results11 _ _ (w.heap.size + 1) rfl (box2 HY4.out _ _)) rfl (made_bad (h := 0) (z := 0) (v := .bool true) ((HB4.out.setCell (by simp) _).setCell (by simp) _) HE.out)
end Go.Proofs.Ytnfpfagojeieeaa.Stk
