/-
  STACK: Leave by contract (tools/gen_stkcalls.py).
-/
import Derived.Test.YtnfpfagojeieeaaStkDead
import Derived.Deep.RegionHeld3
import Derived.Deep.Cut
namespace Go.Proofs.Ytnfpfagojeieeaa.Stk
open Go.RowKit
set_option linter.unusedVariables false

/-- What stays over a region that calls what leaves all that was there. -/
theorem leave_keep {w w2 W : World} {x y : Value} {g o : Nat} {t0 t1 t2 t3 : Value} (hx : Bx w2 w.heap.size x y) (c0 : w2.cell? ⟨g, o, none⟩ = some t0) (c1 : w2.cell? ⟨g, o + 1, none⟩ = some t1) (c2 : w2.cell? ⟨g, o + 2, none⟩ = some t2) (c3 : w2.cell? ⟨g, o + 3, none⟩ = some t3) (h : Below w2.heap.size w2 W) :
    Below w2.heap.size w2 W ∧ W.cell? ⟨w.heap.size, 0, none⟩ = some x ∧ W.cell? ⟨g, o, none⟩ = some t0 ∧ W.cell? ⟨g, o + 1, none⟩ = some t1 ∧ W.cell? ⟨g, o + 2, none⟩ = some t2 ∧ W.cell? ⟨g, o + 3, none⟩ = some t3 :=
  ⟨h, (hx.below h).c0, keep h c0, keep h c1, keep h c2, keep h c3⟩
set_option maxRecDepth 100000 in
set_option maxHeartbeats 4000000 in
theorem leave_any (h : Int) (a : Option Addr) (n c : Nat) (l : List Fr) (w : World) (hs : StAt w.heap.size w a n c l) :
    Calls Try.prog 17 #[.agg #[.int .i64 h, .slice a n c]] w fun e w' => MadeP w (leaveR h l) e w' := by
  obtain ⟨W0, hW0, hb, hx, hy, hsz⟩ := two_boxes w (.int .i64 h) (.slice a n c)
  have hsW := hs.on hb
  have c0 := hx.c0
  have c1 := hx.c1
  have HB := hid hb
  have HX := hid hx
  have HY := hid hy
  have HW := hid hW0
  have HS := hid hsz
  have HRE : Hid (leaveR h l = leaveR h l) := rfl
  obtain ⟨r, hr⟩ : ∃ r, r = leaveR h l := ⟨_, rfl⟩
  rw [← hr]
  clear HRE
  clear hb hx hy hW0 hsz
  cases hv : valid h l with
  | false =>
    have HE : Hid (r = bad 2) := hid (by rw [hr]; simp [leaveR, hv])
    have CC := hid (copied_no h a n c l W0 hsW hv)
    clear hs hsW hv hr
    go_enter Try.func17, Try.ntmps17
    go_upto_region 1 with fail
    rw [← HW.out]
    go_wp2_with fail
    refine CC.out.mono ?_
    rintro e w1 ⟨rfl, hb1⟩
    have hx1 := HX.out.below hb1
    have hy1 := HY.out.below hb1
    have f0 := hx1.f 0
    have f1 := hx1.f 1
    have k0 := hx1.c0
    have k1 := hx1.c1
    have HX1 := hid hx1
    have HY1 := hid hy1
    have HB1 := hid (HB.out.trans (hb1.mono HB.out.size))
    clear hx1 hy1 hb1 c0 c1 CC
    go_upto_region 2 with fail
    obtain ⟨w2, hw2⟩ : ∃ w2, w2 = (w1.setCell ⟨w.heap.size, 0, none⟩ (.int .i64 0)).setCell ⟨w.heap.size, 1, none⟩ (.slice none 0 0) := ⟨_, rfl⟩
    rw [← hw2]
    have hy2 : Bx w2 (w.heap.size + 1) (.int .i64 0) (.slice none 0 0) := by rw [hw2]; exact (HY1.out.far (by simp) _).far (by simp) _
    have HB2 : Hid (Below w.heap.size w w2) := hid (by rw [hw2]; exact (HB1.out.setCell (by simp) _).setCell (by simp) _)
    have HY2 := hid hy2
    have f0 := hy2.f 0
    have f1 := hy2.f 1
    have k0 := hy2.c0
    have k1 := hy2.c1
    clear hy2 hw2 HX1 HY1 HB1
    go_wp2
    exact bodyPost_ret (results_cs Try.results17 _ _ (w.heap.size + 1) rfl (box2 HY2.out _ _)) rfl (made_bad (h := 0) (z := 0) (v := .bool true) ((HB2.out.setCell (by simp) _).setCell (by simp) _) HE.out)
  | true =>
    have CC := hid (copied_yes h a n c l W0 hsW hv)
    have HV := hid hv
    have HR := hid hr
    have HLN := hid hs.len
    clear hs hsW hv hr
    obtain ⟨hh0, hh1, hne, hle⟩ := valid_yes HV.out
    obtain ⟨m, rfl⟩ : ∃ m, n = m + 1 := ⟨n - 1, by have := HLN.out; have := List.length_pos_iff.2 hne; omega⟩
    have hm : m ≤ 1000 := by have := HLN.out; omega
    have hfi := lastF_fine HV.out
    have HT := hid (fun (W : World) (g c' : Nat) (ho : OwnF (w.heap.size + 2) W (.slice (some ⟨g, 0, none⟩) (m + 1) c') l) => own_last ho HLN.out hm)
    obtain ⟨f, hf⟩ : ∃ f, lastF l = f := ⟨_, rfl⟩
    rw [hf] at HT hfi
    obtain ⟨op, ba, re, de⟩ := f
    dsimp only [fine] at HT hfi
    obtain ⟨hb0, hb1', hr0, hr1⟩ := hfi
    rw [Nat.add_sub_cancel] at CC
    have CW := hid (fun W => without_any h re ⟨op, ba, re, de⟩ W hh0 hh1 hb0 hb1' hr0 (by omega))
    have HR1 : Hid (r = if (without h re ⟨op, ba, re, de⟩).2 ≠ 0 then bad (without h re ⟨op, ba, re, de⟩).2 else if ba < (without h re ⟨op, ba, re, de⟩).1 then bad 201 else ⟨(without h re ⟨op, ba, re, de⟩).1 + re, l.take m, 0⟩) := hid (by rw [HR.out]; simp [leaveR, HV.out, hf, HLN.out])
    have hx0 : 0 ≤ (without h re ⟨op, ba, re, de⟩).1 ∧ (without h re ⟨op, ba, re, de⟩).1 ≤ 1073741824 := by
      simp only [without]
      repeat' split
      all_goals simp only
      all_goals omega
    obtain ⟨x, y, hxy⟩ : ∃ x y, without h re ⟨op, ba, re, de⟩ = (x, y) := ⟨_, _, rfl⟩
    rw [hxy] at CW HR1 hx0
    dsimp only at CW HR1 hx0
    have HX0 := hid hx0
    have kx : IntKind.i64.wrap (x + re) = x + re := s64_in (by omega) (by omega)
    have HRE := hid (And.intro hr0 hr1)
    clear hxy hf HR hh0 hh1 hb0 hb1' hr0 hr1 hne hle HV hx0
    go_enter Try.func17, Try.ntmps17
    go_upto_region 1 with fail
    rw [← HW.out]
    go_wp2_with fail
    refine CC.out.mono ?_
    rintro e w1 ⟨g, c', rfl, ho, hb1⟩
    have HM0 := hid (Mid.of (h := h) HB.out HX.out HY.out HS.out ho hb1)
    have hx1 := HX.out.below hb1
    have f0 := hx1.f 0
    have f1 := hx1.f 1
    have k0 := hx1.c0
    have k1 := hx1.c1
    clear hx1 hb1 ho c0 c1 CC
    go_upto_region 2 with fail
    obtain ⟨w2, hw2⟩ : ∃ w2, w2 = (w1.setCell ⟨w.heap.size, 0, none⟩ (.int .i64 h)).setCell ⟨w.heap.size, 1, none⟩ (.slice (some ⟨g, 0, none⟩) (m + 1) c') := ⟨_, rfl⟩
    rw [← hw2] at HM0 ⊢
    clear hw2 f0 f1 k0 k1 HB HX HY HS HW
    have hp := HM0.out.par
    have hy := HM0.out.res
    have p0 := hp.c0
    have p1 := hp.c1
    have pf0 := hp.f 0
    have pf1 := hp.f 1
    have r0 := hy.c0
    have r1 := hy.c1
    have rf0 := hy.f 0
    have rf1 := hy.f 1
    clear hp hy
    obtain ⟨t0, t1, t2, t3⟩ := HT.out _ _ _ HM0.out.own
    have hS := leave_keep HM0.out.par t0 t1 t2 t3 (Below.refl _ _)
    have HKP := hid (fun (W : World) (h : Below w2.heap.size w2 W) => leave_keep HM0.out.par t0 t1 t2 t3 h)
    have HGB := hid (own_block HM0.out.own)
    clear HT
    go_wp2
    go_region_held3 (fun w' => Below w2.heap.size w2 w' ∧ w'.cell? ⟨w.heap.size, 0, none⟩ = some (.int .i64 h) ∧ w'.cell? ⟨g, m * 4, none⟩ = some (.int .i64 op) ∧ w'.cell? ⟨g, m * 4 + 1, none⟩ = some (.int .i64 ba) ∧ w'.cell? ⟨g, m * 4 + 2, none⟩ = some (.int .i64 re) ∧ w'.cell? ⟨g, m * 4 + 3, none⟩ = some (.bool de))
      (first
        | (with_reducible assumption)
        | (with_reducible exact HKP.out _ hb3)
        | (with_reducible exact HKP.out _ ((Below.refl _ _).drew)))
      (first
        | (go_at_call 29; refine (CW.out _).mono ?_; rintro e w3 ⟨rfl, hb3'⟩; have hb3 : Below w2.heap.size w2 w3 := (by first | exact hb3' | exact undrew hb3')))
    have hpp := HM0.out.par.below hb3
    have hyy := HM0.out.res.below hb3
    have HO3 := hid (HM0.out.own.below hb3)
    have HB3 := hid (HM0.out.below.trans (hb3.mono HM0.out.below.size))
    have HPP := hid hpp
    have HYY := hid hyy
    have t0 := keep hb3 t0
    have t1 := keep hb3 t1
    have t2 := keep hb3 t2
    have t3 := keep hb3 t3
    have p0 := hpp.c0
    have p1 := hpp.c1
    have pf0 := hpp.f 0
    have pf1 := hpp.f 1
    have r0 := hyy.c0
    have r1 := hyy.c1
    have rf0 := hyy.f 0
    have rf1 := hyy.f 1
    clear hpp hyy hb3 hb3' HM0 HKP hS CW
    by_cases g1 : y = 0
    rotate_left
    · have HE : Hid (r = bad y) := hid (by rw [HR1.out, if_pos g1])
      have g1b : (y != 0) = true := by simp [g1]
      clear HR1
      go_wp2
      exact bodyPost_ret (results_cs Try.results17 _ _ (w.heap.size + 1) rfl (box2 HYY.out _ _)) rfl (made_bad (h := 0) (z := 0) (v := .bool true) ((HB3.out.setCell (by simp) _).setCell (by simp) _) HE.out)
    subst g1
    by_cases g2 : ba < x
    · have HE : Hid (r = bad 201) := hid (by rw [HR1.out, if_neg (by simp), if_pos g2])
      clear HR1
      go_wp2
      exact bodyPost_ret (results_cs Try.results17 _ _ (w.heap.size + 1) rfl (box2 HYY.out _ _)) rfl (made_bad (h := 0) (z := 0) (v := .bool true) ((HB3.out.setCell (by simp) _).setCell (by simp) _) HE.out)
    have HE : Hid (r = ⟨x + re, l.take m, 0⟩) := hid (by rw [HR1.out, if_neg (by simp), if_neg g2])
    clear HR1
    go_upto_region 10 with fail
    obtain ⟨w4, hw4⟩ : ∃ w4, w4 = w3.setCell ⟨w.heap.size, 0, none⟩ (.int .i64 (x + re)) := ⟨_, rfl⟩
    rw [← hw4]
    have hp4 : Bx w4 w.heap.size (.int .i64 (x + re)) (.slice (some ⟨g, 0, none⟩) (m + 1) c') := by rw [hw4]; exact HPP.out.set0 _
    have hy4 : Bx w4 (w.heap.size + 1) (.int .i64 0) (.slice none 0 0) := by rw [hw4]; exact HYY.out.far (by simp) _
    have HO4 : Hid (OwnF (w.heap.size + 2) w4 (.slice (some ⟨g, 0, none⟩) (m + 1) c') l) := hid (by rw [hw4]; exact HO3.out.set (by simp) _)
    have HB4 : Hid (Below w.heap.size w w4) := hid (by rw [hw4]; exact HB3.out.setCell (by simp) _)
    have hcp : m ≤ c' := by have := HO4.out.cap HLN.out; omega
    have hcp1 : (m : Int) ≤ (c' : Int) := by omega
    have p0 := hp4.c0
    have p1 := hp4.c1
    have pf0 := hp4.f 0
    have pf1 := hp4.f 1
    have HP4 := hid hp4
    have HY4 := hid hy4
    have km : IntKind.i64.wrap (m : Int) = m := s64_in (by omega) (by omega)
    clear hw4 hp4 hy4 HO3 HB3 HPP HYY t0 t1 t2 t3 r0 r1 rf0 rf1
    go_upto_region 11 with fail
    obtain ⟨w5, hw5⟩ : ∃ w5, w5 = w4.setCell ⟨w.heap.size, 1, none⟩ (.slice (some ⟨g, 0, none⟩) m c') := ⟨_, rfl⟩
    rw [← hw5]
    have hp5 : Bx w5 w.heap.size (.int .i64 (x + re)) (.slice (some ⟨g, 0, none⟩) m c') := by rw [hw5]; exact HP4.out.set1 _
    have hy5 : Bx w5 (w.heap.size + 1) (.int .i64 0) (.slice none 0 0) := by rw [hw5]; exact HY4.out.far (by simp) _
    have HO5 : Hid (OwnF (w.heap.size + 2) w5 (.slice (some ⟨g, 0, none⟩) m c') (l.take m)) := hid (by rw [hw5]; exact (HO4.out.take HLN.out).set (by simp) _)
    have HB5 : Hid (Below w.heap.size w w5) := hid (by rw [hw5]; exact HB4.out.setCell (by simp) _)
    have p0 := hp5.c0
    have p1 := hp5.c1
    have r0 := hy5.c0
    have r1 := hy5.c1
    have rf0 := hy5.f 0
    have rf1 := hy5.f 1
    have HY5 := hid hy5
    clear hw5 hp5 hy5 HO4 HB4 HP4 HY4
    go_wp2
    exact bodyPost_ret (results_cs Try.results17 _ _ (w.heap.size + 1) rfl (box2 HY5.out _ _)) rfl (made_ok HE.out ((HO5.out.set (by simp) _).set (by simp) _) ((HB5.out.setCell (by simp) _).setCell (by simp) _))
end Go.Proofs.Ytnfpfagojeieeaa.Stk
