/-
  STACK: Push by contract (tools/gen_stkcalls.py).
-/
import Derived.Test.YtnfpfagojeieeaaStkCopied
namespace Go.Proofs.Ytnfpfagojeieeaa.Stk
open Go.RowKit
set_option linter.unusedVariables false

/-- What a call that returns a stand gives: it, in memory of its own, and an error. -/
def MadeP (w : World) (r : R) (e : Ending) (w' : World) : Prop := ∃ a n c, e = .returned (.tuple #[.agg #[.int .i64 r.h, .slice a n c], .int .i64 r.e]) ∧ OwnF w.heap.size w' (.slice a n c) r.l ∧ Below w.heap.size w w'
/-- Behind the copy: both boxes, the frames. -/
structure Mid (w w2 : World) (h : Int) (g n c : Nat) (l : List Fr) : Prop where
  par : Bx w2 w.heap.size (.int .i64 h) (.slice (some ⟨g, 0, none⟩) n c)
  res : Bx w2 (w.heap.size + 1) (.int .i64 0) (.slice none 0 0)
  own : OwnF (w.heap.size + 2) w2 (.slice (some ⟨g, 0, none⟩) n c) l
  below : Below w.heap.size w w2
theorem Mid.of {w W0 w1 : World} {h : Int} {x y : Value} {g n c : Nat} {l : List Fr} (hb : Below w.heap.size w W0) (hx : Bx W0 w.heap.size x y) (hy : Bx W0 (w.heap.size + 1) (.int .i64 0) (.slice none 0 0)) (hz : W0.heap.size = w.heap.size + 2)
    (ho : OwnF W0.heap.size w1 (.slice (some ⟨g, 0, none⟩) n c) l) (hb1 : Below W0.heap.size W0 w1) : Mid w ((w1.setCell ⟨w.heap.size, 0, none⟩ (.int .i64 h)).setCell ⟨w.heap.size, 1, none⟩ (.slice (some ⟨g, 0, none⟩) n c)) h g n c l := by
  rw [hz] at ho
  refine ⟨box2 (hx.below hb1) _ _, ((hy.below hb1).far (by simp) _).far (by simp) _, (ho.set (by simp) _).set (by simp) _, ((hb.trans (hb1.mono hb.size)).setCell (by simp) _).setCell (by simp) _⟩
theorem made_ok {w W : World} {h' : Int} {a : Option Addr} {n c : Nat} {l' : List Fr} {r : R} (hr : r = ⟨h', l', 0⟩) (ho : OwnF (w.heap.size + 2) W (.slice a n c) l') (hb : Below w.heap.size w W) : MadeP w r (.returned (.tuple #[.agg #[.int .i64 h', .slice a n c], .int .i64 0])) W := by
  subst hr
  exact ⟨a, n, c, rfl, ho.mono (by omega), hb⟩
/-- The innermost frame's cells. -/
theorem own_last {base : Nat} {w : World} {g m c : Nat} {l : List Fr} (h : OwnF base w (.slice (some ⟨g, 0, none⟩) (m + 1) c) l) (hl : l.length = m + 1) (hm : m ≤ 1000) :
    w.cell? ⟨g, m * 4, none⟩ = some (.int .i64 (lastF l).op) ∧ w.cell? ⟨g, m * 4 + 1, none⟩ = some (.int .i64 (lastF l).ba) ∧ w.cell? ⟨g, m * 4 + 2, none⟩ = some (.int .i64 (lastF l).re) ∧ w.cell? ⟨g, m * 4 + 3, none⟩ = some (.bool (lastF l).de) := by
  obtain ⟨a, c', hv, hst⟩ := h.slice (by omega)
  simp only [Value.slice.injEq] at hv
  obtain ⟨rfl, _, _⟩ := hv
  obtain ⟨b, off, hbo, _, hc⟩ := hst.get (by omega)
  simp only [Option.some.injEq, Addr.mk.injEq, and_true] at hbo
  obtain ⟨rfl, rfl⟩ := hbo
  have hlast : l[m]'(by omega) = lastF l := by
    unfold lastF
    rw [List.getD_eq_getElem?_getD, List.getElem?_eq_getElem (by omega)]
    simp [hl]
  have := hc m (by omega)
  rw [hlast, Nat.zero_add] at this
  exact this
theorem own_block {base : Nat} {w : World} {g n c : Nat} {l : List Fr} (h : OwnF base w (.slice (some ⟨g, 0, none⟩) n c) l) : base ≤ g ∧ g < w.heap.size := World.ownsRow.lt h.row g rfl
theorem undrew {w W : World} (h : Below w.drew.heap.size w.drew W) : Below w.heap.size w W := ⟨h.os, h.tape, h.output, h.size, h.block⟩
theorem made_bad {w W : World} {h z : Int} {v : Value} {er : Int} (hb : Below w.heap.size w W) {r : R} (hr : r = bad er) : MadeP w r (.returned (.tuple #[.agg #[.int .i64 0, .slice none 0 0], .int .i64 er])) W := by
  subst hr
  exact ⟨none, 0, 0, rfl, ownF_nil _ _, hb⟩
set_option maxRecDepth 100000 in
set_option maxHeartbeats 4000000 in
theorem push_any (h : Int) (a : Option Addr) (n c : Nat) (l : List Fr) (k : Int) (w : World) (hs : StAt w.heap.size w a n c l) :
    Calls Try.prog 8 #[.agg #[.int .i64 h, .slice a n c], .int .i64 k] w fun e w' => MadeP w (pushR h l k) e w' := by
  obtain ⟨W0, hW0, hb, hx, hy, hsz⟩ := two_boxes w (.int .i64 h) (.slice a n c)
  have hsW := hs.on hb
  have c0 := hx.c0
  have c1 := hx.c1
  have HB := hid hb
  have HX := hid hx
  have HY := hid hy
  have HW := hid hW0
  have HS := hid hsz
  have HRE : Hid (pushR h l k = pushR h l k) := rfl
  obtain ⟨r, hr⟩ : ∃ r, r = pushR h l k := ⟨_, rfl⟩
  rw [← hr]
  clear HRE
  clear hb hx hy hW0 hsz
  cases hv : valid h l with
  | false =>
    have HE : Hid (r = bad 2) := hid (by rw [hr]; simp [pushR, hv])
    have CC := hid (copied_no h a n c l W0 hsW hv)
    clear hs hsW hv hr
    go_enter Try.func8, Try.ntmps8
    go_upto_region 1 with fail
    rw [← HW.out]
    go_wp2_with fail
    refine CC.out.mono ?_
    rintro e w1 ⟨rfl, hb1⟩
    have hx1 := HX.out.below hb1
    have hy1 := HY.out.below hb1
    have f0 := hx1.f 0
    have f1 := hx1.f 1
    have k0 := hx1.c0
    have k1 := hx1.c1
    have HX1 := hid hx1
    have HY1 := hid hy1
    have HB1 := hid (HB.out.trans (hb1.mono HB.out.size))
    clear hx1 hy1 hb1 c0 c1 CC
    go_upto_region 2 with fail
    obtain ⟨w2, hw2⟩ : ∃ w2, w2 = (w1.setCell ⟨w.heap.size, 0, none⟩ (.int .i64 0)).setCell ⟨w.heap.size, 1, none⟩ (.slice none 0 0) := ⟨_, rfl⟩
    rw [← hw2]
    have hy2 : Bx w2 (w.heap.size + 1) (.int .i64 0) (.slice none 0 0) := by rw [hw2]; exact (HY1.out.far (by simp) _).far (by simp) _
    have HB2 : Hid (Below w.heap.size w w2) := hid (by rw [hw2]; exact (HB1.out.setCell (by simp) _).setCell (by simp) _)
    have HY2 := hid hy2
    have f0 := hy2.f 0
    have f1 := hy2.f 1
    have k0 := hy2.c0
    have k1 := hy2.c1
    clear hy2 hw2 HX1 HY1 HB1
    go_wp2
    exact bodyPost_ret (results_cs Try.results8 _ _ (w.heap.size + 1) rfl (box2 HY2.out _ _)) rfl (made_bad (h := 0) (z := 0) (v := .bool true) ((HB2.out.setCell (by simp) _).setCell (by simp) _) HE.out)
  | true =>
    have CC := hid (copied_yes h a n c l W0 hsW hv)
    have HV := hid hv
    have HR := hid hr
    have HLN := hid hs.len
    clear hs hsW hv hr
    obtain ⟨hh0, hh1, -, -⟩ := valid_yes HV.out
    have q : IntKind.i64.wrap (1073741824 - h) = 1073741824 - h := s64_in (by omega) (by omega)
    have HH := hid (And.intro hh0 hh1)
    clear hh0 hh1
    by_cases g1 : k < 0
    · have HE : Hid (r = bad 2) := hid (by rw [HR.out]; simp [pushR, HV.out, g1])
      go_enter Try.func8, Try.ntmps8
      go_upto_region 1 with fail
      rw [← HW.out]
      go_wp2_with fail
      refine CC.out.mono ?_
      rintro e w1 ⟨g, c', rfl, ho, hb1⟩
      have HM0 := hid (Mid.of (h := h) HB.out HX.out HY.out HS.out ho hb1)
      have hx1 := HX.out.below hb1
      have f0 := hx1.f 0
      have f1 := hx1.f 1
      have k0 := hx1.c0
      have k1 := hx1.c1
      clear hx1 hb1 ho c0 c1 CC
      go_upto_region 2 with fail
      obtain ⟨w2, hw2⟩ : ∃ w2, w2 = (w1.setCell ⟨w.heap.size, 0, none⟩ (.int .i64 h)).setCell ⟨w.heap.size, 1, none⟩ (.slice (some ⟨g, 0, none⟩) n c') := ⟨_, rfl⟩
      rw [← hw2] at HM0 ⊢
      clear hw2 f0 f1 k0 k1 HB HX HY HS HW
      have hp := HM0.out.par
      have hy := HM0.out.res
      have p0 := hp.c0
      have p1 := hp.c1
      have pf0 := hp.f 0
      have pf1 := hp.f 1
      have r0 := hy.c0
      have r1 := hy.c1
      have rf0 := hy.f 0
      have rf1 := hy.f 1
      clear hp hy
      go_wp2
      exact bodyPost_ret (results_cs Try.results8 _ _ (w.heap.size + 1) rfl (box2 HM0.out.res _ _)) rfl (made_bad (h := 0) (z := 0) (v := .bool true) ((HM0.out.below.setCell (by simp) _).setCell (by simp) _) HE.out)
    by_cases g2 : 1073741824 - h < k
    · have HE : Hid (r = bad 8) := hid (by rw [HR.out]; simp [pushR, HV.out, g1, g2])
      go_enter Try.func8, Try.ntmps8
      go_upto_region 1 with fail
      rw [← HW.out]
      go_wp2_with fail
      refine CC.out.mono ?_
      rintro e w1 ⟨g, c', rfl, ho, hb1⟩
      have HM0 := hid (Mid.of (h := h) HB.out HX.out HY.out HS.out ho hb1)
      have hx1 := HX.out.below hb1
      have f0 := hx1.f 0
      have f1 := hx1.f 1
      have k0 := hx1.c0
      have k1 := hx1.c1
      clear hx1 hb1 ho c0 c1 CC
      go_upto_region 2 with fail
      obtain ⟨w2, hw2⟩ : ∃ w2, w2 = (w1.setCell ⟨w.heap.size, 0, none⟩ (.int .i64 h)).setCell ⟨w.heap.size, 1, none⟩ (.slice (some ⟨g, 0, none⟩) n c') := ⟨_, rfl⟩
      rw [← hw2] at HM0 ⊢
      clear hw2 f0 f1 k0 k1 HB HX HY HS HW
      have hp := HM0.out.par
      have hy := HM0.out.res
      have p0 := hp.c0
      have p1 := hp.c1
      have pf0 := hp.f 0
      have pf1 := hp.f 1
      have r0 := hy.c0
      have r1 := hy.c1
      have rf0 := hy.f 0
      have rf1 := hy.f 1
      clear hp hy
      go_wp2
      exact bodyPost_ret (results_cs Try.results8 _ _ (w.heap.size + 1) rfl (box2 HM0.out.res _ _)) rfl (made_bad (h := 0) (z := 0) (v := .bool true) ((HM0.out.below.setCell (by simp) _).setCell (by simp) _) HE.out)
    have HE : Hid (r = ⟨h + k, l, 0⟩) := hid (by rw [HR.out]; simp [pushR, HV.out, g1, g2])
    have q2 : IntKind.i64.wrap (h + k) = h + k := s64_in (by have := HH.out; omega) (by omega)
    go_enter Try.func8, Try.ntmps8
    go_upto_region 1 with fail
    rw [← HW.out]
    go_wp2_with fail
    refine CC.out.mono ?_
    rintro e w1 ⟨g, c', rfl, ho, hb1⟩
    have HM0 := hid (Mid.of (h := h) HB.out HX.out HY.out HS.out ho hb1)
    have hx1 := HX.out.below hb1
    have f0 := hx1.f 0
    have f1 := hx1.f 1
    have k0 := hx1.c0
    have k1 := hx1.c1
    clear hx1 hb1 ho c0 c1 CC
    go_upto_region 2 with fail
    obtain ⟨w2, hw2⟩ : ∃ w2, w2 = (w1.setCell ⟨w.heap.size, 0, none⟩ (.int .i64 h)).setCell ⟨w.heap.size, 1, none⟩ (.slice (some ⟨g, 0, none⟩) n c') := ⟨_, rfl⟩
    rw [← hw2] at HM0 ⊢
    clear hw2 f0 f1 k0 k1 HB HX HY HS HW
    have hp := HM0.out.par
    have hy := HM0.out.res
    have p0 := hp.c0
    have p1 := hp.c1
    have pf0 := hp.f 0
    have pf1 := hp.f 1
    have r0 := hy.c0
    have r1 := hy.c1
    have rf0 := hy.f 0
    have rf1 := hy.f 1
    clear hp hy
    go_wp2
    exact bodyPost_ret (results_cs Try.results8 _ _ (w.heap.size + 1) rfl (box2 (HM0.out.res.far (by simp) _) _ _)) rfl (made_ok HE.out (((HM0.out.own.set (by simp) _).set (by simp) _).set (by simp) _) (((HM0.out.below.setCell (by simp) _).setCell (by simp) _).setCell (by simp) _))
end Go.Proofs.Ytnfpfagojeieeaa.Stk
