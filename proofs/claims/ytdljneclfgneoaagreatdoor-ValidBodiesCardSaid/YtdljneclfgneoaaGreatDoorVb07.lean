import Derived.Test.YtdljneclfgneoaaGreatDoorVb05
import Derived.Test.YtdljneclfgneoaaGreatDoorVb06
import Derived.Test.YtdljneclfgneoaaGreatDoorVb02
import Derived.Test.YtdljneclfgneoaaGreatDoorRows
import Derived.Deep.RegionHeld3
import Derived.Deep.Cut
import Derived.Deep.RegionWith
import Derived.Laws.StructEq
import Derived.Lib.BitFns
import Derived.SevenTiedAt
import Derived.KernelRfl
namespace Go.Proofs.YtdljneclfgneoaaGreatDoor.Instr
end Go.Proofs.YtdljneclfgneoaaGreatDoor.Instr
namespace Go.Proofs.YtdljneclfgneoaaGreatDoor.Stk
open Go.RowKit
set_option linter.unusedVariables false

theorem results_cs {fn : Func} {p q : Tmp} (h : fn.results = #[.cell p 254, .tmp q]) (tmps : Array Value) (w : World) (g : Nat) {x y : Value} (hp : tmps.getD p undef = .pointer (some ⟨g, 0, none⟩)) (hb : Bx w g x y) :
    (results fn tmps).run Tryz.prog w = .ok (.tuple #[.agg #[x, y], tmps.getD q undef]) w := by
  have hp' : tmps[p]?.getD undef = .pointer (some ⟨g, 0, none⟩) := by simpa using hp
  simp [results, h, hp', asAddr, run_loadVar_row w g _ 254 _ _ _ hb Tryz.underlying254 rfl (by kernel_rfl)]
theorem results_css {fn : Func} {p q r : Tmp} (h : fn.results = #[.cell p 254, .tmp q, .tmp r]) (tmps : Array Value) (w : World) (g : Nat) {x y : Value} (hp : tmps.getD p undef = .pointer (some ⟨g, 0, none⟩)) (hb : Bx w g x y) :
    (results fn tmps).run Tryz.prog w = .ok (.tuple #[.agg #[x, y], tmps.getD q undef, tmps.getD r undef]) w := by
  have hp' : tmps[p]?.getD undef = .pointer (some ⟨g, 0, none⟩) := by simpa using hp
  simp [results, h, hp', asAddr, run_loadVar_row w g _ 254 _ _ _ hb Tryz.underlying254 rfl (by kernel_rfl)]
/-- Two boxes: what came in, and the result. -/
theorem two_boxes (w : World) (x y : Value) : ∃ W0, W0 = (w.alloc (.cells #[x, y] 254)).alloc (.cells #[.int .i64 0, .slice none 0 0] 254) ∧ Below w.heap.size w W0 ∧ Bx W0 w.heap.size x y ∧ Bx W0 (w.heap.size + 1) (.int .i64 0) (.slice none 0 0) ∧ W0.heap.size = w.heap.size + 2 := by
  refine ⟨_, rfl, ((Below.refl w.heap.size w).alloc (Nat.le_refl _) _).alloc (by simp) _, (Bx.made w _ _).below ((Below.refl _ _).alloc (Nat.le_refl _) _), ?_, by simp⟩
  have h := Bx.made (w.alloc (.cells #[x, y] 254)) (.int .i64 0) (.slice none 0 0)
  rw [World.size_alloc] at h
  exact h
set_option maxHeartbeats 2000000 in
theorem copied_no (h : Int) (a : Option Addr) (n c : Nat) (l : List Fr) (w : World) (hs : StAt w.heap.size w a n c l) (hv : valid h l = false) :
    Calls Tryz.prog 325 #[.agg #[.int .i64 h, .slice a n c]] w fun e w' => e = .returned (.tuple #[.agg #[.int .i64 0, .slice none 0 0], .pointer none, .int .i64 2]) ∧ Below w.heap.size w w' := by
  obtain ⟨W0, hW0, hb, hx, hy, hsz⟩ := two_boxes w (.int .i64 h) (.slice a n c)
  have CC := hid (check_any h a n c l W0 (hs.on hb))
  have he : chk h l = 2 := by unfold chk; rw [hv]; rfl
  rw [he] at CC
  have c0 := hx.c0
  have c1 := hx.c1
  have HB := hid hb
  have HY := hid hy
  have HW := hid hW0
  have HS := hid hsz
  clear hs hv he hb hx hy hW0 hsz
  go_enter Tryz.func325, Tryz.ntmps325
  go_upto_region 1 with fail
  rw [← HW.out]
  go_wp2_with fail
  refine CC.out.mono ?_
  rintro e w1 ⟨rfl, hb1⟩
  have hy1 := HY.out.below hb1
  have f0 := hy1.f 0
  have f1 := hy1.f 1
  have k0 := hy1.c0
  have k1 := hy1.c1
  have HY1 := hid hy1
  have HB1 := hid (HB.out.trans (hb1.mono HB.out.size))
  clear hy1 hb1
  go_wp2
  exact bodyPost_ret (results_css Tryz.results325 _ _ (w.heap.size + 1) rfl (box2 HY1.out _ _)) rfl ⟨rfl, (HB1.out.setCell (by simp) _).setCell (by simp) _⟩
theorem Bx.drew {W : World} {g : Nat} {x y : Value} (h : Bx W g x y) : Bx W.drew g x y := h
theorem OwnF.drew {base : Nat} {w : World} {v : Value} {l : List Fr} (h : OwnF base w v l) : OwnF base w.drew v l := ⟨h.row, h.len⟩
theorem bx_keep {w W W' : World} {x y : Value} (hx : Bx W w.heap.size x y) (h : Below (w.heap.size + 1) W W') : W'.cell? ⟨w.heap.size, 0, none⟩ = some x ∧ W'.cell? ⟨w.heap.size, 1, none⟩ = some y :=
  ⟨(hx.belowB h (by omega)).c0, (hx.belowB h (by omega)).c1⟩
set_option maxHeartbeats 2000000 in
theorem copied_yes (h : Int) (a : Option Addr) (n c : Nat) (l : List Fr) (w : World) (hs : StAt w.heap.size w a n c l) (hv : valid h l = true) :
    Calls Tryz.prog 325 #[.agg #[.int .i64 h, .slice a n c]] w fun e w' => ∃ g c', e = .returned (.tuple #[.agg #[.int .i64 h, .slice (some ⟨g, 0, none⟩) n c'], .pointer (some ⟨g, (n - 1) * 4, none⟩), .int .i64 0]) ∧ OwnF w.heap.size w' (.slice (some ⟨g, 0, none⟩) n c') l ∧ Below w.heap.size w w' := by
  obtain ⟨W0, hW0, hb, hx, hy, hsz⟩ := two_boxes w (.int .i64 h) (.slice a n c)
  obtain ⟨-, -, hne, hle⟩ := valid_yes hv
  have hl := hs.len
  have CC := hid (check_any h a n c l W0 (hs.on hb))
  have CL := hid (fun W (hB : Below W0.heap.size W0 W) => clone_any W a n c l hl (((hs.on hb).below hB).more hB.size).rows (by omega))
  have he : chk h l = 0 := by unfold chk; rw [hv]; rfl
  rw [he] at CC
  obtain ⟨m, rfl⟩ : ∃ m, n = m + 1 := ⟨n - 1, by have := List.length_pos_iff.2 hne; omega⟩
  rw [Nat.add_sub_cancel]
  have hmm : m ≤ 1000 := by omega
  have hm0 : (m : Int) < (m : Int) + 1 := by omega
  have km : IntKind.i64.wrap (m : Int) = m := s64_in (by omega) (by omega)
  have c0 := hx.c0
  have c1 := hx.c1
  have HL := hid hl
  have HB := hid hb
  have HX := hid hx
  have HY := hid hy
  have HW := hid hW0
  have HS := hid hsz
  clear hs hv he hb hx hy hW0 hsz hl hne hle
  go_enter Tryz.func325, Tryz.ntmps325
  go_upto_region 1 with fail
  rw [← HW.out]
  go_wp2_with fail
  refine CC.out.mono ?_
  rintro e w1 ⟨rfl, hb1⟩
  have hx1 := HX.out.below hb1
  have d0 := hx1.c0
  have d1 := hx1.c1
  have HX1 := hid hx1
  have HB1 := hid hb1
  clear hb1 hx1 c0 c1
  go_wp2_with fail
  refine (CL.out _ HB1.out).mono ?_
  rintro e w2 ⟨v, rfl, ho, hb2⟩
  obtain ⟨a1, c1, hv1, hst⟩ := OwnF.slice ho (by rw [HL.out]; omega)
  rw [HL.out] at hv1
  have hpos : ∃ g, a1 = some ⟨g, 0, none⟩ ∧ w1.heap.size ≤ g := by
    rcases ho.row.2 with ⟨h1, h0⟩ | ⟨g, cap, cur, h1, hg, _⟩
    · rw [List.length_map, HL.out] at h0; omega
    · rw [hv1] at h1
      simp only [Value.slice.injEq] at h1
      exact ⟨g, h1.1, hg⟩
  obtain ⟨g, rfl, hg⟩ := hpos
  subst hv1
  have hx2 := HX1.out.below hb2
  have e0 := hx2.c0
  have e1 := hx2.c1
  have f1 := hx2.f 1
  have HX2 := hid hx2
  have HY2 := hid ((HY.out.below HB1.out).below hb2)
  have HO := hid ho
  have HB2 := hid (HB.out.trans ((HB1.out.trans (hb2.mono HB1.out.size)).mono HB.out.size))
  have HZ := hid (show w.heap.size + 2 ≤ w1.heap.size by have := HB1.out.size; have := HS.out; omega)
  have HG := hid hg
  clear ho hst hb2 hx2 CC CL HX1 hg d0 d1
  go_wp2
  obtain ⟨w3, hw3⟩ : ∃ w3, w3 = w2.setCell ⟨w.heap.size, 1, none⟩ (.slice (some ⟨g, 0, none⟩) (m + 1) c1) := ⟨_, rfl⟩
  rw [← hw3]
  have hx3 : Bx w3 w.heap.size (.int .i64 h) (.slice (some ⟨g, 0, none⟩) (m + 1) c1) := by rw [hw3]; exact HX2.out.set1 _
  have hy3 : Bx w3 (w.heap.size + 1) (.int .i64 0) (.slice none 0 0) := by rw [hw3]; exact HY2.out.far (by simp) _
  have HO3 : Hid (OwnF w1.heap.size w3 (.slice (some ⟨g, 0, none⟩) (m + 1) c1) l) := hid (by rw [hw3]; exact HO.out.set (by have := HZ.out; show w.heap.size < _; omega) _)
  have HB3 : Hid (Below w.heap.size w w3) := hid (by rw [hw3]; exact HB2.out.setCell (by simp) _)
  have HY3 := hid hy3
  have e0 := hx3.c0
  have e1 := hx3.c1
  have f0 := hy3.f 0
  have f1 := hy3.f 1
  have k0 := hy3.c0
  have k1 := hy3.c1
  have hS : w3.cell? ⟨w.heap.size, 0, none⟩ = some (.int .i64 h) ∧ w3.cell? ⟨w.heap.size, 1, none⟩ = some (.slice (some ⟨g, 0, none⟩) (m + 1) c1) := ⟨e0, e1⟩
  have HK := hid (fun (W' : World) (h : Below (w.heap.size + 1) w3 W') => bx_keep hx3 h)
  clear hw3 hx3 hy3 HO HB2 HX2 HY2 HX HY HB HB1
  go_region_held3 (fun w' => w'.cell? ⟨w.heap.size, 0, none⟩ = some (.int .i64 h) ∧ w'.cell? ⟨w.heap.size, 1, none⟩ = some (.slice (some ⟨g, 0, none⟩) (m + 1) c1))
    (first
      | (with_reducible assumption)
      | (with_reducible exact HK.out _ ((Below.refl _ _).drew))
      | (with_reducible exact HK.out _ ((((Below.refl _ _).drew).setCell (by simp) _).setCell (by simp) _))
      | (with_reducible exact HK.out _ (((Below.refl _ _).setCell (by simp) _).setCell (by simp) _)))
    (fail)
  go_wp2
  have hz := HZ.out
  exact bodyPost_ret (results_css Tryz.results325 _ _ (w.heap.size + 1) rfl (Bx.drew (box2 HY3.out _ _))) rfl ⟨g, c1, rfl, OwnF.drew (((HO3.out.set (by show w.heap.size + 1 < _; omega) _).set (by show w.heap.size + 1 < _; omega) _).mono (by omega)), ((HB3.out.setCell (by simp) _).setCell (by simp) _).drew⟩
end Go.Proofs.YtdljneclfgneoaaGreatDoor.Stk

namespace Go.Proofs.YtdljneclfgneoaaGreatDoor.Stk
open Go.RowKit
set_option linter.unusedVariables false

/-- What a call that returns a stand gives: it, in memory of its own, and an error. -/
def MadeP (w : World) (r : R) (e : Ending) (w' : World) : Prop := ∃ a n c, e = .returned (.tuple #[.agg #[.int .i64 r.h, .slice a n c], .int .i64 r.e]) ∧ OwnF w.heap.size w' (.slice a n c) r.l ∧ Below w.heap.size w w'
/-- Behind the copy: both boxes, the frames. -/
structure Mid (w w2 : World) (h : Int) (g n c : Nat) (l : List Fr) : Prop where
  par : Bx w2 w.heap.size (.int .i64 h) (.slice (some ⟨g, 0, none⟩) n c)
  res : Bx w2 (w.heap.size + 1) (.int .i64 0) (.slice none 0 0)
  own : OwnF (w.heap.size + 2) w2 (.slice (some ⟨g, 0, none⟩) n c) l
  below : Below w.heap.size w w2
theorem Mid.of {w W0 w1 : World} {h : Int} {x y : Value} {g n c : Nat} {l : List Fr} (hb : Below w.heap.size w W0) (hx : Bx W0 w.heap.size x y) (hy : Bx W0 (w.heap.size + 1) (.int .i64 0) (.slice none 0 0)) (hz : W0.heap.size = w.heap.size + 2)
    (ho : OwnF W0.heap.size w1 (.slice (some ⟨g, 0, none⟩) n c) l) (hb1 : Below W0.heap.size W0 w1) : Mid w ((w1.setCell ⟨w.heap.size, 0, none⟩ (.int .i64 h)).setCell ⟨w.heap.size, 1, none⟩ (.slice (some ⟨g, 0, none⟩) n c)) h g n c l := by
  rw [hz] at ho
  refine ⟨box2 (hx.below hb1) _ _, ((hy.below hb1).far (by simp) _).far (by simp) _, (ho.set (by simp) _).set (by simp) _, ((hb.trans (hb1.mono hb.size)).setCell (by simp) _).setCell (by simp) _⟩
theorem made_ok {w W : World} {h' : Int} {a : Option Addr} {n c : Nat} {l' : List Fr} {r : R} (hr : r = ⟨h', l', 0⟩) (ho : OwnF (w.heap.size + 2) W (.slice a n c) l') (hb : Below w.heap.size w W) : MadeP w r (.returned (.tuple #[.agg #[.int .i64 h', .slice a n c], .int .i64 0])) W := by
  subst hr
  exact ⟨a, n, c, rfl, ho.mono (by omega), hb⟩
/-- The innermost frame's cells. -/
theorem own_last {base : Nat} {w : World} {g m c : Nat} {l : List Fr} (h : OwnF base w (.slice (some ⟨g, 0, none⟩) (m + 1) c) l) (hl : l.length = m + 1) (hm : m ≤ 1000) :
    w.cell? ⟨g, m * 4, none⟩ = some (.int .i64 (lastF l).op) ∧ w.cell? ⟨g, m * 4 + 1, none⟩ = some (.int .i64 (lastF l).ba) ∧ w.cell? ⟨g, m * 4 + 2, none⟩ = some (.int .i64 (lastF l).re) ∧ w.cell? ⟨g, m * 4 + 3, none⟩ = some (.bool (lastF l).de) := by
  obtain ⟨a, c', hv, hst⟩ := h.slice (by omega)
  simp only [Value.slice.injEq] at hv
  obtain ⟨rfl, _, _⟩ := hv
  obtain ⟨b, off, hbo, _, hc⟩ := hst.get (by omega)
  simp only [Option.some.injEq, Addr.mk.injEq, and_true] at hbo
  obtain ⟨rfl, rfl⟩ := hbo
  have hlast : l[m]'(by omega) = lastF l := by
    unfold lastF
    rw [List.getD_eq_getElem?_getD, List.getElem?_eq_getElem (by omega)]
    simp [hl]
  have := hc m (by omega)
  rw [hlast, Nat.zero_add] at this
  exact this
theorem own_block {base : Nat} {w : World} {g n c : Nat} {l : List Fr} (h : OwnF base w (.slice (some ⟨g, 0, none⟩) n c) l) : base ≤ g ∧ g < w.heap.size := World.ownsRow.lt h.row g rfl
theorem undrew {w W : World} (h : Below w.drew.heap.size w.drew W) : Below w.heap.size w W := ⟨h.os, h.tape, h.output, h.size, h.block⟩
theorem made_bad {w W : World} {h z : Int} {v : Value} {er : Int} (hb : Below w.heap.size w W) {r : R} (hr : r = bad er) : MadeP w r (.returned (.tuple #[.agg #[.int .i64 0, .slice none 0 0], .int .i64 er])) W := by
  subst hr
  exact ⟨none, 0, 0, rfl, ownF_nil _ _, hb⟩
set_option maxRecDepth 100000 in
set_option maxHeartbeats 4000000 in
theorem push_any (h : Int) (a : Option Addr) (n c : Nat) (l : List Fr) (k : Int) (w : World) (hs : StAt w.heap.size w a n c l) :
    Calls Tryz.prog 323 #[.agg #[.int .i64 h, .slice a n c], .int .i64 k] w fun e w' => MadeP w (pushR h l k) e w' := by
  obtain ⟨W0, hW0, hb, hx, hy, hsz⟩ := two_boxes w (.int .i64 h) (.slice a n c)
  have hsW := hs.on hb
  have c0 := hx.c0
  have c1 := hx.c1
  have HB := hid hb
  have HX := hid hx
  have HY := hid hy
  have HW := hid hW0
  have HS := hid hsz
  have HRE : Hid (pushR h l k = pushR h l k) := rfl
  obtain ⟨r, hr⟩ : ∃ r, r = pushR h l k := ⟨_, rfl⟩
  rw [← hr]
  clear HRE
  clear hb hx hy hW0 hsz
  cases hv : valid h l with
  | false =>
    have HE : Hid (r = bad 2) := hid (by rw [hr]; simp [pushR, hv])
    have CC := hid (copied_no h a n c l W0 hsW hv)
    clear hs hsW hv hr
    go_enter Tryz.func323, Tryz.ntmps323
    go_upto_region 1 with fail
    rw [← HW.out]
    go_wp2_with fail
    refine CC.out.mono ?_
    rintro e w1 ⟨rfl, hb1⟩
    have hx1 := HX.out.below hb1
    have hy1 := HY.out.below hb1
    have f0 := hx1.f 0
    have f1 := hx1.f 1
    have k0 := hx1.c0
    have k1 := hx1.c1
    have HX1 := hid hx1
    have HY1 := hid hy1
    have HB1 := hid (HB.out.trans (hb1.mono HB.out.size))
    clear hx1 hy1 hb1 c0 c1 CC
    go_upto_region 2 with fail
    obtain ⟨w2, hw2⟩ : ∃ w2, w2 = (w1.setCell ⟨w.heap.size, 0, none⟩ (.int .i64 0)).setCell ⟨w.heap.size, 1, none⟩ (.slice none 0 0) := ⟨_, rfl⟩
    rw [← hw2]
    have hy2 : Bx w2 (w.heap.size + 1) (.int .i64 0) (.slice none 0 0) := by rw [hw2]; exact (HY1.out.far (by simp) _).far (by simp) _
    have HB2 : Hid (Below w.heap.size w w2) := hid (by rw [hw2]; exact (HB1.out.setCell (by simp) _).setCell (by simp) _)
    have HY2 := hid hy2
    have f0 := hy2.f 0
    have f1 := hy2.f 1
    have k0 := hy2.c0
    have k1 := hy2.c1
    clear hy2 hw2 HX1 HY1 HB1
    go_wp2
    exact bodyPost_ret (results_cs Tryz.results323 _ _ (w.heap.size + 1) rfl (box2 HY2.out _ _)) rfl (made_bad (h := 0) (z := 0) (v := .bool true) ((HB2.out.setCell (by simp) _).setCell (by simp) _) HE.out)
  | true =>
    have CC := hid (copied_yes h a n c l W0 hsW hv)
    have HV := hid hv
    have HR := hid hr
    have HLN := hid hs.len
    clear hs hsW hv hr
    obtain ⟨hh0, hh1, -, -⟩ := valid_yes HV.out
    have q : IntKind.i64.wrap (1073741824 - h) = 1073741824 - h := s64_in (by omega) (by omega)
    have HH := hid (And.intro hh0 hh1)
    clear hh0 hh1
    by_cases g1 : k < 0
    · have HE : Hid (r = bad 2) := hid (by rw [HR.out]; simp [pushR, HV.out, g1])
      go_enter Tryz.func323, Tryz.ntmps323
      go_upto_region 1 with fail
      rw [← HW.out]
      go_wp2_with fail
      refine CC.out.mono ?_
      rintro e w1 ⟨g, c', rfl, ho, hb1⟩
      have HM0 := hid (Mid.of (h := h) HB.out HX.out HY.out HS.out ho hb1)
      have hx1 := HX.out.below hb1
      have f0 := hx1.f 0
      have f1 := hx1.f 1
      have k0 := hx1.c0
      have k1 := hx1.c1
      clear hx1 hb1 ho c0 c1 CC
      go_upto_region 2 with fail
      obtain ⟨w2, hw2⟩ : ∃ w2, w2 = (w1.setCell ⟨w.heap.size, 0, none⟩ (.int .i64 h)).setCell ⟨w.heap.size, 1, none⟩ (.slice (some ⟨g, 0, none⟩) n c') := ⟨_, rfl⟩
      rw [← hw2] at HM0 ⊢
      clear hw2 f0 f1 k0 k1 HB HX HY HS HW
      have hp := HM0.out.par
      have hy := HM0.out.res
      have p0 := hp.c0
      have p1 := hp.c1
      have pf0 := hp.f 0
      have pf1 := hp.f 1
      have r0 := hy.c0
      have r1 := hy.c1
      have rf0 := hy.f 0
      have rf1 := hy.f 1
      clear hp hy
      go_wp2
      exact bodyPost_ret (results_cs Tryz.results323 _ _ (w.heap.size + 1) rfl (box2 HM0.out.res _ _)) rfl (made_bad (h := 0) (z := 0) (v := .bool true) ((HM0.out.below.setCell (by simp) _).setCell (by simp) _) HE.out)
    by_cases g2 : 1073741824 - h < k
    · have HE : Hid (r = bad 8) := hid (by rw [HR.out]; simp [pushR, HV.out, g1, g2])
      go_enter Tryz.func323, Tryz.ntmps323
      go_upto_region 1 with fail
      rw [← HW.out]
      go_wp2_with fail
      refine CC.out.mono ?_
      rintro e w1 ⟨g, c', rfl, ho, hb1⟩
      have HM0 := hid (Mid.of (h := h) HB.out HX.out HY.out HS.out ho hb1)
      have hx1 := HX.out.below hb1
      have f0 := hx1.f 0
      have f1 := hx1.f 1
      have k0 := hx1.c0
      have k1 := hx1.c1
      clear hx1 hb1 ho c0 c1 CC
      go_upto_region 2 with fail
      obtain ⟨w2, hw2⟩ : ∃ w2, w2 = (w1.setCell ⟨w.heap.size, 0, none⟩ (.int .i64 h)).setCell ⟨w.heap.size, 1, none⟩ (.slice (some ⟨g, 0, none⟩) n c') := ⟨_, rfl⟩
      rw [← hw2] at HM0 ⊢
      clear hw2 f0 f1 k0 k1 HB HX HY HS HW
      have hp := HM0.out.par
      have hy := HM0.out.res
      have p0 := hp.c0
      have p1 := hp.c1
      have pf0 := hp.f 0
      have pf1 := hp.f 1
      have r0 := hy.c0
      have r1 := hy.c1
      have rf0 := hy.f 0
      have rf1 := hy.f 1
      clear hp hy
      go_wp2
      exact bodyPost_ret (results_cs Tryz.results323 _ _ (w.heap.size + 1) rfl (box2 HM0.out.res _ _)) rfl (made_bad (h := 0) (z := 0) (v := .bool true) ((HM0.out.below.setCell (by simp) _).setCell (by simp) _) HE.out)
    have HE : Hid (r = ⟨h + k, l, 0⟩) := hid (by rw [HR.out]; simp [pushR, HV.out, g1, g2])
    have q2 : IntKind.i64.wrap (h + k) = h + k := s64_in (by have := HH.out; omega) (by omega)
    go_enter Tryz.func323, Tryz.ntmps323
    go_upto_region 1 with fail
    rw [← HW.out]
    go_wp2_with fail
    refine CC.out.mono ?_
    rintro e w1 ⟨g, c', rfl, ho, hb1⟩
    have HM0 := hid (Mid.of (h := h) HB.out HX.out HY.out HS.out ho hb1)
    have hx1 := HX.out.below hb1
    have f0 := hx1.f 0
    have f1 := hx1.f 1
    have k0 := hx1.c0
    have k1 := hx1.c1
    clear hx1 hb1 ho c0 c1 CC
    go_upto_region 2 with fail
    obtain ⟨w2, hw2⟩ : ∃ w2, w2 = (w1.setCell ⟨w.heap.size, 0, none⟩ (.int .i64 h)).setCell ⟨w.heap.size, 1, none⟩ (.slice (some ⟨g, 0, none⟩) n c') := ⟨_, rfl⟩
    rw [← hw2] at HM0 ⊢
    clear hw2 f0 f1 k0 k1 HB HX HY HS HW
    have hp := HM0.out.par
    have hy := HM0.out.res
    have p0 := hp.c0
    have p1 := hp.c1
    have pf0 := hp.f 0
    have pf1 := hp.f 1
    have r0 := hy.c0
    have r1 := hy.c1
    have rf0 := hy.f 0
    have rf1 := hy.f 1
    clear hp hy
    go_wp2
    exact bodyPost_ret (results_cs Tryz.results323 _ _ (w.heap.size + 1) rfl (box2 (HM0.out.res.far (by simp) _) _ _)) rfl (made_ok HE.out (((HM0.out.own.set (by simp) _).set (by simp) _).set (by simp) _) (((HM0.out.below.setCell (by simp) _).setCell (by simp) _).setCell (by simp) _))
end Go.Proofs.YtdljneclfgneoaaGreatDoor.Stk

namespace Go.Proofs.YtdljneclfgneoaaGreatDoor.Stk
open Go.RowKit
set_option linter.unusedVariables false

theorem lit_own (w : World) (f : Fr) : OwnF w.heap.size (w.alloc (.cells #[.int .i64 f.op, .int .i64 f.ba, .int .i64 f.re, .bool f.de] 305)) (.slice (some ⟨w.heap.size, 0, none⟩) 1 1) [f] := by
  refine ⟨?_, fours _⟩
  have h := World.ownsRow_lit (base := w.heap.size) (e := 305) (size := 4) w #[.int .i64 f.op, .int .i64 f.ba, .int .i64 f.re, .bool f.de] 1 (Nat.le_refl _) (by unfold maxLen; omega) rfl
  simpa [Fr.v] using h
theorem new_world (w : World) (re : Int) : Bx ((w.alloc (.cells #[.int .i64 0, .slice (some ⟨w.heap.size + 1, 0, none⟩) 1 1] 254)).alloc (.cells #[.int .i64 0, .int .i64 0, .int .i64 re, .bool false] 305)) w.heap.size (.int .i64 0) (.slice (some ⟨w.heap.size + 1, 0, none⟩) 1 1) ∧
    OwnF w.heap.size ((w.alloc (.cells #[.int .i64 0, .slice (some ⟨w.heap.size + 1, 0, none⟩) 1 1] 254)).alloc (.cells #[.int .i64 0, .int .i64 0, .int .i64 re, .bool false] 305)) (.slice (some ⟨w.heap.size + 1, 0, none⟩) 1 1) [⟨0, 0, re, false⟩] ∧
    Below w.heap.size w ((w.alloc (.cells #[.int .i64 0, .slice (some ⟨w.heap.size + 1, 0, none⟩) 1 1] 254)).alloc (.cells #[.int .i64 0, .int .i64 0, .int .i64 re, .bool false] 305)) := by
  refine ⟨(Bx.made w _ _).below ((Below.refl _ _).alloc (Nat.le_refl _) _), ?_, ((Below.refl _ _).alloc (Nat.le_refl _) _).alloc (by simp) _⟩
  have h := lit_own (w.alloc (.cells #[.int .i64 0, .slice (some ⟨w.heap.size + 1, 0, none⟩) 1 1] 254)) ⟨0, 0, re, false⟩
  rw [World.size_alloc] at h
  exact h.mono (by omega)
set_option maxRecDepth 100000 in
set_option maxHeartbeats 4000000 in
theorem new_any (re : Int) (w : World) : Calls Tryz.prog 176 #[.int .i64 re] w fun e w' => MadeP w (newR re) e w' := by
  obtain ⟨W0, hW0⟩ : ∃ W0, W0 = w.alloc (.cells #[.int .i64 0, .slice none 0 0] 254) := ⟨_, rfl⟩
  have hy : Bx W0 w.heap.size (.int .i64 0) (.slice none 0 0) := by rw [hW0]; exact Bx.made w _ _
  have hb : Below w.heap.size w W0 := by rw [hW0]; exact (Below.refl _ _).alloc (Nat.le_refl _) _
  have hsz : W0.heap.size = w.heap.size + 1 := by rw [hW0]; simp
  have HB := hid hb
  have HY := hid hy
  have HW := hid hW0
  have HS := hid hsz
  have r0 := hy.c0
  have r1 := hy.c1
  have rf0 := hy.f 0
  have rf1 := hy.f 1
  have CR := hid (fun W => wrongResults_any re W)
  obtain ⟨r, hr⟩ : ∃ r, r = newR re := ⟨_, rfl⟩
  rw [← hr]
  have HR1 : Hid (r = if wrongRe re = true then bad 2 else ⟨0, [⟨0, 0, re, false⟩], 0⟩) := hid (by rw [hr]; simp [newR])
  have HQ : Hid (wrongRe re = (decide (re < 0) || decide (1 < re))) := rfl
  clear hy hb hW0 hsz hr
  obtain ⟨q, hq⟩ : ∃ q, wrongRe re = q := ⟨_, rfl⟩
  rw [hq] at CR HR1
  clear hq HQ
  cases q with
  | true =>
    have HE : Hid (r = bad 2) := HR1.out
    clear HR1
    go_enter Tryz.func176, Tryz.ntmps176
    go_upto_region 1 with fail
    rw [← HW.out]
    go_wp2_with fail
    refine (CR.out _).mono ?_
    rintro e w1 ⟨rfl, rfl⟩
    go_wp2
    exact bodyPost_ret (results_cs Tryz.results176 _ _ w.heap.size rfl (box2 HY.out _ _)) rfl (made_bad (h := 0) (z := 0) (v := .bool true) ((HB.out.setCell (by simp) _).setCell (by simp) _) HE.out)
  | false =>
    have HE : Hid (r = ⟨0, [⟨0, 0, re, false⟩], 0⟩) := HR1.out
    clear HR1
    go_enter Tryz.func176, Tryz.ntmps176
    go_wp2_with fail
    refine (CR.out _).mono ?_
    rintro e w1 ⟨rfl, rfl⟩
    go_wp2
    obtain ⟨n1, n2, n3⟩ := new_world w re
    exact bodyPost_ret (results_cs Tryz.results176 _ _ w.heap.size rfl n1) rfl (by show MadeP w r _ _; rw [HE.out]; exact ⟨_, _, _, rfl, n2, n3⟩)
set_option maxRecDepth 100000 in
set_option maxHeartbeats 4000000 in
theorem label_any (h : Int) (a : Option Addr) (n c : Nat) (l : List Fr) (k : Int) (w : World) (hs : StAt w.heap.size w a n c l) :
    Calls Tryz.prog 322 #[.agg #[.int .i64 h, .slice a n c], .int .i64 k] w fun e w' => e = .returned (.tuple #[.int .i64 (labelR h l k).1, .int .i64 (labelR h l k).2]) ∧ Below w.heap.size w w' := by
  obtain ⟨W0, hW0⟩ : ∃ W0, W0 = w.alloc (.cells #[.int .i64 h, .slice a n c] 254) := ⟨_, rfl⟩
  have hx : Bx W0 w.heap.size (.int .i64 h) (.slice a n c) := by rw [hW0]; exact Bx.made w _ _
  have hb : Below w.heap.size w W0 := by rw [hW0]; exact (Below.refl _ _).alloc (Nat.le_refl _) _
  have hsW := hs.on hb
  have CC := hid (check_any h a n c l W0 hsW)
  have c0 := hx.c0
  have c1 := hx.c1
  have HB := hid hb
  have HX := hid hx
  have HW := hid hW0
  have HS := hid hs
  obtain ⟨r, hr⟩ : ∃ r, r = labelR h l k := ⟨_, rfl⟩
  rw [← hr]
  clear hs hsW hx hb hW0
  cases hv : valid h l with
  | false =>
    have HE : Hid (r = (0, 2)) := hid (by rw [hr]; simp [labelR, hv])
    have hc : chk h l = 2 := by simp [chk, hv]
    rw [hc] at CC
    clear hc hr hv
    go_enter Tryz.func322, Tryz.ntmps322
    go_upto_region 1 with fail
    rw [← HW.out]
    go_wp2_with fail
    refine CC.out.mono ?_
    rintro e w1 ⟨rfl, hb1⟩
    have HB1 := hid (HB.out.trans (hb1.mono HB.out.size))
    clear hb1
    go_wp2
    go_ret2
    exact ⟨by rw [HE.out]; rfl, HB1.out⟩
  | true =>
    have hc : chk h l = 0 := by simp [chk, hv]
    rw [hc] at CC
    have HR1 : Hid (r = if k < 0 ∨ (l.length : Int) ≤ k then (0, 6) else if (l.getD (l.length - 1 - k.toNat) Fr.none).op = 3 then (0, 0) else ((l.getD (l.length - 1 - k.toNat) Fr.none).re, 0)) := hid (by rw [hr]; simp only [labelR, hv]; rfl)
    obtain ⟨-, -, hne, hle⟩ := valid_yes hv
    have hl := HS.out.len
    rw [hl] at HR1 hle
    have hn0 : 0 < n := by rw [← hl]; exact List.length_pos_iff.2 hne
    have PRE : ∀ (P : Prop), P → P := fun _ h => h
    clear hc hr hv hne
    by_cases g1 : k < 0
    · have HE : Hid (r = (0, 6)) := hid (by rw [HR1.out, if_pos (.inl g1)])
      clear HR1
      go_enter Tryz.func322, Tryz.ntmps322
      go_upto_region 1 with fail
      rw [← HW.out]
      go_wp2_with fail
      refine CC.out.mono ?_
      rintro e w1 ⟨rfl, hb1⟩
      have HB1 := hid (HB.out.trans (hb1.mono HB.out.size))
      clear hb1
      go_wp2
      go_ret2
      exact ⟨by rw [HE.out]; rfl, HB1.out⟩
    by_cases g2 : (n : Int) ≤ k
    · have HE : Hid (r = (0, 6)) := hid (by rw [HR1.out, if_pos (.inr g2)])
      clear HR1
      go_enter Tryz.func322, Tryz.ntmps322
      go_upto_region 1 with fail
      rw [← HW.out]
      go_wp2_with fail
      refine CC.out.mono ?_
      rintro e w1 ⟨rfl, hb1⟩
      have hx1 := HX.out.below hb1
      have d0 := hx1.c0
      have d1 := hx1.c1
      have HB1 := hid (HB.out.trans (hb1.mono HB.out.size))
      clear hb1 hx1
      go_wp2
      go_ret2
      exact ⟨by rw [HE.out]; rfl, HB1.out⟩
    obtain ⟨j, hj⟩ : ∃ j : Nat, k = (n : Int) - 1 - j := ⟨n - 1 - k.toNat, by omega⟩
    have hjn : j < n := by omega
    have hjl : j < l.length := by rw [hl]; exact hjn
    have hjk : n - 1 - k.toNat = j := by omega
    have hget : l.getD j Fr.none = l[j] := by rw [List.getD_eq_getElem?_getD, List.getElem?_eq_getElem hjl]; rfl
    rw [if_neg (by omega), hjk, hget] at HR1
    obtain ⟨b, off, rfl, hbb, hcc⟩ := HS.out.get hn0
    obtain ⟨e0, e1, e2, e3⟩ := hcc j hjl
    obtain ⟨f, hf⟩ : ∃ f, l[j] = f := ⟨_, rfl⟩
    rw [hf] at e0 e1 e2 e3 HR1
    obtain ⟨op, ba, re, de⟩ := f
    dsimp only at e0 e1 e2 e3 HR1
    have k1 : IntKind.i64.wrap ((n : Int) - 1) = (n : Int) - 1 := s64_in (by omega) (by omega)
    have k2 : IntKind.i64.wrap ((n : Int) - 1 - k) = (j : Int) := by rw [s64_in (by omega) (by omega)]; omega
    have hji : (j : Int) < (n : Int) := by omega
    have hbs : b < w.heap.size := hbb
    have HEE := hid (And.intro e0 (And.intro e1 (And.intro e2 e3)))
    clear hf hget hjk hj hjl hcc e0 e1 e2 e3 HS
    go_enter Tryz.func322, Tryz.ntmps322
    go_upto_region 1 with fail
    rw [← HW.out]
    go_wp2_with fail
    refine CC.out.mono ?_
    rintro e w1 ⟨rfl, hb1⟩
    have hx1 := HX.out.below hb1
    have hbw := HB.out.trans (hb1.mono HB.out.size)
    have d0 := hx1.c0
    have d1 := hx1.c1
    have e0 := (hbw.cell (p := ⟨b, off + j * 4, none⟩) hbs).trans HEE.out.1
    have e1 := (hbw.cell (p := ⟨b, off + j * 4 + 1, none⟩) hbs).trans HEE.out.2.1
    have e2 := (hbw.cell (p := ⟨b, off + j * 4 + 2, none⟩) hbs).trans HEE.out.2.2.1
    have e3 := (hbw.cell (p := ⟨b, off + j * 4 + 3, none⟩) hbs).trans HEE.out.2.2.2
    have HB1 := hid hbw
    have HA := hid (hbw.alloc hbw.size (.cells #[.int .i64 op, .int .i64 ba, .int .i64 re, .bool de] 305))
    clear hb1 hx1 hbw HEE c0 c1
    by_cases g3 : op = 3
    · subst g3
      have HE : Hid (r = (0, 0)) := hid (by rw [HR1.out]; rfl)
      clear HR1
      go_wp2
      go_ret2
      exact ⟨by rw [HE.out]; rfl, HA.out⟩
    · have HE : Hid (r = (re, 0)) := hid (by rw [HR1.out, if_neg g3])
      have g3b : (op == 3) = false := by simp [g3]
      clear HR1
      go_wp2
      go_ret2
      exact ⟨by rw [HE.out]; rfl, HA.out⟩
end Go.Proofs.YtdljneclfgneoaaGreatDoor.Stk

namespace Go.Proofs.YtdljneclfgneoaaGreatDoor.Stk
open Go.RowKit
set_option linter.unusedVariables false

/-- What stays over a region that calls what leaves all that was there. -/
theorem pop_keep {w w2 W : World} {x y : Value} {g o : Nat} {t0 t1 t2 t3 : Value} (hx : Bx w2 w.heap.size x y) (c0 : w2.cell? ⟨g, o, none⟩ = some t0) (c1 : w2.cell? ⟨g, o + 1, none⟩ = some t1) (c2 : w2.cell? ⟨g, o + 2, none⟩ = some t2) (c3 : w2.cell? ⟨g, o + 3, none⟩ = some t3) (h : Below w2.heap.size w2 W) :
    Below w2.heap.size w2 W ∧ W.cell? ⟨w.heap.size, 0, none⟩ = some x ∧ W.cell? ⟨g, o, none⟩ = some t0 ∧ W.cell? ⟨g, o + 1, none⟩ = some t1 ∧ W.cell? ⟨g, o + 2, none⟩ = some t2 ∧ W.cell? ⟨g, o + 3, none⟩ = some t3 :=
  ⟨h, (hx.below h).c0, keep h c0, keep h c1, keep h c2, keep h c3⟩
set_option maxRecDepth 100000 in
set_option maxHeartbeats 4000000 in
theorem pop_any (h : Int) (a : Option Addr) (n c : Nat) (l : List Fr) (k : Int) (w : World) (hs : StAt w.heap.size w a n c l) (hk : k ≤ 9223372036854775807) :
    Calls Tryz.prog 321 #[.agg #[.int .i64 h, .slice a n c], .int .i64 k] w fun e w' => MadeP w (popR h l k) e w' := by
  obtain ⟨W0, hW0, hb, hx, hy, hsz⟩ := two_boxes w (.int .i64 h) (.slice a n c)
  have hsW := hs.on hb
  have c0 := hx.c0
  have c1 := hx.c1
  have HB := hid hb
  have HX := hid hx
  have HY := hid hy
  have HW := hid hW0
  have HS := hid hsz
  have HRE : Hid (popR h l k = popR h l k) := rfl
  obtain ⟨r, hr⟩ : ∃ r, r = popR h l k := ⟨_, rfl⟩
  rw [← hr]
  clear HRE
  clear hb hx hy hW0 hsz
  cases hv : valid h l with
  | false =>
    have HE : Hid (r = bad 2) := hid (by rw [hr]; simp [popR, hv])
    have CC := hid (copied_no h a n c l W0 hsW hv)
    clear hs hsW hv hr
    go_enter Tryz.func321, Tryz.ntmps321
    go_upto_region 1 with fail
    rw [← HW.out]
    go_wp2_with fail
    refine CC.out.mono ?_
    rintro e w1 ⟨rfl, hb1⟩
    have hx1 := HX.out.below hb1
    have hy1 := HY.out.below hb1
    have f0 := hx1.f 0
    have f1 := hx1.f 1
    have k0 := hx1.c0
    have k1 := hx1.c1
    have HX1 := hid hx1
    have HY1 := hid hy1
    have HB1 := hid (HB.out.trans (hb1.mono HB.out.size))
    clear hx1 hy1 hb1 c0 c1 CC
    go_upto_region 2 with fail
    obtain ⟨w2, hw2⟩ : ∃ w2, w2 = (w1.setCell ⟨w.heap.size, 0, none⟩ (.int .i64 0)).setCell ⟨w.heap.size, 1, none⟩ (.slice none 0 0) := ⟨_, rfl⟩
    rw [← hw2]
    have hy2 : Bx w2 (w.heap.size + 1) (.int .i64 0) (.slice none 0 0) := by rw [hw2]; exact (HY1.out.far (by simp) _).far (by simp) _
    have HB2 : Hid (Below w.heap.size w w2) := hid (by rw [hw2]; exact (HB1.out.setCell (by simp) _).setCell (by simp) _)
    have HY2 := hid hy2
    have f0 := hy2.f 0
    have f1 := hy2.f 1
    have k0 := hy2.c0
    have k1 := hy2.c1
    clear hy2 hw2 HX1 HY1 HB1
    go_wp2
    exact bodyPost_ret (results_cs Tryz.results321 _ _ (w.heap.size + 1) rfl (box2 HY2.out _ _)) rfl (made_bad (h := 0) (z := 0) (v := .bool true) ((HB2.out.setCell (by simp) _).setCell (by simp) _) HE.out)
  | true =>
    have CC := hid (copied_yes h a n c l W0 hsW hv)
    have HV := hid hv
    have HR := hid hr
    have HLN := hid hs.len
    clear hs hsW hv hr
    obtain ⟨hh0, hh1, hne, hle⟩ := valid_yes HV.out
    obtain ⟨m, rfl⟩ : ∃ m, n = m + 1 := ⟨n - 1, by have := HLN.out; have := List.length_pos_iff.2 hne; omega⟩
    have hm : m ≤ 1000 := by have := HLN.out; omega
    have hfi := lastF_fine HV.out
    have HT := hid (fun (W : World) (g c' : Nat) (ho : OwnF (w.heap.size + 2) W (.slice (some ⟨g, 0, none⟩) (m + 1) c') l) => own_last ho HLN.out hm)
    obtain ⟨f, hf⟩ : ∃ f, lastF l = f := ⟨_, rfl⟩
    rw [hf] at HT hfi
    obtain ⟨op, ba, re, de⟩ := f
    dsimp only [fine] at HT hfi
    obtain ⟨hb0, hb1', hr0, hr1⟩ := hfi
    rw [Nat.add_sub_cancel] at CC
    by_cases g1 : k < 0
    · have HE : Hid (r = bad 2) := hid (by rw [HR.out]; simp [popR, HV.out, g1])
      clear hm
      go_enter Tryz.func321, Tryz.ntmps321
      go_upto_region 1 with fail
      rw [← HW.out]
      go_wp2_with fail
      refine CC.out.mono ?_
      rintro e w1 ⟨g, c', rfl, ho, hb1⟩
      have HM0 := hid (Mid.of (h := h) HB.out HX.out HY.out HS.out ho hb1)
      have hx1 := HX.out.below hb1
      have f0 := hx1.f 0
      have f1 := hx1.f 1
      have k0 := hx1.c0
      have k1 := hx1.c1
      clear hx1 hb1 ho c0 c1 CC
      go_upto_region 2 with fail
      obtain ⟨w2, hw2⟩ : ∃ w2, w2 = (w1.setCell ⟨w.heap.size, 0, none⟩ (.int .i64 h)).setCell ⟨w.heap.size, 1, none⟩ (.slice (some ⟨g, 0, none⟩) (m + 1) c') := ⟨_, rfl⟩
      rw [← hw2] at HM0 ⊢
      clear hw2 f0 f1 k0 k1 HB HX HY HS HW
      have hp := HM0.out.par
      have hy := HM0.out.res
      have p0 := hp.c0
      have p1 := hp.c1
      have pf0 := hp.f 0
      have pf1 := hp.f 1
      have r0 := hy.c0
      have r1 := hy.c1
      have rf0 := hy.f 0
      have rf1 := hy.f 1
      clear hp hy
      go_wp2
      exact bodyPost_ret (results_cs Tryz.results321 _ _ (w.heap.size + 1) rfl (box2 HM0.out.res _ _)) rfl (made_bad (h := 0) (z := 0) (v := .bool true) ((HM0.out.below.setCell (by simp) _).setCell (by simp) _) HE.out)
    have CW := hid (fun W => without_any h k ⟨op, ba, re, de⟩ W hh0 hh1 hb0 hb1' (by omega) hk)
    have HR1 : Hid (r = if (without h k ⟨op, ba, re, de⟩).2 = 0 then ⟨(without h k ⟨op, ba, re, de⟩).1, l, 0⟩ else bad (without h k ⟨op, ba, re, de⟩).2) := hid (by rw [HR.out]; simp [popR, HV.out, g1, hf])
    obtain ⟨x, y, hxy⟩ : ∃ x y, without h k ⟨op, ba, re, de⟩ = (x, y) := ⟨_, _, rfl⟩
    rw [hxy] at CW HR1
    dsimp only at CW HR1
    clear hxy hf HR hh0 hh1 hb0 hb1' hr0 hr1 hne hle hk HV
    go_enter Tryz.func321, Tryz.ntmps321
    go_upto_region 1 with fail
    rw [← HW.out]
    go_wp2_with fail
    refine CC.out.mono ?_
    rintro e w1 ⟨g, c', rfl, ho, hb1⟩
    have HM0 := hid (Mid.of (h := h) HB.out HX.out HY.out HS.out ho hb1)
    have hx1 := HX.out.below hb1
    have f0 := hx1.f 0
    have f1 := hx1.f 1
    have k0 := hx1.c0
    have k1 := hx1.c1
    clear hx1 hb1 ho c0 c1 CC
    go_upto_region 2 with fail
    obtain ⟨w2, hw2⟩ : ∃ w2, w2 = (w1.setCell ⟨w.heap.size, 0, none⟩ (.int .i64 h)).setCell ⟨w.heap.size, 1, none⟩ (.slice (some ⟨g, 0, none⟩) (m + 1) c') := ⟨_, rfl⟩
    rw [← hw2] at HM0 ⊢
    clear hw2 f0 f1 k0 k1 HB HX HY HS HW
    have hp := HM0.out.par
    have hy := HM0.out.res
    have p0 := hp.c0
    have p1 := hp.c1
    have pf0 := hp.f 0
    have pf1 := hp.f 1
    have r0 := hy.c0
    have r1 := hy.c1
    have rf0 := hy.f 0
    have rf1 := hy.f 1
    clear hp hy
    obtain ⟨t0, t1, t2, t3⟩ := HT.out _ _ _ HM0.out.own
    have hS := pop_keep HM0.out.par t0 t1 t2 t3 (Below.refl _ _)
    have HKP := hid (fun (W : World) (h : Below w2.heap.size w2 W) => pop_keep HM0.out.par t0 t1 t2 t3 h)
    clear HT
    go_wp2
    go_region_with
      (go_at_call 326; refine (CW.out _).mono ?_; rintro e w3 ⟨rfl, hb3'⟩; have hb3 : Below w2.heap.size w2 w3 := (by first | exact hb3' | exact undrew hb3'); have q0 := (HKP.out _ hb3).2.1; have q1 : w3.frozen? ⟨w.heap.size, 0, none⟩ = false := (HM0.out.par.below hb3).f 0; have HB3 := hid hb3; clear hb3 hb3')
    all_goals
      obtain ⟨w4, hw4⟩ : ∃ w4, w4 = w3.setCell ⟨w.heap.size, 0, none⟩ (.int .i64 x) := ⟨_, rfl⟩
      rw [← hw4]
      have hp4 : Bx w4 w.heap.size (.int .i64 x) (.slice (some ⟨g, 0, none⟩) (m + 1) c') := by rw [hw4]; exact (HM0.out.par.below HB3.out).set0 _
      have hy4 : Bx w4 (w.heap.size + 1) (.int .i64 0) (.slice none 0 0) := by rw [hw4]; exact (HM0.out.res.below HB3.out).far (by simp) _
      have HO4 : Hid (OwnF (w.heap.size + 2) w4 (.slice (some ⟨g, 0, none⟩) (m + 1) c') l) := hid (by rw [hw4]; exact (HM0.out.own.below HB3.out).set (by simp) _)
      have HB4 : Hid (Below w.heap.size w w4) := hid (by rw [hw4]; exact (HM0.out.below.trans (HB3.out.mono HM0.out.below.size)).setCell (by simp) _)
      have HY4 := hid hy4
      have p0 := hp4.c0
      have p1 := hp4.c1
      have r0 := hy4.c0
      have r1 := hy4.c1
      have rf0 := hy4.f 0
      have rf1 := hy4.f 1
      clear hw4 hp4 hy4 HM0 HB3 q0 q1 HKP hS t0 t1 t2 t3
      by_cases hy : y = 0
      · subst hy
        have HE : Hid (r = ⟨x, l, 0⟩) := HR1.out
        go_wp2
        exact bodyPost_ret (results_cs Tryz.results321 _ _ (w.heap.size + 1) rfl (box2 HY4.out _ _)) rfl (made_ok HE.out ((HO4.out.set (by simp) _).set (by simp) _) ((HB4.out.setCell (by simp) _).setCell (by simp) _))
      · have HE : Hid (r = bad y) := hid (by rw [HR1.out, if_neg hy])
        have hyb : (y != 0) = true := by simp [hy]
        go_wp2
        exact bodyPost_ret (results_cs Tryz.results321 _ _ (w.heap.size + 1) rfl (box2 HY4.out _ _)) rfl (made_bad (h := 0) (z := 0) (v := .bool true) ((HB4.out.setCell (by simp) _).setCell (by simp) _) HE.out)
end Go.Proofs.YtdljneclfgneoaaGreatDoor.Stk

namespace Go.Proofs.YtdljneclfgneoaaGreatDoor.Stk
open Go.RowKit
set_option linter.unusedVariables false

theorem flat_set {u : Value} {q : Nat} {f' : Fr} (hq : q < 4) : ∀ (l : List Fr) (k : Nat) (hk : k < l.length), (l[k].v).set q u = f'.v → ((l.map Fr.v).flatten).set (k * 4 + q) u = ((l.set k f').map Fr.v).flatten
  | [], k, hk, _ => by simp at hk
  | f :: l, 0, _, h => by
    simp only [List.getElem_cons_zero] at h
    simp only [List.map_cons, List.flatten_cons, List.set_cons_zero, Nat.zero_mul, Nat.zero_add]
    rw [List.set_append_left _ _ (by rw [four]; exact hq), h]
  | f :: l, k + 1, hk, h => by
    simp only [List.getElem_cons_succ] at h
    have hk' : k < l.length := by simpa using hk
    have e : (k + 1) * 4 + q = f.v.length + (k * 4 + q) := by rw [four]; omega
    simp only [List.map_cons, List.flatten_cons, List.set_cons_succ]
    rw [e, List.set_append_right _ _ (by omega), Nat.add_sub_cancel_left, flat_set hq l k hk' h]
theorem flat_take : ∀ (l : List Fr) (m : Nat), ((l.map Fr.v).flatten).take (m * 4) = ((l.take m).map Fr.v).flatten
  | [], m => by simp
  | f :: l, 0 => by simp
  | f :: l, m + 1 => by
    simp only [List.map_cons, List.flatten_cons, List.take_succ_cons]
    rw [List.take_append, four, List.take_of_length_le (by rw [four]; omega), show (m + 1) * 4 - 4 = m * 4 by omega, flat_take l m]
theorem flat_len4 (l : List Fr) : ((l.map Fr.v).flatten).length = l.length * 4 := by rw [flat_length _ (fours l), List.length_map]
/-- One cell of a frame is turned. -/
theorem OwnF.store {base : Nat} {w : World} {g n c : Nat} {l : List Fr} (h : OwnF base w (.slice (some ⟨g, 0, none⟩) n c) l) (hn : l.length = n) {k q : Nat} {u : Value} {f' : Fr} (hk : k < l.length) (hq : q < 4) (hf : (l[k].v).set q u = f'.v) :
    OwnF base (w.setCell ⟨g, k * 4 + q, none⟩ u) (.slice (some ⟨g, 0, none⟩) n c) (l.set k f') := by
  subst hn
  have h1 := h.row
  rw [List.length_map] at h1
  have h2 := (World.ownsRow.stored h1 (k * 4 + q) u).1
  rw [flat_set hq l k hk hf] at h2
  exact ⟨by rw [List.length_map, List.length_set]; exact h2, fours _⟩
theorem OwnF.take {base : Nat} {w : World} {g m c : Nat} {l : List Fr} (h : OwnF base w (.slice (some ⟨g, 0, none⟩) (m + 1) c) l) (hn : l.length = m + 1) : OwnF base w (.slice (some ⟨g, 0, none⟩) m c) (l.take m) := by
  have hl : (l.take m).length = m := by rw [List.length_take]; omega
  refine ⟨?_, fours _⟩
  rw [List.length_map, hl]
  refine ⟨by rw [flat_len4, hl], ?_⟩
  rcases h.row.2 with ⟨h1, _⟩ | ⟨g', cap, cur, hv, hg, hh, hc, hm, hs, ht⟩
  · simp at h1
  · rw [List.length_map, hn] at hv hc ht
    simp only [Value.slice.injEq] at hv
    obtain ⟨h3, _, h4⟩ := hv
    refine .inr ⟨g', cap, cur, by simp only [Value.slice.injEq]; exact ⟨h3, trivial, h4⟩, hg, hh, by omega, hm, hs, ?_⟩
    rw [← flat_take, ← ht, List.take_take]
    congr 1
    omega
theorem OwnF.frozen {base : Nat} {w : World} {g n c : Nat} {l : List Fr} (h : OwnF base w (.slice (some ⟨g, 0, none⟩) n c) l) (hn : l.length = n) (j : Nat) : w.frozen? ⟨g, j, none⟩ = false := by
  subst hn
  have h1 := h.row
  rw [List.length_map] at h1
  exact World.ownsRow.frozenAt h1 j
theorem OwnF.cells {base : Nat} {w : World} {g n c : Nat} {l : List Fr} (h : OwnF base w (.slice (some ⟨g, 0, none⟩) n c) l) (hn : l.length = n) {k : Nat} (hk : k < l.length) :
    w.cell? ⟨g, k * 4, none⟩ = some (.int .i64 l[k].op) ∧ w.cell? ⟨g, k * 4 + 1, none⟩ = some (.int .i64 l[k].ba) ∧ w.cell? ⟨g, k * 4 + 2, none⟩ = some (.int .i64 l[k].re) ∧ w.cell? ⟨g, k * 4 + 3, none⟩ = some (.bool l[k].de) := by
  subst hn
  have h1 := h.row
  rw [List.length_map] at h1
  have key : ∀ j, j < 4 → ∀ v, (l[k].v)[j]? = some v → w.cell? ⟨g, k * 4 + j, none⟩ = some v := by
    intro j hj v hv
    rw [World.ownsRow.cellAt h1 (k * 4 + j) (by omega), flat_get _ (fours l) k j (by simpa using hk) hj]
    rw [List.getD_eq_getElem?_getD, List.getElem?_map, List.getElem?_eq_getElem hk]
    exact hv
  exact ⟨key 0 (by omega) _ rfl, key 1 (by omega) _ rfl, key 2 (by omega) _ rfl, key 3 (by omega) _ rfl⟩
theorem OwnF.cap {base : Nat} {w : World} {g n c : Nat} {l : List Fr} (h : OwnF base w (.slice (some ⟨g, 0, none⟩) n c) l) (hn : l.length = n) : n ≤ c := by
  subst hn
  rcases h.row.2 with ⟨h1, _⟩ | ⟨g', cap, cur, hv, _, _, hc, _⟩
  · simp at h1
  · rw [List.length_map] at hv hc
    simp only [Value.slice.injEq] at hv
    omega
theorem lastF_at {l : List Fr} {m : Nat} (hl : l.length = m + 1) : l[m]'(by omega) = lastF l := by
  unfold lastF
  rw [List.getD_eq_getElem?_getD, List.getElem?_eq_getElem (by omega)]
  simp [hl]
end Go.Proofs.YtdljneclfgneoaaGreatDoor.Stk

namespace Go.Proofs.YtdljneclfgneoaaGreatDoor.Stk
open Go.RowKit
set_option linter.unusedVariables false

theorem lit_news (w : World) (f : Fr) : ∀ j u, ([f.v].flatten)[j]? = some u → (w.alloc (.cells #[.int .i64 f.op, .int .i64 f.ba, .int .i64 f.re, .bool f.de] 305)).cell? ((⟨w.heap.size, 0, none⟩ : Addr).add j) = some u := by
  intro j u hj
  have hadd : (⟨w.heap.size, 0, none⟩ : Addr).add j = ⟨w.heap.size, j, none⟩ := by unfold Addr.add; split <;> simp_all
  rw [hadd, cell_of_row _ _ j _ _ _ (heap_alloc_new w _)]
  rw [List.flatten_cons, List.flatten_nil, List.append_nil] at hj
  rw [← Array.getElem?_toList]
  exact hj
theorem append_own {base : Nat} {w : World} {v : Value} {l : List Fr} {f : Fr} (h : OwnR 305 4 base w v (l.map Fr.v ++ [f.v])) : OwnF base w v (l ++ [f]) := by
  unfold OwnF
  rw [List.map_append]
  exact h
set_option maxRecDepth 100000 in
set_option maxHeartbeats 4000000 in
theorem dead_any (h : Int) (a : Option Addr) (n c : Nat) (l : List Fr) (w : World) (hs : StAt w.heap.size w a n c l) :
    Calls Tryz.prog 319 #[.agg #[.int .i64 h, .slice a n c]] w fun e w' => MadeP w (deadR h l) e w' := by
  obtain ⟨W0, hW0, hb, hx, hy, hsz⟩ := two_boxes w (.int .i64 h) (.slice a n c)
  have hsW := hs.on hb
  have c0 := hx.c0
  have c1 := hx.c1
  have HB := hid hb
  have HX := hid hx
  have HY := hid hy
  have HW := hid hW0
  have HS := hid hsz
  have HRE : Hid (deadR h l = deadR h l) := rfl
  obtain ⟨r, hr⟩ : ∃ r, r = deadR h l := ⟨_, rfl⟩
  rw [← hr]
  clear HRE
  clear hb hx hy hW0 hsz
  cases hv : valid h l with
  | false =>
    have HE : Hid (r = bad 2) := hid (by rw [hr]; simp [deadR, hv])
    have CC := hid (copied_no h a n c l W0 hsW hv)
    clear hs hsW hv hr
    go_enter Tryz.func319, Tryz.ntmps319
    go_upto_region 1 with fail
    rw [← HW.out]
    go_wp2_with fail
    refine CC.out.mono ?_
    rintro e w1 ⟨rfl, hb1⟩
    have hx1 := HX.out.below hb1
    have hy1 := HY.out.below hb1
    have f0 := hx1.f 0
    have f1 := hx1.f 1
    have k0 := hx1.c0
    have k1 := hx1.c1
    have HX1 := hid hx1
    have HY1 := hid hy1
    have HB1 := hid (HB.out.trans (hb1.mono HB.out.size))
    clear hx1 hy1 hb1 c0 c1 CC
    go_upto_region 2 with fail
    obtain ⟨w2, hw2⟩ : ∃ w2, w2 = (w1.setCell ⟨w.heap.size, 0, none⟩ (.int .i64 0)).setCell ⟨w.heap.size, 1, none⟩ (.slice none 0 0) := ⟨_, rfl⟩
    rw [← hw2]
    have hy2 : Bx w2 (w.heap.size + 1) (.int .i64 0) (.slice none 0 0) := by rw [hw2]; exact (HY1.out.far (by simp) _).far (by simp) _
    have HB2 : Hid (Below w.heap.size w w2) := hid (by rw [hw2]; exact (HB1.out.setCell (by simp) _).setCell (by simp) _)
    have HY2 := hid hy2
    have f0 := hy2.f 0
    have f1 := hy2.f 1
    have k0 := hy2.c0
    have k1 := hy2.c1
    clear hy2 hw2 HX1 HY1 HB1
    go_wp2
    exact bodyPost_ret (results_cs Tryz.results319 _ _ (w.heap.size + 1) rfl (box2 HY2.out _ _)) rfl (made_bad (h := 0) (z := 0) (v := .bool true) ((HB2.out.setCell (by simp) _).setCell (by simp) _) HE.out)
  | true =>
    have CC := hid (copied_yes h a n c l W0 hsW hv)
    have HV := hid hv
    have HR := hid hr
    have HLN := hid hs.len
    clear hs hsW hv hr
    obtain ⟨hh0, hh1, hne, hle⟩ := valid_yes HV.out
    obtain ⟨m, rfl⟩ : ∃ m, n = m + 1 := ⟨n - 1, by have := HLN.out; have := List.length_pos_iff.2 hne; omega⟩
    have hm : m ≤ 1000 := by have := HLN.out; omega
    have hfi := lastF_fine HV.out
    have HT := hid (fun (W : World) (g c' : Nat) (ho : OwnF (w.heap.size + 2) W (.slice (some ⟨g, 0, none⟩) (m + 1) c') l) => own_last ho HLN.out hm)
    obtain ⟨f, hf⟩ : ∃ f, lastF l = f := ⟨_, rfl⟩
    rw [hf] at HT hfi
    obtain ⟨op, ba, re, de⟩ := f
    have hlk : l[m]'(by have := HLN.out; omega) = ⟨op, ba, re, de⟩ := by rw [lastF_at HLN.out, hf]
    dsimp only [fine] at HT hfi
    obtain ⟨hb0, hb1', hr0, hr1⟩ := hfi
    rw [Nat.add_sub_cancel] at CC
    have HE : Hid (r = ⟨ba, l.set m ⟨op, ba, re, true⟩, 0⟩) := hid (by rw [HR.out]; simp only [deadR, HV.out, hf, HLN.out]; rfl)
    have HLK := hid hlk
    clear hlk hf HR hh0 hh1 hb0 hb1' hr0 hr1 hne hle HV
    go_enter Tryz.func319, Tryz.ntmps319
    go_upto_region 1 with fail
    rw [← HW.out]
    go_wp2_with fail
    refine CC.out.mono ?_
    rintro e w1 ⟨g, c', rfl, ho, hb1⟩
    have HM0 := hid (Mid.of (h := h) HB.out HX.out HY.out HS.out ho hb1)
    have hx1 := HX.out.below hb1
    have f0 := hx1.f 0
    have f1 := hx1.f 1
    have k0 := hx1.c0
    have k1 := hx1.c1
    clear hx1 hb1 ho c0 c1 CC
    go_upto_region 2 with fail
    obtain ⟨w2, hw2⟩ : ∃ w2, w2 = (w1.setCell ⟨w.heap.size, 0, none⟩ (.int .i64 h)).setCell ⟨w.heap.size, 1, none⟩ (.slice (some ⟨g, 0, none⟩) (m + 1) c') := ⟨_, rfl⟩
    rw [← hw2] at HM0 ⊢
    clear hw2 f0 f1 k0 k1 HB HX HY HS HW
    have hp := HM0.out.par
    have hy := HM0.out.res
    have p0 := hp.c0
    have p1 := hp.c1
    have pf0 := hp.f 0
    have pf1 := hp.f 1
    have r0 := hy.c0
    have r1 := hy.c1
    have rf0 := hy.f 0
    have rf1 := hy.f 1
    clear hp hy
    obtain ⟨t0, t1, t2, t3⟩ := HT.out _ _ _ HM0.out.own
    have HGB := hid (own_block HM0.out.own)
    have z1 := HM0.out.own.frozen HLN.out (m * 4 + 3)
    clear HT
    go_upto_region 5 with fail
    obtain ⟨w3, hw3⟩ : ∃ w3, w3 = w2.setCell ⟨w.heap.size, 0, none⟩ (.int .i64 ba) := ⟨_, rfl⟩
    rw [← hw3]
    have hp3 : Bx w3 w.heap.size (.int .i64 ba) (.slice (some ⟨g, 0, none⟩) (m + 1) c') := by rw [hw3]; exact HM0.out.par.set0 _
    have hy3 : Bx w3 (w.heap.size + 1) (.int .i64 0) (.slice none 0 0) := by rw [hw3]; exact HM0.out.res.far (by simp) _
    have HO3 : Hid (OwnF (w.heap.size + 2) w3 (.slice (some ⟨g, 0, none⟩) (m + 1) c') l) := hid (by rw [hw3]; exact HM0.out.own.set (by simp) _)
    have HB3 : Hid (Below w.heap.size w w3) := hid (by rw [hw3]; exact HM0.out.below.setCell (by simp) _)
    have t3 := (own_last HO3.out HLN.out hm).2.2.2
    have z3 := HO3.out.frozen HLN.out (m * 4 + 3)
    have HP3 := hid hp3
    have HY3 := hid hy3
    clear hw3 hp3 hy3 HM0 p0 p1 pf0 pf1 r0 r1 rf0 rf1 t0 t1 t2 z1
    go_upto_region 6 with fail
    obtain ⟨w4, hw4⟩ : ∃ w4, w4 = w3.setCell ⟨g, m * 4 + 3, none⟩ (.bool true) := ⟨_, rfl⟩
    rw [← hw4]
    have hgb := HGB.out
    have hp4 : Bx w4 w.heap.size (.int .i64 ba) (.slice (some ⟨g, 0, none⟩) (m + 1) c') := by rw [hw4]; exact HP3.out.far (by show _ ≠ g; omega) _
    have hy4 : Bx w4 (w.heap.size + 1) (.int .i64 0) (.slice none 0 0) := by rw [hw4]; exact HY3.out.far (by show _ ≠ g; omega) _
    have HO4 : Hid (OwnF (w.heap.size + 2) w4 (.slice (some ⟨g, 0, none⟩) (m + 1) c') (l.set m ⟨op, ba, re, true⟩)) := hid (by
      rw [hw4]; exact HO3.out.store HLN.out (by have := HLN.out; omega) (by omega) (by rw [HLK.out]; rfl))
    have HB4 : Hid (Below w.heap.size w w4) := hid (by rw [hw4]; exact HB3.out.setCell (by show _ ≤ g; omega) _)
    have p0 := hp4.c0
    have p1 := hp4.c1
    have r0 := hy4.c0
    have r1 := hy4.c1
    have rf0 := hy4.f 0
    have rf1 := hy4.f 1
    have HY4 := hid hy4
    clear hw4 hp4 hy4 hgb t3 z3 HO3 HB3 HP3 HY3
    go_wp2
    exact bodyPost_ret (results_cs Tryz.results319 _ _ (w.heap.size + 1) rfl (box2 HY4.out _ _)) rfl (made_ok HE.out ((HO4.out.set (by simp) _).set (by simp) _) ((HB4.out.setCell (by simp) _).setCell (by simp) _))
set_option maxRecDepth 100000 in
set_option maxHeartbeats 4000000 in
theorem enter_any (h : Int) (a : Option Addr) (n c : Nat) (l : List Fr) (op re : Int) (w : World) (hs : StAt w.heap.size w a n c l) :
    Calls Tryz.prog 320 #[.agg #[.int .i64 h, .slice a n c], .int .i64 op, .int .i64 re] w fun e w' => MadeP w (enterR h l op re) e w' := by
  obtain ⟨W0, hW0, hb, hx, hy, hsz⟩ := two_boxes w (.int .i64 h) (.slice a n c)
  have hsW := hs.on hb
  have c0 := hx.c0
  have c1 := hx.c1
  have HB := hid hb
  have HX := hid hx
  have HY := hid hy
  have HW := hid hW0
  have HS := hid hsz
  have HRE : Hid (enterR h l op re = enterR h l op re) := rfl
  obtain ⟨r, hr⟩ : ∃ r, r = enterR h l op re := ⟨_, rfl⟩
  rw [← hr]
  clear HRE
  clear hb hx hy hW0 hsz
  cases hv : valid h l with
  | false =>
    have HE : Hid (r = bad 2) := hid (by rw [hr]; simp [enterR, hv])
    have CC := hid (copied_no h a n c l W0 hsW hv)
    clear hs hsW hv hr
    go_enter Tryz.func320, Tryz.ntmps320
    go_upto_region 1 with fail
    rw [← HW.out]
    go_wp2_with fail
    refine CC.out.mono ?_
    rintro e w1 ⟨rfl, hb1⟩
    have hx1 := HX.out.below hb1
    have hy1 := HY.out.below hb1
    have f0 := hx1.f 0
    have f1 := hx1.f 1
    have k0 := hx1.c0
    have k1 := hx1.c1
    have HX1 := hid hx1
    have HY1 := hid hy1
    have HB1 := hid (HB.out.trans (hb1.mono HB.out.size))
    clear hx1 hy1 hb1 c0 c1 CC
    go_upto_region 2 with fail
    obtain ⟨w2, hw2⟩ : ∃ w2, w2 = (w1.setCell ⟨w.heap.size, 0, none⟩ (.int .i64 0)).setCell ⟨w.heap.size, 1, none⟩ (.slice none 0 0) := ⟨_, rfl⟩
    rw [← hw2]
    have hy2 : Bx w2 (w.heap.size + 1) (.int .i64 0) (.slice none 0 0) := by rw [hw2]; exact (HY1.out.far (by simp) _).far (by simp) _
    have HB2 : Hid (Below w.heap.size w w2) := hid (by rw [hw2]; exact (HB1.out.setCell (by simp) _).setCell (by simp) _)
    have HY2 := hid hy2
    have f0 := hy2.f 0
    have f1 := hy2.f 1
    have k0 := hy2.c0
    have k1 := hy2.c1
    clear hy2 hw2 HX1 HY1 HB1
    go_wp2
    exact bodyPost_ret (results_cs Tryz.results320 _ _ (w.heap.size + 1) rfl (box2 HY2.out _ _)) rfl (made_bad (h := 0) (z := 0) (v := .bool true) ((HB2.out.setCell (by simp) _).setCell (by simp) _) HE.out)
  | true =>
    have CC := hid (copied_yes h a n c l W0 hsW hv)
    have HV := hid hv
    have HR := hid hr
    have HLN := hid hs.len
    clear hs hsW hv hr
    have CO := hid (fun W => opensList_any op W)
    have CR := hid (fun W => wrongResults_any re W)
    have HR1 : Hid (r = if opens op = false ∨ wrongRe re = true then bad 2 else if l.length = 1000 then bad 8 else ⟨h, l ++ [⟨op, h, re, false⟩], 0⟩) := hid (by rw [HR.out]; simp [enterR, HV.out])
    obtain ⟨hh0, hh1, hne, hle⟩ := valid_yes HV.out
    have HLE := hid (show n ≤ 1000 by rw [← HLN.out]; exact hle)
    clear HR HV hh0 hh1 hne hle
    obtain ⟨q1, hq1⟩ : ∃ q, opens op = q := ⟨_, rfl⟩
    obtain ⟨q2, hq2⟩ : ∃ q, wrongRe re = q := ⟨_, rfl⟩
    rw [hq1] at CO HR1
    rw [hq2] at CR HR1
    clear hq1 hq2
    cases q1 with
    | false =>
      have HE : Hid (r = bad 2) := hid (by rw [HR1.out]; rfl)
      clear HR1 CR
      go_enter Tryz.func320, Tryz.ntmps320
      go_upto_region 1 with fail
      rw [← HW.out]
      go_wp2_with fail
      refine CC.out.mono ?_
      rintro e w1 ⟨g, c', rfl, ho, hb1⟩
      have HM0 := hid (Mid.of (h := h) HB.out HX.out HY.out HS.out ho hb1)
      have hx1 := HX.out.below hb1
      have f0 := hx1.f 0
      have f1 := hx1.f 1
      have k0 := hx1.c0
      have k1 := hx1.c1
      clear hx1 hb1 ho c0 c1 CC
      go_upto_region 2 with fail
      obtain ⟨w2, hw2⟩ : ∃ w2, w2 = (w1.setCell ⟨w.heap.size, 0, none⟩ (.int .i64 h)).setCell ⟨w.heap.size, 1, none⟩ (.slice (some ⟨g, 0, none⟩) n c') := ⟨_, rfl⟩
      rw [← hw2] at HM0 ⊢
      clear hw2 f0 f1 k0 k1 HB HX HY HS HW
      have hp := HM0.out.par
      have hy := HM0.out.res
      have p0 := hp.c0
      have p1 := hp.c1
      have pf0 := hp.f 0
      have pf1 := hp.f 1
      have r0 := hy.c0
      have r1 := hy.c1
      have rf0 := hy.f 0
      have rf1 := hy.f 1
      clear hp hy
      go_wp2_with fail
      refine (CO.out _).mono ?_
      rintro e w3 ⟨rfl, rfl⟩
      go_wp2
      exact bodyPost_ret (results_cs Tryz.results320 _ _ (w.heap.size + 1) rfl (box2 HM0.out.res _ _)) rfl (made_bad (h := 0) (z := 0) (v := .bool true) ((HM0.out.below.setCell (by simp) _).setCell (by simp) _) HE.out)
    | true =>
    cases q2 with
    | true =>
      have HE : Hid (r = bad 2) := hid (by rw [HR1.out]; rfl)
      clear HR1
      go_enter Tryz.func320, Tryz.ntmps320
      go_upto_region 1 with fail
      rw [← HW.out]
      go_wp2_with fail
      refine CC.out.mono ?_
      rintro e w1 ⟨g, c', rfl, ho, hb1⟩
      have HM0 := hid (Mid.of (h := h) HB.out HX.out HY.out HS.out ho hb1)
      have hx1 := HX.out.below hb1
      have f0 := hx1.f 0
      have f1 := hx1.f 1
      have k0 := hx1.c0
      have k1 := hx1.c1
      clear hx1 hb1 ho c0 c1 CC
      go_upto_region 2 with fail
      obtain ⟨w2, hw2⟩ : ∃ w2, w2 = (w1.setCell ⟨w.heap.size, 0, none⟩ (.int .i64 h)).setCell ⟨w.heap.size, 1, none⟩ (.slice (some ⟨g, 0, none⟩) n c') := ⟨_, rfl⟩
      rw [← hw2] at HM0 ⊢
      clear hw2 f0 f1 k0 k1 HB HX HY HS HW
      have hp := HM0.out.par
      have hy := HM0.out.res
      have p0 := hp.c0
      have p1 := hp.c1
      have pf0 := hp.f 0
      have pf1 := hp.f 1
      have r0 := hy.c0
      have r1 := hy.c1
      have rf0 := hy.f 0
      have rf1 := hy.f 1
      clear hp hy
      go_wp2_with fail
      refine (CO.out _).mono ?_
      rintro e w3 ⟨rfl, rfl⟩
      go_wp2_with fail
      refine (CR.out _).mono ?_
      rintro e w3 ⟨rfl, rfl⟩
      go_wp2
      exact bodyPost_ret (results_cs Tryz.results320 _ _ (w.heap.size + 1) rfl (box2 HM0.out.res _ _)) rfl (made_bad (h := 0) (z := 0) (v := .bool true) ((HM0.out.below.setCell (by simp) _).setCell (by simp) _) HE.out)
    | false =>
    by_cases g3 : n = 1000
    · have HE : Hid (r = bad 8) := hid (by rw [HR1.out, HLN.out, if_neg (by simp), if_pos g3])
      subst g3
      clear HR1
      go_enter Tryz.func320, Tryz.ntmps320
      go_upto_region 1 with fail
      rw [← HW.out]
      go_wp2_with fail
      refine CC.out.mono ?_
      rintro e w1 ⟨g, c', rfl, ho, hb1⟩
      have HM0 := hid (Mid.of (h := h) HB.out HX.out HY.out HS.out ho hb1)
      have hx1 := HX.out.below hb1
      have f0 := hx1.f 0
      have f1 := hx1.f 1
      have k0 := hx1.c0
      have k1 := hx1.c1
      clear hx1 hb1 ho c0 c1 CC
      go_upto_region 2 with fail
      obtain ⟨w2, hw2⟩ : ∃ w2, w2 = (w1.setCell ⟨w.heap.size, 0, none⟩ (.int .i64 h)).setCell ⟨w.heap.size, 1, none⟩ (.slice (some ⟨g, 0, none⟩) 1000 c') := ⟨_, rfl⟩
      rw [← hw2] at HM0 ⊢
      clear hw2 f0 f1 k0 k1 HB HX HY HS HW
      have hp := HM0.out.par
      have hy := HM0.out.res
      have p0 := hp.c0
      have p1 := hp.c1
      have pf0 := hp.f 0
      have pf1 := hp.f 1
      have r0 := hy.c0
      have r1 := hy.c1
      have rf0 := hy.f 0
      have rf1 := hy.f 1
      clear hp hy
      go_wp2_with fail
      refine (CO.out _).mono ?_
      rintro e w3 ⟨rfl, rfl⟩
      go_wp2_with fail
      refine (CR.out _).mono ?_
      rintro e w3 ⟨rfl, rfl⟩
      go_wp2
      exact bodyPost_ret (results_cs Tryz.results320 _ _ (w.heap.size + 1) rfl (box2 HM0.out.res _ _)) rfl (made_bad (h := 0) (z := 0) (v := .bool true) ((HM0.out.below.setCell (by simp) _).setCell (by simp) _) HE.out)
    have HE : Hid (r = ⟨h, l ++ [⟨op, h, re, false⟩], 0⟩) := hid (by rw [HR1.out, HLN.out, if_neg (by simp), if_neg g3])
    have g3i : ((n : Int) == 1000) = false := by simp; omega
    clear HR1
    go_enter Tryz.func320, Tryz.ntmps320
    go_upto_region 1 with fail
    rw [← HW.out]
    go_wp2_with fail
    refine CC.out.mono ?_
    rintro e w1 ⟨g, c', rfl, ho, hb1⟩
    have HM0 := hid (Mid.of (h := h) HB.out HX.out HY.out HS.out ho hb1)
    have hx1 := HX.out.below hb1
    have f0 := hx1.f 0
    have f1 := hx1.f 1
    have k0 := hx1.c0
    have k1 := hx1.c1
    clear hx1 hb1 ho c0 c1 CC
    go_upto_region 2 with fail
    obtain ⟨w2, hw2⟩ : ∃ w2, w2 = (w1.setCell ⟨w.heap.size, 0, none⟩ (.int .i64 h)).setCell ⟨w.heap.size, 1, none⟩ (.slice (some ⟨g, 0, none⟩) n c') := ⟨_, rfl⟩
    rw [← hw2] at HM0 ⊢
    clear hw2 f0 f1 k0 k1 HB HX HY HS HW
    have hp := HM0.out.par
    have hy := HM0.out.res
    have p0 := hp.c0
    have p1 := hp.c1
    have pf0 := hp.f 0
    have pf1 := hp.f 1
    have r0 := hy.c0
    have r1 := hy.c1
    have rf0 := hy.f 0
    have rf1 := hy.f 1
    clear hp hy
    go_wp2_with fail
    refine (CO.out _).mono ?_
    rintro e w3 ⟨rfl, rfl⟩
    go_wp2_with fail
    refine (CR.out _).mono ?_
    rintro e w3 ⟨rfl, rfl⟩
    have HOW := hid HM0.out.own
    have HNL := hid (lit_news w2 ⟨op, h, re, false⟩)
    have HBW : Hid (Below (w.heap.size + 2) w2 (w2.alloc (.cells #[.int .i64 op, .int .i64 h, .int .i64 re, .bool false] 305))) := hid ((Below.refl _ _).alloc (by have := (own_block HM0.out.own).2; have := (own_block HM0.out.own).1; omega) _)
    have HOA := hid (OwnF.below HOW.out ((Below.refl _ _).alloc (Nat.le_refl _) (.cells #[.int .i64 op, .int .i64 h, .int .i64 re, .bool false] 305)))
    have HZ := hid (show w.heap.size + 2 ≤ w2.heap.size by have := (own_block HM0.out.own).2; have := (own_block HM0.out.own).1; omega)
    have HL1 : Hid ((l ++ [(⟨op, h, re, false⟩ : Fr)]).length = n + 1) := hid (by simp [HLN.out])
    clear HOW
    go_upto_region 8 with fail
    go_upto_region 9 with (at_builtin; refine append_rows infoFr rfl (by omega) (by omega) Tryz.underlying252 rfl (.tmp 37) (.tmp 43) rfl (base := w.heap.size + 2) (w0 := w2) (xs := l.map Fr.v) [(⟨op, h, re, false⟩ : Fr).v] rfl HOA.out HBW.out (by rw [World.size_alloc]; have := HZ.out; omega) ⟨w2.heap.size, 0, none⟩ 1 1 rfl rfl (by simp [Fr.v]) HNL.out (by simp [Fr.v, Value.oneCell']) (by rw [List.length_map, HLN.out]; have := HLE.out; omega) ?_; intro v1 u1 ho hb hsz hgrow; have ho1 := append_own ho; obtain ⟨a1, c1, hv1, -⟩ := OwnF.slice ho1 (by simp; rw [HLN.out]; have := HLE.out; omega); rw [HL1.out] at hv1; subst hv1; have hp := HM0.out.par.belowB hb (by omega); have hy := HM0.out.res.belowB hb (by omega); have p0 := hp.c0; have p1 := hp.c1; have pf0 := hp.f 0; have pf1 := hp.f 1; have HO1 := hid ho1; have HP := hid hp; have HY := hid hy; have HB1 := hid (HM0.out.below.trans (hb.mono (by omega))); clear hp hy ho ho1 hb hsz hgrow)
    obtain ⟨w5, hw5⟩ : ∃ w5, w5 = u1.setCell ⟨w.heap.size, 1, none⟩ (.slice a1 (n + 1) c1) := ⟨_, rfl⟩
    rw [← hw5]
    have hp5 : Bx w5 w.heap.size (.int .i64 h) (.slice a1 (n + 1) c1) := by rw [hw5]; exact HP.out.set1 _
    have hy5 : Bx w5 (w.heap.size + 1) (.int .i64 0) (.slice none 0 0) := by rw [hw5]; exact HY.out.far (by simp) _
    have HO5 := hid (HO1.out.set (p := ⟨w.heap.size, 1, none⟩) (by simp) (.slice a1 (n + 1) c1))
    have HB5 := hid (HB1.out.setCell (p := ⟨w.heap.size, 1, none⟩) (by simp) (.slice a1 (n + 1) c1))
    rw [← hw5] at HO5 HB5
    have p0 := hp5.c0
    have p1 := hp5.c1
    have r0 := hy5.c0
    have r1 := hy5.c1
    have rf0 := hy5.f 0
    have rf1 := hy5.f 1
    have HY5 := hid hy5
    clear hw5 hp5 hy5 HO1 HB1 HP HY HM0 HNL HBW HOA
    go_wp2
    exact bodyPost_ret (results_cs Tryz.results320 _ _ (w.heap.size + 1) rfl (box2 HY5.out _ _)) rfl (made_ok HE.out ((HO5.out.set (by simp) _).set (by simp) _) ((HB5.out.setCell (by simp) _).setCell (by simp) _))
end Go.Proofs.YtdljneclfgneoaaGreatDoor.Stk

namespace Go.Proofs.YtdljneclfgneoaaGreatDoor.Stk
open Go.RowKit
set_option linter.unusedVariables false

/-- What stays over a region that calls what leaves all that was there. -/
theorem leave_keep {w w2 W : World} {x y : Value} {g o : Nat} {t0 t1 t2 t3 : Value} (hx : Bx w2 w.heap.size x y) (c0 : w2.cell? ⟨g, o, none⟩ = some t0) (c1 : w2.cell? ⟨g, o + 1, none⟩ = some t1) (c2 : w2.cell? ⟨g, o + 2, none⟩ = some t2) (c3 : w2.cell? ⟨g, o + 3, none⟩ = some t3) (h : Below w2.heap.size w2 W) :
    Below w2.heap.size w2 W ∧ W.cell? ⟨w.heap.size, 0, none⟩ = some x ∧ W.cell? ⟨g, o, none⟩ = some t0 ∧ W.cell? ⟨g, o + 1, none⟩ = some t1 ∧ W.cell? ⟨g, o + 2, none⟩ = some t2 ∧ W.cell? ⟨g, o + 3, none⟩ = some t3 :=
  ⟨h, (hx.below h).c0, keep h c0, keep h c1, keep h c2, keep h c3⟩
set_option maxRecDepth 100000 in
set_option maxHeartbeats 4000000 in
theorem leave_any (h : Int) (a : Option Addr) (n c : Nat) (l : List Fr) (w : World) (hs : StAt w.heap.size w a n c l) :
    Calls Tryz.prog 287 #[.agg #[.int .i64 h, .slice a n c]] w fun e w' => MadeP w (leaveR h l) e w' := by
  obtain ⟨W0, hW0, hb, hx, hy, hsz⟩ := two_boxes w (.int .i64 h) (.slice a n c)
  have hsW := hs.on hb
  have c0 := hx.c0
  have c1 := hx.c1
  have HB := hid hb
  have HX := hid hx
  have HY := hid hy
  have HW := hid hW0
  have HS := hid hsz
  have HRE : Hid (leaveR h l = leaveR h l) := rfl
  obtain ⟨r, hr⟩ : ∃ r, r = leaveR h l := ⟨_, rfl⟩
  rw [← hr]
  clear HRE
  clear hb hx hy hW0 hsz
  cases hv : valid h l with
  | false =>
    have HE : Hid (r = bad 2) := hid (by rw [hr]; simp [leaveR, hv])
    have CC := hid (copied_no h a n c l W0 hsW hv)
    clear hs hsW hv hr
    go_enter Tryz.func287, Tryz.ntmps287
    go_upto_region 1 with fail
    rw [← HW.out]
    go_wp2_with fail
    refine CC.out.mono ?_
    rintro e w1 ⟨rfl, hb1⟩
    have hx1 := HX.out.below hb1
    have hy1 := HY.out.below hb1
    have f0 := hx1.f 0
    have f1 := hx1.f 1
    have k0 := hx1.c0
    have k1 := hx1.c1
    have HX1 := hid hx1
    have HY1 := hid hy1
    have HB1 := hid (HB.out.trans (hb1.mono HB.out.size))
    clear hx1 hy1 hb1 c0 c1 CC
    go_upto_region 2 with fail
    obtain ⟨w2, hw2⟩ : ∃ w2, w2 = (w1.setCell ⟨w.heap.size, 0, none⟩ (.int .i64 0)).setCell ⟨w.heap.size, 1, none⟩ (.slice none 0 0) := ⟨_, rfl⟩
    rw [← hw2]
    have hy2 : Bx w2 (w.heap.size + 1) (.int .i64 0) (.slice none 0 0) := by rw [hw2]; exact (HY1.out.far (by simp) _).far (by simp) _
    have HB2 : Hid (Below w.heap.size w w2) := hid (by rw [hw2]; exact (HB1.out.setCell (by simp) _).setCell (by simp) _)
    have HY2 := hid hy2
    have f0 := hy2.f 0
    have f1 := hy2.f 1
    have k0 := hy2.c0
    have k1 := hy2.c1
    clear hy2 hw2 HX1 HY1 HB1
    go_wp2
    exact bodyPost_ret (results_cs Tryz.results287 _ _ (w.heap.size + 1) rfl (box2 HY2.out _ _)) rfl (made_bad (h := 0) (z := 0) (v := .bool true) ((HB2.out.setCell (by simp) _).setCell (by simp) _) HE.out)
  | true =>
    have CC := hid (copied_yes h a n c l W0 hsW hv)
    have HV := hid hv
    have HR := hid hr
    have HLN := hid hs.len
    clear hs hsW hv hr
    obtain ⟨hh0, hh1, hne, hle⟩ := valid_yes HV.out
    obtain ⟨m, rfl⟩ : ∃ m, n = m + 1 := ⟨n - 1, by have := HLN.out; have := List.length_pos_iff.2 hne; omega⟩
    have hm : m ≤ 1000 := by have := HLN.out; omega
    have hfi := lastF_fine HV.out
    have HT := hid (fun (W : World) (g c' : Nat) (ho : OwnF (w.heap.size + 2) W (.slice (some ⟨g, 0, none⟩) (m + 1) c') l) => own_last ho HLN.out hm)
    obtain ⟨f, hf⟩ : ∃ f, lastF l = f := ⟨_, rfl⟩
    rw [hf] at HT hfi
    obtain ⟨op, ba, re, de⟩ := f
    dsimp only [fine] at HT hfi
    obtain ⟨hb0, hb1', hr0, hr1⟩ := hfi
    rw [Nat.add_sub_cancel] at CC
    have CW := hid (fun W => without_any h re ⟨op, ba, re, de⟩ W hh0 hh1 hb0 hb1' hr0 (by omega))
    have HR1 : Hid (r = if (without h re ⟨op, ba, re, de⟩).2 ≠ 0 then bad (without h re ⟨op, ba, re, de⟩).2 else if ba < (without h re ⟨op, ba, re, de⟩).1 then bad 201 else ⟨(without h re ⟨op, ba, re, de⟩).1 + re, l.take m, 0⟩) := hid (by rw [HR.out]; simp [leaveR, HV.out, hf, HLN.out])
    have hx0 : 0 ≤ (without h re ⟨op, ba, re, de⟩).1 ∧ (without h re ⟨op, ba, re, de⟩).1 ≤ 1073741824 := by
      simp only [without]
      repeat' split
      all_goals simp only
      all_goals omega
    obtain ⟨x, y, hxy⟩ : ∃ x y, without h re ⟨op, ba, re, de⟩ = (x, y) := ⟨_, _, rfl⟩
    rw [hxy] at CW HR1 hx0
    dsimp only at CW HR1 hx0
    have HX0 := hid hx0
    have kx : IntKind.i64.wrap (x + re) = x + re := s64_in (by omega) (by omega)
    have HRE := hid (And.intro hr0 hr1)
    clear hxy hf HR hh0 hh1 hb0 hb1' hr0 hr1 hne hle HV hx0
    go_enter Tryz.func287, Tryz.ntmps287
    go_upto_region 1 with fail
    rw [← HW.out]
    go_wp2_with fail
    refine CC.out.mono ?_
    rintro e w1 ⟨g, c', rfl, ho, hb1⟩
    have HM0 := hid (Mid.of (h := h) HB.out HX.out HY.out HS.out ho hb1)
    have hx1 := HX.out.below hb1
    have f0 := hx1.f 0
    have f1 := hx1.f 1
    have k0 := hx1.c0
    have k1 := hx1.c1
    clear hx1 hb1 ho c0 c1 CC
    go_upto_region 2 with fail
    obtain ⟨w2, hw2⟩ : ∃ w2, w2 = (w1.setCell ⟨w.heap.size, 0, none⟩ (.int .i64 h)).setCell ⟨w.heap.size, 1, none⟩ (.slice (some ⟨g, 0, none⟩) (m + 1) c') := ⟨_, rfl⟩
    rw [← hw2] at HM0 ⊢
    clear hw2 f0 f1 k0 k1 HB HX HY HS HW
    have hp := HM0.out.par
    have hy := HM0.out.res
    have p0 := hp.c0
    have p1 := hp.c1
    have pf0 := hp.f 0
    have pf1 := hp.f 1
    have r0 := hy.c0
    have r1 := hy.c1
    have rf0 := hy.f 0
    have rf1 := hy.f 1
    clear hp hy
    obtain ⟨t0, t1, t2, t3⟩ := HT.out _ _ _ HM0.out.own
    have hS := leave_keep HM0.out.par t0 t1 t2 t3 (Below.refl _ _)
    have HKP := hid (fun (W : World) (h : Below w2.heap.size w2 W) => leave_keep HM0.out.par t0 t1 t2 t3 h)
    have HGB := hid (own_block HM0.out.own)
    clear HT
    go_wp2
    go_region_held3 (fun w' => Below w2.heap.size w2 w' ∧ w'.cell? ⟨w.heap.size, 0, none⟩ = some (.int .i64 h) ∧ w'.cell? ⟨g, m * 4, none⟩ = some (.int .i64 op) ∧ w'.cell? ⟨g, m * 4 + 1, none⟩ = some (.int .i64 ba) ∧ w'.cell? ⟨g, m * 4 + 2, none⟩ = some (.int .i64 re) ∧ w'.cell? ⟨g, m * 4 + 3, none⟩ = some (.bool de))
      (first
        | (with_reducible assumption)
        | (with_reducible exact HKP.out _ hb3)
        | (with_reducible exact HKP.out _ ((Below.refl _ _).drew)))
      (first
        | (go_at_call 326; refine (CW.out _).mono ?_; rintro e w3 ⟨rfl, hb3'⟩; have hb3 : Below w2.heap.size w2 w3 := (by first | exact hb3' | exact undrew hb3')))
    have hpp := HM0.out.par.below hb3
    have hyy := HM0.out.res.below hb3
    have HO3 := hid (HM0.out.own.below hb3)
    have HB3 := hid (HM0.out.below.trans (hb3.mono HM0.out.below.size))
    have HPP := hid hpp
    have HYY := hid hyy
    have t0 := keep hb3 t0
    have t1 := keep hb3 t1
    have t2 := keep hb3 t2
    have t3 := keep hb3 t3
    have p0 := hpp.c0
    have p1 := hpp.c1
    have pf0 := hpp.f 0
    have pf1 := hpp.f 1
    have r0 := hyy.c0
    have r1 := hyy.c1
    have rf0 := hyy.f 0
    have rf1 := hyy.f 1
    clear hpp hyy hb3 hb3' HM0 HKP hS CW
    by_cases g1 : y = 0
    rotate_left
    · have HE : Hid (r = bad y) := hid (by rw [HR1.out, if_pos g1])
      have g1b : (y != 0) = true := by simp [g1]
      clear HR1
      go_wp2
      exact bodyPost_ret (results_cs Tryz.results287 _ _ (w.heap.size + 1) rfl (box2 HYY.out _ _)) rfl (made_bad (h := 0) (z := 0) (v := .bool true) ((HB3.out.setCell (by simp) _).setCell (by simp) _) HE.out)
    subst g1
    by_cases g2 : ba < x
    · have HE : Hid (r = bad 201) := hid (by rw [HR1.out, if_neg (by simp), if_pos g2])
      clear HR1
      go_wp2
      exact bodyPost_ret (results_cs Tryz.results287 _ _ (w.heap.size + 1) rfl (box2 HYY.out _ _)) rfl (made_bad (h := 0) (z := 0) (v := .bool true) ((HB3.out.setCell (by simp) _).setCell (by simp) _) HE.out)
    have HE : Hid (r = ⟨x + re, l.take m, 0⟩) := hid (by rw [HR1.out, if_neg (by simp), if_neg g2])
    clear HR1
    go_upto_region 10 with fail
    obtain ⟨w4, hw4⟩ : ∃ w4, w4 = w3.setCell ⟨w.heap.size, 0, none⟩ (.int .i64 (x + re)) := ⟨_, rfl⟩
    rw [← hw4]
    have hp4 : Bx w4 w.heap.size (.int .i64 (x + re)) (.slice (some ⟨g, 0, none⟩) (m + 1) c') := by rw [hw4]; exact HPP.out.set0 _
    have hy4 : Bx w4 (w.heap.size + 1) (.int .i64 0) (.slice none 0 0) := by rw [hw4]; exact HYY.out.far (by simp) _
    have HO4 : Hid (OwnF (w.heap.size + 2) w4 (.slice (some ⟨g, 0, none⟩) (m + 1) c') l) := hid (by rw [hw4]; exact HO3.out.set (by simp) _)
    have HB4 : Hid (Below w.heap.size w w4) := hid (by rw [hw4]; exact HB3.out.setCell (by simp) _)
    have hcp : m ≤ c' := by have := HO4.out.cap HLN.out; omega
    have hcp1 : (m : Int) ≤ (c' : Int) := by omega
    have p0 := hp4.c0
    have p1 := hp4.c1
    have pf0 := hp4.f 0
    have pf1 := hp4.f 1
    have HP4 := hid hp4
    have HY4 := hid hy4
    have km : IntKind.i64.wrap (m : Int) = m := s64_in (by omega) (by omega)
    clear hw4 hp4 hy4 HO3 HB3 HPP HYY t0 t1 t2 t3 r0 r1 rf0 rf1
    go_upto_region 11 with fail
    obtain ⟨w5, hw5⟩ : ∃ w5, w5 = w4.setCell ⟨w.heap.size, 1, none⟩ (.slice (some ⟨g, 0, none⟩) m c') := ⟨_, rfl⟩
    rw [← hw5]
    have hp5 : Bx w5 w.heap.size (.int .i64 (x + re)) (.slice (some ⟨g, 0, none⟩) m c') := by rw [hw5]; exact HP4.out.set1 _
    have hy5 : Bx w5 (w.heap.size + 1) (.int .i64 0) (.slice none 0 0) := by rw [hw5]; exact HY4.out.far (by simp) _
    have HO5 : Hid (OwnF (w.heap.size + 2) w5 (.slice (some ⟨g, 0, none⟩) m c') (l.take m)) := hid (by rw [hw5]; exact (HO4.out.take HLN.out).set (by simp) _)
    have HB5 : Hid (Below w.heap.size w w5) := hid (by rw [hw5]; exact HB4.out.setCell (by simp) _)
    have p0 := hp5.c0
    have p1 := hp5.c1
    have r0 := hy5.c0
    have r1 := hy5.c1
    have rf0 := hy5.f 0
    have rf1 := hy5.f 1
    have HY5 := hid hy5
    clear hw5 hp5 hy5 HO4 HB4 HP4 HY4
    go_wp2
    exact bodyPost_ret (results_cs Tryz.results287 _ _ (w.heap.size + 1) rfl (box2 HY5.out _ _)) rfl (made_ok HE.out ((HO5.out.set (by simp) _).set (by simp) _) ((HB5.out.setCell (by simp) _).setCell (by simp) _))
end Go.Proofs.YtdljneclfgneoaaGreatDoor.Stk

namespace Go.Proofs.YtdljneclfgneoaaGreatDoor.Mod
open Go.RowKit Go.Proofs.YtdljneclfgneoaaGreatDoor.Instr

def errI (b : Bool) (e : Int) : Int := if b then e else 0
theorem errIf_any (b : Bool) (e : Int) (w : World) : Calls Tryz.prog 148 #[.bool b, .int .i64 e] w fun x w' => x = .returned (.int .i64 (errI b e)) ∧ w = w' := by
  cases b
  all_goals
    go_enter Tryz.func148, Tryz.ntmps148
    go_wp2
    go_ret
    exact ⟨rfl, rfl⟩
theorem max_two (x y : Int) : max x y = if y > x then y else x := by split <;> omega
set_option maxHeartbeats 1000000 in
theorem crowded_any (m : Md) (w : World) (hm : ModAt w.heap.size w m) (hf : m.fits) :
    Calls Tryz.prog 149 #[.agg m.v] w fun e w' => e = .returned (.bool m.crowded) ∧ Below w.heap.size w w' := by
  have hb0 := (Below.refl w.heap.size w).alloc (Nat.le_refl _) (.cells m.v 40)
  have HE := hid (crowded_eq m)
  have HR := hid (hm.on hb0).el
  have HB := hid hb0
  have HX := hid (BoxAt.made w m.v 40)
  have hl := hf.el
  have hmx : ∀ (ts : Array TypeId) (t : TypeId) (w : World), Sem.run Tryz.prog (Builtin.max_ ts t #[.int .i64 (m.ty.length : Int), .int .i64 (m.im.length : Int), .int .i64 (m.fu.length : Int), .int .i64 (m.gl.length : Int), .int .i64 (m.ex.length : Int), .int .i64 (m.el.length : Int), .int .i64 (m.da.length : Int)]) w = .ok (.int .i64 m.max7) w := by
    intro ts t w
    unfold Md.max7
    simp only [max_two]
    simp [Builtin.max_, Builtin.max2]
  obtain ⟨L0, hL0⟩ : ∃ L0, m.max7 = L0 := ⟨_, rfl⟩
  rw [hL0] at HE hmx
  unfold Md.v at HR HB HX ⊢
  clear hm hf hb0 hL0
  generalize m.el'.a = a at HR HB HX ⊢
  go_enter Tryz.func149, Tryz.ntmps149
  go_wp2
  clear hmx
  obtain ⟨n, hn⟩ : ∃ n, m.el.length = n := ⟨_, rfl⟩
  have HN := hid hn
  rw [hn] at HX HB HR hl ⊢
  clear hn
  generalize w.alloc (.cells #[.slice m.ty'.a m.ty.length m.ty'.c, .slice m.im'.a m.im.length m.im'.c, .slice m.fu'.a m.fu.length m.fu'.c, .slice m.tb'.a m.tb.length m.tb'.c, .slice m.me'.a m.me.length m.me'.c, .slice m.gl'.a m.gl.length m.gl'.c, .slice m.ex'.a m.ex.length m.ex'.c, .bool m.st, .int .u32 m.sn, .slice a n m.el'.c, .slice m.da'.a m.da.length m.da'.c] 40) = W0 at HX HB HR ⊢
  go_loopw [3, 31] (fun vl vi wr => ∃ (k : Nat) (L : Int), vl = .int .i64 L ∧ vi = .int .i64 k ∧ k ≤ n ∧ Hid (L = longP (m.el.take k) L0) ∧ Hid (Below W0.heap.size W0 wr)) (fun _ vi _ => n - (intOf vi).toNat)
  case atStart => exact ⟨0, L0, rfl, rfl, Nat.zero_le _, rfl, Below.refl _ _⟩
  case round =>
    obtain ⟨k, L, rfl, rfl, hk, HL, HW⟩ := hrel
    by_cases hlt : k < n
    · have hkl : k < m.el.length := by rw [HN.out]; exact hlt
      obtain ⟨b, off, rfl, hb, hc⟩ := Rows.get HR.out hkl
      have HS := hid (show longP (m.el.take (k + 1)) L0 = max L (m.el[k].fs.length : Int) by rw [List.take_succ_eq_append_getElem hkl, longP_snoc, ← HL.out])
      obtain ⟨x, hxe⟩ : ∃ x, m.el[k] = x := ⟨_, rfl⟩
      rw [hxe] at hc HS
      have cc : ∀ j, j < 2 → ∀ v, x.v[j]? = some v → wr.cell? ⟨b, off + k * 2 + j, none⟩ = some v := fun j hj v hv => (HW.out.cell (p := ⟨b, off + k * 2 + j, none⟩) hb).trans (hc j hj v hv)
      have c0 : wr.cell? ⟨b, off + k * 2, none⟩ = some x.l.val := cc 0 (by omega) _ rfl
      have c1 : wr.cell? ⟨b, off + k * 2 + 1, none⟩ = some (.slice x.fa x.fs.length x.fc) := cc 1 (by omega) _ rfl
      have hki : (k : Int) < (n : Int) := by omega
      unfold Lst.val at c0
      have HW' := hid (show Below W0.heap.size W0 (wr.alloc (.cells #[.slice x.l.a x.l.t.len x.l.c, .slice x.fa x.fs.length x.fc] 131)) from HW.out.alloc HW.out.size _)
      clear hxe hc cc hb
      by_cases hgt : (x.fs.length : Int) > L
      · have HS' := hid (show (x.fs.length : Int) = longP (m.el.take (k + 1)) L0 by rw [HS.out]; omega)
        go_wp2
        go_roundw
        case rel => first | exact ⟨k + 1, _, rfl, by go_num, by omega, HS', HW'⟩ | exact ⟨k + 1, _, rfl, by go_num, by omega, hid HS.out.symm, HW'⟩
        case measure => simp [intOf]; omega
      · have HS' := hid (show L = longP (m.el.take (k + 1)) L0 by rw [HS.out]; omega)
        go_wp2
        go_roundw
        case rel => first | exact ⟨k + 1, _, rfl, by go_num, by omega, HS', HW'⟩ | exact ⟨k + 1, _, rfl, by go_num, by omega, hid HS.out.symm, HW'⟩
        case measure => simp [intOf]; omega
    · obtain rfl : k = n := by omega
      have HE' := hid (show m.crowded = (decide (16384 < L) || (decide (1 < m.tb.length) || decide (1 < m.me.length))) by rw [HE.out, HL.out, ← HN.out, List.take_length])
      have x3 := Go.Proofs.YtdljneclfgneoaaGreatDoor.keep HW.out (HX.out 3 _ rfl)
      have x4 := Go.Proofs.YtdljneclfgneoaaGreatDoor.keep HW.out (HX.out 4 _ rfl)
      have HF := hid (HB.out.trans (HW.out.mono HB.out.size))
      clear HR HL HX HE HW HB
      by_cases h1 : 16384 < L
      · have HC := hid (show m.crowded = true by rw [HE'.out, decide_eq_true h1, Bool.true_or])
        clear HE'
        go_wp2
        go_ret
        exact ⟨ret_bool HC.out.symm, HF.out⟩
      · by_cases h2 : (1 : Int) < (m.tb.length : Int)
        · have HC := hid (show m.crowded = true by rw [HE'.out, decide_eq_true (show 1 < m.tb.length by omega), Bool.true_or, Bool.or_true])
          clear HE'
          go_wp2
          go_ret
          exact ⟨ret_bool HC.out.symm, HF.out⟩
        · have HC := hid (show m.crowded = decide (1 < m.me.length) by rw [HE'.out, decide_eq_false h1, decide_eq_false (show ¬ 1 < m.tb.length by omega), Bool.false_or, Bool.false_or])
          clear HE'
          go_wp2
          go_ret
          exact ⟨ret_bool (by rw [HC.out]; simp; omega), HF.out⟩

set_option maxHeartbeats 1000000 in
theorem heavy_any (l : List Da) (a : Option Addr) (n c : Nat) (w : World) (hn : l.length = n) (hr : Rows w.heap.size w a 2 (l.map Da.v)) (hl : n ≤ 140737488351232) :
    Calls Tryz.prog 156 #[.slice a n c] w fun e w' => e = .returned (.bool (decide (1048576 < sumB l))) ∧ Below w.heap.size w w' := by
  have HR := hid hr
  have HN := hid hn
  clear hr hn
  go_enter Tryz.func156, Tryz.ntmps156
  go_wp2
  go_loopw [3, 8] (fun vl vi wr => ∃ (k : Nat) (L : Int), vl = .int .i64 L ∧ vi = .int .i64 k ∧ k ≤ n ∧ 0 ≤ L ∧ L ≤ 1048576 ∧ Hid (L = 1048576 - (sumB (l.take k) : Int)) ∧ Hid (Below w.heap.size w wr)) (fun _ vi _ => n - (intOf vi).toNat)
  case atStart => exact ⟨0, 1048576, rfl, rfl, Nat.zero_le _, by omega, by omega, rfl, Below.refl _ _⟩
  case round =>
    obtain ⟨k, L, rfl, rfl, hk, h0, h1, HL, HW⟩ := hrel
    by_cases hlt : k < n
    · have hkl : k < l.length := by rw [HN.out]; exact hlt
      obtain ⟨b, off, rfl, hb, hc⟩ := Rows.get HR.out hkl
      have HS := hid (sumB_step hkl)
      have HT := hid (sumB_take l (k + 1))
      obtain ⟨x, hxe⟩ : ∃ x, l[k] = x := ⟨_, rfl⟩
      rw [hxe] at hc HS
      have cc : ∀ j, j < 2 → ∀ v, x.v[j]? = some v → wr.cell? ⟨b, off + k * 2 + j, none⟩ = some v := fun j hj v hv => (HW.out.cell (p := ⟨b, off + k * 2 + j, none⟩) hb).trans (hc j hj v hv)
      have c0 : wr.cell? ⟨b, off + k * 2, none⟩ = some x.l.val := cc 0 (by omega) _ rfl
      have c1 : wr.cell? ⟨b, off + k * 2 + 1, none⟩ = some (.slice x.ba x.bs.length x.bc) := cc 1 (by omega) _ rfl
      have hki : (k : Int) < (n : Int) := by omega
      unfold Lst.val at c0
      have HW' := hid (show Below w.heap.size w (wr.alloc (.cells #[.slice x.l.a x.l.t.len x.l.c, .slice x.ba x.bs.length x.bc] 146)) from HW.out.alloc HW.out.size _)
      clear hxe hc cc hb
      by_cases hgt : L < (x.bs.length : Int)
      · have HC := hid (show decide (1048576 < sumB l) = true by rw [decide_eq_true_eq]; have := HS.out; have := HT.out; have := HL.out; omega)
        go_wp2
        go_ret
        exact ⟨ret_bool HC.out.symm, HW'.out⟩
      · have HL' := hid (show L - (x.bs.length : Int) = 1048576 - (sumB (l.take (k + 1)) : Int) by rw [HS.out]; have := HL.out; omega)
        go_wp2
        go_roundw
        case rel => exact ⟨k + 1, _, rfl, by go_num, by omega, by omega, by omega, HL', HW'⟩
        case measure => simp [intOf]; omega
    · obtain rfl : k = n := by omega
      have HC := hid (show decide (1048576 < sumB l) = false by rw [decide_eq_false_iff_not]; have := HL.out; rw [← HN.out, List.take_length] at this; omega)
      go_wp2
      go_ret
      exact ⟨ret_bool HC.out.symm, HW.out⟩
end Go.Proofs.YtdljneclfgneoaaGreatDoor.Mod

namespace Go.Proofs.YtdljneclfgneoaaGreatDoor.Mod
open Go.RowKit Go.Shelf Go.Proofs.YtdljneclfgneoaaGreatDoor.Instr

/-- What is asked of a name: by function g, in whatever world. -/
def Asks (w : World) (g : Nat) (p : ByteArray → Bool) : Prop :=
  (∀ args w, (callFunc g args).run Tryz.prog w = .ok (.enter g args) w) ∧
    ∀ (W : World) (s : ByteArray), s.size ≤ 140737488351232 → Below w.heap.size w W → Calls Tryz.prog g #[.string s] W fun e w' => e = .returned (.bool (p s)) ∧ Below W.heap.size W w'
theorem Asks.on {w w' : World} {g : Nat} {p : ByteArray → Bool} (h : Asks w g p) (hb : Below w.heap.size w w') : Asks w' g p := ⟨h.1, fun W s hs hW => h.2 W s hs (hb.trans (hW.mono hb.size))⟩

set_option maxHeartbeats 400000 in
theorem anyName1_any (x : Imp) (b g : Nat) (p : ByteArray → Bool) (w : World) (hc : w.cell? ⟨b, 0, none⟩ = some (.func (.func g) #[] #[])) (hp : Asks w g p) (h1 : x.mo.size ≤ 140737488351232) (h2 : x.na.size ≤ 140737488351232) :
    Calls Tryz.prog 231 #[.agg #[.string x.mo, .string x.na, .int .i64 x.ty], .pointer (some ⟨b, 0, none⟩)] w fun e w' => e = .returned (.bool (p x.mo || p x.na)) ∧ Below w.heap.size w w' := by
  have eg := hp.1
  have C1 := hid (hp.2 (w.alloc (.cells #[.string x.mo, .string x.na, .int .i64 x.ty] 124)) x.mo h1 ((Below.refl _ _).alloc (Nat.le_refl _) _))
  have C2 := hid (fun W (hb : Below w.heap.size w W) => hp.2 W x.na h2 hb)
  have HC := hid (show ∀ w1, Below w.heap.size w w1 → w1.cell? ⟨b, 0, none⟩ = some (.func (.func g) #[] #[]) from fun w1 hb => Go.Proofs.YtdljneclfgneoaaGreatDoor.keep hb hc)
  have hbl := World.block_lt_of_cell? w _ hc
  obtain ⟨q, hq⟩ : ∃ q, p x.mo = q := ⟨_, rfl⟩
  rw [hq] at C1 ⊢
  clear hq hp h1 h2
  cases q with
  | true =>
    go_enter Tryz.func231, Tryz.ntmps231
    go_wp2_with (go_at_fn g; refine C1.out.mono ?_; rintro e w1 ⟨rfl, hb1⟩)
    go_ret
    exact ⟨rfl, thenB ((Below.refl _ _).alloc (Nat.le_refl _) _) hb1⟩
  | false =>
    rw [Bool.false_or]
    obtain ⟨r, hr⟩ : ∃ r, p x.na = r := ⟨_, rfl⟩
    rw [hr] at C2 ⊢
    clear hr
    go_enter Tryz.func231, Tryz.ntmps231
    go_wp2_with fail
    refine (Calls.mono (R' := fun e w1 => (e = .returned (.bool false) ∧ Below w.heap.size w w1) ∧ w1.cell? ⟨b, 0, none⟩ = some (.func (.func g) #[] #[]) ∧ w1.cell? ⟨w.heap.size, 1, none⟩ = some (.string x.na)) C1.out ?_).mono ?_
    · rintro e w1 ⟨rfl, hb1⟩
      have hB := thenB ((Below.refl _ _).alloc (Nat.le_refl _) _) hb1
      exact ⟨⟨rfl, hB⟩, HC.out _ hB, Go.Proofs.YtdljneclfgneoaaGreatDoor.keep hb1 (by go_simp)⟩
    rintro e w1 ⟨⟨rfl, hb1⟩, hc1, hc2⟩
    have C3 := hid (C2.out w1 hb1)
    clear hc C2
    go_wp2_with (go_at_fn g; refine C3.out.mono ?_; rintro e w2 ⟨rfl, hb2⟩)
    go_ret
    exact ⟨rfl, thenB hb1 hb2⟩
set_option maxHeartbeats 400000 in
theorem anyName2_any (x : Ex) (b g : Nat) (p : ByteArray → Bool) (w : World) (hc : w.cell? ⟨b, 0, none⟩ = some (.func (.func g) #[] #[])) (hp : Asks w g p) (h1 : x.na.size ≤ 140737488351232) :
    Calls Tryz.prog 232 #[.agg #[.string x.na, .int .i64 x.k, .int .u32 x.i], .pointer (some ⟨b, 0, none⟩)] w fun e w' => e = .returned (.bool (p x.na)) ∧ Below w.heap.size w w' := by
  have eg := hp.1
  have C1 := hid (hp.2 (w.alloc (.cells #[.string x.na, .int .i64 x.k, .int .u32 x.i] 45)) x.na h1 ((Below.refl _ _).alloc (Nat.le_refl _) _))
  have hbl := World.block_lt_of_cell? w _ hc
  clear hp h1
  go_enter Tryz.func232, Tryz.ntmps232
  go_wp2_with (go_at_fn g; refine C1.out.mono ?_; rintro e w1 ⟨rfl, hb1⟩)
  go_ret
  exact ⟨rfl, thenB ((Below.refl _ _).alloc (Nat.le_refl _) _) hb1⟩

theorem enters1 : ∀ args w, (callFunc 231 args).run Tryz.prog w = .ok (.enter 231 args) w := enters_of Tryz.func231 (by kernel_rfl) rfl
theorem enters2 : ∀ args w, (callFunc 232 args).run Tryz.prog w = .ok (.enter 232 args) w := enters_of Tryz.func232 (by kernel_rfl) rfl
set_option maxHeartbeats 1000000 in
theorem anyName_any (m : Md) (g : Nat) (p : ByteArray → Bool) (w : World) (hm : ModAt w.heap.size w m) (hf : m.fits) (hp : Asks w g p) :
    Calls Tryz.prog 153 #[.agg m.v, .func (.func g) #[] #[]] w fun e w' => e = .returned (.bool (m.anyName p)) ∧ Below w.heap.size w w' := by
  have B1 := hid (((Below.refl w.heap.size w).alloc (Nat.le_refl _) (.cells m.v 40)).alloc (by simp) (.cells #[.func (.func g) #[] #[]] 240))
  have hbx : BoxAt ((w.alloc (.cells m.v 40)).alloc (.cells #[.func (.func g) #[] #[]] 240)) w.heap.size m.v := (BoxAt.made w m.v _).keep ((Below.refl _ _).alloc (Nat.le_refl _) _)
  have hcb : ((w.alloc (.cells m.v 40)).alloc (.cells #[.func (.func g) #[] #[]] 240)).cell? ⟨w.heap.size + 1, 0, none⟩ = some (.func (.func g) #[] #[]) := by go_simp
  have C1 := hid (any_im m.im m.im'.a m.im.length m.im'.c ((w.alloc (.cells m.v 40)).alloc (.cells #[.func (.func g) #[] #[]] 240)) rfl (hm.on B1.out).im hf.im
    231 #[.pointer (some ⟨w.heap.size + 1, 0, none⟩)] enters1 (fun x => p x.mo || p x.na) (fun W x hx hW => anyName1_any x _ g p W (Go.Proofs.YtdljneclfgneoaaGreatDoor.keep hW hcb) ((hp.on B1.out).on hW) (hf.iS x hx).1 (hf.iS x hx).2))
  have C2 := hid (fun (W : World) (hW : Below ((w.alloc (.cells m.v 40)).alloc (.cells #[.func (.func g) #[] #[]] 240)).heap.size ((w.alloc (.cells m.v 40)).alloc (.cells #[.func (.func g) #[] #[]] 240)) W) =>
    any_ex m.ex m.ex'.a m.ex.length m.ex'.c W rfl ((hm.on B1.out).on hW).ex hf.ex
      232 #[.pointer (some ⟨w.heap.size + 1, 0, none⟩)] enters2 (fun x => p x.na) (fun W' x hx hW' => anyName2_any x _ g p W' (Go.Proofs.YtdljneclfgneoaaGreatDoor.keep hW' (Go.Proofs.YtdljneclfgneoaaGreatDoor.keep hW hcb)) (((hp.on B1.out).on hW).on hW') (hf.eS x hx)))
  have HX := hid (fun (W : World) (hW : Below ((w.alloc (.cells m.v 40)).alloc (.cells #[.func (.func g) #[] #[]] 240)).heap.size ((w.alloc (.cells m.v 40)).alloc (.cells #[.func (.func g) #[] #[]] 240)) W) => (hbx.keep hW) 6 _ rfl)
  have HE : Hid (m.anyName p = ((m.im.any fun i => p i.mo || p i.na) || (m.ex.any fun e => p e.na))) := rfl
  obtain ⟨q, hq⟩ : ∃ q, (m.im.any fun x => p x.mo || p x.na) = q := ⟨_, rfl⟩
  rw [hq] at C1 HE
  unfold Md.v at C1 C2 B1 HX ⊢
  clear hq hcb hbx hm hf hp
  cases q with
  | true =>
    have HE' : Hid (m.anyName p = true) := by show _ = _; rw [HE.out, Bool.true_or]
    clear HE
    go_enter Tryz.func153, Tryz.ntmps153
    go_wp2_with fail
    refine C1.out.mono ?_
    rintro e w1 ⟨rfl, hb1⟩
    clear C1 C2 HX
    go_wp2
    go_ret
    exact ⟨ret_bool HE'.out.symm, B1.out.trans (hb1.mono B1.out.size)⟩
  | false =>
    obtain ⟨r, hr⟩ : ∃ r, (m.ex.any fun x => p x.na) = r := ⟨_, rfl⟩
    have HE' : Hid (m.anyName p = r) := by show _ = _; rw [HE.out, Bool.false_or]; exact hr
    rw [hr] at C2
    clear HE hr
    go_enter Tryz.func153, Tryz.ntmps153
    go_wp2_with fail
    refine C1.out.mono ?_
    rintro e w1 ⟨rfl, hb1⟩
    have hx := HX.out w1 hb1
    have C3 := hid (C2.out w1 hb1)
    clear C1 C2 HX
    go_wp2_with fail
    refine C3.out.mono ?_
    rintro e w2 ⟨rfl, hb2⟩
    clear C3 hx
    go_wp2
    go_ret
    exact ⟨ret_bool HE'.out.symm, B1.out.trans ((thenB hb1 hb2).mono B1.out.size)⟩
end Go.Proofs.YtdljneclfgneoaaGreatDoor.Mod

namespace Go.Proofs.YtdljneclfgneoaaGreatDoor.Kind
open Go.RowKit

theorem eqType (a b c d : Int) (w : World) : (Op.equalIn 10000 26 (.agg #[.int .i64 a, .int .i64 b]) (.agg #[.int .i64 c, .int .i64 d])).run Tryz.prog w = .ok (a == c && b == d) w := by
  have u3 := Tryz.underlying3
  have a3 := Tryz.isAgg3
  have z3 := Tryz.sizeOf3
  have hS : Tryz.prog.underlying 26 = some (.struct (Tryz.prog.fieldsOf 26)) := by kernel_rfl
  have hp : Tryz.prog.stoodInHeld 26 = false := by kernel_rfl
  rw [show (10000 : Nat) = 9999 + 1 from rfl, run_equalIn_agg w 9999 26 _ _ hS hp]
  simp only [Program.fieldsOf, Tryz.underlying26]
  go_simp
  by_cases h1 : a = c <;> by_cases h2 : b = d <;> simp [h1, h2]
theorem guardType (op : BinOp) (x y : Operand) (xs ys : Array Value) (w : World) : (eqGuard op 26 x y (.agg xs) (.agg ys)).run Tryz.prog w = .ok () w :=
  run_eqGuard_agg w op _ x y xs ys (by kernel_rfl)
theorem eqLim (a b c d : Int) (s t : Bool) (w : World) : (Op.equalIn 10000 127 (.agg #[.int .u32 a, .int .u32 b, .bool s]) (.agg #[.int .u32 c, .int .u32 d, .bool t])).run Tryz.prog w = .ok (a == c && b == d && s == t) w := by
  have u3 := Tryz.underlying36
  have a3 := Tryz.isAgg36
  have z3 := Tryz.sizeOf36
  have u4 := Tryz.underlying4
  have a4 := Tryz.isAgg4
  have z4 := Tryz.sizeOf4
  have hS : Tryz.prog.underlying 127 = some (.struct (Tryz.prog.fieldsOf 127)) := by kernel_rfl
  have hp : Tryz.prog.stoodInHeld 127 = false := by kernel_rfl
  rw [show (10000 : Nat) = 9999 + 1 from rfl, run_equalIn_agg w 9999 127 _ _ hS hp]
  simp only [Program.fieldsOf, Tryz.underlying127]
  go_simp
  by_cases h1 : a = c <;> by_cases h2 : b = d <;> by_cases h3 : s = t <;> simp [h1, h2, h3]
theorem guardLim (op : BinOp) (x y : Operand) (xs ys : Array Value) (w : World) : (eqGuard op 127 x y (.agg xs) (.agg ys)).run Tryz.prog w = .ok () w :=
  run_eqGuard_agg w op _ x y xs ys (by kernel_rfl)
end Go.Proofs.YtdljneclfgneoaaGreatDoor.Kind

namespace Go.Proofs.YtdljneclfgneoaaGreatDoor.Mod
open Go.RowKit Go.Proofs.YtdljneclfgneoaaGreatDoor.Instr

theorem any_take {α : Type} {l : List α} {p : α → Bool} {k : Nat} (hk : k < l.length) (h : ∀ j (hj : j < l.length), j < k → p l[j] = false) (hx : p l[k] = false) : ∀ j (hj : j < l.length), j < k + 1 → p l[j] = false := by
  intro j hj hjk
  by_cases e : j = k
  · subst e; exact hx
  · exact h j hj (by omega)
theorem any_none {α : Type} {l : List α} {p : α → Bool} (h : ∀ j (hj : j < l.length), p l[j] = false) : l.any p = false := by
  rw [List.any_eq_false]
  intro x hx
  obtain ⟨j, hj, rfl⟩ := List.mem_iff_getElem.1 hx
  rw [h j hj]; simp
theorem any_some {α : Type} {l : List α} {p : α → Bool} {k : Nat} (hk : k < l.length) (h : p l[k] = true) : l.any p = true := List.any_eq_true.2 ⟨_, List.getElem_mem hk, h⟩
theorem none_upto {α : Type} (l : List α) (p : α → Bool) : ∀ j (hj : j < l.length), j < 0 → p l[j] = false := fun _ _ h => absurd h (Nat.not_lt_zero _)
/-- Types, types' numbers and locals are as they may be. -/
def Md.numbers (m : Md) : Bool := !(m.ty.any wrongT || (m.im.any wrongI || m.fu.any wrongF))
end Go.Proofs.YtdljneclfgneoaaGreatDoor.Mod

namespace Go.Proofs.YtdljneclfgneoaaGreatDoor.Leb
open Go.RowKit

theorem m4 : (max (0 : Int) 4).toNat = 4 := rfl
theorem m0 : (max (0 : Int) (-3)).toNat = 0 := rfl
end Go.Proofs.YtdljneclfgneoaaGreatDoor.Leb

namespace Go.Proofs.YtdljneclfgneoaaGreatDoor.validBodies
theorem facF : false = Tryz.pinned.checked.prog.looks [] := by kernel_rfl
end Go.Proofs.YtdljneclfgneoaaGreatDoor.validBodies
