/-
  STACK: the document's Dead, Enter by contract (tools/gen_stkref.py).
-/
import Derived.Test.YtnfpfagojeieeaaStkRefPush
import Derived.Test.YtnfpfagojeieeaaStkDead
namespace Go.Proofs.Ytnfpfagojeieeaa.Stk
open Go.RowKit
set_option linter.unusedVariables false

/-- A store into a stand's box turns no row of frames. -/
theorem OwnF.apart {base : Nat} {w : World} {v : Value} {l : List Fr} {g : Nat} {x y : Value} (h : OwnF base w v l) (hx : Bx w g x y) (j : Nat) (u : Value) : OwnF base (w.setCell ⟨g, j, none⟩ u) v l := by
  refine ⟨⟨h.row.1, ?_⟩, h.len⟩
  rcases h.row.2 with h0 | ⟨g', cap, cur, hv, hg, hh, rest⟩
  · exact .inl h0
  · refine .inr ⟨g', cap, cur, hv, hg, (Below.heap_setCell w ⟨g, j, none⟩ u g' (fun e => ?_)).trans hh, rest⟩
    have e' : g' = g := e
    unfold Bx at hx
    rw [← e', hh] at hx
    simp at hx
theorem Bx.grown {W W' : World} {g : Nat} {x y : Value} {row : Option Nat} (h : Bx W g x y) (hg : W.grownBy W' row) (hne : ∀ k, row = some k → k ≠ g) : Bx W' g x y :=
  (hg.block g h.lt (fun e => hne g e.symm rfl)).trans h
/-- All four cells of a frame are turned. -/
theorem OwnF.store4 {base : Nat} {w : World} {g n c : Nat} {l : List Fr} (h : OwnF base w (.slice (some ⟨g, 0, none⟩) n c) l) (hn : l.length = n) {k : Nat} (hk : k < l.length) (f : Fr) :
    OwnF base ((((w.setCell ⟨g, k * 4, none⟩ (.int .i64 f.op)).setCell ⟨g, k * 4 + 1, none⟩ (.int .i64 f.ba)).setCell ⟨g, k * 4 + 2, none⟩ (.int .i64 f.re)).setCell ⟨g, k * 4 + 3, none⟩ (.bool f.de)) (.slice (some ⟨g, 0, none⟩) n c) (l.set k f) := by
  obtain ⟨x, hx⟩ : ∃ x, l[k] = x := ⟨_, rfl⟩
  have h0 := h.store hn hk (q := 0) (u := .int .i64 f.op) (f' := ⟨f.op, x.ba, x.re, x.de⟩) (by omega) (by rw [hx]; rfl)
  have h1 := h0.store (by simpa using hn) (k := k) (q := 1) (u := .int .i64 f.ba) (f' := ⟨f.op, f.ba, x.re, x.de⟩) (by simpa using hk) (by omega) (by simp [Fr.v])
  have h2 := h1.store (by simpa using hn) (k := k) (q := 2) (u := .int .i64 f.re) (f' := ⟨f.op, f.ba, f.re, x.de⟩) (by simpa using hk) (by omega) (by simp [Fr.v])
  have h3 := h2.store (by simpa using hn) (k := k) (q := 3) (u := .bool f.de) (f' := ⟨f.op, f.ba, f.re, f.de⟩) (by simpa using hk) (by omega) (by simp [Fr.v])
  rw [List.set_set, List.set_set, List.set_set] at h3
  exact h3
set_option maxRecDepth 100000 in
set_option maxHeartbeats 4000000 in
theorem refDead_any (h : Int) (a : Option Addr) (n c : Nat) (l : List Fr) (w : World) (hs : StAt w.heap.size w a n c l) :
    Calls Try.prog 14 #[.agg #[.int .i64 h, .slice a n c]] w fun e w' => MadeP w (deadR h l) e w' := by
  obtain ⟨W0, hW0, hb, hx, hy, hsz⟩ := two_boxes w (.int .i64 h) (.slice a n c)
  have hsW := hs.on hb
  have CC := hid (refCheck_any h a n c l W0 hsW)
  have c0 := hx.c0
  have c1 := hx.c1
  have HB := hid hb
  have HX := hid hx
  have HY := hid hy
  have HW := hid hW0
  have HSZ := hid hsz
  have HS := hid hs
  obtain ⟨r, hr⟩ : ∃ r, r = deadR h l := ⟨_, rfl⟩
  rw [← hr]
  clear hb hx hy hW0 hsz hsW hs
  cases hv : valid h l with
  | false =>
    have HE : Hid (r = bad 2) := hid (by rw [hr]; simp [deadR, hv])
    have hc : chk h l = 2 := by simp [chk, hv]
    rw [hc] at CC
    clear hc hr hv
    go_enter Try.func14, Try.ntmps14
    go_upto_region 1 with fail
    rw [← HW.out]
    go_wp2_with fail
    refine CC.out.mono ?_
    rintro e w1 ⟨rfl, hb1⟩
    have hx1 := HX.out.below hb1
    have hy1 := HY.out.below hb1
    have hbw := HB.out.trans (hb1.mono HB.out.size)
    have HZ1 := hid (show w.heap.size + 2 ≤ w1.heap.size by have := hb1.size; have := HSZ.out; omega)
    have HSA := hid (HS.out.on hbw)
    have p0 := hx1.c0
    have p1 := hx1.c1
    have r0 := hy1.c0
    have r1 := hy1.c1
    have rf0 := hy1.f 0
    have rf1 := hy1.f 1
    have HX1 := hid hx1
    have HY1 := hid hy1
    have HB1 := hid hbw
    clear hb1 hx1 hy1 hbw c0 c1 CC HX HY HB HSZ HW
    go_wp2
    exact bodyPost_ret (results_cs Try.results14 _ _ (w.heap.size + 1) rfl (box2 HY1.out _ _)) rfl (made_bad (h := 0) (z := 0) (v := .bool true) ((HB1.out.setCell (by simp) _).setCell (by simp) _) HE.out)
  | true =>
    have hc : chk h l = 0 := by simp [chk, hv]
    rw [hc] at CC
    have HV := hid hv
    have HR := hid hr
    have HLN := hid HS.out.len
    obtain ⟨hh0, hh1, hne, hle⟩ := valid_yes hv
    have hn0 : 0 < n := by rw [← HLN.out]; exact List.length_pos_iff.2 hne
    have HLE := hid (show n ≤ 1000 by rw [← HLN.out]; exact hle)
    have hfi := lastF_fine hv
    clear hc hr hv hne hle
    obtain ⟨f, hf⟩ : ∃ f, lastF l = f := ⟨_, rfl⟩
    rw [hf] at hfi
    obtain ⟨op, ba, re, de⟩ := f
    obtain ⟨hb0, hb1', hr0, hr1⟩ := hfi
    dsimp only at hb0 hb1' hr0 hr1
    obtain ⟨m, rfl⟩ : ∃ m, n = m + 1 := ⟨n - 1, by omega⟩
    have hm : m ≤ 1000 := by have := HLE.out; omega
    have HE : Hid (r = ⟨ba, l.set m ⟨op, ba, re, true⟩, 0⟩) := hid (by rw [HR.out]; simp only [deadR, HV.out, hf, HLN.out]; rfl)
    have km : IntKind.i64.wrap (m : Int) = m := s64_in (by omega) (by omega)
    have hm0 : (m : Int) < (m : Int) + 1 := by omega
    clear HR HV hh0 hh1 hb0 hb1' hr0 hr1
    go_enter Try.func14, Try.ntmps14
    go_upto_region 1 with fail
    rw [← HW.out]
    go_wp2_with fail
    refine CC.out.mono ?_
    rintro e w1 ⟨rfl, hb1⟩
    have hx1 := HX.out.below hb1
    have hy1 := HY.out.below hb1
    have hbw := HB.out.trans (hb1.mono HB.out.size)
    have HZ1 := hid (show w.heap.size + 2 ≤ w1.heap.size by have := hb1.size; have := HSZ.out; omega)
    have HSA := hid (HS.out.on hbw)
    have p0 := hx1.c0
    have p1 := hx1.c1
    have r0 := hy1.c0
    have r1 := hy1.c1
    have rf0 := hy1.f 0
    have rf1 := hy1.f 1
    have HX1 := hid hx1
    have HY1 := hid hy1
    have HB1 := hid hbw
    clear hb1 hx1 hy1 hbw c0 c1 CC HX HY HB HSZ HW
    have CLA := hid (last_any h a (m + 1) c l w1 HSA.out hn0)
    rw [hf] at CLA
    dsimp only at CLA
    go_wp2_with fail
    refine CLA.out.mono ?_
    rintro e w2 ⟨rfl, hb2⟩
    have hp2 := HX1.out.below hb2
    have hy2 := HY1.out.below hb2
    have HB2 := hid (HB1.out.trans (hb2.mono HB1.out.size))
    have HSA2 := hid (HSA.out.on hb2)
    have HZ2 := hid (show w.heap.size + 2 ≤ w2.heap.size by have := hb2.size; have := HZ1.out; omega)
    have p0 := hp2.c0
    have p1 := hp2.c1
    have HP2 := hid hp2
    have HY2 := hid hy2
    clear hp2 hy2 hb2 CLA HX1 HY1 HB1 HSA r0 r1 rf0 rf1
    go_upto_region 4 with fail
    obtain ⟨w3, hw3⟩ : ∃ w3, w3 = w2.alloc (.cells #[.int .i64 op, .int .i64 ba, .int .i64 re, .bool de] 46) := ⟨_, rfl⟩
    rw [← hw3]
    have hA : Below w2.heap.size w2 w3 := by rw [hw3]; exact (Below.refl _ _).alloc (Nat.le_refl _) _
    have hfb : w3.heap[w2.heap.size]? = some (.cells #[.int .i64 op, .int .i64 ba, .int .i64 re, .bool de] 46 (0, 0)) := by rw [hw3]; exact heap_alloc_new w2 _
    have hp3 := HP2.out.below hA
    have hy3 := HY2.out.below hA
    have HB3 := hid (HB2.out.trans (hA.mono HB2.out.size))
    have HSA3 := hid (HSA2.out.on hA)
    have HZ3 := hid (show w.heap.size + 2 ≤ w3.heap.size by have := hA.size; have := HZ2.out; omega)
    have HF3 := hid (Array.getElem?_eq_some_iff.1 hfb).1
    have HGW := HZ2
    have p0 := hp3.c0
    have p1 := hp3.c1
    have r0 := hy3.c0
    have r1 := hy3.c1
    have rf0 := hy3.f 0
    have rf1 := hy3.f 1
    have f0 : w3.cell? ⟨w2.heap.size, 0, none⟩ = some (.int .i64 op) := cell_of_row w3 _ 0 _ _ _ hfb
    have f1 : w3.cell? ⟨w2.heap.size, 1, none⟩ = some (.int .i64 ba) := cell_of_row w3 _ 1 _ _ _ hfb
    have f2 : w3.cell? ⟨w2.heap.size, 2, none⟩ = some (.int .i64 re) := cell_of_row w3 _ 2 _ _ _ hfb
    have f3 : w3.cell? ⟨w2.heap.size, 3, none⟩ = some (.bool de) := cell_of_row w3 _ 3 _ _ _ hfb
    have HFB := hid hfb
    have HP3 := hid hp3
    have HY3 := hid hy3
    clear hw3 hA hfb hp3 hy3 HP2 HY2 HB2 HSA2
    obtain ⟨gf, hgf⟩ : ∃ gf, gf = w2.heap.size := ⟨_, rfl⟩
    rw [← hgf] at f0 f1 f2 f3 HFB HF3 HGW ⊢
    clear hgf
    have CWI := hid (with_any h a (m + 1) c ba a (m + 1) c l w3 HLN.out HSA3.out.rows (by omega))
    go_wp2_with fail
    refine CWI.out.mono ?_
    rintro e w4 ⟨a2, c2, rfl, ho2, hb2⟩
    obtain ⟨a3, c3, hv3, hst⟩ := ho2.slice (by rw [HLN.out]; omega)
    rw [HLN.out] at hv3
    obtain ⟨g, hg3, hgb⟩ : ∃ g, a2 = some ⟨g, 0, none⟩ ∧ w3.heap.size ≤ g ∧ g < w4.heap.size := by
      rcases ho2.row.2 with ⟨h1, h0⟩ | ⟨g, cap, cur, h1, hg, hh, _⟩
      · rw [List.length_map, HLN.out] at h0; omega
      · simp only [Value.slice.injEq] at h1
        exact ⟨g, h1.1, hg, (Array.getElem?_eq_some_iff.1 hh).1⟩
    subst hg3
    obtain ⟨hg1, hg2⟩ := hgb
    have hfb4 := (hb2.block _ HF3.out).trans HFB.out
    have HY4 := hid (HY3.out.below hb2)
    have HO4 := hid ho2
    have HB4 := hid (HB3.out.trans (hb2.mono HB3.out.size))
    have HFB4 := hid hfb4
    have HGB := hid (And.intro hg1 hg2)
    have f3 : w4.cell? ⟨gf, 3, none⟩ = some (.bool de) := cell_of_row w4 _ 3 _ _ _ hfb4
    have z3 := frozen_of_row w4 gf 3 _ _ hfb4
    have HFL := hid (show gf < w4.heap.size from Nat.lt_of_lt_of_le HF3.out hb2.size)
    clear hv3 hst hfb4 ho2 hb2 hg1 hg2 CWI HFB HSA3 HP3 HY3 HB3 f0 f1 f2 r0 r1 rf0 rf1 p0 p1
    go_upto_region 5 with fail
    obtain ⟨w5, hw5⟩ : ∃ w5, w5 = w4.alloc (.cells #[.int .i64 ba, .slice (some ⟨g, 0, none⟩) (m + 1) c2] 24) := ⟨_, rfl⟩
    rw [← hw5]
    have hA : Below w4.heap.size w4 w5 := by rw [hw5]; exact (Below.refl _ _).alloc (Nat.le_refl _) _
    have ht5 : Bx w5 w4.heap.size (.int .i64 ba) (.slice (some ⟨g, 0, none⟩) (m + 1) c2) := by rw [hw5]; exact Bx.made _ _ _
    have hs5 : w5.heap.size = w4.heap.size + 1 := by rw [hw5]; simp
    obtain ⟨gt, hgt⟩ : ∃ gt, gt = w4.heap.size := ⟨_, rfl⟩
    have HO5 := hid (HO4.out.below hA)
    have HB5 := hid (HB4.out.trans (hA.mono HB4.out.size))
    have HY5 := hid (HY4.out.below hA)
    have hfb5 := (hA.block _ HFL.out).trans HFB4.out
    rw [← hgt] at ht5 hs5 ⊢
    have HT5 := hid ht5
    have HFB5 := hid hfb5
    have HNE := hid (show gf < gt ∧ g < gt ∧ w.heap.size + 1 < gf ∧ w.heap.size + 1 < g ∧ gf ≠ g from ⟨by have := HFL.out; omega, by have := HGB.out; omega, by have := HGW.out; omega, by have := HGB.out; have := HZ3.out; omega, by have := HGB.out; have := HF3.out; omega⟩)
    have f3 : w5.cell? ⟨gf, 3, none⟩ = some (.bool de) := cell_of_row w5 _ 3 _ _ _ hfb5
    have z3 := frozen_of_row w5 gf 3 _ _ hfb5
    clear hw5 hA ht5 hfb5 HO4 HB4 HY4 HFB4
    go_upto_region 6 with fail
    obtain ⟨w6, hw6⟩ : ∃ w6, w6 = w5.setCell ⟨gf, 3, none⟩ (.bool true) := ⟨_, rfl⟩
    rw [← hw6]
    obtain ⟨e1, e2, e3, e4, e5⟩ := HNE.out
    have hfb6 : w6.heap[gf]? = some (.cells #[.int .i64 op, .int .i64 ba, .int .i64 re, .bool true] 46 (0, 0)) := by rw [hw6]; exact heap_setCell_same w5 gf 3 _ _ _ HFB5.out
    have HO6 : Hid (OwnF w3.heap.size w6 (.slice (some ⟨g, 0, none⟩) (m + 1) c2) l) := hid (by rw [hw6]; exact HO5.out.set (by show gf < _; exact HF3.out) _)
    have HB6 : Hid (Below w.heap.size w w6) := hid (by rw [hw6]; exact HB5.out.setCell (by show _ ≤ gf; omega) _)
    have hy6 : Bx w6 (w.heap.size + 1) (.int .i64 0) (.slice none 0 0) := by rw [hw6]; exact HY5.out.far (by show _ ≠ gf; omega) _
    have ht6 : Bx w6 gt (.int .i64 ba) (.slice (some ⟨g, 0, none⟩) (m + 1) c2) := by rw [hw6]; exact HT5.out.far (by show _ ≠ gf; omega) _
    have f0 : w6.cell? ⟨gf, 0, none⟩ = some (.int .i64 op) := cell_of_row w6 _ 0 _ _ _ hfb6
    have f1 : w6.cell? ⟨gf, 1, none⟩ = some (.int .i64 ba) := cell_of_row w6 _ 1 _ _ _ hfb6
    have f2 : w6.cell? ⟨gf, 2, none⟩ = some (.int .i64 re) := cell_of_row w6 _ 2 _ _ _ hfb6
    have f3 : w6.cell? ⟨gf, 3, none⟩ = some (.bool true) := cell_of_row w6 _ 3 _ _ _ hfb6
    obtain ⟨t0, t1, t2, t3⟩ := HO6.out.cells HLN.out (k := m) (by have := HLN.out; omega)
    have z0 := HO6.out.frozen HLN.out (m * 4)
    have z1 := HO6.out.frozen HLN.out (m * 4 + 1)
    have z2 := HO6.out.frozen HLN.out (m * 4 + 2)
    have z3 := HO6.out.frozen HLN.out (m * 4 + 3)
    have p0 := ht6.c0
    have p1 := ht6.c1
    have HY6 := hid hy6
    have HT6 := hid ht6
    clear hw6 hfb6 hy6 ht6 HO5 HB5 HY5 HT5 HFB5 e1 e2 e3 e4 e5 hs5 hgt
    go_upto_region 7 with fail
    obtain ⟨w7, hw7⟩ : ∃ w7, w7 = (((w6.setCell ⟨g, m * 4, none⟩ (.int .i64 op)).setCell ⟨g, m * 4 + 1, none⟩ (.int .i64 ba)).setCell ⟨g, m * 4 + 2, none⟩ (.int .i64 re)).setCell ⟨g, m * 4 + 3, none⟩ (.bool true) := ⟨_, rfl⟩
    rw [← hw7]
    obtain ⟨e1, e2, e3, e4, e5⟩ := HNE.out
    have hy7 : Bx w7 (w.heap.size + 1) (.int .i64 0) (.slice none 0 0) := by rw [hw7]; exact (((HY6.out.far (by show _ ≠ g; omega) _).far (by show _ ≠ g; omega) _).far (by show _ ≠ g; omega) _).far (by show _ ≠ g; omega) _
    have ht7 : Bx w7 gt (.int .i64 ba) (.slice (some ⟨g, 0, none⟩) (m + 1) c2) := by rw [hw7]; exact (((HT6.out.far (by show _ ≠ g; omega) _).far (by show _ ≠ g; omega) _).far (by show _ ≠ g; omega) _).far (by show _ ≠ g; omega) _
    have HO2 : Hid (OwnF w3.heap.size w7 (.slice (some ⟨g, 0, none⟩) (m + 1) c2) (l.set m ⟨op, ba, re, true⟩)) := hid (by rw [hw7]; exact HO6.out.store4 HLN.out (by have := HLN.out; omega) ⟨op, ba, re, true⟩)
    have HB7 : Hid (Below w.heap.size w w7) := hid (by rw [hw7]; exact (((HB6.out.setCell (by show _ ≤ g; omega) _).setCell (by show _ ≤ g; omega) _).setCell (by show _ ≤ g; omega) _).setCell (by show _ ≤ g; omega) _)
    have p0 := ht7.c0
    have p1 := ht7.c1
    have r0 := hy7.c0
    have r1 := hy7.c1
    have rf0 := hy7.f 0
    have rf1 := hy7.f 1
    have HY7 := hid hy7
    clear hw7 hy7 ht7 HO6 HB6 HY6 HT6 e1 e2 e3 e4 e5 f0 f1 f2 f3 t0 t1 t2 t3 z0 z1 z2 z3
    go_wp2
    exact bodyPost_ret (results_cs Try.results14 _ _ (w.heap.size + 1) rfl (box2 HY7.out _ _)) rfl (made_ok HE.out ((HO2.out.set (by show w.heap.size + 1 < _; have := HZ3.out; omega) _).set (by show w.heap.size + 1 < _; have := HZ3.out; omega) _ |>.mono (by have := HZ3.out; omega)) ((HB7.out.setCell (by simp) _).setCell (by simp) _))
set_option maxRecDepth 100000 in
set_option maxHeartbeats 4000000 in
theorem refEnter_any (h : Int) (a : Option Addr) (n c : Nat) (l : List Fr) (op re : Int) (w : World) (hs : StAt w.heap.size w a n c l) :
    Calls Try.prog 16 #[.agg #[.int .i64 h, .slice a n c], .int .i64 op, .int .i64 re] w fun e w' => MadeP w (enterR h l op re) e w' := by
  obtain ⟨W0, hW0, hb, hx, hy, hsz⟩ := two_boxes w (.int .i64 h) (.slice a n c)
  have hsW := hs.on hb
  have CC := hid (refCheck_any h a n c l W0 hsW)
  have c0 := hx.c0
  have c1 := hx.c1
  have HB := hid hb
  have HX := hid hx
  have HY := hid hy
  have HW := hid hW0
  have HSZ := hid hsz
  have HS := hid hs
  obtain ⟨r, hr⟩ : ∃ r, r = enterR h l op re := ⟨_, rfl⟩
  rw [← hr]
  clear hb hx hy hW0 hsz hsW hs
  cases hv : valid h l with
  | false =>
    have HE : Hid (r = bad 2) := hid (by rw [hr]; simp [enterR, hv])
    have hc : chk h l = 2 := by simp [chk, hv]
    rw [hc] at CC
    clear hc hr hv
    go_enter Try.func16, Try.ntmps16
    go_upto_region 1 with fail
    rw [← HW.out]
    go_wp2_with fail
    refine CC.out.mono ?_
    rintro e w1 ⟨rfl, hb1⟩
    have hx1 := HX.out.below hb1
    have hy1 := HY.out.below hb1
    have hbw := HB.out.trans (hb1.mono HB.out.size)
    have HZ1 := hid (show w.heap.size + 2 ≤ w1.heap.size by have := hb1.size; have := HSZ.out; omega)
    have HSA := hid (HS.out.on hbw)
    have p0 := hx1.c0
    have p1 := hx1.c1
    have r0 := hy1.c0
    have r1 := hy1.c1
    have rf0 := hy1.f 0
    have rf1 := hy1.f 1
    have HX1 := hid hx1
    have HY1 := hid hy1
    have HB1 := hid hbw
    clear hb1 hx1 hy1 hbw c0 c1 CC HX HY HB HSZ HW
    go_wp2
    exact bodyPost_ret (results_cs Try.results16 _ _ (w.heap.size + 1) rfl (box2 HY1.out _ _)) rfl (made_bad (h := 0) (z := 0) (v := .bool true) ((HB1.out.setCell (by simp) _).setCell (by simp) _) HE.out)
  | true =>
    have hc : chk h l = 0 := by simp [chk, hv]
    rw [hc] at CC
    have HV := hid hv
    have HR := hid hr
    have HLN := hid HS.out.len
    obtain ⟨hh0, hh1, hne, hle⟩ := valid_yes hv
    have hn0 : 0 < n := by rw [← HLN.out]; exact List.length_pos_iff.2 hne
    have HLE := hid (show n ≤ 1000 by rw [← HLN.out]; exact hle)
    have hfi := lastF_fine hv
    clear hc hr hv hne hle
    have CO := hid (fun W => lists_any op W)
    have HR1 : Hid (r = if opens op = false ∨ wrongRe re = true then bad 2 else if l.length = 1000 then bad 8 else ⟨h, l ++ [⟨op, h, re, false⟩], 0⟩) := hid (by rw [HR.out]; simp [enterR, HV.out])
    obtain ⟨q1, hq1⟩ : ∃ q, opens op = q := ⟨_, rfl⟩
    rw [hq1] at CO HR1
    have HQ : Hid (wrongRe re = (decide (re < 0) || decide (1 < re))) := rfl
    clear hq1 HR HV hh0 hh1 hfi
    cases q1 with
    | false =>
      have HE : Hid (r = bad 2) := hid (by rw [HR1.out]; rfl)
      clear HR1 HQ
      go_enter Try.func16, Try.ntmps16
      go_upto_region 1 with fail
      rw [← HW.out]
      go_wp2_with fail
      refine CC.out.mono ?_
      rintro e w1 ⟨rfl, hb1⟩
      have hx1 := HX.out.below hb1
      have hy1 := HY.out.below hb1
      have hbw := HB.out.trans (hb1.mono HB.out.size)
      have HZ1 := hid (show w.heap.size + 2 ≤ w1.heap.size by have := hb1.size; have := HSZ.out; omega)
      have HSA := hid (HS.out.on hbw)
      have p0 := hx1.c0
      have p1 := hx1.c1
      have r0 := hy1.c0
      have r1 := hy1.c1
      have rf0 := hy1.f 0
      have rf1 := hy1.f 1
      have HX1 := hid hx1
      have HY1 := hid hy1
      have HB1 := hid hbw
      clear hb1 hx1 hy1 hbw c0 c1 CC HX HY HB HSZ HW
      go_wp2_with fail
      refine (CO.out _).mono ?_
      rintro e w2 ⟨rfl, rfl⟩
      go_wp2
      exact bodyPost_ret (results_cs Try.results16 _ _ (w.heap.size + 1) rfl (box2 HY1.out _ _)) rfl (made_bad (h := 0) (z := 0) (v := .bool true) ((HB1.out.setCell (by simp) _).setCell (by simp) _) HE.out)
    | true =>
    by_cases g1 : re < 0
    · have HE : Hid (r = bad 2) := hid (by rw [HR1.out, HQ.out, if_pos (by simp [g1])])
      clear HR1 HQ
      go_enter Try.func16, Try.ntmps16
      go_upto_region 1 with fail
      rw [← HW.out]
      go_wp2_with fail
      refine CC.out.mono ?_
      rintro e w1 ⟨rfl, hb1⟩
      have hx1 := HX.out.below hb1
      have hy1 := HY.out.below hb1
      have hbw := HB.out.trans (hb1.mono HB.out.size)
      have HZ1 := hid (show w.heap.size + 2 ≤ w1.heap.size by have := hb1.size; have := HSZ.out; omega)
      have HSA := hid (HS.out.on hbw)
      have p0 := hx1.c0
      have p1 := hx1.c1
      have r0 := hy1.c0
      have r1 := hy1.c1
      have rf0 := hy1.f 0
      have rf1 := hy1.f 1
      have HX1 := hid hx1
      have HY1 := hid hy1
      have HB1 := hid hbw
      clear hb1 hx1 hy1 hbw c0 c1 CC HX HY HB HSZ HW
      go_wp2_with fail
      refine (CO.out _).mono ?_
      rintro e w2 ⟨rfl, rfl⟩
      go_wp2
      exact bodyPost_ret (results_cs Try.results16 _ _ (w.heap.size + 1) rfl (box2 HY1.out _ _)) rfl (made_bad (h := 0) (z := 0) (v := .bool true) ((HB1.out.setCell (by simp) _).setCell (by simp) _) HE.out)
    by_cases g2 : 1 < re
    · have HE : Hid (r = bad 2) := hid (by rw [HR1.out, HQ.out, if_pos (by simp [g2])])
      clear HR1 HQ
      go_enter Try.func16, Try.ntmps16
      go_upto_region 1 with fail
      rw [← HW.out]
      go_wp2_with fail
      refine CC.out.mono ?_
      rintro e w1 ⟨rfl, hb1⟩
      have hx1 := HX.out.below hb1
      have hy1 := HY.out.below hb1
      have hbw := HB.out.trans (hb1.mono HB.out.size)
      have HZ1 := hid (show w.heap.size + 2 ≤ w1.heap.size by have := hb1.size; have := HSZ.out; omega)
      have HSA := hid (HS.out.on hbw)
      have p0 := hx1.c0
      have p1 := hx1.c1
      have r0 := hy1.c0
      have r1 := hy1.c1
      have rf0 := hy1.f 0
      have rf1 := hy1.f 1
      have HX1 := hid hx1
      have HY1 := hid hy1
      have HB1 := hid hbw
      clear hb1 hx1 hy1 hbw c0 c1 CC HX HY HB HSZ HW
      go_wp2_with fail
      refine (CO.out _).mono ?_
      rintro e w2 ⟨rfl, rfl⟩
      go_wp2
      exact bodyPost_ret (results_cs Try.results16 _ _ (w.heap.size + 1) rfl (box2 HY1.out _ _)) rfl (made_bad (h := 0) (z := 0) (v := .bool true) ((HB1.out.setCell (by simp) _).setCell (by simp) _) HE.out)
    by_cases g3 : n = 1000
    · have HE : Hid (r = bad 8) := hid (by rw [HR1.out, HQ.out, if_neg (by simp; omega), HLN.out, if_pos g3])
      subst g3
      clear HR1 HQ
      go_enter Try.func16, Try.ntmps16
      go_upto_region 1 with fail
      rw [← HW.out]
      go_wp2_with fail
      refine CC.out.mono ?_
      rintro e w1 ⟨rfl, hb1⟩
      have hx1 := HX.out.below hb1
      have hy1 := HY.out.below hb1
      have hbw := HB.out.trans (hb1.mono HB.out.size)
      have HZ1 := hid (show w.heap.size + 2 ≤ w1.heap.size by have := hb1.size; have := HSZ.out; omega)
      have HSA := hid (HS.out.on hbw)
      have p0 := hx1.c0
      have p1 := hx1.c1
      have r0 := hy1.c0
      have r1 := hy1.c1
      have rf0 := hy1.f 0
      have rf1 := hy1.f 1
      have HX1 := hid hx1
      have HY1 := hid hy1
      have HB1 := hid hbw
      clear hb1 hx1 hy1 hbw c0 c1 CC HX HY HB HSZ HW
      go_wp2_with fail
      refine (CO.out _).mono ?_
      rintro e w2 ⟨rfl, rfl⟩
      go_wp2
      exact bodyPost_ret (results_cs Try.results16 _ _ (w.heap.size + 1) rfl (box2 HY1.out _ _)) rfl (made_bad (h := 0) (z := 0) (v := .bool true) ((HB1.out.setCell (by simp) _).setCell (by simp) _) HE.out)
    have HE : Hid (r = ⟨h, l ++ [⟨op, h, re, false⟩], 0⟩) := hid (by rw [HR1.out, HQ.out, if_neg (by simp; omega), HLN.out, if_neg g3])
    have g3i : ¬ (1000 : Int) ≤ (n : Int) := by have := HLE.out; omega
    clear HR1 HQ
    go_enter Try.func16, Try.ntmps16
    go_upto_region 1 with fail
    rw [← HW.out]
    go_wp2_with fail
    refine CC.out.mono ?_
    rintro e w1 ⟨rfl, hb1⟩
    have hx1 := HX.out.below hb1
    have hy1 := HY.out.below hb1
    have hbw := HB.out.trans (hb1.mono HB.out.size)
    have HZ1 := hid (show w.heap.size + 2 ≤ w1.heap.size by have := hb1.size; have := HSZ.out; omega)
    have HSA := hid (HS.out.on hbw)
    have p0 := hx1.c0
    have p1 := hx1.c1
    have r0 := hy1.c0
    have r1 := hy1.c1
    have rf0 := hy1.f 0
    have rf1 := hy1.f 1
    have HX1 := hid hx1
    have HY1 := hid hy1
    have HB1 := hid hbw
    clear hb1 hx1 hy1 hbw c0 c1 CC HX HY HB HSZ HW
    go_wp2_with fail
    refine (CO.out _).mono ?_
    rintro e w2 ⟨rfl, rfl⟩
    have CWI := hid (with_any h a n c h a n c l w1 HLN.out HSA.out.rows (by have := HLE.out; omega))
    go_wp2_with fail
    refine CWI.out.mono ?_
    rintro e w2 ⟨a2, c2, rfl, ho2, hb2⟩
    have HP2 := hid (HX1.out.below hb2)
    have HY2 := hid (HY1.out.below hb2)
    have HO2 := hid ho2
    have HB2 := hid (HB1.out.trans (hb2.mono HB1.out.size))
    have HL2 := hid hb2.size
    have p0 := HP2.out.c0
    have p1 := HP2.out.c1
    clear ho2 hb2 CWI HX1 HY1 HB1 HSA r0 r1 rf0 rf1
    go_upto_region 6 with fail
    obtain ⟨w3, hw3⟩ : ∃ w3, w3 = w2.alloc (.cells #[.int .i64 h, .slice a2 n c2] 24) := ⟨_, rfl⟩
    rw [← hw3]
    have hA : Below w2.heap.size w2 w3 := by rw [hw3]; exact (Below.refl _ _).alloc (Nat.le_refl _) _
    have ht3 : Bx w3 w2.heap.size (.int .i64 h) (.slice a2 n c2) := by rw [hw3]; exact Bx.made _ _ _
    have hs3 : w3.heap.size = w2.heap.size + 1 := by rw [hw3]; simp
    obtain ⟨gt, hgt⟩ : ∃ gt, gt = w2.heap.size := ⟨_, rfl⟩
    have hp3 := HP2.out.below hA
    have HO3 := hid (HO2.out.below hA)
    have HB3 := hid (HB2.out.trans (hA.mono HB2.out.size))
    have HY3 := hid (HY2.out.below hA)
    rw [← hgt] at ht3 hs3 ⊢
    have HG := hid (show w1.heap.size ≤ gt from by rw [hgt]; exact HL2.out)
    have hgb : ∀ g, (Value.slice a2 n c2).ownBlock = some g → w1.heap.size ≤ g ∧ g < gt := fun g hg => by
      have := World.ownsRow.lt HO2.out.row g hg
      exact ⟨this.1, by omega⟩
    have HGB := hid hgb
    have HT3 := hid ht3
    have HS3 := hid hs3
    have HP3 := hid hp3
    have p0 := hp3.c0
    have p1 := hp3.c1
    have t0 := ht3.c0
    have t1 := ht3.c1
    have HA3 : Hid (Below w1.heap.size w3 (w3.alloc (.cells #[.int .i64 op, .int .i64 h, .int .i64 re, .bool false] 46))) := hid ((Below.refl _ _).alloc (by have := HG.out; omega) _)
    have HOA := hid (OwnF.below HO3.out ((Below.refl _ _).alloc (Nat.le_refl _) (.cells #[.int .i64 op, .int .i64 h, .int .i64 re, .bool false] 46)))
    have HNL := hid (lit_news w3 ⟨op, h, re, false⟩)
    have HL1 : Hid ((l ++ [(⟨op, h, re, false⟩ : Fr)]).length = n + 1) := hid (by simp [HLN.out])
    clear hw3 hA ht3 hs3 hp3 hgt hgb HO2 HB2 HY2 HP2
    go_upto_region 7 with (at_builtin; refine append_rows infoFr rfl (by omega) (by omega) Try.underlying22 rfl (.tmp 38) (.tmp 44) rfl (base := w1.heap.size) (w0 := w3) (xs := l.map Fr.v) [(⟨op, h, re, false⟩ : Fr).v] rfl HOA.out HA3.out (by rw [World.size_alloc]; have := HG.out; have := HS3.out; omega) ⟨w3.heap.size, 0, none⟩ 1 1 rfl rfl (by simp [Fr.v]) HNL.out (by simp [Fr.v, Value.oneCell']) (by rw [List.length_map, HLN.out]; have := HLE.out; omega) ?_; intro v1 u1 ho hb hsz hgrow; have ho1 := append_own ho; obtain ⟨a1, c1, hv1, -⟩ := OwnF.slice ho1 (by simp; rw [HLN.out]; have := HLE.out; omega); rw [HL1.out] at hv1; subst hv1; have hgt1 : Bx u1 gt (.int .i64 h) (.slice a2 n c2) := (HT3.out.below ((Below.refl _ _).alloc (Nat.le_refl _) _)).grown hgrow (fun g hg => by have := HGB.out g hg; omega); have hy := HY3.out.belowB hb (by have := HZ1.out; omega); have t0 := hgt1.c0; have t1 := hgt1.c1; have tf0 := hgt1.f 0; have tf1 := hgt1.f 1; have HO1 := hid ho1; have HT := hid hgt1; have HY := hid hy; have HB1 := hid (HB3.out.trans (hb.mono (by have := HZ1.out; omega))); clear hgt1 hy ho ho1 hb hsz hgrow)
    obtain ⟨w5, hw5⟩ : ∃ w5, w5 = u1.setCell ⟨gt, 1, none⟩ (.slice a1 (n + 1) c1) := ⟨_, rfl⟩
    rw [← hw5]
    have hgw : w.heap.size + 1 < gt := by have := HG.out; have := HZ1.out; omega
    have ht5 : Bx w5 gt (.int .i64 h) (.slice a1 (n + 1) c1) := by rw [hw5]; exact HT.out.set1 _
    have hy5 : Bx w5 (w.heap.size + 1) (.int .i64 0) (.slice none 0 0) := by rw [hw5]; exact HY.out.far (by show _ ≠ gt; omega) _
    have HO2 : Hid (OwnF w1.heap.size w5 (.slice a1 (n + 1) c1) (l ++ [⟨op, h, re, false⟩])) := hid (by rw [hw5]; exact HO1.out.apart HT.out 1 _)
    have HB5 : Hid (Below w.heap.size w w5) := hid (by rw [hw5]; exact HB1.out.setCell (by show _ ≤ gt; omega) _)
    have t0 := ht5.c0
    have t1 := ht5.c1
    have r0 := hy5.c0
    have r1 := hy5.c1
    have rf0 := hy5.f 0
    have rf1 := hy5.f 1
    have HY5 := hid hy5
    clear hw5 ht5 hy5 HO1 HB1 HT HY tf0 tf1 p0 p1 hgw
    go_wp2
    exact bodyPost_ret (results_cs Try.results16 _ _ (w.heap.size + 1) rfl (box2 HY5.out _ _)) rfl (made_ok HE.out ((HO2.out.set (by show w.heap.size + 1 < _; have := HZ1.out; omega) _).set (by show w.heap.size + 1 < _; have := HZ1.out; omega) _ |>.mono (by have := HZ1.out; omega)) ((HB5.out.setCell (by simp) _).setCell (by simp) _))

end Go.Proofs.Ytnfpfagojeieeaa.Stk
