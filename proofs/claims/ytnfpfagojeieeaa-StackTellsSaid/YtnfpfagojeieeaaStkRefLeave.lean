/-
  STACK: the document's Leave by contract (tools/gen_stkref.py).
-/
import Derived.Test.YtnfpfagojeieeaaStkRefDead
import Derived.Test.YtnfpfagojeieeaaStkLeave
import Derived.Deep.RegionHeld3
namespace Go.Proofs.Ytnfpfagojeieeaa.Stk
open Go.RowKit
set_option linter.unusedVariables false

theorem own_rows {base : Nat} {w : World} {a : Option Addr} {n c m : Nat} {l : List Fr} (h : OwnF base w (.slice a n c) l) (hl : l.length = m) (hm : m ≤ 1000000) : Rows w.heap.size w a 4 (l.map Fr.v) := by
  obtain ⟨a', c', hv, hst⟩ := h.slice (by omega)
  simp only [Value.slice.injEq] at hv
  rw [hv.1]
  exact hst.rows
/-- What stays over a region whose call leaves all that was there. -/
theorem rleave_keep {W W' : World} {gt gf : Nat} {x y : Value} {t0 t1 t2 t3 : Value} (hx : Bx W gt x y) (hf : W.heap[gf]? = some (.cells #[t0, t1, t2, t3] 46 (0, 0))) (h : Below W.heap.size W W') :
    W'.cell? ⟨gt, 0, none⟩ = some x ∧ W'.cell? ⟨gt, 1, none⟩ = some y ∧ W'.cell? ⟨gf, 1, none⟩ = some t1 ∧ W'.cell? ⟨gf, 2, none⟩ = some t2 :=
  ⟨(hx.below h).c0, (hx.below h).c1, keep h (cell_of_row W gf 1 _ _ _ hf), keep h (cell_of_row W gf 2 _ _ _ hf)⟩
theorem rleave_store {W W' : World} {gt gf k : Nat} {x y : Value} {t0 t1 t2 t3 : Value} (hx : Bx W gt x y) (hf : W.heap[gf]? = some (.cells #[t0, t1, t2, t3] 46 (0, 0))) (h : Below W.heap.size W W') (e1 : k ≠ gt) (e2 : k ≠ gf) (u v : Value) :
    ((W'.setCell ⟨k, 0, none⟩ u).setCell ⟨k, 1, none⟩ v).cell? ⟨gt, 0, none⟩ = some x ∧ ((W'.setCell ⟨k, 0, none⟩ u).setCell ⟨k, 1, none⟩ v).cell? ⟨gt, 1, none⟩ = some y ∧ ((W'.setCell ⟨k, 0, none⟩ u).setCell ⟨k, 1, none⟩ v).cell? ⟨gf, 1, none⟩ = some t1 ∧ ((W'.setCell ⟨k, 0, none⟩ u).setCell ⟨k, 1, none⟩ v).cell? ⟨gf, 2, none⟩ = some t2 := by
  obtain ⟨h1, h2, h3, h4⟩ := rleave_keep hx hf h
  exact ⟨(World.cell?_setCell_far _ _ _ _ e1).trans ((World.cell?_setCell_far _ _ _ _ e1).trans h1), (World.cell?_setCell_far _ _ _ _ e1).trans ((World.cell?_setCell_far _ _ _ _ e1).trans h2), (World.cell?_setCell_far _ _ _ _ e2).trans ((World.cell?_setCell_far _ _ _ _ e2).trans h3), (World.cell?_setCell_far _ _ _ _ e2).trans ((World.cell?_setCell_far _ _ _ _ e2).trans h4)⟩
set_option maxRecDepth 100000 in
set_option maxHeartbeats 4000000 in
theorem refLeave_any (h : Int) (a : Option Addr) (n c : Nat) (l : List Fr) (w : World) (hs : StAt w.heap.size w a n c l) :
    Calls Try.prog 18 #[.agg #[.int .i64 h, .slice a n c]] w fun e w' => MadeP w (leaveR h l) e w' := by
  obtain ⟨W0, hW0, hb, hx, hy, hsz⟩ := two_boxes w (.int .i64 h) (.slice a n c)
  have hsW := hs.on hb
  have CC := hid (refCheck_any h a n c l W0 hsW)
  have c0 := hx.c0
  have c1 := hx.c1
  have HB := hid hb
  have HX := hid hx
  have HY := hid hy
  have HW := hid hW0
  have HSZ := hid hsz
  have HS := hid hs
  obtain ⟨r, hr⟩ : ∃ r, r = leaveR h l := ⟨_, rfl⟩
  rw [← hr]
  clear hb hx hy hW0 hsz hsW hs
  cases hv : valid h l with
  | false =>
    have HE : Hid (r = bad 2) := hid (by rw [hr]; simp [leaveR, hv])
    have hc : chk h l = 2 := by simp [chk, hv]
    rw [hc] at CC
    clear hc hr hv
    go_enter Try.func18, Try.ntmps18
    go_upto_region 1 with fail
    rw [← HW.out]
    go_wp2_with fail
    refine CC.out.mono ?_
    rintro e w1 ⟨rfl, hb1⟩
    have hx1 := HX.out.below hb1
    have hy1 := HY.out.below hb1
    have hbw := HB.out.trans (hb1.mono HB.out.size)
    have HZ1 := hid (show w.heap.size + 2 ≤ w1.heap.size by have := hb1.size; have := HSZ.out; omega)
    have HSA := hid (HS.out.on hbw)
    have p0 := hx1.c0
    have p1 := hx1.c1
    have r0 := hy1.c0
    have r1 := hy1.c1
    have rf0 := hy1.f 0
    have rf1 := hy1.f 1
    have HX1 := hid hx1
    have HY1 := hid hy1
    have HB1 := hid hbw
    clear hb1 hx1 hy1 hbw c0 c1 CC HX HY HB HSZ HW
    go_wp2
    exact bodyPost_ret (results_cs Try.results18 _ _ (w.heap.size + 1) rfl (box2 HY1.out _ _)) rfl (made_bad (h := 0) (z := 0) (v := .bool true) ((HB1.out.setCell (by simp) _).setCell (by simp) _) HE.out)
  | true =>
    have hc : chk h l = 0 := by simp [chk, hv]
    rw [hc] at CC
    have HV := hid hv
    have HR := hid hr
    have HLN := hid HS.out.len
    obtain ⟨hh0, hh1, hne, hle⟩ := valid_yes hv
    have hn0 : 0 < n := by rw [← HLN.out]; exact List.length_pos_iff.2 hne
    have HLE := hid (show n ≤ 1000 by rw [← HLN.out]; exact hle)
    have hfi := lastF_fine hv
    clear hc hr hv hne hle
    obtain ⟨f, hf⟩ : ∃ f, lastF l = f := ⟨_, rfl⟩
    rw [hf] at hfi
    obtain ⟨op, ba, re, de⟩ := f
    obtain ⟨hb0, hb1', hr0, hr1⟩ := hfi
    dsimp only at hb0 hb1' hr0 hr1
    obtain ⟨m, rfl⟩ : ∃ m, n = m + 1 := ⟨n - 1, by omega⟩
    have hm : m ≤ 1000 := by have := HLE.out; omega
    have HR1 : Hid (r = if (without h re ⟨op, ba, re, de⟩).2 ≠ 0 then bad (without h re ⟨op, ba, re, de⟩).2 else if ba < (without h re ⟨op, ba, re, de⟩).1 then bad 201 else ⟨(without h re ⟨op, ba, re, de⟩).1 + re, l.take m, 0⟩) := hid (by rw [HR.out]; simp [leaveR, HV.out, hf, HLN.out])
    have HP1 : Hid (popR h l re = if (without h re ⟨op, ba, re, de⟩).2 = 0 then ⟨(without h re ⟨op, ba, re, de⟩).1, l, 0⟩ else bad (without h re ⟨op, ba, re, de⟩).2) := hid (by rw [popR, HV.out, hf, if_neg (by simp), if_neg (by omega)])
    have hx0 : (without h re ⟨op, ba, re, de⟩).2 = 0 → ba ≤ (without h re ⟨op, ba, re, de⟩).1 := by
      simp only [without]
      repeat' split
      all_goals simp only
      all_goals omega
    have kb : IntKind.i64.wrap (ba + re) = ba + re := s64_in (by omega) (by omega)
    have CP := hid (fun (W : World) (hW : StAt W.heap.size W a (m + 1) c l) => refPop_any h a (m + 1) c l re W hW (by omega))
    rw [HP1.out] at CP
    obtain ⟨x, y, hxy⟩ : ∃ x y, without h re ⟨op, ba, re, de⟩ = (x, y) := ⟨_, _, rfl⟩
    rw [hxy] at HR1 CP hx0
    dsimp only at HR1 CP hx0
    have HX0 := hid hx0
    have km : IntKind.i64.wrap (m : Int) = m := s64_in (by omega) (by omega)
    have hm0 : (m : Int) < (m : Int) + 1 := by omega
    clear HR HV HP1 hxy hx0 hh0 hh1 hb0 hb1' hr0 hr1
    go_enter Try.func18, Try.ntmps18
    go_upto_region 1 with fail
    rw [← HW.out]
    go_wp2_with fail
    refine CC.out.mono ?_
    rintro e w1 ⟨rfl, hb1⟩
    have hx1 := HX.out.below hb1
    have hy1 := HY.out.below hb1
    have hbw := HB.out.trans (hb1.mono HB.out.size)
    have HZ1 := hid (show w.heap.size + 2 ≤ w1.heap.size by have := hb1.size; have := HSZ.out; omega)
    have HSA := hid (HS.out.on hbw)
    have p0 := hx1.c0
    have p1 := hx1.c1
    have r0 := hy1.c0
    have r1 := hy1.c1
    have rf0 := hy1.f 0
    have rf1 := hy1.f 1
    have HX1 := hid hx1
    have HY1 := hid hy1
    have HB1 := hid hbw
    clear hb1 hx1 hy1 hbw c0 c1 CC HX HY HB HSZ HW
    have CLA := hid (last_any h a (m + 1) c l w1 HSA.out hn0)
    rw [hf] at CLA
    dsimp only at CLA
    go_wp2_with fail
    refine CLA.out.mono ?_
    rintro e w2 ⟨rfl, hb2⟩
    have hp2 := HX1.out.below hb2
    have hy2 := HY1.out.below hb2
    have HB2 := hid (HB1.out.trans (hb2.mono HB1.out.size))
    have HSA2 := hid (HSA.out.on hb2)
    have HZ2 := hid (show w.heap.size + 2 ≤ w2.heap.size by have := hb2.size; have := HZ1.out; omega)
    have p0 := hp2.c0
    have p1 := hp2.c1
    have HP2 := hid hp2
    have HY2 := hid hy2
    clear hp2 hy2 hb2 CLA HX1 HY1 HB1 HSA r0 r1 rf0 rf1
    go_upto_region 4 with fail
    obtain ⟨w3, hw3⟩ : ∃ w3, w3 = w2.alloc (.cells #[.int .i64 op, .int .i64 ba, .int .i64 re, .bool de] 46) := ⟨_, rfl⟩
    rw [← hw3]
    have hA : Below w2.heap.size w2 w3 := by rw [hw3]; exact (Below.refl _ _).alloc (Nat.le_refl _) _
    have hfb : w3.heap[w2.heap.size]? = some (.cells #[.int .i64 op, .int .i64 ba, .int .i64 re, .bool de] 46 (0, 0)) := by rw [hw3]; exact heap_alloc_new w2 _
    have hp3 := HP2.out.below hA
    have hy3 := HY2.out.below hA
    have HB3 := hid (HB2.out.trans (hA.mono HB2.out.size))
    have HSA3 := hid (HSA2.out.on hA)
    have HZ3 := hid (show w.heap.size + 2 ≤ w3.heap.size by have := hA.size; have := HZ2.out; omega)
    have HF3 := hid (Array.getElem?_eq_some_iff.1 hfb).1
    have HGW := HZ2
    have p0 := hp3.c0
    have p1 := hp3.c1
    have r0 := hy3.c0
    have r1 := hy3.c1
    have rf0 := hy3.f 0
    have rf1 := hy3.f 1
    have f0 : w3.cell? ⟨w2.heap.size, 0, none⟩ = some (.int .i64 op) := cell_of_row w3 _ 0 _ _ _ hfb
    have f1 : w3.cell? ⟨w2.heap.size, 1, none⟩ = some (.int .i64 ba) := cell_of_row w3 _ 1 _ _ _ hfb
    have f2 : w3.cell? ⟨w2.heap.size, 2, none⟩ = some (.int .i64 re) := cell_of_row w3 _ 2 _ _ _ hfb
    have f3 : w3.cell? ⟨w2.heap.size, 3, none⟩ = some (.bool de) := cell_of_row w3 _ 3 _ _ _ hfb
    have HFB := hid hfb
    have HP3 := hid hp3
    have HY3 := hid hy3
    clear hw3 hA hfb hp3 hy3 HP2 HY2 HB2 HSA2
    obtain ⟨gf, hgf⟩ : ∃ gf, gf = w2.heap.size := ⟨_, rfl⟩
    rw [← hgf] at f0 f1 f2 f3 HFB HF3 HGW ⊢
    clear hgf
    have CPW := hid (CP.out w3 HSA3.out)
    clear CP
    by_cases g1 : y = 0
    rotate_left
    · have HE : Hid (r = bad y) := hid (by rw [HR1.out, if_pos g1])
      have g1b : (y != 0) = true := by simp [g1]
      rw [if_neg g1] at CPW
      clear HR1
      go_wp2_with fail
      refine CPW.out.mono ?_
      rintro e w4 ⟨a4, n4, c4, rfl, ho4, hb4⟩
      have hy4 := HY3.out.below hb4
      have HB4 := hid (HB3.out.trans (hb4.mono HB3.out.size))
      clear hb4 CPW ho4 HSA3 f0 f1 f2 f3 HFB r0 r1 rf0 rf1
      dsimp only [bad]
      have HY4 := hid hy4
      clear hy4 p0 p1
      go_upto_region 5 with fail
      obtain ⟨w5, hw5⟩ : ∃ w5, w5 = w4.alloc (.cells #[.int .i64 0, .slice a4 n4 c4] 24) := ⟨_, rfl⟩
      rw [← hw5]
      have hA : Below w4.heap.size w4 w5 := by rw [hw5]; exact (Below.refl _ _).alloc (Nat.le_refl _) _
      have hy5 := HY4.out.below hA
      have HB5 := hid (HB4.out.trans (hA.mono HB4.out.size))
      have r0 := hy5.c0
      have r1 := hy5.c1
      have rf0 := hy5.f 0
      have rf1 := hy5.f 1
      have HY5 := hid hy5
      clear hy5 hA hw5
      go_wp2
      exact bodyPost_ret (results_cs Try.results18 _ _ (w.heap.size + 1) rfl (box2 HY5.out _ _)) rfl (made_bad (h := 0) (z := 0) (v := .bool true) ((HB5.out.setCell (by simp) _).setCell (by simp) _) HE.out)
    subst g1
    rw [if_pos rfl] at CPW
    have hxb := HX0.out rfl
    go_wp2_with fail
    refine CPW.out.mono ?_
    rintro e w4 ⟨a4, n4, c4, rfl, ho4, hb4⟩
    dsimp only at ho4 ⊢
    obtain ⟨a5, c5, hv5, hst⟩ := ho4.slice (by rw [HLN.out]; omega)
    rw [HLN.out] at hv5
    obtain ⟨g, hg3⟩ : ∃ g, a4 = some ⟨g, 0, none⟩ := by
      rcases ho4.row.2 with ⟨h1, h0⟩ | ⟨g, cap, cur, h1, hg, hh, _⟩
      · rw [List.length_map, HLN.out] at h0; omega
      · simp only [Value.slice.injEq] at h1
        exact ⟨g, h1.1⟩
    obtain rfl : n4 = m + 1 := by simp only [Value.slice.injEq] at hv5; exact hv5.2.1
    subst hg3
    have hy4 := HY3.out.below hb4
    have HB4 := hid (HB3.out.trans (hb4.mono HB3.out.size))
    have HFB4 := hid ((hb4.block _ HF3.out).trans HFB.out)
    have HFL := hid (show gf < w4.heap.size from Nat.lt_of_lt_of_le HF3.out hb4.size)
    have HO4 := hid ho4
    have HY4 := hid hy4
    have HL4 := hid hb4.size
    clear hb4 CPW ho4 hv5 hst hy4 HSA3 f0 f1 f2 f3 HFB r0 r1 rf0 rf1 p0 p1 HP3 HY3 HB3
    go_upto_region 5 with fail
    obtain ⟨w5, hw5⟩ : ∃ w5, w5 = w4.alloc (.cells #[.int .i64 x, .slice (some ⟨g, 0, none⟩) (m + 1) c4] 24) := ⟨_, rfl⟩
    rw [← hw5]
    have hA : Below w4.heap.size w4 w5 := by rw [hw5]; exact (Below.refl _ _).alloc (Nat.le_refl _) _
    have ht5 : Bx w5 w4.heap.size (.int .i64 x) (.slice (some ⟨g, 0, none⟩) (m + 1) c4) := by rw [hw5]; exact Bx.made _ _ _
    have hy5 := HY4.out.below hA
    have hfb5 := (hA.block _ HFL.out).trans HFB4.out
    have HO5 := hid (HO4.out.below hA)
    have HB5 := hid (HB4.out.trans (hA.mono HB4.out.size))
    have HZ5 := hid (show w.heap.size + 2 ≤ w5.heap.size by have := HZ3.out; have := HL4.out; have := hA.size; omega)
    obtain ⟨gt, hgt⟩ : ∃ gt, gt = w4.heap.size := ⟨_, rfl⟩
    have HGT := hid (show w.heap.size + 1 ≠ gt by rw [hgt]; have := HZ3.out; have := HL4.out; omega)
    rw [← hgt] at ht5 ⊢
    clear hgt
    have t0 := ht5.c0
    have t1 := ht5.c1
    have r0 := hy5.c0
    have r1 := hy5.c1
    have rf0 := hy5.f 0
    have rf1 := hy5.f 1
    have f1 : w5.cell? ⟨gf, 1, none⟩ = some (.int .i64 ba) := cell_of_row w5 _ 1 _ _ _ hfb5
    have f2 : w5.cell? ⟨gf, 2, none⟩ = some (.int .i64 re) := cell_of_row w5 _ 2 _ _ _ hfb5
    have HT5 := hid ht5
    have HY5 := hid hy5
    have HFB5 := hid hfb5
    clear hw5 hA ht5 hy5 hfb5 HO4 HB4 HY4 HFB4
    by_cases g2 : ba < x
    · have HE : Hid (r = bad 201) := hid (by rw [HR1.out, if_neg (by simp), if_pos g2])
      clear HR1
      go_wp2
      exact bodyPost_ret (results_cs Try.results18 _ _ (w.heap.size + 1) rfl (box2 HY5.out _ _)) rfl (made_bad (h := 0) (z := 0) (v := .bool true) ((HB5.out.setCell (by simp) _).setCell (by simp) _) HE.out)
    obtain rfl : x = ba := by omega
    have HE : Hid (r = ⟨x + re, l.take m, 0⟩) := hid (by rw [HR1.out, if_neg (by simp), if_neg (by omega)])
    have hcp : m ≤ c4 := by have := HO5.out.cap HLN.out; omega
    have hcp1 : (m : Int) ≤ (c4 : Int) := by omega
    have HOT := hid (HO5.out.take HLN.out)
    have HLT : Hid ((l.take m).length = m) := hid (by rw [List.length_take, HLN.out]; omega)
    have CWI := hid (fun (W : World) (hB : Below w5.heap.size w5 W) => with_any x (some ⟨g, 0, none⟩) (m + 1) c4 (x + re) (some ⟨g, 0, none⟩) m c4 (l.take m) W HLT.out (own_rows (HOT.out.below hB) HLT.out (by omega)) (by omega))
    have HNE := hid (show w.heap.size + 1 ≠ gt ∧ w.heap.size + 1 ≠ gf from ⟨HGT.out, by have := HGW.out; omega⟩)
    have HKS := hid (fun (W : World) (h : Below w5.heap.size w5 W) u v => rleave_store HT5.out HFB5.out h HNE.out.1 HNE.out.2 u v)
    have hS := rleave_keep HT5.out HFB5.out (Below.refl _ _)
    have HK := hid (fun (W : World) (h : Below w5.heap.size w5 W) => rleave_keep HT5.out HFB5.out h)
    clear HR1
    go_wp2
    go_region_held3 (fun w' => w'.cell? ⟨gt, 0, none⟩ = some (.int .i64 x) ∧ w'.cell? ⟨gt, 1, none⟩ = some (.slice (some ⟨g, 0, none⟩) (m + 1) c4) ∧ w'.cell? ⟨gf, 1, none⟩ = some (.int .i64 x) ∧ w'.cell? ⟨gf, 2, none⟩ = some (.int .i64 re))
      (first
        | (with_reducible assumption)
        | (with_reducible exact HK.out _ hb6)
        | (with_reducible exact HKS.out _ hb6 _ _)
        | (with_reducible exact HK.out _ ((Below.refl _ _).drew)))
      (first
        | (go_at_call 28; refine (CWI.out _ (by first | exact Below.refl _ _ | exact (Below.refl _ _).drew)).mono ?_; rintro e w6 ⟨a6, c6, rfl, ho6, hb6'⟩; have hb6 : Below w5.heap.size w5 w6 := (by first | exact hb6' | exact undrew hb6'); have hy6 := HY5.out.below hb6; have r0 := hy6.c0; have r1 := hy6.c1; have rf0 := hy6.f 0; have rf1 := hy6.f 1))
    have HY6 := hid hy6
    have HB6 := hid (HB5.out.trans (hb6.mono HB5.out.size))
    have HO2 : Hid (OwnF w5.heap.size w6 (.slice a6 m c6) (l.take m)) := hid (by first | exact ho6 | exact ho6)
    clear hy6 ho6 hb6 hb6'
    go_wp2
    exact bodyPost_ret (results_cs Try.results18 _ _ (w.heap.size + 1) rfl (by first | exact box2 HY6.out _ _ | exact Bx.drew (box2 HY6.out _ _))) rfl (made_ok HE.out (by have hz := HZ5.out; first | exact ((HO2.out.set (by show w.heap.size + 1 < _; omega) _).set (by show w.heap.size + 1 < _; omega) _).mono (by omega) | exact OwnF.drew (((HO2.out.set (by show w.heap.size + 1 < _; omega) _).set (by show w.heap.size + 1 < _; omega) _).mono (by omega))) (by first | exact (HB6.out.setCell (by simp) _).setCell (by simp) _ | exact ((HB6.out.setCell (by simp) _).setCell (by simp) _).drew))
end Go.Proofs.Ytnfpfagojeieeaa.Stk
