/-
  STACK: the document's Push, Pop by contract (tools/gen_stkref.py).
-/
import Derived.Test.YtnfpfagojeieeaaStkNew
import Derived.Test.YtnfpfagojeieeaaStkSet
namespace Go.Proofs.Ytnfpfagojeieeaa.Stk
open Go.RowKit
set_option linter.unusedVariables false

set_option maxRecDepth 100000 in
set_option maxHeartbeats 4000000 in
theorem refPush_any (h : Int) (a : Option Addr) (n c : Nat) (l : List Fr) (k : Int) (w : World) (hs : StAt w.heap.size w a n c l) :
    Calls Try.prog 9 #[.agg #[.int .i64 h, .slice a n c], .int .i64 k] w fun e w' => MadeP w (pushR h l k) e w' := by
  obtain ⟨W0, hW0, hb, hx, hy, hsz⟩ := two_boxes w (.int .i64 h) (.slice a n c)
  have hsW := hs.on hb
  have CC := hid (refCheck_any h a n c l W0 hsW)
  have c0 := hx.c0
  have c1 := hx.c1
  have HB := hid hb
  have HX := hid hx
  have HY := hid hy
  have HW := hid hW0
  have HSZ := hid hsz
  have HS := hid hs
  obtain ⟨r, hr⟩ : ∃ r, r = pushR h l k := ⟨_, rfl⟩
  rw [← hr]
  clear hb hx hy hW0 hsz hsW hs
  cases hv : valid h l with
  | false =>
    have HE : Hid (r = bad 2) := hid (by rw [hr]; simp [pushR, hv])
    have hc : chk h l = 2 := by simp [chk, hv]
    rw [hc] at CC
    clear hc hr hv
    go_enter Try.func9, Try.ntmps9
    go_upto_region 1 with fail
    rw [← HW.out]
    go_wp2_with fail
    refine CC.out.mono ?_
    rintro e w1 ⟨rfl, hb1⟩
    have hx1 := HX.out.below hb1
    have hy1 := HY.out.below hb1
    have hbw := HB.out.trans (hb1.mono HB.out.size)
    have HZ1 := hid (show w.heap.size + 2 ≤ w1.heap.size by have := hb1.size; have := HSZ.out; omega)
    have HSA := hid (HS.out.on hbw)
    have p0 := hx1.c0
    have p1 := hx1.c1
    have r0 := hy1.c0
    have r1 := hy1.c1
    have rf0 := hy1.f 0
    have rf1 := hy1.f 1
    have HX1 := hid hx1
    have HY1 := hid hy1
    have HB1 := hid hbw
    clear hb1 hx1 hy1 hbw c0 c1 CC HX HY HB HSZ HW
    go_wp2
    exact bodyPost_ret (results_cs Try.results9 _ _ (w.heap.size + 1) rfl (box2 HY1.out _ _)) rfl (made_bad (h := 0) (z := 0) (v := .bool true) ((HB1.out.setCell (by simp) _).setCell (by simp) _) HE.out)
  | true =>
    have hc : chk h l = 0 := by simp [chk, hv]
    rw [hc] at CC
    have HV := hid hv
    have HR := hid hr
    have HLN := hid HS.out.len
    obtain ⟨hh0, hh1, hne, hle⟩ := valid_yes hv
    have hn0 : 0 < n := by rw [← HLN.out]; exact List.length_pos_iff.2 hne
    have HLE := hid (show n ≤ 1000 by rw [← HLN.out]; exact hle)
    have hfi := lastF_fine hv
    clear hc hr hv hne hle
    have q : IntKind.i64.wrap (1073741824 - h) = 1073741824 - h := s64_in (by omega) (by omega)
    have HH := hid (And.intro hh0 hh1)
    clear hh0 hh1 hfi
    by_cases g1 : k < 0
    · have HE : Hid (r = bad 2) := hid (by rw [HR.out]; simp [pushR, HV.out, g1])
      go_enter Try.func9, Try.ntmps9
      go_upto_region 1 with fail
      rw [← HW.out]
      go_wp2_with fail
      refine CC.out.mono ?_
      rintro e w1 ⟨rfl, hb1⟩
      have hx1 := HX.out.below hb1
      have hy1 := HY.out.below hb1
      have hbw := HB.out.trans (hb1.mono HB.out.size)
      have HZ1 := hid (show w.heap.size + 2 ≤ w1.heap.size by have := hb1.size; have := HSZ.out; omega)
      have HSA := hid (HS.out.on hbw)
      have p0 := hx1.c0
      have p1 := hx1.c1
      have r0 := hy1.c0
      have r1 := hy1.c1
      have rf0 := hy1.f 0
      have rf1 := hy1.f 1
      have HX1 := hid hx1
      have HY1 := hid hy1
      have HB1 := hid hbw
      clear hb1 hx1 hy1 hbw c0 c1 CC HX HY HB HSZ HW
      go_wp2
      exact bodyPost_ret (results_cs Try.results9 _ _ (w.heap.size + 1) rfl (box2 HY1.out _ _)) rfl (made_bad (h := 0) (z := 0) (v := .bool true) ((HB1.out.setCell (by simp) _).setCell (by simp) _) HE.out)
    by_cases g2 : 1073741824 - h < k
    · have HE : Hid (r = bad 8) := hid (by rw [HR.out]; simp [pushR, HV.out, g1, g2])
      go_enter Try.func9, Try.ntmps9
      go_upto_region 1 with fail
      rw [← HW.out]
      go_wp2_with fail
      refine CC.out.mono ?_
      rintro e w1 ⟨rfl, hb1⟩
      have hx1 := HX.out.below hb1
      have hy1 := HY.out.below hb1
      have hbw := HB.out.trans (hb1.mono HB.out.size)
      have HZ1 := hid (show w.heap.size + 2 ≤ w1.heap.size by have := hb1.size; have := HSZ.out; omega)
      have HSA := hid (HS.out.on hbw)
      have p0 := hx1.c0
      have p1 := hx1.c1
      have r0 := hy1.c0
      have r1 := hy1.c1
      have rf0 := hy1.f 0
      have rf1 := hy1.f 1
      have HX1 := hid hx1
      have HY1 := hid hy1
      have HB1 := hid hbw
      clear hb1 hx1 hy1 hbw c0 c1 CC HX HY HB HSZ HW
      go_wp2
      exact bodyPost_ret (results_cs Try.results9 _ _ (w.heap.size + 1) rfl (box2 HY1.out _ _)) rfl (made_bad (h := 0) (z := 0) (v := .bool true) ((HB1.out.setCell (by simp) _).setCell (by simp) _) HE.out)
    have HE : Hid (r = ⟨h + k, l, 0⟩) := hid (by rw [HR.out]; simp [pushR, HV.out, g1, g2])
    have q2 : IntKind.i64.wrap (h + k) = h + k := s64_in (by have := HH.out; omega) (by omega)
    go_enter Try.func9, Try.ntmps9
    go_upto_region 1 with fail
    rw [← HW.out]
    go_wp2_with fail
    refine CC.out.mono ?_
    rintro e w1 ⟨rfl, hb1⟩
    have hx1 := HX.out.below hb1
    have hy1 := HY.out.below hb1
    have hbw := HB.out.trans (hb1.mono HB.out.size)
    have HZ1 := hid (show w.heap.size + 2 ≤ w1.heap.size by have := hb1.size; have := HSZ.out; omega)
    have HSA := hid (HS.out.on hbw)
    have p0 := hx1.c0
    have p1 := hx1.c1
    have r0 := hy1.c0
    have r1 := hy1.c1
    have rf0 := hy1.f 0
    have rf1 := hy1.f 1
    have HX1 := hid hx1
    have HY1 := hid hy1
    have HB1 := hid hbw
    clear hb1 hx1 hy1 hbw c0 c1 CC HX HY HB HSZ HW
    have CWI := hid (with_any h a n c (h + k) a n c l w1 HLN.out HSA.out.rows (by have := HLE.out; omega))
    go_wp2_with fail
    refine CWI.out.mono ?_
    rintro e w2 ⟨a2, c2, rfl, ho2, hb2⟩
    have hy2 := HY1.out.below hb2
    have r0 := hy2.c0
    have r1 := hy2.c1
    have rf0 := hy2.f 0
    have rf1 := hy2.f 1
    have HY2 := hid hy2
    have HO2 := hid ho2
    have HB2 := hid (HB1.out.trans (hb2.mono HB1.out.size))
    clear hy2 ho2 hb2 CWI
    go_wp2
    exact bodyPost_ret (results_cs Try.results9 _ _ (w.heap.size + 1) rfl (box2 HY2.out _ _)) rfl (made_ok HE.out ((HO2.out.set (by show w.heap.size + 1 < _; have := HZ1.out; omega) _).set (by show w.heap.size + 1 < _; have := HZ1.out; omega) _ |>.mono (by have := HZ1.out; omega)) ((HB2.out.setCell (by simp) _).setCell (by simp) _))
set_option maxRecDepth 100000 in
set_option maxHeartbeats 4000000 in
theorem refPop_any (h : Int) (a : Option Addr) (n c : Nat) (l : List Fr) (k : Int) (w : World) (hs : StAt w.heap.size w a n c l) (hk : k ≤ 9223372036854775807) :
    Calls Try.prog 12 #[.agg #[.int .i64 h, .slice a n c], .int .i64 k] w fun e w' => MadeP w (popR h l k) e w' := by
  obtain ⟨W0, hW0, hb, hx, hy, hsz⟩ := two_boxes w (.int .i64 h) (.slice a n c)
  have hsW := hs.on hb
  have CC := hid (refCheck_any h a n c l W0 hsW)
  have c0 := hx.c0
  have c1 := hx.c1
  have HB := hid hb
  have HX := hid hx
  have HY := hid hy
  have HW := hid hW0
  have HSZ := hid hsz
  have HS := hid hs
  obtain ⟨r, hr⟩ : ∃ r, r = popR h l k := ⟨_, rfl⟩
  rw [← hr]
  clear hb hx hy hW0 hsz hsW hs
  cases hv : valid h l with
  | false =>
    have HE : Hid (r = bad 2) := hid (by rw [hr]; simp [popR, hv])
    have hc : chk h l = 2 := by simp [chk, hv]
    rw [hc] at CC
    clear hc hr hv
    go_enter Try.func12, Try.ntmps12
    go_upto_region 1 with fail
    rw [← HW.out]
    go_wp2_with fail
    refine CC.out.mono ?_
    rintro e w1 ⟨rfl, hb1⟩
    have hx1 := HX.out.below hb1
    have hy1 := HY.out.below hb1
    have hbw := HB.out.trans (hb1.mono HB.out.size)
    have HZ1 := hid (show w.heap.size + 2 ≤ w1.heap.size by have := hb1.size; have := HSZ.out; omega)
    have HSA := hid (HS.out.on hbw)
    have p0 := hx1.c0
    have p1 := hx1.c1
    have r0 := hy1.c0
    have r1 := hy1.c1
    have rf0 := hy1.f 0
    have rf1 := hy1.f 1
    have HX1 := hid hx1
    have HY1 := hid hy1
    have HB1 := hid hbw
    clear hb1 hx1 hy1 hbw c0 c1 CC HX HY HB HSZ HW
    go_wp2
    exact bodyPost_ret (results_cs Try.results12 _ _ (w.heap.size + 1) rfl (box2 HY1.out _ _)) rfl (made_bad (h := 0) (z := 0) (v := .bool true) ((HB1.out.setCell (by simp) _).setCell (by simp) _) HE.out)
  | true =>
    have hc : chk h l = 0 := by simp [chk, hv]
    rw [hc] at CC
    have HV := hid hv
    have HR := hid hr
    have HLN := hid HS.out.len
    obtain ⟨hh0, hh1, hne, hle⟩ := valid_yes hv
    have hn0 : 0 < n := by rw [← HLN.out]; exact List.length_pos_iff.2 hne
    have HLE := hid (show n ≤ 1000 by rw [← HLN.out]; exact hle)
    have hfi := lastF_fine hv
    clear hc hr hv hne hle
    obtain ⟨f, hf⟩ : ∃ f, lastF l = f := ⟨_, rfl⟩
    rw [hf] at hfi
    obtain ⟨op, ba, re, de⟩ := f
    obtain ⟨hb0, hb1', hr0, hr1⟩ := hfi
    dsimp only at hb0 hb1' hr0 hr1
    have k1 : IntKind.i64.wrap (h - ba) = h - ba := s64_in (by omega) (by omega)
    have HQ := hid (And.intro hh0 (And.intro hh1 (And.intro hb0 hb1')))
    by_cases g1 : k < 0
    · have HE : Hid (r = bad 2) := hid (by rw [HR.out]; simp [popR, HV.out, g1])
      clear hh0 hh1 hb0 hb1' hr0 hr1
      go_enter Try.func12, Try.ntmps12
      go_upto_region 1 with fail
      rw [← HW.out]
      go_wp2_with fail
      refine CC.out.mono ?_
      rintro e w1 ⟨rfl, hb1⟩
      have hx1 := HX.out.below hb1
      have hy1 := HY.out.below hb1
      have hbw := HB.out.trans (hb1.mono HB.out.size)
      have HZ1 := hid (show w.heap.size + 2 ≤ w1.heap.size by have := hb1.size; have := HSZ.out; omega)
      have HSA := hid (HS.out.on hbw)
      have p0 := hx1.c0
      have p1 := hx1.c1
      have r0 := hy1.c0
      have r1 := hy1.c1
      have rf0 := hy1.f 0
      have rf1 := hy1.f 1
      have HX1 := hid hx1
      have HY1 := hid hy1
      have HB1 := hid hbw
      clear hb1 hx1 hy1 hbw c0 c1 CC HX HY HB HSZ HW
      go_wp2
      exact bodyPost_ret (results_cs Try.results12 _ _ (w.heap.size + 1) rfl (box2 HY1.out _ _)) rfl (made_bad (h := 0) (z := 0) (v := .bool true) ((HB1.out.setCell (by simp) _).setCell (by simp) _) HE.out)
    have HR1 : Hid (r = if (without h k ⟨op, ba, re, de⟩).2 = 0 then ⟨(without h k ⟨op, ba, re, de⟩).1, l, 0⟩ else bad (without h k ⟨op, ba, re, de⟩).2) := hid (by rw [HR.out]; simp [popR, HV.out, g1, hf])
    have HWI : Hid (without h k ⟨op, ba, re, de⟩ = if h - ba < k ∧ de = false then (0, 200) else (if ba ≤ h - k then h - k else ba, 0)) := rfl
    clear HR HV hh0 hh1 hb0 hb1' hr0 hr1
    by_cases g2 : h - ba < k
    · cases de with
      | false =>
        have HE : Hid (r = bad 200) := hid (by rw [HR1.out, HWI.out]; simp [g2])
        clear HR1 HWI
        go_enter Try.func12, Try.ntmps12
        go_upto_region 1 with fail
        rw [← HW.out]
        go_wp2_with fail
        refine CC.out.mono ?_
        rintro e w1 ⟨rfl, hb1⟩
        have hx1 := HX.out.below hb1
        have hy1 := HY.out.below hb1
        have hbw := HB.out.trans (hb1.mono HB.out.size)
        have HZ1 := hid (show w.heap.size + 2 ≤ w1.heap.size by have := hb1.size; have := HSZ.out; omega)
        have HSA := hid (HS.out.on hbw)
        have p0 := hx1.c0
        have p1 := hx1.c1
        have r0 := hy1.c0
        have r1 := hy1.c1
        have rf0 := hy1.f 0
        have rf1 := hy1.f 1
        have HX1 := hid hx1
        have HY1 := hid hy1
        have HB1 := hid hbw
        clear hb1 hx1 hy1 hbw c0 c1 CC HX HY HB HSZ HW
        have CLA := hid (last_any h a n c l w1 HSA.out hn0)
        rw [hf] at CLA
        dsimp only at CLA
        go_wp2_with fail
        refine CLA.out.mono ?_
        rintro e w2 ⟨rfl, hb2⟩
        have hp2 := HX1.out.below hb2
        have hy2 := HY1.out.below hb2
        have HB2 := hid (HB1.out.trans (hb2.mono HB1.out.size))
        have HSA2 := hid (HSA.out.on hb2)
        have HZ2 := hid (show w.heap.size + 2 ≤ w2.heap.size by have := hb2.size; have := HZ1.out; omega)
        have p0 := hp2.c0
        have p1 := hp2.c1
        have HP2 := hid hp2
        have HY2 := hid hy2
        clear hp2 hy2 hb2 CLA HX1 HY1 HB1 HSA r0 r1 rf0 rf1
        go_upto_region 4 with fail
        obtain ⟨w3, hw3⟩ : ∃ w3, w3 = w2.alloc (.cells #[.int .i64 op, .int .i64 ba, .int .i64 re, .bool false] 46) := ⟨_, rfl⟩
        rw [← hw3]
        have hA : Below w2.heap.size w2 w3 := by rw [hw3]; exact (Below.refl _ _).alloc (Nat.le_refl _) _
        have hfb : w3.heap[w2.heap.size]? = some (.cells #[.int .i64 op, .int .i64 ba, .int .i64 re, .bool false] 46 (0, 0)) := by rw [hw3]; exact heap_alloc_new w2 _
        have hp3 := HP2.out.below hA
        have hy3 := HY2.out.below hA
        have HB3 := hid (HB2.out.trans (hA.mono HB2.out.size))
        have HSA3 := hid (HSA2.out.on hA)
        have HZ3 := hid (show w.heap.size + 2 ≤ w3.heap.size by have := hA.size; have := HZ2.out; omega)
        have HF3 := hid (Array.getElem?_eq_some_iff.1 hfb).1
        have p0 := hp3.c0
        have p1 := hp3.c1
        have r0 := hy3.c0
        have r1 := hy3.c1
        have rf0 := hy3.f 0
        have rf1 := hy3.f 1
        have f0 : w3.cell? ⟨w2.heap.size, 0, none⟩ = some (.int .i64 op) := cell_of_row w3 _ 0 _ _ _ hfb
        have f1 : w3.cell? ⟨w2.heap.size, 1, none⟩ = some (.int .i64 ba) := cell_of_row w3 _ 1 _ _ _ hfb
        have f2 : w3.cell? ⟨w2.heap.size, 2, none⟩ = some (.int .i64 re) := cell_of_row w3 _ 2 _ _ _ hfb
        have f3 : w3.cell? ⟨w2.heap.size, 3, none⟩ = some (.bool false) := cell_of_row w3 _ 3 _ _ _ hfb
        have HFB := hid hfb
        have HP3 := hid hp3
        have HY3 := hid hy3
        clear hw3 hA hfb hp3 hy3 HP2 HY2 HB2 HSA2
        obtain ⟨gf, hgf⟩ : ∃ gf, gf = w2.heap.size := ⟨_, rfl⟩
        rw [← hgf] at f0 f1 f2 f3 HFB HF3 ⊢
        clear hgf
        go_wp2
        exact bodyPost_ret (results_cs Try.results12 _ _ (w.heap.size + 1) rfl (box2 HY3.out _ _)) rfl (made_bad (h := 0) (z := 0) (v := .bool true) ((HB3.out.setCell (by simp) _).setCell (by simp) _) HE.out)
      | true =>
        have hmin : min k (h - ba) = h - ba := by omega
        have HE : Hid (r = ⟨ba, l, 0⟩) := hid (by rw [HR1.out, HWI.out]; simp; omega)
        have k2 : IntKind.i64.wrap (h - (h - ba)) = ba := by rw [s64_in (by have := HQ.out; omega) (by have := HQ.out; omega)]; omega
        clear HR1 HWI
        go_enter Try.func12, Try.ntmps12
        go_upto_region 1 with fail
        rw [← HW.out]
        go_wp2_with fail
        refine CC.out.mono ?_
        rintro e w1 ⟨rfl, hb1⟩
        have hx1 := HX.out.below hb1
        have hy1 := HY.out.below hb1
        have hbw := HB.out.trans (hb1.mono HB.out.size)
        have HZ1 := hid (show w.heap.size + 2 ≤ w1.heap.size by have := hb1.size; have := HSZ.out; omega)
        have HSA := hid (HS.out.on hbw)
        have p0 := hx1.c0
        have p1 := hx1.c1
        have r0 := hy1.c0
        have r1 := hy1.c1
        have rf0 := hy1.f 0
        have rf1 := hy1.f 1
        have HX1 := hid hx1
        have HY1 := hid hy1
        have HB1 := hid hbw
        clear hb1 hx1 hy1 hbw c0 c1 CC HX HY HB HSZ HW
        have CLA := hid (last_any h a n c l w1 HSA.out hn0)
        rw [hf] at CLA
        dsimp only at CLA
        go_wp2_with fail
        refine CLA.out.mono ?_
        rintro e w2 ⟨rfl, hb2⟩
        have hp2 := HX1.out.below hb2
        have hy2 := HY1.out.below hb2
        have HB2 := hid (HB1.out.trans (hb2.mono HB1.out.size))
        have HSA2 := hid (HSA.out.on hb2)
        have HZ2 := hid (show w.heap.size + 2 ≤ w2.heap.size by have := hb2.size; have := HZ1.out; omega)
        have p0 := hp2.c0
        have p1 := hp2.c1
        have HP2 := hid hp2
        have HY2 := hid hy2
        clear hp2 hy2 hb2 CLA HX1 HY1 HB1 HSA r0 r1 rf0 rf1
        go_upto_region 4 with fail
        obtain ⟨w3, hw3⟩ : ∃ w3, w3 = w2.alloc (.cells #[.int .i64 op, .int .i64 ba, .int .i64 re, .bool true] 46) := ⟨_, rfl⟩
        rw [← hw3]
        have hA : Below w2.heap.size w2 w3 := by rw [hw3]; exact (Below.refl _ _).alloc (Nat.le_refl _) _
        have hfb : w3.heap[w2.heap.size]? = some (.cells #[.int .i64 op, .int .i64 ba, .int .i64 re, .bool true] 46 (0, 0)) := by rw [hw3]; exact heap_alloc_new w2 _
        have hp3 := HP2.out.below hA
        have hy3 := HY2.out.below hA
        have HB3 := hid (HB2.out.trans (hA.mono HB2.out.size))
        have HSA3 := hid (HSA2.out.on hA)
        have HZ3 := hid (show w.heap.size + 2 ≤ w3.heap.size by have := hA.size; have := HZ2.out; omega)
        have HF3 := hid (Array.getElem?_eq_some_iff.1 hfb).1
        have p0 := hp3.c0
        have p1 := hp3.c1
        have r0 := hy3.c0
        have r1 := hy3.c1
        have rf0 := hy3.f 0
        have rf1 := hy3.f 1
        have f0 : w3.cell? ⟨w2.heap.size, 0, none⟩ = some (.int .i64 op) := cell_of_row w3 _ 0 _ _ _ hfb
        have f1 : w3.cell? ⟨w2.heap.size, 1, none⟩ = some (.int .i64 ba) := cell_of_row w3 _ 1 _ _ _ hfb
        have f2 : w3.cell? ⟨w2.heap.size, 2, none⟩ = some (.int .i64 re) := cell_of_row w3 _ 2 _ _ _ hfb
        have f3 : w3.cell? ⟨w2.heap.size, 3, none⟩ = some (.bool true) := cell_of_row w3 _ 3 _ _ _ hfb
        have HFB := hid hfb
        have HP3 := hid hp3
        have HY3 := hid hy3
        clear hw3 hA hfb hp3 hy3 HP2 HY2 HB2 HSA2
        obtain ⟨gf, hgf⟩ : ∃ gf, gf = w2.heap.size := ⟨_, rfl⟩
        rw [← hgf] at f0 f1 f2 f3 HFB HF3 ⊢
        clear hgf
        have CWI := hid (with_any h a n c ba a n c l w3 HLN.out HSA3.out.rows (by have := HLE.out; omega))
        go_wp2_with fail
        refine CWI.out.mono ?_
        rintro e w4 ⟨a2, c2, rfl, ho2, hb2⟩
        have hy2 := HY3.out.below hb2
        have r0 := hy2.c0
        have r1 := hy2.c1
        have rf0 := hy2.f 0
        have rf1 := hy2.f 1
        have HY2 := hid hy2
        have HO2 := hid ho2
        have HB2 := hid (HB3.out.trans (hb2.mono HB3.out.size))
        clear hy2 ho2 hb2 CWI HFB f0 f1 f2 f3
        go_wp2
        exact bodyPost_ret (results_cs Try.results12 _ _ (w.heap.size + 1) rfl (box2 HY2.out _ _)) rfl (made_ok HE.out ((HO2.out.set (by show w.heap.size + 1 < _; have := HZ3.out; omega) _).set (by show w.heap.size + 1 < _; have := HZ3.out; omega) _ |>.mono (by have := HZ3.out; omega)) ((HB2.out.setCell (by simp) _).setCell (by simp) _))
    · have hmin : min k (h - ba) = k := by omega
      have hwo : without h k ⟨op, ba, re, de⟩ = (h - k, 0) := by rw [HWI.out, if_neg (fun hh => g2 hh.1), if_pos (by omega)]
      have HE : Hid (r = ⟨h - k, l, 0⟩) := hid (by rw [HR1.out, hwo]; rfl)
      have k2 : IntKind.i64.wrap (h - k) = h - k := s64_in (by have := HQ.out; omega) (by have := HQ.out; omega)
      clear HR1 HWI hwo
      go_enter Try.func12, Try.ntmps12
      go_upto_region 1 with fail
      rw [← HW.out]
      go_wp2_with fail
      refine CC.out.mono ?_
      rintro e w1 ⟨rfl, hb1⟩
      have hx1 := HX.out.below hb1
      have hy1 := HY.out.below hb1
      have hbw := HB.out.trans (hb1.mono HB.out.size)
      have HZ1 := hid (show w.heap.size + 2 ≤ w1.heap.size by have := hb1.size; have := HSZ.out; omega)
      have HSA := hid (HS.out.on hbw)
      have p0 := hx1.c0
      have p1 := hx1.c1
      have r0 := hy1.c0
      have r1 := hy1.c1
      have rf0 := hy1.f 0
      have rf1 := hy1.f 1
      have HX1 := hid hx1
      have HY1 := hid hy1
      have HB1 := hid hbw
      clear hb1 hx1 hy1 hbw c0 c1 CC HX HY HB HSZ HW
      have CLA := hid (last_any h a n c l w1 HSA.out hn0)
      rw [hf] at CLA
      dsimp only at CLA
      go_wp2_with fail
      refine CLA.out.mono ?_
      rintro e w2 ⟨rfl, hb2⟩
      have hp2 := HX1.out.below hb2
      have hy2 := HY1.out.below hb2
      have HB2 := hid (HB1.out.trans (hb2.mono HB1.out.size))
      have HSA2 := hid (HSA.out.on hb2)
      have HZ2 := hid (show w.heap.size + 2 ≤ w2.heap.size by have := hb2.size; have := HZ1.out; omega)
      have p0 := hp2.c0
      have p1 := hp2.c1
      have HP2 := hid hp2
      have HY2 := hid hy2
      clear hp2 hy2 hb2 CLA HX1 HY1 HB1 HSA r0 r1 rf0 rf1
      go_upto_region 4 with fail
      obtain ⟨w3, hw3⟩ : ∃ w3, w3 = w2.alloc (.cells #[.int .i64 op, .int .i64 ba, .int .i64 re, .bool de] 46) := ⟨_, rfl⟩
      rw [← hw3]
      have hA : Below w2.heap.size w2 w3 := by rw [hw3]; exact (Below.refl _ _).alloc (Nat.le_refl _) _
      have hfb : w3.heap[w2.heap.size]? = some (.cells #[.int .i64 op, .int .i64 ba, .int .i64 re, .bool de] 46 (0, 0)) := by rw [hw3]; exact heap_alloc_new w2 _
      have hp3 := HP2.out.below hA
      have hy3 := HY2.out.below hA
      have HB3 := hid (HB2.out.trans (hA.mono HB2.out.size))
      have HSA3 := hid (HSA2.out.on hA)
      have HZ3 := hid (show w.heap.size + 2 ≤ w3.heap.size by have := hA.size; have := HZ2.out; omega)
      have HF3 := hid (Array.getElem?_eq_some_iff.1 hfb).1
      have p0 := hp3.c0
      have p1 := hp3.c1
      have r0 := hy3.c0
      have r1 := hy3.c1
      have rf0 := hy3.f 0
      have rf1 := hy3.f 1
      have f0 : w3.cell? ⟨w2.heap.size, 0, none⟩ = some (.int .i64 op) := cell_of_row w3 _ 0 _ _ _ hfb
      have f1 : w3.cell? ⟨w2.heap.size, 1, none⟩ = some (.int .i64 ba) := cell_of_row w3 _ 1 _ _ _ hfb
      have f2 : w3.cell? ⟨w2.heap.size, 2, none⟩ = some (.int .i64 re) := cell_of_row w3 _ 2 _ _ _ hfb
      have f3 : w3.cell? ⟨w2.heap.size, 3, none⟩ = some (.bool de) := cell_of_row w3 _ 3 _ _ _ hfb
      have HFB := hid hfb
      have HP3 := hid hp3
      have HY3 := hid hy3
      clear hw3 hA hfb hp3 hy3 HP2 HY2 HB2 HSA2
      obtain ⟨gf, hgf⟩ : ∃ gf, gf = w2.heap.size := ⟨_, rfl⟩
      rw [← hgf] at f0 f1 f2 f3 HFB HF3 ⊢
      clear hgf
      have CWI := hid (with_any h a n c (h - k) a n c l w3 HLN.out HSA3.out.rows (by have := HLE.out; omega))
      go_wp2_with fail
      refine CWI.out.mono ?_
      rintro e w4 ⟨a2, c2, rfl, ho2, hb2⟩
      have hy2 := HY3.out.below hb2
      have r0 := hy2.c0
      have r1 := hy2.c1
      have rf0 := hy2.f 0
      have rf1 := hy2.f 1
      have HY2 := hid hy2
      have HO2 := hid ho2
      have HB2 := hid (HB3.out.trans (hb2.mono HB3.out.size))
      clear hy2 ho2 hb2 CWI HFB f0 f1 f2 f3
      go_wp2
      exact bodyPost_ret (results_cs Try.results12 _ _ (w.heap.size + 1) rfl (box2 HY2.out _ _)) rfl (made_ok HE.out ((HO2.out.set (by show w.heap.size + 1 < _; have := HZ3.out; omega) _).set (by show w.heap.size + 1 < _; have := HZ3.out; omega) _ |>.mono (by have := HZ3.out; omega)) ((HB2.out.setCell (by simp) _).setCell (by simp) _))
end Go.Proofs.Ytnfpfagojeieeaa.Stk
