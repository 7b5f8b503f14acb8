/-
  STACK: New, Label and the document's by contract (tools/gen_stkref.py).
-/
import Derived.Test.YtnfpfagojeieeaaStkPush
import Derived.Test.YtnfpfagojeieeaaStkCheckR
import Derived.Deep.Cut
namespace Go.Proofs.Ytnfpfagojeieeaa.Stk
open Go.RowKit
set_option linter.unusedVariables false

theorem lit_own (w : World) (f : Fr) : OwnF w.heap.size (w.alloc (.cells #[.int .i64 f.op, .int .i64 f.ba, .int .i64 f.re, .bool f.de] 46)) (.slice (some ⟨w.heap.size, 0, none⟩) 1 1) [f] := by
  refine ⟨?_, fours _⟩
  have h := World.ownsRow_lit (base := w.heap.size) (e := 46) (size := 4) w #[.int .i64 f.op, .int .i64 f.ba, .int .i64 f.re, .bool f.de] 1 (Nat.le_refl _) (by unfold maxLen; omega) rfl
  simpa [Fr.v] using h
theorem new_world (w : World) (re : Int) : Bx ((w.alloc (.cells #[.int .i64 0, .slice (some ⟨w.heap.size + 1, 0, none⟩) 1 1] 24)).alloc (.cells #[.int .i64 0, .int .i64 0, .int .i64 re, .bool false] 46)) w.heap.size (.int .i64 0) (.slice (some ⟨w.heap.size + 1, 0, none⟩) 1 1) ∧
    OwnF w.heap.size ((w.alloc (.cells #[.int .i64 0, .slice (some ⟨w.heap.size + 1, 0, none⟩) 1 1] 24)).alloc (.cells #[.int .i64 0, .int .i64 0, .int .i64 re, .bool false] 46)) (.slice (some ⟨w.heap.size + 1, 0, none⟩) 1 1) [⟨0, 0, re, false⟩] ∧
    Below w.heap.size w ((w.alloc (.cells #[.int .i64 0, .slice (some ⟨w.heap.size + 1, 0, none⟩) 1 1] 24)).alloc (.cells #[.int .i64 0, .int .i64 0, .int .i64 re, .bool false] 46)) := by
  refine ⟨(Bx.made w _ _).below ((Below.refl _ _).alloc (Nat.le_refl _) _), ?_, ((Below.refl _ _).alloc (Nat.le_refl _) _).alloc (by simp) _⟩
  have h := lit_own (w.alloc (.cells #[.int .i64 0, .slice (some ⟨w.heap.size + 1, 0, none⟩) 1 1] 24)) ⟨0, 0, re, false⟩
  rw [World.size_alloc] at h
  exact h.mono (by omega)
set_option maxRecDepth 100000 in
set_option maxHeartbeats 4000000 in
theorem new_any (re : Int) (w : World) : Calls Try.prog 21 #[.int .i64 re] w fun e w' => MadeP w (newR re) e w' := by
  obtain ⟨W0, hW0⟩ : ∃ W0, W0 = w.alloc (.cells #[.int .i64 0, .slice none 0 0] 24) := ⟨_, rfl⟩
  have hy : Bx W0 w.heap.size (.int .i64 0) (.slice none 0 0) := by rw [hW0]; exact Bx.made w _ _
  have hb : Below w.heap.size w W0 := by rw [hW0]; exact (Below.refl _ _).alloc (Nat.le_refl _) _
  have hsz : W0.heap.size = w.heap.size + 1 := by rw [hW0]; simp
  have HB := hid hb
  have HY := hid hy
  have HW := hid hW0
  have HS := hid hsz
  have r0 := hy.c0
  have r1 := hy.c1
  have rf0 := hy.f 0
  have rf1 := hy.f 1
  have CR := hid (fun W => wrongResults_any re W)
  obtain ⟨r, hr⟩ : ∃ r, r = newR re := ⟨_, rfl⟩
  rw [← hr]
  have HR1 : Hid (r = if wrongRe re = true then bad 2 else ⟨0, [⟨0, 0, re, false⟩], 0⟩) := hid (by rw [hr]; simp [newR])
  have HQ : Hid (wrongRe re = (decide (re < 0) || decide (1 < re))) := rfl
  clear hy hb hW0 hsz hr
  obtain ⟨q, hq⟩ : ∃ q, wrongRe re = q := ⟨_, rfl⟩
  rw [hq] at CR HR1
  clear hq HQ
  cases q with
  | true =>
    have HE : Hid (r = bad 2) := HR1.out
    clear HR1
    go_enter Try.func21, Try.ntmps21
    go_upto_region 1 with fail
    rw [← HW.out]
    go_wp2_with fail
    refine (CR.out _).mono ?_
    rintro e w1 ⟨rfl, rfl⟩
    go_wp2
    exact bodyPost_ret (results_cs Try.results21 _ _ w.heap.size rfl (box2 HY.out _ _)) rfl (made_bad (h := 0) (z := 0) (v := .bool true) ((HB.out.setCell (by simp) _).setCell (by simp) _) HE.out)
  | false =>
    have HE : Hid (r = ⟨0, [⟨0, 0, re, false⟩], 0⟩) := HR1.out
    clear HR1
    go_enter Try.func21, Try.ntmps21
    go_wp2_with fail
    refine (CR.out _).mono ?_
    rintro e w1 ⟨rfl, rfl⟩
    go_wp2
    obtain ⟨n1, n2, n3⟩ := new_world w re
    exact bodyPost_ret (results_cs Try.results21 _ _ w.heap.size rfl n1) rfl (by show MadeP w r _ _; rw [HE.out]; exact ⟨_, _, _, rfl, n2, n3⟩)
set_option maxRecDepth 100000 in
set_option maxHeartbeats 4000000 in
theorem refNew_any (re : Int) (w : World) : Calls Try.prog 22 #[.int .i64 re] w fun e w' => MadeP w (newR re) e w' := by
  obtain ⟨W0, hW0⟩ : ∃ W0, W0 = w.alloc (.cells #[.int .i64 0, .slice none 0 0] 24) := ⟨_, rfl⟩
  have hy : Bx W0 w.heap.size (.int .i64 0) (.slice none 0 0) := by rw [hW0]; exact Bx.made w _ _
  have hb : Below w.heap.size w W0 := by rw [hW0]; exact (Below.refl _ _).alloc (Nat.le_refl _) _
  have hsz : W0.heap.size = w.heap.size + 1 := by rw [hW0]; simp
  have HB := hid hb
  have HY := hid hy
  have HW := hid hW0
  have HS := hid hsz
  have r0 := hy.c0
  have r1 := hy.c1
  have rf0 := hy.f 0
  have rf1 := hy.f 1
  have CR := hid (fun W => wrongResults_any re W)
  obtain ⟨r, hr⟩ : ∃ r, r = newR re := ⟨_, rfl⟩
  rw [← hr]
  have HR1 : Hid (r = if wrongRe re = true then bad 2 else ⟨0, [⟨0, 0, re, false⟩], 0⟩) := hid (by rw [hr]; simp [newR])
  have HQ : Hid (wrongRe re = (decide (re < 0) || decide (1 < re))) := rfl
  clear hy hb hW0 hsz hr
  clear CR
  by_cases g1 : re < 0
  · have HE : Hid (r = bad 2) := hid (by rw [HR1.out, HQ.out]; simp [g1])
    clear HR1 HQ
    go_enter Try.func22, Try.ntmps22
    go_upto_region 1 with fail
    rw [← HW.out]
    go_wp2
    exact bodyPost_ret (results_cs Try.results22 _ _ w.heap.size rfl (box2 HY.out _ _)) rfl (made_bad (h := 0) (z := 0) (v := .bool true) ((HB.out.setCell (by simp) _).setCell (by simp) _) HE.out)
  by_cases g2 : 1 < re
  · have HE : Hid (r = bad 2) := hid (by rw [HR1.out, HQ.out]; simp [g2])
    clear HR1 HQ
    go_enter Try.func22, Try.ntmps22
    go_upto_region 1 with fail
    rw [← HW.out]
    go_wp2
    exact bodyPost_ret (results_cs Try.results22 _ _ w.heap.size rfl (box2 HY.out _ _)) rfl (made_bad (h := 0) (z := 0) (v := .bool true) ((HB.out.setCell (by simp) _).setCell (by simp) _) HE.out)
  · have HE : Hid (r = ⟨0, [⟨0, 0, re, false⟩], 0⟩) := hid (by rw [HR1.out, HQ.out]; simp [g1, g2])
    clear HR1 HQ
    go_enter Try.func22, Try.ntmps22
    go_wp2
    obtain ⟨n1, n2, n3⟩ := new_world w re
    exact bodyPost_ret (results_cs Try.results22 _ _ w.heap.size rfl n1) rfl (by show MadeP w r _ _; rw [HE.out]; exact ⟨_, _, _, rfl, n2, n3⟩)
set_option maxRecDepth 100000 in
set_option maxHeartbeats 4000000 in
theorem label_any (h : Int) (a : Option Addr) (n c : Nat) (l : List Fr) (k : Int) (w : World) (hs : StAt w.heap.size w a n c l) :
    Calls Try.prog 19 #[.agg #[.int .i64 h, .slice a n c], .int .i64 k] w fun e w' => e = .returned (.tuple #[.int .i64 (labelR h l k).1, .int .i64 (labelR h l k).2]) ∧ Below w.heap.size w w' := by
  obtain ⟨W0, hW0⟩ : ∃ W0, W0 = w.alloc (.cells #[.int .i64 h, .slice a n c] 24) := ⟨_, rfl⟩
  have hx : Bx W0 w.heap.size (.int .i64 h) (.slice a n c) := by rw [hW0]; exact Bx.made w _ _
  have hb : Below w.heap.size w W0 := by rw [hW0]; exact (Below.refl _ _).alloc (Nat.le_refl _) _
  have hsW := hs.on hb
  have CC := hid (check_any h a n c l W0 hsW)
  have c0 := hx.c0
  have c1 := hx.c1
  have HB := hid hb
  have HX := hid hx
  have HW := hid hW0
  have HS := hid hs
  obtain ⟨r, hr⟩ : ∃ r, r = labelR h l k := ⟨_, rfl⟩
  rw [← hr]
  clear hs hsW hx hb hW0
  cases hv : valid h l with
  | false =>
    have HE : Hid (r = (0, 2)) := hid (by rw [hr]; simp [labelR, hv])
    have hc : chk h l = 2 := by simp [chk, hv]
    rw [hc] at CC
    clear hc hr hv
    go_enter Try.func19, Try.ntmps19
    go_upto_region 1 with fail
    rw [← HW.out]
    go_wp2_with fail
    refine CC.out.mono ?_
    rintro e w1 ⟨rfl, hb1⟩
    have HB1 := hid (HB.out.trans (hb1.mono HB.out.size))
    clear hb1
    go_wp2
    go_ret2
    exact ⟨by rw [HE.out]; rfl, HB1.out⟩
  | true =>
    have hc : chk h l = 0 := by simp [chk, hv]
    rw [hc] at CC
    have HR1 : Hid (r = if k < 0 ∨ (l.length : Int) ≤ k then (0, 6) else if (l.getD (l.length - 1 - k.toNat) Fr.none).op = 3 then (0, 0) else ((l.getD (l.length - 1 - k.toNat) Fr.none).re, 0)) := hid (by rw [hr]; simp only [labelR, hv]; rfl)
    obtain ⟨-, -, hne, hle⟩ := valid_yes hv
    have hl := HS.out.len
    rw [hl] at HR1 hle
    have hn0 : 0 < n := by rw [← hl]; exact List.length_pos_iff.2 hne
    have PRE : ∀ (P : Prop), P → P := fun _ h => h
    clear hc hr hv hne
    by_cases g1 : k < 0
    · have HE : Hid (r = (0, 6)) := hid (by rw [HR1.out, if_pos (.inl g1)])
      clear HR1
      go_enter Try.func19, Try.ntmps19
      go_upto_region 1 with fail
      rw [← HW.out]
      go_wp2_with fail
      refine CC.out.mono ?_
      rintro e w1 ⟨rfl, hb1⟩
      have HB1 := hid (HB.out.trans (hb1.mono HB.out.size))
      clear hb1
      go_wp2
      go_ret2
      exact ⟨by rw [HE.out]; rfl, HB1.out⟩
    by_cases g2 : (n : Int) ≤ k
    · have HE : Hid (r = (0, 6)) := hid (by rw [HR1.out, if_pos (.inr g2)])
      clear HR1
      go_enter Try.func19, Try.ntmps19
      go_upto_region 1 with fail
      rw [← HW.out]
      go_wp2_with fail
      refine CC.out.mono ?_
      rintro e w1 ⟨rfl, hb1⟩
      have hx1 := HX.out.below hb1
      have d0 := hx1.c0
      have d1 := hx1.c1
      have HB1 := hid (HB.out.trans (hb1.mono HB.out.size))
      clear hb1 hx1
      go_wp2
      go_ret2
      exact ⟨by rw [HE.out]; rfl, HB1.out⟩
    obtain ⟨j, hj⟩ : ∃ j : Nat, k = (n : Int) - 1 - j := ⟨n - 1 - k.toNat, by omega⟩
    have hjn : j < n := by omega
    have hjl : j < l.length := by rw [hl]; exact hjn
    have hjk : n - 1 - k.toNat = j := by omega
    have hget : l.getD j Fr.none = l[j] := by rw [List.getD_eq_getElem?_getD, List.getElem?_eq_getElem hjl]; rfl
    rw [if_neg (by omega), hjk, hget] at HR1
    obtain ⟨b, off, rfl, hbb, hcc⟩ := HS.out.get hn0
    obtain ⟨e0, e1, e2, e3⟩ := hcc j hjl
    obtain ⟨f, hf⟩ : ∃ f, l[j] = f := ⟨_, rfl⟩
    rw [hf] at e0 e1 e2 e3 HR1
    obtain ⟨op, ba, re, de⟩ := f
    dsimp only at e0 e1 e2 e3 HR1
    have k1 : IntKind.i64.wrap ((n : Int) - 1) = (n : Int) - 1 := s64_in (by omega) (by omega)
    have k2 : IntKind.i64.wrap ((n : Int) - 1 - k) = (j : Int) := by rw [s64_in (by omega) (by omega)]; omega
    have hji : (j : Int) < (n : Int) := by omega
    have hbs : b < w.heap.size := hbb
    have HEE := hid (And.intro e0 (And.intro e1 (And.intro e2 e3)))
    clear hf hget hjk hj hjl hcc e0 e1 e2 e3 HS
    go_enter Try.func19, Try.ntmps19
    go_upto_region 1 with fail
    rw [← HW.out]
    go_wp2_with fail
    refine CC.out.mono ?_
    rintro e w1 ⟨rfl, hb1⟩
    have hx1 := HX.out.below hb1
    have hbw := HB.out.trans (hb1.mono HB.out.size)
    have d0 := hx1.c0
    have d1 := hx1.c1
    have e0 := (hbw.cell (p := ⟨b, off + j * 4, none⟩) hbs).trans HEE.out.1
    have e1 := (hbw.cell (p := ⟨b, off + j * 4 + 1, none⟩) hbs).trans HEE.out.2.1
    have e2 := (hbw.cell (p := ⟨b, off + j * 4 + 2, none⟩) hbs).trans HEE.out.2.2.1
    have e3 := (hbw.cell (p := ⟨b, off + j * 4 + 3, none⟩) hbs).trans HEE.out.2.2.2
    have HB1 := hid hbw
    have HA := hid (hbw.alloc hbw.size (.cells #[.int .i64 op, .int .i64 ba, .int .i64 re, .bool de] 46))
    clear hb1 hx1 hbw HEE c0 c1
    by_cases g3 : op = 3
    · subst g3
      have HE : Hid (r = (0, 0)) := hid (by rw [HR1.out]; rfl)
      clear HR1
      go_wp2
      go_ret2
      exact ⟨by rw [HE.out]; rfl, HA.out⟩
    · have HE : Hid (r = (re, 0)) := hid (by rw [HR1.out, if_neg g3])
      have g3b : (op == 3) = false := by simp [g3]
      clear HR1
      go_wp2
      go_ret2
      exact ⟨by rw [HE.out]; rfl, HA.out⟩
set_option maxRecDepth 100000 in
set_option maxHeartbeats 4000000 in
theorem refLabel_any (h : Int) (a : Option Addr) (n c : Nat) (l : List Fr) (k : Int) (w : World) (hs : StAt w.heap.size w a n c l) :
    Calls Try.prog 20 #[.agg #[.int .i64 h, .slice a n c], .int .i64 k] w fun e w' => e = .returned (.tuple #[.int .i64 (labelR h l k).1, .int .i64 (labelR h l k).2]) ∧ Below w.heap.size w w' := by
  obtain ⟨W0, hW0⟩ : ∃ W0, W0 = w.alloc (.cells #[.int .i64 h, .slice a n c] 24) := ⟨_, rfl⟩
  have hx : Bx W0 w.heap.size (.int .i64 h) (.slice a n c) := by rw [hW0]; exact Bx.made w _ _
  have hb : Below w.heap.size w W0 := by rw [hW0]; exact (Below.refl _ _).alloc (Nat.le_refl _) _
  have hsW := hs.on hb
  have CC := hid (refCheck_any h a n c l W0 hsW)
  have c0 := hx.c0
  have c1 := hx.c1
  have HB := hid hb
  have HX := hid hx
  have HW := hid hW0
  have HS := hid hs
  obtain ⟨r, hr⟩ : ∃ r, r = labelR h l k := ⟨_, rfl⟩
  rw [← hr]
  clear hs hsW hx hb hW0
  cases hv : valid h l with
  | false =>
    have HE : Hid (r = (0, 2)) := hid (by rw [hr]; simp [labelR, hv])
    have hc : chk h l = 2 := by simp [chk, hv]
    rw [hc] at CC
    clear hc hr hv
    go_enter Try.func20, Try.ntmps20
    go_upto_region 1 with fail
    rw [← HW.out]
    go_wp2_with fail
    refine CC.out.mono ?_
    rintro e w1 ⟨rfl, hb1⟩
    have HB1 := hid (HB.out.trans (hb1.mono HB.out.size))
    clear hb1
    go_wp2
    go_ret2
    exact ⟨by rw [HE.out]; rfl, HB1.out⟩
  | true =>
    have hc : chk h l = 0 := by simp [chk, hv]
    rw [hc] at CC
    have HR1 : Hid (r = if k < 0 ∨ (l.length : Int) ≤ k then (0, 6) else if (l.getD (l.length - 1 - k.toNat) Fr.none).op = 3 then (0, 0) else ((l.getD (l.length - 1 - k.toNat) Fr.none).re, 0)) := hid (by rw [hr]; simp only [labelR, hv]; rfl)
    obtain ⟨-, -, hne, hle⟩ := valid_yes hv
    have hl := HS.out.len
    rw [hl] at HR1 hle
    have hn0 : 0 < n := by rw [← hl]; exact List.length_pos_iff.2 hne
    have PRE : ∀ (P : Prop), P → P := fun _ h => h
    clear hc hr hv hne
    by_cases g1 : k < 0
    · have HE : Hid (r = (0, 6)) := hid (by rw [HR1.out, if_pos (.inl g1)])
      clear HR1
      go_enter Try.func20, Try.ntmps20
      go_upto_region 1 with fail
      rw [← HW.out]
      go_wp2_with fail
      refine CC.out.mono ?_
      rintro e w1 ⟨rfl, hb1⟩
      have HB1 := hid (HB.out.trans (hb1.mono HB.out.size))
      clear hb1
      go_wp2
      go_ret2
      exact ⟨by rw [HE.out]; rfl, HB1.out⟩
    by_cases g2 : (n : Int) ≤ k
    · have HE : Hid (r = (0, 6)) := hid (by rw [HR1.out, if_pos (.inr g2)])
      clear HR1
      go_enter Try.func20, Try.ntmps20
      go_upto_region 1 with fail
      rw [← HW.out]
      go_wp2_with fail
      refine CC.out.mono ?_
      rintro e w1 ⟨rfl, hb1⟩
      have hx1 := HX.out.below hb1
      have d0 := hx1.c0
      have d1 := hx1.c1
      have HB1 := hid (HB.out.trans (hb1.mono HB.out.size))
      clear hb1 hx1
      go_wp2
      go_ret2
      exact ⟨by rw [HE.out]; rfl, HB1.out⟩
    obtain ⟨j, hj⟩ : ∃ j : Nat, k = (n : Int) - 1 - j := ⟨n - 1 - k.toNat, by omega⟩
    have hjn : j < n := by omega
    have hjl : j < l.length := by rw [hl]; exact hjn
    have hjk : n - 1 - k.toNat = j := by omega
    have hget : l.getD j Fr.none = l[j] := by rw [List.getD_eq_getElem?_getD, List.getElem?_eq_getElem hjl]; rfl
    rw [if_neg (by omega), hjk, hget] at HR1
    obtain ⟨b, off, rfl, hbb, hcc⟩ := HS.out.get hn0
    obtain ⟨e0, e1, e2, e3⟩ := hcc j hjl
    obtain ⟨f, hf⟩ : ∃ f, l[j] = f := ⟨_, rfl⟩
    rw [hf] at e0 e1 e2 e3 HR1
    obtain ⟨op, ba, re, de⟩ := f
    dsimp only at e0 e1 e2 e3 HR1
    have k1 : IntKind.i64.wrap ((n : Int) - 1) = (n : Int) - 1 := s64_in (by omega) (by omega)
    have k2 : IntKind.i64.wrap ((n : Int) - 1 - k) = (j : Int) := by rw [s64_in (by omega) (by omega)]; omega
    have hji : (j : Int) < (n : Int) := by omega
    have hbs : b < w.heap.size := hbb
    have HEE := hid (And.intro e0 (And.intro e1 (And.intro e2 e3)))
    clear hf hget hjk hj hjl hcc e0 e1 e2 e3 HS
    go_enter Try.func20, Try.ntmps20
    go_upto_region 1 with fail
    rw [← HW.out]
    go_wp2_with fail
    refine CC.out.mono ?_
    rintro e w1 ⟨rfl, hb1⟩
    have hx1 := HX.out.below hb1
    have hbw := HB.out.trans (hb1.mono HB.out.size)
    have d0 := hx1.c0
    have d1 := hx1.c1
    have e0 := (hbw.cell (p := ⟨b, off + j * 4, none⟩) hbs).trans HEE.out.1
    have e1 := (hbw.cell (p := ⟨b, off + j * 4 + 1, none⟩) hbs).trans HEE.out.2.1
    have e2 := (hbw.cell (p := ⟨b, off + j * 4 + 2, none⟩) hbs).trans HEE.out.2.2.1
    have e3 := (hbw.cell (p := ⟨b, off + j * 4 + 3, none⟩) hbs).trans HEE.out.2.2.2
    have HB1 := hid hbw
    have HA := hid (hbw.alloc hbw.size (.cells #[.int .i64 op, .int .i64 ba, .int .i64 re, .bool de] 46))
    clear hb1 hx1 hbw HEE c0 c1
    by_cases g3 : op = 3
    · subst g3
      have HE : Hid (r = (0, 0)) := hid (by rw [HR1.out]; rfl)
      clear HR1
      go_wp2
      go_ret2
      exact ⟨by rw [HE.out]; rfl, HA.out⟩
    · have HE : Hid (r = (re, 0)) := hid (by rw [HR1.out, if_neg g3])
      have g3b : (op == 3) = false := by simp [g3]
      clear HR1
      go_wp2
      go_ret2
      exact ⟨by rw [HE.out]; rfl, HA.out⟩
end Go.Proofs.Ytnfpfagojeieeaa.Stk
