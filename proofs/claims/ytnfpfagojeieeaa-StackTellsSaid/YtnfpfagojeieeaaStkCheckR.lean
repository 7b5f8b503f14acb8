/-
  STACK: the document's Check, by contract.
-/
import Derived.Test.YtnfpfagojeieeaaStkCheckC
import Derived.Deep.Cut
namespace Go.Proofs.Ytnfpfagojeieeaa.Stk
open Go.RowKit
set_option linter.unusedVariables false

set_option maxRecDepth 100000 in
set_option maxHeartbeats 4000000 in
theorem refCheck_any (h : Int) (a : Option Addr) (n c : Nat) (l : List Fr) (w : World) (hs : StAt w.heap.size w a n c l) :
    Calls Try.prog 24 #[.agg #[.int .i64 h, .slice a n c]] w fun e w' => e = .returned (.int .i64 (chk h l)) ∧ Below w.heap.size w w' := by
  have HL := hid hs.len
  obtain ⟨W1, hW1⟩ : ∃ W1, W1 = w.alloc (.cells #[.int .i64 h, .slice a n c] 24) := ⟨_, rfl⟩
  have HW := hid hW1
  have HB1 := hid ((Below.refl w.heap.size w).alloc (Nat.le_refl _) (.cells #[.int .i64 h, .slice a n c] 24))
  rw [← hW1] at HB1
  have x0 : W1.cell? ⟨w.heap.size, 0, none⟩ = some (.int .i64 h) := by rw [hW1]; go_simp
  have x1 : W1.cell? ⟨w.heap.size, 1, none⟩ = some (.slice a n c) := by rw [hW1]; go_simp
  have HSZ := hid (show w.heap.size + 1 = W1.heap.size by rw [hW1]; simp)
  have HI := hid (fun g0 g1 => chk_in (h := h) (l := l) g0 g1)
  have HT := hid (fun g => chk_low (h := h) (l := l) g)
  have HT2 := hid (fun g => chk_high (h := h) (l := l) g)
  obtain ⟨R, hR⟩ : ∃ R, chk h l = R := ⟨_, rfl⟩
  rw [hR] at HI HT HT2 ⊢
  clear hR hW1
  by_cases g0 : h < 0
  · have HF := hid (HT.out g0)
    clear HI HT HT2 hs
    obtain rfl := HW.out
    go_enter Try.func24, Try.ntmps24
    go_wp2
    go_ret
    exact ⟨ret_int HF.out.symm, HB1.out⟩
  by_cases g1 : 1073741824 < h
  · have HF := hid (HT2.out g1)
    clear HI HT HT2 hs
    obtain rfl := HW.out
    go_enter Try.func24, Try.ntmps24
    go_wp2
    go_ret
    exact ⟨ret_int HF.out.symm, HB1.out⟩
  have HR := hid (HI.out g0 g1)
  clear HI HT HT2
  by_cases g2 : n = 0
  · have HF : Hid (R = 2) := hid (by rw [HR.out, List.eq_nil_of_length_eq_zero (HL.out.trans g2)]; rfl)
    subst g2
    clear HR HL hs
    obtain rfl := HW.out
    go_enter Try.func24, Try.ntmps24
    go_wp2
    go_ret
    exact ⟨ret_int HF.out.symm, HB1.out⟩
  have g2i : ((n : Int) == 0) = false := by simp; omega
  have g2j : (0 : Int) < (n : Int) := by omega
  by_cases g3 : 1000 < n
  · have HF : Hid (R = 2) := hid (by rw [HR.out, badAll_many (by rw [HL.out]; exact g3)]; rfl)
    have g3i : (1000 : Int) < (n : Int) := by omega
    clear HR HL hs
    obtain rfl := HW.out
    go_enter Try.func24, Try.ntmps24
    go_wp2
    go_ret
    exact ⟨ret_int HF.out.symm, HB1.out⟩
  have g3i : ¬ (1000 : Int) < (n : Int) := by omega
  obtain ⟨b, off, rfl, hb, hc⟩ := hs.get (Nat.pos_of_ne_zero g2)
  have hl0 : 0 < l.length := by rw [HL.out]; omega
  have HCC := hid (fun (W : World) (hW : Below W1.heap.size W1 W) k (hk : k < l.length) => (by
    obtain ⟨g0, g1, g2, g3⟩ := hc k hk
    have hbw := HB1.out.trans (hW.mono HB1.out.size)
    exact ⟨(hbw.cell (p := ⟨b, off + k * 4, none⟩) hb).trans g0, (hbw.cell (p := ⟨b, off + k * 4 + 1, none⟩) hb).trans g1, (hbw.cell (p := ⟨b, off + k * 4 + 2, none⟩) hb).trans g2, (hbw.cell (p := ⟨b, off + k * 4 + 3, none⟩) hb).trans g3⟩ :
    W.cell? ⟨b, off + k * 4, none⟩ = some (.int .i64 l[k].op) ∧ W.cell? ⟨b, off + k * 4 + 1, none⟩ = some (.int .i64 l[k].ba) ∧ W.cell? ⟨b, off + k * 4 + 2, none⟩ = some (.int .i64 l[k].re) ∧ W.cell? ⟨b, off + k * 4 + 3, none⟩ = some (.bool l[k].de)))
  obtain ⟨c0, c1, -, -⟩ := HCC.out W1 (Below.refl _ _) 0 hl0
  rw [Nat.zero_mul, Nat.add_zero] at c0 c1
  have HX := hid (fun (h2 : l[0].op ≠ 0 ∨ l[0].ba ≠ 0) => badAll_first (h := h) hl0 h2)
  have HY := hid (fun (h2 : l[0].op = 0) (h3 : l[0].ba = 0) => badAll_rest (h := h) hl0 (by rw [HL.out]; omega) h2 h3)
  have HZ := hid (fun (h3 : l[0].ba = 0) => restP_first (h := h) hl0 h3)
  obtain ⟨B, hB⟩ : ∃ B, badAll h l = B := ⟨_, rfl⟩
  rw [hB] at HR HX HY
  obtain ⟨f, hf⟩ : ∃ f, l[0] = f := ⟨_, rfl⟩
  have HF0 : Hid (∀ hk : 0 < l.length, l[0]'hk = f) := hid fun _ => hf
  rw [hf] at c0 c1 HX HY HZ
  obtain ⟨op, ba, re, de⟩ := f
  dsimp only at c0 c1 HX HY HZ
  clear hf hB hc hs hl0
  by_cases g4 : op = 0
  rotate_left
  · have HF : Hid (R = 2) := hid (by rw [HR.out, HX.out (.inl g4)]; rfl)
    have q4 : (op != 0) = true := by simp [g4]
    clear HR HX HY HZ HL HCC HF0
    obtain rfl := HW.out
    go_enter Try.func24, Try.ntmps24
    go_wp2
    go_ret
    exact ⟨ret_int HF.out.symm, HB1.out⟩
  subst g4
  by_cases g5 : ba = 0
  rotate_left
  · have HF : Hid (R = 2) := hid (by rw [HR.out, HX.out (.inr g5)]; rfl)
    have q4 : (ba != 0) = true := by simp [g5]
    clear HR HX HY HZ HL HCC HF0
    obtain rfl := HW.out
    go_enter Try.func24, Try.ntmps24
    go_wp2
    go_ret
    exact ⟨ret_int HF.out.symm, HB1.out⟩
  subst g5
  have HR0 : Hid (R = if restP h l 0 then 2 else 0) := hid (by rw [HR.out, HY.out rfl rfl])
  have HZ0 := hid (HZ.out rfl)
  clear HR HX HY HZ
  have X0 := x0
  have X1 := x1
  have C0 := c0
  have C1 := c1
  rw [HW.out] at X0 X1 C0 C1
  go_enter Try.func24, Try.ntmps24
  go_wp2
  clear X0 X1 C0 C1
  go_loopw [3, 4, 5] (fun vb vi _ wr => ∃ k : Nat, ∃ b0 : Int, vi = .int .i64 k ∧ vb = .int .i64 b0 ∧ k ≤ n ∧ Hid (Below W1.heap.size W1 wr) ∧ Hid (R = if restP h l k then 2 else 0) ∧ Hid ((k = 0 ∧ b0 = 0) ∨ ∃ j, k = j + 1 ∧ b0 = (l.getD j Fr.none).ba)) (fun _ vi _ _ => n - (intOf vi).toNat)
  case atStart => exact ⟨0, 0, rfl, rfl, Nat.zero_le _, by show Below _ _ _; rw [HW.out]; exact Below.refl _ _, HR0.out, .inl ⟨rfl, rfl⟩⟩
  case round =>
    obtain ⟨k, b0, rfl, rfl, hk, HB, HI, HJ⟩ := hrel
    have t0 : wr.cell? ⟨w.heap.size, 0, none⟩ = some (.int .i64 h) := (HB.out.cell (p := ⟨w.heap.size, 0, none⟩) (by have := HSZ.out; show w.heap.size < _; omega)).trans x0
    have t1 : wr.cell? ⟨w.heap.size, 1, none⟩ = some (.slice (some ⟨b, off, none⟩) n c) := (HB.out.cell (p := ⟨w.heap.size, 1, none⟩) (by have := HSZ.out; show w.heap.size < _; omega)).trans x1
    clear c0 c1 x0 x1
    by_cases hlt : k < n
    rotate_left
    · obtain rfl : k = n := by omega
      have HF : Hid (R = 0) := hid (by rw [HI.out, ← HL.out, restP_end]; rfl)
      clear HI HJ
      go_wp2
      go_ret
      exact ⟨ret_int HF.out.symm, HB1.out.trans (HB.out.mono HB1.out.size)⟩
    have hkl : k < l.length := by rw [HL.out]; exact hlt
    obtain ⟨e0, e1, e2, e3⟩ := HCC.out wr HB.out k hkl
    have hki : (k : Int) < (n : Int) := by omega
    rcases HJ.out with ⟨hk0, hb0⟩ | ⟨j, hkj, hb0⟩
    · subst hb0
      have HK := hid hk0
      have hlk : l[k] = ⟨0, 0, re, de⟩ := by subst hk0; exact HF0.out hkl
      have HS : Hid (R = if wrongRe re || restP h l 1 then 2 else 0) := hid (by rw [HI.out, hk0, HZ0.out])
      have HG : Hid ((0 : Int) = (l.getD 0 Fr.none).ba) := hid (by subst hk0; rw [List.getD_eq_getElem?_getD, List.getElem?_eq_getElem hkl, HF0.out hkl]; rfl)
      rw [hlk] at e0 e1 e2 e3
      dsimp only at e0 e1 e2 e3
      clear hlk HK
      subst hk0
      rw [Nat.zero_mul, Nat.add_zero] at e0 e1 e2 e3
      obtain ⟨W2, hW2⟩ : ∃ W2, W2 = wr.alloc (.cells #[.int .i64 0, .int .i64 0, .int .i64 re, .bool de] 46) := ⟨_, rfl⟩
      have HW2 := hid hW2
      have hA := (Below.refl wr.heap.size wr).alloc (Nat.le_refl _) (.cells #[.int .i64 0, .int .i64 0, .int .i64 re, .bool de] 46)
      rw [← hW2] at hA
      have HB2 := hid (HB.out.trans (hA.mono HB.out.size))
      have z1 : W2.cell? ⟨wr.heap.size, 1, none⟩ = some (.int .i64 0) := by rw [hW2]; go_simp
      have z2 : W2.cell? ⟨wr.heap.size, 2, none⟩ = some (.int .i64 re) := by rw [hW2]; go_simp
      have t0' := keep hA t0
      have t1' := keep hA t1
      have g0' : decide (h < 0) = false := by simpa using g0
      clear hA hW2 HI HJ HF0
      by_cases d1 : re < 0
      · have HF : Hid (R = 2) := hid (by rw [HS.out]; simp [wrongRe, d1])
        clear HS HZ0 HL HCC HR0
        go_upto_region 8 with fail
        rw [← HW2.out]
        go_wp2
        go_ret
        exact ⟨ret_int HF.out.symm, HB1.out.trans (HB2.out.mono HB1.out.size)⟩
      by_cases d2 : 1 < re
      · have HF : Hid (R = 2) := hid (by rw [HS.out]; simp [wrongRe, d2])
        clear HS HZ0 HL HCC HR0
        go_upto_region 8 with fail
        rw [← HW2.out]
        go_wp2
        go_ret
        exact ⟨ret_int HF.out.symm, HB1.out.trans (HB2.out.mono HB1.out.size)⟩
      have HF : Hid (R = if restP h l 1 then 2 else 0) := hid (by rw [HS.out]; simp [wrongRe, d1, d2])
      clear HS HZ0 HR0
      go_upto_region 8 with fail
      rw [← HW2.out]
      go_wp2
      go_roundw
      case rel => exact ⟨1, 0, rfl, rfl, by omega, HB2.out, HF.out, .inr ⟨0, rfl, HG.out⟩⟩
      case measure => simp [intOf]; omega
    · have HK := hid hkj
      have HS : Hid (R = if badF h b0 l[k] || restP h l (k + 1) then 2 else 0) := hid (by subst hkj; rw [HI.out, restP_step hkl, hb0])
      have HG1 : Hid ((l.getD k Fr.none) = l[k]) := hid (by rw [List.getD_eq_getElem?_getD, List.getElem?_eq_getElem hkl]; rfl)
      obtain ⟨y, hye⟩ : ∃ y, l[k] = y := ⟨_, rfl⟩
      rw [hye] at e0 e1 e2 e3 HS HG1
      obtain ⟨yo, yb, yr, yd⟩ := y
      dsimp only at e0 e1 e2 e3 HS HG1
      obtain ⟨W2, hW2⟩ : ∃ W2, W2 = wr.alloc (.cells #[.int .i64 yo, .int .i64 yb, .int .i64 yr, .bool yd] 46) := ⟨_, rfl⟩
      have HW2 := hid hW2
      have hA := (Below.refl wr.heap.size wr).alloc (Nat.le_refl _) (.cells #[.int .i64 yo, .int .i64 yb, .int .i64 yr, .bool yd] 46)
      rw [← hW2] at hA
      have HB2 := hid (HB.out.trans (hA.mono HB.out.size))
      have z0 : W2.cell? ⟨wr.heap.size, 0, none⟩ = some (.int .i64 yo) := by rw [hW2]; go_simp
      have z1 : W2.cell? ⟨wr.heap.size, 1, none⟩ = some (.int .i64 yb) := by rw [hW2]; go_simp
      have z2 : W2.cell? ⟨wr.heap.size, 2, none⟩ = some (.int .i64 yr) := by rw [hW2]; go_simp
      have t0' := keep hA t0
      have t1' := keep hA t1
      have hj0 : (0 : Int) < (k : Int) := by omega
      obtain ⟨q, hq⟩ : ∃ q, opens yo = q := ⟨_, rfl⟩
      have CO := hid (fun W => lists_any yo W)
      rw [hq] at CO
      clear hA hW2 HI HJ HF0 hye hb0 HZ0 HR0 HCC hkj
      cases q with
      | false =>
        have HF : Hid (R = 2) := hid (by rw [HS.out]; simp [badF, hq])
        clear HS HL hq HG1
        go_upto_region 8 with fail
        rw [← HW2.out]
        go_wp2_with fail
        refine (CO.out _).mono ?_
        rintro e w1 ⟨rfl, rfl⟩
        go_wp2
        go_ret
        exact ⟨ret_int HF.out.symm, HB1.out.trans (HB2.out.mono HB1.out.size)⟩
      | true =>
      by_cases d1 : yb < b0
      · have HF : Hid (R = 2) := hid (by rw [HS.out]; simp [badF, hq, d1])
        clear HS HL hq HG1
        go_upto_region 8 with fail
        rw [← HW2.out]
        go_wp2_with fail
        refine (CO.out _).mono ?_
        rintro e w1 ⟨rfl, rfl⟩
        go_wp2
        go_ret
        exact ⟨ret_int HF.out.symm, HB1.out.trans (HB2.out.mono HB1.out.size)⟩
      by_cases d2 : h < yb
      · have HF : Hid (R = 2) := hid (by rw [HS.out]; simp [badF, hq, d1, d2])
        clear HS HL hq HG1
        go_upto_region 8 with fail
        rw [← HW2.out]
        go_wp2_with fail
        refine (CO.out _).mono ?_
        rintro e w1 ⟨rfl, rfl⟩
        go_wp2
        go_ret
        exact ⟨ret_int HF.out.symm, HB1.out.trans (HB2.out.mono HB1.out.size)⟩
      by_cases d3 : yr < 0
      · have HF : Hid (R = 2) := hid (by rw [HS.out]; simp [badF, hq, d1, d2, wrongRe, d3])
        clear HS HL hq HG1
        go_upto_region 8 with fail
        rw [← HW2.out]
        go_wp2_with fail
        refine (CO.out _).mono ?_
        rintro e w1 ⟨rfl, rfl⟩
        go_wp2
        go_ret
        exact ⟨ret_int HF.out.symm, HB1.out.trans (HB2.out.mono HB1.out.size)⟩
      by_cases d4 : 1 < yr
      · have HF : Hid (R = 2) := hid (by rw [HS.out]; simp [badF, hq, d1, d2, wrongRe, d3, d4])
        clear HS HL hq HG1
        go_upto_region 8 with fail
        rw [← HW2.out]
        go_wp2_with fail
        refine (CO.out _).mono ?_
        rintro e w1 ⟨rfl, rfl⟩
        go_wp2
        go_ret
        exact ⟨ret_int HF.out.symm, HB1.out.trans (HB2.out.mono HB1.out.size)⟩
      have HF : Hid (R = if restP h l (k + 1) then 2 else 0) := hid (by rw [HS.out]; simp [badF, hq, d1, d2, wrongRe, d3, d4])
      clear HS hq
      go_upto_region 8 with fail
      rw [← HW2.out]
      go_wp2_with fail
      refine (CO.out _).mono ?_
      rintro e w1 ⟨rfl, rfl⟩
      go_wp2
      go_roundw
      case rel => exact ⟨k + 1, yb, by go_num, rfl, by omega, HB2.out, HF.out, .inr ⟨k, rfl, by rw [HG1.out]⟩⟩
      case measure => simp [intOf]; omega
end Go.Proofs.Ytnfpfagojeieeaa.Stk
