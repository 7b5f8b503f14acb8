/-
  STACK: whether a stand is valid, by contract.
-/
import Derived.Test.YtnfpfagojeieeaaStkLeaf
import Derived.BigQuiet
import Derived.Deep.QuietTactic
namespace Go.Proofs.Ytnfpfagojeieeaa.Stk
open Go.RowKit
set_option linter.unusedVariables false

theorem drewn {B : Nat} {a w : World} (h : Below B a w) (n : Nat) : Below B a (w.drewN n) := ⟨h.os, h.tape, h.output, h.size, h.block⟩
/-- A stand in memory, below block n₀. -/
structure StAt (n₀ : Nat) (w : World) (a : Option Addr) (n c : Nat) (l : List Fr) : Prop where
  rows : Rows n₀ w a 4 (l.map Fr.v)
  len : l.length = n
  cap : n ≤ c
  fit : n ≤ 140737488351232
theorem StAt.below {n₀ : Nat} {w w' : World} {a : Option Addr} {n c : Nat} {l : List Fr} (hb : Below n₀ w w') (h : StAt n₀ w a n c l) : StAt n₀ w' a n c l := ⟨h.rows.below hb, h.len, h.cap, h.fit⟩
theorem StAt.more {n₀ n₁ : Nat} {w : World} {a : Option Addr} {n c : Nat} {l : List Fr} (hn : n₀ ≤ n₁) (h : StAt n₀ w a n c l) : StAt n₁ w a n c l := ⟨h.rows.more hn, h.len, h.cap, h.fit⟩
theorem StAt.on {w w' : World} {a : Option Addr} {n c : Nat} {l : List Fr} (h : StAt w.heap.size w a n c l) (hb : Below w.heap.size w w') : StAt w'.heap.size w' a n c l := (h.below hb).more hb.size
/-- Where the k-th frame lies. -/
theorem StAt.get {n₀ : Nat} {w : World} {a : Option Addr} {n c : Nat} {l : List Fr} (h : StAt n₀ w a n c l) (h0 : 0 < n) : ∃ b off, a = some ⟨b, off, none⟩ ∧ b < n₀ ∧ ∀ k (hk : k < l.length),
    w.cell? ⟨b, off + k * 4, none⟩ = some (.int .i64 l[k].op) ∧ w.cell? ⟨b, off + k * 4 + 1, none⟩ = some (.int .i64 l[k].ba) ∧ w.cell? ⟨b, off + k * 4 + 2, none⟩ = some (.int .i64 l[k].re) ∧ w.cell? ⟨b, off + k * 4 + 3, none⟩ = some (.bool l[k].de) := by
  have hl := h.len
  rcases h.rows with h1 | ⟨b, off, ha, hb, hc⟩
  · rw [List.map_eq_nil_iff] at h1; subst h1; simp at hl; omega
  · refine ⟨b, off, ha, hb, fun k hk => ?_⟩
    have key : ∀ j, j < 4 → ∀ v, (l[k].v)[j]? = some v → w.cell? ⟨b, off + k * 4 + j, none⟩ = some v := fun j hj v hv => hc k (by simpa using hk) j hj v (by
      rw [List.getD_eq_getElem?_getD, List.getElem?_map, List.getElem?_eq_getElem hk]; exact hv)
    exact ⟨key 0 (by omega) _ rfl, key 1 (by omega) _ rfl, key 2 (by omega) _ rfl, key 3 (by omega) _ rfl⟩

set_option maxRecDepth 100000 in
set_option maxHeartbeats 2000000 in
theorem wrongFrames_any (h : Int) (a : Option Addr) (n c : Nat) (l : List Fr) (w : World) (hs : StAt w.heap.size w a n c l) :
    Calls Try.prog 35 #[.agg #[.int .i64 h, .slice a n c]] w fun e w' => e = .returned (.bool (badAll h l)) ∧ Below w.heap.size w w' := by
  have HL := hid hs.len
  have HB1 := hid ((Below.refl w.heap.size w).alloc (Nat.le_refl _) (.cells #[.int .i64 h, .slice a n c] 24))
  have x0 : (w.alloc (.cells #[.int .i64 h, .slice a n c] 24)).cell? ⟨w.heap.size, 0, none⟩ = some (.int .i64 h) := by go_simp
  have x1 : (w.alloc (.cells #[.int .i64 h, .slice a n c] 24)).cell? ⟨w.heap.size, 1, none⟩ = some (.slice a n c) := by go_simp
  by_cases h0 : n = 0
  · subst h0
    have HE : Hid (badAll h l = true) := by show _ = _; rw [List.eq_nil_of_length_eq_zero HL.out]; rfl
    clear hs
    go_enter Try.func35, Try.ntmps35
    go_wp2
    go_ret
    exact ⟨ret_bool HE.out.symm, HB1.out⟩
  by_cases h1 : 1000 < n
  · have HE : Hid (badAll h l = true) := by
      show _ = _
      cases l with
      | nil => rfl
      | cons f l => have hl := HL.out; simp only [List.length_cons] at hl; simp only [badAll, Bool.or_eq_true, decide_eq_true_eq]; left; omega
    have h1i : (1000 : Int) < (n : Int) := by omega
    have h0i : ((n : Int) == 0) = false := by simp; omega
    clear hs
    go_enter Try.func35, Try.ntmps35
    go_wp2
    go_ret
    exact ⟨ret_bool HE.out.symm, HB1.out⟩
  have HN1 := hid h1
  obtain ⟨b, off, rfl, hb, hc⟩ := hs.get (Nat.pos_of_ne_zero h0)
  have HC := hid hc
  cases l with
  | nil => exact absurd HL.out (by simp; omega)
  | cons f l' =>
  obtain ⟨op, ba, re, de⟩ := f
  obtain ⟨c0, c1, c2, c3⟩ := HC.out 0 (by simp)
  simp only [List.getElem_cons_zero, Nat.zero_mul, Nat.add_zero] at c0 c1 c2 c3
  have h1i : ¬ (1000 : Int) < (n : Int) := by omega
  have h0i : ((n : Int) == 0) = false := by simp; omega
  have h0j : (0 : Int) < (n : Int) := by omega
  have HW1 := hid hs.cap
  have HE0 : Hid (badAll h (⟨op, ba, re, de⟩ :: l') = (badFirst ⟨op, ba, re, de⟩ || badL h 0 l')) := by
    show _ = _
    have hl := HL.out
    simp only [List.length_cons] at hl
    simp only [badAll]
    rw [show decide (1000 < l'.length + 1) = false by simp; omega, Bool.false_or]
  have CR := hid (fun W => wrongResults_any re W)
  obtain ⟨W1, hW1⟩ : ∃ W1, W1 = ((w.alloc (.cells #[.int .i64 h, .slice (some ⟨b, off, none⟩) n c] 24)).alloc (.cells #[.int .i64 op, .int .i64 ba, .int .i64 re, .bool de] 46)) := ⟨_, rfl⟩
  have HBW := hid (show Below w.heap.size w W1 by rw [hW1]; exact HB1.out.alloc (by simp) _)
  have y0 : W1.cell? ⟨w.heap.size, 0, none⟩ = some (.int .i64 h) := by rw [hW1]; go_simp
  have y1 : W1.cell? ⟨w.heap.size, 1, none⟩ = some (.slice (some ⟨b, off, none⟩) n c) := by rw [hW1]; go_simp
  have HSZ := hid (show w.heap.size + 2 = W1.heap.size by rw [hW1]; simp)
  have HW := hid hW1
  clear hc hs h1 hW1
  by_cases g0 : op = 0
  rotate_left
  · have HE : Hid (badAll h (⟨op, ba, re, de⟩ :: l') = true) := by show _ = _; rw [HE0.out]; simp [badFirst, g0]
    have q0 : (op != 0) = true := by simp [g0]
    clear HE0 HC
    go_enter Try.func35, Try.ntmps35
    go_wp2_with fail
    go_ret
    exact ⟨ret_bool HE.out.symm, by rw [← HW.out]; exact HBW.out⟩
  subst g0
  by_cases g1 : ba = 0
  rotate_left
  · have HE : Hid (badAll h (⟨0, ba, re, de⟩ :: l') = true) := by show _ = _; rw [HE0.out]; simp [badFirst, g1]
    have q0 : (ba != 0) = true := by simp [g1]
    clear HE0 HC
    go_enter Try.func35, Try.ntmps35
    go_wp2_with fail
    go_ret
    exact ⟨ret_bool HE.out.symm, by rw [← HW.out]; exact HBW.out⟩
  subst g1
  obtain ⟨q, hq⟩ : ∃ q, wrongRe re = q := ⟨_, rfl⟩
  rw [hq] at CR
  have HE1 : Hid (badAll h (⟨0, 0, re, de⟩ :: l') = (q || badL h 0 l')) := by show _ = _; rw [HE0.out]; simp [badFirst, hq]
  obtain ⟨R, hR⟩ : ∃ R, badAll h (⟨0, 0, re, de⟩ :: l') = R := ⟨_, rfl⟩
  rw [hR] at HE1 ⊢
  clear hq HE0 hR
  cases q with
  | true =>
    have HE : Hid (R = true) := HE1.out
    clear HE1 HC
    go_enter Try.func35, Try.ntmps35
    go_wp2_with fail
    refine (CR.out _).mono ?_
    rintro e w1 ⟨rfl, rfl⟩
    rw [← HW.out]
    go_wp2
    go_ret
    exact ⟨ret_bool HE.out.symm, HBW.out⟩
  | false =>
    go_enter Try.func35, Try.ntmps35
    go_wp2_with fail
    refine (CR.out _).mono ?_
    rintro e w1 ⟨rfl, rfl⟩
    rw [← HW.out]
    clear CR HW
    by_cases hcc : c = 1
    · subst hcc
      obtain rfl : n = 1 := by have := HW1.out; omega
      have hl0 : l' = [] := List.eq_nil_of_length_eq_zero (by have := HL.out; simpa using this)
      subst hl0
      have HE : Hid (R = false) := HE1.out
      clear HE1 HC
      go_wp2
      go_loopw [4, 5, 37] (fun _ _ vi wr => vi = .int .i64 0 ∧ wr = W1) (fun _ _ _ _ => 0)
      case atStart => exact ⟨rfl, rfl⟩
      case round =>
        obtain ⟨rfl, rfl⟩ := hrel
        go_wp2
        go_ret
        exact ⟨ret_bool HE.out.symm, HBW.out⟩
    · obtain ⟨m, rfl⟩ : ∃ m, n = m + 1 := ⟨n - 1, by omega⟩
      have hc1 : 1 ≤ m + 1 := by omega
      have hc2 : m + 1 ≤ c := HW1.out
      have hc3 : ¬ ((c : Int) = 1) := by omega
      have HLM : Hid (l'.length = m) := hid (by have := HL.out; simpa using this)
      have HE2 : Hid (R = badL h 0 l') := HE1.out
      clear HE1 HL
      have HCC := hid (fun (W : World) (hW : Below W1.heap.size W1 W) k (hk : k < l'.length + 1) => (by
        obtain ⟨g0, g1, g2, g3⟩ := HC.out k (by simpa using hk)
        have hbw := HBW.out.trans (hW.mono HBW.out.size)
        exact ⟨(hbw.cell (p := ⟨b, off + k * 4, none⟩) hb).trans g0, (hbw.cell (p := ⟨b, off + k * 4 + 1, none⟩) hb).trans g1, (hbw.cell (p := ⟨b, off + k * 4 + 2, none⟩) hb).trans g2, (hbw.cell (p := ⟨b, off + k * 4 + 3, none⟩) hb).trans g3⟩ :
        W.cell? ⟨b, off + k * 4, none⟩ = some (.int .i64 ((⟨0, 0, re, de⟩ :: l' : List Fr)[k]'(by simpa using hk)).op) ∧ W.cell? ⟨b, off + k * 4 + 1, none⟩ = some (.int .i64 ((⟨0, 0, re, de⟩ :: l' : List Fr)[k]'(by simpa using hk)).ba) ∧ W.cell? ⟨b, off + k * 4 + 2, none⟩ = some (.int .i64 ((⟨0, 0, re, de⟩ :: l' : List Fr)[k]'(by simpa using hk)).re) ∧ W.cell? ⟨b, off + k * 4 + 3, none⟩ = some (.bool ((⟨0, 0, re, de⟩ :: l' : List Fr)[k]'(by simpa using hk)).de)))
      clear HC c0 c1 c2 c3
      go_wp2
      go_loopw [4, 5, 37] (fun _ _ vi wr => ∃ k : Nat, vi = .int .i64 k ∧ k ≤ m ∧ Hid (Below W1.heap.size W1 wr) ∧ Hid (R = badL h ((⟨0, 0, re, de⟩ :: l' : List Fr).getD k Fr.none).ba (l'.drop k))) (fun _ _ vi _ => m - (intOf vi).toNat)
      case atStart => exact ⟨0, rfl, Nat.zero_le _, Below.refl _ _, HE2.out⟩
      case round =>
        obtain ⟨k, rfl, hk, HB, HI⟩ := hrel
        by_cases hlt : k < m
        · have hkl : k < l'.length := by rw [HLM.out]; exact hlt
          obtain ⟨g0, g1, g2, g3⟩ := HCC.out wr HB.out (k + 1) (by omega)
          obtain ⟨-, e1, -, -⟩ := HCC.out wr HB.out k (by omega)
          have hy : (⟨0, 0, re, de⟩ :: l' : List Fr)[k + 1]'(by simpa using hkl) = l'[k] := rfl
          have HS : Hid (R = (badF h ((⟨0, 0, re, de⟩ :: l' : List Fr).getD k Fr.none).ba l'[k] || badL h l'[k].ba (l'.drop (k + 1)))) := hid (by rw [HI.out, badL_at hkl])
          have hgd : ((⟨0, 0, re, de⟩ :: l' : List Fr).getD k Fr.none) = (⟨0, 0, re, de⟩ :: l' : List Fr)[k]'(by simp; omega) := by rw [List.getD_eq_getElem?_getD, List.getElem?_eq_getElem (by simp; omega)]; rfl
          have hgd1 : ((⟨0, 0, re, de⟩ :: l' : List Fr).getD (k + 1) Fr.none) = l'[k] := by rw [List.getD_eq_getElem?_getD, List.getElem?_eq_getElem (by simpa using hkl)]; rfl
          have HG1 := hid hgd1
          rw [hgd] at HS
          rw [hy] at g0 g1 g2 g3
          obtain ⟨b0, hb0⟩ : ∃ b0, ((⟨0, 0, re, de⟩ :: l' : List Fr)[k]'(by simp; omega)).ba = b0 := ⟨_, rfl⟩
          rw [hb0] at e1 HS
          obtain ⟨y, hye⟩ : ∃ y, l'[k] = y := ⟨_, rfl⟩
          rw [hye] at g0 g1 g2 g3 HS HG1
          obtain ⟨yo, yb, yr, yd⟩ := y
          dsimp only at g0 g1 g2 g3 HS HG1
          have ad : off + (k + 1) * 4 = off + 4 + k * 4 := by omega
          rw [ad] at g0 g1 g2 g3
          have hki : (k : Int) < (m : Int) := by omega
          clear hye hb0 hgd hgd1 hy ad HI
          have hks : k < m + 1 := by omega
          have hkj : (k : Int) < (m : Int) + 1 := by omega
          have t0 : wr.cell? ⟨w.heap.size, 0, none⟩ = some (.int .i64 h) := (HB.out.cell (p := ⟨w.heap.size, 0, none⟩) (by have := HSZ.out; show w.heap.size < _; omega)).trans y0
          have t1 : wr.cell? ⟨w.heap.size, 1, none⟩ = some (.slice (some ⟨b, off, none⟩) (m + 1) c) := (HB.out.cell (p := ⟨w.heap.size, 1, none⟩) (by have := HSZ.out; show w.heap.size < _; omega)).trans y1
          obtain ⟨W2, hW2⟩ : ∃ W2, W2 = wr.alloc (.cells #[.int .i64 yo, .int .i64 yb, .int .i64 yr, .bool yd] 46) := ⟨_, rfl⟩
          have HW2 := hid hW2
          have hA := (Below.refl wr.heap.size wr).alloc (Nat.le_refl _) (.cells #[.int .i64 yo, .int .i64 yb, .int .i64 yr, .bool yd] 46)
          rw [← hW2] at hA
          have HB2 := hid (HB.out.trans (hA.mono HB.out.size))
          have z0 : W2.cell? ⟨wr.heap.size, 0, none⟩ = some (.int .i64 yo) := by rw [hW2]; go_simp
          have z1 : W2.cell? ⟨wr.heap.size, 1, none⟩ = some (.int .i64 yb) := by rw [hW2]; go_simp
          have z2 : W2.cell? ⟨wr.heap.size, 2, none⟩ = some (.int .i64 yr) := by rw [hW2]; go_simp
          have t0' := keep hA t0
          have t1' := keep hA t1
          have e1' := keep hA e1
          clear hA hW2 y0 y1
          obtain ⟨q, hq⟩ : ∃ q, opens yo = q := ⟨_, rfl⟩
          have CO := hid (fun W => opensList_any yo W)
          rw [hq] at CO
          cases q with
          | false =>
            have HF : Hid (R = true) := hid (by rw [HS.out]; simp [badF, hq])
            clear hq HS HE2 HG1 HCC HLM
            go_wp2
            rw [← HW2.out]
            go_quiet ((go_at_call 31; exact Calls.quiet_of_same ((CO.out _).mono fun e w' h => ⟨h.1, h.2.symm⟩)))
            go_wp2
            go_ret
            exact ⟨ret_bool HF.out.symm, HBW.out.trans ((drewn HB2.out _).mono HBW.out.size)⟩
          | true =>
            have CR2 := hid (fun W => wrongResults_any yr W)
            by_cases d1 : yb < b0
            · have HF : Hid (R = true) := hid (by rw [HS.out]; simp [badF, hq, d1])
              clear hq HS HE2 HG1 HCC HLM
              go_wp2
              rw [← HW2.out]
              go_quiet (first | (go_at_call 31; exact Calls.quiet_of_same ((CO.out _).mono fun e w' h => ⟨h.1, h.2.symm⟩)) | (go_at_call 32; exact Calls.quiet_of_same ((CR2.out _).mono fun e w' h => ⟨h.1, h.2.symm⟩)))
              go_wp2
              go_ret
              exact ⟨ret_bool HF.out.symm, HBW.out.trans ((drewn HB2.out _).mono HBW.out.size)⟩
            have d1' : decide (yb < b0) = false := by simpa using d1
            by_cases d2 : h < yb
            · have HF : Hid (R = true) := hid (by rw [HS.out]; simp [badF, hq, d1, d2])
              clear hq HS HE2 HG1 HCC HLM d1
              go_wp2
              rw [← HW2.out]
              go_quiet (first | (go_at_call 31; exact Calls.quiet_of_same ((CO.out _).mono fun e w' h => ⟨h.1, h.2.symm⟩)) | (go_at_call 32; exact Calls.quiet_of_same ((CR2.out _).mono fun e w' h => ⟨h.1, h.2.symm⟩)))
              go_wp2
              go_ret
              exact ⟨ret_bool HF.out.symm, HBW.out.trans ((drewn HB2.out _).mono HBW.out.size)⟩
            have d2' : decide (h < yb) = false := by simpa using d2
            obtain ⟨q2, hq2⟩ : ∃ q, wrongRe yr = q := ⟨_, rfl⟩
            rw [hq2] at CR2
            have HX : Hid (R = (q2 || badL h yb (l'.drop (k + 1)))) := hid (by rw [HS.out]; simp [badF, hq, d1, d2, hq2])
            clear hq HS hq2 d1 d2
            cases q2 with
            | true =>
              have HF : Hid (R = true) := HX.out
              clear HX HE2 HG1 HCC HLM
              go_wp2
              rw [← HW2.out]
              go_quiet (first | (go_at_call 31; exact Calls.quiet_of_same ((CO.out _).mono fun e w' h => ⟨h.1, h.2.symm⟩)) | (go_at_call 32; exact Calls.quiet_of_same ((CR2.out _).mono fun e w' h => ⟨h.1, h.2.symm⟩)))
              go_wp2
              go_ret
              exact ⟨ret_bool HF.out.symm, HBW.out.trans ((drewn HB2.out _).mono HBW.out.size)⟩
            | false =>
              have HF : Hid (R = badL h yb (l'.drop (k + 1))) := HX.out
              clear HX HE2
              go_wp2
              rw [← HW2.out]
              go_quiet (first | (go_at_call 31; exact Calls.quiet_of_same ((CO.out _).mono fun e w' h => ⟨h.1, h.2.symm⟩)) | (go_at_call 32; exact Calls.quiet_of_same ((CR2.out _).mono fun e w' h => ⟨h.1, h.2.symm⟩)))
              go_wp2
              go_roundw
              case rel => exact ⟨k + 1, by go_num, by omega, drewn HB2.out _, by rw [HG1.out]; exact HF.out⟩
              case measure => simp [intOf]; omega
        · obtain rfl : k = m := by omega
          have HF : Hid (R = false) := hid (by rw [HI.out, List.drop_eq_nil_of_le (by rw [HLM.out]; exact Nat.le_refl _)]; rfl)
          clear HI HE2
          go_wp2
          go_ret
          exact ⟨ret_bool HF.out.symm, HBW.out.trans (HB.out.mono HBW.out.size)⟩
end Go.Proofs.Ytnfpfagojeieeaa.Stk
