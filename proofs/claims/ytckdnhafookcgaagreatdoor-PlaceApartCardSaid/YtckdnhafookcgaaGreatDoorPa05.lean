import Derived.Test.YtckdnhafookcgaaGreatDoorPa04
import Derived.Test.YtckdnhafookcgaaGreatDoorPa01
import Derived.BigQuiet
import Derived.Deep.QuietTactic
import Derived.Lib.SliceRun
import Derived.Deep.Cut
import Derived.Deep.RegionHeld
import Derived.Deep.RegionHeldLaw
import Derived.Deep.RegionHeld3
import Derived.Deep.RegionWith
import Derived.Laws.AppendOwnNone
import Derived.Lib.OthersKept
import Derived.Laws.MakeOwn
namespace Go.Proofs.YtckdnhafookcgaaGreatDoor.Stk
open Go.RowKit
set_option linter.unusedVariables false

theorem drewn {B : Nat} {a w : World} (h : Below B a w) (n : Nat) : Below B a (w.drewN n) := ⟨h.os, h.tape, h.output, h.size, h.block⟩
/-- A stand in memory, below block n₀. -/
structure StAt (n₀ : Nat) (w : World) (a : Option Addr) (n c : Nat) (l : List Fr) : Prop where
  rows : Rows n₀ w a 4 (l.map Fr.v)
  len : l.length = n
  cap : n ≤ c
  fit : n ≤ 140737488351232
theorem StAt.below {n₀ : Nat} {w w' : World} {a : Option Addr} {n c : Nat} {l : List Fr} (hb : Below n₀ w w') (h : StAt n₀ w a n c l) : StAt n₀ w' a n c l := ⟨h.rows.below hb, h.len, h.cap, h.fit⟩
theorem StAt.more {n₀ n₁ : Nat} {w : World} {a : Option Addr} {n c : Nat} {l : List Fr} (hn : n₀ ≤ n₁) (h : StAt n₀ w a n c l) : StAt n₁ w a n c l := ⟨h.rows.more hn, h.len, h.cap, h.fit⟩
theorem StAt.on {w w' : World} {a : Option Addr} {n c : Nat} {l : List Fr} (h : StAt w.heap.size w a n c l) (hb : Below w.heap.size w w') : StAt w'.heap.size w' a n c l := (h.below hb).more hb.size
/-- Where the k-th frame lies. -/
theorem StAt.get {n₀ : Nat} {w : World} {a : Option Addr} {n c : Nat} {l : List Fr} (h : StAt n₀ w a n c l) (h0 : 0 < n) : ∃ b off, a = some ⟨b, off, none⟩ ∧ b < n₀ ∧ ∀ k (hk : k < l.length),
    w.cell? ⟨b, off + k * 4, none⟩ = some (.int .i64 l[k].op) ∧ w.cell? ⟨b, off + k * 4 + 1, none⟩ = some (.int .i64 l[k].ba) ∧ w.cell? ⟨b, off + k * 4 + 2, none⟩ = some (.int .i64 l[k].re) ∧ w.cell? ⟨b, off + k * 4 + 3, none⟩ = some (.bool l[k].de) := by
  have hl := h.len
  rcases h.rows with h1 | ⟨b, off, ha, hb, hc⟩
  · rw [List.map_eq_nil_iff] at h1; subst h1; simp at hl; omega
  · refine ⟨b, off, ha, hb, fun k hk => ?_⟩
    have key : ∀ j, j < 4 → ∀ v, (l[k].v)[j]? = some v → w.cell? ⟨b, off + k * 4 + j, none⟩ = some v := fun j hj v hv => hc k (by simpa using hk) j hj v (by
      rw [List.getD_eq_getElem?_getD, List.getElem?_map, List.getElem?_eq_getElem hk]; exact hv)
    exact ⟨key 0 (by omega) _ rfl, key 1 (by omega) _ rfl, key 2 (by omega) _ rfl, key 3 (by omega) _ rfl⟩

set_option maxRecDepth 100000 in
set_option maxHeartbeats 2000000 in
theorem wrongFrames_any (h : Int) (a : Option Addr) (n c : Nat) (l : List Fr) (w : World) (hs : StAt w.heap.size w a n c l) :
    Calls Tryz.prog 268 #[.agg #[.int .i64 h, .slice a n c]] w fun e w' => e = .returned (.bool (badAll h l)) ∧ Below w.heap.size w w' := by
  have HL := hid hs.len
  have HB1 := hid ((Below.refl w.heap.size w).alloc (Nat.le_refl _) (.cells #[.int .i64 h, .slice a n c] 214))
  have x0 : (w.alloc (.cells #[.int .i64 h, .slice a n c] 214)).cell? ⟨w.heap.size, 0, none⟩ = some (.int .i64 h) := by go_simp
  have x1 : (w.alloc (.cells #[.int .i64 h, .slice a n c] 214)).cell? ⟨w.heap.size, 1, none⟩ = some (.slice a n c) := by go_simp
  by_cases h0 : n = 0
  · subst h0
    have HE : Hid (badAll h l = true) := by show _ = _; rw [List.eq_nil_of_length_eq_zero HL.out]; rfl
    clear hs
    go_enter Tryz.func268, Tryz.ntmps268
    go_wp2
    go_ret
    exact ⟨ret_bool HE.out.symm, HB1.out⟩
  by_cases h1 : 1000 < n
  · have HE : Hid (badAll h l = true) := by
      show _ = _
      cases l with
      | nil => rfl
      | cons f l => have hl := HL.out; simp only [List.length_cons] at hl; simp only [badAll, Bool.or_eq_true, decide_eq_true_eq]; left; omega
    have h1i : (1000 : Int) < (n : Int) := by omega
    have h0i : ((n : Int) == 0) = false := by simp; omega
    clear hs
    go_enter Tryz.func268, Tryz.ntmps268
    go_wp2
    go_ret
    exact ⟨ret_bool HE.out.symm, HB1.out⟩
  have HN1 := hid h1
  obtain ⟨b, off, rfl, hb, hc⟩ := hs.get (Nat.pos_of_ne_zero h0)
  have HC := hid hc
  cases l with
  | nil => exact absurd HL.out (by simp; omega)
  | cons f l' =>
  obtain ⟨op, ba, re, de⟩ := f
  obtain ⟨c0, c1, c2, c3⟩ := HC.out 0 (by simp)
  simp only [List.getElem_cons_zero, Nat.zero_mul, Nat.add_zero] at c0 c1 c2 c3
  have h1i : ¬ (1000 : Int) < (n : Int) := by omega
  have h0i : ((n : Int) == 0) = false := by simp; omega
  have h0j : (0 : Int) < (n : Int) := by omega
  have HW1 := hid hs.cap
  have HE0 : Hid (badAll h (⟨op, ba, re, de⟩ :: l') = (badFirst ⟨op, ba, re, de⟩ || badL h 0 l')) := by
    show _ = _
    have hl := HL.out
    simp only [List.length_cons] at hl
    simp only [badAll]
    rw [show decide (1000 < l'.length + 1) = false by simp; omega, Bool.false_or]
  have CR := hid (fun W => wrongResults_any re W)
  obtain ⟨W1, hW1⟩ : ∃ W1, W1 = ((w.alloc (.cells #[.int .i64 h, .slice (some ⟨b, off, none⟩) n c] 214)).alloc (.cells #[.int .i64 op, .int .i64 ba, .int .i64 re, .bool de] 254)) := ⟨_, rfl⟩
  have HBW := hid (show Below w.heap.size w W1 by rw [hW1]; exact HB1.out.alloc (by simp) _)
  have y0 : W1.cell? ⟨w.heap.size, 0, none⟩ = some (.int .i64 h) := by rw [hW1]; go_simp
  have y1 : W1.cell? ⟨w.heap.size, 1, none⟩ = some (.slice (some ⟨b, off, none⟩) n c) := by rw [hW1]; go_simp
  have HSZ := hid (show w.heap.size + 2 = W1.heap.size by rw [hW1]; simp)
  have HW := hid hW1
  clear hc hs h1 hW1
  by_cases g0 : op = 0
  rotate_left
  · have HE : Hid (badAll h (⟨op, ba, re, de⟩ :: l') = true) := by show _ = _; rw [HE0.out]; simp [badFirst, g0]
    have q0 : (op != 0) = true := by simp [g0]
    clear HE0 HC
    go_enter Tryz.func268, Tryz.ntmps268
    go_wp2_with fail
    go_ret
    exact ⟨ret_bool HE.out.symm, by rw [← HW.out]; exact HBW.out⟩
  subst g0
  by_cases g1 : ba = 0
  rotate_left
  · have HE : Hid (badAll h (⟨0, ba, re, de⟩ :: l') = true) := by show _ = _; rw [HE0.out]; simp [badFirst, g1]
    have q0 : (ba != 0) = true := by simp [g1]
    clear HE0 HC
    go_enter Tryz.func268, Tryz.ntmps268
    go_wp2_with fail
    go_ret
    exact ⟨ret_bool HE.out.symm, by rw [← HW.out]; exact HBW.out⟩
  subst g1
  obtain ⟨q, hq⟩ : ∃ q, wrongRe re = q := ⟨_, rfl⟩
  rw [hq] at CR
  have HE1 : Hid (badAll h (⟨0, 0, re, de⟩ :: l') = (q || badL h 0 l')) := by show _ = _; rw [HE0.out]; simp [badFirst, hq]
  obtain ⟨R, hR⟩ : ∃ R, badAll h (⟨0, 0, re, de⟩ :: l') = R := ⟨_, rfl⟩
  rw [hR] at HE1 ⊢
  clear hq HE0 hR
  cases q with
  | true =>
    have HE : Hid (R = true) := HE1.out
    clear HE1 HC
    go_enter Tryz.func268, Tryz.ntmps268
    go_wp2_with fail
    refine (CR.out _).mono ?_
    rintro e w1 ⟨rfl, rfl⟩
    rw [← HW.out]
    go_wp2
    go_ret
    exact ⟨ret_bool HE.out.symm, HBW.out⟩
  | false =>
    go_enter Tryz.func268, Tryz.ntmps268
    go_wp2_with fail
    refine (CR.out _).mono ?_
    rintro e w1 ⟨rfl, rfl⟩
    rw [← HW.out]
    clear CR HW
    by_cases hcc : c = 1
    · subst hcc
      obtain rfl : n = 1 := by have := HW1.out; omega
      have hl0 : l' = [] := List.eq_nil_of_length_eq_zero (by have := HL.out; simpa using this)
      subst hl0
      have HE : Hid (R = false) := HE1.out
      clear HE1 HC
      go_wp2
      go_loopw [4, 5, 37] (fun _ _ vi wr => vi = .int .i64 0 ∧ wr = W1) (fun _ _ _ _ => 0)
      case atStart => exact ⟨rfl, rfl⟩
      case round =>
        obtain ⟨rfl, rfl⟩ := hrel
        go_wp2
        go_ret
        exact ⟨ret_bool HE.out.symm, HBW.out⟩
    · obtain ⟨m, rfl⟩ : ∃ m, n = m + 1 := ⟨n - 1, by omega⟩
      have hc1 : 1 ≤ m + 1 := by omega
      have hc2 : m + 1 ≤ c := HW1.out
      have hc3 : ¬ ((c : Int) = 1) := by omega
      have HLM : Hid (l'.length = m) := hid (by have := HL.out; simpa using this)
      have HE2 : Hid (R = badL h 0 l') := HE1.out
      clear HE1 HL
      have HCC := hid (fun (W : World) (hW : Below W1.heap.size W1 W) k (hk : k < l'.length + 1) => (by
        obtain ⟨g0, g1, g2, g3⟩ := HC.out k (by simpa using hk)
        have hbw := HBW.out.trans (hW.mono HBW.out.size)
        exact ⟨(hbw.cell (p := ⟨b, off + k * 4, none⟩) hb).trans g0, (hbw.cell (p := ⟨b, off + k * 4 + 1, none⟩) hb).trans g1, (hbw.cell (p := ⟨b, off + k * 4 + 2, none⟩) hb).trans g2, (hbw.cell (p := ⟨b, off + k * 4 + 3, none⟩) hb).trans g3⟩ :
        W.cell? ⟨b, off + k * 4, none⟩ = some (.int .i64 ((⟨0, 0, re, de⟩ :: l' : List Fr)[k]'(by simpa using hk)).op) ∧ W.cell? ⟨b, off + k * 4 + 1, none⟩ = some (.int .i64 ((⟨0, 0, re, de⟩ :: l' : List Fr)[k]'(by simpa using hk)).ba) ∧ W.cell? ⟨b, off + k * 4 + 2, none⟩ = some (.int .i64 ((⟨0, 0, re, de⟩ :: l' : List Fr)[k]'(by simpa using hk)).re) ∧ W.cell? ⟨b, off + k * 4 + 3, none⟩ = some (.bool ((⟨0, 0, re, de⟩ :: l' : List Fr)[k]'(by simpa using hk)).de)))
      clear HC c0 c1 c2 c3
      go_wp2
      go_loopw [4, 5, 37] (fun _ _ vi wr => ∃ k : Nat, vi = .int .i64 k ∧ k ≤ m ∧ Hid (Below W1.heap.size W1 wr) ∧ Hid (R = badL h ((⟨0, 0, re, de⟩ :: l' : List Fr).getD k Fr.none).ba (l'.drop k))) (fun _ _ vi _ => m - (intOf vi).toNat)
      case atStart => exact ⟨0, rfl, Nat.zero_le _, Below.refl _ _, HE2.out⟩
      case round =>
        obtain ⟨k, rfl, hk, HB, HI⟩ := hrel
        by_cases hlt : k < m
        · have hkl : k < l'.length := by rw [HLM.out]; exact hlt
          obtain ⟨g0, g1, g2, g3⟩ := HCC.out wr HB.out (k + 1) (by omega)
          obtain ⟨-, e1, -, -⟩ := HCC.out wr HB.out k (by omega)
          have hy : (⟨0, 0, re, de⟩ :: l' : List Fr)[k + 1]'(by simpa using hkl) = l'[k] := rfl
          have HS : Hid (R = (badF h ((⟨0, 0, re, de⟩ :: l' : List Fr).getD k Fr.none).ba l'[k] || badL h l'[k].ba (l'.drop (k + 1)))) := hid (by rw [HI.out, badL_at hkl])
          have hgd : ((⟨0, 0, re, de⟩ :: l' : List Fr).getD k Fr.none) = (⟨0, 0, re, de⟩ :: l' : List Fr)[k]'(by simp; omega) := by rw [List.getD_eq_getElem?_getD, List.getElem?_eq_getElem (by simp; omega)]; rfl
          have hgd1 : ((⟨0, 0, re, de⟩ :: l' : List Fr).getD (k + 1) Fr.none) = l'[k] := by rw [List.getD_eq_getElem?_getD, List.getElem?_eq_getElem (by simpa using hkl)]; rfl
          have HG1 := hid hgd1
          rw [hgd] at HS
          rw [hy] at g0 g1 g2 g3
          obtain ⟨b0, hb0⟩ : ∃ b0, ((⟨0, 0, re, de⟩ :: l' : List Fr)[k]'(by simp; omega)).ba = b0 := ⟨_, rfl⟩
          rw [hb0] at e1 HS
          obtain ⟨y, hye⟩ : ∃ y, l'[k] = y := ⟨_, rfl⟩
          rw [hye] at g0 g1 g2 g3 HS HG1
          obtain ⟨yo, yb, yr, yd⟩ := y
          dsimp only at g0 g1 g2 g3 HS HG1
          have ad : off + (k + 1) * 4 = off + 4 + k * 4 := by omega
          rw [ad] at g0 g1 g2 g3
          have hki : (k : Int) < (m : Int) := by omega
          clear hye hb0 hgd hgd1 hy ad HI
          have hks : k < m + 1 := by omega
          have hkj : (k : Int) < (m : Int) + 1 := by omega
          have t0 : wr.cell? ⟨w.heap.size, 0, none⟩ = some (.int .i64 h) := (HB.out.cell (p := ⟨w.heap.size, 0, none⟩) (by have := HSZ.out; show w.heap.size < _; omega)).trans y0
          have t1 : wr.cell? ⟨w.heap.size, 1, none⟩ = some (.slice (some ⟨b, off, none⟩) (m + 1) c) := (HB.out.cell (p := ⟨w.heap.size, 1, none⟩) (by have := HSZ.out; show w.heap.size < _; omega)).trans y1
          obtain ⟨W2, hW2⟩ : ∃ W2, W2 = wr.alloc (.cells #[.int .i64 yo, .int .i64 yb, .int .i64 yr, .bool yd] 254) := ⟨_, rfl⟩
          have HW2 := hid hW2
          have hA := (Below.refl wr.heap.size wr).alloc (Nat.le_refl _) (.cells #[.int .i64 yo, .int .i64 yb, .int .i64 yr, .bool yd] 254)
          rw [← hW2] at hA
          have HB2 := hid (HB.out.trans (hA.mono HB.out.size))
          have z0 : W2.cell? ⟨wr.heap.size, 0, none⟩ = some (.int .i64 yo) := by rw [hW2]; go_simp
          have z1 : W2.cell? ⟨wr.heap.size, 1, none⟩ = some (.int .i64 yb) := by rw [hW2]; go_simp
          have z2 : W2.cell? ⟨wr.heap.size, 2, none⟩ = some (.int .i64 yr) := by rw [hW2]; go_simp
          have t0' := keep hA t0
          have t1' := keep hA t1
          have e1' := keep hA e1
          clear hA hW2 y0 y1
          obtain ⟨q, hq⟩ : ∃ q, opens yo = q := ⟨_, rfl⟩
          have CO := hid (fun W => opensList_any yo W)
          rw [hq] at CO
          cases q with
          | false =>
            have HF : Hid (R = true) := hid (by rw [HS.out]; simp [badF, hq])
            clear hq HS HE2 HG1 HCC HLM
            go_wp2
            rw [← HW2.out]
            go_quiet ((go_at_call 259; exact Calls.quiet_of_same ((CO.out _).mono fun e w' h => ⟨h.1, h.2.symm⟩)))
            go_wp2
            go_ret
            exact ⟨ret_bool HF.out.symm, HBW.out.trans ((drewn HB2.out _).mono HBW.out.size)⟩
          | true =>
            have CR2 := hid (fun W => wrongResults_any yr W)
            by_cases d1 : yb < b0
            · have HF : Hid (R = true) := hid (by rw [HS.out]; simp [badF, hq, d1])
              clear hq HS HE2 HG1 HCC HLM
              go_wp2
              rw [← HW2.out]
              go_quiet (first | (go_at_call 259; exact Calls.quiet_of_same ((CO.out _).mono fun e w' h => ⟨h.1, h.2.symm⟩)) | (go_at_call 195; exact Calls.quiet_of_same ((CR2.out _).mono fun e w' h => ⟨h.1, h.2.symm⟩)))
              go_wp2
              go_ret
              exact ⟨ret_bool HF.out.symm, HBW.out.trans ((drewn HB2.out _).mono HBW.out.size)⟩
            have d1' : decide (yb < b0) = false := by simpa using d1
            by_cases d2 : h < yb
            · have HF : Hid (R = true) := hid (by rw [HS.out]; simp [badF, hq, d1, d2])
              clear hq HS HE2 HG1 HCC HLM d1
              go_wp2
              rw [← HW2.out]
              go_quiet (first | (go_at_call 259; exact Calls.quiet_of_same ((CO.out _).mono fun e w' h => ⟨h.1, h.2.symm⟩)) | (go_at_call 195; exact Calls.quiet_of_same ((CR2.out _).mono fun e w' h => ⟨h.1, h.2.symm⟩)))
              go_wp2
              go_ret
              exact ⟨ret_bool HF.out.symm, HBW.out.trans ((drewn HB2.out _).mono HBW.out.size)⟩
            have d2' : decide (h < yb) = false := by simpa using d2
            obtain ⟨q2, hq2⟩ : ∃ q, wrongRe yr = q := ⟨_, rfl⟩
            rw [hq2] at CR2
            have HX : Hid (R = (q2 || badL h yb (l'.drop (k + 1)))) := hid (by rw [HS.out]; simp [badF, hq, d1, d2, hq2])
            clear hq HS hq2 d1 d2
            cases q2 with
            | true =>
              have HF : Hid (R = true) := HX.out
              clear HX HE2 HG1 HCC HLM
              go_wp2
              rw [← HW2.out]
              go_quiet (first | (go_at_call 259; exact Calls.quiet_of_same ((CO.out _).mono fun e w' h => ⟨h.1, h.2.symm⟩)) | (go_at_call 195; exact Calls.quiet_of_same ((CR2.out _).mono fun e w' h => ⟨h.1, h.2.symm⟩)))
              go_wp2
              go_ret
              exact ⟨ret_bool HF.out.symm, HBW.out.trans ((drewn HB2.out _).mono HBW.out.size)⟩
            | false =>
              have HF : Hid (R = badL h yb (l'.drop (k + 1))) := HX.out
              clear HX HE2
              go_wp2
              rw [← HW2.out]
              go_quiet (first | (go_at_call 259; exact Calls.quiet_of_same ((CO.out _).mono fun e w' h => ⟨h.1, h.2.symm⟩)) | (go_at_call 195; exact Calls.quiet_of_same ((CR2.out _).mono fun e w' h => ⟨h.1, h.2.symm⟩)))
              go_wp2
              go_roundw
              case rel => exact ⟨k + 1, by go_num, by omega, drewn HB2.out _, by rw [HG1.out]; exact HF.out⟩
              case measure => simp [intOf]; omega
        · obtain rfl : k = m := by omega
          have HF : Hid (R = false) := hid (by rw [HI.out, List.drop_eq_nil_of_le (by rw [HLM.out]; exact Nat.le_refl _)]; rfl)
          clear HI HE2
          go_wp2
          go_ret
          exact ⟨ret_bool HF.out.symm, HBW.out.trans (HB.out.mono HBW.out.size)⟩
end Go.Proofs.YtckdnhafookcgaaGreatDoor.Stk

namespace Go.Proofs.YtckdnhafookcgaaGreatDoor.Stk
open Go.RowKit
set_option linter.unusedVariables false

theorem chk_low {h : Int} {l : List Fr} (g : h < 0) : chk h l = 2 := by unfold chk valid; rw [show decide (0 ≤ h) = false by simp; omega]; simp
theorem chk_high {h : Int} {l : List Fr} (g : 1073741824 < h) : chk h l = 2 := by unfold chk valid; rw [show decide (h ≤ 1073741824) = false by simp; omega]; simp
theorem chk_in {h : Int} {l : List Fr} (g0 : ¬ h < 0) (g1 : ¬ 1073741824 < h) : chk h l = if badAll h l then 2 else 0 := by
  unfold chk valid
  rw [show decide (0 ≤ h) = true by simp; omega, show decide (h ≤ 1073741824) = true by simp; omega]
  cases badAll h l <;> rfl
set_option maxHeartbeats 2000000 in
theorem check_any (h : Int) (a : Option Addr) (n c : Nat) (l : List Fr) (w : World) (hs : StAt w.heap.size w a n c l) :
    Calls Tryz.prog 260 #[.agg #[.int .i64 h, .slice a n c]] w fun e w' => e = .returned (.int .i64 (chk h l)) ∧ Below w.heap.size w w' := by
  have HB1 := hid ((Below.refl w.heap.size w).alloc (Nat.le_refl _) (.cells #[.int .i64 h, .slice a n c] 214))
  have CW := hid (wrongFrames_any h a n c l (w.alloc (.cells #[.int .i64 h, .slice a n c] 214)) (hs.on HB1.out))
  have CH := hid (fun W => wrongHeight_any h W)
  obtain ⟨q, hq⟩ : ∃ q, wrongH h = q := ⟨_, rfl⟩
  rw [hq] at CH
  have x0 : (w.alloc (.cells #[.int .i64 h, .slice a n c] 214)).cell? ⟨w.heap.size, 0, none⟩ = some (.int .i64 h) := by go_simp
  have x1 : (w.alloc (.cells #[.int .i64 h, .slice a n c] 214)).cell? ⟨w.heap.size, 1, none⟩ = some (.slice a n c) := by go_simp
  have HQ := hid hq
  have HI := hid (fun g0 g1 => chk_in (h := h) (l := l) g0 g1)
  have HT := hid (fun g => chk_low (h := h) (l := l) g)
  have HT2 := hid (fun g => chk_high (h := h) (l := l) g)
  obtain ⟨B, hB⟩ : ∃ B, badAll h l = B := ⟨_, rfl⟩
  obtain ⟨R, hR⟩ : ∃ R, chk h l = R := ⟨_, rfl⟩
  rw [hB] at CW HI
  rw [hR] at HI HT HT2 ⊢
  clear hq hs hB hR
  cases q with
  | true =>
    have HR : Hid (R = 2) := hid (by
      have h := HQ.out
      simp only [wrongH, Bool.or_eq_true, decide_eq_true_eq] at h
      exact h.elim HT.out HT2.out)
    clear HQ HI HT HT2 CW
    go_enter Tryz.func260, Tryz.ntmps260
    go_wp2_with fail
    refine (CH.out _).mono ?_
    rintro e w1 ⟨rfl, rfl⟩
    go_wp2
    go_ret
    exact ⟨ret_int HR.out.symm, HB1.out⟩
  | false =>
    have HR : Hid (R = if B then 2 else 0) := hid (by
      have h := HQ.out
      simp only [wrongH, Bool.or_eq_false_iff, decide_eq_false_iff_not] at h
      exact HI.out h.1 h.2)
    clear HQ HI HT HT2
    cases B with
    | true =>
      have HF : Hid (R = 2) := HR.out
      clear HR
      go_enter Tryz.func260, Tryz.ntmps260
      go_wp2_with fail
      refine (CH.out _).mono ?_
      rintro e w1 ⟨rfl, rfl⟩
      go_wp2_with fail
      refine CW.out.mono ?_
      rintro e w1 ⟨rfl, hb⟩
      have HB := hid (HB1.out.trans (hb.mono HB1.out.size))
      clear hb
      go_wp2
      go_ret
      exact ⟨ret_int HF.out.symm, HB.out⟩
    | false =>
      have HF : Hid (R = 0) := HR.out
      clear HR
      go_enter Tryz.func260, Tryz.ntmps260
      go_wp2_with fail
      refine (CH.out _).mono ?_
      rintro e w1 ⟨rfl, rfl⟩
      go_wp2_with fail
      refine CW.out.mono ?_
      rintro e w1 ⟨rfl, hb⟩
      have HB := hid (HB1.out.trans (hb.mono HB1.out.size))
      clear hb
      go_wp2
      go_ret
      exact ⟨ret_int HF.out.symm, HB.out⟩

end Go.Proofs.YtckdnhafookcgaaGreatDoor.Stk

namespace Go.Proofs.YtckdnhafookcgaaGreatDoor.Stk
open Go.RowKit
set_option linter.unusedVariables false

theorem infoFr : (Tryz.prog.info? 254).map (fun i => (i.zero, i.size, i.bytes)) = some (some (.agg #[.int .i64 0, .int .i64 0, .int .i64 0, .bool false]), 4, 32) := by kernel_rfl
/-- A box that holds a stand. -/
def Bx (W : World) (g : Nat) (x y : Value) : Prop := W.heap[g]? = some (.cells #[x, y] 214 (0, 0))
theorem Bx.lt {W : World} {g : Nat} {x y : Value} (h : Bx W g x y) : g < W.heap.size := (Array.getElem?_eq_some_iff.1 h).1
theorem Bx.made (W : World) (x y : Value) : Bx (W.alloc (.cells #[x, y] 214)) W.heap.size x y := heap_alloc_new W _
theorem Bx.belowB {B : Nat} {W W' : World} {g : Nat} {x y : Value} (h : Bx W g x y) (hb : Below B W W') (hg : g < B) : Bx W' g x y := (hb.block g hg).trans h
theorem Bx.below {W W' : World} {g : Nat} {x y : Value} (h : Bx W g x y) (hb : Below W.heap.size W W') : Bx W' g x y := h.belowB hb h.lt
theorem Bx.c0 {W : World} {g : Nat} {x y : Value} (h : Bx W g x y) : W.cell? ⟨g, 0, none⟩ = some x := cell_of_row W g 0 _ _ _ h
theorem Bx.c1 {W : World} {g : Nat} {x y : Value} (h : Bx W g x y) : W.cell? ⟨g, 1, none⟩ = some y := cell_of_row W g 1 _ _ _ h
theorem Bx.f {W : World} {g : Nat} {x y : Value} (h : Bx W g x y) (j : Nat) : W.frozen? ⟨g, j, none⟩ = false := frozen_of_row W g j _ _ h
theorem Bx.set0 {W : World} {g : Nat} {x y : Value} (h : Bx W g x y) (u : Value) : Bx (W.setCell ⟨g, 0, none⟩ u) g u y := heap_setCell_same W g 0 _ _ u h
theorem Bx.set1 {W : World} {g : Nat} {x y : Value} (h : Bx W g x y) (u : Value) : Bx (W.setCell ⟨g, 1, none⟩ u) g x u := heap_setCell_same W g 1 _ _ u h
theorem Bx.far {W : World} {g : Nat} {x y : Value} (h : Bx W g x y) {p : Addr} (hp : g ≠ p.block) (u : Value) : Bx (W.setCell p u) g x y := (Below.heap_setCell W p u g hp).trans h

theorem four (f : Fr) : f.v.length = 4 := rfl
theorem fours (l : List Fr) : ∀ r ∈ l.map Fr.v, r.length = 4 := by
  intro r hr
  obtain ⟨f, _, rfl⟩ := List.mem_map.1 hr
  rfl
theorem ones (l : List Fr) : ∀ r ∈ l.map Fr.v, ∀ u ∈ r, u.oneCell' = true := by
  intro r hr u hu
  obtain ⟨f, _, rfl⟩ := List.mem_map.1 hr
  simp only [Fr.v, List.mem_cons, List.not_mem_nil, or_false] at hu
  rcases hu with rfl | rfl | rfl | rfl <;> rfl
/-- Frames that a call made itself. -/
def OwnF (base : Nat) (w : World) (v : Value) (l : List Fr) : Prop := OwnR 254 4 base w v (l.map Fr.v)
theorem OwnF.slice {base : Nat} {w : World} {v : Value} {l : List Fr} (h : OwnF base w v l) (hl : l.length ≤ 1000000) : ∃ a c, v = .slice a l.length c ∧ StAt w.heap.size w a l.length c l := by
  obtain ⟨a, c, hv, hr, _⟩ := OwnR.rows h
  rw [List.length_map] at hv
  refine ⟨a, c, hv, ⟨hr, rfl, ?_, by omega⟩⟩
  · rcases h.row.2 with ⟨h1, h0⟩ | ⟨g, cap, cur, h1, _, _, hc, _⟩
    · rw [List.length_map] at h0; omega
    · rw [hv] at h1
      simp only [Value.slice.injEq] at h1
      rw [List.length_map] at hc
      omega
/-- Two stores, and what they leave. -/
theorem box2 {W : World} {g : Nat} {x y : Value} (h : Bx W g x y) (u v : Value) : Bx ((W.setCell ⟨g, 0, none⟩ u).setCell ⟨g, 1, none⟩ v) g u v := (h.set0 u).set1 v
theorem OwnF.set {base : Nat} {w : World} {v : Value} {l : List Fr} (h : OwnF base w v l) {p : Addr} (hp : p.block < base) (u : Value) : OwnF base (w.setCell p u) v l := OwnR.setCell h hp u
theorem OwnF.mono {base base' : Nat} {w : World} {v : Value} {l : List Fr} (h : OwnF base w v l) (hb : base' ≤ base) : OwnF base' w v l := OwnR.mono h hb
theorem OwnF.below {base : Nat} {w w' : World} {v : Value} {l : List Fr} (h : OwnF base w v l) (hb : Below w.heap.size w w') : OwnF base w' v l := OwnR.below h hb
theorem ownF_nil (base : Nat) (w : World) : OwnF base w (.slice none 0 0) [] := OwnR.start _ _ _ _
set_option maxHeartbeats 1000000 in
theorem clone_any (w : World) (a : Option Addr) (n c : Nat) (l : List Fr) (hn : l.length = n) (hr : Rows w.heap.size w a 4 (l.map Fr.v)) (hl : n ≤ 1000000) :
    Calls Tryz.prog 261 #[.slice a n c] w fun e w' => ∃ v, e = .returned v ∧ OwnF w.heap.size w' v l ∧ Below w.heap.size w w' := by
  unfold OwnF
  have HL := hid (fours l)
  have H1 := hid (ones l)
  have HN0 : Hid (l = [] ∨ (l.map Fr.v).length = n) := hid (.inr (by simpa using hn))
  have HE := hid (fun (h : l.map Fr.v = []) => h)
  obtain ⟨ys, hys⟩ : ∃ ys, l.map Fr.v = ys := ⟨_, rfl⟩
  have HN := hid (show ys.length = n by rw [← hys]; simpa using hn)
  rw [hys] at hr HL H1 ⊢
  have HR := hid hr
  have HM := hid (show ys.length ≤ 1000000000 by rw [HN.out]; omega)
  clear hn hr hl HN0 HE hys
  cases a with
  | none =>
    have HY : Hid (ys = []) := hid (HR.out.elim id (fun ⟨b, off, h, _⟩ => by cases h))
    have qn := Lib.run_eql_slice_nil (P := Tryz.prog) w 212 254 Option.none n c 0 0 Tryz.underlying212
    rw [Option.isNone_none] at qn
    go_enter Tryz.func261, Tryz.ntmps261
    go_wp2
    go_ret
    exact ⟨_, rfl, by rw [HY.out]; exact OwnR.start _ _ _ _, Below.refl _ _⟩
  | some ad =>
    have qn := Lib.run_eql_slice_nil (P := Tryz.prog) w 212 254 (some ad) n c 0 0 Tryz.underlying212
    rw [Option.isNone_some] at qn
    go_enter Tryz.func261, Tryz.ntmps261
    go_wp2_with (at_builtin; refine append_list infoFr rfl (by omega) (by omega) Tryz.underlying212 rfl (.tmp 5) (.tmp 6) rfl rfl (OwnR.madeG 254 4 _ rfl) (by simp) _ _ _ rfl ys HN.out ((HR.out.below ((Below.refl _ _).alloc (Nat.le_refl _) _)).more (by simp)) HL.out H1.out HM.out ?_; intro v1 u1 ho hb hsz)
    go_ret
    exact ⟨_, rfl, ho, (((Below.refl w.heap.size w).alloc (Nat.le_refl _) _).trans hb)⟩
end Go.Proofs.YtckdnhafookcgaaGreatDoor.Stk

namespace Go.Proofs.YtckdnhafookcgaaGreatDoor.Stk
open Go.RowKit
set_option linter.unusedVariables false

theorem results_cs {fn : Func} {p q : Tmp} (h : fn.results = #[.cell p 214, .tmp q]) (tmps : Array Value) (w : World) (g : Nat) {x y : Value} (hp : tmps.getD p undef = .pointer (some ⟨g, 0, none⟩)) (hb : Bx w g x y) :
    (results fn tmps).run Tryz.prog w = .ok (.tuple #[.agg #[x, y], tmps.getD q undef]) w := by
  have hp' : tmps[p]?.getD undef = .pointer (some ⟨g, 0, none⟩) := by simpa using hp
  simp [results, h, hp', asAddr, run_loadVar_row w g _ 214 _ _ _ hb Tryz.underlying214 rfl (by kernel_rfl)]
theorem results_css {fn : Func} {p q r : Tmp} (h : fn.results = #[.cell p 214, .tmp q, .tmp r]) (tmps : Array Value) (w : World) (g : Nat) {x y : Value} (hp : tmps.getD p undef = .pointer (some ⟨g, 0, none⟩)) (hb : Bx w g x y) :
    (results fn tmps).run Tryz.prog w = .ok (.tuple #[.agg #[x, y], tmps.getD q undef, tmps.getD r undef]) w := by
  have hp' : tmps[p]?.getD undef = .pointer (some ⟨g, 0, none⟩) := by simpa using hp
  simp [results, h, hp', asAddr, run_loadVar_row w g _ 214 _ _ _ hb Tryz.underlying214 rfl (by kernel_rfl)]
/-- Two boxes: what came in, and the result. -/
theorem two_boxes (w : World) (x y : Value) : ∃ W0, W0 = (w.alloc (.cells #[x, y] 214)).alloc (.cells #[.int .i64 0, .slice none 0 0] 214) ∧ Below w.heap.size w W0 ∧ Bx W0 w.heap.size x y ∧ Bx W0 (w.heap.size + 1) (.int .i64 0) (.slice none 0 0) ∧ W0.heap.size = w.heap.size + 2 := by
  refine ⟨_, rfl, ((Below.refl w.heap.size w).alloc (Nat.le_refl _) _).alloc (by simp) _, (Bx.made w _ _).below ((Below.refl _ _).alloc (Nat.le_refl _) _), ?_, by simp⟩
  have h := Bx.made (w.alloc (.cells #[x, y] 214)) (.int .i64 0) (.slice none 0 0)
  rw [World.size_alloc] at h
  exact h
set_option maxHeartbeats 2000000 in
theorem copied_no (h : Int) (a : Option Addr) (n c : Nat) (l : List Fr) (w : World) (hs : StAt w.heap.size w a n c l) (hv : valid h l = false) :
    Calls Tryz.prog 251 #[.agg #[.int .i64 h, .slice a n c]] w fun e w' => e = .returned (.tuple #[.agg #[.int .i64 0, .slice none 0 0], .pointer none, .int .i64 2]) ∧ Below w.heap.size w w' := by
  obtain ⟨W0, hW0, hb, hx, hy, hsz⟩ := two_boxes w (.int .i64 h) (.slice a n c)
  have CC := hid (check_any h a n c l W0 (hs.on hb))
  have he : chk h l = 2 := by unfold chk; rw [hv]; rfl
  rw [he] at CC
  have c0 := hx.c0
  have c1 := hx.c1
  have HB := hid hb
  have HY := hid hy
  have HW := hid hW0
  have HS := hid hsz
  clear hs hv he hb hx hy hW0 hsz
  go_enter Tryz.func251, Tryz.ntmps251
  go_upto_region 1 with fail
  rw [← HW.out]
  go_wp2_with fail
  refine CC.out.mono ?_
  rintro e w1 ⟨rfl, hb1⟩
  have hy1 := HY.out.below hb1
  have f0 := hy1.f 0
  have f1 := hy1.f 1
  have k0 := hy1.c0
  have k1 := hy1.c1
  have HY1 := hid hy1
  have HB1 := hid (HB.out.trans (hb1.mono HB.out.size))
  clear hy1 hb1
  go_wp2
  exact bodyPost_ret (results_css Tryz.results251 _ _ (w.heap.size + 1) rfl (box2 HY1.out _ _)) rfl ⟨rfl, (HB1.out.setCell (by simp) _).setCell (by simp) _⟩
theorem Bx.drew {W : World} {g : Nat} {x y : Value} (h : Bx W g x y) : Bx W.drew g x y := h
theorem OwnF.drew {base : Nat} {w : World} {v : Value} {l : List Fr} (h : OwnF base w v l) : OwnF base w.drew v l := ⟨h.row, h.len⟩
theorem bx_keep {w W W' : World} {x y : Value} (hx : Bx W w.heap.size x y) (h : Below (w.heap.size + 1) W W') : W'.cell? ⟨w.heap.size, 0, none⟩ = some x ∧ W'.cell? ⟨w.heap.size, 1, none⟩ = some y :=
  ⟨(hx.belowB h (by omega)).c0, (hx.belowB h (by omega)).c1⟩
set_option maxHeartbeats 2000000 in
theorem copied_yes (h : Int) (a : Option Addr) (n c : Nat) (l : List Fr) (w : World) (hs : StAt w.heap.size w a n c l) (hv : valid h l = true) :
    Calls Tryz.prog 251 #[.agg #[.int .i64 h, .slice a n c]] w fun e w' => ∃ g c', e = .returned (.tuple #[.agg #[.int .i64 h, .slice (some ⟨g, 0, none⟩) n c'], .pointer (some ⟨g, (n - 1) * 4, none⟩), .int .i64 0]) ∧ OwnF w.heap.size w' (.slice (some ⟨g, 0, none⟩) n c') l ∧ Below w.heap.size w w' := by
  obtain ⟨W0, hW0, hb, hx, hy, hsz⟩ := two_boxes w (.int .i64 h) (.slice a n c)
  obtain ⟨-, -, hne, hle⟩ := valid_yes hv
  have hl := hs.len
  have CC := hid (check_any h a n c l W0 (hs.on hb))
  have CL := hid (fun W (hB : Below W0.heap.size W0 W) => clone_any W a n c l hl (((hs.on hb).below hB).more hB.size).rows (by omega))
  have he : chk h l = 0 := by unfold chk; rw [hv]; rfl
  rw [he] at CC
  obtain ⟨m, rfl⟩ : ∃ m, n = m + 1 := ⟨n - 1, by have := List.length_pos_iff.2 hne; omega⟩
  rw [Nat.add_sub_cancel]
  have hmm : m ≤ 1000 := by omega
  have hm0 : (m : Int) < (m : Int) + 1 := by omega
  have km : IntKind.i64.wrap (m : Int) = m := s64_in (by omega) (by omega)
  have c0 := hx.c0
  have c1 := hx.c1
  have HL := hid hl
  have HB := hid hb
  have HX := hid hx
  have HY := hid hy
  have HW := hid hW0
  have HS := hid hsz
  clear hs hv he hb hx hy hW0 hsz hl hne hle
  go_enter Tryz.func251, Tryz.ntmps251
  go_upto_region 1 with fail
  rw [← HW.out]
  go_wp2_with fail
  refine CC.out.mono ?_
  rintro e w1 ⟨rfl, hb1⟩
  have hx1 := HX.out.below hb1
  have d0 := hx1.c0
  have d1 := hx1.c1
  have HX1 := hid hx1
  have HB1 := hid hb1
  clear hb1 hx1 c0 c1
  go_wp2_with fail
  refine (CL.out _ HB1.out).mono ?_
  rintro e w2 ⟨v, rfl, ho, hb2⟩
  obtain ⟨a1, c1, hv1, hst⟩ := OwnF.slice ho (by rw [HL.out]; omega)
  rw [HL.out] at hv1
  have hpos : ∃ g, a1 = some ⟨g, 0, none⟩ ∧ w1.heap.size ≤ g := by
    rcases ho.row.2 with ⟨h1, h0⟩ | ⟨g, cap, cur, h1, hg, _⟩
    · rw [List.length_map, HL.out] at h0; omega
    · rw [hv1] at h1
      simp only [Value.slice.injEq] at h1
      exact ⟨g, h1.1, hg⟩
  obtain ⟨g, rfl, hg⟩ := hpos
  subst hv1
  have hx2 := HX1.out.below hb2
  have e0 := hx2.c0
  have e1 := hx2.c1
  have f1 := hx2.f 1
  have HX2 := hid hx2
  have HY2 := hid ((HY.out.below HB1.out).below hb2)
  have HO := hid ho
  have HB2 := hid (HB.out.trans ((HB1.out.trans (hb2.mono HB1.out.size)).mono HB.out.size))
  have HZ := hid (show w.heap.size + 2 ≤ w1.heap.size by have := HB1.out.size; have := HS.out; omega)
  have HG := hid hg
  clear ho hst hb2 hx2 CC CL HX1 hg d0 d1
  go_wp2
  obtain ⟨w3, hw3⟩ : ∃ w3, w3 = w2.setCell ⟨w.heap.size, 1, none⟩ (.slice (some ⟨g, 0, none⟩) (m + 1) c1) := ⟨_, rfl⟩
  rw [← hw3]
  have hx3 : Bx w3 w.heap.size (.int .i64 h) (.slice (some ⟨g, 0, none⟩) (m + 1) c1) := by rw [hw3]; exact HX2.out.set1 _
  have hy3 : Bx w3 (w.heap.size + 1) (.int .i64 0) (.slice none 0 0) := by rw [hw3]; exact HY2.out.far (by simp) _
  have HO3 : Hid (OwnF w1.heap.size w3 (.slice (some ⟨g, 0, none⟩) (m + 1) c1) l) := hid (by rw [hw3]; exact HO.out.set (by have := HZ.out; show w.heap.size < _; omega) _)
  have HB3 : Hid (Below w.heap.size w w3) := hid (by rw [hw3]; exact HB2.out.setCell (by simp) _)
  have HY3 := hid hy3
  have e0 := hx3.c0
  have e1 := hx3.c1
  have f0 := hy3.f 0
  have f1 := hy3.f 1
  have k0 := hy3.c0
  have k1 := hy3.c1
  have hS : w3.cell? ⟨w.heap.size, 0, none⟩ = some (.int .i64 h) ∧ w3.cell? ⟨w.heap.size, 1, none⟩ = some (.slice (some ⟨g, 0, none⟩) (m + 1) c1) := ⟨e0, e1⟩
  have HK := hid (fun (W' : World) (h : Below (w.heap.size + 1) w3 W') => bx_keep hx3 h)
  clear hw3 hx3 hy3 HO HB2 HX2 HY2 HX HY HB HB1
  go_region_held3 (fun w' => w'.cell? ⟨w.heap.size, 0, none⟩ = some (.int .i64 h) ∧ w'.cell? ⟨w.heap.size, 1, none⟩ = some (.slice (some ⟨g, 0, none⟩) (m + 1) c1))
    (first
      | (with_reducible assumption)
      | (with_reducible exact HK.out _ ((Below.refl _ _).drew))
      | (with_reducible exact HK.out _ ((((Below.refl _ _).drew).setCell (by simp) _).setCell (by simp) _))
      | (with_reducible exact HK.out _ (((Below.refl _ _).setCell (by simp) _).setCell (by simp) _)))
    (fail)
  go_wp2
  have hz := HZ.out
  exact bodyPost_ret (results_css Tryz.results251 _ _ (w.heap.size + 1) rfl (Bx.drew (box2 HY3.out _ _))) rfl ⟨g, c1, rfl, OwnF.drew (((HO3.out.set (by show w.heap.size + 1 < _; omega) _).set (by show w.heap.size + 1 < _; omega) _).mono (by omega)), ((HB3.out.setCell (by simp) _).setCell (by simp) _).drew⟩
end Go.Proofs.YtckdnhafookcgaaGreatDoor.Stk

namespace Go.Proofs.YtckdnhafookcgaaGreatDoor.Stk
open Go.RowKit
set_option linter.unusedVariables false

/-- What a call that returns a stand gives: it, in memory of its own, and an error. -/
def MadeP (w : World) (r : R) (e : Ending) (w' : World) : Prop := ∃ a n c, e = .returned (.tuple #[.agg #[.int .i64 r.h, .slice a n c], .int .i64 r.e]) ∧ OwnF w.heap.size w' (.slice a n c) r.l ∧ Below w.heap.size w w'
/-- Behind the copy: both boxes, the frames. -/
structure Mid (w w2 : World) (h : Int) (g n c : Nat) (l : List Fr) : Prop where
  par : Bx w2 w.heap.size (.int .i64 h) (.slice (some ⟨g, 0, none⟩) n c)
  res : Bx w2 (w.heap.size + 1) (.int .i64 0) (.slice none 0 0)
  own : OwnF (w.heap.size + 2) w2 (.slice (some ⟨g, 0, none⟩) n c) l
  below : Below w.heap.size w w2
theorem Mid.of {w W0 w1 : World} {h : Int} {x y : Value} {g n c : Nat} {l : List Fr} (hb : Below w.heap.size w W0) (hx : Bx W0 w.heap.size x y) (hy : Bx W0 (w.heap.size + 1) (.int .i64 0) (.slice none 0 0)) (hz : W0.heap.size = w.heap.size + 2)
    (ho : OwnF W0.heap.size w1 (.slice (some ⟨g, 0, none⟩) n c) l) (hb1 : Below W0.heap.size W0 w1) : Mid w ((w1.setCell ⟨w.heap.size, 0, none⟩ (.int .i64 h)).setCell ⟨w.heap.size, 1, none⟩ (.slice (some ⟨g, 0, none⟩) n c)) h g n c l := by
  rw [hz] at ho
  refine ⟨box2 (hx.below hb1) _ _, ((hy.below hb1).far (by simp) _).far (by simp) _, (ho.set (by simp) _).set (by simp) _, ((hb.trans (hb1.mono hb.size)).setCell (by simp) _).setCell (by simp) _⟩
theorem made_ok {w W : World} {h' : Int} {a : Option Addr} {n c : Nat} {l' : List Fr} {r : R} (hr : r = ⟨h', l', 0⟩) (ho : OwnF (w.heap.size + 2) W (.slice a n c) l') (hb : Below w.heap.size w W) : MadeP w r (.returned (.tuple #[.agg #[.int .i64 h', .slice a n c], .int .i64 0])) W := by
  subst hr
  exact ⟨a, n, c, rfl, ho.mono (by omega), hb⟩
/-- The innermost frame's cells. -/
theorem own_last {base : Nat} {w : World} {g m c : Nat} {l : List Fr} (h : OwnF base w (.slice (some ⟨g, 0, none⟩) (m + 1) c) l) (hl : l.length = m + 1) (hm : m ≤ 1000) :
    w.cell? ⟨g, m * 4, none⟩ = some (.int .i64 (lastF l).op) ∧ w.cell? ⟨g, m * 4 + 1, none⟩ = some (.int .i64 (lastF l).ba) ∧ w.cell? ⟨g, m * 4 + 2, none⟩ = some (.int .i64 (lastF l).re) ∧ w.cell? ⟨g, m * 4 + 3, none⟩ = some (.bool (lastF l).de) := by
  obtain ⟨a, c', hv, hst⟩ := h.slice (by omega)
  simp only [Value.slice.injEq] at hv
  obtain ⟨rfl, _, _⟩ := hv
  obtain ⟨b, off, hbo, _, hc⟩ := hst.get (by omega)
  simp only [Option.some.injEq, Addr.mk.injEq, and_true] at hbo
  obtain ⟨rfl, rfl⟩ := hbo
  have hlast : l[m]'(by omega) = lastF l := by
    unfold lastF
    rw [List.getD_eq_getElem?_getD, List.getElem?_eq_getElem (by omega)]
    simp [hl]
  have := hc m (by omega)
  rw [hlast, Nat.zero_add] at this
  exact this
theorem own_block {base : Nat} {w : World} {g n c : Nat} {l : List Fr} (h : OwnF base w (.slice (some ⟨g, 0, none⟩) n c) l) : base ≤ g ∧ g < w.heap.size := World.ownsRow.lt h.row g rfl
theorem undrew {w W : World} (h : Below w.drew.heap.size w.drew W) : Below w.heap.size w W := ⟨h.os, h.tape, h.output, h.size, h.block⟩
theorem made_bad {w W : World} {h z : Int} {v : Value} {er : Int} (hb : Below w.heap.size w W) {r : R} (hr : r = bad er) : MadeP w r (.returned (.tuple #[.agg #[.int .i64 0, .slice none 0 0], .int .i64 er])) W := by
  subst hr
  exact ⟨none, 0, 0, rfl, ownF_nil _ _, hb⟩
set_option maxRecDepth 100000 in
set_option maxHeartbeats 4000000 in
theorem push_any (h : Int) (a : Option Addr) (n c : Nat) (l : List Fr) (k : Int) (w : World) (hs : StAt w.heap.size w a n c l) :
    Calls Tryz.prog 248 #[.agg #[.int .i64 h, .slice a n c], .int .i64 k] w fun e w' => MadeP w (pushR h l k) e w' := by
  obtain ⟨W0, hW0, hb, hx, hy, hsz⟩ := two_boxes w (.int .i64 h) (.slice a n c)
  have hsW := hs.on hb
  have c0 := hx.c0
  have c1 := hx.c1
  have HB := hid hb
  have HX := hid hx
  have HY := hid hy
  have HW := hid hW0
  have HS := hid hsz
  have HRE : Hid (pushR h l k = pushR h l k) := rfl
  obtain ⟨r, hr⟩ : ∃ r, r = pushR h l k := ⟨_, rfl⟩
  rw [← hr]
  clear HRE
  clear hb hx hy hW0 hsz
  cases hv : valid h l with
  | false =>
    have HE : Hid (r = bad 2) := hid (by rw [hr]; simp [pushR, hv])
    have CC := hid (copied_no h a n c l W0 hsW hv)
    clear hs hsW hv hr
    go_enter Tryz.func248, Tryz.ntmps248
    go_upto_region 1 with fail
    rw [← HW.out]
    go_wp2_with fail
    refine CC.out.mono ?_
    rintro e w1 ⟨rfl, hb1⟩
    have hx1 := HX.out.below hb1
    have hy1 := HY.out.below hb1
    have f0 := hx1.f 0
    have f1 := hx1.f 1
    have k0 := hx1.c0
    have k1 := hx1.c1
    have HX1 := hid hx1
    have HY1 := hid hy1
    have HB1 := hid (HB.out.trans (hb1.mono HB.out.size))
    clear hx1 hy1 hb1 c0 c1 CC
    go_upto_region 2 with fail
    obtain ⟨w2, hw2⟩ : ∃ w2, w2 = (w1.setCell ⟨w.heap.size, 0, none⟩ (.int .i64 0)).setCell ⟨w.heap.size, 1, none⟩ (.slice none 0 0) := ⟨_, rfl⟩
    rw [← hw2]
    have hy2 : Bx w2 (w.heap.size + 1) (.int .i64 0) (.slice none 0 0) := by rw [hw2]; exact (HY1.out.far (by simp) _).far (by simp) _
    have HB2 : Hid (Below w.heap.size w w2) := hid (by rw [hw2]; exact (HB1.out.setCell (by simp) _).setCell (by simp) _)
    have HY2 := hid hy2
    have f0 := hy2.f 0
    have f1 := hy2.f 1
    have k0 := hy2.c0
    have k1 := hy2.c1
    clear hy2 hw2 HX1 HY1 HB1
    go_wp2
    exact bodyPost_ret (results_cs Tryz.results248 _ _ (w.heap.size + 1) rfl (box2 HY2.out _ _)) rfl (made_bad (h := 0) (z := 0) (v := .bool true) ((HB2.out.setCell (by simp) _).setCell (by simp) _) HE.out)
  | true =>
    have CC := hid (copied_yes h a n c l W0 hsW hv)
    have HV := hid hv
    have HR := hid hr
    have HLN := hid hs.len
    clear hs hsW hv hr
    obtain ⟨hh0, hh1, -, -⟩ := valid_yes HV.out
    have q : IntKind.i64.wrap (1073741824 - h) = 1073741824 - h := s64_in (by omega) (by omega)
    have HH := hid (And.intro hh0 hh1)
    clear hh0 hh1
    by_cases g1 : k < 0
    · have HE : Hid (r = bad 2) := hid (by rw [HR.out]; simp [pushR, HV.out, g1])
      go_enter Tryz.func248, Tryz.ntmps248
      go_upto_region 1 with fail
      rw [← HW.out]
      go_wp2_with fail
      refine CC.out.mono ?_
      rintro e w1 ⟨g, c', rfl, ho, hb1⟩
      have HM0 := hid (Mid.of (h := h) HB.out HX.out HY.out HS.out ho hb1)
      have hx1 := HX.out.below hb1
      have f0 := hx1.f 0
      have f1 := hx1.f 1
      have k0 := hx1.c0
      have k1 := hx1.c1
      clear hx1 hb1 ho c0 c1 CC
      go_upto_region 2 with fail
      obtain ⟨w2, hw2⟩ : ∃ w2, w2 = (w1.setCell ⟨w.heap.size, 0, none⟩ (.int .i64 h)).setCell ⟨w.heap.size, 1, none⟩ (.slice (some ⟨g, 0, none⟩) n c') := ⟨_, rfl⟩
      rw [← hw2] at HM0 ⊢
      clear hw2 f0 f1 k0 k1 HB HX HY HS HW
      have hp := HM0.out.par
      have hy := HM0.out.res
      have p0 := hp.c0
      have p1 := hp.c1
      have pf0 := hp.f 0
      have pf1 := hp.f 1
      have r0 := hy.c0
      have r1 := hy.c1
      have rf0 := hy.f 0
      have rf1 := hy.f 1
      clear hp hy
      go_wp2
      exact bodyPost_ret (results_cs Tryz.results248 _ _ (w.heap.size + 1) rfl (box2 HM0.out.res _ _)) rfl (made_bad (h := 0) (z := 0) (v := .bool true) ((HM0.out.below.setCell (by simp) _).setCell (by simp) _) HE.out)
    by_cases g2 : 1073741824 - h < k
    · have HE : Hid (r = bad 8) := hid (by rw [HR.out]; simp [pushR, HV.out, g1, g2])
      go_enter Tryz.func248, Tryz.ntmps248
      go_upto_region 1 with fail
      rw [← HW.out]
      go_wp2_with fail
      refine CC.out.mono ?_
      rintro e w1 ⟨g, c', rfl, ho, hb1⟩
      have HM0 := hid (Mid.of (h := h) HB.out HX.out HY.out HS.out ho hb1)
      have hx1 := HX.out.below hb1
      have f0 := hx1.f 0
      have f1 := hx1.f 1
      have k0 := hx1.c0
      have k1 := hx1.c1
      clear hx1 hb1 ho c0 c1 CC
      go_upto_region 2 with fail
      obtain ⟨w2, hw2⟩ : ∃ w2, w2 = (w1.setCell ⟨w.heap.size, 0, none⟩ (.int .i64 h)).setCell ⟨w.heap.size, 1, none⟩ (.slice (some ⟨g, 0, none⟩) n c') := ⟨_, rfl⟩
      rw [← hw2] at HM0 ⊢
      clear hw2 f0 f1 k0 k1 HB HX HY HS HW
      have hp := HM0.out.par
      have hy := HM0.out.res
      have p0 := hp.c0
      have p1 := hp.c1
      have pf0 := hp.f 0
      have pf1 := hp.f 1
      have r0 := hy.c0
      have r1 := hy.c1
      have rf0 := hy.f 0
      have rf1 := hy.f 1
      clear hp hy
      go_wp2
      exact bodyPost_ret (results_cs Tryz.results248 _ _ (w.heap.size + 1) rfl (box2 HM0.out.res _ _)) rfl (made_bad (h := 0) (z := 0) (v := .bool true) ((HM0.out.below.setCell (by simp) _).setCell (by simp) _) HE.out)
    have HE : Hid (r = ⟨h + k, l, 0⟩) := hid (by rw [HR.out]; simp [pushR, HV.out, g1, g2])
    have q2 : IntKind.i64.wrap (h + k) = h + k := s64_in (by have := HH.out; omega) (by omega)
    go_enter Tryz.func248, Tryz.ntmps248
    go_upto_region 1 with fail
    rw [← HW.out]
    go_wp2_with fail
    refine CC.out.mono ?_
    rintro e w1 ⟨g, c', rfl, ho, hb1⟩
    have HM0 := hid (Mid.of (h := h) HB.out HX.out HY.out HS.out ho hb1)
    have hx1 := HX.out.below hb1
    have f0 := hx1.f 0
    have f1 := hx1.f 1
    have k0 := hx1.c0
    have k1 := hx1.c1
    clear hx1 hb1 ho c0 c1 CC
    go_upto_region 2 with fail
    obtain ⟨w2, hw2⟩ : ∃ w2, w2 = (w1.setCell ⟨w.heap.size, 0, none⟩ (.int .i64 h)).setCell ⟨w.heap.size, 1, none⟩ (.slice (some ⟨g, 0, none⟩) n c') := ⟨_, rfl⟩
    rw [← hw2] at HM0 ⊢
    clear hw2 f0 f1 k0 k1 HB HX HY HS HW
    have hp := HM0.out.par
    have hy := HM0.out.res
    have p0 := hp.c0
    have p1 := hp.c1
    have pf0 := hp.f 0
    have pf1 := hp.f 1
    have r0 := hy.c0
    have r1 := hy.c1
    have rf0 := hy.f 0
    have rf1 := hy.f 1
    clear hp hy
    go_wp2
    exact bodyPost_ret (results_cs Tryz.results248 _ _ (w.heap.size + 1) rfl (box2 (HM0.out.res.far (by simp) _) _ _)) rfl (made_ok HE.out (((HM0.out.own.set (by simp) _).set (by simp) _).set (by simp) _) (((HM0.out.below.setCell (by simp) _).setCell (by simp) _).setCell (by simp) _))
end Go.Proofs.YtckdnhafookcgaaGreatDoor.Stk

namespace Go.Proofs.YtckdnhafookcgaaGreatDoor.Stk
open Go.RowKit
set_option linter.unusedVariables false

theorem lit_own (w : World) (f : Fr) : OwnF w.heap.size (w.alloc (.cells #[.int .i64 f.op, .int .i64 f.ba, .int .i64 f.re, .bool f.de] 254)) (.slice (some ⟨w.heap.size, 0, none⟩) 1 1) [f] := by
  refine ⟨?_, fours _⟩
  have h := World.ownsRow_lit (base := w.heap.size) (e := 254) (size := 4) w #[.int .i64 f.op, .int .i64 f.ba, .int .i64 f.re, .bool f.de] 1 (Nat.le_refl _) (by unfold maxLen; omega) rfl
  simpa [Fr.v] using h
theorem new_world (w : World) (re : Int) : Bx ((w.alloc (.cells #[.int .i64 0, .slice (some ⟨w.heap.size + 1, 0, none⟩) 1 1] 214)).alloc (.cells #[.int .i64 0, .int .i64 0, .int .i64 re, .bool false] 254)) w.heap.size (.int .i64 0) (.slice (some ⟨w.heap.size + 1, 0, none⟩) 1 1) ∧
    OwnF w.heap.size ((w.alloc (.cells #[.int .i64 0, .slice (some ⟨w.heap.size + 1, 0, none⟩) 1 1] 214)).alloc (.cells #[.int .i64 0, .int .i64 0, .int .i64 re, .bool false] 254)) (.slice (some ⟨w.heap.size + 1, 0, none⟩) 1 1) [⟨0, 0, re, false⟩] ∧
    Below w.heap.size w ((w.alloc (.cells #[.int .i64 0, .slice (some ⟨w.heap.size + 1, 0, none⟩) 1 1] 214)).alloc (.cells #[.int .i64 0, .int .i64 0, .int .i64 re, .bool false] 254)) := by
  refine ⟨(Bx.made w _ _).below ((Below.refl _ _).alloc (Nat.le_refl _) _), ?_, ((Below.refl _ _).alloc (Nat.le_refl _) _).alloc (by simp) _⟩
  have h := lit_own (w.alloc (.cells #[.int .i64 0, .slice (some ⟨w.heap.size + 1, 0, none⟩) 1 1] 214)) ⟨0, 0, re, false⟩
  rw [World.size_alloc] at h
  exact h.mono (by omega)
set_option maxRecDepth 100000 in
set_option maxHeartbeats 4000000 in
theorem new_any (re : Int) (w : World) : Calls Tryz.prog 153 #[.int .i64 re] w fun e w' => MadeP w (newR re) e w' := by
  obtain ⟨W0, hW0⟩ : ∃ W0, W0 = w.alloc (.cells #[.int .i64 0, .slice none 0 0] 214) := ⟨_, rfl⟩
  have hy : Bx W0 w.heap.size (.int .i64 0) (.slice none 0 0) := by rw [hW0]; exact Bx.made w _ _
  have hb : Below w.heap.size w W0 := by rw [hW0]; exact (Below.refl _ _).alloc (Nat.le_refl _) _
  have hsz : W0.heap.size = w.heap.size + 1 := by rw [hW0]; simp
  have HB := hid hb
  have HY := hid hy
  have HW := hid hW0
  have HS := hid hsz
  have r0 := hy.c0
  have r1 := hy.c1
  have rf0 := hy.f 0
  have rf1 := hy.f 1
  have CR := hid (fun W => wrongResults_any re W)
  obtain ⟨r, hr⟩ : ∃ r, r = newR re := ⟨_, rfl⟩
  rw [← hr]
  have HR1 : Hid (r = if wrongRe re = true then bad 2 else ⟨0, [⟨0, 0, re, false⟩], 0⟩) := hid (by rw [hr]; simp [newR])
  have HQ : Hid (wrongRe re = (decide (re < 0) || decide (1 < re))) := rfl
  clear hy hb hW0 hsz hr
  obtain ⟨q, hq⟩ : ∃ q, wrongRe re = q := ⟨_, rfl⟩
  rw [hq] at CR HR1
  clear hq HQ
  cases q with
  | true =>
    have HE : Hid (r = bad 2) := HR1.out
    clear HR1
    go_enter Tryz.func153, Tryz.ntmps153
    go_upto_region 1 with fail
    rw [← HW.out]
    go_wp2_with fail
    refine (CR.out _).mono ?_
    rintro e w1 ⟨rfl, rfl⟩
    go_wp2
    exact bodyPost_ret (results_cs Tryz.results153 _ _ w.heap.size rfl (box2 HY.out _ _)) rfl (made_bad (h := 0) (z := 0) (v := .bool true) ((HB.out.setCell (by simp) _).setCell (by simp) _) HE.out)
  | false =>
    have HE : Hid (r = ⟨0, [⟨0, 0, re, false⟩], 0⟩) := HR1.out
    clear HR1
    go_enter Tryz.func153, Tryz.ntmps153
    go_wp2_with fail
    refine (CR.out _).mono ?_
    rintro e w1 ⟨rfl, rfl⟩
    go_wp2
    obtain ⟨n1, n2, n3⟩ := new_world w re
    exact bodyPost_ret (results_cs Tryz.results153 _ _ w.heap.size rfl n1) rfl (by show MadeP w r _ _; rw [HE.out]; exact ⟨_, _, _, rfl, n2, n3⟩)
set_option maxRecDepth 100000 in
set_option maxHeartbeats 4000000 in
theorem label_any (h : Int) (a : Option Addr) (n c : Nat) (l : List Fr) (k : Int) (w : World) (hs : StAt w.heap.size w a n c l) :
    Calls Tryz.prog 247 #[.agg #[.int .i64 h, .slice a n c], .int .i64 k] w fun e w' => e = .returned (.tuple #[.int .i64 (labelR h l k).1, .int .i64 (labelR h l k).2]) ∧ Below w.heap.size w w' := by
  obtain ⟨W0, hW0⟩ : ∃ W0, W0 = w.alloc (.cells #[.int .i64 h, .slice a n c] 214) := ⟨_, rfl⟩
  have hx : Bx W0 w.heap.size (.int .i64 h) (.slice a n c) := by rw [hW0]; exact Bx.made w _ _
  have hb : Below w.heap.size w W0 := by rw [hW0]; exact (Below.refl _ _).alloc (Nat.le_refl _) _
  have hsW := hs.on hb
  have CC := hid (check_any h a n c l W0 hsW)
  have c0 := hx.c0
  have c1 := hx.c1
  have HB := hid hb
  have HX := hid hx
  have HW := hid hW0
  have HS := hid hs
  obtain ⟨r, hr⟩ : ∃ r, r = labelR h l k := ⟨_, rfl⟩
  rw [← hr]
  clear hs hsW hx hb hW0
  cases hv : valid h l with
  | false =>
    have HE : Hid (r = (0, 2)) := hid (by rw [hr]; simp [labelR, hv])
    have hc : chk h l = 2 := by simp [chk, hv]
    rw [hc] at CC
    clear hc hr hv
    go_enter Tryz.func247, Tryz.ntmps247
    go_upto_region 1 with fail
    rw [← HW.out]
    go_wp2_with fail
    refine CC.out.mono ?_
    rintro e w1 ⟨rfl, hb1⟩
    have HB1 := hid (HB.out.trans (hb1.mono HB.out.size))
    clear hb1
    go_wp2
    go_ret2
    exact ⟨by rw [HE.out]; rfl, HB1.out⟩
  | true =>
    have hc : chk h l = 0 := by simp [chk, hv]
    rw [hc] at CC
    have HR1 : Hid (r = if k < 0 ∨ (l.length : Int) ≤ k then (0, 6) else if (l.getD (l.length - 1 - k.toNat) Fr.none).op = 3 then (0, 0) else ((l.getD (l.length - 1 - k.toNat) Fr.none).re, 0)) := hid (by rw [hr]; simp only [labelR, hv]; rfl)
    obtain ⟨-, -, hne, hle⟩ := valid_yes hv
    have hl := HS.out.len
    rw [hl] at HR1 hle
    have hn0 : 0 < n := by rw [← hl]; exact List.length_pos_iff.2 hne
    have PRE : ∀ (P : Prop), P → P := fun _ h => h
    clear hc hr hv hne
    by_cases g1 : k < 0
    · have HE : Hid (r = (0, 6)) := hid (by rw [HR1.out, if_pos (.inl g1)])
      clear HR1
      go_enter Tryz.func247, Tryz.ntmps247
      go_upto_region 1 with fail
      rw [← HW.out]
      go_wp2_with fail
      refine CC.out.mono ?_
      rintro e w1 ⟨rfl, hb1⟩
      have HB1 := hid (HB.out.trans (hb1.mono HB.out.size))
      clear hb1
      go_wp2
      go_ret2
      exact ⟨by rw [HE.out]; rfl, HB1.out⟩
    by_cases g2 : (n : Int) ≤ k
    · have HE : Hid (r = (0, 6)) := hid (by rw [HR1.out, if_pos (.inr g2)])
      clear HR1
      go_enter Tryz.func247, Tryz.ntmps247
      go_upto_region 1 with fail
      rw [← HW.out]
      go_wp2_with fail
      refine CC.out.mono ?_
      rintro e w1 ⟨rfl, hb1⟩
      have hx1 := HX.out.below hb1
      have d0 := hx1.c0
      have d1 := hx1.c1
      have HB1 := hid (HB.out.trans (hb1.mono HB.out.size))
      clear hb1 hx1
      go_wp2
      go_ret2
      exact ⟨by rw [HE.out]; rfl, HB1.out⟩
    obtain ⟨j, hj⟩ : ∃ j : Nat, k = (n : Int) - 1 - j := ⟨n - 1 - k.toNat, by omega⟩
    have hjn : j < n := by omega
    have hjl : j < l.length := by rw [hl]; exact hjn
    have hjk : n - 1 - k.toNat = j := by omega
    have hget : l.getD j Fr.none = l[j] := by rw [List.getD_eq_getElem?_getD, List.getElem?_eq_getElem hjl]; rfl
    rw [if_neg (by omega), hjk, hget] at HR1
    obtain ⟨b, off, rfl, hbb, hcc⟩ := HS.out.get hn0
    obtain ⟨e0, e1, e2, e3⟩ := hcc j hjl
    obtain ⟨f, hf⟩ : ∃ f, l[j] = f := ⟨_, rfl⟩
    rw [hf] at e0 e1 e2 e3 HR1
    obtain ⟨op, ba, re, de⟩ := f
    dsimp only at e0 e1 e2 e3 HR1
    have k1 : IntKind.i64.wrap ((n : Int) - 1) = (n : Int) - 1 := s64_in (by omega) (by omega)
    have k2 : IntKind.i64.wrap ((n : Int) - 1 - k) = (j : Int) := by rw [s64_in (by omega) (by omega)]; omega
    have hji : (j : Int) < (n : Int) := by omega
    have hbs : b < w.heap.size := hbb
    have HEE := hid (And.intro e0 (And.intro e1 (And.intro e2 e3)))
    clear hf hget hjk hj hjl hcc e0 e1 e2 e3 HS
    go_enter Tryz.func247, Tryz.ntmps247
    go_upto_region 1 with fail
    rw [← HW.out]
    go_wp2_with fail
    refine CC.out.mono ?_
    rintro e w1 ⟨rfl, hb1⟩
    have hx1 := HX.out.below hb1
    have hbw := HB.out.trans (hb1.mono HB.out.size)
    have d0 := hx1.c0
    have d1 := hx1.c1
    have e0 := (hbw.cell (p := ⟨b, off + j * 4, none⟩) hbs).trans HEE.out.1
    have e1 := (hbw.cell (p := ⟨b, off + j * 4 + 1, none⟩) hbs).trans HEE.out.2.1
    have e2 := (hbw.cell (p := ⟨b, off + j * 4 + 2, none⟩) hbs).trans HEE.out.2.2.1
    have e3 := (hbw.cell (p := ⟨b, off + j * 4 + 3, none⟩) hbs).trans HEE.out.2.2.2
    have HB1 := hid hbw
    have HA := hid (hbw.alloc hbw.size (.cells #[.int .i64 op, .int .i64 ba, .int .i64 re, .bool de] 254))
    clear hb1 hx1 hbw HEE c0 c1
    by_cases g3 : op = 3
    · subst g3
      have HE : Hid (r = (0, 0)) := hid (by rw [HR1.out]; rfl)
      clear HR1
      go_wp2
      go_ret2
      exact ⟨by rw [HE.out]; rfl, HA.out⟩
    · have HE : Hid (r = (re, 0)) := hid (by rw [HR1.out, if_neg g3])
      have g3b : (op == 3) = false := by simp [g3]
      clear HR1
      go_wp2
      go_ret2
      exact ⟨by rw [HE.out]; rfl, HA.out⟩
end Go.Proofs.YtckdnhafookcgaaGreatDoor.Stk

namespace Go.Proofs.YtckdnhafookcgaaGreatDoor.Stk
open Go.RowKit
set_option linter.unusedVariables false

/-- What stays over a region that calls what leaves all that was there. -/
theorem pop_keep {w w2 W : World} {x y : Value} {g o : Nat} {t0 t1 t2 t3 : Value} (hx : Bx w2 w.heap.size x y) (c0 : w2.cell? ⟨g, o, none⟩ = some t0) (c1 : w2.cell? ⟨g, o + 1, none⟩ = some t1) (c2 : w2.cell? ⟨g, o + 2, none⟩ = some t2) (c3 : w2.cell? ⟨g, o + 3, none⟩ = some t3) (h : Below w2.heap.size w2 W) :
    Below w2.heap.size w2 W ∧ W.cell? ⟨w.heap.size, 0, none⟩ = some x ∧ W.cell? ⟨g, o, none⟩ = some t0 ∧ W.cell? ⟨g, o + 1, none⟩ = some t1 ∧ W.cell? ⟨g, o + 2, none⟩ = some t2 ∧ W.cell? ⟨g, o + 3, none⟩ = some t3 :=
  ⟨h, (hx.below h).c0, keep h c0, keep h c1, keep h c2, keep h c3⟩
set_option maxRecDepth 100000 in
set_option maxHeartbeats 4000000 in
theorem pop_any (h : Int) (a : Option Addr) (n c : Nat) (l : List Fr) (k : Int) (w : World) (hs : StAt w.heap.size w a n c l) (hk : k ≤ 9223372036854775807) :
    Calls Tryz.prog 246 #[.agg #[.int .i64 h, .slice a n c], .int .i64 k] w fun e w' => MadeP w (popR h l k) e w' := by
  obtain ⟨W0, hW0, hb, hx, hy, hsz⟩ := two_boxes w (.int .i64 h) (.slice a n c)
  have hsW := hs.on hb
  have c0 := hx.c0
  have c1 := hx.c1
  have HB := hid hb
  have HX := hid hx
  have HY := hid hy
  have HW := hid hW0
  have HS := hid hsz
  have HRE : Hid (popR h l k = popR h l k) := rfl
  obtain ⟨r, hr⟩ : ∃ r, r = popR h l k := ⟨_, rfl⟩
  rw [← hr]
  clear HRE
  clear hb hx hy hW0 hsz
  cases hv : valid h l with
  | false =>
    have HE : Hid (r = bad 2) := hid (by rw [hr]; simp [popR, hv])
    have CC := hid (copied_no h a n c l W0 hsW hv)
    clear hs hsW hv hr
    go_enter Tryz.func246, Tryz.ntmps246
    go_upto_region 1 with fail
    rw [← HW.out]
    go_wp2_with fail
    refine CC.out.mono ?_
    rintro e w1 ⟨rfl, hb1⟩
    have hx1 := HX.out.below hb1
    have hy1 := HY.out.below hb1
    have f0 := hx1.f 0
    have f1 := hx1.f 1
    have k0 := hx1.c0
    have k1 := hx1.c1
    have HX1 := hid hx1
    have HY1 := hid hy1
    have HB1 := hid (HB.out.trans (hb1.mono HB.out.size))
    clear hx1 hy1 hb1 c0 c1 CC
    go_upto_region 2 with fail
    obtain ⟨w2, hw2⟩ : ∃ w2, w2 = (w1.setCell ⟨w.heap.size, 0, none⟩ (.int .i64 0)).setCell ⟨w.heap.size, 1, none⟩ (.slice none 0 0) := ⟨_, rfl⟩
    rw [← hw2]
    have hy2 : Bx w2 (w.heap.size + 1) (.int .i64 0) (.slice none 0 0) := by rw [hw2]; exact (HY1.out.far (by simp) _).far (by simp) _
    have HB2 : Hid (Below w.heap.size w w2) := hid (by rw [hw2]; exact (HB1.out.setCell (by simp) _).setCell (by simp) _)
    have HY2 := hid hy2
    have f0 := hy2.f 0
    have f1 := hy2.f 1
    have k0 := hy2.c0
    have k1 := hy2.c1
    clear hy2 hw2 HX1 HY1 HB1
    go_wp2
    exact bodyPost_ret (results_cs Tryz.results246 _ _ (w.heap.size + 1) rfl (box2 HY2.out _ _)) rfl (made_bad (h := 0) (z := 0) (v := .bool true) ((HB2.out.setCell (by simp) _).setCell (by simp) _) HE.out)
  | true =>
    have CC := hid (copied_yes h a n c l W0 hsW hv)
    have HV := hid hv
    have HR := hid hr
    have HLN := hid hs.len
    clear hs hsW hv hr
    obtain ⟨hh0, hh1, hne, hle⟩ := valid_yes HV.out
    obtain ⟨m, rfl⟩ : ∃ m, n = m + 1 := ⟨n - 1, by have := HLN.out; have := List.length_pos_iff.2 hne; omega⟩
    have hm : m ≤ 1000 := by have := HLN.out; omega
    have hfi := lastF_fine HV.out
    have HT := hid (fun (W : World) (g c' : Nat) (ho : OwnF (w.heap.size + 2) W (.slice (some ⟨g, 0, none⟩) (m + 1) c') l) => own_last ho HLN.out hm)
    obtain ⟨f, hf⟩ : ∃ f, lastF l = f := ⟨_, rfl⟩
    rw [hf] at HT hfi
    obtain ⟨op, ba, re, de⟩ := f
    dsimp only [fine] at HT hfi
    obtain ⟨hb0, hb1', hr0, hr1⟩ := hfi
    rw [Nat.add_sub_cancel] at CC
    by_cases g1 : k < 0
    · have HE : Hid (r = bad 2) := hid (by rw [HR.out]; simp [popR, HV.out, g1])
      clear hm
      go_enter Tryz.func246, Tryz.ntmps246
      go_upto_region 1 with fail
      rw [← HW.out]
      go_wp2_with fail
      refine CC.out.mono ?_
      rintro e w1 ⟨g, c', rfl, ho, hb1⟩
      have HM0 := hid (Mid.of (h := h) HB.out HX.out HY.out HS.out ho hb1)
      have hx1 := HX.out.below hb1
      have f0 := hx1.f 0
      have f1 := hx1.f 1
      have k0 := hx1.c0
      have k1 := hx1.c1
      clear hx1 hb1 ho c0 c1 CC
      go_upto_region 2 with fail
      obtain ⟨w2, hw2⟩ : ∃ w2, w2 = (w1.setCell ⟨w.heap.size, 0, none⟩ (.int .i64 h)).setCell ⟨w.heap.size, 1, none⟩ (.slice (some ⟨g, 0, none⟩) (m + 1) c') := ⟨_, rfl⟩
      rw [← hw2] at HM0 ⊢
      clear hw2 f0 f1 k0 k1 HB HX HY HS HW
      have hp := HM0.out.par
      have hy := HM0.out.res
      have p0 := hp.c0
      have p1 := hp.c1
      have pf0 := hp.f 0
      have pf1 := hp.f 1
      have r0 := hy.c0
      have r1 := hy.c1
      have rf0 := hy.f 0
      have rf1 := hy.f 1
      clear hp hy
      go_wp2
      exact bodyPost_ret (results_cs Tryz.results246 _ _ (w.heap.size + 1) rfl (box2 HM0.out.res _ _)) rfl (made_bad (h := 0) (z := 0) (v := .bool true) ((HM0.out.below.setCell (by simp) _).setCell (by simp) _) HE.out)
    have CW := hid (fun W => without_any h k ⟨op, ba, re, de⟩ W hh0 hh1 hb0 hb1' (by omega) hk)
    have HR1 : Hid (r = if (without h k ⟨op, ba, re, de⟩).2 = 0 then ⟨(without h k ⟨op, ba, re, de⟩).1, l, 0⟩ else bad (without h k ⟨op, ba, re, de⟩).2) := hid (by rw [HR.out]; simp [popR, HV.out, g1, hf])
    obtain ⟨x, y, hxy⟩ : ∃ x y, without h k ⟨op, ba, re, de⟩ = (x, y) := ⟨_, _, rfl⟩
    rw [hxy] at CW HR1
    dsimp only at CW HR1
    clear hxy hf HR hh0 hh1 hb0 hb1' hr0 hr1 hne hle hk HV
    go_enter Tryz.func246, Tryz.ntmps246
    go_upto_region 1 with fail
    rw [← HW.out]
    go_wp2_with fail
    refine CC.out.mono ?_
    rintro e w1 ⟨g, c', rfl, ho, hb1⟩
    have HM0 := hid (Mid.of (h := h) HB.out HX.out HY.out HS.out ho hb1)
    have hx1 := HX.out.below hb1
    have f0 := hx1.f 0
    have f1 := hx1.f 1
    have k0 := hx1.c0
    have k1 := hx1.c1
    clear hx1 hb1 ho c0 c1 CC
    go_upto_region 2 with fail
    obtain ⟨w2, hw2⟩ : ∃ w2, w2 = (w1.setCell ⟨w.heap.size, 0, none⟩ (.int .i64 h)).setCell ⟨w.heap.size, 1, none⟩ (.slice (some ⟨g, 0, none⟩) (m + 1) c') := ⟨_, rfl⟩
    rw [← hw2] at HM0 ⊢
    clear hw2 f0 f1 k0 k1 HB HX HY HS HW
    have hp := HM0.out.par
    have hy := HM0.out.res
    have p0 := hp.c0
    have p1 := hp.c1
    have pf0 := hp.f 0
    have pf1 := hp.f 1
    have r0 := hy.c0
    have r1 := hy.c1
    have rf0 := hy.f 0
    have rf1 := hy.f 1
    clear hp hy
    obtain ⟨t0, t1, t2, t3⟩ := HT.out _ _ _ HM0.out.own
    have hS := pop_keep HM0.out.par t0 t1 t2 t3 (Below.refl _ _)
    have HKP := hid (fun (W : World) (h : Below w2.heap.size w2 W) => pop_keep HM0.out.par t0 t1 t2 t3 h)
    clear HT
    go_wp2
    go_region_with
      (go_at_call 252; refine (CW.out _).mono ?_; rintro e w3 ⟨rfl, hb3'⟩; have hb3 : Below w2.heap.size w2 w3 := (by first | exact hb3' | exact undrew hb3'); have q0 := (HKP.out _ hb3).2.1; have q1 : w3.frozen? ⟨w.heap.size, 0, none⟩ = false := (HM0.out.par.below hb3).f 0; have HB3 := hid hb3; clear hb3 hb3')
    all_goals
      obtain ⟨w4, hw4⟩ : ∃ w4, w4 = w3.setCell ⟨w.heap.size, 0, none⟩ (.int .i64 x) := ⟨_, rfl⟩
      rw [← hw4]
      have hp4 : Bx w4 w.heap.size (.int .i64 x) (.slice (some ⟨g, 0, none⟩) (m + 1) c') := by rw [hw4]; exact (HM0.out.par.below HB3.out).set0 _
      have hy4 : Bx w4 (w.heap.size + 1) (.int .i64 0) (.slice none 0 0) := by rw [hw4]; exact (HM0.out.res.below HB3.out).far (by simp) _
      have HO4 : Hid (OwnF (w.heap.size + 2) w4 (.slice (some ⟨g, 0, none⟩) (m + 1) c') l) := hid (by rw [hw4]; exact (HM0.out.own.below HB3.out).set (by simp) _)
      have HB4 : Hid (Below w.heap.size w w4) := hid (by rw [hw4]; exact (HM0.out.below.trans (HB3.out.mono HM0.out.below.size)).setCell (by simp) _)
      have HY4 := hid hy4
      have p0 := hp4.c0
      have p1 := hp4.c1
      have r0 := hy4.c0
      have r1 := hy4.c1
      have rf0 := hy4.f 0
      have rf1 := hy4.f 1
      clear hw4 hp4 hy4 HM0 HB3 q0 q1 HKP hS t0 t1 t2 t3
      by_cases hy : y = 0
      · subst hy
        have HE : Hid (r = ⟨x, l, 0⟩) := HR1.out
        go_wp2
        exact bodyPost_ret (results_cs Tryz.results246 _ _ (w.heap.size + 1) rfl (box2 HY4.out _ _)) rfl (made_ok HE.out ((HO4.out.set (by simp) _).set (by simp) _) ((HB4.out.setCell (by simp) _).setCell (by simp) _))
      · have HE : Hid (r = bad y) := hid (by rw [HR1.out, if_neg hy])
        have hyb : (y != 0) = true := by simp [hy]
        go_wp2
        exact bodyPost_ret (results_cs Tryz.results246 _ _ (w.heap.size + 1) rfl (box2 HY4.out _ _)) rfl (made_bad (h := 0) (z := 0) (v := .bool true) ((HB4.out.setCell (by simp) _).setCell (by simp) _) HE.out)
end Go.Proofs.YtckdnhafookcgaaGreatDoor.Stk

namespace Go.Proofs.YtckdnhafookcgaaGreatDoor.Stk
open Go.RowKit
set_option linter.unusedVariables false

theorem flat_set {u : Value} {q : Nat} {f' : Fr} (hq : q < 4) : ∀ (l : List Fr) (k : Nat) (hk : k < l.length), (l[k].v).set q u = f'.v → ((l.map Fr.v).flatten).set (k * 4 + q) u = ((l.set k f').map Fr.v).flatten
  | [], k, hk, _ => by simp at hk
  | f :: l, 0, _, h => by
    simp only [List.getElem_cons_zero] at h
    simp only [List.map_cons, List.flatten_cons, List.set_cons_zero, Nat.zero_mul, Nat.zero_add]
    rw [List.set_append_left _ _ (by rw [four]; exact hq), h]
  | f :: l, k + 1, hk, h => by
    simp only [List.getElem_cons_succ] at h
    have hk' : k < l.length := by simpa using hk
    have e : (k + 1) * 4 + q = f.v.length + (k * 4 + q) := by rw [four]; omega
    simp only [List.map_cons, List.flatten_cons, List.set_cons_succ]
    rw [e, List.set_append_right _ _ (by omega), Nat.add_sub_cancel_left, flat_set hq l k hk' h]
theorem flat_take : ∀ (l : List Fr) (m : Nat), ((l.map Fr.v).flatten).take (m * 4) = ((l.take m).map Fr.v).flatten
  | [], m => by simp
  | f :: l, 0 => by simp
  | f :: l, m + 1 => by
    simp only [List.map_cons, List.flatten_cons, List.take_succ_cons]
    rw [List.take_append, four, List.take_of_length_le (by rw [four]; omega), show (m + 1) * 4 - 4 = m * 4 by omega, flat_take l m]
theorem flat_len4 (l : List Fr) : ((l.map Fr.v).flatten).length = l.length * 4 := by rw [flat_length _ (fours l), List.length_map]
/-- One cell of a frame is turned. -/
theorem OwnF.store {base : Nat} {w : World} {g n c : Nat} {l : List Fr} (h : OwnF base w (.slice (some ⟨g, 0, none⟩) n c) l) (hn : l.length = n) {k q : Nat} {u : Value} {f' : Fr} (hk : k < l.length) (hq : q < 4) (hf : (l[k].v).set q u = f'.v) :
    OwnF base (w.setCell ⟨g, k * 4 + q, none⟩ u) (.slice (some ⟨g, 0, none⟩) n c) (l.set k f') := by
  subst hn
  have h1 := h.row
  rw [List.length_map] at h1
  have h2 := (World.ownsRow.stored h1 (k * 4 + q) u).1
  rw [flat_set hq l k hk hf] at h2
  exact ⟨by rw [List.length_map, List.length_set]; exact h2, fours _⟩
theorem OwnF.take {base : Nat} {w : World} {g m c : Nat} {l : List Fr} (h : OwnF base w (.slice (some ⟨g, 0, none⟩) (m + 1) c) l) (hn : l.length = m + 1) : OwnF base w (.slice (some ⟨g, 0, none⟩) m c) (l.take m) := by
  have hl : (l.take m).length = m := by rw [List.length_take]; omega
  refine ⟨?_, fours _⟩
  rw [List.length_map, hl]
  refine ⟨by rw [flat_len4, hl], ?_⟩
  rcases h.row.2 with ⟨h1, _⟩ | ⟨g', cap, cur, hv, hg, hh, hc, hm, hs, ht⟩
  · simp at h1
  · rw [List.length_map, hn] at hv hc ht
    simp only [Value.slice.injEq] at hv
    obtain ⟨h3, _, h4⟩ := hv
    refine .inr ⟨g', cap, cur, by simp only [Value.slice.injEq]; exact ⟨h3, trivial, h4⟩, hg, hh, by omega, hm, hs, ?_⟩
    rw [← flat_take, ← ht, List.take_take]
    congr 1
    omega
theorem OwnF.frozen {base : Nat} {w : World} {g n c : Nat} {l : List Fr} (h : OwnF base w (.slice (some ⟨g, 0, none⟩) n c) l) (hn : l.length = n) (j : Nat) : w.frozen? ⟨g, j, none⟩ = false := by
  subst hn
  have h1 := h.row
  rw [List.length_map] at h1
  exact World.ownsRow.frozenAt h1 j
theorem OwnF.cells {base : Nat} {w : World} {g n c : Nat} {l : List Fr} (h : OwnF base w (.slice (some ⟨g, 0, none⟩) n c) l) (hn : l.length = n) {k : Nat} (hk : k < l.length) :
    w.cell? ⟨g, k * 4, none⟩ = some (.int .i64 l[k].op) ∧ w.cell? ⟨g, k * 4 + 1, none⟩ = some (.int .i64 l[k].ba) ∧ w.cell? ⟨g, k * 4 + 2, none⟩ = some (.int .i64 l[k].re) ∧ w.cell? ⟨g, k * 4 + 3, none⟩ = some (.bool l[k].de) := by
  subst hn
  have h1 := h.row
  rw [List.length_map] at h1
  have key : ∀ j, j < 4 → ∀ v, (l[k].v)[j]? = some v → w.cell? ⟨g, k * 4 + j, none⟩ = some v := by
    intro j hj v hv
    rw [World.ownsRow.cellAt h1 (k * 4 + j) (by omega), flat_get _ (fours l) k j (by simpa using hk) hj]
    rw [List.getD_eq_getElem?_getD, List.getElem?_map, List.getElem?_eq_getElem hk]
    exact hv
  exact ⟨key 0 (by omega) _ rfl, key 1 (by omega) _ rfl, key 2 (by omega) _ rfl, key 3 (by omega) _ rfl⟩
theorem OwnF.cap {base : Nat} {w : World} {g n c : Nat} {l : List Fr} (h : OwnF base w (.slice (some ⟨g, 0, none⟩) n c) l) (hn : l.length = n) : n ≤ c := by
  subst hn
  rcases h.row.2 with ⟨h1, _⟩ | ⟨g', cap, cur, hv, _, _, hc, _⟩
  · simp at h1
  · rw [List.length_map] at hv hc
    simp only [Value.slice.injEq] at hv
    omega
theorem lastF_at {l : List Fr} {m : Nat} (hl : l.length = m + 1) : l[m]'(by omega) = lastF l := by
  unfold lastF
  rw [List.getD_eq_getElem?_getD, List.getElem?_eq_getElem (by omega)]
  simp [hl]
end Go.Proofs.YtckdnhafookcgaaGreatDoor.Stk

namespace Go.Proofs.YtckdnhafookcgaaGreatDoor.Stk
open Go.RowKit
set_option linter.unusedVariables false

theorem lit_news (w : World) (f : Fr) : ∀ j u, ([f.v].flatten)[j]? = some u → (w.alloc (.cells #[.int .i64 f.op, .int .i64 f.ba, .int .i64 f.re, .bool f.de] 254)).cell? ((⟨w.heap.size, 0, none⟩ : Addr).add j) = some u := by
  intro j u hj
  have hadd : (⟨w.heap.size, 0, none⟩ : Addr).add j = ⟨w.heap.size, j, none⟩ := by unfold Addr.add; split <;> simp_all
  rw [hadd, cell_of_row _ _ j _ _ _ (heap_alloc_new w _)]
  rw [List.flatten_cons, List.flatten_nil, List.append_nil] at hj
  rw [← Array.getElem?_toList]
  exact hj
theorem append_own {base : Nat} {w : World} {v : Value} {l : List Fr} {f : Fr} (h : OwnR 254 4 base w v (l.map Fr.v ++ [f.v])) : OwnF base w v (l ++ [f]) := by
  unfold OwnF
  rw [List.map_append]
  exact h
set_option maxRecDepth 100000 in
set_option maxHeartbeats 4000000 in
theorem dead_any (h : Int) (a : Option Addr) (n c : Nat) (l : List Fr) (w : World) (hs : StAt w.heap.size w a n c l) :
    Calls Tryz.prog 244 #[.agg #[.int .i64 h, .slice a n c]] w fun e w' => MadeP w (deadR h l) e w' := by
  obtain ⟨W0, hW0, hb, hx, hy, hsz⟩ := two_boxes w (.int .i64 h) (.slice a n c)
  have hsW := hs.on hb
  have c0 := hx.c0
  have c1 := hx.c1
  have HB := hid hb
  have HX := hid hx
  have HY := hid hy
  have HW := hid hW0
  have HS := hid hsz
  have HRE : Hid (deadR h l = deadR h l) := rfl
  obtain ⟨r, hr⟩ : ∃ r, r = deadR h l := ⟨_, rfl⟩
  rw [← hr]
  clear HRE
  clear hb hx hy hW0 hsz
  cases hv : valid h l with
  | false =>
    have HE : Hid (r = bad 2) := hid (by rw [hr]; simp [deadR, hv])
    have CC := hid (copied_no h a n c l W0 hsW hv)
    clear hs hsW hv hr
    go_enter Tryz.func244, Tryz.ntmps244
    go_upto_region 1 with fail
    rw [← HW.out]
    go_wp2_with fail
    refine CC.out.mono ?_
    rintro e w1 ⟨rfl, hb1⟩
    have hx1 := HX.out.below hb1
    have hy1 := HY.out.below hb1
    have f0 := hx1.f 0
    have f1 := hx1.f 1
    have k0 := hx1.c0
    have k1 := hx1.c1
    have HX1 := hid hx1
    have HY1 := hid hy1
    have HB1 := hid (HB.out.trans (hb1.mono HB.out.size))
    clear hx1 hy1 hb1 c0 c1 CC
    go_upto_region 2 with fail
    obtain ⟨w2, hw2⟩ : ∃ w2, w2 = (w1.setCell ⟨w.heap.size, 0, none⟩ (.int .i64 0)).setCell ⟨w.heap.size, 1, none⟩ (.slice none 0 0) := ⟨_, rfl⟩
    rw [← hw2]
    have hy2 : Bx w2 (w.heap.size + 1) (.int .i64 0) (.slice none 0 0) := by rw [hw2]; exact (HY1.out.far (by simp) _).far (by simp) _
    have HB2 : Hid (Below w.heap.size w w2) := hid (by rw [hw2]; exact (HB1.out.setCell (by simp) _).setCell (by simp) _)
    have HY2 := hid hy2
    have f0 := hy2.f 0
    have f1 := hy2.f 1
    have k0 := hy2.c0
    have k1 := hy2.c1
    clear hy2 hw2 HX1 HY1 HB1
    go_wp2
    exact bodyPost_ret (results_cs Tryz.results244 _ _ (w.heap.size + 1) rfl (box2 HY2.out _ _)) rfl (made_bad (h := 0) (z := 0) (v := .bool true) ((HB2.out.setCell (by simp) _).setCell (by simp) _) HE.out)
  | true =>
    have CC := hid (copied_yes h a n c l W0 hsW hv)
    have HV := hid hv
    have HR := hid hr
    have HLN := hid hs.len
    clear hs hsW hv hr
    obtain ⟨hh0, hh1, hne, hle⟩ := valid_yes HV.out
    obtain ⟨m, rfl⟩ : ∃ m, n = m + 1 := ⟨n - 1, by have := HLN.out; have := List.length_pos_iff.2 hne; omega⟩
    have hm : m ≤ 1000 := by have := HLN.out; omega
    have hfi := lastF_fine HV.out
    have HT := hid (fun (W : World) (g c' : Nat) (ho : OwnF (w.heap.size + 2) W (.slice (some ⟨g, 0, none⟩) (m + 1) c') l) => own_last ho HLN.out hm)
    obtain ⟨f, hf⟩ : ∃ f, lastF l = f := ⟨_, rfl⟩
    rw [hf] at HT hfi
    obtain ⟨op, ba, re, de⟩ := f
    have hlk : l[m]'(by have := HLN.out; omega) = ⟨op, ba, re, de⟩ := by rw [lastF_at HLN.out, hf]
    dsimp only [fine] at HT hfi
    obtain ⟨hb0, hb1', hr0, hr1⟩ := hfi
    rw [Nat.add_sub_cancel] at CC
    have HE : Hid (r = ⟨ba, l.set m ⟨op, ba, re, true⟩, 0⟩) := hid (by rw [HR.out]; simp only [deadR, HV.out, hf, HLN.out]; rfl)
    have HLK := hid hlk
    clear hlk hf HR hh0 hh1 hb0 hb1' hr0 hr1 hne hle HV
    go_enter Tryz.func244, Tryz.ntmps244
    go_upto_region 1 with fail
    rw [← HW.out]
    go_wp2_with fail
    refine CC.out.mono ?_
    rintro e w1 ⟨g, c', rfl, ho, hb1⟩
    have HM0 := hid (Mid.of (h := h) HB.out HX.out HY.out HS.out ho hb1)
    have hx1 := HX.out.below hb1
    have f0 := hx1.f 0
    have f1 := hx1.f 1
    have k0 := hx1.c0
    have k1 := hx1.c1
    clear hx1 hb1 ho c0 c1 CC
    go_upto_region 2 with fail
    obtain ⟨w2, hw2⟩ : ∃ w2, w2 = (w1.setCell ⟨w.heap.size, 0, none⟩ (.int .i64 h)).setCell ⟨w.heap.size, 1, none⟩ (.slice (some ⟨g, 0, none⟩) (m + 1) c') := ⟨_, rfl⟩
    rw [← hw2] at HM0 ⊢
    clear hw2 f0 f1 k0 k1 HB HX HY HS HW
    have hp := HM0.out.par
    have hy := HM0.out.res
    have p0 := hp.c0
    have p1 := hp.c1
    have pf0 := hp.f 0
    have pf1 := hp.f 1
    have r0 := hy.c0
    have r1 := hy.c1
    have rf0 := hy.f 0
    have rf1 := hy.f 1
    clear hp hy
    obtain ⟨t0, t1, t2, t3⟩ := HT.out _ _ _ HM0.out.own
    have HGB := hid (own_block HM0.out.own)
    have z1 := HM0.out.own.frozen HLN.out (m * 4 + 3)
    clear HT
    go_upto_region 5 with fail
    obtain ⟨w3, hw3⟩ : ∃ w3, w3 = w2.setCell ⟨w.heap.size, 0, none⟩ (.int .i64 ba) := ⟨_, rfl⟩
    rw [← hw3]
    have hp3 : Bx w3 w.heap.size (.int .i64 ba) (.slice (some ⟨g, 0, none⟩) (m + 1) c') := by rw [hw3]; exact HM0.out.par.set0 _
    have hy3 : Bx w3 (w.heap.size + 1) (.int .i64 0) (.slice none 0 0) := by rw [hw3]; exact HM0.out.res.far (by simp) _
    have HO3 : Hid (OwnF (w.heap.size + 2) w3 (.slice (some ⟨g, 0, none⟩) (m + 1) c') l) := hid (by rw [hw3]; exact HM0.out.own.set (by simp) _)
    have HB3 : Hid (Below w.heap.size w w3) := hid (by rw [hw3]; exact HM0.out.below.setCell (by simp) _)
    have t3 := (own_last HO3.out HLN.out hm).2.2.2
    have z3 := HO3.out.frozen HLN.out (m * 4 + 3)
    have HP3 := hid hp3
    have HY3 := hid hy3
    clear hw3 hp3 hy3 HM0 p0 p1 pf0 pf1 r0 r1 rf0 rf1 t0 t1 t2 z1
    go_upto_region 6 with fail
    obtain ⟨w4, hw4⟩ : ∃ w4, w4 = w3.setCell ⟨g, m * 4 + 3, none⟩ (.bool true) := ⟨_, rfl⟩
    rw [← hw4]
    have hgb := HGB.out
    have hp4 : Bx w4 w.heap.size (.int .i64 ba) (.slice (some ⟨g, 0, none⟩) (m + 1) c') := by rw [hw4]; exact HP3.out.far (by show _ ≠ g; omega) _
    have hy4 : Bx w4 (w.heap.size + 1) (.int .i64 0) (.slice none 0 0) := by rw [hw4]; exact HY3.out.far (by show _ ≠ g; omega) _
    have HO4 : Hid (OwnF (w.heap.size + 2) w4 (.slice (some ⟨g, 0, none⟩) (m + 1) c') (l.set m ⟨op, ba, re, true⟩)) := hid (by
      rw [hw4]; exact HO3.out.store HLN.out (by have := HLN.out; omega) (by omega) (by rw [HLK.out]; rfl))
    have HB4 : Hid (Below w.heap.size w w4) := hid (by rw [hw4]; exact HB3.out.setCell (by show _ ≤ g; omega) _)
    have p0 := hp4.c0
    have p1 := hp4.c1
    have r0 := hy4.c0
    have r1 := hy4.c1
    have rf0 := hy4.f 0
    have rf1 := hy4.f 1
    have HY4 := hid hy4
    clear hw4 hp4 hy4 hgb t3 z3 HO3 HB3 HP3 HY3
    go_wp2
    exact bodyPost_ret (results_cs Tryz.results244 _ _ (w.heap.size + 1) rfl (box2 HY4.out _ _)) rfl (made_ok HE.out ((HO4.out.set (by simp) _).set (by simp) _) ((HB4.out.setCell (by simp) _).setCell (by simp) _))
set_option maxRecDepth 100000 in
set_option maxHeartbeats 4000000 in
theorem enter_any (h : Int) (a : Option Addr) (n c : Nat) (l : List Fr) (op re : Int) (w : World) (hs : StAt w.heap.size w a n c l) :
    Calls Tryz.prog 245 #[.agg #[.int .i64 h, .slice a n c], .int .i64 op, .int .i64 re] w fun e w' => MadeP w (enterR h l op re) e w' := by
  obtain ⟨W0, hW0, hb, hx, hy, hsz⟩ := two_boxes w (.int .i64 h) (.slice a n c)
  have hsW := hs.on hb
  have c0 := hx.c0
  have c1 := hx.c1
  have HB := hid hb
  have HX := hid hx
  have HY := hid hy
  have HW := hid hW0
  have HS := hid hsz
  have HRE : Hid (enterR h l op re = enterR h l op re) := rfl
  obtain ⟨r, hr⟩ : ∃ r, r = enterR h l op re := ⟨_, rfl⟩
  rw [← hr]
  clear HRE
  clear hb hx hy hW0 hsz
  cases hv : valid h l with
  | false =>
    have HE : Hid (r = bad 2) := hid (by rw [hr]; simp [enterR, hv])
    have CC := hid (copied_no h a n c l W0 hsW hv)
    clear hs hsW hv hr
    go_enter Tryz.func245, Tryz.ntmps245
    go_upto_region 1 with fail
    rw [← HW.out]
    go_wp2_with fail
    refine CC.out.mono ?_
    rintro e w1 ⟨rfl, hb1⟩
    have hx1 := HX.out.below hb1
    have hy1 := HY.out.below hb1
    have f0 := hx1.f 0
    have f1 := hx1.f 1
    have k0 := hx1.c0
    have k1 := hx1.c1
    have HX1 := hid hx1
    have HY1 := hid hy1
    have HB1 := hid (HB.out.trans (hb1.mono HB.out.size))
    clear hx1 hy1 hb1 c0 c1 CC
    go_upto_region 2 with fail
    obtain ⟨w2, hw2⟩ : ∃ w2, w2 = (w1.setCell ⟨w.heap.size, 0, none⟩ (.int .i64 0)).setCell ⟨w.heap.size, 1, none⟩ (.slice none 0 0) := ⟨_, rfl⟩
    rw [← hw2]
    have hy2 : Bx w2 (w.heap.size + 1) (.int .i64 0) (.slice none 0 0) := by rw [hw2]; exact (HY1.out.far (by simp) _).far (by simp) _
    have HB2 : Hid (Below w.heap.size w w2) := hid (by rw [hw2]; exact (HB1.out.setCell (by simp) _).setCell (by simp) _)
    have HY2 := hid hy2
    have f0 := hy2.f 0
    have f1 := hy2.f 1
    have k0 := hy2.c0
    have k1 := hy2.c1
    clear hy2 hw2 HX1 HY1 HB1
    go_wp2
    exact bodyPost_ret (results_cs Tryz.results245 _ _ (w.heap.size + 1) rfl (box2 HY2.out _ _)) rfl (made_bad (h := 0) (z := 0) (v := .bool true) ((HB2.out.setCell (by simp) _).setCell (by simp) _) HE.out)
  | true =>
    have CC := hid (copied_yes h a n c l W0 hsW hv)
    have HV := hid hv
    have HR := hid hr
    have HLN := hid hs.len
    clear hs hsW hv hr
    have CO := hid (fun W => opensList_any op W)
    have CR := hid (fun W => wrongResults_any re W)
    have HR1 : Hid (r = if opens op = false ∨ wrongRe re = true then bad 2 else if l.length = 1000 then bad 8 else ⟨h, l ++ [⟨op, h, re, false⟩], 0⟩) := hid (by rw [HR.out]; simp [enterR, HV.out])
    obtain ⟨hh0, hh1, hne, hle⟩ := valid_yes HV.out
    have HLE := hid (show n ≤ 1000 by rw [← HLN.out]; exact hle)
    clear HR HV hh0 hh1 hne hle
    obtain ⟨q1, hq1⟩ : ∃ q, opens op = q := ⟨_, rfl⟩
    obtain ⟨q2, hq2⟩ : ∃ q, wrongRe re = q := ⟨_, rfl⟩
    rw [hq1] at CO HR1
    rw [hq2] at CR HR1
    clear hq1 hq2
    cases q1 with
    | false =>
      have HE : Hid (r = bad 2) := hid (by rw [HR1.out]; rfl)
      clear HR1 CR
      go_enter Tryz.func245, Tryz.ntmps245
      go_upto_region 1 with fail
      rw [← HW.out]
      go_wp2_with fail
      refine CC.out.mono ?_
      rintro e w1 ⟨g, c', rfl, ho, hb1⟩
      have HM0 := hid (Mid.of (h := h) HB.out HX.out HY.out HS.out ho hb1)
      have hx1 := HX.out.below hb1
      have f0 := hx1.f 0
      have f1 := hx1.f 1
      have k0 := hx1.c0
      have k1 := hx1.c1
      clear hx1 hb1 ho c0 c1 CC
      go_upto_region 2 with fail
      obtain ⟨w2, hw2⟩ : ∃ w2, w2 = (w1.setCell ⟨w.heap.size, 0, none⟩ (.int .i64 h)).setCell ⟨w.heap.size, 1, none⟩ (.slice (some ⟨g, 0, none⟩) n c') := ⟨_, rfl⟩
      rw [← hw2] at HM0 ⊢
      clear hw2 f0 f1 k0 k1 HB HX HY HS HW
      have hp := HM0.out.par
      have hy := HM0.out.res
      have p0 := hp.c0
      have p1 := hp.c1
      have pf0 := hp.f 0
      have pf1 := hp.f 1
      have r0 := hy.c0
      have r1 := hy.c1
      have rf0 := hy.f 0
      have rf1 := hy.f 1
      clear hp hy
      go_wp2_with fail
      refine (CO.out _).mono ?_
      rintro e w3 ⟨rfl, rfl⟩
      go_wp2
      exact bodyPost_ret (results_cs Tryz.results245 _ _ (w.heap.size + 1) rfl (box2 HM0.out.res _ _)) rfl (made_bad (h := 0) (z := 0) (v := .bool true) ((HM0.out.below.setCell (by simp) _).setCell (by simp) _) HE.out)
    | true =>
    cases q2 with
    | true =>
      have HE : Hid (r = bad 2) := hid (by rw [HR1.out]; rfl)
      clear HR1
      go_enter Tryz.func245, Tryz.ntmps245
      go_upto_region 1 with fail
      rw [← HW.out]
      go_wp2_with fail
      refine CC.out.mono ?_
      rintro e w1 ⟨g, c', rfl, ho, hb1⟩
      have HM0 := hid (Mid.of (h := h) HB.out HX.out HY.out HS.out ho hb1)
      have hx1 := HX.out.below hb1
      have f0 := hx1.f 0
      have f1 := hx1.f 1
      have k0 := hx1.c0
      have k1 := hx1.c1
      clear hx1 hb1 ho c0 c1 CC
      go_upto_region 2 with fail
      obtain ⟨w2, hw2⟩ : ∃ w2, w2 = (w1.setCell ⟨w.heap.size, 0, none⟩ (.int .i64 h)).setCell ⟨w.heap.size, 1, none⟩ (.slice (some ⟨g, 0, none⟩) n c') := ⟨_, rfl⟩
      rw [← hw2] at HM0 ⊢
      clear hw2 f0 f1 k0 k1 HB HX HY HS HW
      have hp := HM0.out.par
      have hy := HM0.out.res
      have p0 := hp.c0
      have p1 := hp.c1
      have pf0 := hp.f 0
      have pf1 := hp.f 1
      have r0 := hy.c0
      have r1 := hy.c1
      have rf0 := hy.f 0
      have rf1 := hy.f 1
      clear hp hy
      go_wp2_with fail
      refine (CO.out _).mono ?_
      rintro e w3 ⟨rfl, rfl⟩
      go_wp2_with fail
      refine (CR.out _).mono ?_
      rintro e w3 ⟨rfl, rfl⟩
      go_wp2
      exact bodyPost_ret (results_cs Tryz.results245 _ _ (w.heap.size + 1) rfl (box2 HM0.out.res _ _)) rfl (made_bad (h := 0) (z := 0) (v := .bool true) ((HM0.out.below.setCell (by simp) _).setCell (by simp) _) HE.out)
    | false =>
    by_cases g3 : n = 1000
    · have HE : Hid (r = bad 8) := hid (by rw [HR1.out, HLN.out, if_neg (by simp), if_pos g3])
      subst g3
      clear HR1
      go_enter Tryz.func245, Tryz.ntmps245
      go_upto_region 1 with fail
      rw [← HW.out]
      go_wp2_with fail
      refine CC.out.mono ?_
      rintro e w1 ⟨g, c', rfl, ho, hb1⟩
      have HM0 := hid (Mid.of (h := h) HB.out HX.out HY.out HS.out ho hb1)
      have hx1 := HX.out.below hb1
      have f0 := hx1.f 0
      have f1 := hx1.f 1
      have k0 := hx1.c0
      have k1 := hx1.c1
      clear hx1 hb1 ho c0 c1 CC
      go_upto_region 2 with fail
      obtain ⟨w2, hw2⟩ : ∃ w2, w2 = (w1.setCell ⟨w.heap.size, 0, none⟩ (.int .i64 h)).setCell ⟨w.heap.size, 1, none⟩ (.slice (some ⟨g, 0, none⟩) 1000 c') := ⟨_, rfl⟩
      rw [← hw2] at HM0 ⊢
      clear hw2 f0 f1 k0 k1 HB HX HY HS HW
      have hp := HM0.out.par
      have hy := HM0.out.res
      have p0 := hp.c0
      have p1 := hp.c1
      have pf0 := hp.f 0
      have pf1 := hp.f 1
      have r0 := hy.c0
      have r1 := hy.c1
      have rf0 := hy.f 0
      have rf1 := hy.f 1
      clear hp hy
      go_wp2_with fail
      refine (CO.out _).mono ?_
      rintro e w3 ⟨rfl, rfl⟩
      go_wp2_with fail
      refine (CR.out _).mono ?_
      rintro e w3 ⟨rfl, rfl⟩
      go_wp2
      exact bodyPost_ret (results_cs Tryz.results245 _ _ (w.heap.size + 1) rfl (box2 HM0.out.res _ _)) rfl (made_bad (h := 0) (z := 0) (v := .bool true) ((HM0.out.below.setCell (by simp) _).setCell (by simp) _) HE.out)
    have HE : Hid (r = ⟨h, l ++ [⟨op, h, re, false⟩], 0⟩) := hid (by rw [HR1.out, HLN.out, if_neg (by simp), if_neg g3])
    have g3i : ((n : Int) == 1000) = false := by simp; omega
    clear HR1
    go_enter Tryz.func245, Tryz.ntmps245
    go_upto_region 1 with fail
    rw [← HW.out]
    go_wp2_with fail
    refine CC.out.mono ?_
    rintro e w1 ⟨g, c', rfl, ho, hb1⟩
    have HM0 := hid (Mid.of (h := h) HB.out HX.out HY.out HS.out ho hb1)
    have hx1 := HX.out.below hb1
    have f0 := hx1.f 0
    have f1 := hx1.f 1
    have k0 := hx1.c0
    have k1 := hx1.c1
    clear hx1 hb1 ho c0 c1 CC
    go_upto_region 2 with fail
    obtain ⟨w2, hw2⟩ : ∃ w2, w2 = (w1.setCell ⟨w.heap.size, 0, none⟩ (.int .i64 h)).setCell ⟨w.heap.size, 1, none⟩ (.slice (some ⟨g, 0, none⟩) n c') := ⟨_, rfl⟩
    rw [← hw2] at HM0 ⊢
    clear hw2 f0 f1 k0 k1 HB HX HY HS HW
    have hp := HM0.out.par
    have hy := HM0.out.res
    have p0 := hp.c0
    have p1 := hp.c1
    have pf0 := hp.f 0
    have pf1 := hp.f 1
    have r0 := hy.c0
    have r1 := hy.c1
    have rf0 := hy.f 0
    have rf1 := hy.f 1
    clear hp hy
    go_wp2_with fail
    refine (CO.out _).mono ?_
    rintro e w3 ⟨rfl, rfl⟩
    go_wp2_with fail
    refine (CR.out _).mono ?_
    rintro e w3 ⟨rfl, rfl⟩
    have HOW := hid HM0.out.own
    have HNL := hid (lit_news w2 ⟨op, h, re, false⟩)
    have HBW : Hid (Below (w.heap.size + 2) w2 (w2.alloc (.cells #[.int .i64 op, .int .i64 h, .int .i64 re, .bool false] 254))) := hid ((Below.refl _ _).alloc (by have := (own_block HM0.out.own).2; have := (own_block HM0.out.own).1; omega) _)
    have HOA := hid (OwnF.below HOW.out ((Below.refl _ _).alloc (Nat.le_refl _) (.cells #[.int .i64 op, .int .i64 h, .int .i64 re, .bool false] 254)))
    have HZ := hid (show w.heap.size + 2 ≤ w2.heap.size by have := (own_block HM0.out.own).2; have := (own_block HM0.out.own).1; omega)
    have HL1 : Hid ((l ++ [(⟨op, h, re, false⟩ : Fr)]).length = n + 1) := hid (by simp [HLN.out])
    clear HOW
    go_upto_region 8 with fail
    go_upto_region 9 with (at_builtin; refine append_rows infoFr rfl (by omega) (by omega) Tryz.underlying212 rfl (.tmp 37) (.tmp 43) rfl (base := w.heap.size + 2) (w0 := w2) (xs := l.map Fr.v) [(⟨op, h, re, false⟩ : Fr).v] rfl HOA.out HBW.out (by rw [World.size_alloc]; have := HZ.out; omega) ⟨w2.heap.size, 0, none⟩ 1 1 rfl rfl (by simp [Fr.v]) HNL.out (by simp [Fr.v, Value.oneCell']) (by rw [List.length_map, HLN.out]; have := HLE.out; omega) ?_; intro v1 u1 ho hb hsz hgrow; have ho1 := append_own ho; obtain ⟨a1, c1, hv1, -⟩ := OwnF.slice ho1 (by simp; rw [HLN.out]; have := HLE.out; omega); rw [HL1.out] at hv1; subst hv1; have hp := HM0.out.par.belowB hb (by omega); have hy := HM0.out.res.belowB hb (by omega); have p0 := hp.c0; have p1 := hp.c1; have pf0 := hp.f 0; have pf1 := hp.f 1; have HO1 := hid ho1; have HP := hid hp; have HY := hid hy; have HB1 := hid (HM0.out.below.trans (hb.mono (by omega))); clear hp hy ho ho1 hb hsz hgrow)
    obtain ⟨w5, hw5⟩ : ∃ w5, w5 = u1.setCell ⟨w.heap.size, 1, none⟩ (.slice a1 (n + 1) c1) := ⟨_, rfl⟩
    rw [← hw5]
    have hp5 : Bx w5 w.heap.size (.int .i64 h) (.slice a1 (n + 1) c1) := by rw [hw5]; exact HP.out.set1 _
    have hy5 : Bx w5 (w.heap.size + 1) (.int .i64 0) (.slice none 0 0) := by rw [hw5]; exact HY.out.far (by simp) _
    have HO5 := hid (HO1.out.set (p := ⟨w.heap.size, 1, none⟩) (by simp) (.slice a1 (n + 1) c1))
    have HB5 := hid (HB1.out.setCell (p := ⟨w.heap.size, 1, none⟩) (by simp) (.slice a1 (n + 1) c1))
    rw [← hw5] at HO5 HB5
    have p0 := hp5.c0
    have p1 := hp5.c1
    have r0 := hy5.c0
    have r1 := hy5.c1
    have rf0 := hy5.f 0
    have rf1 := hy5.f 1
    have HY5 := hid hy5
    clear hw5 hp5 hy5 HO1 HB1 HP HY HM0 HNL HBW HOA
    go_wp2
    exact bodyPost_ret (results_cs Tryz.results245 _ _ (w.heap.size + 1) rfl (box2 HY5.out _ _)) rfl (made_ok HE.out ((HO5.out.set (by simp) _).set (by simp) _) ((HB5.out.setCell (by simp) _).setCell (by simp) _))
end Go.Proofs.YtckdnhafookcgaaGreatDoor.Stk

namespace Go.Proofs.YtckdnhafookcgaaGreatDoor
open Go.RowKit

/-- What a slice value at address 'a' reads as: these numbers. -/
structure Nums (k : IntKind) (w : World) (a : Option Addr) (zs : List Int) : Prop where
  at_ : zs = [] ∨ ∃ b off, a = some ⟨b, off, none⟩ ∧ ∀ i, i < zs.length → w.cell? ⟨b, off + i, none⟩ = some (.int k (zs.getD i 0))
theorem Nums.below {k : IntKind} {w w' : World} {a : Option Addr} {zs : List Int} (h : Nums k w a zs) (hb : Below w.heap.size w w') : Nums k w' a zs := by
  refine ⟨?_⟩
  rcases h.at_ with h0 | ⟨b, off, rfl, hc⟩
  · exact .inl h0
  · exact .inr ⟨b, off, rfl, fun i hi => (hb.cell (World.block_lt_of_cell? w _ (hc i hi))).trans (hc i hi)⟩
theorem Nums.alloc {k : IntKind} {w : World} {a : Option Addr} {zs : List Int} (h : Nums k w a zs) (o : Obj) : Nums k (w.alloc o) a zs := h.below ((Below.refl _ _).alloc (Nat.le_refl _) o)
/-- A row of numbers that a call made itself. -/
def OwnK (e : TypeId) (k : IntKind) (base : Nat) (w : World) (v : Value) (zs : List Int) : Prop := w.ownsRow base e 1 v zs.length (zs.map (Value.int k))
theorem OwnK.nil {e : TypeId} {k : IntKind} {base n c : Nat} {w : World} {a : Option Addr} {zs : List Int} (h : OwnK e k base w (.slice a n c) zs) : Hid (a = none → c = 0) := by
  refine hid fun ha => ?_
  subst ha
  rcases h.2 with ⟨h', _⟩ | ⟨g, cap, cur, h', _⟩
  · simp at h'; exact h'.2
  · simp at h'
theorem OwnK.mono {e : TypeId} {k : IntKind} {base base' : Nat} {w : World} {v : Value} {zs : List Int} (h : OwnK e k base w v zs) (hb : base' ≤ base) : OwnK e k base' w v zs := by
  refine ⟨h.1, ?_⟩
  rcases h.2 with h0 | ⟨g, cap, cur, hv, hg, rest⟩
  · exact .inl h0
  · exact .inr ⟨g, cap, cur, hv, Nat.le_trans hb hg, rest⟩
/-- A store below it turns no row. -/
theorem OwnK.setCell {e : TypeId} {k : IntKind} {base : Nat} {w : World} {v : Value} {zs : List Int} (h : OwnK e k base w v zs) {p : Addr} (hp : p.block < base) (u : Value) : OwnK e k base (w.setCell p u) v zs := by
  refine ⟨h.1, ?_⟩
  rcases h.2 with h0 | ⟨g, cap, cur, hv, hg, hh, rest⟩
  · exact .inl h0
  · exact .inr ⟨g, cap, cur, hv, hg, (Below.heap_setCell w p u g (by omega)).trans hh, rest⟩
/-- A call that leaves all that was there turns no row. -/
theorem OwnK.below {e : TypeId} {k : IntKind} {base : Nat} {w w' : World} {v : Value} {zs : List Int} (h : OwnK e k base w v zs) (hb : Below w.heap.size w w') : OwnK e k base w' v zs := by
  refine ⟨h.1, ?_⟩
  rcases h.2 with h0 | ⟨g, cap, cur, hv, hg, hh, rest⟩
  · exact .inl h0
  · exact .inr ⟨g, cap, cur, hv, hg, (hb.block g (Array.getElem?_eq_some_iff.1 hh).1).trans hh, rest⟩
theorem OwnK.alloc {e : TypeId} {k : IntKind} {base : Nat} {w : World} {v : Value} {zs : List Int} (h : OwnK e k base w v zs) (o : Obj) : OwnK e k base (w.alloc o) v zs := h.below ((Below.refl _ _).alloc (Nat.le_refl _) o)
/-- An iterator's step turns no row. -/
theorem OwnK.iterAt {e : TypeId} {k : IntKind} {base j : Nat} {w : World} {v : Value} {zs : List Int} {s : ByteArray} {p : Nat} (h : OwnK e k base w v zs) (hk : w.heap[j]? = some (.stringIter s p)) (p' : Nat) : OwnK e k base (w.iterAt j s p') v zs := by
  refine ⟨h.1, ?_⟩
  rcases h.2 with h0 | ⟨g, cap, cur, hv, hg, hh, rest⟩
  · exact .inl h0
  · refine .inr ⟨g, cap, cur, hv, hg, (Lib.iterAt_other w j g s p' (fun hgj => ?_)).trans hh, rest⟩
    subst hgj
    rw [hh] at hk
    cases hk
section
variable {ops : Array Oper} {rest : List Oper} {o : Oper} {act : Act} {Q : Exit → Act → World → Prop}

end

end Go.Proofs.YtckdnhafookcgaaGreatDoor
