/-
  LEX: again, LargeWords: by contract.
-/
import Derived.Test.YtllodmoookcimaaDoorLexWrite
namespace Go.Proofs.YtllodmoookcimaaDoor.Lex
open Go.RowKit Go.Proofs.YtllodmoookcimaaDoor.Utf
set_option linter.unusedSimpArgs false
set_option linter.unusedVariables false

theorem core_at {m l : List Wd} (h : m.map core = l.map core) {k : Nat} (hm : k < m.length) (hl : k < l.length) : m[k].k = l[k].k ∧ m[k].n = l[k].n ∧ m[k].s = l[k].s := by
  have := congrArg (·[k]?) h
  simp only [List.getElem?_map, List.getElem?_eq_getElem hm, List.getElem?_eq_getElem hl, Option.map_some, Option.some.injEq, core, Prod.mk.injEq] at this
  exact this
theorem asc_at {m : List Wd} (h : m.Pairwise fun x y => x.at_ < y.at_) {k : Nat} (hk : k + 1 < m.length) : m[k].at_ < m[k + 1].at_ :=
  List.pairwise_iff_getElem.1 h k (k + 1) (by omega) hk (by omega)
set_option maxRecDepth 10000 in
set_option maxHeartbeats 4000000 in
theorem again_yes (zs : List Int) (hb : ∀ z ∈ zs, 0 ≤ z ∧ z < 256) (m l : List Wd) (hl : lexP zs = .ok m) (hc : m.map core = l.map core) (ha : m.Pairwise fun x y => x.at_ < y.at_) (hbig : l.length ≤ 1000000) (a : Option Addr) (n c : Nat) (hn : l.length = n)
    (w : World) (hw : WordsAt w a l) (h8 : Tabs8 w) (hT : Words w) :
    Calls Tryd.prog 22 #[.string (strOfNums zs), .slice a n c] w fun e w' => e = .returned (.bool true) ∧ Below w.heap.size w w' := by
  have hml : m.length = n := by have := congrArg List.length hc; simp at this; omega
  have C := hid (Lex_any zs hb w h8 hT)
  rw [hl] at C
  have HW := hid hw
  have HC := hid (fun k hm hl' => core_at hc (k := k) hm hl')
  have HA := hid (fun k hk => asc_at ha (k := k) hk)
  have HN := hid hn
  have HML := hid hml
  have hnb : n ≤ 1000000 := by omega
  clear hb hl hw h8 hT hc ha hbig hn hml
  generalize strOfNums zs = s at *
  go_enter Tryd.func22, Tryd.ntmps22
  go_wp2_with fail
  refine C.out.mono ?_
  rintro e w1 ⟨v, rfl, ⟨u, rfl, ho⟩, hb1⟩
  obtain ⟨a1, c1, hu⟩ := ho.slice4
  rw [HML.out] at hu
  subst hu
  obtain ⟨hat, _⟩ := ho.at
  have HAT := hid hat
  have HB := hid hb1
  clear ho hat hb1 C
  have HB0 := hid (HB.out.alloc HB.out.size (.cells #[.int .i64 0, .int .i64 0] 26))
  have HAL := hid (show Below w1.heap.size w1 (w1.alloc (.cells #[.int .i64 0, .int .i64 0] 26)) from (Below.refl _ _).alloc (Nat.le_refl _) _)
  go_wp2
  obtain ⟨W0, hW0⟩ : ∃ W0, W0 = w1.alloc (.cells #[.int .i64 0, .int .i64 0] 26) := ⟨_, rfl⟩
  rw [← hW0] at HB0 HAL ⊢
  clear hW0
  have H1 := hid (HAT.out.below HAL.out)
  have H2 := hid (HW.out.below HB0.out)
  go_loopw [7] (fun iv wr => ∃ k nq : Nat, iv = .int .i64 k ∧ k ≤ n ∧ wr = W0.drewN nq) (fun iv _ => n - (intOf iv).toNat)
  case atStart => exact ⟨0, 0, rfl, Nat.zero_le _, rfl⟩
  case round =>
    obtain ⟨k, mq, rfl, hk, rfl⟩ := hrel
    by_cases hlt : k < n
    · have hkm : k < m.length := by rw [HML.out]; exact hlt
      have hkl : k < l.length := by rw [HN.out]; exact hlt
      obtain ⟨b1, o1, rfl, -, hc1⟩ := Stk.Rows.get H1.out hkm
      obtain ⟨b2, o2, rfl, -, hc2⟩ := Stk.Rows.get H2.out hkl
      obtain ⟨ck, cn, cs⟩ := HC.out k hkm hkl
      have e0 : W0.cell? ⟨b1, o1 + k * 4, none⟩ = some (.int .i64 l[k].k) := (hc1 0 (by omega) _ rfl).trans (by rw [ck])
      have e1 : W0.cell? ⟨b1, o1 + k * 4 + 1, none⟩ = some (.int .i64 l[k].n) := (hc1 1 (by omega) _ rfl).trans (by rw [cn])
      have e2 : W0.cell? ⟨b1, o1 + k * 4 + 2, none⟩ = some (.int .i64 m[k].at_) := hc1 2 (by omega) _ rfl
      have e3 : W0.cell? ⟨b1, o1 + k * 4 + 3, none⟩ = some (.string (strOfNums l[k].s)) := (hc1 3 (by omega) _ rfl).trans (by rw [cs])
      have g0 : W0.cell? ⟨b2, o2 + k * 4, none⟩ = some (.int .i64 l[k].k) := hc2 0 (by omega) _ rfl
      have g1 : W0.cell? ⟨b2, o2 + k * 4 + 1, none⟩ = some (.int .i64 l[k].n) := hc2 1 (by omega) _ rfl
      have g3 : W0.cell? ⟨b2, o2 + k * 4 + 3, none⟩ = some (.string (strOfNums l[k].s)) := hc2 3 (by omega) _ rfl
      have hki : (k : Int) < (n : Int) := by omega
      by_cases h0 : k = 0
      · have hz1 : (0 < k) = False := by simp; omega
        have hz2 : ((0 : Int) < (k : Int)) = False := by simp; omega
        have hz3 : ((k : Int) > 0) = False := by simp; omega
        clear hc1 hc2 ck cn cs HC HA e2 h0
        generalize strOfNums l[k].s = st at *
        generalize l[k].k = xk at *
        generalize l[k].n = xn at *
        go_wp2
        go_quiet (fail)
        go_wp2
        go_roundw
        case rel => exact ⟨k + 1, mq + nq, by go_num, by omega, rfl⟩
        case measure => simp [intOf]; omega
      · have hz1 : (0 < k) = True := by simp; omega
        have hz2 : ((0 : Int) < (k : Int)) = True := by simp; omega
        have hz3 : ((k : Int) > 0) = True := by simp; omega
        have hjm : k - 1 < m.length := by omega
        obtain ⟨b1', o1', hbb, -, hc1'⟩ := Stk.Rows.get H1.out hjm
        simp only [Option.some.injEq, Addr.mk.injEq] at hbb
        obtain ⟨rfl, rfl, _⟩ := hbb
        have hasc := HA.out (k - 1) (by omega)
        have hkk : m[k - 1 + 1]'(by omega) = m[k] := by congr 1; omega
        rw [hkk] at hasc
        clear hkk
        have p2 : W0.cell? ⟨b1, o1 + (k - 1) * 4 + 2, none⟩ = some (.int .i64 m[k - 1].at_) := hc1' 2 (by omega) _ rfl
        obtain ⟨j, hj⟩ : ∃ j, j = k - 1 := ⟨_, rfl⟩
        have hkj : (k : Int) - 1 = (j : Int) := by omega
        have hjn : (j : Int) < (n : Int) := by omega
        obtain ⟨ya, hya⟩ : ∃ ya, m[k - 1].at_ = ya := ⟨_, rfl⟩
        rw [hya] at p2 hasc
        rw [← hj] at p2
        clear hc1 hc2 hc1' ck cn cs HC HA hya hjm hj h0
        generalize m[k].at_ = xa at *
        have hle : ¬ xa ≤ ya := by omega
        clear hasc
        generalize strOfNums l[k].s = st at *
        generalize l[k].k = xk at *
        generalize l[k].n = xn at *
        go_wp2
        go_quiet (fail)
        go_wp2
        go_roundw
        case rel => exact ⟨k + 1, mq + nq, by go_num, by omega, rfl⟩
        case measure => simp [intOf]; omega
    · obtain rfl : k = n := by omega
      go_wp2
      go_ret
      exact ⟨rfl, drewL HB0.out _⟩
end Go.Proofs.YtllodmoookcimaaDoor.Lex
