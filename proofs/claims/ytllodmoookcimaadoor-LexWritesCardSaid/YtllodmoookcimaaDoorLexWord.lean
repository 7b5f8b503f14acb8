/-
  LEX: isName, isWord: by contract.
-/
import Derived.Test.YtllodmoookcimaaDoorLexKit
namespace Go.Proofs.YtllodmoookcimaaDoor.Lex
open Go.RowKit Go.Proofs.YtllodmoookcimaaDoor.Utf
set_option linter.unusedSimpArgs false
set_option linter.unusedVariables false

theorem str_eq {xs ys : List Int} (hx : ∀ z ∈ xs, 0 ≤ z ∧ z < 256) (hy : ∀ z ∈ ys, 0 ≤ z ∧ z < 256) : ((strOfNums xs).toList == (strOfNums ys).toList) = decide (xs = ys) := by
  rw [Go.ByteArray.toList_eq, Go.ByteArray.toList_eq, Bool.eq_iff_iff, beq_iff_eq, decide_eq_true_iff, ← nums_inj hx hy]
  exact ⟨fun h => ByteArray.ext (Array.toList_inj.1 h), fun h => by rw [h]⟩
set_option maxHeartbeats 1000000 in
theorem isName_any (p : Int → Bool) (g : Nat) (eg : ∀ args w, (callFunc g args).run Tryd.prog w = .ok (.enter g args) w)
    (hg : ∀ c W, Calls Tryd.prog g #[.int .u8 c] W fun e w' => e = .returned (.bool (p c)) ∧ w' = W) (zs : List Int) (hb : ∀ z ∈ zs, 0 ≤ z ∧ z < 256) (w : World) :
    Calls Tryd.prog 64 #[.string (strOfNums zs), .func (.func g) #[] #[]] w fun e w' => e = .returned (.bool (nameB p zs)) ∧ Below w.heap.size w w' := by
  have hs : (strOfNums zs).size = zs.length := strOfNums_size zs
  have he := str_empty zs
  have HI := hid (fun h => str_get hb 0 h)
  have C := hid (fun W => hg (zs.getD 0 0) W)
  have R := hid (fun W => run_letter zs hb W)
  have HE := hid (str_eq (ys := zs) (fun z hz => hb z ((List.takeWhile_sublist letterB).subset hz)) hb)
  have HN : Hid (nameB p zs = (decide (zs.length ≠ 0) && decide (zs.length ≤ 64) && p (zs.getD 0 0) && decide (zs.takeWhile letterB = zs))) := rfl
  clear hb hg
  generalize zs.takeWhile letterB = xs at *
  generalize nameB p zs = q at *
  generalize strOfNums zs = s at *
  generalize strOfNums xs = t at *
  generalize zs.getD 0 0 = c at *
  by_cases h0 : zs.length = 0
  · obtain rfl : q = false := by rw [HN.out]; simp [h0]
    have he1 : s.toList.isEmpty = true := by rw [he]; simp [h0]
    clear he HI C R HE HN
    go_enter Tryd.func64, Tryd.ntmps64
    go_wp2
    go_ret
    exact ⟨rfl, Below.refl _ _⟩
  have he1 : s.toList.isEmpty = false := by rw [he]; simp [h0]
  clear he
  by_cases h1 : zs.length ≤ 64
  · have h1i : (zs.length : Int) ≤ 64 := by omega
    have hpos : (0 : Int) < (zs.length : Int) := by omega
    have i0 : ((s[0]'(by rw [hs]; omega)).toNat : Int) = c := HI.out _
    clear HI
    cases hp : p c with
    | false =>
      obtain rfl : q = false := by rw [HN.out, hp]; simp
      rw [hp] at C
      clear R HE HN hp
      go_enter Tryd.func64, Tryd.ntmps64
      go_wp2_with (go_at_fn g; refine (C.out _).mono ?_; rintro e w' ⟨rfl, rfl⟩)
      go_ret
      exact ⟨rfl, Below.refl _ _⟩
    | true =>
      rw [hp] at C
      by_cases hx : xs = zs
      · obtain rfl : q = true := by rw [HN.out, hp, decide_eq_true hx]; simp [h0, h1]
        have hst : (t.toList == s.toList) = true := by rw [HE.out, decide_eq_true hx]
        clear HE HN hp hx
        go_enter Tryd.func64, Tryd.ntmps64
        go_wp2_with (go_at_fn g; refine (C.out _).mono ?_; rintro e w' ⟨rfl, rfl⟩)
        refine (R.out _).mono ?_
        rintro e w1 ⟨rfl, hb1⟩
        go_wp2
        go_ret
        exact ⟨ret_bool (by simp [hst]), hb1⟩
      · obtain rfl : q = false := by rw [HN.out, hp, decide_eq_false hx]; simp
        have hst : (t.toList == s.toList) = false := by rw [HE.out, decide_eq_false hx]
        clear HE HN hp hx
        go_enter Tryd.func64, Tryd.ntmps64
        go_wp2_with (go_at_fn g; refine (C.out _).mono ?_; rintro e w' ⟨rfl, rfl⟩)
        refine (R.out _).mono ?_
        rintro e w1 ⟨rfl, hb1⟩
        go_wp2
        go_ret
        exact ⟨ret_bool (by simp [hst]), hb1⟩
  · obtain rfl : q = false := by rw [HN.out]; simp [h1]
    have h1i : ¬ (zs.length : Int) ≤ 64 := by omega
    clear HI C R HE HN
    go_enter Tryd.func64, Tryd.ntmps64
    go_wp2
    go_ret
    exact ⟨rfl, Below.refl _ _⟩

set_option maxHeartbeats 2000000 in
set_option maxRecDepth 10000 in
theorem isWord_any (k n a : Int) (zs : List Int) (hb : ∀ z ∈ zs, 0 ≤ z ∧ z < 256) (w : World) (hT : Words w) :
    Calls Tryd.prog 33 #[.agg #[.int .i64 k, .int .i64 n, .int .i64 a, .string (strOfNums zs)]] w fun e w' => e = .returned (.bool (mayB ⟨k, n, a, zs⟩)) ∧ Below w.heap.size w w' := by
  have hs : (strOfNums zs).size = zs.length := strOfNums_size zs
  have he := str_empty zs
  have HB := hid (thenA (Below.refl _ w) (.cells #[.int .i64 k, .int .i64 n, .int .i64 a, .string (strOfNums zs)] 31))
  have HW := hid (hT.below HB.out)
  have N3 := hid (fun W => isName_any beginsB _ (enters_of Tryd.func49 (by kernel_rfl) rfl) beginsName_c zs hb W)
  have N4 := hid (fun W => isName_any greatB _ (enters_of Tryd.func47 (by kernel_rfl) rfl) isGreat_c zs hb W)
  have N5 := hid (fun W => isName_any smallB _ (enters_of Tryd.func65 (by kernel_rfl) rfl) isSmall_c zs hb W)
  have K6 := hid (fun b off c W hc => contains_any keys_bytes (by decide) zs hb b off 20 c rfl W hc)
  have K7 := hid (fun b off c W hc => contains_any signs_bytes (by decide) zs hb b off 17 c rfl W hc)
  have HU := hid (str_eq hb (ys := [95]) (by decide))
  have hu : (strOfNums [95]).toList = [95] := by rw [Go.ByteArray.toList_eq]; rfl
  rw [hu] at HU
  clear hu
  obtain ⟨⟨kb, ko, kc, hkg, hkc⟩, ⟨sb, so, sc, hsg, hsc⟩⟩ := HW.out
  have HKC := hid hkc
  have HSC := hid hsc
  have HM : Hid (mayB ⟨k, n, a, zs⟩ = if k = 1 then decide (zs.length = 0) && decide (-1073741824 ≤ n) && decide (n ≤ 1073741823)
    else if n ≠ 0 then false else if k = 2 then decide (zs.length ≤ 4096) else if k = 3 then decide (zs ≠ [95]) && !keysL.contains zs && nameB beginsB zs
    else if k = 4 then nameB greatB zs else if k = 5 then nameB smallB zs else if k = 6 then keysL.contains zs else if k = 7 then signsL.contains zs else false) := rfl
  clear hb hT hkc hsc
  generalize mayB ⟨k, n, a, zs⟩ = q at *
  generalize strOfNums zs = s at *
  generalize nameB beginsB zs = q3 at *
  generalize nameB greatB zs = q4 at *
  generalize nameB smallB zs = q5 at *
  generalize keysL.contains zs = q6 at *
  generalize signsL.contains zs = q7 at *
  by_cases k1 : k = 1
  · subst k1
    clear HU N3 N4 N5 K6 K7 HKC HSC hkg hsg HW
    by_cases h0 : zs.length = 0
    · have he1 : s.toList.isEmpty = true := by rw [he]; simp [h0]
      clear he
      by_cases h1 : -1073741824 ≤ n
      · by_cases h2 : n ≤ 1073741823
        · obtain rfl : q = true := by rw [HM.out]; simp [h0, h1, h2]
          clear HM
          go_enter Tryd.func33, Tryd.ntmps33
          go_wp2
          go_ret
          exact ⟨rfl, HB.out⟩
        · obtain rfl : q = false := by rw [HM.out]; simp [h2]
          clear HM
          go_enter Tryd.func33, Tryd.ntmps33
          go_wp2
          go_ret
          exact ⟨rfl, HB.out⟩
      · obtain rfl : q = false := by rw [HM.out]; simp [h1]
        clear HM
        go_enter Tryd.func33, Tryd.ntmps33
        go_wp2
        go_ret
        exact ⟨rfl, HB.out⟩
    · have he1 : s.toList.isEmpty = false := by rw [he]; simp [h0]
      obtain rfl : q = false := by rw [HM.out]; simp [h0]
      clear HM he
      go_enter Tryd.func33, Tryd.ntmps33
      go_wp2
      go_ret
      exact ⟨rfl, HB.out⟩
  clear he
  have HM1 := hid (HM.out.trans (if_neg k1))
  clear HM
  by_cases hn : ¬ n = 0
  · obtain rfl : q = false := HM1.out.trans (if_pos hn)
    clear HM1 HU N3 N4 N5 K6 K7 HKC HSC hkg hsg HW
    go_enter Tryd.func33, Tryd.ntmps33
    go_wp2
    go_ret
    exact ⟨rfl, HB.out⟩
  obtain rfl : n = 0 := Decidable.of_not_not hn
  clear hn
  have HM2 := hid (HM1.out.trans (if_neg (by simp)))
  clear HM1
  by_cases k2 : k = 2
  · subst k2
    have HM3 := hid (HM2.out.trans (if_pos rfl))
    clear HM2 HU N3 N4 N5 K6 K7 HKC HSC hkg hsg HW k1
    by_cases hl : zs.length ≤ 4096
    · have hli : (zs.length : Int) ≤ 4096 := by omega
      obtain rfl : q = true := HM3.out.trans (decide_eq_true hl)
      clear HM3 hl
      go_enter Tryd.func33, Tryd.ntmps33
      go_wp2
      go_ret
      exact ⟨ret_bool (by simp [hli]), HB.out⟩
    · have hli : ¬ (zs.length : Int) ≤ 4096 := by omega
      obtain rfl : q = false := HM3.out.trans (decide_eq_false hl)
      clear HM3 hl
      go_enter Tryd.func33, Tryd.ntmps33
      go_wp2
      go_ret
      exact ⟨ret_bool (by simp [hli]), HB.out⟩
  have HM3 := hid (HM2.out.trans (if_neg k2))
  clear HM2
  by_cases k3 : k = 3
  · subst k3
    have HM4 := hid (HM3.out.trans (if_pos rfl))
    clear HM3 N4 N5 K7 HSC hsg k1 k2
    by_cases hxu : zs = [95]
    · have ht : (s.toList == [95]) = true := by rw [HU.out, decide_eq_true hxu]
      obtain rfl : q = false := by rw [HM4.out]; simp [hxu]
      clear HM4 HU N3 K6 HKC hkg HW hxu
      go_enter Tryd.func33, Tryd.ntmps33
      go_wp2
      go_ret
      exact ⟨rfl, HB.out⟩
    · have ht : (s.toList == [95]) = false := by rw [HU.out, decide_eq_false hxu]
      have K := hid (K6.out kb ko kc _ HKC.out)
      cases q6 with
      | true =>
        obtain rfl : q = false := by rw [HM4.out]; simp
        clear HM4 HU N3 K6 HKC HW hxu
        go_enter Tryd.func33, Tryd.ntmps33
        go_wp2_with (go_at_call 63; refine K.out.mono ?_; rintro e w' ⟨rfl, rfl⟩)
        go_ret
        exact ⟨rfl, HB.out⟩
      | false =>
        obtain rfl : q = q3 := by rw [HM4.out]; simp [hxu]
        clear HM4 HU K6 HKC HW hxu
        go_enter Tryd.func33, Tryd.ntmps33
        go_wp2_with (go_at_call 63; refine K.out.mono ?_; rintro e w' ⟨rfl, rfl⟩)
        refine (N3.out _).mono ?_
        rintro e w1 ⟨rfl, hb1⟩
        have HB1 := hid (HB.out.trans (hb1.mono HB.out.size))
        clear hb1
        go_wp2
        go_ret
        exact ⟨rfl, HB1.out⟩
  have HM4 := hid (HM3.out.trans (if_neg k3))
  clear HM3
  by_cases k4 : k = 4
  · subst k4
    obtain rfl : q = q4 := HM4.out.trans (if_pos rfl)
    clear HM4 HU N3 N5 K6 K7 HKC HSC hkg hsg HW k1 k2 k3
    go_enter Tryd.func33, Tryd.ntmps33
    go_wp2_with fail
    refine (N4.out _).mono ?_
    rintro e w1 ⟨rfl, hb1⟩
    have HB1 := hid (HB.out.trans (hb1.mono HB.out.size))
    clear hb1
    go_wp2
    go_ret
    exact ⟨rfl, HB1.out⟩
  have HM5 := hid (HM4.out.trans (if_neg k4))
  clear HM4
  by_cases k5 : k = 5
  · subst k5
    obtain rfl : q = q5 := HM5.out.trans (if_pos rfl)
    clear HM5 HU N3 N4 K6 K7 HKC HSC hkg hsg HW k1 k2 k3 k4
    go_enter Tryd.func33, Tryd.ntmps33
    go_wp2_with fail
    refine (N5.out _).mono ?_
    rintro e w1 ⟨rfl, hb1⟩
    have HB1 := hid (HB.out.trans (hb1.mono HB.out.size))
    clear hb1
    go_wp2
    go_ret
    exact ⟨rfl, HB1.out⟩
  have HM6 := hid (HM5.out.trans (if_neg k5))
  clear HM5
  by_cases k6 : k = 6
  · subst k6
    obtain rfl : q = q6 := HM6.out.trans (if_pos rfl)
    have K := hid (K6.out kb ko kc _ HKC.out)
    clear HM6 HU N3 N4 N5 K6 K7 HKC HSC HW hsg k1 k2 k3 k4 k5
    go_enter Tryd.func33, Tryd.ntmps33
    go_wp2_with fail
    refine K.out.mono ?_
    rintro e w' ⟨rfl, rfl⟩
    go_wp2
    go_ret
    exact ⟨rfl, HB.out⟩
  have HM7 := hid (HM6.out.trans (if_neg k6))
  clear HM6
  by_cases k7 : k = 7
  · subst k7
    obtain rfl : q = q7 := HM7.out.trans (if_pos rfl)
    have K := hid (K7.out sb so sc _ HSC.out)
    clear HM7 HU N3 N4 N5 K6 K7 HKC HSC HW hkg k1 k2 k3 k4 k5 k6
    go_enter Tryd.func33, Tryd.ntmps33
    go_wp2_with fail
    refine K.out.mono ?_
    rintro e w' ⟨rfl, rfl⟩
    go_wp2
    go_ret
    exact ⟨rfl, HB.out⟩
  have HM8 := hid (HM7.out.trans (if_neg k7))
  clear HM7
  obtain rfl : q = false := HM8.out
  clear HM8 HU N3 N4 N5 K6 K7 HKC HSC hkg hsg HW
  go_enter Tryd.func33, Tryd.ntmps33
  go_wp2
  go_ret
  exact ⟨rfl, HB.out⟩
end Go.Proofs.YtllodmoookcimaaDoor.Lex
