/-
  LEX: the document's writer: may, Dec: by contract.
-/
import Derived.Test.YtllodmoookcimaaDoorLexRefB
import Derived.Deep.RegionHeld3
namespace Go.Proofs.YtllodmoookcimaaDoor.Lex
open Go.RowKit Go.Proofs.YtllodmoookcimaaDoor.Utf
set_option linter.unusedSimpArgs false
set_option linter.unusedVariables false

theorem str_append (xs ys : List Int) : strOfNums xs ++ strOfNums ys = strOfNums (xs ++ ys) := by
  apply ByteArray.ext
  apply Array.toList_inj.1
  rw [ByteArray.data_append, Array.toList_append, strOfNums_data, strOfNums_data, strOfNums_data, List.map_append]
theorem small_wrap (n : Nat) (h : n ≤ 4294967296) : IntKind.i64.wrap (n : Int) = (n : Int) := by
  rw [IntKind.wrap_i64]; omega
theorem StrsAt.below {w w' : World} {b : Nat} {ks : List (List Int)} (h : StrsAt w b ks) (hb : Below w.heap.size w w') : StrsAt w' b ks := fun j hj => keep hb (h j hj)
theorem keepS {w W w1 : World} {s t : Value} {k : Nat} (h : Below w.heap.size w W ∧ W.cell? ⟨k, 1, none⟩ = some t ∧ W.cell? ⟨k, 3, none⟩ = some s) (hb : Below W.heap.size W w1) : Below w.heap.size w w1 ∧ w1.cell? ⟨k, 1, none⟩ = some t ∧ w1.cell? ⟨k, 3, none⟩ = some s :=
  ⟨h.1.trans (hb.mono h.1.size), keep hb h.2.1, keep hb h.2.2⟩
theorem dec_one (n : Nat) (h : n < 10) (w : World) :
    Calls Tryd.prog 70 #[.int .i64 n] w fun e w' => e = .returned (.string (strOfNums [48 + (n : Int)])) ∧ Below w.heap.size w w' := by
  have hn : n = 0 ∨ n = 1 ∨ n = 2 ∨ n = 3 ∨ n = 4 ∨ n = 5 ∨ n = 6 ∨ n = 7 ∨ n = 8 ∨ n = 9 := by omega
  rcases hn with rfl | rfl | rfl | rfl | rfl | rfl | rfl | rfl | rfl | rfl <;> (
    clear h
    go_enter Tryd.func70, Tryd.ntmps70
    go_wp2
    go_ret
    exact ⟨rfl, Below.refl _ _⟩)
set_option maxHeartbeats 1000000 in
theorem decR_any : ∀ (f n : Nat) (w : World), 0 < f → n < 10 ^ f → n ≤ 4294967296 → f ≤ 20 →
    Calls Tryd.prog 70 #[.int .i64 n] w fun e w' => e = .returned (.string (strOfNums (decGo f n))) ∧ Below w.heap.size w w'
  | f + 1, n, w, _, hf, hb, hf20 => by
    by_cases h : n < 10
    · have : decGo (f + 1) n = [48 + (n : Int)] := by unfold decGo; rw [if_pos h]
      rw [this]
      exact dec_one n h w
    · have he : decGo (f + 1) n = decGo f (n / 10) ++ [48 + ((n % 10 : Nat) : Int)] := by conv => lhs; unfold decGo
                                                                                          rw [if_neg h]
      have hf0 : 0 < f := by
        rcases Nat.eq_zero_or_pos f with rfl | hf0
        · simp at hf; omega
        · exact hf0
      have I1 := hid (fun W => decR_any f (n / 10) W hf0 (by rw [Nat.pow_succ] at hf; omega) (by omega) (by omega))
      have I2 := hid (fun W => dec_one (n % 10) (by omega) W)
      have HA := hid (str_append (decGo f (n / 10)) [48 + ((n % 10 : Nat) : Int)])
      rw [he]
      have q1 : Int.tdiv (n : Int) 10 = ((n / 10 : Nat) : Int) := by rw [Int.tdiv_eq_ediv_of_nonneg (by omega)]; omega
      have q2 : Int.tmod (n : Int) 10 = ((n % 10 : Nat) : Int) := by rw [Int.tmod_eq_emod_of_nonneg (by omega)]; omega
      have hi : ¬ (n : Int) < 10 := by omega
      have p1 := small_wrap (n / 10) (Nat.le_trans (Nat.div_le_self n 10) hb)
      have p2 := small_wrap (n % 10) (Nat.le_trans (Nat.mod_le n 10) hb)
      have d0 : n / 10 ≤ 4294967296 := by omega
      have m0 : n % 10 ≤ 10 := by omega
      have z1 : (strOfNums (decGo f (n / 10))).size ≤ 20 := by rw [strOfNums_size]; have := decGo_len f (n / 10); omega
      have z2 : (strOfNums [48 + ((n % 10 : Nat) : Int)]).size = 1 := strOfNums_size _
      generalize strOfNums (decGo f (n / 10) ++ [48 + ((n % 10 : Nat) : Int)]) = res at *
      generalize strOfNums (decGo f (n / 10)) = s1 at *
      generalize strOfNums [48 + ((n % 10 : Nat) : Int)] = s2 at *
      generalize n / 10 = nd at *
      generalize n % 10 = nm at *
      clear he hf hf0 h
      go_enter Tryd.func70, Tryd.ntmps70
      go_wp2_with fail
      refine (I1.out _).mono ?_
      rintro e w1 ⟨rfl, hb1⟩
      have HB1 := hid hb1
      clear hb1
      go_wp2_with fail
      refine (I2.out _).mono ?_
      rintro e w2 ⟨rfl, hb2⟩
      have HB2 := hid (HB1.out.trans (hb2.mono HB1.out.size))
      clear hb2 HB1
      go_wp2
      go_ret
      exact ⟨by rw [← HA.out]; rfl, HB2.out⟩
set_option maxHeartbeats 4000000 in
set_option maxRecDepth 10000 in
theorem may_any (k n a : Int) (zs : List Int) (hb : ∀ z ∈ zs, 0 ≤ z ∧ z < 256) (w : World) :
    Calls Tryd.prog 38 #[.agg #[.int .i64 k, .int .i64 n, .int .i64 a, .string (strOfNums zs)]] w fun e w' => e = .returned (.bool (mayB ⟨k, n, a, zs⟩)) ∧ Below w.heap.size w w' := by
  have hs : (strOfNums zs).size = zs.length := strOfNums_size zs
  have he := str_empty zs
  have HB := hid (thenA (Below.refl _ w) (.cells #[.int .i64 k, .int .i64 n, .int .i64 a, .string (strOfNums zs)] 31))
  have NA := hid (fun W => named_any k zs hb W)
  have KI := hid (fun b W (hc : StrsAt W b keysL) => in_any keys_bytes (by decide) zs hb b 0 20 20 rfl W hc)
  have KS := hid (fun W => keys_any W)
  have SI := hid (fun b W (hc : StrsAt W b signsL) => in_any signs_bytes (by decide) zs hb b 0 17 17 rfl W hc)
  have SS := hid (fun W => signs_any W)
  have HM : Hid (mayB ⟨k, n, a, zs⟩ = if k = 1 then decide (zs.length = 0) && decide (-1073741824 ≤ n) && decide (n ≤ 1073741823)
    else if n ≠ 0 then false else if k = 2 then decide (zs.length ≤ 4096) else if k = 3 then decide (zs ≠ [95]) && !keysL.contains zs && nameB beginsB zs
    else if k = 4 then nameB greatB zs else if k = 5 then nameB smallB zs else if k = 6 then keysL.contains zs else if k = 7 then signsL.contains zs else false) := rfl
  have HN := hid (fun h => named_may (n := n) (a := a) (zs := zs) (k := k) h)
  clear hb
  generalize mayB ⟨k, n, a, zs⟩ = q at *
  generalize strOfNums zs = s at *
  generalize namedB k zs = qn at *
  generalize nameB beginsB zs = q3 at *
  generalize nameB greatB zs = q4 at *
  generalize nameB smallB zs = q5 at *
  generalize keysL.contains zs = q6 at *
  generalize signsL.contains zs = q7 at *
  by_cases k1 : k = 1
  · subst k1
    clear NA KI KS SI SS HN
    by_cases h1 : -1073741824 ≤ n
    · by_cases h2 : n ≤ 1073741823
      · have HF : Hid (q = s.toList.isEmpty) := by show _ = _; rw [HM.out, he]; simp [h1, h2]
        clear HM he
        go_enter Tryd.func38, Tryd.ntmps38
        go_wp2
        go_ret
        exact ⟨by rw [HF.out]; rfl, HB.out⟩
      · obtain rfl : q = false := by rw [HM.out]; simp [h2]
        clear HM he
        go_enter Tryd.func38, Tryd.ntmps38
        go_wp2
        go_ret
        exact ⟨rfl, HB.out⟩
    · obtain rfl : q = false := by rw [HM.out]; simp [h1]
      clear HM he
      go_enter Tryd.func38, Tryd.ntmps38
      go_wp2
      go_ret
      exact ⟨rfl, HB.out⟩
  clear he
  have HM1 := hid (HM.out.trans (if_neg k1))
  clear HM
  by_cases k2 : k = 2
  · subst k2
    clear NA KI KS SI SS HN k1
    by_cases hn : n = 0
    · subst hn
      have HF : Hid (q = decide ((zs.length : Int) ≤ 4096)) := by show _ = _; rw [HM1.out]; simp; omega
      clear HM1
      go_enter Tryd.func38, Tryd.ntmps38
      go_wp2
      go_ret
      exact ⟨by rw [HF.out]; rfl, HB.out⟩
    · obtain rfl : q = false := by rw [HM1.out]; simp [hn]
      clear HM1
      go_enter Tryd.func38, Tryd.ntmps38
      go_wp2
      go_ret
      exact ⟨rfl, HB.out⟩
  by_cases k3 : k = 3
  · subst k3
    have HM2 := hid (HN.out (by decide))
    clear KI KS SI SS HN HM1 k1 k2
    by_cases hn : n = 0
    · obtain rfl : q = qn := by rw [HM2.out]; simp [hn]
      subst hn
      clear HM2
      go_enter Tryd.func38, Tryd.ntmps38
      go_wp2_with fail
      refine (NA.out _).mono ?_
      rintro e w1 ⟨rfl, hb1⟩
      have HB1 := hid (HB.out.trans (hb1.mono HB.out.size))
      clear hb1
      go_wp2
      go_ret
      exact ⟨rfl, HB1.out⟩
    · obtain rfl : q = false := by rw [HM2.out]; simp [hn]
      clear HM2 NA
      go_enter Tryd.func38, Tryd.ntmps38
      go_wp2
      go_ret
      exact ⟨rfl, HB.out⟩
  by_cases k4 : k = 4
  · subst k4
    have HM2 := hid (HN.out (by decide))
    clear KI KS SI SS HN HM1 k1 k2 k3
    by_cases hn : n = 0
    · obtain rfl : q = qn := by rw [HM2.out]; simp [hn]
      subst hn
      clear HM2
      go_enter Tryd.func38, Tryd.ntmps38
      go_wp2_with fail
      refine (NA.out _).mono ?_
      rintro e w1 ⟨rfl, hb1⟩
      have HB1 := hid (HB.out.trans (hb1.mono HB.out.size))
      clear hb1
      go_wp2
      go_ret
      exact ⟨rfl, HB1.out⟩
    · obtain rfl : q = false := by rw [HM2.out]; simp [hn]
      clear HM2 NA
      go_enter Tryd.func38, Tryd.ntmps38
      go_wp2
      go_ret
      exact ⟨rfl, HB.out⟩
  by_cases k5 : k = 5
  · subst k5
    have HM2 := hid (HN.out (by decide))
    clear KI KS SI SS HN HM1 k1 k2 k3 k4
    by_cases hn : n = 0
    · obtain rfl : q = qn := by rw [HM2.out]; simp [hn]
      subst hn
      clear HM2
      go_enter Tryd.func38, Tryd.ntmps38
      go_wp2_with fail
      refine (NA.out _).mono ?_
      rintro e w1 ⟨rfl, hb1⟩
      have HB1 := hid (HB.out.trans (hb1.mono HB.out.size))
      clear hb1
      go_wp2
      go_ret
      exact ⟨rfl, HB1.out⟩
    · obtain rfl : q = false := by rw [HM2.out]; simp [hn]
      clear HM2 NA
      go_enter Tryd.func38, Tryd.ntmps38
      go_wp2
      go_ret
      exact ⟨rfl, HB.out⟩
  by_cases k6 : k = 6
  · subst k6
    clear SI SS HN NA k1 k2 k3 k4 k5
    by_cases hn : n = 0
    · obtain rfl : q = q6 := by rw [HM1.out]; simp [hn]
      subst hn
      clear HM1
      go_enter Tryd.func38, Tryd.ntmps38
      have hS : Below w.heap.size w (w.alloc (.cells #[.int .i64 6, .int .i64 0, .int .i64 a, .string s] 31)) ∧ (w.alloc (.cells #[.int .i64 6, .int .i64 0, .int .i64 a, .string s] 31)).cell? ⟨w.heap.size, 1, none⟩ = some (.int .i64 0) ∧ (w.alloc (.cells #[.int .i64 6, .int .i64 0, .int .i64 a, .string s] 31)).cell? ⟨w.heap.size, 3, none⟩ = some (.string s) :=
        ⟨HB.out, by rw [Lib.cell_of_heap (heap_alloc_new w _)]; rfl, by rw [Lib.cell_of_heap (heap_alloc_new w _)]; rfl⟩
      go_wp2
      go_region_held3 (fun w' => Below w.heap.size w w' ∧ w'.cell? ⟨w.heap.size, 1, none⟩ = some (.int .i64 0) ∧ w'.cell? ⟨w.heap.size, 3, none⟩ = some (.string s))
        (first | assumption | exact keepS hS (Below.refl _ _).drew | exact keepS (by assumption) (by assumption))
        (first
          | (go_at_call 56; refine (KS.out _).mono ?_; rintro e w1 ⟨kb, rfl, hsa, hb1⟩)
          | (go_at_call 55; refine (KI.out _ _ (hsa.below ?_)).mono ?_; (first | assumption | exact Below.refl _ _ | exact (Below.refl _ _).drew); rintro e w2 ⟨rfl, hb2⟩))
      rename_i hh
      go_wp2
      go_ret
      exact ⟨rfl, hh.1⟩
    · obtain rfl : q = false := by rw [HM1.out]; simp [hn]
      clear HM1
      go_enter Tryd.func38, Tryd.ntmps38
      go_wp2
      go_quiet (fail)
      go_wp2
      go_ret
      exact ⟨rfl, drewL HB.out _⟩
  by_cases k7 : k = 7
  · subst k7
    clear KI KS HN NA k1 k2 k3 k4 k5 k6
    by_cases hn : n = 0
    · obtain rfl : q = q7 := by rw [HM1.out]; simp [hn]
      subst hn
      clear HM1
      go_enter Tryd.func38, Tryd.ntmps38
      have hS : Below w.heap.size w (w.alloc (.cells #[.int .i64 7, .int .i64 0, .int .i64 a, .string s] 31)) ∧ (w.alloc (.cells #[.int .i64 7, .int .i64 0, .int .i64 a, .string s] 31)).cell? ⟨w.heap.size, 1, none⟩ = some (.int .i64 0) ∧ (w.alloc (.cells #[.int .i64 7, .int .i64 0, .int .i64 a, .string s] 31)).cell? ⟨w.heap.size, 3, none⟩ = some (.string s) :=
        ⟨HB.out, by rw [Lib.cell_of_heap (heap_alloc_new w _)]; rfl, by rw [Lib.cell_of_heap (heap_alloc_new w _)]; rfl⟩
      go_wp2
      go_region_held3 (fun w' => Below w.heap.size w w' ∧ w'.cell? ⟨w.heap.size, 1, none⟩ = some (.int .i64 0) ∧ w'.cell? ⟨w.heap.size, 3, none⟩ = some (.string s))
        (first | assumption | exact keepS hS (Below.refl _ _).drew | exact keepS (by assumption) (by assumption))
        (first
          | (go_at_call 60; refine (SS.out _).mono ?_; rintro e w1 ⟨kb, rfl, hsa, hb1⟩)
          | (go_at_call 55; refine (SI.out _ _ (hsa.below ?_)).mono ?_; (first | assumption | exact Below.refl _ _ | exact (Below.refl _ _).drew); rintro e w2 ⟨rfl, hb2⟩))
      rename_i hh
      go_wp2
      go_ret
      exact ⟨rfl, hh.1⟩
    · obtain rfl : q = false := by rw [HM1.out]; simp [hn]
      clear HM1
      go_enter Tryd.func38, Tryd.ntmps38
      go_wp2
      go_quiet (fail)
      go_wp2
      go_ret
      exact ⟨rfl, drewL HB.out _⟩
  obtain rfl : q = false := by rw [HM1.out]; simp [k2, k3, k4, k5, k6, k7]
  clear HM1 HN NA KI KS SI SS
  go_enter Tryd.func38, Tryd.ntmps38
  go_wp2
  go_ret
  exact ⟨rfl, HB.out⟩
end Go.Proofs.YtllodmoookcimaaDoor.Lex
