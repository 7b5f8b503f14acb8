/-
  NUM: the document's own small functions by contracts: Arity, Signed, word, bit, truth, compares, divides.
-/
import Derived.Test.YtabffkninpikpaaDoorNumTwo
namespace Go.Proofs.YtabffkninpikpaaDoor.Num
open Go.RowKit

theorem tmod_mod (n : Int) : n.tmod 4294967296 % 4294967296 = n % 4294967296 := by rw [Int.tmod_def]; omega
set_option maxHeartbeats 800000 in
theorem refArity_any (op : Int) (w : World) : Calls Tryd.prog 13 #[.int .i64 op] w fun e w' => e = .returned (.int .i64 (arity op)) ∧ w = w' := by
  have hh : op < 69 ∨ op = 69 ∨ (70 ≤ op ∧ op ≤ 79) ∨ (80 ≤ op ∧ op ≤ 102) ∨ (103 ≤ op ∧ op ≤ 105) ∨ (106 ≤ op ∧ op ≤ 120) ∨ 120 < op := by omega
  have H : Hid (arity op = if op = 69 ∨ (103 ≤ op ∧ op ≤ 105) then 1 else if (70 ≤ op ∧ op ≤ 79) ∨ (106 ≤ op ∧ op ≤ 120) then 2 else 0) := hid rfl
  rcases hh with h | h | ⟨h, h'⟩ | ⟨h, h'⟩ | ⟨h, h'⟩ | ⟨h, h'⟩ | h
  · rw [H.out, if_neg (by omega), if_neg (by omega)]
    clear H
    go_enter Tryd.func13, Tryd.ntmps13
    go_wp2
    go_ret
    exact ⟨rfl, rfl⟩
  · subst h
    clear H
    go_enter Tryd.func13, Tryd.ntmps13
    go_wp2
    go_ret
    exact ⟨rfl, rfl⟩
  · rw [H.out, if_neg (by omega), if_pos (by omega)]
    clear H
    go_enter Tryd.func13, Tryd.ntmps13
    go_wp2
    go_ret
    exact ⟨rfl, rfl⟩
  · rw [H.out, if_neg (by omega), if_neg (by omega)]
    clear H
    go_enter Tryd.func13, Tryd.ntmps13
    go_wp2
    go_ret
    exact ⟨rfl, rfl⟩
  · rw [H.out, if_pos (by omega)]
    clear H
    go_enter Tryd.func13, Tryd.ntmps13
    go_wp2
    go_ret
    exact ⟨rfl, rfl⟩
  · rw [H.out, if_neg (by omega), if_pos (by omega)]
    clear H
    have e1 : decide (op ≤ 105) = false := by simp; omega
    have e2 : (op == 69) = false := by simp; omega
    go_enter Tryd.func13, Tryd.ntmps13
    go_wp2
    go_ret
    exact ⟨rfl, rfl⟩
  · rw [H.out, if_neg (by omega), if_neg (by omega)]
    clear H
    have e1 : decide (op ≤ 105) = false := by simp; omega
    have e2 : (op == 69) = false := by simp; omega
    have e3 : decide (op ≤ 79) = false := by simp; omega
    have e4 : decide (op ≤ 120) = false := by simp; omega
    go_enter Tryd.func13, Tryd.ntmps13
    go_wp2
    go_ret
    exact ⟨rfl, rfl⟩
set_option maxHeartbeats 400000 in
theorem refSigned_any (a : Int) (w : World) (h0 : 0 ≤ a) (h1 : a < 4294967296) : Calls Tryd.prog 20 #[.int .u32 a] w fun e w' => e = .returned (.int .i64 (sg a)) ∧ w = w' := by
  by_cases h : 2147483648 ≤ a
  · have H := hid (show sg a = a - 4294967296 by unfold sg; rw [if_pos h])
    go_enter Tryd.func20, Tryd.ntmps20
    go_wp2
    go_ret
    exact ⟨ret_int H.out.symm, rfl⟩
  · have H := hid (show sg a = a by unfold sg; rw [if_neg h])
    go_enter Tryd.func20, Tryd.ntmps20
    go_wp2
    go_ret
    exact ⟨ret_int H.out.symm, rfl⟩
set_option maxHeartbeats 800000 in
theorem refWord_any (n : Int) (w : World) : Calls Tryd.prog 28 #[.int .i64 n] w fun e w' => e = .returned (.int .u32 (word n)) ∧ w = w' := by
  have hb : -4294967295 ≤ n.tmod 4294967296 ∧ n.tmod 4294967296 ≤ 4294967295 := by
    rcases Int.le_total 0 n with h | h
    · rw [Int.tmod_eq_emod_of_nonneg h]; omega
    · have := Int.lt_tmod_of_pos n (b := 4294967296) (by decide)
      have := Int.tmod_lt_of_pos n (b := 4294967296) (by decide)
      omega
  have he : Hid (n.tmod 4294967296 % 4294967296 = n % 4294967296) := hid (tmod_mod n)
  obtain ⟨m, hm⟩ : ∃ m, n.tmod 4294967296 = m := ⟨_, rfl⟩
  rw [hm] at hb he
  by_cases h : m < 0
  · go_enter Tryd.func28, Tryd.ntmps28
    go_wp2
    go_ret
    refine ⟨ret_int ?_, rfl⟩
    have := he.out
    unfold word
    omega
  · go_enter Tryd.func28, Tryd.ntmps28
    go_wp2
    go_ret
    refine ⟨ret_int ?_, rfl⟩
    have := he.out
    unfold word
    omega
set_option maxHeartbeats 400000 in
theorem refBit_any (a i : Int) (w : World) (h0 : 0 ≤ a) (h1 : a < 4294967296) (i0 : 0 ≤ i) (i1 : i ≤ 63) : Calls Tryd.prog 24 #[.int .u32 a, .int .i64 i] w fun e w' => e = .returned (.int .i64 (bitI a i)) ∧ w = w' := by
  go_enter Tryd.func24, Tryd.ntmps24
  go_wp2
  go_ret
  exact ⟨ret_int (Int.tmod_eq_emod_of_nonneg (Int.ediv_nonneg h0 (Int.le_of_lt (Int.pow_pos (by decide))))), rfl⟩
theorem refTruth_any (b : Bool) (w : World) : Calls Tryd.prog 23 #[.bool b] w fun e w' => e = .returned (.int .u32 (truth b)) ∧ w = w' := by
  cases b
  all_goals
    go_enter Tryd.func23, Tryd.ntmps23
    go_wp2
    go_ret
    exact ⟨ret_int rfl, rfl⟩
set_option maxHeartbeats 1600000 in
theorem compares_any (op a b : Int) (w : World) (ho : 70 ≤ op ∧ op ≤ 79) (h0 : 0 ≤ a) (h1 : a < 4294967296) (k0 : 0 ≤ b) (k1 : b < 4294967296) :
    Calls Tryd.prog 27 #[.int .i64 op, .int .i64 (if op = 72 ∨ op = 74 ∨ op = 76 ∨ op = 78 then sg a else a), .int .i64 (if op = 72 ∨ op = 74 ∨ op = 76 ∨ op = 78 then sg b else b)] w fun e w' => e = .returned (.bool (cmp op a b)) ∧ w = w' := by
  have hh : op = 70 ∨ op = 71 ∨ op = 72 ∨ op = 73 ∨ op = 74 ∨ op = 75 ∨ op = 76 ∨ op = 77 ∨ op = 78 ∨ op = 79 := by omega
  have ma := sg_bounds h0 h1
  have mb := sg_bounds k0 k1
  rcases hh with rfl | rfl | rfl | rfl | rfl | rfl | rfl | rfl | rfl | rfl
  all_goals
    clear ho
    simp only [cmp]
    simp (decide := true) only [if_true, if_false]
    generalize sg a = sa at *
    generalize sg b = sb at *
    go_enter Tryd.func27, Tryd.ntmps27
    go_wp2
    go_ret
    refine ⟨ret_bool ?_, rfl⟩
    first | rfl | (simp; done) | (simp; rfl)
/-- What a division of two numbers makes. -/
def divV (op a b : Int) : Int := if op = 109 ∨ op = 110 then word (a.tdiv b) else word (a.tmod b)
theorem natAbs_le {n : Int} {k : Nat} (h : n.natAbs ≤ k) : -(k : Int) ≤ n ∧ n ≤ k := by omega
theorem tdiv_le {a b : Int} (h : -4294967296 ≤ a ∧ a ≤ 4294967296) : -4294967296 ≤ a.tdiv b ∧ a.tdiv b ≤ 4294967296 := by
  have h1 : (a.tdiv b).natAbs = a.natAbs / b.natAbs := Int.natAbs_tdiv a b
  have h2 : a.natAbs / b.natAbs ≤ a.natAbs := Nat.div_le_self _ _
  omega
theorem tmod_le {a b : Int} (h : -4294967296 ≤ a ∧ a ≤ 4294967296) : -4294967296 ≤ a.tmod b ∧ a.tmod b ≤ 4294967296 := by
  have h1 : (a.tmod b).natAbs = a.natAbs % b.natAbs := Int.natAbs_tmod a b
  have h2 : a.natAbs % b.natAbs ≤ a.natAbs := Nat.mod_le _ _
  omega
set_option maxHeartbeats 1600000 in
theorem divides_any (op a b : Int) (w : World) (ho : 109 ≤ op ∧ op ≤ 112) (ha : -4294967296 ≤ a ∧ a ≤ 4294967296) (hz : b ≠ 0) (hn : ¬ (op = 109 ∧ a = -2147483648 ∧ b = -1)) :
    Calls Tryd.prog 29 #[.int .i64 op, .int .i64 a, .int .i64 b] w fun e w' => e = .returned (.tuple #[.int .u32 (divV op a b), .int .i64 0]) ∧ w = w' := by
  have hq := tdiv_le (b := b) ha
  have hm := tmod_le (b := b) ha
  have hz' : ¬ b = 0 := hz
  have hh : op = 109 ∧ a ≠ -2147483648 ∨ op = 109 ∧ a = -2147483648 ∧ b ≠ -1 ∨ op = 110 ∨ op = 111 ∨ op = 112 := by omega
  clear hn hz
  rcases hh with ⟨rfl, hn⟩ | ⟨rfl, hx, hn⟩ | rfl | rfl | rfl
  · have e1 : (a == -2147483648) = false := by simpa using hn
    clear hn ho
    rw [show divV 109 a b = word (a.tdiv b) from rfl]
    go_enter Tryd.func29, Tryd.ntmps29
    go_wp2_with fail
    refine (refWord_any _ _).mono ?_
    rintro e w' ⟨rfl, rfl⟩
    go_wp2
    go_ret2
    exact ⟨rfl, rfl⟩
  · have e1 : (b == -1) = false := by simpa using hn
    clear hn ho
    have e0 : (a == -2147483648) = true := by simpa using hx
    clear hx
    rw [show divV 109 a b = word (a.tdiv b) from rfl]
    go_enter Tryd.func29, Tryd.ntmps29
    go_wp2_with fail
    refine (refWord_any _ _).mono ?_
    rintro e w' ⟨rfl, rfl⟩
    go_wp2
    go_ret2
    exact ⟨rfl, rfl⟩
  all_goals
    clear ho
    go_enter Tryd.func29, Tryd.ntmps29
    go_wp2_with fail
    refine (refWord_any _ _).mono ?_
    rintro e w' ⟨rfl, rfl⟩
    go_wp2
    go_ret2
    exact ⟨rfl, rfl⟩
set_option maxHeartbeats 800000 in
theorem divides_zero (op a : Int) (w : World) : Calls Tryd.prog 29 #[.int .i64 op, .int .i64 a, .int .i64 0] w fun e w' => e = .returned (.tuple #[.int .u32 0, .int .i64 130]) ∧ w = w' := by
  go_enter Tryd.func29, Tryd.ntmps29
  go_wp2
  go_ret2
  exact ⟨rfl, rfl⟩
set_option maxHeartbeats 800000 in
theorem divides_over (w : World) : Calls Tryd.prog 29 #[.int .i64 109, .int .i64 (-2147483648), .int .i64 (-1)] w fun e w' => e = .returned (.tuple #[.int .u32 0, .int .i64 131]) ∧ w = w' := by
  go_enter Tryd.func29, Tryd.ntmps29
  go_wp2
  go_ret2
  exact ⟨rfl, rfl⟩
end Go.Proofs.YtabffkninpikpaaDoor.Num
