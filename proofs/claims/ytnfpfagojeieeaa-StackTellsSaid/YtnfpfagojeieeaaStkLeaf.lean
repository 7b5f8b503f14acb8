/-
  STACK: the small functions by contract: heights, results, which operations open a list, what is left when words are taken.
-/
import Derived.Test.YtnfpfagojeieeaaStkPlain
namespace Go.Proofs.Ytnfpfagojeieeaa.Stk
open Go.RowKit
set_option linter.unusedVariables false

def wrongH (h : Int) : Bool := decide (h < 0) || decide (1073741824 < h)
theorem wrongHeight_any (h : Int) (w : World) : Calls Try.prog 34 #[.int .i64 h] w fun e w' => e = .returned (.bool (wrongH h)) ∧ w = w' := by
  have H : Hid (wrongH h = (decide (h < 0) || decide (1073741824 < h))) := rfl
  by_cases g : h < 0
  · have HE : Hid (wrongH h = true) := by show _ = _; rw [H.out]; simp [g]
    go_enter Try.func34, Try.ntmps34
    go_wp2
    go_ret
    exact ⟨ret_bool HE.out.symm, rfl⟩
  · have h' : decide (h < 0) = false := by simpa using g
    have HE : Hid (wrongH h = decide (1073741824 < h)) := by show _ = _; rw [H.out, h', Bool.false_or]
    clear H
    go_enter Try.func34, Try.ntmps34
    go_wp2
    go_ret
    exact ⟨ret_bool HE.out.symm, rfl⟩
theorem wrongResults_any (h : Int) (w : World) : Calls Try.prog 32 #[.int .i64 h] w fun e w' => e = .returned (.bool (wrongRe h)) ∧ w = w' := by
  have H : Hid (wrongRe h = (decide (h < 0) || decide (1 < h))) := rfl
  by_cases g : h < 0
  · have HE : Hid (wrongRe h = true) := by show _ = _; rw [H.out]; simp [g]
    go_enter Try.func32, Try.ntmps32
    go_wp2
    go_ret
    exact ⟨ret_bool HE.out.symm, rfl⟩
  · have h' : decide (h < 0) = false := by simpa using g
    have HE : Hid (wrongRe h = decide (1 < h)) := by show _ = _; rw [H.out, h', Bool.false_or]
    clear H
    go_enter Try.func32, Try.ntmps32
    go_wp2
    go_ret
    exact ⟨ret_bool HE.out.symm, rfl⟩
theorem opensList_any (op : Int) (w : World) : Calls Try.prog 31 #[.int .i64 op] w fun e w' => e = .returned (.bool (opens op)) ∧ w = w' := by
  have H : Hid (opens op = (decide (op = 2) || decide (op = 3) || decide (op = 4) || decide (op = 5))) := rfl
  by_cases g2 : op = 2
  · have HE : Hid (opens op = true) := by show _ = _; rw [H.out]; simp [g2]
    subst g2
    clear H
    go_enter Try.func31, Try.ntmps31
    go_wp2
    go_ret
    exact ⟨ret_bool HE.out.symm, rfl⟩
  by_cases g3 : op = 3
  · have HE : Hid (opens op = true) := by show _ = _; rw [H.out]; simp [g3]
    subst g3
    clear H
    go_enter Try.func31, Try.ntmps31
    go_wp2
    go_ret
    exact ⟨ret_bool HE.out.symm, rfl⟩
  by_cases g4 : op = 4
  · have HE : Hid (opens op = true) := by show _ = _; rw [H.out]; simp [g4]
    subst g4
    clear H
    go_enter Try.func31, Try.ntmps31
    go_wp2
    go_ret
    exact ⟨ret_bool HE.out.symm, rfl⟩
  by_cases g5 : op = 5
  · have HE : Hid (opens op = true) := by show _ = _; rw [H.out]; simp [g5]
    subst g5
    clear H
    go_enter Try.func31, Try.ntmps31
    go_wp2
    go_ret
    exact ⟨ret_bool HE.out.symm, rfl⟩
  have HE : Hid (opens op = false) := by show _ = _; rw [H.out]; simp [g2, g3, g4, g5]
  have q2 : (op == 2) = false := by simp [g2]
  have q3 : (op == 3) = false := by simp [g3]
  have q4 : (op == 4) = false := by simp [g4]
  have q5 : (op == 5) = false := by simp [g5]
  clear H
  go_enter Try.func31, Try.ntmps31
  go_wp2
  go_ret
  exact ⟨ret_bool HE.out.symm, rfl⟩
theorem lists_any (op : Int) (w : World) : Calls Try.prog 33 #[.int .i64 op] w fun e w' => e = .returned (.bool (opens op)) ∧ w = w' := by
  have H : Hid (opens op = (decide (op = 2) || decide (op = 3) || decide (op = 4) || decide (op = 5))) := rfl
  by_cases g2 : op = 2
  · have HE : Hid (opens op = true) := by show _ = _; rw [H.out]; simp [g2]
    subst g2
    clear H
    go_enter Try.func33, Try.ntmps33
    go_wp2
    go_ret
    exact ⟨ret_bool HE.out.symm, rfl⟩
  by_cases g3 : op = 3
  · have HE : Hid (opens op = true) := by show _ = _; rw [H.out]; simp [g3]
    subst g3
    clear H
    go_enter Try.func33, Try.ntmps33
    go_wp2
    go_ret
    exact ⟨ret_bool HE.out.symm, rfl⟩
  by_cases g4 : op = 4
  · have HE : Hid (opens op = true) := by show _ = _; rw [H.out]; simp [g4]
    subst g4
    clear H
    go_enter Try.func33, Try.ntmps33
    go_wp2
    go_ret
    exact ⟨ret_bool HE.out.symm, rfl⟩
  have HE : Hid (opens op = (op == 5)) := by
    show _ = _
    rw [H.out]
    by_cases g5 : op = 5 <;> simp [g2, g3, g4, g5]
  have q2 : (op == 2) = false := by simp [g2]
  have q3 : (op == 3) = false := by simp [g3]
  have q4 : (op == 4) = false := by simp [g4]
  clear H
  go_enter Try.func33, Try.ntmps33
  go_wp2
  go_ret
  exact ⟨ret_bool HE.out.symm, rfl⟩
theorem s64_in {x : Int} (h0 : -9223372036854775808 ≤ x) (h1 : x ≤ 9223372036854775807) : IntKind.i64.wrap x = x := by rw [IntKind.wrap_i64]; omega
/-- What is left when n words are taken in a frame. -/
theorem without_any (h n : Int) (f : Fr) (w : World) (h0 : 0 ≤ h) (h1 : h ≤ 1073741824) (b0 : 0 ≤ f.ba) (b1 : f.ba ≤ h) (n0 : 0 ≤ n) (n1 : n ≤ 9223372036854775807) :
    Calls Try.prog 29 #[.int .i64 h, .int .i64 n, .agg #[.int .i64 f.op, .int .i64 f.ba, .int .i64 f.re, .bool f.de]] w fun e w' => e = .returned (.tuple #[.int .i64 (without h n f).1, .int .i64 (without h n f).2]) ∧ Below w.heap.size w w' := by
  have HW : Hid (without h n f = if h - f.ba < n ∧ f.de = false then (0, 200) else (if f.ba ≤ h - n then h - n else f.ba, 0)) := rfl
  generalize hR : without h n f = R at HW ⊢
  obtain ⟨op, ba, re, de⟩ := f
  dsimp only at *
  clear hR
  have k1 : IntKind.i64.wrap (h - ba) = h - ba := s64_in (by omega) (by omega)
  have k2 : IntKind.i64.wrap (h - n) = h - n := s64_in (by omega) (by omega)
  by_cases g1 : h - ba < n
  · cases de with
    | false =>
      have HR : Hid (R = (0, 200)) := by show _ = _; rw [HW.out]; simp [g1]
      clear HW
      go_enter Try.func29, Try.ntmps29
      go_wp2
      go_ret2
      exact ⟨by rw [HR.out]; rfl, (Below.refl _ _).alloc (Nat.le_refl _) _⟩
    | true =>
      have HR : Hid (R = (ba, 0)) := by show _ = _; rw [HW.out]; simp; omega
      clear HW
      go_enter Try.func29, Try.ntmps29
      go_wp2
      go_ret2
      exact ⟨by rw [HR.out]; simp, (Below.refl _ _).alloc (Nat.le_refl _) _⟩
  · have HR : Hid (R = (h - n, 0)) := by show _ = _; rw [HW.out, if_neg (fun h => g1 h.1), if_pos (by omega)]
    clear HW
    go_enter Try.func29, Try.ntmps29
    go_wp2
    go_ret2
    exact ⟨by rw [HR.out]; simp, (Below.refl _ _).alloc (Nat.le_refl _) _⟩
end Go.Proofs.Ytnfpfagojeieeaa.Stk
