/-
  LEX: the classes of letters, by contract; the first bytes that are of one class.
-/
import Derived.Test.YtojgibigmoaejaaDoorLexPlain
import Derived.Test.YtojgibigmoaejaaDoorUtfDecode
import Derived.Test.YtojgibigmoaejaaDoorBase2
import Derived.Lib.OthersKept
namespace Go.Proofs.YtojgibigmoaejaaDoor.Lex
open Go.RowKit Go.Proofs.YtojgibigmoaejaaDoor.Utf
set_option linter.unusedSimpArgs false
set_option linter.unusedVariables false

theorem isBlank_c (c : Int) (w : World) : Calls Tryd.prog 24 #[.int .u8 c] w fun e w' => e = .returned (.bool (blankB c)) ∧ w' = w := by
  have H : Hid (blankB c = (decide (c = 9) || decide (c = 10) || decide (c = 13) || decide (c = 32))) := rfl
  generalize blankB c = q at *
  by_cases h1 : c = 9
  · subst h1; obtain rfl : q = true := H.out
    go_enter Tryd.func24, Tryd.ntmps24; go_wp2; go_ret; exact ⟨rfl, rfl⟩
  by_cases h2 : c = 10
  · subst h2; obtain rfl : q = true := H.out
    go_enter Tryd.func24, Tryd.ntmps24; go_wp2; go_ret; exact ⟨rfl, rfl⟩
  by_cases h3 : c = 13
  · subst h3; obtain rfl : q = true := H.out
    go_enter Tryd.func24, Tryd.ntmps24; go_wp2; go_ret; exact ⟨rfl, rfl⟩
  by_cases h4 : c = 32
  · subst h4; obtain rfl : q = true := H.out
    go_enter Tryd.func24, Tryd.ntmps24; go_wp2; go_ret; exact ⟨rfl, rfl⟩
  · obtain rfl : q = false := by rw [H.out]; simp [h1, h2, h3, h4]
    go_enter Tryd.func24, Tryd.ntmps24; go_wp2; go_ret; exact ⟨ret_bool (by simp [h1, h2, h3, h4]), rfl⟩
theorem isDigit_c (c : Int) (w : World) : Calls Tryd.prog 27 #[.int .u8 c] w fun e w' => e = .returned (.bool (digitB c)) ∧ w' = w := by
  have H : Hid (digitB c = (decide (48 ≤ c) && decide (c ≤ 57))) := rfl
  generalize digitB c = q at *
  by_cases h1 : 48 ≤ c
  · by_cases h2 : c ≤ 57
    · obtain rfl : q = true := by rw [H.out]; simp [h1, h2]
      go_enter Tryd.func27, Tryd.ntmps27; go_wp2; go_ret; exact ⟨rfl, rfl⟩
    · obtain rfl : q = false := by rw [H.out]; simp [h1, h2]
      go_enter Tryd.func27, Tryd.ntmps27; go_wp2; go_ret; exact ⟨rfl, rfl⟩
  · obtain rfl : q = false := by rw [H.out]; simp [h1]
    go_enter Tryd.func27, Tryd.ntmps27; go_wp2; go_ret; exact ⟨rfl, rfl⟩
theorem isSmall_c (c : Int) (w : World) : Calls Tryd.prog 53 #[.int .u8 c] w fun e w' => e = .returned (.bool (smallB c)) ∧ w' = w := by
  have H : Hid (smallB c = (decide (97 ≤ c) && decide (c ≤ 122))) := rfl
  generalize smallB c = q at *
  by_cases h1 : 97 ≤ c
  · by_cases h2 : c ≤ 122
    · obtain rfl : q = true := by rw [H.out]; simp [h1, h2]
      go_enter Tryd.func53, Tryd.ntmps53; go_wp2; go_ret; exact ⟨rfl, rfl⟩
    · obtain rfl : q = false := by rw [H.out]; simp [h1, h2]
      go_enter Tryd.func53, Tryd.ntmps53; go_wp2; go_ret; exact ⟨rfl, rfl⟩
  · obtain rfl : q = false := by rw [H.out]; simp [h1]
    go_enter Tryd.func53, Tryd.ntmps53; go_wp2; go_ret; exact ⟨rfl, rfl⟩
theorem isGreat_c (c : Int) (w : World) : Calls Tryd.prog 31 #[.int .u8 c] w fun e w' => e = .returned (.bool (greatB c)) ∧ w' = w := by
  have H : Hid (greatB c = (decide (65 ≤ c) && decide (c ≤ 90))) := rfl
  generalize greatB c = q at *
  by_cases h1 : 65 ≤ c
  · by_cases h2 : c ≤ 90
    · obtain rfl : q = true := by rw [H.out]; simp [h1, h2]
      go_enter Tryd.func31, Tryd.ntmps31; go_wp2; go_ret; exact ⟨rfl, rfl⟩
    · obtain rfl : q = false := by rw [H.out]; simp [h1, h2]
      go_enter Tryd.func31, Tryd.ntmps31; go_wp2; go_ret; exact ⟨rfl, rfl⟩
  · obtain rfl : q = false := by rw [H.out]; simp [h1]
    go_enter Tryd.func31, Tryd.ntmps31; go_wp2; go_ret; exact ⟨rfl, rfl⟩
theorem beginsName_c (c : Int) (w : World) : Calls Tryd.prog 33 #[.int .u8 c] w fun e w' => e = .returned (.bool (beginsB c)) ∧ w' = w := by
  have H : Hid (beginsB c = (smallB c || decide (c = 95))) := rfl
  have C := hid (isSmall_c c w)
  generalize beginsB c = q at *
  generalize smallB c = s at *
  cases s with
  | true =>
    obtain rfl : q = true := H.out
    go_enter Tryd.func33, Tryd.ntmps33
    go_wp2_with (go_at_call 53; refine C.out.mono ?_; rintro e w' ⟨rfl, rfl⟩)
    go_ret; exact ⟨rfl, rfl⟩
  | false =>
    by_cases h : c = 95
    · subst h; obtain rfl : q = true := H.out
      go_enter Tryd.func33, Tryd.ntmps33
      go_wp2_with (go_at_call 53; refine C.out.mono ?_; rintro e w' ⟨rfl, rfl⟩)
      go_ret; exact ⟨rfl, rfl⟩
    · obtain rfl : q = false := by rw [H.out]; simp [h]
      go_enter Tryd.func33, Tryd.ntmps33
      go_wp2_with (go_at_call 53; refine C.out.mono ?_; rintro e w' ⟨rfl, rfl⟩)
      go_ret; exact ⟨ret_bool (by simp [h]), rfl⟩
theorem isLetter_c (c : Int) (w : World) : Calls Tryd.prog 52 #[.int .u8 c] w fun e w' => e = .returned (.bool (letterB c)) ∧ w' = w := by
  have H : Hid (letterB c = (smallB c || greatB c || digitB c || decide (c = 95) || decide (c = 39))) := rfl
  have C1 := hid (isSmall_c c w)
  have C2 := hid (isGreat_c c w)
  have C3 := hid (isDigit_c c w)
  generalize letterB c = q at *
  generalize smallB c = s at *
  generalize greatB c = g at *
  generalize digitB c = d at *
  cases s
  case true =>
    obtain rfl : q = true := H.out
    go_enter Tryd.func52, Tryd.ntmps52
    go_wp2_with (go_at_call 53; refine C1.out.mono ?_; rintro e w' ⟨rfl, rfl⟩)
    go_ret; exact ⟨rfl, rfl⟩
  cases g
  case true =>
    obtain rfl : q = true := H.out
    go_enter Tryd.func52, Tryd.ntmps52
    go_wp2_with (first | (go_at_call 53; refine C1.out.mono ?_; rintro e w' ⟨rfl, rfl⟩) | (go_at_call 31; refine C2.out.mono ?_; rintro e w' ⟨rfl, rfl⟩))
    go_ret; exact ⟨rfl, rfl⟩
  cases d
  case true =>
    obtain rfl : q = true := H.out
    go_enter Tryd.func52, Tryd.ntmps52
    go_wp2_with (first | (go_at_call 53; refine C1.out.mono ?_; rintro e w' ⟨rfl, rfl⟩) | (go_at_call 31; refine C2.out.mono ?_; rintro e w' ⟨rfl, rfl⟩) | (go_at_call 27; refine C3.out.mono ?_; rintro e w' ⟨rfl, rfl⟩))
    go_ret; exact ⟨rfl, rfl⟩
  by_cases h : c = 95
  · subst h; obtain rfl : q = true := H.out
    go_enter Tryd.func52, Tryd.ntmps52
    go_wp2_with (first | (go_at_call 53; refine C1.out.mono ?_; rintro e w' ⟨rfl, rfl⟩) | (go_at_call 31; refine C2.out.mono ?_; rintro e w' ⟨rfl, rfl⟩) | (go_at_call 27; refine C3.out.mono ?_; rintro e w' ⟨rfl, rfl⟩))
    go_ret; exact ⟨rfl, rfl⟩
  by_cases h' : c = 39
  · subst h'; obtain rfl : q = true := H.out
    go_enter Tryd.func52, Tryd.ntmps52
    go_wp2_with (first | (go_at_call 53; refine C1.out.mono ?_; rintro e w' ⟨rfl, rfl⟩) | (go_at_call 31; refine C2.out.mono ?_; rintro e w' ⟨rfl, rfl⟩) | (go_at_call 27; refine C3.out.mono ?_; rintro e w' ⟨rfl, rfl⟩))
    go_ret; exact ⟨rfl, rfl⟩
  · obtain rfl : q = false := by rw [H.out]; simp [h, h']
    go_enter Tryd.func52, Tryd.ntmps52
    go_wp2_with (first | (go_at_call 53; refine C1.out.mono ?_; rintro e w' ⟨rfl, rfl⟩) | (go_at_call 31; refine C2.out.mono ?_; rintro e w' ⟨rfl, rfl⟩) | (go_at_call 27; refine C3.out.mono ?_; rintro e w' ⟨rfl, rfl⟩))
    go_ret; exact ⟨ret_bool (by simp [h, h']), rfl⟩
theorem isControl_c (r : Int) (w : World) : Calls Tryd.prog 50 #[.int .i32 r] w fun e w' => e = .returned (.bool (decide (r < 32 ∨ r = 127))) ∧ w' = w := by
  have H : Hid (decide (r < 32 ∨ r = 127) = (decide (r < 32) || decide (r = 127))) := by show _ = _; rw [Bool.decide_or]
  generalize decide (r < 32 ∨ r = 127) = q at *
  by_cases h1 : r < 32
  · obtain rfl : q = true := by rw [H.out]; simp [h1]
    go_enter Tryd.func50, Tryd.ntmps50; go_wp2; go_ret; exact ⟨rfl, rfl⟩
  by_cases h2 : r = 127
  · subst h2; obtain rfl : q = true := H.out
    go_enter Tryd.func50, Tryd.ntmps50; go_wp2; go_ret; exact ⟨rfl, rfl⟩
  · obtain rfl : q = false := by rw [H.out]; simp [h1, h2]
    go_enter Tryd.func50, Tryd.ntmps50; go_wp2; go_ret; exact ⟨ret_bool (by simp [h2]), rfl⟩
end Go.Proofs.YtojgibigmoaejaaDoor.Lex
