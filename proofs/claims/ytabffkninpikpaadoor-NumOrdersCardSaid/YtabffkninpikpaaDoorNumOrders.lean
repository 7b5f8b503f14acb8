/-
  NUM: the walk of the statement NumOrders: of two numbers just one of below, the same and above is so.
-/
import Derived.Test.YtabffkninpikpaaDoorNumAwake
namespace Go.Proofs.YtabffkninpikpaaDoor
open Go.RowKit Num

theorem twoK_cmp {op a b : Int} (ho : 70 ≤ op ∧ op ≤ 79) : twoK op a b = truth (cmp op a b) := by
  have ha : arity op = 2 := by unfold arity; rw [if_neg (by omega), if_pos (by omega)]
  have hr : refuse op a b = 0 := refuse_out (by omega)
  have hc : comb op a b = truth (cmp op a b) := by
    unfold comb
    repeat rw [if_neg (by omega)]
  unfold twoK twoE twoV
  rw [if_pos ha, if_pos hr, if_pos ⟨ha, hr⟩, hc]
theorem cmp_u {a b : Int} (h : a < b) : cmp 73 a b = true ∧ cmp 70 a b = false ∧ cmp 75 a b = false ∧ cmp 77 a b = true ∧ cmp 79 a b = false ∧ cmp 71 a b = true := by
  simp [cmp]; omega
theorem cmp_v {a b : Int} (h : b < a) : cmp 73 a b = false ∧ cmp 70 a b = false ∧ cmp 75 a b = true ∧ cmp 77 a b = false ∧ cmp 79 a b = true ∧ cmp 71 a b = true := by
  simp [cmp]; omega
theorem cmp_e (a : Int) : cmp 73 a a = false ∧ cmp 70 a a = true ∧ cmp 75 a a = false ∧ cmp 77 a a = true ∧ cmp 79 a a = true ∧ cmp 71 a a = false := by
  simp [cmp]
theorem cmp_s {a b : Int} (h : sg a < sg b) : cmp 72 a b = true ∧ cmp 74 a b = false ∧ cmp 76 a b = true ∧ cmp 78 a b = false := by
  simp [cmp]; omega
theorem cmp_t {a b : Int} (h : sg b < sg a) : cmp 72 a b = false ∧ cmp 74 a b = true ∧ cmp 76 a b = false ∧ cmp 78 a b = true := by
  simp [cmp]; omega
theorem cmp_f (a : Int) : cmp 72 a a = false ∧ cmp 74 a a = false ∧ cmp 76 a a = true ∧ cmp 78 a a = true := by
  simp [cmp]
theorem sg_inj {a b : Int} (h0 : 0 ≤ a) (h1 : a ≤ 4294967295) (k0 : 0 ≤ b) (k1 : b ≤ 4294967295) (h : sg a = sg b) : a = b := by
  unfold sg at h; split at h <;> split at h <;> omega

set_option maxHeartbeats 1600000 in
theorem core_us (w : World) (a b sa sb : Int) (h : sa < sb)
    (W : Hid (Calls Tryd.prog 14 #[] w fun e w' => e = .returned (.bool true) ∧ w = w'))
    (SA : Hid (Calls Tryd.prog 19 #[.int .u32 a] w fun e w' => e = .returned (.int .i64 sa) ∧ w = w'))
    (SB : Hid (Calls Tryd.prog 19 #[.int .u32 b] w fun e w' => e = .returned (.int .i64 sb) ∧ w = w'))
    (c73 : Hid (Calls Tryd.prog 21 #[.int .i64 73, .int .u32 a, .int .u32 b] w fun e w' => e = .returned (.int .u32 1) ∧ w = w'))
    (c70 : Hid (Calls Tryd.prog 21 #[.int .i64 70, .int .u32 a, .int .u32 b] w fun e w' => e = .returned (.int .u32 0) ∧ w = w'))
    (c75 : Hid (Calls Tryd.prog 21 #[.int .i64 75, .int .u32 a, .int .u32 b] w fun e w' => e = .returned (.int .u32 0) ∧ w = w'))
    (c72 : Hid (Calls Tryd.prog 21 #[.int .i64 72, .int .u32 a, .int .u32 b] w fun e w' => e = .returned (.int .u32 1) ∧ w = w'))
    (c74 : Hid (Calls Tryd.prog 21 #[.int .i64 74, .int .u32 a, .int .u32 b] w fun e w' => e = .returned (.int .u32 0) ∧ w = w'))
    (c77 : Hid (Calls Tryd.prog 21 #[.int .i64 77, .int .u32 a, .int .u32 b] w fun e w' => e = .returned (.int .u32 1) ∧ w = w'))
    (c79 : Hid (Calls Tryd.prog 21 #[.int .i64 79, .int .u32 a, .int .u32 b] w fun e w' => e = .returned (.int .u32 0) ∧ w = w'))
    (c76 : Hid (Calls Tryd.prog 21 #[.int .i64 76, .int .u32 a, .int .u32 b] w fun e w' => e = .returned (.int .u32 1) ∧ w = w'))
    (c78 : Hid (Calls Tryd.prog 21 #[.int .i64 78, .int .u32 a, .int .u32 b] w fun e w' => e = .returned (.int .u32 0) ∧ w = w'))
    (c71 : Hid (Calls Tryd.prog 21 #[.int .i64 71, .int .u32 a, .int .u32 b] w fun e w' => e = .returned (.int .u32 1) ∧ w = w')) :
    Calls Tryd.prog 8 #[.int .u32 a, .int .u32 b] w fun e w' => e = .returned (.bool true) ∧ Below w.heap.size w w' := by
  go_enter Tryd.func8, Tryd.ntmps8
  go_wp2_with fail
  refine W.out.mono ?_
  rintro e w' ⟨rfl, rfl⟩
  go_wp2_with fail
  refine c73.out.mono ?_
  rintro e w' ⟨rfl, rfl⟩
  go_wp2_with fail
  refine c70.out.mono ?_
  rintro e w' ⟨rfl, rfl⟩
  go_wp2_with fail
  refine c75.out.mono ?_
  rintro e w' ⟨rfl, rfl⟩
  go_wp2_with fail
  refine c72.out.mono ?_
  rintro e w' ⟨rfl, rfl⟩
  go_wp2_with fail
  refine c70.out.mono ?_
  rintro e w' ⟨rfl, rfl⟩
  go_wp2_with fail
  refine c74.out.mono ?_
  rintro e w' ⟨rfl, rfl⟩
  go_wp2_with fail
  refine c77.out.mono ?_
  rintro e w' ⟨rfl, rfl⟩
  go_wp2_with fail
  refine c75.out.mono ?_
  rintro e w' ⟨rfl, rfl⟩
  go_wp2_with fail
  refine c79.out.mono ?_
  rintro e w' ⟨rfl, rfl⟩
  go_wp2_with fail
  refine c73.out.mono ?_
  rintro e w' ⟨rfl, rfl⟩
  go_wp2_with fail
  refine c76.out.mono ?_
  rintro e w' ⟨rfl, rfl⟩
  go_wp2_with fail
  refine c74.out.mono ?_
  rintro e w' ⟨rfl, rfl⟩
  go_wp2_with fail
  refine c78.out.mono ?_
  rintro e w' ⟨rfl, rfl⟩
  go_wp2_with fail
  refine c72.out.mono ?_
  rintro e w' ⟨rfl, rfl⟩
  go_wp2_with fail
  refine c71.out.mono ?_
  rintro e w' ⟨rfl, rfl⟩
  go_wp2_with fail
  refine c70.out.mono ?_
  rintro e w' ⟨rfl, rfl⟩
  go_wp2_with fail
  refine c72.out.mono ?_
  rintro e w' ⟨rfl, rfl⟩
  go_wp2_with fail
  refine SA.out.mono ?_
  rintro e w' ⟨rfl, rfl⟩
  go_wp2_with fail
  refine SB.out.mono ?_
  rintro e w' ⟨rfl, rfl⟩
  go_wp2
  go_ret
  exact ⟨rfl, Below.refl _ _⟩
set_option maxHeartbeats 1600000 in
theorem core_ut (w : World) (a b sa sb : Int) (h : sb < sa)
    (W : Hid (Calls Tryd.prog 14 #[] w fun e w' => e = .returned (.bool true) ∧ w = w'))
    (SA : Hid (Calls Tryd.prog 19 #[.int .u32 a] w fun e w' => e = .returned (.int .i64 sa) ∧ w = w'))
    (SB : Hid (Calls Tryd.prog 19 #[.int .u32 b] w fun e w' => e = .returned (.int .i64 sb) ∧ w = w'))
    (c73 : Hid (Calls Tryd.prog 21 #[.int .i64 73, .int .u32 a, .int .u32 b] w fun e w' => e = .returned (.int .u32 1) ∧ w = w'))
    (c70 : Hid (Calls Tryd.prog 21 #[.int .i64 70, .int .u32 a, .int .u32 b] w fun e w' => e = .returned (.int .u32 0) ∧ w = w'))
    (c75 : Hid (Calls Tryd.prog 21 #[.int .i64 75, .int .u32 a, .int .u32 b] w fun e w' => e = .returned (.int .u32 0) ∧ w = w'))
    (c72 : Hid (Calls Tryd.prog 21 #[.int .i64 72, .int .u32 a, .int .u32 b] w fun e w' => e = .returned (.int .u32 0) ∧ w = w'))
    (c74 : Hid (Calls Tryd.prog 21 #[.int .i64 74, .int .u32 a, .int .u32 b] w fun e w' => e = .returned (.int .u32 1) ∧ w = w'))
    (c77 : Hid (Calls Tryd.prog 21 #[.int .i64 77, .int .u32 a, .int .u32 b] w fun e w' => e = .returned (.int .u32 1) ∧ w = w'))
    (c79 : Hid (Calls Tryd.prog 21 #[.int .i64 79, .int .u32 a, .int .u32 b] w fun e w' => e = .returned (.int .u32 0) ∧ w = w'))
    (c76 : Hid (Calls Tryd.prog 21 #[.int .i64 76, .int .u32 a, .int .u32 b] w fun e w' => e = .returned (.int .u32 0) ∧ w = w'))
    (c78 : Hid (Calls Tryd.prog 21 #[.int .i64 78, .int .u32 a, .int .u32 b] w fun e w' => e = .returned (.int .u32 1) ∧ w = w'))
    (c71 : Hid (Calls Tryd.prog 21 #[.int .i64 71, .int .u32 a, .int .u32 b] w fun e w' => e = .returned (.int .u32 1) ∧ w = w')) :
    Calls Tryd.prog 8 #[.int .u32 a, .int .u32 b] w fun e w' => e = .returned (.bool true) ∧ Below w.heap.size w w' := by
  go_enter Tryd.func8, Tryd.ntmps8
  go_wp2_with fail
  refine W.out.mono ?_
  rintro e w' ⟨rfl, rfl⟩
  go_wp2_with fail
  refine c73.out.mono ?_
  rintro e w' ⟨rfl, rfl⟩
  go_wp2_with fail
  refine c70.out.mono ?_
  rintro e w' ⟨rfl, rfl⟩
  go_wp2_with fail
  refine c75.out.mono ?_
  rintro e w' ⟨rfl, rfl⟩
  go_wp2_with fail
  refine c72.out.mono ?_
  rintro e w' ⟨rfl, rfl⟩
  go_wp2_with fail
  refine c70.out.mono ?_
  rintro e w' ⟨rfl, rfl⟩
  go_wp2_with fail
  refine c74.out.mono ?_
  rintro e w' ⟨rfl, rfl⟩
  go_wp2_with fail
  refine c77.out.mono ?_
  rintro e w' ⟨rfl, rfl⟩
  go_wp2_with fail
  refine c75.out.mono ?_
  rintro e w' ⟨rfl, rfl⟩
  go_wp2_with fail
  refine c79.out.mono ?_
  rintro e w' ⟨rfl, rfl⟩
  go_wp2_with fail
  refine c73.out.mono ?_
  rintro e w' ⟨rfl, rfl⟩
  go_wp2_with fail
  refine c76.out.mono ?_
  rintro e w' ⟨rfl, rfl⟩
  go_wp2_with fail
  refine c74.out.mono ?_
  rintro e w' ⟨rfl, rfl⟩
  go_wp2_with fail
  refine c78.out.mono ?_
  rintro e w' ⟨rfl, rfl⟩
  go_wp2_with fail
  refine c72.out.mono ?_
  rintro e w' ⟨rfl, rfl⟩
  go_wp2_with fail
  refine c71.out.mono ?_
  rintro e w' ⟨rfl, rfl⟩
  go_wp2_with fail
  refine c70.out.mono ?_
  rintro e w' ⟨rfl, rfl⟩
  go_wp2_with fail
  refine c72.out.mono ?_
  rintro e w' ⟨rfl, rfl⟩
  go_wp2_with fail
  refine SA.out.mono ?_
  rintro e w' ⟨rfl, rfl⟩
  go_wp2_with fail
  refine SB.out.mono ?_
  rintro e w' ⟨rfl, rfl⟩
  go_wp2
  go_ret
  exact ⟨ret_bool (by simp; omega), Below.refl _ _⟩
set_option maxHeartbeats 1600000 in
theorem core_vs (w : World) (a b sa sb : Int) (h : sa < sb)
    (W : Hid (Calls Tryd.prog 14 #[] w fun e w' => e = .returned (.bool true) ∧ w = w'))
    (SA : Hid (Calls Tryd.prog 19 #[.int .u32 a] w fun e w' => e = .returned (.int .i64 sa) ∧ w = w'))
    (SB : Hid (Calls Tryd.prog 19 #[.int .u32 b] w fun e w' => e = .returned (.int .i64 sb) ∧ w = w'))
    (c73 : Hid (Calls Tryd.prog 21 #[.int .i64 73, .int .u32 a, .int .u32 b] w fun e w' => e = .returned (.int .u32 0) ∧ w = w'))
    (c70 : Hid (Calls Tryd.prog 21 #[.int .i64 70, .int .u32 a, .int .u32 b] w fun e w' => e = .returned (.int .u32 0) ∧ w = w'))
    (c75 : Hid (Calls Tryd.prog 21 #[.int .i64 75, .int .u32 a, .int .u32 b] w fun e w' => e = .returned (.int .u32 1) ∧ w = w'))
    (c72 : Hid (Calls Tryd.prog 21 #[.int .i64 72, .int .u32 a, .int .u32 b] w fun e w' => e = .returned (.int .u32 1) ∧ w = w'))
    (c74 : Hid (Calls Tryd.prog 21 #[.int .i64 74, .int .u32 a, .int .u32 b] w fun e w' => e = .returned (.int .u32 0) ∧ w = w'))
    (c77 : Hid (Calls Tryd.prog 21 #[.int .i64 77, .int .u32 a, .int .u32 b] w fun e w' => e = .returned (.int .u32 0) ∧ w = w'))
    (c79 : Hid (Calls Tryd.prog 21 #[.int .i64 79, .int .u32 a, .int .u32 b] w fun e w' => e = .returned (.int .u32 1) ∧ w = w'))
    (c76 : Hid (Calls Tryd.prog 21 #[.int .i64 76, .int .u32 a, .int .u32 b] w fun e w' => e = .returned (.int .u32 1) ∧ w = w'))
    (c78 : Hid (Calls Tryd.prog 21 #[.int .i64 78, .int .u32 a, .int .u32 b] w fun e w' => e = .returned (.int .u32 0) ∧ w = w'))
    (c71 : Hid (Calls Tryd.prog 21 #[.int .i64 71, .int .u32 a, .int .u32 b] w fun e w' => e = .returned (.int .u32 1) ∧ w = w')) :
    Calls Tryd.prog 8 #[.int .u32 a, .int .u32 b] w fun e w' => e = .returned (.bool true) ∧ Below w.heap.size w w' := by
  go_enter Tryd.func8, Tryd.ntmps8
  go_wp2_with fail
  refine W.out.mono ?_
  rintro e w' ⟨rfl, rfl⟩
  go_wp2_with fail
  refine c73.out.mono ?_
  rintro e w' ⟨rfl, rfl⟩
  go_wp2_with fail
  refine c70.out.mono ?_
  rintro e w' ⟨rfl, rfl⟩
  go_wp2_with fail
  refine c75.out.mono ?_
  rintro e w' ⟨rfl, rfl⟩
  go_wp2_with fail
  refine c72.out.mono ?_
  rintro e w' ⟨rfl, rfl⟩
  go_wp2_with fail
  refine c70.out.mono ?_
  rintro e w' ⟨rfl, rfl⟩
  go_wp2_with fail
  refine c74.out.mono ?_
  rintro e w' ⟨rfl, rfl⟩
  go_wp2_with fail
  refine c77.out.mono ?_
  rintro e w' ⟨rfl, rfl⟩
  go_wp2_with fail
  refine c75.out.mono ?_
  rintro e w' ⟨rfl, rfl⟩
  go_wp2_with fail
  refine c79.out.mono ?_
  rintro e w' ⟨rfl, rfl⟩
  go_wp2_with fail
  refine c73.out.mono ?_
  rintro e w' ⟨rfl, rfl⟩
  go_wp2_with fail
  refine c76.out.mono ?_
  rintro e w' ⟨rfl, rfl⟩
  go_wp2_with fail
  refine c74.out.mono ?_
  rintro e w' ⟨rfl, rfl⟩
  go_wp2_with fail
  refine c78.out.mono ?_
  rintro e w' ⟨rfl, rfl⟩
  go_wp2_with fail
  refine c72.out.mono ?_
  rintro e w' ⟨rfl, rfl⟩
  go_wp2_with fail
  refine c71.out.mono ?_
  rintro e w' ⟨rfl, rfl⟩
  go_wp2_with fail
  refine c70.out.mono ?_
  rintro e w' ⟨rfl, rfl⟩
  go_wp2_with fail
  refine c72.out.mono ?_
  rintro e w' ⟨rfl, rfl⟩
  go_wp2_with fail
  refine SA.out.mono ?_
  rintro e w' ⟨rfl, rfl⟩
  go_wp2_with fail
  refine SB.out.mono ?_
  rintro e w' ⟨rfl, rfl⟩
  go_wp2
  go_ret
  exact ⟨rfl, Below.refl _ _⟩
set_option maxHeartbeats 1600000 in
theorem core_vt (w : World) (a b sa sb : Int) (h : sb < sa)
    (W : Hid (Calls Tryd.prog 14 #[] w fun e w' => e = .returned (.bool true) ∧ w = w'))
    (SA : Hid (Calls Tryd.prog 19 #[.int .u32 a] w fun e w' => e = .returned (.int .i64 sa) ∧ w = w'))
    (SB : Hid (Calls Tryd.prog 19 #[.int .u32 b] w fun e w' => e = .returned (.int .i64 sb) ∧ w = w'))
    (c73 : Hid (Calls Tryd.prog 21 #[.int .i64 73, .int .u32 a, .int .u32 b] w fun e w' => e = .returned (.int .u32 0) ∧ w = w'))
    (c70 : Hid (Calls Tryd.prog 21 #[.int .i64 70, .int .u32 a, .int .u32 b] w fun e w' => e = .returned (.int .u32 0) ∧ w = w'))
    (c75 : Hid (Calls Tryd.prog 21 #[.int .i64 75, .int .u32 a, .int .u32 b] w fun e w' => e = .returned (.int .u32 1) ∧ w = w'))
    (c72 : Hid (Calls Tryd.prog 21 #[.int .i64 72, .int .u32 a, .int .u32 b] w fun e w' => e = .returned (.int .u32 0) ∧ w = w'))
    (c74 : Hid (Calls Tryd.prog 21 #[.int .i64 74, .int .u32 a, .int .u32 b] w fun e w' => e = .returned (.int .u32 1) ∧ w = w'))
    (c77 : Hid (Calls Tryd.prog 21 #[.int .i64 77, .int .u32 a, .int .u32 b] w fun e w' => e = .returned (.int .u32 0) ∧ w = w'))
    (c79 : Hid (Calls Tryd.prog 21 #[.int .i64 79, .int .u32 a, .int .u32 b] w fun e w' => e = .returned (.int .u32 1) ∧ w = w'))
    (c76 : Hid (Calls Tryd.prog 21 #[.int .i64 76, .int .u32 a, .int .u32 b] w fun e w' => e = .returned (.int .u32 0) ∧ w = w'))
    (c78 : Hid (Calls Tryd.prog 21 #[.int .i64 78, .int .u32 a, .int .u32 b] w fun e w' => e = .returned (.int .u32 1) ∧ w = w'))
    (c71 : Hid (Calls Tryd.prog 21 #[.int .i64 71, .int .u32 a, .int .u32 b] w fun e w' => e = .returned (.int .u32 1) ∧ w = w')) :
    Calls Tryd.prog 8 #[.int .u32 a, .int .u32 b] w fun e w' => e = .returned (.bool true) ∧ Below w.heap.size w w' := by
  go_enter Tryd.func8, Tryd.ntmps8
  go_wp2_with fail
  refine W.out.mono ?_
  rintro e w' ⟨rfl, rfl⟩
  go_wp2_with fail
  refine c73.out.mono ?_
  rintro e w' ⟨rfl, rfl⟩
  go_wp2_with fail
  refine c70.out.mono ?_
  rintro e w' ⟨rfl, rfl⟩
  go_wp2_with fail
  refine c75.out.mono ?_
  rintro e w' ⟨rfl, rfl⟩
  go_wp2_with fail
  refine c72.out.mono ?_
  rintro e w' ⟨rfl, rfl⟩
  go_wp2_with fail
  refine c70.out.mono ?_
  rintro e w' ⟨rfl, rfl⟩
  go_wp2_with fail
  refine c74.out.mono ?_
  rintro e w' ⟨rfl, rfl⟩
  go_wp2_with fail
  refine c77.out.mono ?_
  rintro e w' ⟨rfl, rfl⟩
  go_wp2_with fail
  refine c75.out.mono ?_
  rintro e w' ⟨rfl, rfl⟩
  go_wp2_with fail
  refine c79.out.mono ?_
  rintro e w' ⟨rfl, rfl⟩
  go_wp2_with fail
  refine c73.out.mono ?_
  rintro e w' ⟨rfl, rfl⟩
  go_wp2_with fail
  refine c76.out.mono ?_
  rintro e w' ⟨rfl, rfl⟩
  go_wp2_with fail
  refine c74.out.mono ?_
  rintro e w' ⟨rfl, rfl⟩
  go_wp2_with fail
  refine c78.out.mono ?_
  rintro e w' ⟨rfl, rfl⟩
  go_wp2_with fail
  refine c72.out.mono ?_
  rintro e w' ⟨rfl, rfl⟩
  go_wp2_with fail
  refine c71.out.mono ?_
  rintro e w' ⟨rfl, rfl⟩
  go_wp2_with fail
  refine c70.out.mono ?_
  rintro e w' ⟨rfl, rfl⟩
  go_wp2_with fail
  refine c72.out.mono ?_
  rintro e w' ⟨rfl, rfl⟩
  go_wp2_with fail
  refine SA.out.mono ?_
  rintro e w' ⟨rfl, rfl⟩
  go_wp2_with fail
  refine SB.out.mono ?_
  rintro e w' ⟨rfl, rfl⟩
  go_wp2
  go_ret
  exact ⟨ret_bool (by simp; omega), Below.refl _ _⟩
set_option maxHeartbeats 1600000 in
theorem core_ef (w : World) (a b sa sb : Int) (h : sb ≤ sa)
    (W : Hid (Calls Tryd.prog 14 #[] w fun e w' => e = .returned (.bool true) ∧ w = w'))
    (SA : Hid (Calls Tryd.prog 19 #[.int .u32 a] w fun e w' => e = .returned (.int .i64 sa) ∧ w = w'))
    (SB : Hid (Calls Tryd.prog 19 #[.int .u32 b] w fun e w' => e = .returned (.int .i64 sb) ∧ w = w'))
    (c73 : Hid (Calls Tryd.prog 21 #[.int .i64 73, .int .u32 a, .int .u32 b] w fun e w' => e = .returned (.int .u32 0) ∧ w = w'))
    (c70 : Hid (Calls Tryd.prog 21 #[.int .i64 70, .int .u32 a, .int .u32 b] w fun e w' => e = .returned (.int .u32 1) ∧ w = w'))
    (c75 : Hid (Calls Tryd.prog 21 #[.int .i64 75, .int .u32 a, .int .u32 b] w fun e w' => e = .returned (.int .u32 0) ∧ w = w'))
    (c72 : Hid (Calls Tryd.prog 21 #[.int .i64 72, .int .u32 a, .int .u32 b] w fun e w' => e = .returned (.int .u32 0) ∧ w = w'))
    (c74 : Hid (Calls Tryd.prog 21 #[.int .i64 74, .int .u32 a, .int .u32 b] w fun e w' => e = .returned (.int .u32 0) ∧ w = w'))
    (c77 : Hid (Calls Tryd.prog 21 #[.int .i64 77, .int .u32 a, .int .u32 b] w fun e w' => e = .returned (.int .u32 1) ∧ w = w'))
    (c79 : Hid (Calls Tryd.prog 21 #[.int .i64 79, .int .u32 a, .int .u32 b] w fun e w' => e = .returned (.int .u32 1) ∧ w = w'))
    (c76 : Hid (Calls Tryd.prog 21 #[.int .i64 76, .int .u32 a, .int .u32 b] w fun e w' => e = .returned (.int .u32 1) ∧ w = w'))
    (c78 : Hid (Calls Tryd.prog 21 #[.int .i64 78, .int .u32 a, .int .u32 b] w fun e w' => e = .returned (.int .u32 1) ∧ w = w'))
    (c71 : Hid (Calls Tryd.prog 21 #[.int .i64 71, .int .u32 a, .int .u32 b] w fun e w' => e = .returned (.int .u32 0) ∧ w = w')) :
    Calls Tryd.prog 8 #[.int .u32 a, .int .u32 b] w fun e w' => e = .returned (.bool true) ∧ Below w.heap.size w w' := by
  go_enter Tryd.func8, Tryd.ntmps8
  go_wp2_with fail
  refine W.out.mono ?_
  rintro e w' ⟨rfl, rfl⟩
  go_wp2_with fail
  refine c73.out.mono ?_
  rintro e w' ⟨rfl, rfl⟩
  go_wp2_with fail
  refine c70.out.mono ?_
  rintro e w' ⟨rfl, rfl⟩
  go_wp2_with fail
  refine c75.out.mono ?_
  rintro e w' ⟨rfl, rfl⟩
  go_wp2_with fail
  refine c72.out.mono ?_
  rintro e w' ⟨rfl, rfl⟩
  go_wp2_with fail
  refine c70.out.mono ?_
  rintro e w' ⟨rfl, rfl⟩
  go_wp2_with fail
  refine c74.out.mono ?_
  rintro e w' ⟨rfl, rfl⟩
  go_wp2_with fail
  refine c77.out.mono ?_
  rintro e w' ⟨rfl, rfl⟩
  go_wp2_with fail
  refine c75.out.mono ?_
  rintro e w' ⟨rfl, rfl⟩
  go_wp2_with fail
  refine c79.out.mono ?_
  rintro e w' ⟨rfl, rfl⟩
  go_wp2_with fail
  refine c73.out.mono ?_
  rintro e w' ⟨rfl, rfl⟩
  go_wp2_with fail
  refine c76.out.mono ?_
  rintro e w' ⟨rfl, rfl⟩
  go_wp2_with fail
  refine c74.out.mono ?_
  rintro e w' ⟨rfl, rfl⟩
  go_wp2_with fail
  refine c78.out.mono ?_
  rintro e w' ⟨rfl, rfl⟩
  go_wp2_with fail
  refine c72.out.mono ?_
  rintro e w' ⟨rfl, rfl⟩
  go_wp2_with fail
  refine c71.out.mono ?_
  rintro e w' ⟨rfl, rfl⟩
  go_wp2_with fail
  refine c70.out.mono ?_
  rintro e w' ⟨rfl, rfl⟩
  go_wp2_with fail
  refine c72.out.mono ?_
  rintro e w' ⟨rfl, rfl⟩
  go_wp2_with fail
  refine SA.out.mono ?_
  rintro e w' ⟨rfl, rfl⟩
  go_wp2_with fail
  refine SB.out.mono ?_
  rintro e w' ⟨rfl, rfl⟩
  go_wp2
  go_ret
  exact ⟨ret_bool (by simp; omega), Below.refl _ _⟩
theorem numOrders_walk (w : World) (a : Int) (ha : 0 ≤ a ∧ a ≤ 4294967295) (b : Int) (hb : 0 ≤ b ∧ b ≤ 4294967295) (hT : Arit w) :
    Calls Tryd.prog 8 #[.int .u32 a, .int .u32 b] w fun e w' => e = .returned (.bool true) ∧ Below w.heap.size w w' := by
  obtain ⟨h0, h1⟩ := ha
  obtain ⟨k0, k1⟩ := hb
  have W := hid (awake_any w hT)
  have SA := hid (Signed_any a w (by omega) (by omega))
  have SB := hid (Signed_any b w (by omega) (by omega))
  have C : ∀ (op v : Int) (x : Bool), 70 ≤ op → op ≤ 79 → cmp op a b = x → truth x = v → Hid (Calls Tryd.prog 21 #[.int .i64 op, .int .u32 a, .int .u32 b] w fun e w' => e = .returned (.int .u32 v) ∧ w = w') := by
    intro op v x ho ho' hx hv
    have h := two_any op a b w (by omega) (by omega) (by omega) (by omega) hT
    rw [twoK_cmp ⟨ho, ho'⟩, hx, hv] at h
    exact hid h
  rcases Int.lt_trichotomy a b with h | h | h
  · obtain ⟨x73, x70, x75, x77, x79, x71⟩ := cmp_u h
    rcases Int.lt_trichotomy (sg a) (sg b) with g | g | g
    · obtain ⟨x72, x74, x76, x78⟩ := cmp_s g
      exact core_us w a b _ _ (by omega) W SA SB (C 73 _ _ (by decide) (by decide) x73 rfl) (C 70 _ _ (by decide) (by decide) x70 rfl) (C 75 _ _ (by decide) (by decide) x75 rfl) (C 72 _ _ (by decide) (by decide) x72 rfl) (C 74 _ _ (by decide) (by decide) x74 rfl) (C 77 _ _ (by decide) (by decide) x77 rfl) (C 79 _ _ (by decide) (by decide) x79 rfl) (C 76 _ _ (by decide) (by decide) x76 rfl) (C 78 _ _ (by decide) (by decide) x78 rfl) (C 71 _ _ (by decide) (by decide) x71 rfl)
    · exact absurd (sg_inj h0 h1 k0 k1 g) (by omega)
    · obtain ⟨x72, x74, x76, x78⟩ := cmp_t g
      exact core_ut w a b _ _ (by omega) W SA SB (C 73 _ _ (by decide) (by decide) x73 rfl) (C 70 _ _ (by decide) (by decide) x70 rfl) (C 75 _ _ (by decide) (by decide) x75 rfl) (C 72 _ _ (by decide) (by decide) x72 rfl) (C 74 _ _ (by decide) (by decide) x74 rfl) (C 77 _ _ (by decide) (by decide) x77 rfl) (C 79 _ _ (by decide) (by decide) x79 rfl) (C 76 _ _ (by decide) (by decide) x76 rfl) (C 78 _ _ (by decide) (by decide) x78 rfl) (C 71 _ _ (by decide) (by decide) x71 rfl)
  · subst h
    obtain ⟨x73, x70, x75, x77, x79, x71⟩ := cmp_e a
    obtain ⟨x72, x74, x76, x78⟩ := cmp_f a
    exact core_ef w a a _ _ (by omega) W SA SB (C 73 _ _ (by decide) (by decide) x73 rfl) (C 70 _ _ (by decide) (by decide) x70 rfl) (C 75 _ _ (by decide) (by decide) x75 rfl) (C 72 _ _ (by decide) (by decide) x72 rfl) (C 74 _ _ (by decide) (by decide) x74 rfl) (C 77 _ _ (by decide) (by decide) x77 rfl) (C 79 _ _ (by decide) (by decide) x79 rfl) (C 76 _ _ (by decide) (by decide) x76 rfl) (C 78 _ _ (by decide) (by decide) x78 rfl) (C 71 _ _ (by decide) (by decide) x71 rfl)
  · obtain ⟨x73, x70, x75, x77, x79, x71⟩ := cmp_v h
    rcases Int.lt_trichotomy (sg a) (sg b) with g | g | g
    · obtain ⟨x72, x74, x76, x78⟩ := cmp_s g
      exact core_vs w a b _ _ (by omega) W SA SB (C 73 _ _ (by decide) (by decide) x73 rfl) (C 70 _ _ (by decide) (by decide) x70 rfl) (C 75 _ _ (by decide) (by decide) x75 rfl) (C 72 _ _ (by decide) (by decide) x72 rfl) (C 74 _ _ (by decide) (by decide) x74 rfl) (C 77 _ _ (by decide) (by decide) x77 rfl) (C 79 _ _ (by decide) (by decide) x79 rfl) (C 76 _ _ (by decide) (by decide) x76 rfl) (C 78 _ _ (by decide) (by decide) x78 rfl) (C 71 _ _ (by decide) (by decide) x71 rfl)
    · exact absurd (sg_inj h0 h1 k0 k1 g) (by omega)
    · obtain ⟨x72, x74, x76, x78⟩ := cmp_t g
      exact core_vt w a b _ _ (by omega) W SA SB (C 73 _ _ (by decide) (by decide) x73 rfl) (C 70 _ _ (by decide) (by decide) x70 rfl) (C 75 _ _ (by decide) (by decide) x75 rfl) (C 72 _ _ (by decide) (by decide) x72 rfl) (C 74 _ _ (by decide) (by decide) x74 rfl) (C 77 _ _ (by decide) (by decide) x77 rfl) (C 79 _ _ (by decide) (by decide) x79 rfl) (C 76 _ _ (by decide) (by decide) x76 rfl) (C 78 _ _ (by decide) (by decide) x78 rfl) (C 71 _ _ (by decide) (by decide) x71 rfl)
end Go.Proofs.YtabffkninpikpaaDoor
