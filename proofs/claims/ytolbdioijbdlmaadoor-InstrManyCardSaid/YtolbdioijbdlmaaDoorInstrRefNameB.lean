/-
  INSTR: the document's own names by contract.
-/
import Derived.Test.YtolbdioijbdlmaaDoorInstrRefOther
namespace Go.Proofs.YtolbdioijbdlmaaDoor.Instr
open Go.RowKit

set_option maxHeartbeats 4000000 in
theorem refName_b (op : Int) (w : World) (h : op = 103 ∨ op = 104 ∨ op = 105 ∨ op = 106 ∨ op = 107 ∨ op = 108 ∨ op = 109 ∨ op = 110 ∨ op = 111) : Calls Tryd.prog 12 #[.int .i64 op] w fun e w' => e = .returned (.string (strOfNums (nameL op))) ∧ Below w.heap.size w w' := by
  rcases h with rfl | rfl | rfl | rfl | rfl | rfl | rfl | rfl | rfl
  all_goals
    go_enter Tryd.func12, Tryd.ntmps12
    go_wp2
    go_ret
    exact ⟨by kernel_rfl, by first | exact thenA (thenA (Below.refl _ _) _) _ | exact thenA (Below.refl _ _) _⟩
set_option maxHeartbeats 4000000 in
theorem refName_c (op : Int) (w : World) (h : op = 112 ∨ op = 113 ∨ op = 114 ∨ op = 115 ∨ op = 116 ∨ op = 117 ∨ op = 118 ∨ op = 119 ∨ op = 120) : Calls Tryd.prog 12 #[.int .i64 op] w fun e w' => e = .returned (.string (strOfNums (nameL op))) ∧ Below w.heap.size w w' := by
  rcases h with rfl | rfl | rfl | rfl | rfl | rfl | rfl | rfl | rfl
  all_goals
    go_enter Tryd.func12, Tryd.ntmps12
    go_wp2
    go_ret
    exact ⟨by kernel_rfl, by first | exact thenA (thenA (Below.refl _ _) _) _ | exact thenA (Below.refl _ _) _⟩
end Go.Proofs.YtolbdioijbdlmaaDoor.Instr
