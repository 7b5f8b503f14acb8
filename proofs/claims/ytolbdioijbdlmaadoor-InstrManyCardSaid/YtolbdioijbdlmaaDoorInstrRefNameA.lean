/-
  INSTR: the document's own names by contract.
-/
import Derived.Test.YtolbdioijbdlmaaDoorInstrRefOther
namespace Go.Proofs.YtolbdioijbdlmaaDoor.Instr
open Go.RowKit

set_option maxHeartbeats 4000000 in
theorem refName_a (op : Int) (w : World) (h : op = 69 ∨ op = 70 ∨ op = 71 ∨ op = 72 ∨ op = 73 ∨ op = 74 ∨ op = 75 ∨ op = 76 ∨ op = 77 ∨ op = 78 ∨ op = 79) : Calls Tryd.prog 12 #[.int .i64 op] w fun e w' => e = .returned (.string (strOfNums (nameL op))) ∧ Below w.heap.size w w' := by
  rcases h with rfl | rfl | rfl | rfl | rfl | rfl | rfl | rfl | rfl | rfl | rfl
  all_goals
    go_enter Tryd.func12, Tryd.ntmps12
    go_wp2
    go_ret
    exact ⟨by kernel_rfl, by first | exact thenA (thenA (Below.refl _ _) _) _ | exact thenA (Below.refl _ _) _⟩
end Go.Proofs.YtolbdioijbdlmaaDoor.Instr
