import Derived.Test.YtdljneclfgneoaaGreatDoorRows
import Derived.SevenTiedAt
import Derived.KernelRfl
set_option linter.unusedVariables false
set_option linter.ambiguousOpen false
set_option maxRecDepth 100000
set_option maxHeartbeats 8000000
namespace Go.Proofs.YtdljneclfgneoaaGreatDoor
namespace validTells
theorem facE:false=Rows.validTellsRow.goesBy Tryz.pinned.checked.prog:=by kernel_rfl
theorem facF:false=Tryz.pinned.checked.prog.looks []:=by kernel_rfl
end validTells
end Go.Proofs.YtdljneclfgneoaaGreatDoor
