import Derived.Test.YtdljneclfgneoaaGreatDoorVt02
import Derived.JoinedOf
import Derived.KernelRfl
set_option linter.unusedVariables false
set_option linter.ambiguousOpen false
set_option maxRecDepth 100000
set_option maxHeartbeats 8000000
namespace Go.Proofs.YtdljneclfgneoaaGreatDoor
namespace validTells
theorem zJq:joinedFacts Tryz.pinned.checked.prog 11 Tryz.f11 Rows.validTellsSpec Rows.validTellsRow=true:=by unfold joinedFacts;rw[zJs,zJw,zJt,zJv];kernel_rfl
end validTells
end Go.Proofs.YtdljneclfgneoaaGreatDoor
