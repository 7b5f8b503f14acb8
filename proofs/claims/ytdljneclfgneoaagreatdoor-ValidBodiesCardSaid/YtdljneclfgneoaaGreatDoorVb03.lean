import Derived.Test.YtdljneclfgneoaaGreatDoorRows
import Derived.Test.YtdljneclfgneoaaGreatDoorVb02
import Derived.JoinedOf
import Derived.KernelRfl
namespace Go.Proofs.YtdljneclfgneoaaGreatDoor.validBodies
theorem facH : joinedFacts Tryz.pinned.checked.prog 10 Tryz.f10 Rows.validBodiesSpec Rows.validBodiesRow = true := by unfold joinedFacts; rw [facA, facB, facC, facD]; kernel_rfl
end Go.Proofs.YtdljneclfgneoaaGreatDoor.validBodies
