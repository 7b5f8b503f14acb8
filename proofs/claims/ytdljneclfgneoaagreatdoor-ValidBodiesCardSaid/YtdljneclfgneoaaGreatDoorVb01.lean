import Derived.Test.YtdljneclfgneoaaGreatDoorRows
import Derived.SevenTiedAt
import Derived.KernelRfl
namespace Go.Proofs.YtdljneclfgneoaaGreatDoor.validBodies
theorem facE : false = Rows.validBodiesRow.goesBy Tryz.pinned.checked.prog := by kernel_rfl
end Go.Proofs.YtdljneclfgneoaaGreatDoor.validBodies
