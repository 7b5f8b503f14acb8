/-
  What is told of any instructions in a module that has things to name is what the document tells.
-/
import Derived.Test.YtdljneclfgneoaaGreatDoorVb24
import Derived.Test.YtdljneclfgneoaaGreatDoorVb01
import Derived.Test.YtdljneclfgneoaaGreatDoorVb07
import Derived.Test.YtdljneclfgneoaaGreatDoorVb02
import Derived.Test.YtdljneclfgneoaaGreatDoorCards
import Derived.Test.YtdljneclfgneoaaGreatDoorTie
namespace Go.Proofs.YtdljneclfgneoaaGreatDoor.validBodies
open Go.ChangeShapes Go.WideShapes Go.ChangeAt Go.RowKit
open Go.ChangeMaps (open_string shut_string)
set_option linter.unusedVariables false

/-- The statement. -/
theorem proved : Rows.ValidBodiesCardSaid :=
  Claim7.holds_tied_plain_at .later [] [.data, .data, .data, .pinned] true _ false over (fun _ h => by cases h) (by kernel_rfl) (fun _ h => by cases h) validBodies_row_tie rfl ⟨rfl, rfl⟩ (by kernel_rfl) rfl
    (fun f fn hf hfn => by
      obtain rfl : f = 10 := Option.some.inj ((show Tryz.prog.funcNamed "gimlet/gimletlaw11.ValidBodies" = some 10 by kernel_rfl).symm.trans hf) |>.symm
      obtain rfl : fn = Tryz.f10 := (Option.some.inj (Tryz.func10.symm.trans hfn)).symm
      exact ⟨facF, fun j t ht => by
        rw [Tryz.params10] at ht
        have hm : t ∈ [24, 26] := by simpa using Array.mem_of_getElem? ht
        have hall : ([24, 26].all fun u => !Tryz.prog.wantsStandIn u) = true := by kernel_rfl
        exact (show Tryz.prog.wantsStandIn t = false by simpa using List.all_eq_true.1 hall t hm)⟩)
    facE
#print axioms proved
end Go.Proofs.YtdljneclfgneoaaGreatDoor.validBodies
