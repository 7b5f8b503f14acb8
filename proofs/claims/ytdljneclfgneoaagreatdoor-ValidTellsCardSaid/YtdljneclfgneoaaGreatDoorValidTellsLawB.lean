/-
  What is wrong with any module, and where, is told as the document says.
-/
import Derived.Test.YtdljneclfgneoaaGreatDoorVt30
import Derived.Test.YtdljneclfgneoaaGreatDoorVt01
namespace Go.Proofs.YtdljneclfgneoaaGreatDoor.validTells
open Go.ChangeShapes Go.WideShapes Go.ChangeAt Go.RowKit
open Go.ChangeMaps (open_string shut_string)
set_option linter.unusedVariables false

/-- The statement. -/
theorem proved : Rows.ValidTellsCardSaid :=
  Claim7.holds_tied_plain_at .later [] [.data, .data, .data, .pinned] true _ false over (fun _ h => by cases h) (by kernel_rfl) (fun _ h => by cases h) validTells_row_tie rfl ⟨rfl, rfl⟩ (by kernel_rfl) rfl
    (fun f fn hf hfn => by
      obtain rfl : f = 11 := Option.some.inj ((show Tryz.prog.funcNamed "gimlet/gimletlaw11.ValidTells" = some 11 by kernel_rfl).symm.trans hf) |>.symm
      obtain rfl : fn = Tryz.f11 := (Option.some.inj (Tryz.func11.symm.trans hfn)).symm
      exact ⟨facF, fun j t ht => by
        rw [Tryz.params11] at ht
        have hm : t ∈ [40, 3] := by simpa using Array.mem_of_getElem? ht
        have hall : ([40, 3].all fun u => !Tryz.prog.wantsStandIn u) = true := by kernel_rfl
        exact (show Tryz.prog.wantsStandIn t = false by simpa using List.all_eq_true.1 hall t hm)⟩)
    facE
#print axioms proved
end Go.Proofs.YtdljneclfgneoaaGreatDoor.validTells
