/-
  What the rows of layer 12 list is what the walks ask: the table of arities.
-/
import Derived.Test.YtcgjlbpokmlkbaaDoorNumArity
import Derived.Test.YtcgjlbpokmlkbaaDoorRows
import Derived.ProofKit
import Derived.OpenShut
import Derived.ShutString
import Derived.ChangeOld
import Derived.Below
import Derived.SizedLaws
import Derived.Lib.LaidU8
import Derived.Lay
namespace Go.Proofs.YtcgjlbpokmlkbaaDoor
open Go.RowKit Go.Lib

theorem ownK : ownKnob Tryd.prog.godebug = none := by kernel_rfl
theorem laidOutK : laidOutB Tryd.prog = true := by kernel_rfl
def laidA : List (String × DataW Unit) := [("gimlet/num.arities", Rows.laid_gimlet_num_arities)]
theorem arities_eq : (Rows.laid_gimlet_num_arities : DataW Unit) = tabData .u8 Num.arTab := by kernel_rfl
theorem arit_of {W : World} {l : List (String × DataW Unit)} (hm : ("gimlet/num.arities", Rows.laid_gimlet_num_arities) ∈ l) (hL : laidMet Tryd.prog l W) : Num.Arit W := by
  obtain ⟨g, t, cs, fuel, p, hg, hty, hvar, hd⟩ := Lib.laidMet.reads hL hm
  obtain rfl := Option.some.inj ((show Tryd.prog.globalNamed "gimlet/num.arities" = some 0 by kernel_rfl).symm.trans hg)
  obtain rfl := Option.some.inj ((show (Tryd.prog.globals[0]?).map (·.type) = some 103 by kernel_rfl).symm.trans hty)
  rw [arities_eq] at hd
  have hcs := cells_of_tab Tryd.underlying103 Tryd.underlying5 (by kernel_rfl) (by kernel_rfl) hd
  have hlen : Num.arTab.length = 121 := by decide +kernel
  intro j hj
  rw [World.var?_cell hg hvar j, ← Array.getElem?_toList, hcs]
  simp [List.getD, hlen, hj]
theorem tabs_A {W : World} (hL : laidMet Tryd.prog laidA W) : Num.Arit W := arit_of (.head _) hL
end Go.Proofs.YtcgjlbpokmlkbaaDoor
