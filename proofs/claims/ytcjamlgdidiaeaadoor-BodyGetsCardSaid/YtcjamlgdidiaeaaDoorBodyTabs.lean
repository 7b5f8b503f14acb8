/-
  What the row lists is what the walks ask: the table of names.
-/
import Derived.Test.YtcjamlgdidiaeaaDoorInstrNamesTab
import Derived.Test.YtcjamlgdidiaeaaDoorRows
namespace Go.Proofs.YtcjamlgdidiaeaaDoor
open Go.RowKit Go.Lib

def laid1 : List (String × DataW Unit) := [("gimlet/instr.names", Rows.laid_gimlet_instr_names)]
theorem tabs_1 {W : World} (hL : laidMet Tryd.prog laid1 W) : Instr.Nams W := nams_of (.head _) hL
end Go.Proofs.YtcjamlgdidiaeaaDoor
