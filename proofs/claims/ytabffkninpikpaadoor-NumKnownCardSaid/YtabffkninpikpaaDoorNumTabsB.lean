/-
  What the rows with two tables list is what the walks ask: the table of math/bits, and the table of arities.
-/
import Derived.Test.YtabffkninpikpaaDoorNumTabs
import Derived.Test.YtabffkninpikpaaDoorNumCount
namespace Go.Proofs.YtabffkninpikpaaDoor
open Go.RowKit Go.Lib

theorem deB_eq : (Rows.laid_math_bits_deBruijn32tab : DataW Unit) = tabData .u8 (deBruijn32tab.map fun n : Nat => (n : Int)) := by kernel_rfl
theorem deB_of {W : World} {l : List (String × DataW Unit)} (hm : ("math/bits.deBruijn32tab", Rows.laid_math_bits_deBruijn32tab) ∈ l) (hL : laidMet Tryd.prog l W) : Num.DeB W := by
  obtain ⟨g, t, cs, fuel, p, hg, hty, hvar, hd⟩ := Lib.laidMet.reads hL hm
  obtain rfl := Option.some.inj ((show Tryd.prog.globalNamed "math/bits.deBruijn32tab" = some 1 by kernel_rfl).symm.trans hg)
  obtain rfl := Option.some.inj ((show (Tryd.prog.globals[1]?).map (·.type) = some 49 by kernel_rfl).symm.trans hty)
  rw [deB_eq] at hd
  have hcs := cells_of_tab Tryd.underlying49 Tryd.underlying5 (by kernel_rfl) (by kernel_rfl) hd
  have hlen : deBruijn32tab.length = 32 := by decide +kernel
  intro j hj
  rw [World.var?_cell hg hvar j, ← Array.getElem?_toList, hcs]
  simp [List.getD, hlen, hj]
theorem tabs_AB {W : World} (hL : laidMet Tryd.prog laidAB W) : Num.DeB W ∧ Num.Arit W := ⟨deB_of (.head _) hL, arit_of (.tail _ (.head _)) hL⟩
end Go.Proofs.YtabffkninpikpaaDoor
