/-
  What the row lists is what the walks ask: the table of names, and the two of unicode/utf8.
-/
import Derived.Test.YtlfflomeaplidaaDoorNameBad
import Derived.Test.YtlfflomeaplidaaDoorInstrNamesTab
import Derived.PinnedBridge
import Derived.Lib.LaidU8
import Derived.Lay
namespace Go.Proofs.YtlfflomeaplidaaDoor
open Go.RowKit Go.Lib

theorem u8Extra : U8Extra Tryd.prog Tryd.lays260_ren := ⟨by kernel_rfl, by kernel_rfl, by kernel_rfl, by kernel_rfl, by kernel_rfl, by kernel_rfl, by kernel_rfl⟩
def laid3 : List (String × DataW Unit) := [("unicode/utf8.acceptRanges", Rows.laid_unicode_utf8_acceptRanges), ("gimlet/instr.names", Rows.laid_gimlet_instr_names), ("unicode/utf8.first", Rows.laid_unicode_utf8_first)]
theorem accept_eq : (Rows.laid_unicode_utf8_acceptRanges : DataW Unit) = acceptData := by kernel_rfl
theorem tabs_3 {W : World} (hL : laidMet Tryd.prog laid3 W) : Instr.Nams W ∧ Utf.Tabs W := by
  refine ⟨nams_of (.tail _ (.head _)) hL, utf8Tabs_of_reads (ρ := Tryd.lays260_ren) Tryd.lays260 u8Extra (Pinned.utf8First_eq ▸ Lib.laidMet.reads hL (.tail _ (.tail _ (.head _)))) ?_⟩
  have h := Lib.laidMet.reads hL (.head _)
  rw [accept_eq] at h
  exact h
end Go.Proofs.YtlfflomeaplidaaDoor
