/-
  What the row lists of unicode/utf8 is what the walks ask: the two tables.
-/
import Derived.Test.YtgmcknblfgealaaDoorNameBad
import Derived.Test.YtgmcknblfgealaaDoorRows
import Derived.Test.YtgmcknblfgealaaDoorFrame
import Derived.PinnedBridge
import Derived.Lib.LaidU8
import Derived.Lay
namespace Go.Proofs.YtgmcknblfgealaaDoor
open Go.RowKit Go.Lib

theorem u8Extra : U8Extra Tryd.prog Tryd.lays260_ren := ⟨by kernel_rfl, by kernel_rfl, by kernel_rfl, by kernel_rfl, by kernel_rfl, by kernel_rfl, by kernel_rfl⟩
def seatLaid : List (String × DataW Unit) := [("unicode/utf8.acceptRanges", Rows.laid_unicode_utf8_acceptRanges), ("unicode/utf8.first", Rows.laid_unicode_utf8_first)]
theorem accept_eq : (Rows.laid_unicode_utf8_acceptRanges : DataW Unit) = acceptData := by kernel_rfl
theorem tabs_of {W : World} (hL : laidMet Tryd.prog seatLaid W) : Utf.Tabs W := by
  refine utf8Tabs_of_reads (ρ := Tryd.lays260_ren) Tryd.lays260 u8Extra (Pinned.utf8First_eq ▸ Lib.laidMet.reads hL (.tail _ (.head _))) ?_
  have h := Lib.laidMet.reads hL (.head _)
  rw [accept_eq] at h
  exact h
end Go.Proofs.YtgmcknblfgealaaDoor
