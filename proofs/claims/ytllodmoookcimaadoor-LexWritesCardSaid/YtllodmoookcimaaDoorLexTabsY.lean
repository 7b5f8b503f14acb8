/-
  LEX: what the rows of writing list is what the walks ask: the powers of ten besides.
-/
import Derived.Test.YtllodmoookcimaaDoorLexTabs
import Derived.Test.YtllodmoookcimaaDoorLexWrite
import Derived.Lib.LaidTab
namespace Go.Proofs.YtllodmoookcimaaDoor
open Go.RowKit Go.Lib
set_option linter.unusedSimpArgs false

theorem pow10_eq : (Rows.laid_internal_strconv_uint64pow10 : DataW Unit) = tabData .u64 pow10Tab := by kernel_rfl
theorem pow_of {W : World} {l : List (String × DataW Unit)} (hm : ("internal/strconv.uint64pow10", Rows.laid_internal_strconv_uint64pow10) ∈ l) (hL : laidMet Tryd.prog l W) : TabIs Tryd.prog W "internal/strconv.uint64pow10" .u64 pow10Tab := by
  obtain ⟨g, t, cs, fuel, p, hg, hty, hvar, hd⟩ := Lib.laidMet.reads hL hm
  obtain rfl := Option.some.inj ((show Tryd.prog.globalNamed "internal/strconv.uint64pow10" = some 4 by kernel_rfl).symm.trans hg)
  obtain rfl := Option.some.inj ((show (Tryd.prog.globals[4]?).map (·.type) = some 104 by kernel_rfl).symm.trans hty)
  rw [pow10_eq] at hd
  have hcs := cells_of_tab Tryd.underlying104 Tryd.underlying98 (by kernel_rfl) (by kernel_rfl) hd
  unfold TabIs
  rw [hvar, ← hcs]
def laidY : List (String × DataW Unit) := [("math/bits.deBruijn32tab", Rows.laid_math_bits_deBruijn32tab), ("math/bits.deBruijn64tab", Rows.laid_math_bits_deBruijn64tab), ("internal/strconv.uint64pow10", Rows.laid_internal_strconv_uint64pow10), ("unicode/utf8.acceptRanges", Rows.laid_unicode_utf8_acceptRanges), ("gimlet/lex.signs", Rows.laid_gimlet_lex_signs), ("gimlet/lex.keys", Rows.laid_gimlet_lex_keys), ("unicode/utf8.first", Rows.laid_unicode_utf8_first)]
theorem tabs_Y {W : World} (hL : laidMet Tryd.prog laidY W) : Lex.Tabs8 W ∧ Lex.Words W ∧ Lex.Pow W :=
  ⟨tabs8_of (.tail _ (.tail _ (.tail _ (.tail _ (.tail _ (.tail _ (.head _))))))) (.tail _ (.tail _ (.tail _ (.head _)))) hL,
    words_of (.tail _ (.tail _ (.tail _ (.tail _ (.tail _ (.head _)))))) (.tail _ (.tail _ (.tail _ (.tail _ (.head _))))) hL, pow_of (.tail _ (.tail _ (.head _))) hL⟩
end Go.Proofs.YtllodmoookcimaaDoor
