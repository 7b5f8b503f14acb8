/-
  LEX: the document's writer: may, Dec: by contract.
-/
import Derived.Test.YtojgibigmoaejaaDoorLexRefB
import Derived.Deep.RegionHeld3
namespace Go.Proofs.YtojgibigmoaejaaDoor.Lex
open Go.RowKit Go.Proofs.YtojgibigmoaejaaDoor.Utf
set_option linter.unusedSimpArgs false
set_option linter.unusedVariables false

theorem str_append (xs ys : List Int) : strOfNums xs ++ strOfNums ys = strOfNums (xs ++ ys) := by
  apply ByteArray.ext
  apply Array.toList_inj.1
  rw [ByteArray.data_append, Array.toList_append, strOfNums_data, strOfNums_data, strOfNums_data, List.map_append]
theorem small_wrap (n : Nat) (h : n ≤ 4294967296) : IntKind.i64.wrap (n : Int) = (n : Int) := by
  rw [IntKind.wrap_i64]; omega
theorem StrsAt.below {w w' : World} {b : Nat} {ks : List (List Int)} (h : StrsAt w b ks) (hb : Below w.heap.size w w') : StrsAt w' b ks := fun j hj => keep hb (h j hj)
theorem keepS {w W w1 : World} {s t : Value} {k : Nat} (h : Below w.heap.size w W ∧ W.cell? ⟨k, 1, none⟩ = some t ∧ W.cell? ⟨k, 3, none⟩ = some s) (hb : Below W.heap.size W w1) : Below w.heap.size w w1 ∧ w1.cell? ⟨k, 1, none⟩ = some t ∧ w1.cell? ⟨k, 3, none⟩ = some s :=
  ⟨h.1.trans (hb.mono h.1.size), keep hb h.2.1, keep hb h.2.2⟩
end Go.Proofs.YtojgibigmoaejaaDoor.Lex
