/-
  NARROWER THAN 'FOR EVERY INPUT', by the rows' own cells (each row's printed sentence says how): InstrNames: laid · InstrMany: laid · InstrParts: loops, laid · InstrKnown: laid.
  DERIVED. THE GIVEN ROWS OF THIS SEAT. 4 by the template 'for every input the law returns true; each argument reads behind the call as it read before'; 0 by the template 'total and deterministic' (their statements: YtolbdioijbdlmaaDoorTotals.lean).
  GIVEN WITH THE SEED: the statements are not yours to turn. If you find one false, say at which input.
  Laid BY PROGRAM, IN A SANDBOX (cutbox-rows.mjs): the forced cells as the released guide's own fill.sh prints them over the translation e1bdaec57d5866d7… (all of the seat's roots in one cut). By AI agents, Wed Nov 11 2026. No macro, syntax, notation, axiom, sorry.
-/
import Derived.Test.YtolbdioijbdlmaaDoorChecked
import GoSem.Claim
import GoSem.ClaimJoined
import GoSem.ClaimMapViews
import Derived.JoinedTies
import Derived.KernelRfl
namespace Go.Proofs.YtolbdioijbdlmaaDoor
/- THE CELL 'sum', in the pinned program and in every row, IS THE sha256 OF THE DUMP (.gsa) THAT YtolbdioijbdlmaaDoorProg.lean LOADS. Nothing in Lean hashes anything: it is a label: what it is worth is what the hold of that sum in a sandbox is worth. -/
noncomputable def Tryd.pinned : Pinned := { name := "ytolbdioijbdlmaadoor", sum := "e1bdaec57d5866d7ae1a4a688893622f10041fcf9fc853901df390ed1406eb12", checked := Tryd.checked }
namespace Rows
def none {H : Type} : Left H := { results := [], args := [] }

/- WHAT THE LISTED PACKAGE-LEVEL VARIABLES READ AS WHEN THE CALL BEGINS. Each datum BY PROGRAM (the guide's laid-datum.mjs) off the statement by which the dump's own 'gosem.cut.vars' lays the variable. In a bare row this is a premise. The card (YtolbdioijbdlmaaDoorCards.lean) ties it to the program's text. -/
def laid_math_bits_deBruijn32tab {H : Type} : DataW H := .agg [.lit (.int .u8 0), .lit (.int .u8 1), .lit (.int .u8 28), .lit (.int .u8 2), .lit (.int .u8 29), .lit (.int .u8 14), .lit (.int .u8 24), .lit (.int .u8 3), .lit (.int .u8 30), .lit (.int .u8 22), .lit (.int .u8 20), .lit (.int .u8 15), .lit (.int .u8 25), .lit (.int .u8 17), .lit (.int .u8 4), .lit (.int .u8 8), .lit (.int .u8 31), .lit (.int .u8 27), .lit (.int .u8 13), .lit (.int .u8 23), .lit (.int .u8 21), .lit (.int .u8 19), .lit (.int .u8 16), .lit (.int .u8 7), .lit (.int .u8 26), .lit (.int .u8 12), .lit (.int .u8 18), .lit (.int .u8 6), .lit (.int .u8 11), .lit (.int .u8 5), .lit (.int .u8 10), .lit (.int .u8 9)]
def laid_math_bits_deBruijn64tab {H : Type} : DataW H := .agg [.lit (.int .u8 0), .lit (.int .u8 1), .lit (.int .u8 56), .lit (.int .u8 2), .lit (.int .u8 57), .lit (.int .u8 49), .lit (.int .u8 28), .lit (.int .u8 3), .lit (.int .u8 61), .lit (.int .u8 58), .lit (.int .u8 42), .lit (.int .u8 50), .lit (.int .u8 38), .lit (.int .u8 29), .lit (.int .u8 17), .lit (.int .u8 4), .lit (.int .u8 62), .lit (.int .u8 47), .lit (.int .u8 59), .lit (.int .u8 36), .lit (.int .u8 45), .lit (.int .u8 43), .lit (.int .u8 51), .lit (.int .u8 22), .lit (.int .u8 53), .lit (.int .u8 39), .lit (.int .u8 33), .lit (.int .u8 30), .lit (.int .u8 24), .lit (.int .u8 18), .lit (.int .u8 12), .lit (.int .u8 5), .lit (.int .u8 63), .lit (.int .u8 55), .lit (.int .u8 48), .lit (.int .u8 27), .lit (.int .u8 60), .lit (.int .u8 41), .lit (.int .u8 37), .lit (.int .u8 16), .lit (.int .u8 46), .lit (.int .u8 35), .lit (.int .u8 44), .lit (.int .u8 21), .lit (.int .u8 52), .lit (.int .u8 32), .lit (.int .u8 23), .lit (.int .u8 11), .lit (.int .u8 54), .lit (.int .u8 26), .lit (.int .u8 40), .lit (.int .u8 15), .lit (.int .u8 34), .lit (.int .u8 20), .lit (.int .u8 31), .lit (.int .u8 10), .lit (.int .u8 25), .lit (.int .u8 14), .lit (.int .u8 19), .lit (.int .u8 9), .lit (.int .u8 13), .lit (.int .u8 8), .lit (.int .u8 7), .lit (.int .u8 6)]
def laid_internal_strconv_uint64pow10 {H : Type} : DataW H := .agg [.lit (.int .u64 1), .lit (.int .u64 10), .lit (.int .u64 100), .lit (.int .u64 1000), .lit (.int .u64 10000), .lit (.int .u64 100000), .lit (.int .u64 1000000), .lit (.int .u64 10000000), .lit (.int .u64 100000000), .lit (.int .u64 1000000000), .lit (.int .u64 10000000000), .lit (.int .u64 100000000000), .lit (.int .u64 1000000000000), .lit (.int .u64 10000000000000), .lit (.int .u64 100000000000000), .lit (.int .u64 1000000000000000), .lit (.int .u64 10000000000000000), .lit (.int .u64 100000000000000000), .lit (.int .u64 1000000000000000000), .lit (.int .u64 10000000000000000000)]
def laid_gimlet_num_arities {H : Type} : DataW H := .agg [.lit (.int .u8 0), .lit (.int .u8 0), .lit (.int .u8 0), .lit (.int .u8 0), .lit (.int .u8 0), .lit (.int .u8 0), .lit (.int .u8 0), .lit (.int .u8 0), .lit (.int .u8 0), .lit (.int .u8 0), .lit (.int .u8 0), .lit (.int .u8 0), .lit (.int .u8 0), .lit (.int .u8 0), .lit (.int .u8 0), .lit (.int .u8 0), .lit (.int .u8 0), .lit (.int .u8 0), .lit (.int .u8 0), .lit (.int .u8 0), .lit (.int .u8 0), .lit (.int .u8 0), .lit (.int .u8 0), .lit (.int .u8 0), .lit (.int .u8 0), .lit (.int .u8 0), .lit (.int .u8 0), .lit (.int .u8 0), .lit (.int .u8 0), .lit (.int .u8 0), .lit (.int .u8 0), .lit (.int .u8 0), .lit (.int .u8 0), .lit (.int .u8 0), .lit (.int .u8 0), .lit (.int .u8 0), .lit (.int .u8 0), .lit (.int .u8 0), .lit (.int .u8 0), .lit (.int .u8 0), .lit (.int .u8 0), .lit (.int .u8 0), .lit (.int .u8 0), .lit (.int .u8 0), .lit (.int .u8 0), .lit (.int .u8 0), .lit (.int .u8 0), .lit (.int .u8 0), .lit (.int .u8 0), .lit (.int .u8 0), .lit (.int .u8 0), .lit (.int .u8 0), .lit (.int .u8 0), .lit (.int .u8 0), .lit (.int .u8 0), .lit (.int .u8 0), .lit (.int .u8 0), .lit (.int .u8 0), .lit (.int .u8 0), .lit (.int .u8 0), .lit (.int .u8 0), .lit (.int .u8 0), .lit (.int .u8 0), .lit (.int .u8 0), .lit (.int .u8 0), .lit (.int .u8 0), .lit (.int .u8 0), .lit (.int .u8 0), .lit (.int .u8 0), .lit (.int .u8 1), .lit (.int .u8 2), .lit (.int .u8 2), .lit (.int .u8 2), .lit (.int .u8 2), .lit (.int .u8 2), .lit (.int .u8 2), .lit (.int .u8 2), .lit (.int .u8 2), .lit (.int .u8 2), .lit (.int .u8 2), .lit (.int .u8 0), .lit (.int .u8 0), .lit (.int .u8 0), .lit (.int .u8 0), .lit (.int .u8 0), .lit (.int .u8 0), .lit (.int .u8 0), .lit (.int .u8 0), .lit (.int .u8 0), .lit (.int .u8 0), .lit (.int .u8 0), .lit (.int .u8 0), .lit (.int .u8 0), .lit (.int .u8 0), .lit (.int .u8 0), .lit (.int .u8 0), .lit (.int .u8 0), .lit (.int .u8 0), .lit (.int .u8 0), .lit (.int .u8 0), .lit (.int .u8 0), .lit (.int .u8 0), .lit (.int .u8 0), .lit (.int .u8 1), .lit (.int .u8 1), .lit (.int .u8 1), .lit (.int .u8 2), .lit (.int .u8 2), .lit (.int .u8 2), .lit (.int .u8 2), .lit (.int .u8 2), .lit (.int .u8 2), .lit (.int .u8 2), .lit (.int .u8 2), .lit (.int .u8 2), .lit (.int .u8 2), .lit (.int .u8 2), .lit (.int .u8 2), .lit (.int .u8 2), .lit (.int .u8 2), .lit (.int .u8 2)]
def laid_gimlet_instr_names {H : Type} : DataW H := .agg [.lit (.string [117, 110, 114, 101, 97, 99, 104, 97, 98, 108, 101]), .lit (.string [110, 111, 112]), .lit (.string [98, 108, 111, 99, 107]), .lit (.string [108, 111, 111, 112]), .lit (.string [105, 102]), .lit (.string []), .lit (.string []), .lit (.string []), .lit (.string []), .lit (.string []), .lit (.string []), .lit (.string []), .lit (.string [98, 114]), .lit (.string [98, 114, 95, 105, 102]), .lit (.string [98, 114, 95, 116, 97, 98, 108, 101]), .lit (.string [114, 101, 116, 117, 114, 110]), .lit (.string [99, 97, 108, 108]), .lit (.string [99, 97, 108, 108, 95, 105, 110, 100, 105, 114, 101, 99, 116]), .lit (.string []), .lit (.string []), .lit (.string []), .lit (.string []), .lit (.string []), .lit (.string []), .lit (.string []), .lit (.string []), .lit (.string [100, 114, 111, 112]), .lit (.string [115, 101, 108, 101, 99, 116]), .lit (.string []), .lit (.string []), .lit (.string []), .lit (.string []), .lit (.string [108, 111, 99, 97, 108, 46, 103, 101, 116]), .lit (.string [108, 111, 99, 97, 108, 46, 115, 101, 116]), .lit (.string [108, 111, 99, 97, 108, 46, 116, 101, 101]), .lit (.string [103, 108, 111, 98, 97, 108, 46, 103, 101, 116]), .lit (.string [103, 108, 111, 98, 97, 108, 46, 115, 101, 116]), .lit (.string []), .lit (.string []), .lit (.string []), .lit (.string [105, 51, 50, 46, 108, 111, 97, 100]), .lit (.string []), .lit (.string []), .lit (.string []), .lit (.string [105, 51, 50, 46, 108, 111, 97, 100, 56, 95, 115]), .lit (.string [105, 51, 50, 46, 108, 111, 97, 100, 56, 95, 117]), .lit (.string [105, 51, 50, 46, 108, 111, 97, 100, 49, 54, 95, 115]), .lit (.string [105, 51, 50, 46, 108, 111, 97, 100, 49, 54, 95, 117]), .lit (.string []), .lit (.string []), .lit (.string []), .lit (.string []), .lit (.string []), .lit (.string []), .lit (.string [105, 51, 50, 46, 115, 116, 111, 114, 101]), .lit (.string []), .lit (.string []), .lit (.string []), .lit (.string [105, 51, 50, 46, 115, 116, 111, 114, 101, 56]), .lit (.string [105, 51, 50, 46, 115, 116, 111, 114, 101, 49, 54]), .lit (.string []), .lit (.string []), .lit (.string []), .lit (.string [109, 101, 109, 111, 114, 121, 46, 115, 105, 122, 101]), .lit (.string [109, 101, 109, 111, 114, 121, 46, 103, 114, 111, 119]), .lit (.string [105, 51, 50, 46, 99, 111, 110, 115, 116]), .lit (.string []), .lit (.string []), .lit (.string []), .lit (.string [105, 51, 50, 46, 101, 113, 122]), .lit (.string [105, 51, 50, 46, 101, 113]), .lit (.string [105, 51, 50, 46, 110, 101]), .lit (.string [105, 51, 50, 46, 108, 116, 95, 115]), .lit (.string [105, 51, 50, 46, 108, 116, 95, 117]), .lit (.string [105, 51, 50, 46, 103, 116, 95, 115]), .lit (.string [105, 51, 50, 46, 103, 116, 95, 117]), .lit (.string [105, 51, 50, 46, 108, 101, 95, 115]), .lit (.string [105, 51, 50, 46, 108, 101, 95, 117]), .lit (.string [105, 51, 50, 46, 103, 101, 95, 115]), .lit (.string [105, 51, 50, 46, 103, 101, 95, 117]), .lit (.string []), .lit (.string []), .lit (.string []), .lit (.string []), .lit (.string []), .lit (.string []), .lit (.string []), .lit (.string []), .lit (.string []), .lit (.string []), .lit (.string []), .lit (.string []), .lit (.string []), .lit (.string []), .lit (.string []), .lit (.string []), .lit (.string []), .lit (.string []), .lit (.string []), .lit (.string []), .lit (.string []), .lit (.string []), .lit (.string []), .lit (.string [105, 51, 50, 46, 99, 108, 122]), .lit (.string [105, 51, 50, 46, 99, 116, 122]), .lit (.string [105, 51, 50, 46, 112, 111, 112, 99, 110, 116]), .lit (.string [105, 51, 50, 46, 97, 100, 100]), .lit (.string [105, 51, 50, 46, 115, 117, 98]), .lit (.string [105, 51, 50, 46, 109, 117, 108]), .lit (.string [105, 51, 50, 46, 100, 105, 118, 95, 115]), .lit (.string [105, 51, 50, 46, 100, 105, 118, 95, 117]), .lit (.string [105, 51, 50, 46, 114, 101, 109, 95, 115]), .lit (.string [105, 51, 50, 46, 114, 101, 109, 95, 117]), .lit (.string [105, 51, 50, 46, 97, 110, 100]), .lit (.string [105, 51, 50, 46, 111, 114]), .lit (.string [105, 51, 50, 46, 120, 111, 114]), .lit (.string [105, 51, 50, 46, 115, 104, 108]), .lit (.string [105, 51, 50, 46, 115, 104, 114, 95, 115]), .lit (.string [105, 51, 50, 46, 115, 104, 114, 95, 117]), .lit (.string [105, 51, 50, 46, 114, 111, 116, 108]), .lit (.string [105, 51, 50, 46, 114, 111, 116, 114])]

/-- 'gimletlaw05.InstrNames': WHATEVER THE INPUT: true; the input reads as it did. -/
def instrNamesSpec : ChangeSpec := { name := "instrNames", fn := fun _ => fun
  | [d] => { results := [.lit (.bool true)], args := [d] }
  | _ => none }
def instrNamesRow : OpenClaim := { program := "ytolbdioijbdlmaadoor", sum := "e1bdaec57d5866d7ae1a4a688893622f10041fcf9fc853901df390ed1406eb12", func := "gimlet/gimletlaw05.InstrNames", spec := "instrNames", unfollowed := true, recurses := true, named := ["gimlet/num.arities", "gimlet/instr.names", "internal/strconv.uint64pow10", "math/bits.deBruijn32tab", "math/bits.deBruijn64tab"], apart := false, laid := [("math/bits.deBruijn32tab", laid_math_bits_deBruijn32tab), ("math/bits.deBruijn64tab", laid_math_bits_deBruijn64tab), ("internal/strconv.uint64pow10", laid_internal_strconv_uint64pow10), ("gimlet/num.arities", laid_gimlet_num_arities), ("gimlet/instr.names", laid_gimlet_instr_names)] }
def InstrNamesSaid : Prop := instrNamesRow.holds Tryd.pinned (OpenSpec.ofChange instrNamesSpec)

/-- ITS FALSE NEIGHBOUR: 'it returns false'. Refute it at one input. -/
def instrNamesWrong : ChangeSpec := { name := "instrNames", fn := fun _ => fun
  | [d] => { results := [.lit (.bool false)], args := [d] }
  | _ => none }
def InstrNamesWrongFalsely : Prop := instrNamesRow.holds Tryd.pinned (OpenSpec.ofChange instrNamesWrong)

/-- 'gimletlaw05.InstrMany': WHATEVER THE INPUT: true; the input reads as it did. -/
def instrManySpec : ChangeSpec := { name := "instrMany", fn := fun _ => fun
  | [d1, d2, d3] => { results := [.lit (.bool true)], args := [d1, d2, d3] }
  | _ => none }
def instrManyRow : OpenClaim := { program := "ytolbdioijbdlmaadoor", sum := "e1bdaec57d5866d7ae1a4a688893622f10041fcf9fc853901df390ed1406eb12", func := "gimlet/gimletlaw05.InstrMany", spec := "instrMany", unfollowed := true, recurses := true, named := ["gimlet/instr.names", "gimlet/num.arities", "internal/strconv.uint64pow10", "math/bits.deBruijn32tab", "math/bits.deBruijn64tab"], apart := false, laid := [("math/bits.deBruijn32tab", laid_math_bits_deBruijn32tab), ("math/bits.deBruijn64tab", laid_math_bits_deBruijn64tab), ("internal/strconv.uint64pow10", laid_internal_strconv_uint64pow10), ("gimlet/num.arities", laid_gimlet_num_arities), ("gimlet/instr.names", laid_gimlet_instr_names)] }
def InstrManySaid : Prop := instrManyRow.holds Tryd.pinned (OpenSpec.ofChange instrManySpec)

/-- ITS FALSE NEIGHBOUR: 'it returns false'. Refute it at one input. -/
def instrManyWrong : ChangeSpec := { name := "instrMany", fn := fun _ => fun
  | [d1, d2, d3] => { results := [.lit (.bool false)], args := [d1, d2, d3] }
  | _ => none }
def InstrManyWrongFalsely : Prop := instrManyRow.holds Tryd.pinned (OpenSpec.ofChange instrManyWrong)

/-- 'gimletlaw05.InstrParts': WHATEVER THE INPUT: true; the input reads as it did. -/
def instrPartsSpec : ChangeSpec := { name := "instrParts", fn := fun _ => fun
  | [d] => { results := [.lit (.bool true)], args := [d] }
  | _ => none }
def instrPartsRow : OpenClaim := { program := "ytolbdioijbdlmaadoor", sum := "e1bdaec57d5866d7ae1a4a688893622f10041fcf9fc853901df390ed1406eb12", func := "gimlet/gimletlaw05.InstrParts", spec := "instrParts", unfollowed := true, recurses := true, named := ["gimlet/num.arities", "gimlet/instr.names", "internal/strconv.uint64pow10", "math/bits.deBruijn32tab", "math/bits.deBruijn64tab"], loops := true, apart := false, laid := [("math/bits.deBruijn32tab", laid_math_bits_deBruijn32tab), ("math/bits.deBruijn64tab", laid_math_bits_deBruijn64tab), ("internal/strconv.uint64pow10", laid_internal_strconv_uint64pow10), ("gimlet/num.arities", laid_gimlet_num_arities), ("gimlet/instr.names", laid_gimlet_instr_names)] }
def InstrPartsSaid : Prop := instrPartsRow.holds Tryd.pinned (OpenSpec.ofChange instrPartsSpec)

/-- ITS FALSE NEIGHBOUR: 'it returns false'. Refute it at one input. -/
def instrPartsWrong : ChangeSpec := { name := "instrParts", fn := fun _ => fun
  | [d] => { results := [.lit (.bool false)], args := [d] }
  | _ => none }
def InstrPartsWrongFalsely : Prop := instrPartsRow.holds Tryd.pinned (OpenSpec.ofChange instrPartsWrong)

/-- 'gimletlaw05.InstrKnown': WHATEVER THE INPUT: true; the input reads as it did. -/
def instrKnownSpec : ChangeSpec := { name := "instrKnown", fn := fun _ => fun
  | [] => { results := [.lit (.bool true)], args := [] }
  | _ => none }
def instrKnownRow : OpenClaim := { program := "ytolbdioijbdlmaadoor", sum := "e1bdaec57d5866d7ae1a4a688893622f10041fcf9fc853901df390ed1406eb12", func := "gimlet/gimletlaw05.InstrKnown", spec := "instrKnown", unfollowed := true, recurses := true, named := ["gimlet/num.arities", "gimlet/instr.names", "internal/strconv.uint64pow10", "math/bits.deBruijn32tab", "math/bits.deBruijn64tab"], apart := false, laid := [("math/bits.deBruijn32tab", laid_math_bits_deBruijn32tab), ("math/bits.deBruijn64tab", laid_math_bits_deBruijn64tab), ("internal/strconv.uint64pow10", laid_internal_strconv_uint64pow10), ("gimlet/num.arities", laid_gimlet_num_arities), ("gimlet/instr.names", laid_gimlet_instr_names)] }
def InstrKnownSaid : Prop := instrKnownRow.holds Tryd.pinned (OpenSpec.ofChange instrKnownSpec)

/-- ITS FALSE NEIGHBOUR: 'it returns false'. Refute it at one input. -/
def instrKnownWrong : ChangeSpec := { name := "instrKnown", fn := fun _ => fun
  | [] => { results := [.lit (.bool false)], args := [] }
  | _ => none }
def InstrKnownWrongFalsely : Prop := instrKnownRow.holds Tryd.pinned (OpenSpec.ofChange instrKnownWrong)

/- THE SECOND FORM. 'bulk': how many values and letters a reading holds, each counted each time it is reached (what is shared counts as often as it is met; a slice's spare places count too). A statement '..UptoSaid' is the law's where the arguments, and the package variables that the reading takes, are together of bulk at most 1048576: NARROWER than '..Said'. Prove '..Said' where nothing that the law and all that it calls make is longer than what came in: it says more and counts as full. Else prove '..UptoSaid'. A law counts once. -/
mutual
def uptoBulk {H : Type} : DataW H → Nat
  | .lit (.string bytes) => bytes.length + 1
  | .lit _ => 1
  | .nil => 1
  | .ptr d => uptoBulk d + 1
  | .slice elems spare => uptoBulkAll elems + uptoBulkAll spare + 1
  | .agg parts => uptoBulkAll parts + 1
  | .iface _ d => uptoBulk d + 1
  | .map entries => uptoBulkEntries entries + 1
  | .held _ => 1
def uptoBulkAll {H : Type} : List (DataW H) → Nat
  | [] => 0
  | d :: r => uptoBulk d + uptoBulkAll r
def uptoBulkEntries {H : Type} : List (Lit × DataW H) → Nat
  | [] => 0
  | x :: r => uptoBulkEntry x + uptoBulkEntries r
def uptoBulkEntry {H : Type} : Lit × DataW H → Nat
  | (.string bytes, d) => bytes.length + uptoBulk d + 1
  | (_, d) => uptoBulk d + 1
 end
def uptoSmall : (H : Type) → List (DataW H) → Bool := fun _ ds => decide (uptoBulkAll ds ≤ 1048576)
def OpenSpec.upto (s : _root_.Go.ChangeSpec) : _root_.Go.OpenSpec := { _root_.Go.OpenSpec.ofChange s with cond := some uptoSmall }

/-- 'gimletlaw05.InstrNames', WHERE WHAT IT READS IS OF BULK AT MOST 1048576: true; the input reads as it did. -/
def instrNamesUptoRow : OpenClaim := { program := "ytolbdioijbdlmaadoor", sum := "e1bdaec57d5866d7ae1a4a688893622f10041fcf9fc853901df390ed1406eb12", func := "gimlet/gimletlaw05.InstrNames", spec := "instrNames", unfollowed := true, recurses := true, named := ["gimlet/num.arities", "gimlet/instr.names", "internal/strconv.uint64pow10", "math/bits.deBruijn32tab", "math/bits.deBruijn64tab"], apart := false, laid := [("math/bits.deBruijn32tab", laid_math_bits_deBruijn32tab), ("math/bits.deBruijn64tab", laid_math_bits_deBruijn64tab), ("internal/strconv.uint64pow10", laid_internal_strconv_uint64pow10), ("gimlet/num.arities", laid_gimlet_num_arities), ("gimlet/instr.names", laid_gimlet_instr_names)], narrowed := true }
def InstrNamesUptoSaid : Prop := instrNamesUptoRow.holds Tryd.pinned (OpenSpec.upto instrNamesSpec)

/-- 'gimletlaw05.InstrMany', WHERE WHAT IT READS IS OF BULK AT MOST 1048576: true; the input reads as it did. -/
def instrManyUptoRow : OpenClaim := { program := "ytolbdioijbdlmaadoor", sum := "e1bdaec57d5866d7ae1a4a688893622f10041fcf9fc853901df390ed1406eb12", func := "gimlet/gimletlaw05.InstrMany", spec := "instrMany", unfollowed := true, recurses := true, named := ["gimlet/instr.names", "gimlet/num.arities", "internal/strconv.uint64pow10", "math/bits.deBruijn32tab", "math/bits.deBruijn64tab"], apart := false, laid := [("math/bits.deBruijn32tab", laid_math_bits_deBruijn32tab), ("math/bits.deBruijn64tab", laid_math_bits_deBruijn64tab), ("internal/strconv.uint64pow10", laid_internal_strconv_uint64pow10), ("gimlet/num.arities", laid_gimlet_num_arities), ("gimlet/instr.names", laid_gimlet_instr_names)], narrowed := true }
def InstrManyUptoSaid : Prop := instrManyUptoRow.holds Tryd.pinned (OpenSpec.upto instrManySpec)

/-- 'gimletlaw05.InstrParts', WHERE WHAT IT READS IS OF BULK AT MOST 1048576: true; the input reads as it did. -/
def instrPartsUptoRow : OpenClaim := { program := "ytolbdioijbdlmaadoor", sum := "e1bdaec57d5866d7ae1a4a688893622f10041fcf9fc853901df390ed1406eb12", func := "gimlet/gimletlaw05.InstrParts", spec := "instrParts", unfollowed := true, recurses := true, named := ["gimlet/num.arities", "gimlet/instr.names", "internal/strconv.uint64pow10", "math/bits.deBruijn32tab", "math/bits.deBruijn64tab"], loops := true, apart := false, laid := [("math/bits.deBruijn32tab", laid_math_bits_deBruijn32tab), ("math/bits.deBruijn64tab", laid_math_bits_deBruijn64tab), ("internal/strconv.uint64pow10", laid_internal_strconv_uint64pow10), ("gimlet/num.arities", laid_gimlet_num_arities), ("gimlet/instr.names", laid_gimlet_instr_names)], narrowed := true }
def InstrPartsUptoSaid : Prop := instrPartsUptoRow.holds Tryd.pinned (OpenSpec.upto instrPartsSpec)

/-- 'gimletlaw05.InstrKnown', WHERE WHAT IT READS IS OF BULK AT MOST 1048576: true; the input reads as it did. -/
def instrKnownUptoRow : OpenClaim := { program := "ytolbdioijbdlmaadoor", sum := "e1bdaec57d5866d7ae1a4a688893622f10041fcf9fc853901df390ed1406eb12", func := "gimlet/gimletlaw05.InstrKnown", spec := "instrKnown", unfollowed := true, recurses := true, named := ["gimlet/num.arities", "gimlet/instr.names", "internal/strconv.uint64pow10", "math/bits.deBruijn32tab", "math/bits.deBruijn64tab"], apart := false, laid := [("math/bits.deBruijn32tab", laid_math_bits_deBruijn32tab), ("math/bits.deBruijn64tab", laid_math_bits_deBruijn64tab), ("internal/strconv.uint64pow10", laid_internal_strconv_uint64pow10), ("gimlet/num.arities", laid_gimlet_num_arities), ("gimlet/instr.names", laid_gimlet_instr_names)], narrowed := true }
def InstrKnownUptoSaid : Prop := instrKnownUptoRow.holds Tryd.pinned (OpenSpec.upto instrKnownSpec)

end Rows
end Go.Proofs.YtolbdioijbdlmaaDoor
