/-
  NARROWER THAN 'FOR EVERY INPUT', by the rows' own cells (each row's printed sentence says how): ExecBodies: loops, laid · ExecNone: laid · ExecSteps: loops, laid · ExecReckons: laid · ExecDeep: laid · ExecKnown: laid · PlaceScript: loops, laid · ValidBodies: loops, laid · ValidTells: loops, laid.
  DERIVED. THE GIVEN ROWS OF THIS SEAT. 9 by the template 'for every input the law returns true; each argument reads behind the call as it read before'; 0 by the template 'total and deterministic' (their statements: YtdljneclfgneoaaGreatDoorTotals.lean).
  GIVEN WITH THE SEED: the statements are not yours to turn. If you find one false, say at which input.
  Laid BY PROGRAM, IN A SANDBOX (cutbox-rows.mjs): the forced cells as the released guide's own fill.sh prints them over the translation 54a66b26acf16a89… (all of the seat's roots in one cut). By AI agents, Wed Nov 11 2026. No macro, syntax, notation, axiom, sorry.
-/
import Derived.Test.YtdljneclfgneoaaGreatDoorChecked
import GoSem.PinnedTables
import GoSem.Claim
import GoSem.ClaimJoined
import GoSem.ClaimMapViews
import Derived.JoinedTies
import Derived.KernelRfl
namespace Go.Proofs.YtdljneclfgneoaaGreatDoor
/- THE CELL 'sum', in the pinned program and in every row, IS THE sha256 OF THE DUMP (.gsa) THAT YtdljneclfgneoaaGreatDoorProg.lean LOADS. Nothing in Lean hashes anything: it is a label: what it is worth is what the hold of that sum in a sandbox is worth. -/
noncomputable def Tryz.pinned : Pinned := { name := "ytdljneclfgneoaagreatdoor", sum := "54a66b26acf16a8915b534f037c0a46d67e445962806c58a6fefcb4231735c9f", checked := Tryz.checked }
namespace Rows
def none {H : Type} : Left H := { results := [], args := [] }

/- WHAT THE LISTED PACKAGE-LEVEL VARIABLES READ AS WHEN THE CALL BEGINS. Each datum BY PROGRAM (the guide's laid-datum.mjs) off the statement by which the dump's own 'gosem.cut.vars' lays the variable. In a bare row this is a premise. The card (YtdljneclfgneoaaGreatDoorCards.lean) ties it to the program's text. -/
def laid_math_bits_deBruijn32tab {H : Type} : DataW H := .agg [.lit (.int .u8 0), .lit (.int .u8 1), .lit (.int .u8 28), .lit (.int .u8 2), .lit (.int .u8 29), .lit (.int .u8 14), .lit (.int .u8 24), .lit (.int .u8 3), .lit (.int .u8 30), .lit (.int .u8 22), .lit (.int .u8 20), .lit (.int .u8 15), .lit (.int .u8 25), .lit (.int .u8 17), .lit (.int .u8 4), .lit (.int .u8 8), .lit (.int .u8 31), .lit (.int .u8 27), .lit (.int .u8 13), .lit (.int .u8 23), .lit (.int .u8 21), .lit (.int .u8 19), .lit (.int .u8 16), .lit (.int .u8 7), .lit (.int .u8 26), .lit (.int .u8 12), .lit (.int .u8 18), .lit (.int .u8 6), .lit (.int .u8 11), .lit (.int .u8 5), .lit (.int .u8 10), .lit (.int .u8 9)]
def laid_unicode_utf8_acceptRanges {H : Type} : DataW H := .agg [.agg [.lit (.int .u8 128), .lit (.int .u8 191)], .agg [.lit (.int .u8 160), .lit (.int .u8 191)], .agg [.lit (.int .u8 128), .lit (.int .u8 159)], .agg [.lit (.int .u8 144), .lit (.int .u8 191)], .agg [.lit (.int .u8 128), .lit (.int .u8 143)], .agg [.lit (.int .u8 0), .lit (.int .u8 0)], .agg [.lit (.int .u8 0), .lit (.int .u8 0)], .agg [.lit (.int .u8 0), .lit (.int .u8 0)], .agg [.lit (.int .u8 0), .lit (.int .u8 0)], .agg [.lit (.int .u8 0), .lit (.int .u8 0)], .agg [.lit (.int .u8 0), .lit (.int .u8 0)], .agg [.lit (.int .u8 0), .lit (.int .u8 0)], .agg [.lit (.int .u8 0), .lit (.int .u8 0)], .agg [.lit (.int .u8 0), .lit (.int .u8 0)], .agg [.lit (.int .u8 0), .lit (.int .u8 0)], .agg [.lit (.int .u8 0), .lit (.int .u8 0)]]
def laid_gimlet_num_arities {H : Type} : DataW H := .agg [.lit (.int .u8 0), .lit (.int .u8 0), .lit (.int .u8 0), .lit (.int .u8 0), .lit (.int .u8 0), .lit (.int .u8 0), .lit (.int .u8 0), .lit (.int .u8 0), .lit (.int .u8 0), .lit (.int .u8 0), .lit (.int .u8 0), .lit (.int .u8 0), .lit (.int .u8 0), .lit (.int .u8 0), .lit (.int .u8 0), .lit (.int .u8 0), .lit (.int .u8 0), .lit (.int .u8 0), .lit (.int .u8 0), .lit (.int .u8 0), .lit (.int .u8 0), .lit (.int .u8 0), .lit (.int .u8 0), .lit (.int .u8 0), .lit (.int .u8 0), .lit (.int .u8 0), .lit (.int .u8 0), .lit (.int .u8 0), .lit (.int .u8 0), .lit (.int .u8 0), .lit (.int .u8 0), .lit (.int .u8 0), .lit (.int .u8 0), .lit (.int .u8 0), .lit (.int .u8 0), .lit (.int .u8 0), .lit (.int .u8 0), .lit (.int .u8 0), .lit (.int .u8 0), .lit (.int .u8 0), .lit (.int .u8 0), .lit (.int .u8 0), .lit (.int .u8 0), .lit (.int .u8 0), .lit (.int .u8 0), .lit (.int .u8 0), .lit (.int .u8 0), .lit (.int .u8 0), .lit (.int .u8 0), .lit (.int .u8 0), .lit (.int .u8 0), .lit (.int .u8 0), .lit (.int .u8 0), .lit (.int .u8 0), .lit (.int .u8 0), .lit (.int .u8 0), .lit (.int .u8 0), .lit (.int .u8 0), .lit (.int .u8 0), .lit (.int .u8 0), .lit (.int .u8 0), .lit (.int .u8 0), .lit (.int .u8 0), .lit (.int .u8 0), .lit (.int .u8 0), .lit (.int .u8 0), .lit (.int .u8 0), .lit (.int .u8 0), .lit (.int .u8 0), .lit (.int .u8 1), .lit (.int .u8 2), .lit (.int .u8 2), .lit (.int .u8 2), .lit (.int .u8 2), .lit (.int .u8 2), .lit (.int .u8 2), .lit (.int .u8 2), .lit (.int .u8 2), .lit (.int .u8 2), .lit (.int .u8 2), .lit (.int .u8 0), .lit (.int .u8 0), .lit (.int .u8 0), .lit (.int .u8 0), .lit (.int .u8 0), .lit (.int .u8 0), .lit (.int .u8 0), .lit (.int .u8 0), .lit (.int .u8 0), .lit (.int .u8 0), .lit (.int .u8 0), .lit (.int .u8 0), .lit (.int .u8 0), .lit (.int .u8 0), .lit (.int .u8 0), .lit (.int .u8 0), .lit (.int .u8 0), .lit (.int .u8 0), .lit (.int .u8 0), .lit (.int .u8 0), .lit (.int .u8 0), .lit (.int .u8 0), .lit (.int .u8 0), .lit (.int .u8 1), .lit (.int .u8 1), .lit (.int .u8 1), .lit (.int .u8 2), .lit (.int .u8 2), .lit (.int .u8 2), .lit (.int .u8 2), .lit (.int .u8 2), .lit (.int .u8 2), .lit (.int .u8 2), .lit (.int .u8 2), .lit (.int .u8 2), .lit (.int .u8 2), .lit (.int .u8 2), .lit (.int .u8 2), .lit (.int .u8 2), .lit (.int .u8 2), .lit (.int .u8 2)]
def laid_gimlet_instr_names {H : Type} : DataW H := .agg [.lit (.string [117, 110, 114, 101, 97, 99, 104, 97, 98, 108, 101]), .lit (.string [110, 111, 112]), .lit (.string [98, 108, 111, 99, 107]), .lit (.string [108, 111, 111, 112]), .lit (.string [105, 102]), .lit (.string []), .lit (.string []), .lit (.string []), .lit (.string []), .lit (.string []), .lit (.string []), .lit (.string []), .lit (.string [98, 114]), .lit (.string [98, 114, 95, 105, 102]), .lit (.string [98, 114, 95, 116, 97, 98, 108, 101]), .lit (.string [114, 101, 116, 117, 114, 110]), .lit (.string [99, 97, 108, 108]), .lit (.string [99, 97, 108, 108, 95, 105, 110, 100, 105, 114, 101, 99, 116]), .lit (.string []), .lit (.string []), .lit (.string []), .lit (.string []), .lit (.string []), .lit (.string []), .lit (.string []), .lit (.string []), .lit (.string [100, 114, 111, 112]), .lit (.string [115, 101, 108, 101, 99, 116]), .lit (.string []), .lit (.string []), .lit (.string []), .lit (.string []), .lit (.string [108, 111, 99, 97, 108, 46, 103, 101, 116]), .lit (.string [108, 111, 99, 97, 108, 46, 115, 101, 116]), .lit (.string [108, 111, 99, 97, 108, 46, 116, 101, 101]), .lit (.string [103, 108, 111, 98, 97, 108, 46, 103, 101, 116]), .lit (.string [103, 108, 111, 98, 97, 108, 46, 115, 101, 116]), .lit (.string []), .lit (.string []), .lit (.string []), .lit (.string [105, 51, 50, 46, 108, 111, 97, 100]), .lit (.string []), .lit (.string []), .lit (.string []), .lit (.string [105, 51, 50, 46, 108, 111, 97, 100, 56, 95, 115]), .lit (.string [105, 51, 50, 46, 108, 111, 97, 100, 56, 95, 117]), .lit (.string [105, 51, 50, 46, 108, 111, 97, 100, 49, 54, 95, 115]), .lit (.string [105, 51, 50, 46, 108, 111, 97, 100, 49, 54, 95, 117]), .lit (.string []), .lit (.string []), .lit (.string []), .lit (.string []), .lit (.string []), .lit (.string []), .lit (.string [105, 51, 50, 46, 115, 116, 111, 114, 101]), .lit (.string []), .lit (.string []), .lit (.string []), .lit (.string [105, 51, 50, 46, 115, 116, 111, 114, 101, 56]), .lit (.string [105, 51, 50, 46, 115, 116, 111, 114, 101, 49, 54]), .lit (.string []), .lit (.string []), .lit (.string []), .lit (.string [109, 101, 109, 111, 114, 121, 46, 115, 105, 122, 101]), .lit (.string [109, 101, 109, 111, 114, 121, 46, 103, 114, 111, 119]), .lit (.string [105, 51, 50, 46, 99, 111, 110, 115, 116]), .lit (.string []), .lit (.string []), .lit (.string []), .lit (.string [105, 51, 50, 46, 101, 113, 122]), .lit (.string [105, 51, 50, 46, 101, 113]), .lit (.string [105, 51, 50, 46, 110, 101]), .lit (.string [105, 51, 50, 46, 108, 116, 95, 115]), .lit (.string [105, 51, 50, 46, 108, 116, 95, 117]), .lit (.string [105, 51, 50, 46, 103, 116, 95, 115]), .lit (.string [105, 51, 50, 46, 103, 116, 95, 117]), .lit (.string [105, 51, 50, 46, 108, 101, 95, 115]), .lit (.string [105, 51, 50, 46, 108, 101, 95, 117]), .lit (.string [105, 51, 50, 46, 103, 101, 95, 115]), .lit (.string [105, 51, 50, 46, 103, 101, 95, 117]), .lit (.string []), .lit (.string []), .lit (.string []), .lit (.string []), .lit (.string []), .lit (.string []), .lit (.string []), .lit (.string []), .lit (.string []), .lit (.string []), .lit (.string []), .lit (.string []), .lit (.string []), .lit (.string []), .lit (.string []), .lit (.string []), .lit (.string []), .lit (.string []), .lit (.string []), .lit (.string []), .lit (.string []), .lit (.string []), .lit (.string []), .lit (.string [105, 51, 50, 46, 99, 108, 122]), .lit (.string [105, 51, 50, 46, 99, 116, 122]), .lit (.string [105, 51, 50, 46, 112, 111, 112, 99, 110, 116]), .lit (.string [105, 51, 50, 46, 97, 100, 100]), .lit (.string [105, 51, 50, 46, 115, 117, 98]), .lit (.string [105, 51, 50, 46, 109, 117, 108]), .lit (.string [105, 51, 50, 46, 100, 105, 118, 95, 115]), .lit (.string [105, 51, 50, 46, 100, 105, 118, 95, 117]), .lit (.string [105, 51, 50, 46, 114, 101, 109, 95, 115]), .lit (.string [105, 51, 50, 46, 114, 101, 109, 95, 117]), .lit (.string [105, 51, 50, 46, 97, 110, 100]), .lit (.string [105, 51, 50, 46, 111, 114]), .lit (.string [105, 51, 50, 46, 120, 111, 114]), .lit (.string [105, 51, 50, 46, 115, 104, 108]), .lit (.string [105, 51, 50, 46, 115, 104, 114, 95, 115]), .lit (.string [105, 51, 50, 46, 115, 104, 114, 95, 117]), .lit (.string [105, 51, 50, 46, 114, 111, 116, 108]), .lit (.string [105, 51, 50, 46, 114, 111, 116, 114])]
/-- One of Go's own tables, pinned by name: the form's constant. -/
def laid_unicode_utf8_first : DataW Unit := Go.Pinned.utf8First

/-- 'gimletlaw14.ExecBodies': WHATEVER THE INPUT: true; the input reads as it did. -/
def execBodiesSpec : ChangeSpec := { name := "execBodies", fn := fun _ => fun
  | [d1, d2, d3, d4, d5] => { results := [.lit (.bool true)], args := [d1, d2, d3, d4, d5] }
  | _ => none }
def execBodiesRow : OpenClaim := { program := "ytdljneclfgneoaagreatdoor", sum := "54a66b26acf16a8915b534f037c0a46d67e445962806c58a6fefcb4231735c9f", func := "gimlet/gimletlaw14.ExecBodies", spec := "execBodies", unfollowed := true, recurses := true, named := ["gimlet/instr.names", "unicode/utf8.first", "unicode/utf8.acceptRanges", "gimlet/num.arities", "math/bits.deBruijn32tab"], loops := true, plainKeys := false, apart := false, laid := [("math/bits.deBruijn32tab", laid_math_bits_deBruijn32tab), ("unicode/utf8.acceptRanges", laid_unicode_utf8_acceptRanges), ("gimlet/num.arities", laid_gimlet_num_arities), ("gimlet/instr.names", laid_gimlet_instr_names), ("unicode/utf8.first", laid_unicode_utf8_first)] }
def ExecBodiesSaid : Prop := execBodiesRow.holds Tryz.pinned (OpenSpec.ofChange execBodiesSpec)

/-- ITS FALSE NEIGHBOUR: 'it returns false'. Refute it at one input. -/
def execBodiesWrong : ChangeSpec := { name := "execBodies", fn := fun _ => fun
  | [d1, d2, d3, d4, d5] => { results := [.lit (.bool false)], args := [d1, d2, d3, d4, d5] }
  | _ => none }
def ExecBodiesWrongFalsely : Prop := execBodiesRow.holds Tryz.pinned (OpenSpec.ofChange execBodiesWrong)

/-- 'gimletlaw14.ExecNone': WHATEVER THE INPUT: true; the input reads as it did. -/
def execNoneSpec : ChangeSpec := { name := "execNone", fn := fun _ => fun
  | [d1, d2] => { results := [.lit (.bool true)], args := [d1, d2] }
  | _ => none }
def execNoneRow : OpenClaim := { program := "ytdljneclfgneoaagreatdoor", sum := "54a66b26acf16a8915b534f037c0a46d67e445962806c58a6fefcb4231735c9f", func := "gimlet/gimletlaw14.ExecNone", spec := "execNone", unfollowed := true, recurses := true, named := ["gimlet/num.arities", "math/bits.deBruijn32tab", "gimlet/instr.names", "unicode/utf8.first", "unicode/utf8.acceptRanges"], plainKeys := false, apart := false, laid := [("math/bits.deBruijn32tab", laid_math_bits_deBruijn32tab), ("unicode/utf8.acceptRanges", laid_unicode_utf8_acceptRanges), ("gimlet/num.arities", laid_gimlet_num_arities), ("gimlet/instr.names", laid_gimlet_instr_names), ("unicode/utf8.first", laid_unicode_utf8_first)] }
def ExecNoneSaid : Prop := execNoneRow.holds Tryz.pinned (OpenSpec.ofChange execNoneSpec)

/-- ITS FALSE NEIGHBOUR: 'it returns false'. Refute it at one input. -/
def execNoneWrong : ChangeSpec := { name := "execNone", fn := fun _ => fun
  | [d1, d2] => { results := [.lit (.bool false)], args := [d1, d2] }
  | _ => none }
def ExecNoneWrongFalsely : Prop := execNoneRow.holds Tryz.pinned (OpenSpec.ofChange execNoneWrong)

/-- 'gimletlaw14.ExecSteps': WHATEVER THE INPUT: true; the input reads as it did. -/
def execStepsSpec : ChangeSpec := { name := "execSteps", fn := fun _ => fun
  | [d1, d2, d3, d4, d5] => { results := [.lit (.bool true)], args := [d1, d2, d3, d4, d5] }
  | _ => none }
def execStepsRow : OpenClaim := { program := "ytdljneclfgneoaagreatdoor", sum := "54a66b26acf16a8915b534f037c0a46d67e445962806c58a6fefcb4231735c9f", func := "gimlet/gimletlaw14.ExecSteps", spec := "execSteps", unfollowed := true, recurses := true, named := ["gimlet/instr.names", "unicode/utf8.first", "unicode/utf8.acceptRanges", "gimlet/num.arities", "math/bits.deBruijn32tab"], loops := true, plainKeys := false, apart := false, laid := [("math/bits.deBruijn32tab", laid_math_bits_deBruijn32tab), ("unicode/utf8.acceptRanges", laid_unicode_utf8_acceptRanges), ("gimlet/num.arities", laid_gimlet_num_arities), ("gimlet/instr.names", laid_gimlet_instr_names), ("unicode/utf8.first", laid_unicode_utf8_first)] }
def ExecStepsSaid : Prop := execStepsRow.holds Tryz.pinned (OpenSpec.ofChange execStepsSpec)

/-- ITS FALSE NEIGHBOUR: 'it returns false'. Refute it at one input. -/
def execStepsWrong : ChangeSpec := { name := "execSteps", fn := fun _ => fun
  | [d1, d2, d3, d4, d5] => { results := [.lit (.bool false)], args := [d1, d2, d3, d4, d5] }
  | _ => none }
def ExecStepsWrongFalsely : Prop := execStepsRow.holds Tryz.pinned (OpenSpec.ofChange execStepsWrong)

/-- 'gimletlaw14.ExecReckons': WHATEVER THE INPUT: true; the input reads as it did. -/
def execReckonsSpec : ChangeSpec := { name := "execReckons", fn := fun _ => fun
  | [d1, d2, d3] => { results := [.lit (.bool true)], args := [d1, d2, d3] }
  | _ => none }
def execReckonsRow : OpenClaim := { program := "ytdljneclfgneoaagreatdoor", sum := "54a66b26acf16a8915b534f037c0a46d67e445962806c58a6fefcb4231735c9f", func := "gimlet/gimletlaw14.ExecReckons", spec := "execReckons", unfollowed := true, recurses := true, named := ["gimlet/instr.names", "unicode/utf8.first", "unicode/utf8.acceptRanges", "gimlet/num.arities", "math/bits.deBruijn32tab"], plainKeys := false, apart := false, laid := [("math/bits.deBruijn32tab", laid_math_bits_deBruijn32tab), ("unicode/utf8.acceptRanges", laid_unicode_utf8_acceptRanges), ("gimlet/num.arities", laid_gimlet_num_arities), ("gimlet/instr.names", laid_gimlet_instr_names), ("unicode/utf8.first", laid_unicode_utf8_first)] }
def ExecReckonsSaid : Prop := execReckonsRow.holds Tryz.pinned (OpenSpec.ofChange execReckonsSpec)

/-- ITS FALSE NEIGHBOUR: 'it returns false'. Refute it at one input. -/
def execReckonsWrong : ChangeSpec := { name := "execReckons", fn := fun _ => fun
  | [d1, d2, d3] => { results := [.lit (.bool false)], args := [d1, d2, d3] }
  | _ => none }
def ExecReckonsWrongFalsely : Prop := execReckonsRow.holds Tryz.pinned (OpenSpec.ofChange execReckonsWrong)

/-- 'gimletlaw14.ExecDeep': WHATEVER THE INPUT: true; the input reads as it did. -/
def execDeepSpec : ChangeSpec := { name := "execDeep", fn := fun _ => fun
  | [d] => { results := [.lit (.bool true)], args := [d] }
  | _ => none }
def execDeepRow : OpenClaim := { program := "ytdljneclfgneoaagreatdoor", sum := "54a66b26acf16a8915b534f037c0a46d67e445962806c58a6fefcb4231735c9f", func := "gimlet/gimletlaw14.ExecDeep", spec := "execDeep", unfollowed := true, recurses := true, named := ["gimlet/instr.names", "unicode/utf8.first", "unicode/utf8.acceptRanges", "gimlet/num.arities", "math/bits.deBruijn32tab"], plainKeys := false, apart := false, laid := [("math/bits.deBruijn32tab", laid_math_bits_deBruijn32tab), ("unicode/utf8.acceptRanges", laid_unicode_utf8_acceptRanges), ("gimlet/num.arities", laid_gimlet_num_arities), ("gimlet/instr.names", laid_gimlet_instr_names), ("unicode/utf8.first", laid_unicode_utf8_first)] }
def ExecDeepSaid : Prop := execDeepRow.holds Tryz.pinned (OpenSpec.ofChange execDeepSpec)

/-- ITS FALSE NEIGHBOUR: 'it returns false'. Refute it at one input. -/
def execDeepWrong : ChangeSpec := { name := "execDeep", fn := fun _ => fun
  | [d] => { results := [.lit (.bool false)], args := [d] }
  | _ => none }
def ExecDeepWrongFalsely : Prop := execDeepRow.holds Tryz.pinned (OpenSpec.ofChange execDeepWrong)

/-- 'gimletlaw14.ExecKnown': WHATEVER THE INPUT: true; the input reads as it did. -/
def execKnownSpec : ChangeSpec := { name := "execKnown", fn := fun _ => fun
  | [] => { results := [.lit (.bool true)], args := [] }
  | _ => none }
def execKnownRow : OpenClaim := { program := "ytdljneclfgneoaagreatdoor", sum := "54a66b26acf16a8915b534f037c0a46d67e445962806c58a6fefcb4231735c9f", func := "gimlet/gimletlaw14.ExecKnown", spec := "execKnown", unfollowed := true, recurses := true, named := ["gimlet/instr.names", "unicode/utf8.first", "unicode/utf8.acceptRanges", "gimlet/num.arities", "math/bits.deBruijn32tab"], plainKeys := false, apart := false, laid := [("math/bits.deBruijn32tab", laid_math_bits_deBruijn32tab), ("unicode/utf8.acceptRanges", laid_unicode_utf8_acceptRanges), ("gimlet/num.arities", laid_gimlet_num_arities), ("gimlet/instr.names", laid_gimlet_instr_names), ("unicode/utf8.first", laid_unicode_utf8_first)] }
def ExecKnownSaid : Prop := execKnownRow.holds Tryz.pinned (OpenSpec.ofChange execKnownSpec)

/-- ITS FALSE NEIGHBOUR: 'it returns false'. Refute it at one input. -/
def execKnownWrong : ChangeSpec := { name := "execKnown", fn := fun _ => fun
  | [] => { results := [.lit (.bool false)], args := [] }
  | _ => none }
def ExecKnownWrongFalsely : Prop := execKnownRow.holds Tryz.pinned (OpenSpec.ofChange execKnownWrong)

/-- 'gimletlaw13.PlaceScript': WHATEVER THE INPUT: true; the input reads as it did. -/
def placeScriptSpec : ChangeSpec := { name := "placeScript", fn := fun _ => fun
  | [d1, d2] => { results := [.lit (.bool true)], args := [d1, d2] }
  | _ => none }
def placeScriptRow : OpenClaim := { program := "ytdljneclfgneoaagreatdoor", sum := "54a66b26acf16a8915b534f037c0a46d67e445962806c58a6fefcb4231735c9f", func := "gimlet/gimletlaw13.PlaceScript", spec := "placeScript", unfollowed := true, recurses := true, named := ["gimlet/instr.names", "unicode/utf8.first", "unicode/utf8.acceptRanges", "gimlet/num.arities"], loops := true, plainKeys := false, apart := false, laid := [("unicode/utf8.acceptRanges", laid_unicode_utf8_acceptRanges), ("gimlet/num.arities", laid_gimlet_num_arities), ("gimlet/instr.names", laid_gimlet_instr_names), ("unicode/utf8.first", laid_unicode_utf8_first)] }
def PlaceScriptSaid : Prop := placeScriptRow.holds Tryz.pinned (OpenSpec.ofChange placeScriptSpec)

/-- ITS FALSE NEIGHBOUR: 'it returns false'. Refute it at one input. -/
def placeScriptWrong : ChangeSpec := { name := "placeScript", fn := fun _ => fun
  | [d1, d2] => { results := [.lit (.bool false)], args := [d1, d2] }
  | _ => none }
def PlaceScriptWrongFalsely : Prop := placeScriptRow.holds Tryz.pinned (OpenSpec.ofChange placeScriptWrong)

/-- 'gimletlaw11.ValidBodies': WHATEVER THE INPUT: true; the input reads as it did. -/
def validBodiesSpec : ChangeSpec := { name := "validBodies", fn := fun _ => fun
  | [d1, d2] => { results := [.lit (.bool true)], args := [d1, d2] }
  | _ => none }
def validBodiesRow : OpenClaim := { program := "ytdljneclfgneoaagreatdoor", sum := "54a66b26acf16a8915b534f037c0a46d67e445962806c58a6fefcb4231735c9f", func := "gimlet/gimletlaw11.ValidBodies", spec := "validBodies", unfollowed := true, recurses := true, named := ["gimlet/instr.names", "unicode/utf8.first", "unicode/utf8.acceptRanges", "gimlet/num.arities"], loops := true, plainKeys := false, apart := false, laid := [("unicode/utf8.acceptRanges", laid_unicode_utf8_acceptRanges), ("gimlet/num.arities", laid_gimlet_num_arities), ("gimlet/instr.names", laid_gimlet_instr_names), ("unicode/utf8.first", laid_unicode_utf8_first)] }
def ValidBodiesSaid : Prop := validBodiesRow.holds Tryz.pinned (OpenSpec.ofChange validBodiesSpec)

/-- ITS FALSE NEIGHBOUR: 'it returns false'. Refute it at one input. -/
def validBodiesWrong : ChangeSpec := { name := "validBodies", fn := fun _ => fun
  | [d1, d2] => { results := [.lit (.bool false)], args := [d1, d2] }
  | _ => none }
def ValidBodiesWrongFalsely : Prop := validBodiesRow.holds Tryz.pinned (OpenSpec.ofChange validBodiesWrong)

/-- 'gimletlaw11.ValidTells': WHATEVER THE INPUT: true; the input reads as it did. -/
def validTellsSpec : ChangeSpec := { name := "validTells", fn := fun _ => fun
  | [d1, d2] => { results := [.lit (.bool true)], args := [d1, d2] }
  | _ => none }
def validTellsRow : OpenClaim := { program := "ytdljneclfgneoaagreatdoor", sum := "54a66b26acf16a8915b534f037c0a46d67e445962806c58a6fefcb4231735c9f", func := "gimlet/gimletlaw11.ValidTells", spec := "validTells", unfollowed := true, recurses := true, named := ["gimlet/instr.names", "unicode/utf8.first", "unicode/utf8.acceptRanges", "gimlet/num.arities"], loops := true, plainKeys := false, apart := false, laid := [("unicode/utf8.acceptRanges", laid_unicode_utf8_acceptRanges), ("gimlet/num.arities", laid_gimlet_num_arities), ("gimlet/instr.names", laid_gimlet_instr_names), ("unicode/utf8.first", laid_unicode_utf8_first)] }
def ValidTellsSaid : Prop := validTellsRow.holds Tryz.pinned (OpenSpec.ofChange validTellsSpec)

/-- ITS FALSE NEIGHBOUR: 'it returns false'. Refute it at one input. -/
def validTellsWrong : ChangeSpec := { name := "validTells", fn := fun _ => fun
  | [d1, d2] => { results := [.lit (.bool false)], args := [d1, d2] }
  | _ => none }
def ValidTellsWrongFalsely : Prop := validTellsRow.holds Tryz.pinned (OpenSpec.ofChange validTellsWrong)

/- THE SECOND FORM. 'bulk': how many values and letters a reading holds, each counted each time it is reached (what is shared counts as often as it is met; a slice's spare places count too). A statement '..UptoSaid' is the law's where the arguments, and the package variables that the reading takes, are together of bulk at most 1048576: NARROWER than '..Said'. Prove '..Said' where nothing that the law and all that it calls make is longer than what came in: it says more and counts as full. Else prove '..UptoSaid'. A law counts once. -/
mutual
def uptoBulk {H : Type} : DataW H → Nat
  | .lit (.string bytes) => bytes.length + 1
  | .lit _ => 1
  | .nil => 1
  | .ptr d => uptoBulk d + 1
  | .slice elems spare => uptoBulkAll elems + uptoBulkAll spare + 1
  | .agg parts => uptoBulkAll parts + 1
  | .iface _ d => uptoBulk d + 1
  | .map entries => uptoBulkEntries entries + 1
  | .held _ => 1
def uptoBulkAll {H : Type} : List (DataW H) → Nat
  | [] => 0
  | d :: r => uptoBulk d + uptoBulkAll r
def uptoBulkEntries {H : Type} : List (Lit × DataW H) → Nat
  | [] => 0
  | x :: r => uptoBulkEntry x + uptoBulkEntries r
def uptoBulkEntry {H : Type} : Lit × DataW H → Nat
  | (.string bytes, d) => bytes.length + uptoBulk d + 1
  | (_, d) => uptoBulk d + 1
 end
def uptoSmall : (H : Type) → List (DataW H) → Bool := fun _ ds => decide (uptoBulkAll ds ≤ 1048576)
def OpenSpec.upto (s : _root_.Go.ChangeSpec) : _root_.Go.OpenSpec := { _root_.Go.OpenSpec.ofChange s with cond := some uptoSmall }

/-- 'gimletlaw14.ExecBodies', WHERE WHAT IT READS IS OF BULK AT MOST 1048576: true; the input reads as it did. -/
def execBodiesUptoRow : OpenClaim := { program := "ytdljneclfgneoaagreatdoor", sum := "54a66b26acf16a8915b534f037c0a46d67e445962806c58a6fefcb4231735c9f", func := "gimlet/gimletlaw14.ExecBodies", spec := "execBodies", unfollowed := true, recurses := true, named := ["gimlet/instr.names", "unicode/utf8.first", "unicode/utf8.acceptRanges", "gimlet/num.arities", "math/bits.deBruijn32tab"], loops := true, plainKeys := false, apart := false, laid := [("math/bits.deBruijn32tab", laid_math_bits_deBruijn32tab), ("unicode/utf8.acceptRanges", laid_unicode_utf8_acceptRanges), ("gimlet/num.arities", laid_gimlet_num_arities), ("gimlet/instr.names", laid_gimlet_instr_names), ("unicode/utf8.first", laid_unicode_utf8_first)], narrowed := true }
def ExecBodiesUptoSaid : Prop := execBodiesUptoRow.holds Tryz.pinned (OpenSpec.upto execBodiesSpec)

/-- 'gimletlaw14.ExecNone', WHERE WHAT IT READS IS OF BULK AT MOST 1048576: true; the input reads as it did. -/
def execNoneUptoRow : OpenClaim := { program := "ytdljneclfgneoaagreatdoor", sum := "54a66b26acf16a8915b534f037c0a46d67e445962806c58a6fefcb4231735c9f", func := "gimlet/gimletlaw14.ExecNone", spec := "execNone", unfollowed := true, recurses := true, named := ["gimlet/num.arities", "math/bits.deBruijn32tab", "gimlet/instr.names", "unicode/utf8.first", "unicode/utf8.acceptRanges"], plainKeys := false, apart := false, laid := [("math/bits.deBruijn32tab", laid_math_bits_deBruijn32tab), ("unicode/utf8.acceptRanges", laid_unicode_utf8_acceptRanges), ("gimlet/num.arities", laid_gimlet_num_arities), ("gimlet/instr.names", laid_gimlet_instr_names), ("unicode/utf8.first", laid_unicode_utf8_first)], narrowed := true }
def ExecNoneUptoSaid : Prop := execNoneUptoRow.holds Tryz.pinned (OpenSpec.upto execNoneSpec)

/-- 'gimletlaw14.ExecSteps', WHERE WHAT IT READS IS OF BULK AT MOST 1048576: true; the input reads as it did. -/
def execStepsUptoRow : OpenClaim := { program := "ytdljneclfgneoaagreatdoor", sum := "54a66b26acf16a8915b534f037c0a46d67e445962806c58a6fefcb4231735c9f", func := "gimlet/gimletlaw14.ExecSteps", spec := "execSteps", unfollowed := true, recurses := true, named := ["gimlet/instr.names", "unicode/utf8.first", "unicode/utf8.acceptRanges", "gimlet/num.arities", "math/bits.deBruijn32tab"], loops := true, plainKeys := false, apart := false, laid := [("math/bits.deBruijn32tab", laid_math_bits_deBruijn32tab), ("unicode/utf8.acceptRanges", laid_unicode_utf8_acceptRanges), ("gimlet/num.arities", laid_gimlet_num_arities), ("gimlet/instr.names", laid_gimlet_instr_names), ("unicode/utf8.first", laid_unicode_utf8_first)], narrowed := true }
def ExecStepsUptoSaid : Prop := execStepsUptoRow.holds Tryz.pinned (OpenSpec.upto execStepsSpec)

/-- 'gimletlaw14.ExecReckons', WHERE WHAT IT READS IS OF BULK AT MOST 1048576: true; the input reads as it did. -/
def execReckonsUptoRow : OpenClaim := { program := "ytdljneclfgneoaagreatdoor", sum := "54a66b26acf16a8915b534f037c0a46d67e445962806c58a6fefcb4231735c9f", func := "gimlet/gimletlaw14.ExecReckons", spec := "execReckons", unfollowed := true, recurses := true, named := ["gimlet/instr.names", "unicode/utf8.first", "unicode/utf8.acceptRanges", "gimlet/num.arities", "math/bits.deBruijn32tab"], plainKeys := false, apart := false, laid := [("math/bits.deBruijn32tab", laid_math_bits_deBruijn32tab), ("unicode/utf8.acceptRanges", laid_unicode_utf8_acceptRanges), ("gimlet/num.arities", laid_gimlet_num_arities), ("gimlet/instr.names", laid_gimlet_instr_names), ("unicode/utf8.first", laid_unicode_utf8_first)], narrowed := true }
def ExecReckonsUptoSaid : Prop := execReckonsUptoRow.holds Tryz.pinned (OpenSpec.upto execReckonsSpec)

/-- 'gimletlaw14.ExecDeep', WHERE WHAT IT READS IS OF BULK AT MOST 1048576: true; the input reads as it did. -/
def execDeepUptoRow : OpenClaim := { program := "ytdljneclfgneoaagreatdoor", sum := "54a66b26acf16a8915b534f037c0a46d67e445962806c58a6fefcb4231735c9f", func := "gimlet/gimletlaw14.ExecDeep", spec := "execDeep", unfollowed := true, recurses := true, named := ["gimlet/instr.names", "unicode/utf8.first", "unicode/utf8.acceptRanges", "gimlet/num.arities", "math/bits.deBruijn32tab"], plainKeys := false, apart := false, laid := [("math/bits.deBruijn32tab", laid_math_bits_deBruijn32tab), ("unicode/utf8.acceptRanges", laid_unicode_utf8_acceptRanges), ("gimlet/num.arities", laid_gimlet_num_arities), ("gimlet/instr.names", laid_gimlet_instr_names), ("unicode/utf8.first", laid_unicode_utf8_first)], narrowed := true }
def ExecDeepUptoSaid : Prop := execDeepUptoRow.holds Tryz.pinned (OpenSpec.upto execDeepSpec)

/-- 'gimletlaw14.ExecKnown', WHERE WHAT IT READS IS OF BULK AT MOST 1048576: true; the input reads as it did. -/
def execKnownUptoRow : OpenClaim := { program := "ytdljneclfgneoaagreatdoor", sum := "54a66b26acf16a8915b534f037c0a46d67e445962806c58a6fefcb4231735c9f", func := "gimlet/gimletlaw14.ExecKnown", spec := "execKnown", unfollowed := true, recurses := true, named := ["gimlet/instr.names", "unicode/utf8.first", "unicode/utf8.acceptRanges", "gimlet/num.arities", "math/bits.deBruijn32tab"], plainKeys := false, apart := false, laid := [("math/bits.deBruijn32tab", laid_math_bits_deBruijn32tab), ("unicode/utf8.acceptRanges", laid_unicode_utf8_acceptRanges), ("gimlet/num.arities", laid_gimlet_num_arities), ("gimlet/instr.names", laid_gimlet_instr_names), ("unicode/utf8.first", laid_unicode_utf8_first)], narrowed := true }
def ExecKnownUptoSaid : Prop := execKnownUptoRow.holds Tryz.pinned (OpenSpec.upto execKnownSpec)

/-- 'gimletlaw13.PlaceScript', WHERE WHAT IT READS IS OF BULK AT MOST 1048576: true; the input reads as it did. -/
def placeScriptUptoRow : OpenClaim := { program := "ytdljneclfgneoaagreatdoor", sum := "54a66b26acf16a8915b534f037c0a46d67e445962806c58a6fefcb4231735c9f", func := "gimlet/gimletlaw13.PlaceScript", spec := "placeScript", unfollowed := true, recurses := true, named := ["gimlet/instr.names", "unicode/utf8.first", "unicode/utf8.acceptRanges", "gimlet/num.arities"], loops := true, plainKeys := false, apart := false, laid := [("unicode/utf8.acceptRanges", laid_unicode_utf8_acceptRanges), ("gimlet/num.arities", laid_gimlet_num_arities), ("gimlet/instr.names", laid_gimlet_instr_names), ("unicode/utf8.first", laid_unicode_utf8_first)], narrowed := true }
def PlaceScriptUptoSaid : Prop := placeScriptUptoRow.holds Tryz.pinned (OpenSpec.upto placeScriptSpec)

/-- 'gimletlaw11.ValidBodies', WHERE WHAT IT READS IS OF BULK AT MOST 1048576: true; the input reads as it did. -/
def validBodiesUptoRow : OpenClaim := { program := "ytdljneclfgneoaagreatdoor", sum := "54a66b26acf16a8915b534f037c0a46d67e445962806c58a6fefcb4231735c9f", func := "gimlet/gimletlaw11.ValidBodies", spec := "validBodies", unfollowed := true, recurses := true, named := ["gimlet/instr.names", "unicode/utf8.first", "unicode/utf8.acceptRanges", "gimlet/num.arities"], loops := true, plainKeys := false, apart := false, laid := [("unicode/utf8.acceptRanges", laid_unicode_utf8_acceptRanges), ("gimlet/num.arities", laid_gimlet_num_arities), ("gimlet/instr.names", laid_gimlet_instr_names), ("unicode/utf8.first", laid_unicode_utf8_first)], narrowed := true }
def ValidBodiesUptoSaid : Prop := validBodiesUptoRow.holds Tryz.pinned (OpenSpec.upto validBodiesSpec)

/-- 'gimletlaw11.ValidTells', WHERE WHAT IT READS IS OF BULK AT MOST 1048576: true; the input reads as it did. -/
def validTellsUptoRow : OpenClaim := { program := "ytdljneclfgneoaagreatdoor", sum := "54a66b26acf16a8915b534f037c0a46d67e445962806c58a6fefcb4231735c9f", func := "gimlet/gimletlaw11.ValidTells", spec := "validTells", unfollowed := true, recurses := true, named := ["gimlet/instr.names", "unicode/utf8.first", "unicode/utf8.acceptRanges", "gimlet/num.arities"], loops := true, plainKeys := false, apart := false, laid := [("unicode/utf8.acceptRanges", laid_unicode_utf8_acceptRanges), ("gimlet/num.arities", laid_gimlet_num_arities), ("gimlet/instr.names", laid_gimlet_instr_names), ("unicode/utf8.first", laid_unicode_utf8_first)], narrowed := true }
def ValidTellsUptoSaid : Prop := validTellsUptoRow.holds Tryz.pinned (OpenSpec.upto validTellsSpec)

end Rows
end Go.Proofs.YtdljneclfgneoaaGreatDoor
