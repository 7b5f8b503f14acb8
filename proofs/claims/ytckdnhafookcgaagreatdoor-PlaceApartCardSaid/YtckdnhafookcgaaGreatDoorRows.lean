/-
  NARROWER THAN 'FOR EVERY INPUT', by the rows' own cells (each row's printed sentence says how): PlaceScript: loops, laid · PlaceNone: laid · PlaceApart: loops, laid · PlaceReady: loops, laid · PlaceKnown: laid · ValidParts: loops, laid · ValidBodies: loops, laid · ValidTells: loops, laid.
  DERIVED. THE GIVEN ROWS OF THIS SEAT. 8 by the template 'for every input the law returns true; each argument reads behind the call as it read before'; 0 by the template 'total and deterministic' (their statements: YtckdnhafookcgaaGreatDoorTotals.lean).
  GIVEN WITH THE SEED: the statements are not yours to turn. If you find one false, say at which input.
  Laid BY PROGRAM, IN A SANDBOX (cutbox-rows.mjs): the forced cells as the released guide's own fill.sh prints them over the translation e07f3e4e9239825f… (all of the seat's roots in one cut). By AI agents, Wed Nov 11 2026. No macro, syntax, notation, axiom, sorry.
-/
import Derived.Test.YtckdnhafookcgaaGreatDoorChecked
import GoSem.PinnedTables
import GoSem.Claim
import GoSem.ClaimJoined
import GoSem.ClaimMapViews
import Derived.JoinedTies
import Derived.KernelRfl
namespace Go.Proofs.YtckdnhafookcgaaGreatDoor
/- THE CELL 'sum', in the pinned program and in every row, IS THE sha256 OF THE DUMP (.gsa) THAT YtckdnhafookcgaaGreatDoorProg.lean LOADS. Nothing in Lean hashes anything: it is a label: what it is worth is what the hold of that sum in a sandbox is worth. -/
noncomputable def Tryz.pinned : Pinned := { name := "ytckdnhafookcgaagreatdoor", sum := "e07f3e4e9239825faff629a5e876564b76decd2c0e3e19102bde46dab66f9b44", checked := Tryz.checked }
namespace Rows
def none {H : Type} : Left H := { results := [], args := [] }

/- WHAT THE LISTED PACKAGE-LEVEL VARIABLES READ AS WHEN THE CALL BEGINS. Each datum BY PROGRAM (the guide's laid-datum.mjs) off the statement by which the dump's own 'gosem.cut.vars' lays the variable. In a bare row this is a premise. The card (YtckdnhafookcgaaGreatDoorCards.lean) ties it to the program's text. -/
def laid_unicode_utf8_acceptRanges {H : Type} : DataW H := .agg [.agg [.lit (.int .u8 128), .lit (.int .u8 191)], .agg [.lit (.int .u8 160), .lit (.int .u8 191)], .agg [.lit (.int .u8 128), .lit (.int .u8 159)], .agg [.lit (.int .u8 144), .lit (.int .u8 191)], .agg [.lit (.int .u8 128), .lit (.int .u8 143)], .agg [.lit (.int .u8 0), .lit (.int .u8 0)], .agg [.lit (.int .u8 0), .lit (.int .u8 0)], .agg [.lit (.int .u8 0), .lit (.int .u8 0)], .agg [.lit (.int .u8 0), .lit (.int .u8 0)], .agg [.lit (.int .u8 0), .lit (.int .u8 0)], .agg [.lit (.int .u8 0), .lit (.int .u8 0)], .agg [.lit (.int .u8 0), .lit (.int .u8 0)], .agg [.lit (.int .u8 0), .lit (.int .u8 0)], .agg [.lit (.int .u8 0), .lit (.int .u8 0)], .agg [.lit (.int .u8 0), .lit (.int .u8 0)], .agg [.lit (.int .u8 0), .lit (.int .u8 0)]]
def laid_gimlet_num_arities {H : Type} : DataW H := .agg [.lit (.int .u8 0), .lit (.int .u8 0), .lit (.int .u8 0), .lit (.int .u8 0), .lit (.int .u8 0), .lit (.int .u8 0), .lit (.int .u8 0), .lit (.int .u8 0), .lit (.int .u8 0), .lit (.int .u8 0), .lit (.int .u8 0), .lit (.int .u8 0), .lit (.int .u8 0), .lit (.int .u8 0), .lit (.int .u8 0), .lit (.int .u8 0), .lit (.int .u8 0), .lit (.int .u8 0), .lit (.int .u8 0), .lit (.int .u8 0), .lit (.int .u8 0), .lit (.int .u8 0), .lit (.int .u8 0), .lit (.int .u8 0), .lit (.int .u8 0), .lit (.int .u8 0), .lit (.int .u8 0), .lit (.int .u8 0), .lit (.int .u8 0), .lit (.int .u8 0), .lit (.int .u8 0), .lit (.int .u8 0), .lit (.int .u8 0), .lit (.int .u8 0), .lit (.int .u8 0), .lit (.int .u8 0), .lit (.int .u8 0), .lit (.int .u8 0), .lit (.int .u8 0), .lit (.int .u8 0), .lit (.int .u8 0), .lit (.int .u8 0), .lit (.int .u8 0), .lit (.int .u8 0), .lit (.int .u8 0), .lit (.int .u8 0), .lit (.int .u8 0), .lit (.int .u8 0), .lit (.int .u8 0), .lit (.int .u8 0), .lit (.int .u8 0), .lit (.int .u8 0), .lit (.int .u8 0), .lit (.int .u8 0), .lit (.int .u8 0), .lit (.int .u8 0), .lit (.int .u8 0), .lit (.int .u8 0), .lit (.int .u8 0), .lit (.int .u8 0), .lit (.int .u8 0), .lit (.int .u8 0), .lit (.int .u8 0), .lit (.int .u8 0), .lit (.int .u8 0), .lit (.int .u8 0), .lit (.int .u8 0), .lit (.int .u8 0), .lit (.int .u8 0), .lit (.int .u8 1), .lit (.int .u8 2), .lit (.int .u8 2), .lit (.int .u8 2), .lit (.int .u8 2), .lit (.int .u8 2), .lit (.int .u8 2), .lit (.int .u8 2), .lit (.int .u8 2), .lit (.int .u8 2), .lit (.int .u8 2), .lit (.int .u8 0), .lit (.int .u8 0), .lit (.int .u8 0), .lit (.int .u8 0), .lit (.int .u8 0), .lit (.int .u8 0), .lit (.int .u8 0), .lit (.int .u8 0), .lit (.int .u8 0), .lit (.int .u8 0), .lit (.int .u8 0), .lit (.int .u8 0), .lit (.int .u8 0), .lit (.int .u8 0), .lit (.int .u8 0), .lit (.int .u8 0), .lit (.int .u8 0), .lit (.int .u8 0), .lit (.int .u8 0), .lit (.int .u8 0), .lit (.int .u8 0), .lit (.int .u8 0), .lit (.int .u8 0), .lit (.int .u8 1), .lit (.int .u8 1), .lit (.int .u8 1), .lit (.int .u8 2), .lit (.int .u8 2), .lit (.int .u8 2), .lit (.int .u8 2), .lit (.int .u8 2), .lit (.int .u8 2), .lit (.int .u8 2), .lit (.int .u8 2), .lit (.int .u8 2), .lit (.int .u8 2), .lit (.int .u8 2), .lit (.int .u8 2), .lit (.int .u8 2), .lit (.int .u8 2), .lit (.int .u8 2)]
def laid_gimlet_instr_names {H : Type} : DataW H := .agg [.lit (.string [117, 110, 114, 101, 97, 99, 104, 97, 98, 108, 101]), .lit (.string [110, 111, 112]), .lit (.string [98, 108, 111, 99, 107]), .lit (.string [108, 111, 111, 112]), .lit (.string [105, 102]), .lit (.string []), .lit (.string []), .lit (.string []), .lit (.string []), .lit (.string []), .lit (.string []), .lit (.string []), .lit (.string [98, 114]), .lit (.string [98, 114, 95, 105, 102]), .lit (.string [98, 114, 95, 116, 97, 98, 108, 101]), .lit (.string [114, 101, 116, 117, 114, 110]), .lit (.string [99, 97, 108, 108]), .lit (.string [99, 97, 108, 108, 95, 105, 110, 100, 105, 114, 101, 99, 116]), .lit (.string []), .lit (.string []), .lit (.string []), .lit (.string []), .lit (.string []), .lit (.string []), .lit (.string []), .lit (.string []), .lit (.string [100, 114, 111, 112]), .lit (.string [115, 101, 108, 101, 99, 116]), .lit (.string []), .lit (.string []), .lit (.string []), .lit (.string []), .lit (.string [108, 111, 99, 97, 108, 46, 103, 101, 116]), .lit (.string [108, 111, 99, 97, 108, 46, 115, 101, 116]), .lit (.string [108, 111, 99, 97, 108, 46, 116, 101, 101]), .lit (.string [103, 108, 111, 98, 97, 108, 46, 103, 101, 116]), .lit (.string [103, 108, 111, 98, 97, 108, 46, 115, 101, 116]), .lit (.string []), .lit (.string []), .lit (.string []), .lit (.string [105, 51, 50, 46, 108, 111, 97, 100]), .lit (.string []), .lit (.string []), .lit (.string []), .lit (.string [105, 51, 50, 46, 108, 111, 97, 100, 56, 95, 115]), .lit (.string [105, 51, 50, 46, 108, 111, 97, 100, 56, 95, 117]), .lit (.string [105, 51, 50, 46, 108, 111, 97, 100, 49, 54, 95, 115]), .lit (.string [105, 51, 50, 46, 108, 111, 97, 100, 49, 54, 95, 117]), .lit (.string []), .lit (.string []), .lit (.string []), .lit (.string []), .lit (.string []), .lit (.string []), .lit (.string [105, 51, 50, 46, 115, 116, 111, 114, 101]), .lit (.string []), .lit (.string []), .lit (.string []), .lit (.string [105, 51, 50, 46, 115, 116, 111, 114, 101, 56]), .lit (.string [105, 51, 50, 46, 115, 116, 111, 114, 101, 49, 54]), .lit (.string []), .lit (.string []), .lit (.string []), .lit (.string [109, 101, 109, 111, 114, 121, 46, 115, 105, 122, 101]), .lit (.string [109, 101, 109, 111, 114, 121, 46, 103, 114, 111, 119]), .lit (.string [105, 51, 50, 46, 99, 111, 110, 115, 116]), .lit (.string []), .lit (.string []), .lit (.string []), .lit (.string [105, 51, 50, 46, 101, 113, 122]), .lit (.string [105, 51, 50, 46, 101, 113]), .lit (.string [105, 51, 50, 46, 110, 101]), .lit (.string [105, 51, 50, 46, 108, 116, 95, 115]), .lit (.string [105, 51, 50, 46, 108, 116, 95, 117]), .lit (.string [105, 51, 50, 46, 103, 116, 95, 115]), .lit (.string [105, 51, 50, 46, 103, 116, 95, 117]), .lit (.string [105, 51, 50, 46, 108, 101, 95, 115]), .lit (.string [105, 51, 50, 46, 108, 101, 95, 117]), .lit (.string [105, 51, 50, 46, 103, 101, 95, 115]), .lit (.string [105, 51, 50, 46, 103, 101, 95, 117]), .lit (.string []), .lit (.string []), .lit (.string []), .lit (.string []), .lit (.string []), .lit (.string []), .lit (.string []), .lit (.string []), .lit (.string []), .lit (.string []), .lit (.string []), .lit (.string []), .lit (.string []), .lit (.string []), .lit (.string []), .lit (.string []), .lit (.string []), .lit (.string []), .lit (.string []), .lit (.string []), .lit (.string []), .lit (.string []), .lit (.string []), .lit (.string [105, 51, 50, 46, 99, 108, 122]), .lit (.string [105, 51, 50, 46, 99, 116, 122]), .lit (.string [105, 51, 50, 46, 112, 111, 112, 99, 110, 116]), .lit (.string [105, 51, 50, 46, 97, 100, 100]), .lit (.string [105, 51, 50, 46, 115, 117, 98]), .lit (.string [105, 51, 50, 46, 109, 117, 108]), .lit (.string [105, 51, 50, 46, 100, 105, 118, 95, 115]), .lit (.string [105, 51, 50, 46, 100, 105, 118, 95, 117]), .lit (.string [105, 51, 50, 46, 114, 101, 109, 95, 115]), .lit (.string [105, 51, 50, 46, 114, 101, 109, 95, 117]), .lit (.string [105, 51, 50, 46, 97, 110, 100]), .lit (.string [105, 51, 50, 46, 111, 114]), .lit (.string [105, 51, 50, 46, 120, 111, 114]), .lit (.string [105, 51, 50, 46, 115, 104, 108]), .lit (.string [105, 51, 50, 46, 115, 104, 114, 95, 115]), .lit (.string [105, 51, 50, 46, 115, 104, 114, 95, 117]), .lit (.string [105, 51, 50, 46, 114, 111, 116, 108]), .lit (.string [105, 51, 50, 46, 114, 111, 116, 114])]
/-- One of Go's own tables, pinned by name: the form's constant. -/
def laid_unicode_utf8_first : DataW Unit := Go.Pinned.utf8First

/-- 'gimletlaw13.PlaceScript': WHATEVER THE INPUT: true; the input reads as it did. -/
def placeScriptSpec : ChangeSpec := { name := "placeScript", fn := fun _ => fun
  | [d1, d2] => { results := [.lit (.bool true)], args := [d1, d2] }
  | _ => none }
def placeScriptRow : OpenClaim := { program := "ytckdnhafookcgaagreatdoor", sum := "e07f3e4e9239825faff629a5e876564b76decd2c0e3e19102bde46dab66f9b44", func := "gimlet/gimletlaw13.PlaceScript", spec := "placeScript", unfollowed := true, recurses := true, named := ["gimlet/instr.names", "unicode/utf8.first", "unicode/utf8.acceptRanges", "gimlet/num.arities"], loops := true, plainKeys := false, apart := false, laid := [("unicode/utf8.acceptRanges", laid_unicode_utf8_acceptRanges), ("gimlet/num.arities", laid_gimlet_num_arities), ("gimlet/instr.names", laid_gimlet_instr_names), ("unicode/utf8.first", laid_unicode_utf8_first)] }
def PlaceScriptSaid : Prop := placeScriptRow.holds Tryz.pinned (OpenSpec.ofChange placeScriptSpec)

/-- ITS FALSE NEIGHBOUR: 'it returns false'. Refute it at one input. -/
def placeScriptWrong : ChangeSpec := { name := "placeScript", fn := fun _ => fun
  | [d1, d2] => { results := [.lit (.bool false)], args := [d1, d2] }
  | _ => none }
def PlaceScriptWrongFalsely : Prop := placeScriptRow.holds Tryz.pinned (OpenSpec.ofChange placeScriptWrong)

/-- 'gimletlaw13.PlaceNone': WHATEVER THE INPUT: true; the input reads as it did. -/
def placeNoneSpec : ChangeSpec := { name := "placeNone", fn := fun _ => fun
  | [d1, d2] => { results := [.lit (.bool true)], args := [d1, d2] }
  | _ => none }
def placeNoneRow : OpenClaim := { program := "ytckdnhafookcgaagreatdoor", sum := "e07f3e4e9239825faff629a5e876564b76decd2c0e3e19102bde46dab66f9b44", func := "gimlet/gimletlaw13.PlaceNone", spec := "placeNone", unfollowed := true, recurses := true, named := ["gimlet/instr.names", "unicode/utf8.first", "unicode/utf8.acceptRanges", "gimlet/num.arities"], plainKeys := false, apart := false, laid := [("unicode/utf8.acceptRanges", laid_unicode_utf8_acceptRanges), ("gimlet/num.arities", laid_gimlet_num_arities), ("gimlet/instr.names", laid_gimlet_instr_names), ("unicode/utf8.first", laid_unicode_utf8_first)] }
def PlaceNoneSaid : Prop := placeNoneRow.holds Tryz.pinned (OpenSpec.ofChange placeNoneSpec)

/-- ITS FALSE NEIGHBOUR: 'it returns false'. Refute it at one input. -/
def placeNoneWrong : ChangeSpec := { name := "placeNone", fn := fun _ => fun
  | [d1, d2] => { results := [.lit (.bool false)], args := [d1, d2] }
  | _ => none }
def PlaceNoneWrongFalsely : Prop := placeNoneRow.holds Tryz.pinned (OpenSpec.ofChange placeNoneWrong)

/-- 'gimletlaw13.PlaceApart': WHATEVER THE INPUT: true; the input reads as it did. -/
def placeApartSpec : ChangeSpec := { name := "placeApart", fn := fun _ => fun
  | [d1, d2, d3, d4, d5] => { results := [.lit (.bool true)], args := [d1, d2, d3, d4, d5] }
  | _ => none }
def placeApartRow : OpenClaim := { program := "ytckdnhafookcgaagreatdoor", sum := "e07f3e4e9239825faff629a5e876564b76decd2c0e3e19102bde46dab66f9b44", func := "gimlet/gimletlaw13.PlaceApart", spec := "placeApart", unfollowed := true, recurses := true, named := ["gimlet/instr.names", "unicode/utf8.first", "unicode/utf8.acceptRanges", "gimlet/num.arities"], loops := true, plainKeys := false, apart := false, laid := [("unicode/utf8.acceptRanges", laid_unicode_utf8_acceptRanges), ("gimlet/num.arities", laid_gimlet_num_arities), ("gimlet/instr.names", laid_gimlet_instr_names), ("unicode/utf8.first", laid_unicode_utf8_first)] }
def PlaceApartSaid : Prop := placeApartRow.holds Tryz.pinned (OpenSpec.ofChange placeApartSpec)

/-- ITS FALSE NEIGHBOUR: 'it returns false'. Refute it at one input. -/
def placeApartWrong : ChangeSpec := { name := "placeApart", fn := fun _ => fun
  | [d1, d2, d3, d4, d5] => { results := [.lit (.bool false)], args := [d1, d2, d3, d4, d5] }
  | _ => none }
def PlaceApartWrongFalsely : Prop := placeApartRow.holds Tryz.pinned (OpenSpec.ofChange placeApartWrong)

/-- 'gimletlaw13.PlaceReady': WHATEVER THE INPUT: true; the input reads as it did. -/
def placeReadySpec : ChangeSpec := { name := "placeReady", fn := fun _ => fun
  | [d1, d2, d3] => { results := [.lit (.bool true)], args := [d1, d2, d3] }
  | _ => none }
def placeReadyRow : OpenClaim := { program := "ytckdnhafookcgaagreatdoor", sum := "e07f3e4e9239825faff629a5e876564b76decd2c0e3e19102bde46dab66f9b44", func := "gimlet/gimletlaw13.PlaceReady", spec := "placeReady", unfollowed := true, recurses := true, named := ["gimlet/instr.names", "unicode/utf8.first", "unicode/utf8.acceptRanges", "gimlet/num.arities"], loops := true, plainKeys := false, apart := false, laid := [("unicode/utf8.acceptRanges", laid_unicode_utf8_acceptRanges), ("gimlet/num.arities", laid_gimlet_num_arities), ("gimlet/instr.names", laid_gimlet_instr_names), ("unicode/utf8.first", laid_unicode_utf8_first)] }
def PlaceReadySaid : Prop := placeReadyRow.holds Tryz.pinned (OpenSpec.ofChange placeReadySpec)

/-- ITS FALSE NEIGHBOUR: 'it returns false'. Refute it at one input. -/
def placeReadyWrong : ChangeSpec := { name := "placeReady", fn := fun _ => fun
  | [d1, d2, d3] => { results := [.lit (.bool false)], args := [d1, d2, d3] }
  | _ => none }
def PlaceReadyWrongFalsely : Prop := placeReadyRow.holds Tryz.pinned (OpenSpec.ofChange placeReadyWrong)

/-- 'gimletlaw13.PlaceKnown': WHATEVER THE INPUT: true; the input reads as it did. -/
def placeKnownSpec : ChangeSpec := { name := "placeKnown", fn := fun _ => fun
  | [] => { results := [.lit (.bool true)], args := [] }
  | _ => none }
def placeKnownRow : OpenClaim := { program := "ytckdnhafookcgaagreatdoor", sum := "e07f3e4e9239825faff629a5e876564b76decd2c0e3e19102bde46dab66f9b44", func := "gimlet/gimletlaw13.PlaceKnown", spec := "placeKnown", unfollowed := true, recurses := true, named := ["gimlet/instr.names", "unicode/utf8.first", "unicode/utf8.acceptRanges", "gimlet/num.arities"], plainKeys := false, apart := false, laid := [("unicode/utf8.acceptRanges", laid_unicode_utf8_acceptRanges), ("gimlet/num.arities", laid_gimlet_num_arities), ("gimlet/instr.names", laid_gimlet_instr_names), ("unicode/utf8.first", laid_unicode_utf8_first)] }
def PlaceKnownSaid : Prop := placeKnownRow.holds Tryz.pinned (OpenSpec.ofChange placeKnownSpec)

/-- ITS FALSE NEIGHBOUR: 'it returns false'. Refute it at one input. -/
def placeKnownWrong : ChangeSpec := { name := "placeKnown", fn := fun _ => fun
  | [] => { results := [.lit (.bool false)], args := [] }
  | _ => none }
def PlaceKnownWrongFalsely : Prop := placeKnownRow.holds Tryz.pinned (OpenSpec.ofChange placeKnownWrong)

/-- 'gimletlaw11.ValidParts': WHATEVER THE INPUT: true; the input reads as it did. -/
def validPartsSpec : ChangeSpec := { name := "validParts", fn := fun _ => fun
  | [d1, d2, d3, d4] => { results := [.lit (.bool true)], args := [d1, d2, d3, d4] }
  | _ => none }
def validPartsRow : OpenClaim := { program := "ytckdnhafookcgaagreatdoor", sum := "e07f3e4e9239825faff629a5e876564b76decd2c0e3e19102bde46dab66f9b44", func := "gimlet/gimletlaw11.ValidParts", spec := "validParts", unfollowed := true, recurses := true, named := ["gimlet/instr.names", "unicode/utf8.first", "unicode/utf8.acceptRanges", "gimlet/num.arities"], loops := true, plainKeys := false, apart := false, laid := [("unicode/utf8.acceptRanges", laid_unicode_utf8_acceptRanges), ("gimlet/num.arities", laid_gimlet_num_arities), ("gimlet/instr.names", laid_gimlet_instr_names), ("unicode/utf8.first", laid_unicode_utf8_first)] }
def ValidPartsSaid : Prop := validPartsRow.holds Tryz.pinned (OpenSpec.ofChange validPartsSpec)

/-- ITS FALSE NEIGHBOUR: 'it returns false'. Refute it at one input. -/
def validPartsWrong : ChangeSpec := { name := "validParts", fn := fun _ => fun
  | [d1, d2, d3, d4] => { results := [.lit (.bool false)], args := [d1, d2, d3, d4] }
  | _ => none }
def ValidPartsWrongFalsely : Prop := validPartsRow.holds Tryz.pinned (OpenSpec.ofChange validPartsWrong)

/-- 'gimletlaw11.ValidBodies': WHATEVER THE INPUT: true; the input reads as it did. -/
def validBodiesSpec : ChangeSpec := { name := "validBodies", fn := fun _ => fun
  | [d1, d2] => { results := [.lit (.bool true)], args := [d1, d2] }
  | _ => none }
def validBodiesRow : OpenClaim := { program := "ytckdnhafookcgaagreatdoor", sum := "e07f3e4e9239825faff629a5e876564b76decd2c0e3e19102bde46dab66f9b44", func := "gimlet/gimletlaw11.ValidBodies", spec := "validBodies", unfollowed := true, recurses := true, named := ["gimlet/instr.names", "unicode/utf8.first", "unicode/utf8.acceptRanges", "gimlet/num.arities"], loops := true, plainKeys := false, apart := false, laid := [("unicode/utf8.acceptRanges", laid_unicode_utf8_acceptRanges), ("gimlet/num.arities", laid_gimlet_num_arities), ("gimlet/instr.names", laid_gimlet_instr_names), ("unicode/utf8.first", laid_unicode_utf8_first)] }
def ValidBodiesSaid : Prop := validBodiesRow.holds Tryz.pinned (OpenSpec.ofChange validBodiesSpec)

/-- ITS FALSE NEIGHBOUR: 'it returns false'. Refute it at one input. -/
def validBodiesWrong : ChangeSpec := { name := "validBodies", fn := fun _ => fun
  | [d1, d2] => { results := [.lit (.bool false)], args := [d1, d2] }
  | _ => none }
def ValidBodiesWrongFalsely : Prop := validBodiesRow.holds Tryz.pinned (OpenSpec.ofChange validBodiesWrong)

/-- 'gimletlaw11.ValidTells': WHATEVER THE INPUT: true; the input reads as it did. -/
def validTellsSpec : ChangeSpec := { name := "validTells", fn := fun _ => fun
  | [d1, d2] => { results := [.lit (.bool true)], args := [d1, d2] }
  | _ => none }
def validTellsRow : OpenClaim := { program := "ytckdnhafookcgaagreatdoor", sum := "e07f3e4e9239825faff629a5e876564b76decd2c0e3e19102bde46dab66f9b44", func := "gimlet/gimletlaw11.ValidTells", spec := "validTells", unfollowed := true, recurses := true, named := ["gimlet/instr.names", "unicode/utf8.first", "unicode/utf8.acceptRanges", "gimlet/num.arities"], loops := true, plainKeys := false, apart := false, laid := [("unicode/utf8.acceptRanges", laid_unicode_utf8_acceptRanges), ("gimlet/num.arities", laid_gimlet_num_arities), ("gimlet/instr.names", laid_gimlet_instr_names), ("unicode/utf8.first", laid_unicode_utf8_first)] }
def ValidTellsSaid : Prop := validTellsRow.holds Tryz.pinned (OpenSpec.ofChange validTellsSpec)

/-- ITS FALSE NEIGHBOUR: 'it returns false'. Refute it at one input. -/
def validTellsWrong : ChangeSpec := { name := "validTells", fn := fun _ => fun
  | [d1, d2] => { results := [.lit (.bool false)], args := [d1, d2] }
  | _ => none }
def ValidTellsWrongFalsely : Prop := validTellsRow.holds Tryz.pinned (OpenSpec.ofChange validTellsWrong)

/- THE SECOND FORM. 'bulk': how many values and letters a reading holds, each counted each time it is reached (what is shared counts as often as it is met; a slice's spare places count too). A statement '..UptoSaid' is the law's where the arguments, and the package variables that the reading takes, are together of bulk at most 1048576: NARROWER than '..Said'. Prove '..Said' where nothing that the law and all that it calls make is longer than what came in: it says more and counts as full. Else prove '..UptoSaid'. A law counts once. -/
mutual
def uptoBulk {H : Type} : DataW H → Nat
  | .lit (.string bytes) => bytes.length + 1
  | .lit _ => 1
  | .nil => 1
  | .ptr d => uptoBulk d + 1
  | .slice elems spare => uptoBulkAll elems + uptoBulkAll spare + 1
  | .agg parts => uptoBulkAll parts + 1
  | .iface _ d => uptoBulk d + 1
  | .map entries => uptoBulkEntries entries + 1
  | .held _ => 1
def uptoBulkAll {H : Type} : List (DataW H) → Nat
  | [] => 0
  | d :: r => uptoBulk d + uptoBulkAll r
def uptoBulkEntries {H : Type} : List (Lit × DataW H) → Nat
  | [] => 0
  | x :: r => uptoBulkEntry x + uptoBulkEntries r
def uptoBulkEntry {H : Type} : Lit × DataW H → Nat
  | (.string bytes, d) => bytes.length + uptoBulk d + 1
  | (_, d) => uptoBulk d + 1
 end
def uptoSmall : (H : Type) → List (DataW H) → Bool := fun _ ds => decide (uptoBulkAll ds ≤ 1048576)
def OpenSpec.upto (s : _root_.Go.ChangeSpec) : _root_.Go.OpenSpec := { _root_.Go.OpenSpec.ofChange s with cond := some uptoSmall }

/-- 'gimletlaw13.PlaceScript', WHERE WHAT IT READS IS OF BULK AT MOST 1048576: true; the input reads as it did. -/
def placeScriptUptoRow : OpenClaim := { program := "ytckdnhafookcgaagreatdoor", sum := "e07f3e4e9239825faff629a5e876564b76decd2c0e3e19102bde46dab66f9b44", func := "gimlet/gimletlaw13.PlaceScript", spec := "placeScript", unfollowed := true, recurses := true, named := ["gimlet/instr.names", "unicode/utf8.first", "unicode/utf8.acceptRanges", "gimlet/num.arities"], loops := true, plainKeys := false, apart := false, laid := [("unicode/utf8.acceptRanges", laid_unicode_utf8_acceptRanges), ("gimlet/num.arities", laid_gimlet_num_arities), ("gimlet/instr.names", laid_gimlet_instr_names), ("unicode/utf8.first", laid_unicode_utf8_first)], narrowed := true }
def PlaceScriptUptoSaid : Prop := placeScriptUptoRow.holds Tryz.pinned (OpenSpec.upto placeScriptSpec)

/-- 'gimletlaw13.PlaceNone', WHERE WHAT IT READS IS OF BULK AT MOST 1048576: true; the input reads as it did. -/
def placeNoneUptoRow : OpenClaim := { program := "ytckdnhafookcgaagreatdoor", sum := "e07f3e4e9239825faff629a5e876564b76decd2c0e3e19102bde46dab66f9b44", func := "gimlet/gimletlaw13.PlaceNone", spec := "placeNone", unfollowed := true, recurses := true, named := ["gimlet/instr.names", "unicode/utf8.first", "unicode/utf8.acceptRanges", "gimlet/num.arities"], plainKeys := false, apart := false, laid := [("unicode/utf8.acceptRanges", laid_unicode_utf8_acceptRanges), ("gimlet/num.arities", laid_gimlet_num_arities), ("gimlet/instr.names", laid_gimlet_instr_names), ("unicode/utf8.first", laid_unicode_utf8_first)], narrowed := true }
def PlaceNoneUptoSaid : Prop := placeNoneUptoRow.holds Tryz.pinned (OpenSpec.upto placeNoneSpec)

/-- 'gimletlaw13.PlaceApart', WHERE WHAT IT READS IS OF BULK AT MOST 1048576: true; the input reads as it did. -/
def placeApartUptoRow : OpenClaim := { program := "ytckdnhafookcgaagreatdoor", sum := "e07f3e4e9239825faff629a5e876564b76decd2c0e3e19102bde46dab66f9b44", func := "gimlet/gimletlaw13.PlaceApart", spec := "placeApart", unfollowed := true, recurses := true, named := ["gimlet/instr.names", "unicode/utf8.first", "unicode/utf8.acceptRanges", "gimlet/num.arities"], loops := true, plainKeys := false, apart := false, laid := [("unicode/utf8.acceptRanges", laid_unicode_utf8_acceptRanges), ("gimlet/num.arities", laid_gimlet_num_arities), ("gimlet/instr.names", laid_gimlet_instr_names), ("unicode/utf8.first", laid_unicode_utf8_first)], narrowed := true }
def PlaceApartUptoSaid : Prop := placeApartUptoRow.holds Tryz.pinned (OpenSpec.upto placeApartSpec)

/-- 'gimletlaw13.PlaceReady', WHERE WHAT IT READS IS OF BULK AT MOST 1048576: true; the input reads as it did. -/
def placeReadyUptoRow : OpenClaim := { program := "ytckdnhafookcgaagreatdoor", sum := "e07f3e4e9239825faff629a5e876564b76decd2c0e3e19102bde46dab66f9b44", func := "gimlet/gimletlaw13.PlaceReady", spec := "placeReady", unfollowed := true, recurses := true, named := ["gimlet/instr.names", "unicode/utf8.first", "unicode/utf8.acceptRanges", "gimlet/num.arities"], loops := true, plainKeys := false, apart := false, laid := [("unicode/utf8.acceptRanges", laid_unicode_utf8_acceptRanges), ("gimlet/num.arities", laid_gimlet_num_arities), ("gimlet/instr.names", laid_gimlet_instr_names), ("unicode/utf8.first", laid_unicode_utf8_first)], narrowed := true }
def PlaceReadyUptoSaid : Prop := placeReadyUptoRow.holds Tryz.pinned (OpenSpec.upto placeReadySpec)

/-- 'gimletlaw13.PlaceKnown', WHERE WHAT IT READS IS OF BULK AT MOST 1048576: true; the input reads as it did. -/
def placeKnownUptoRow : OpenClaim := { program := "ytckdnhafookcgaagreatdoor", sum := "e07f3e4e9239825faff629a5e876564b76decd2c0e3e19102bde46dab66f9b44", func := "gimlet/gimletlaw13.PlaceKnown", spec := "placeKnown", unfollowed := true, recurses := true, named := ["gimlet/instr.names", "unicode/utf8.first", "unicode/utf8.acceptRanges", "gimlet/num.arities"], plainKeys := false, apart := false, laid := [("unicode/utf8.acceptRanges", laid_unicode_utf8_acceptRanges), ("gimlet/num.arities", laid_gimlet_num_arities), ("gimlet/instr.names", laid_gimlet_instr_names), ("unicode/utf8.first", laid_unicode_utf8_first)], narrowed := true }
def PlaceKnownUptoSaid : Prop := placeKnownUptoRow.holds Tryz.pinned (OpenSpec.upto placeKnownSpec)

/-- 'gimletlaw11.ValidParts', WHERE WHAT IT READS IS OF BULK AT MOST 1048576: true; the input reads as it did. -/
def validPartsUptoRow : OpenClaim := { program := "ytckdnhafookcgaagreatdoor", sum := "e07f3e4e9239825faff629a5e876564b76decd2c0e3e19102bde46dab66f9b44", func := "gimlet/gimletlaw11.ValidParts", spec := "validParts", unfollowed := true, recurses := true, named := ["gimlet/instr.names", "unicode/utf8.first", "unicode/utf8.acceptRanges", "gimlet/num.arities"], loops := true, plainKeys := false, apart := false, laid := [("unicode/utf8.acceptRanges", laid_unicode_utf8_acceptRanges), ("gimlet/num.arities", laid_gimlet_num_arities), ("gimlet/instr.names", laid_gimlet_instr_names), ("unicode/utf8.first", laid_unicode_utf8_first)], narrowed := true }
def ValidPartsUptoSaid : Prop := validPartsUptoRow.holds Tryz.pinned (OpenSpec.upto validPartsSpec)

/-- 'gimletlaw11.ValidBodies', WHERE WHAT IT READS IS OF BULK AT MOST 1048576: true; the input reads as it did. -/
def validBodiesUptoRow : OpenClaim := { program := "ytckdnhafookcgaagreatdoor", sum := "e07f3e4e9239825faff629a5e876564b76decd2c0e3e19102bde46dab66f9b44", func := "gimlet/gimletlaw11.ValidBodies", spec := "validBodies", unfollowed := true, recurses := true, named := ["gimlet/instr.names", "unicode/utf8.first", "unicode/utf8.acceptRanges", "gimlet/num.arities"], loops := true, plainKeys := false, apart := false, laid := [("unicode/utf8.acceptRanges", laid_unicode_utf8_acceptRanges), ("gimlet/num.arities", laid_gimlet_num_arities), ("gimlet/instr.names", laid_gimlet_instr_names), ("unicode/utf8.first", laid_unicode_utf8_first)], narrowed := true }
def ValidBodiesUptoSaid : Prop := validBodiesUptoRow.holds Tryz.pinned (OpenSpec.upto validBodiesSpec)

/-- 'gimletlaw11.ValidTells', WHERE WHAT IT READS IS OF BULK AT MOST 1048576: true; the input reads as it did. -/
def validTellsUptoRow : OpenClaim := { program := "ytckdnhafookcgaagreatdoor", sum := "e07f3e4e9239825faff629a5e876564b76decd2c0e3e19102bde46dab66f9b44", func := "gimlet/gimletlaw11.ValidTells", spec := "validTells", unfollowed := true, recurses := true, named := ["gimlet/instr.names", "unicode/utf8.first", "unicode/utf8.acceptRanges", "gimlet/num.arities"], loops := true, plainKeys := false, apart := false, laid := [("unicode/utf8.acceptRanges", laid_unicode_utf8_acceptRanges), ("gimlet/num.arities", laid_gimlet_num_arities), ("gimlet/instr.names", laid_gimlet_instr_names), ("unicode/utf8.first", laid_unicode_utf8_first)], narrowed := true }
def ValidTellsUptoSaid : Prop := validTellsUptoRow.holds Tryz.pinned (OpenSpec.upto validTellsSpec)

end Rows
end Go.Proofs.YtckdnhafookcgaaGreatDoor
