/-
  NARROWER THAN 'FOR EVERY INPUT', by the rows' own cells (each row's printed sentence says how): BodyPuts: loops, laid · BodyGets: laid · BodyDeep: laid · BodyBack: loops, laid · BodyCut: loops, laid · BodyKnown: laid.
  DERIVED. THE GIVEN ROWS OF THIS SEAT. 6 by the template 'for every input the law returns true; each argument reads behind the call as it read before'; 0 by the template 'total and deterministic' (their statements: YtcjamlgdidiaeaaDoorTotals.lean).
  GIVEN WITH THE SEED: the statements are not yours to turn. If you find one false, say at which input.
  Laid BY PROGRAM, IN A SANDBOX (cutbox-rows.mjs): the forced cells as the released guide's own fill.sh prints them over the translation e4bb89b99ab7a809… (all of the seat's roots in one cut). By AI agents, Wed Nov 11 2026. No macro, syntax, notation, axiom, sorry.
-/
import Derived.Test.YtcjamlgdidiaeaaDoorChecked
import GoSem.Claim
import GoSem.ClaimJoined
import GoSem.ClaimMapViews
import Derived.JoinedTies
import Derived.KernelRfl
namespace Go.Proofs.YtcjamlgdidiaeaaDoor
/- THE CELL 'sum', in the pinned program and in every row, IS THE sha256 OF THE DUMP (.gsa) THAT YtcjamlgdidiaeaaDoorProg.lean LOADS. Nothing in Lean hashes anything: it is a label: what it is worth is what the hold of that sum in a sandbox is worth. -/
noncomputable def Tryd.pinned : Pinned := { name := "ytcjamlgdidiaeaadoor", sum := "e4bb89b99ab7a80936b0e0af607798d9fd01a7c4e90baa97351e27895feb3213", checked := Tryd.checked }
namespace Rows
def none {H : Type} : Left H := { results := [], args := [] }

/- WHAT THE LISTED PACKAGE-LEVEL VARIABLES READ AS WHEN THE CALL BEGINS. Each datum BY PROGRAM (the guide's laid-datum.mjs) off the statement by which the dump's own 'gosem.cut.vars' lays the variable. In a bare row this is a premise. The card (YtcjamlgdidiaeaaDoorCards.lean) ties it to the program's text. -/
def laid_gimlet_instr_names {H : Type} : DataW H := .agg [.lit (.string [117, 110, 114, 101, 97, 99, 104, 97, 98, 108, 101]), .lit (.string [110, 111, 112]), .lit (.string [98, 108, 111, 99, 107]), .lit (.string [108, 111, 111, 112]), .lit (.string [105, 102]), .lit (.string []), .lit (.string []), .lit (.string []), .lit (.string []), .lit (.string []), .lit (.string []), .lit (.string []), .lit (.string [98, 114]), .lit (.string [98, 114, 95, 105, 102]), .lit (.string [98, 114, 95, 116, 97, 98, 108, 101]), .lit (.string [114, 101, 116, 117, 114, 110]), .lit (.string [99, 97, 108, 108]), .lit (.string [99, 97, 108, 108, 95, 105, 110, 100, 105, 114, 101, 99, 116]), .lit (.string []), .lit (.string []), .lit (.string []), .lit (.string []), .lit (.string []), .lit (.string []), .lit (.string []), .lit (.string []), .lit (.string [100, 114, 111, 112]), .lit (.string [115, 101, 108, 101, 99, 116]), .lit (.string []), .lit (.string []), .lit (.string []), .lit (.string []), .lit (.string [108, 111, 99, 97, 108, 46, 103, 101, 116]), .lit (.string [108, 111, 99, 97, 108, 46, 115, 101, 116]), .lit (.string [108, 111, 99, 97, 108, 46, 116, 101, 101]), .lit (.string [103, 108, 111, 98, 97, 108, 46, 103, 101, 116]), .lit (.string [103, 108, 111, 98, 97, 108, 46, 115, 101, 116]), .lit (.string []), .lit (.string []), .lit (.string []), .lit (.string [105, 51, 50, 46, 108, 111, 97, 100]), .lit (.string []), .lit (.string []), .lit (.string []), .lit (.string [105, 51, 50, 46, 108, 111, 97, 100, 56, 95, 115]), .lit (.string [105, 51, 50, 46, 108, 111, 97, 100, 56, 95, 117]), .lit (.string [105, 51, 50, 46, 108, 111, 97, 100, 49, 54, 95, 115]), .lit (.string [105, 51, 50, 46, 108, 111, 97, 100, 49, 54, 95, 117]), .lit (.string []), .lit (.string []), .lit (.string []), .lit (.string []), .lit (.string []), .lit (.string []), .lit (.string [105, 51, 50, 46, 115, 116, 111, 114, 101]), .lit (.string []), .lit (.string []), .lit (.string []), .lit (.string [105, 51, 50, 46, 115, 116, 111, 114, 101, 56]), .lit (.string [105, 51, 50, 46, 115, 116, 111, 114, 101, 49, 54]), .lit (.string []), .lit (.string []), .lit (.string []), .lit (.string [109, 101, 109, 111, 114, 121, 46, 115, 105, 122, 101]), .lit (.string [109, 101, 109, 111, 114, 121, 46, 103, 114, 111, 119]), .lit (.string [105, 51, 50, 46, 99, 111, 110, 115, 116]), .lit (.string []), .lit (.string []), .lit (.string []), .lit (.string [105, 51, 50, 46, 101, 113, 122]), .lit (.string [105, 51, 50, 46, 101, 113]), .lit (.string [105, 51, 50, 46, 110, 101]), .lit (.string [105, 51, 50, 46, 108, 116, 95, 115]), .lit (.string [105, 51, 50, 46, 108, 116, 95, 117]), .lit (.string [105, 51, 50, 46, 103, 116, 95, 115]), .lit (.string [105, 51, 50, 46, 103, 116, 95, 117]), .lit (.string [105, 51, 50, 46, 108, 101, 95, 115]), .lit (.string [105, 51, 50, 46, 108, 101, 95, 117]), .lit (.string [105, 51, 50, 46, 103, 101, 95, 115]), .lit (.string [105, 51, 50, 46, 103, 101, 95, 117]), .lit (.string []), .lit (.string []), .lit (.string []), .lit (.string []), .lit (.string []), .lit (.string []), .lit (.string []), .lit (.string []), .lit (.string []), .lit (.string []), .lit (.string []), .lit (.string []), .lit (.string []), .lit (.string []), .lit (.string []), .lit (.string []), .lit (.string []), .lit (.string []), .lit (.string []), .lit (.string []), .lit (.string []), .lit (.string []), .lit (.string []), .lit (.string [105, 51, 50, 46, 99, 108, 122]), .lit (.string [105, 51, 50, 46, 99, 116, 122]), .lit (.string [105, 51, 50, 46, 112, 111, 112, 99, 110, 116]), .lit (.string [105, 51, 50, 46, 97, 100, 100]), .lit (.string [105, 51, 50, 46, 115, 117, 98]), .lit (.string [105, 51, 50, 46, 109, 117, 108]), .lit (.string [105, 51, 50, 46, 100, 105, 118, 95, 115]), .lit (.string [105, 51, 50, 46, 100, 105, 118, 95, 117]), .lit (.string [105, 51, 50, 46, 114, 101, 109, 95, 115]), .lit (.string [105, 51, 50, 46, 114, 101, 109, 95, 117]), .lit (.string [105, 51, 50, 46, 97, 110, 100]), .lit (.string [105, 51, 50, 46, 111, 114]), .lit (.string [105, 51, 50, 46, 120, 111, 114]), .lit (.string [105, 51, 50, 46, 115, 104, 108]), .lit (.string [105, 51, 50, 46, 115, 104, 114, 95, 115]), .lit (.string [105, 51, 50, 46, 115, 104, 114, 95, 117]), .lit (.string [105, 51, 50, 46, 114, 111, 116, 108]), .lit (.string [105, 51, 50, 46, 114, 111, 116, 114])]

/-- 'gimletlaw06.BodyPuts': WHATEVER THE INPUT: true; the input reads as it did. -/
def bodyPutsSpec : ChangeSpec := { name := "bodyPuts", fn := fun _ => fun
  | [d] => { results := [.lit (.bool true)], args := [d] }
  | _ => none }
def bodyPutsRow : OpenClaim := { program := "ytcjamlgdidiaeaadoor", sum := "e4bb89b99ab7a80936b0e0af607798d9fd01a7c4e90baa97351e27895feb3213", func := "gimlet/gimletlaw06.BodyPuts", spec := "bodyPuts", unfollowed := true, recurses := true, named := ["gimlet/instr.names"], loops := true, apart := false, laid := [("gimlet/instr.names", laid_gimlet_instr_names)] }
def BodyPutsSaid : Prop := bodyPutsRow.holds Tryd.pinned (OpenSpec.ofChange bodyPutsSpec)

/-- ITS FALSE NEIGHBOUR: 'it returns false'. Refute it at one input. -/
def bodyPutsWrong : ChangeSpec := { name := "bodyPuts", fn := fun _ => fun
  | [d] => { results := [.lit (.bool false)], args := [d] }
  | _ => none }
def BodyPutsWrongFalsely : Prop := bodyPutsRow.holds Tryd.pinned (OpenSpec.ofChange bodyPutsWrong)

/-- 'gimletlaw06.BodyGets': WHATEVER THE INPUT: true; the input reads as it did. -/
def bodyGetsSpec : ChangeSpec := { name := "bodyGets", fn := fun _ => fun
  | [d1, d2] => { results := [.lit (.bool true)], args := [d1, d2] }
  | _ => none }
def bodyGetsRow : OpenClaim := { program := "ytcjamlgdidiaeaadoor", sum := "e4bb89b99ab7a80936b0e0af607798d9fd01a7c4e90baa97351e27895feb3213", func := "gimlet/gimletlaw06.BodyGets", spec := "bodyGets", unfollowed := true, recurses := true, named := ["gimlet/instr.names"], apart := false, laid := [("gimlet/instr.names", laid_gimlet_instr_names)] }
def BodyGetsSaid : Prop := bodyGetsRow.holds Tryd.pinned (OpenSpec.ofChange bodyGetsSpec)

/-- ITS FALSE NEIGHBOUR: 'it returns false'. Refute it at one input. -/
def bodyGetsWrong : ChangeSpec := { name := "bodyGets", fn := fun _ => fun
  | [d1, d2] => { results := [.lit (.bool false)], args := [d1, d2] }
  | _ => none }
def BodyGetsWrongFalsely : Prop := bodyGetsRow.holds Tryd.pinned (OpenSpec.ofChange bodyGetsWrong)

/-- 'gimletlaw06.BodyDeep': WHATEVER THE INPUT: true; the input reads as it did. -/
def bodyDeepSpec : ChangeSpec := { name := "bodyDeep", fn := fun _ => fun
  | [d1, d2] => { results := [.lit (.bool true)], args := [d1, d2] }
  | _ => none }
def bodyDeepRow : OpenClaim := { program := "ytcjamlgdidiaeaadoor", sum := "e4bb89b99ab7a80936b0e0af607798d9fd01a7c4e90baa97351e27895feb3213", func := "gimlet/gimletlaw06.BodyDeep", spec := "bodyDeep", unfollowed := true, recurses := true, named := ["gimlet/instr.names"], apart := false, laid := [("gimlet/instr.names", laid_gimlet_instr_names)] }
def BodyDeepSaid : Prop := bodyDeepRow.holds Tryd.pinned (OpenSpec.ofChange bodyDeepSpec)

/-- ITS FALSE NEIGHBOUR: 'it returns false'. Refute it at one input. -/
def bodyDeepWrong : ChangeSpec := { name := "bodyDeep", fn := fun _ => fun
  | [d1, d2] => { results := [.lit (.bool false)], args := [d1, d2] }
  | _ => none }
def BodyDeepWrongFalsely : Prop := bodyDeepRow.holds Tryd.pinned (OpenSpec.ofChange bodyDeepWrong)

/-- 'gimletlaw06.BodyBack': WHATEVER THE INPUT: true; the input reads as it did. -/
def bodyBackSpec : ChangeSpec := { name := "bodyBack", fn := fun _ => fun
  | [d1, d2] => { results := [.lit (.bool true)], args := [d1, d2] }
  | _ => none }
def bodyBackRow : OpenClaim := { program := "ytcjamlgdidiaeaadoor", sum := "e4bb89b99ab7a80936b0e0af607798d9fd01a7c4e90baa97351e27895feb3213", func := "gimlet/gimletlaw06.BodyBack", spec := "bodyBack", unfollowed := true, recurses := true, named := ["gimlet/instr.names"], loops := true, apart := false, laid := [("gimlet/instr.names", laid_gimlet_instr_names)] }
def BodyBackSaid : Prop := bodyBackRow.holds Tryd.pinned (OpenSpec.ofChange bodyBackSpec)

/-- ITS FALSE NEIGHBOUR: 'it returns false'. Refute it at one input. -/
def bodyBackWrong : ChangeSpec := { name := "bodyBack", fn := fun _ => fun
  | [d1, d2] => { results := [.lit (.bool false)], args := [d1, d2] }
  | _ => none }
def BodyBackWrongFalsely : Prop := bodyBackRow.holds Tryd.pinned (OpenSpec.ofChange bodyBackWrong)

/-- 'gimletlaw06.BodyCut': WHATEVER THE INPUT: true; the input reads as it did. -/
def bodyCutSpec : ChangeSpec := { name := "bodyCut", fn := fun _ => fun
  | [d1, d2] => { results := [.lit (.bool true)], args := [d1, d2] }
  | _ => none }
def bodyCutRow : OpenClaim := { program := "ytcjamlgdidiaeaadoor", sum := "e4bb89b99ab7a80936b0e0af607798d9fd01a7c4e90baa97351e27895feb3213", func := "gimlet/gimletlaw06.BodyCut", spec := "bodyCut", unfollowed := true, recurses := true, named := ["gimlet/instr.names"], loops := true, apart := false, laid := [("gimlet/instr.names", laid_gimlet_instr_names)] }
def BodyCutSaid : Prop := bodyCutRow.holds Tryd.pinned (OpenSpec.ofChange bodyCutSpec)

/-- ITS FALSE NEIGHBOUR: 'it returns false'. Refute it at one input. -/
def bodyCutWrong : ChangeSpec := { name := "bodyCut", fn := fun _ => fun
  | [d1, d2] => { results := [.lit (.bool false)], args := [d1, d2] }
  | _ => none }
def BodyCutWrongFalsely : Prop := bodyCutRow.holds Tryd.pinned (OpenSpec.ofChange bodyCutWrong)

/-- 'gimletlaw06.BodyKnown': WHATEVER THE INPUT: true; the input reads as it did. -/
def bodyKnownSpec : ChangeSpec := { name := "bodyKnown", fn := fun _ => fun
  | [] => { results := [.lit (.bool true)], args := [] }
  | _ => none }
def bodyKnownRow : OpenClaim := { program := "ytcjamlgdidiaeaadoor", sum := "e4bb89b99ab7a80936b0e0af607798d9fd01a7c4e90baa97351e27895feb3213", func := "gimlet/gimletlaw06.BodyKnown", spec := "bodyKnown", unfollowed := true, recurses := true, named := ["gimlet/instr.names"], apart := false, laid := [("gimlet/instr.names", laid_gimlet_instr_names)] }
def BodyKnownSaid : Prop := bodyKnownRow.holds Tryd.pinned (OpenSpec.ofChange bodyKnownSpec)

/-- ITS FALSE NEIGHBOUR: 'it returns false'. Refute it at one input. -/
def bodyKnownWrong : ChangeSpec := { name := "bodyKnown", fn := fun _ => fun
  | [] => { results := [.lit (.bool false)], args := [] }
  | _ => none }
def BodyKnownWrongFalsely : Prop := bodyKnownRow.holds Tryd.pinned (OpenSpec.ofChange bodyKnownWrong)

/- THE SECOND FORM. 'bulk': how many values and letters a reading holds, each counted each time it is reached (what is shared counts as often as it is met; a slice's spare places count too). A statement '..UptoSaid' is the law's where the arguments, and the package variables that the reading takes, are together of bulk at most 1048576: NARROWER than '..Said'. Prove '..Said' where nothing that the law and all that it calls make is longer than what came in: it says more and counts as full. Else prove '..UptoSaid'. A law counts once. -/
mutual
def uptoBulk {H : Type} : DataW H → Nat
  | .lit (.string bytes) => bytes.length + 1
  | .lit _ => 1
  | .nil => 1
  | .ptr d => uptoBulk d + 1
  | .slice elems spare => uptoBulkAll elems + uptoBulkAll spare + 1
  | .agg parts => uptoBulkAll parts + 1
  | .iface _ d => uptoBulk d + 1
  | .map entries => uptoBulkEntries entries + 1
  | .held _ => 1
def uptoBulkAll {H : Type} : List (DataW H) → Nat
  | [] => 0
  | d :: r => uptoBulk d + uptoBulkAll r
def uptoBulkEntries {H : Type} : List (Lit × DataW H) → Nat
  | [] => 0
  | x :: r => uptoBulkEntry x + uptoBulkEntries r
def uptoBulkEntry {H : Type} : Lit × DataW H → Nat
  | (.string bytes, d) => bytes.length + uptoBulk d + 1
  | (_, d) => uptoBulk d + 1
 end
def uptoSmall : (H : Type) → List (DataW H) → Bool := fun _ ds => decide (uptoBulkAll ds ≤ 1048576)
def OpenSpec.upto (s : _root_.Go.ChangeSpec) : _root_.Go.OpenSpec := { _root_.Go.OpenSpec.ofChange s with cond := some uptoSmall }

/-- 'gimletlaw06.BodyPuts', WHERE WHAT IT READS IS OF BULK AT MOST 1048576: true; the input reads as it did. -/
def bodyPutsUptoRow : OpenClaim := { program := "ytcjamlgdidiaeaadoor", sum := "e4bb89b99ab7a80936b0e0af607798d9fd01a7c4e90baa97351e27895feb3213", func := "gimlet/gimletlaw06.BodyPuts", spec := "bodyPuts", unfollowed := true, recurses := true, named := ["gimlet/instr.names"], loops := true, apart := false, laid := [("gimlet/instr.names", laid_gimlet_instr_names)], narrowed := true }
def BodyPutsUptoSaid : Prop := bodyPutsUptoRow.holds Tryd.pinned (OpenSpec.upto bodyPutsSpec)

/-- 'gimletlaw06.BodyGets', WHERE WHAT IT READS IS OF BULK AT MOST 1048576: true; the input reads as it did. -/
def bodyGetsUptoRow : OpenClaim := { program := "ytcjamlgdidiaeaadoor", sum := "e4bb89b99ab7a80936b0e0af607798d9fd01a7c4e90baa97351e27895feb3213", func := "gimlet/gimletlaw06.BodyGets", spec := "bodyGets", unfollowed := true, recurses := true, named := ["gimlet/instr.names"], apart := false, laid := [("gimlet/instr.names", laid_gimlet_instr_names)], narrowed := true }
def BodyGetsUptoSaid : Prop := bodyGetsUptoRow.holds Tryd.pinned (OpenSpec.upto bodyGetsSpec)

/-- 'gimletlaw06.BodyDeep', WHERE WHAT IT READS IS OF BULK AT MOST 1048576: true; the input reads as it did. -/
def bodyDeepUptoRow : OpenClaim := { program := "ytcjamlgdidiaeaadoor", sum := "e4bb89b99ab7a80936b0e0af607798d9fd01a7c4e90baa97351e27895feb3213", func := "gimlet/gimletlaw06.BodyDeep", spec := "bodyDeep", unfollowed := true, recurses := true, named := ["gimlet/instr.names"], apart := false, laid := [("gimlet/instr.names", laid_gimlet_instr_names)], narrowed := true }
def BodyDeepUptoSaid : Prop := bodyDeepUptoRow.holds Tryd.pinned (OpenSpec.upto bodyDeepSpec)

/-- 'gimletlaw06.BodyBack', WHERE WHAT IT READS IS OF BULK AT MOST 1048576: true; the input reads as it did. -/
def bodyBackUptoRow : OpenClaim := { program := "ytcjamlgdidiaeaadoor", sum := "e4bb89b99ab7a80936b0e0af607798d9fd01a7c4e90baa97351e27895feb3213", func := "gimlet/gimletlaw06.BodyBack", spec := "bodyBack", unfollowed := true, recurses := true, named := ["gimlet/instr.names"], loops := true, apart := false, laid := [("gimlet/instr.names", laid_gimlet_instr_names)], narrowed := true }
def BodyBackUptoSaid : Prop := bodyBackUptoRow.holds Tryd.pinned (OpenSpec.upto bodyBackSpec)

/-- 'gimletlaw06.BodyCut', WHERE WHAT IT READS IS OF BULK AT MOST 1048576: true; the input reads as it did. -/
def bodyCutUptoRow : OpenClaim := { program := "ytcjamlgdidiaeaadoor", sum := "e4bb89b99ab7a80936b0e0af607798d9fd01a7c4e90baa97351e27895feb3213", func := "gimlet/gimletlaw06.BodyCut", spec := "bodyCut", unfollowed := true, recurses := true, named := ["gimlet/instr.names"], loops := true, apart := false, laid := [("gimlet/instr.names", laid_gimlet_instr_names)], narrowed := true }
def BodyCutUptoSaid : Prop := bodyCutUptoRow.holds Tryd.pinned (OpenSpec.upto bodyCutSpec)

/-- 'gimletlaw06.BodyKnown', WHERE WHAT IT READS IS OF BULK AT MOST 1048576: true; the input reads as it did. -/
def bodyKnownUptoRow : OpenClaim := { program := "ytcjamlgdidiaeaadoor", sum := "e4bb89b99ab7a80936b0e0af607798d9fd01a7c4e90baa97351e27895feb3213", func := "gimlet/gimletlaw06.BodyKnown", spec := "bodyKnown", unfollowed := true, recurses := true, named := ["gimlet/instr.names"], apart := false, laid := [("gimlet/instr.names", laid_gimlet_instr_names)], narrowed := true }
def BodyKnownUptoSaid : Prop := bodyKnownUptoRow.holds Tryd.pinned (OpenSpec.upto bodyKnownSpec)

end Rows
end Go.Proofs.YtcjamlgdidiaeaaDoor
