/-
  NARROWER THAN 'FOR EVERY INPUT', by the rows' own cells (each row's printed sentence says how): MemoryScript: laid · MemoryNone: laid · MemoryKeeps: laid · MemoryBounds: laid · MemoryKnown: laid.
  DERIVED. THE GIVEN ROWS OF THIS SEAT. 5 by the template 'for every input the law returns true; each argument reads behind the call as it read before'; 0 by the template 'total and deterministic' (their statements: YtcgjlbpokmlkbaaDoorTotals.lean).
  GIVEN WITH THE SEED: the statements are not yours to turn. If you find one false, say at which input.
  Laid BY PROGRAM, IN A SANDBOX (cutbox-rows.mjs): the forced cells as the released guide's own fill.sh prints them over the translation 3126bf63beee8383… (all of the seat's roots in one cut). By AI agents, Wed Nov 11 2026. No macro, syntax, notation, axiom, sorry.
-/
import Derived.Test.YtcgjlbpokmlkbaaDoorChecked
import GoSem.Claim
import GoSem.ClaimJoined
import GoSem.ClaimMapViews
import Derived.JoinedTies
import Derived.KernelRfl
namespace Go.Proofs.YtcgjlbpokmlkbaaDoor
/- THE CELL 'sum', in the pinned program and in every row, IS THE sha256 OF THE DUMP (.gsa) THAT YtcgjlbpokmlkbaaDoorProg.lean LOADS. Nothing in Lean hashes anything: it is a label: what it is worth is what the hold of that sum in a sandbox is worth. -/
noncomputable def Tryd.pinned : Pinned := { name := "ytcgjlbpokmlkbaadoor", sum := "3126bf63beee838301463ee612ef8a88e320be1e08ee3058ab8fab40e62e599d", checked := Tryd.checked }
namespace Rows
def none {H : Type} : Left H := { results := [], args := [] }

/- WHAT THE LISTED PACKAGE-LEVEL VARIABLES READ AS WHEN THE CALL BEGINS. Each datum BY PROGRAM (the guide's laid-datum.mjs) off the statement by which the dump's own 'gosem.cut.vars' lays the variable. In a bare row this is a premise. The card (YtcgjlbpokmlkbaaDoorCards.lean) ties it to the program's text. -/
def laid_gimlet_num_arities {H : Type} : DataW H := .agg [.lit (.int .u8 0), .lit (.int .u8 0), .lit (.int .u8 0), .lit (.int .u8 0), .lit (.int .u8 0), .lit (.int .u8 0), .lit (.int .u8 0), .lit (.int .u8 0), .lit (.int .u8 0), .lit (.int .u8 0), .lit (.int .u8 0), .lit (.int .u8 0), .lit (.int .u8 0), .lit (.int .u8 0), .lit (.int .u8 0), .lit (.int .u8 0), .lit (.int .u8 0), .lit (.int .u8 0), .lit (.int .u8 0), .lit (.int .u8 0), .lit (.int .u8 0), .lit (.int .u8 0), .lit (.int .u8 0), .lit (.int .u8 0), .lit (.int .u8 0), .lit (.int .u8 0), .lit (.int .u8 0), .lit (.int .u8 0), .lit (.int .u8 0), .lit (.int .u8 0), .lit (.int .u8 0), .lit (.int .u8 0), .lit (.int .u8 0), .lit (.int .u8 0), .lit (.int .u8 0), .lit (.int .u8 0), .lit (.int .u8 0), .lit (.int .u8 0), .lit (.int .u8 0), .lit (.int .u8 0), .lit (.int .u8 0), .lit (.int .u8 0), .lit (.int .u8 0), .lit (.int .u8 0), .lit (.int .u8 0), .lit (.int .u8 0), .lit (.int .u8 0), .lit (.int .u8 0), .lit (.int .u8 0), .lit (.int .u8 0), .lit (.int .u8 0), .lit (.int .u8 0), .lit (.int .u8 0), .lit (.int .u8 0), .lit (.int .u8 0), .lit (.int .u8 0), .lit (.int .u8 0), .lit (.int .u8 0), .lit (.int .u8 0), .lit (.int .u8 0), .lit (.int .u8 0), .lit (.int .u8 0), .lit (.int .u8 0), .lit (.int .u8 0), .lit (.int .u8 0), .lit (.int .u8 0), .lit (.int .u8 0), .lit (.int .u8 0), .lit (.int .u8 0), .lit (.int .u8 1), .lit (.int .u8 2), .lit (.int .u8 2), .lit (.int .u8 2), .lit (.int .u8 2), .lit (.int .u8 2), .lit (.int .u8 2), .lit (.int .u8 2), .lit (.int .u8 2), .lit (.int .u8 2), .lit (.int .u8 2), .lit (.int .u8 0), .lit (.int .u8 0), .lit (.int .u8 0), .lit (.int .u8 0), .lit (.int .u8 0), .lit (.int .u8 0), .lit (.int .u8 0), .lit (.int .u8 0), .lit (.int .u8 0), .lit (.int .u8 0), .lit (.int .u8 0), .lit (.int .u8 0), .lit (.int .u8 0), .lit (.int .u8 0), .lit (.int .u8 0), .lit (.int .u8 0), .lit (.int .u8 0), .lit (.int .u8 0), .lit (.int .u8 0), .lit (.int .u8 0), .lit (.int .u8 0), .lit (.int .u8 0), .lit (.int .u8 0), .lit (.int .u8 1), .lit (.int .u8 1), .lit (.int .u8 1), .lit (.int .u8 2), .lit (.int .u8 2), .lit (.int .u8 2), .lit (.int .u8 2), .lit (.int .u8 2), .lit (.int .u8 2), .lit (.int .u8 2), .lit (.int .u8 2), .lit (.int .u8 2), .lit (.int .u8 2), .lit (.int .u8 2), .lit (.int .u8 2), .lit (.int .u8 2), .lit (.int .u8 2), .lit (.int .u8 2)]

/-- 'gimletlaw12.MemoryScript': WHATEVER THE INPUT: true; the input reads as it did. -/
def memoryScriptSpec : ChangeSpec := { name := "memoryScript", fn := fun _ => fun
  | [d1, d2] => { results := [.lit (.bool true)], args := [d1, d2] }
  | _ => none }
def memoryScriptRow : OpenClaim := { program := "ytcgjlbpokmlkbaadoor", sum := "3126bf63beee838301463ee612ef8a88e320be1e08ee3058ab8fab40e62e599d", func := "gimlet/gimletlaw12.MemoryScript", spec := "memoryScript", named := ["gimlet/num.arities"], apart := false, laid := [("gimlet/num.arities", laid_gimlet_num_arities)] }
def MemoryScriptSaid : Prop := memoryScriptRow.holds Tryd.pinned (OpenSpec.ofChange memoryScriptSpec)

/-- ITS FALSE NEIGHBOUR: 'it returns false'. Refute it at one input. -/
def memoryScriptWrong : ChangeSpec := { name := "memoryScript", fn := fun _ => fun
  | [d1, d2] => { results := [.lit (.bool false)], args := [d1, d2] }
  | _ => none }
def MemoryScriptWrongFalsely : Prop := memoryScriptRow.holds Tryd.pinned (OpenSpec.ofChange memoryScriptWrong)

/-- 'gimletlaw12.MemoryNone': WHATEVER THE INPUT: true; the input reads as it did. -/
def memoryNoneSpec : ChangeSpec := { name := "memoryNone", fn := fun _ => fun
  | [d1, d2] => { results := [.lit (.bool true)], args := [d1, d2] }
  | _ => none }
def memoryNoneRow : OpenClaim := { program := "ytcgjlbpokmlkbaadoor", sum := "3126bf63beee838301463ee612ef8a88e320be1e08ee3058ab8fab40e62e599d", func := "gimlet/gimletlaw12.MemoryNone", spec := "memoryNone", named := ["gimlet/num.arities"], apart := false, laid := [("gimlet/num.arities", laid_gimlet_num_arities)] }
def MemoryNoneSaid : Prop := memoryNoneRow.holds Tryd.pinned (OpenSpec.ofChange memoryNoneSpec)

/-- ITS FALSE NEIGHBOUR: 'it returns false'. Refute it at one input. -/
def memoryNoneWrong : ChangeSpec := { name := "memoryNone", fn := fun _ => fun
  | [d1, d2] => { results := [.lit (.bool false)], args := [d1, d2] }
  | _ => none }
def MemoryNoneWrongFalsely : Prop := memoryNoneRow.holds Tryd.pinned (OpenSpec.ofChange memoryNoneWrong)

/-- 'gimletlaw12.MemoryKeeps': WHATEVER THE INPUT: true; the input reads as it did. -/
def memoryKeepsSpec : ChangeSpec := { name := "memoryKeeps", fn := fun _ => fun
  | [d1, d2, d3, d4] => { results := [.lit (.bool true)], args := [d1, d2, d3, d4] }
  | _ => none }
def memoryKeepsRow : OpenClaim := { program := "ytcgjlbpokmlkbaadoor", sum := "3126bf63beee838301463ee612ef8a88e320be1e08ee3058ab8fab40e62e599d", func := "gimlet/gimletlaw12.MemoryKeeps", spec := "memoryKeeps", named := ["gimlet/num.arities"], apart := false, laid := [("gimlet/num.arities", laid_gimlet_num_arities)] }
def MemoryKeepsSaid : Prop := memoryKeepsRow.holds Tryd.pinned (OpenSpec.ofChange memoryKeepsSpec)

/-- ITS FALSE NEIGHBOUR: 'it returns false'. Refute it at one input. -/
def memoryKeepsWrong : ChangeSpec := { name := "memoryKeeps", fn := fun _ => fun
  | [d1, d2, d3, d4] => { results := [.lit (.bool false)], args := [d1, d2, d3, d4] }
  | _ => none }
def MemoryKeepsWrongFalsely : Prop := memoryKeepsRow.holds Tryd.pinned (OpenSpec.ofChange memoryKeepsWrong)

/-- 'gimletlaw12.MemoryBounds': WHATEVER THE INPUT: true; the input reads as it did. -/
def memoryBoundsSpec : ChangeSpec := { name := "memoryBounds", fn := fun _ => fun
  | [d1, d2, d3] => { results := [.lit (.bool true)], args := [d1, d2, d3] }
  | _ => none }
def memoryBoundsRow : OpenClaim := { program := "ytcgjlbpokmlkbaadoor", sum := "3126bf63beee838301463ee612ef8a88e320be1e08ee3058ab8fab40e62e599d", func := "gimlet/gimletlaw12.MemoryBounds", spec := "memoryBounds", named := ["gimlet/num.arities"], apart := false, laid := [("gimlet/num.arities", laid_gimlet_num_arities)] }
def MemoryBoundsSaid : Prop := memoryBoundsRow.holds Tryd.pinned (OpenSpec.ofChange memoryBoundsSpec)

/-- ITS FALSE NEIGHBOUR: 'it returns false'. Refute it at one input. -/
def memoryBoundsWrong : ChangeSpec := { name := "memoryBounds", fn := fun _ => fun
  | [d1, d2, d3] => { results := [.lit (.bool false)], args := [d1, d2, d3] }
  | _ => none }
def MemoryBoundsWrongFalsely : Prop := memoryBoundsRow.holds Tryd.pinned (OpenSpec.ofChange memoryBoundsWrong)

/-- 'gimletlaw12.MemoryKnown': WHATEVER THE INPUT: true; the input reads as it did. -/
def memoryKnownSpec : ChangeSpec := { name := "memoryKnown", fn := fun _ => fun
  | [] => { results := [.lit (.bool true)], args := [] }
  | _ => none }
def memoryKnownRow : OpenClaim := { program := "ytcgjlbpokmlkbaadoor", sum := "3126bf63beee838301463ee612ef8a88e320be1e08ee3058ab8fab40e62e599d", func := "gimlet/gimletlaw12.MemoryKnown", spec := "memoryKnown", named := ["gimlet/num.arities"], apart := false, laid := [("gimlet/num.arities", laid_gimlet_num_arities)] }
def MemoryKnownSaid : Prop := memoryKnownRow.holds Tryd.pinned (OpenSpec.ofChange memoryKnownSpec)

/-- ITS FALSE NEIGHBOUR: 'it returns false'. Refute it at one input. -/
def memoryKnownWrong : ChangeSpec := { name := "memoryKnown", fn := fun _ => fun
  | [] => { results := [.lit (.bool false)], args := [] }
  | _ => none }
def MemoryKnownWrongFalsely : Prop := memoryKnownRow.holds Tryd.pinned (OpenSpec.ofChange memoryKnownWrong)

/- THE SECOND FORM. 'bulk': how many values and letters a reading holds, each counted each time it is reached (what is shared counts as often as it is met; a slice's spare places count too). A statement '..UptoSaid' is the law's where the arguments, and the package variables that the reading takes, are together of bulk at most 1048576: NARROWER than '..Said'. Prove '..Said' where nothing that the law and all that it calls make is longer than what came in: it says more and counts as full. Else prove '..UptoSaid'. A law counts once. -/
mutual
def uptoBulk {H : Type} : DataW H → Nat
  | .lit (.string bytes) => bytes.length + 1
  | .lit _ => 1
  | .nil => 1
  | .ptr d => uptoBulk d + 1
  | .slice elems spare => uptoBulkAll elems + uptoBulkAll spare + 1
  | .agg parts => uptoBulkAll parts + 1
  | .iface _ d => uptoBulk d + 1
  | .map entries => uptoBulkEntries entries + 1
  | .held _ => 1
def uptoBulkAll {H : Type} : List (DataW H) → Nat
  | [] => 0
  | d :: r => uptoBulk d + uptoBulkAll r
def uptoBulkEntries {H : Type} : List (Lit × DataW H) → Nat
  | [] => 0
  | x :: r => uptoBulkEntry x + uptoBulkEntries r
def uptoBulkEntry {H : Type} : Lit × DataW H → Nat
  | (.string bytes, d) => bytes.length + uptoBulk d + 1
  | (_, d) => uptoBulk d + 1
 end
def uptoSmall : (H : Type) → List (DataW H) → Bool := fun _ ds => decide (uptoBulkAll ds ≤ 1048576)
def OpenSpec.upto (s : _root_.Go.ChangeSpec) : _root_.Go.OpenSpec := { _root_.Go.OpenSpec.ofChange s with cond := some uptoSmall }

/-- 'gimletlaw12.MemoryScript', WHERE WHAT IT READS IS OF BULK AT MOST 1048576: true; the input reads as it did. -/
def memoryScriptUptoRow : OpenClaim := { program := "ytcgjlbpokmlkbaadoor", sum := "3126bf63beee838301463ee612ef8a88e320be1e08ee3058ab8fab40e62e599d", func := "gimlet/gimletlaw12.MemoryScript", spec := "memoryScript", named := ["gimlet/num.arities"], apart := false, laid := [("gimlet/num.arities", laid_gimlet_num_arities)], narrowed := true }
def MemoryScriptUptoSaid : Prop := memoryScriptUptoRow.holds Tryd.pinned (OpenSpec.upto memoryScriptSpec)

/-- 'gimletlaw12.MemoryNone', WHERE WHAT IT READS IS OF BULK AT MOST 1048576: true; the input reads as it did. -/
def memoryNoneUptoRow : OpenClaim := { program := "ytcgjlbpokmlkbaadoor", sum := "3126bf63beee838301463ee612ef8a88e320be1e08ee3058ab8fab40e62e599d", func := "gimlet/gimletlaw12.MemoryNone", spec := "memoryNone", named := ["gimlet/num.arities"], apart := false, laid := [("gimlet/num.arities", laid_gimlet_num_arities)], narrowed := true }
def MemoryNoneUptoSaid : Prop := memoryNoneUptoRow.holds Tryd.pinned (OpenSpec.upto memoryNoneSpec)

/-- 'gimletlaw12.MemoryKeeps', WHERE WHAT IT READS IS OF BULK AT MOST 1048576: true; the input reads as it did. -/
def memoryKeepsUptoRow : OpenClaim := { program := "ytcgjlbpokmlkbaadoor", sum := "3126bf63beee838301463ee612ef8a88e320be1e08ee3058ab8fab40e62e599d", func := "gimlet/gimletlaw12.MemoryKeeps", spec := "memoryKeeps", named := ["gimlet/num.arities"], apart := false, laid := [("gimlet/num.arities", laid_gimlet_num_arities)], narrowed := true }
def MemoryKeepsUptoSaid : Prop := memoryKeepsUptoRow.holds Tryd.pinned (OpenSpec.upto memoryKeepsSpec)

/-- 'gimletlaw12.MemoryBounds', WHERE WHAT IT READS IS OF BULK AT MOST 1048576: true; the input reads as it did. -/
def memoryBoundsUptoRow : OpenClaim := { program := "ytcgjlbpokmlkbaadoor", sum := "3126bf63beee838301463ee612ef8a88e320be1e08ee3058ab8fab40e62e599d", func := "gimlet/gimletlaw12.MemoryBounds", spec := "memoryBounds", named := ["gimlet/num.arities"], apart := false, laid := [("gimlet/num.arities", laid_gimlet_num_arities)], narrowed := true }
def MemoryBoundsUptoSaid : Prop := memoryBoundsUptoRow.holds Tryd.pinned (OpenSpec.upto memoryBoundsSpec)

/-- 'gimletlaw12.MemoryKnown', WHERE WHAT IT READS IS OF BULK AT MOST 1048576: true; the input reads as it did. -/
def memoryKnownUptoRow : OpenClaim := { program := "ytcgjlbpokmlkbaadoor", sum := "3126bf63beee838301463ee612ef8a88e320be1e08ee3058ab8fab40e62e599d", func := "gimlet/gimletlaw12.MemoryKnown", spec := "memoryKnown", named := ["gimlet/num.arities"], apart := false, laid := [("gimlet/num.arities", laid_gimlet_num_arities)], narrowed := true }
def MemoryKnownUptoSaid : Prop := memoryKnownUptoRow.holds Tryd.pinned (OpenSpec.upto memoryKnownSpec)

end Rows
end Go.Proofs.YtcgjlbpokmlkbaaDoor
