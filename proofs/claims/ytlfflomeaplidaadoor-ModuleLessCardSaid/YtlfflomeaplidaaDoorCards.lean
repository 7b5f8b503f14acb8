/-
  DERIVED. GIVEN WITH THE SEED: THE CARDS: each row of YtlfflomeaplidaaDoorRows.lean that lists a variable, with what it lists TIED to the program's text (the seventh form; the later family's looks); each row that meets fmt, with fmt's text TOLD by the authors' own Lean function (tested against real Go, not proved from fmt's source: count such statements apart). THE CARD IS WHAT COUNTS. Prove the row's statement (the work); the ties are given (YtlfflomeaplidaaDoorTie.lean); close each card by the builder's one call (the guide's Derived/Test/ToyasCard.lean, 'card_holds'). Laid BY PROGRAM, IN A SANDBOX (cutbox-door.mjs). By AI agents, Wed Nov 11 2026. No macro, syntax, notation, axiom, sorry.
-/
import Derived.Test.YtlfflomeaplidaaDoorRows
import GoSem.ClaimSeven
namespace Go.Proofs.YtlfflomeaplidaaDoor
namespace Rows

/-- THE TIED CARD OF 'gimletlaw06.BodyPuts'. -/
def bodyPutsCard : Claim7 := { stood := { row := bodyPutsRow, standIns := [], harness := (true, "dbe3cd183c3a50e03cdd13a90d6134e31c123dcc9d80e525dba24b708890f3e0"), looks := false }, kinds := [], alts := [], laidByText := true, laidKinds := [.data], laidTests := true, laidLooks := .later }
def BodyPutsCardSaid : Prop := Claim7.holds Tryd.pinned (.plain (OpenSpec.ofChange bodyPutsSpec)) bodyPutsCard

/-- THE TIED CARD OF 'gimletlaw07.ModuleLess'. -/
def moduleLessCard : Claim7 := { stood := { row := moduleLessRow, standIns := [], harness := (true, "dbe3cd183c3a50e03cdd13a90d6134e31c123dcc9d80e525dba24b708890f3e0"), looks := false }, kinds := [], alts := [], laidByText := true, laidKinds := [.data, .data, .pinned], laidTests := true, laidLooks := .later }
def ModuleLessCardSaid : Prop := Claim7.holds Tryd.pinned (.plain (OpenSpec.ofChange moduleLessSpec)) moduleLessCard

/-- THE TIED CARD OF 'gimletlaw07.ModuleKnown'. -/
def moduleKnownCard : Claim7 := { stood := { row := moduleKnownRow, standIns := [], harness := (true, "dbe3cd183c3a50e03cdd13a90d6134e31c123dcc9d80e525dba24b708890f3e0"), looks := false }, kinds := [], alts := [], laidByText := true, laidKinds := [.data, .data, .pinned], laidTests := true, laidLooks := .later }
def ModuleKnownCardSaid : Prop := Claim7.holds Tryd.pinned (.plain (OpenSpec.ofChange moduleKnownSpec)) moduleKnownCard

/-- THE SECOND FORM's CARD OF 'gimletlaw06.BodyPuts'. -/
def bodyPutsUptoCard : Claim7 := { stood := { row := bodyPutsUptoRow, standIns := [], harness := (true, "dbe3cd183c3a50e03cdd13a90d6134e31c123dcc9d80e525dba24b708890f3e0"), looks := false }, kinds := [], alts := [], laidByText := true, laidKinds := [.data], laidTests := true, laidLooks := .later }
def BodyPutsUptoCardSaid : Prop := Claim7.holds Tryd.pinned (.plain (OpenSpec.upto bodyPutsSpec)) bodyPutsUptoCard

/-- THE SECOND FORM's CARD OF 'gimletlaw07.ModuleLess'. -/
def moduleLessUptoCard : Claim7 := { stood := { row := moduleLessUptoRow, standIns := [], harness := (true, "dbe3cd183c3a50e03cdd13a90d6134e31c123dcc9d80e525dba24b708890f3e0"), looks := false }, kinds := [], alts := [], laidByText := true, laidKinds := [.data, .data, .pinned], laidTests := true, laidLooks := .later }
def ModuleLessUptoCardSaid : Prop := Claim7.holds Tryd.pinned (.plain (OpenSpec.upto moduleLessSpec)) moduleLessUptoCard

/-- THE SECOND FORM's CARD OF 'gimletlaw07.ModuleKnown'. -/
def moduleKnownUptoCard : Claim7 := { stood := { row := moduleKnownUptoRow, standIns := [], harness := (true, "dbe3cd183c3a50e03cdd13a90d6134e31c123dcc9d80e525dba24b708890f3e0"), looks := false }, kinds := [], alts := [], laidByText := true, laidKinds := [.data, .data, .pinned], laidTests := true, laidLooks := .later }
def ModuleKnownUptoCardSaid : Prop := Claim7.holds Tryd.pinned (.plain (OpenSpec.upto moduleKnownSpec)) moduleKnownUptoCard
end Rows
end Go.Proofs.YtlfflomeaplidaaDoor
