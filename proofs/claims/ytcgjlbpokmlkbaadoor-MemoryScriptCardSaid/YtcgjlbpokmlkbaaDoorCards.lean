/-
  DERIVED. GIVEN WITH THE SEED: THE CARDS: each row of YtcgjlbpokmlkbaaDoorRows.lean that lists a variable, with what it lists TIED to the program's text (the seventh form; the later family's looks); each row that meets fmt, with fmt's text TOLD by the authors' own Lean function (tested against real Go, not proved from fmt's source: count such statements apart). THE CARD IS WHAT COUNTS. Prove the row's statement (the work); the ties are given (YtcgjlbpokmlkbaaDoorTie.lean); close each card by the builder's one call (the guide's Derived/Test/ToyasCard.lean, 'card_holds'). Laid BY PROGRAM, IN A SANDBOX (cutbox-door.mjs). By AI agents, Wed Nov 11 2026. No macro, syntax, notation, axiom, sorry.
-/
import Derived.Test.YtcgjlbpokmlkbaaDoorRows
import GoSem.ClaimSeven
namespace Go.Proofs.YtcgjlbpokmlkbaaDoor
namespace Rows

/-- THE TIED CARD OF 'gimletlaw12.MemoryScript'. -/
def memoryScriptCard : Claim7 := { stood := { row := memoryScriptRow, standIns := [], harness := (true, "a14e9b017d8ef772d8e7278d864c5abd0a4efe4fc701499380a75b1847f7334e"), looks := false }, kinds := [], alts := [], laidByText := true, laidKinds := [.data], laidTests := true, laidLooks := .later }
def MemoryScriptCardSaid : Prop := Claim7.holds Tryd.pinned (.plain (OpenSpec.ofChange memoryScriptSpec)) memoryScriptCard

/-- THE TIED CARD OF 'gimletlaw12.MemoryNone'. -/
def memoryNoneCard : Claim7 := { stood := { row := memoryNoneRow, standIns := [], harness := (true, "a14e9b017d8ef772d8e7278d864c5abd0a4efe4fc701499380a75b1847f7334e"), looks := false }, kinds := [], alts := [], laidByText := true, laidKinds := [.data], laidTests := true, laidLooks := .later }
def MemoryNoneCardSaid : Prop := Claim7.holds Tryd.pinned (.plain (OpenSpec.ofChange memoryNoneSpec)) memoryNoneCard

/-- THE TIED CARD OF 'gimletlaw12.MemoryKeeps'. -/
def memoryKeepsCard : Claim7 := { stood := { row := memoryKeepsRow, standIns := [], harness := (true, "a14e9b017d8ef772d8e7278d864c5abd0a4efe4fc701499380a75b1847f7334e"), looks := false }, kinds := [], alts := [], laidByText := true, laidKinds := [.data], laidTests := true, laidLooks := .later }
def MemoryKeepsCardSaid : Prop := Claim7.holds Tryd.pinned (.plain (OpenSpec.ofChange memoryKeepsSpec)) memoryKeepsCard

/-- THE TIED CARD OF 'gimletlaw12.MemoryBounds'. -/
def memoryBoundsCard : Claim7 := { stood := { row := memoryBoundsRow, standIns := [], harness := (true, "a14e9b017d8ef772d8e7278d864c5abd0a4efe4fc701499380a75b1847f7334e"), looks := false }, kinds := [], alts := [], laidByText := true, laidKinds := [.data], laidTests := true, laidLooks := .later }
def MemoryBoundsCardSaid : Prop := Claim7.holds Tryd.pinned (.plain (OpenSpec.ofChange memoryBoundsSpec)) memoryBoundsCard

/-- THE TIED CARD OF 'gimletlaw12.MemoryKnown'. -/
def memoryKnownCard : Claim7 := { stood := { row := memoryKnownRow, standIns := [], harness := (true, "a14e9b017d8ef772d8e7278d864c5abd0a4efe4fc701499380a75b1847f7334e"), looks := false }, kinds := [], alts := [], laidByText := true, laidKinds := [.data], laidTests := true, laidLooks := .later }
def MemoryKnownCardSaid : Prop := Claim7.holds Tryd.pinned (.plain (OpenSpec.ofChange memoryKnownSpec)) memoryKnownCard

/-- THE SECOND FORM's CARD OF 'gimletlaw12.MemoryScript'. -/
def memoryScriptUptoCard : Claim7 := { stood := { row := memoryScriptUptoRow, standIns := [], harness := (true, "a14e9b017d8ef772d8e7278d864c5abd0a4efe4fc701499380a75b1847f7334e"), looks := false }, kinds := [], alts := [], laidByText := true, laidKinds := [.data], laidTests := true, laidLooks := .later }
def MemoryScriptUptoCardSaid : Prop := Claim7.holds Tryd.pinned (.plain (OpenSpec.upto memoryScriptSpec)) memoryScriptUptoCard

/-- THE SECOND FORM's CARD OF 'gimletlaw12.MemoryNone'. -/
def memoryNoneUptoCard : Claim7 := { stood := { row := memoryNoneUptoRow, standIns := [], harness := (true, "a14e9b017d8ef772d8e7278d864c5abd0a4efe4fc701499380a75b1847f7334e"), looks := false }, kinds := [], alts := [], laidByText := true, laidKinds := [.data], laidTests := true, laidLooks := .later }
def MemoryNoneUptoCardSaid : Prop := Claim7.holds Tryd.pinned (.plain (OpenSpec.upto memoryNoneSpec)) memoryNoneUptoCard

/-- THE SECOND FORM's CARD OF 'gimletlaw12.MemoryKeeps'. -/
def memoryKeepsUptoCard : Claim7 := { stood := { row := memoryKeepsUptoRow, standIns := [], harness := (true, "a14e9b017d8ef772d8e7278d864c5abd0a4efe4fc701499380a75b1847f7334e"), looks := false }, kinds := [], alts := [], laidByText := true, laidKinds := [.data], laidTests := true, laidLooks := .later }
def MemoryKeepsUptoCardSaid : Prop := Claim7.holds Tryd.pinned (.plain (OpenSpec.upto memoryKeepsSpec)) memoryKeepsUptoCard

/-- THE SECOND FORM's CARD OF 'gimletlaw12.MemoryBounds'. -/
def memoryBoundsUptoCard : Claim7 := { stood := { row := memoryBoundsUptoRow, standIns := [], harness := (true, "a14e9b017d8ef772d8e7278d864c5abd0a4efe4fc701499380a75b1847f7334e"), looks := false }, kinds := [], alts := [], laidByText := true, laidKinds := [.data], laidTests := true, laidLooks := .later }
def MemoryBoundsUptoCardSaid : Prop := Claim7.holds Tryd.pinned (.plain (OpenSpec.upto memoryBoundsSpec)) memoryBoundsUptoCard

/-- THE SECOND FORM's CARD OF 'gimletlaw12.MemoryKnown'. -/
def memoryKnownUptoCard : Claim7 := { stood := { row := memoryKnownUptoRow, standIns := [], harness := (true, "a14e9b017d8ef772d8e7278d864c5abd0a4efe4fc701499380a75b1847f7334e"), looks := false }, kinds := [], alts := [], laidByText := true, laidKinds := [.data], laidTests := true, laidLooks := .later }
def MemoryKnownUptoCardSaid : Prop := Claim7.holds Tryd.pinned (.plain (OpenSpec.upto memoryKnownSpec)) memoryKnownUptoCard
end Rows
end Go.Proofs.YtcgjlbpokmlkbaaDoor
