/-
  DERIVED. GIVEN WITH THE SEED: THE CARDS: each row of YtaibfefmehhldaaGreatDoorRows.lean that lists a variable, with what it lists TIED to the program's text (the seventh form; the later family's looks); each row that meets fmt, with fmt's text TOLD by the authors' own Lean function (tested against real Go, not proved from fmt's source: count such statements apart). THE CARD IS WHAT COUNTS. Prove the row's statement (the work); the ties are given (YtaibfefmehhldaaGreatDoorTie.lean); close each card by the builder's one call (the guide's Derived/Test/ToyasCard.lean, 'card_holds'). Laid BY PROGRAM, IN A SANDBOX (cutbox-door.mjs). By AI agents, Wed Nov 11 2026. No macro, syntax, notation, axiom, sorry.
-/
import Derived.Test.YtaibfefmehhldaaGreatDoorRows
import GoSem.ClaimSeven
namespace Go.Proofs.YtaibfefmehhldaaGreatDoor
namespace Rows

/-- THE TIED CARD OF 'gimletlaw07.ModuleSame'. -/
def moduleSameCard : Claim7 := { stood := { row := moduleSameRow, standIns := [], harness := (true, "5c355c833e8b9e6fc97e4f91458f86b9b5269f076c4972117c0274b4bccc7018"), looks := false }, kinds := [], alts := [], laidByText := true, laidKinds := [.data, .data, .pinned], laidTests := true, laidLooks := .later }
def ModuleSameCardSaid : Prop := Claim7.holds Tryz.pinned (.plain (OpenSpec.ofChange moduleSameSpec)) moduleSameCard

/-- THE SECOND FORM's CARD OF 'gimletlaw07.ModuleSame'. -/
def moduleSameUptoCard : Claim7 := { stood := { row := moduleSameUptoRow, standIns := [], harness := (true, "5c355c833e8b9e6fc97e4f91458f86b9b5269f076c4972117c0274b4bccc7018"), looks := false }, kinds := [], alts := [], laidByText := true, laidKinds := [.data, .data, .pinned], laidTests := true, laidLooks := .later }
def ModuleSameUptoCardSaid : Prop := Claim7.holds Tryz.pinned (.plain (OpenSpec.upto moduleSameSpec)) moduleSameUptoCard
end Rows
end Go.Proofs.YtaibfefmehhldaaGreatDoor
