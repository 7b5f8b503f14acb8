/-
  DERIVED. GIVEN WITH THE SEED: THE CARDS: each row of YtckdnhafookcgaaGreatDoorRows.lean that lists a variable, with what it lists TIED to the program's text (the seventh form; the later family's looks); each row that meets fmt, with fmt's text TOLD by the authors' own Lean function (tested against real Go, not proved from fmt's source: count such statements apart). THE CARD IS WHAT COUNTS. Prove the row's statement (the work); the ties are given (YtckdnhafookcgaaGreatDoorTie.lean); close each card by the builder's one call (the guide's Derived/Test/ToyasCard.lean, 'card_holds'). Laid BY PROGRAM, IN A SANDBOX (cutbox-door.mjs). By AI agents, Wed Nov 11 2026. No macro, syntax, notation, axiom, sorry.
-/
import Derived.Test.YtckdnhafookcgaaGreatDoorRows
import GoSem.ClaimSeven
namespace Go.Proofs.YtckdnhafookcgaaGreatDoor
namespace Rows

/-- THE TIED CARD OF 'gimletlaw13.PlaceScript'. -/
def placeScriptCard : Claim7 := { stood := { row := placeScriptRow, standIns := [], harness := (true, "4cb8a72d88dcfb54c73312c7c197d2159c11462f28e7556be505a5fa261bcaa9"), looks := false }, kinds := [], alts := [], laidByText := true, laidKinds := [.data, .data, .data, .pinned], laidTests := true, laidLooks := .later }
def PlaceScriptCardSaid : Prop := Claim7.holds Tryz.pinned (.plain (OpenSpec.ofChange placeScriptSpec)) placeScriptCard

/-- THE TIED CARD OF 'gimletlaw13.PlaceNone'. -/
def placeNoneCard : Claim7 := { stood := { row := placeNoneRow, standIns := [], harness := (true, "4cb8a72d88dcfb54c73312c7c197d2159c11462f28e7556be505a5fa261bcaa9"), looks := false }, kinds := [], alts := [], laidByText := true, laidKinds := [.data, .data, .data, .pinned], laidTests := true, laidLooks := .later }
def PlaceNoneCardSaid : Prop := Claim7.holds Tryz.pinned (.plain (OpenSpec.ofChange placeNoneSpec)) placeNoneCard

/-- THE TIED CARD OF 'gimletlaw13.PlaceApart'. -/
def placeApartCard : Claim7 := { stood := { row := placeApartRow, standIns := [], harness := (true, "4cb8a72d88dcfb54c73312c7c197d2159c11462f28e7556be505a5fa261bcaa9"), looks := false }, kinds := [], alts := [], laidByText := true, laidKinds := [.data, .data, .data, .pinned], laidTests := true, laidLooks := .later }
def PlaceApartCardSaid : Prop := Claim7.holds Tryz.pinned (.plain (OpenSpec.ofChange placeApartSpec)) placeApartCard

/-- THE TIED CARD OF 'gimletlaw13.PlaceReady'. -/
def placeReadyCard : Claim7 := { stood := { row := placeReadyRow, standIns := [], harness := (true, "4cb8a72d88dcfb54c73312c7c197d2159c11462f28e7556be505a5fa261bcaa9"), looks := false }, kinds := [], alts := [], laidByText := true, laidKinds := [.data, .data, .data, .pinned], laidTests := true, laidLooks := .later }
def PlaceReadyCardSaid : Prop := Claim7.holds Tryz.pinned (.plain (OpenSpec.ofChange placeReadySpec)) placeReadyCard

/-- THE TIED CARD OF 'gimletlaw13.PlaceKnown'. -/
def placeKnownCard : Claim7 := { stood := { row := placeKnownRow, standIns := [], harness := (true, "4cb8a72d88dcfb54c73312c7c197d2159c11462f28e7556be505a5fa261bcaa9"), looks := false }, kinds := [], alts := [], laidByText := true, laidKinds := [.data, .data, .data, .pinned], laidTests := true, laidLooks := .later }
def PlaceKnownCardSaid : Prop := Claim7.holds Tryz.pinned (.plain (OpenSpec.ofChange placeKnownSpec)) placeKnownCard

/-- THE TIED CARD OF 'gimletlaw11.ValidParts'. -/
def validPartsCard : Claim7 := { stood := { row := validPartsRow, standIns := [], harness := (true, "4cb8a72d88dcfb54c73312c7c197d2159c11462f28e7556be505a5fa261bcaa9"), looks := false }, kinds := [], alts := [], laidByText := true, laidKinds := [.data, .data, .data, .pinned], laidTests := true, laidLooks := .later }
def ValidPartsCardSaid : Prop := Claim7.holds Tryz.pinned (.plain (OpenSpec.ofChange validPartsSpec)) validPartsCard

/-- THE TIED CARD OF 'gimletlaw11.ValidBodies'. -/
def validBodiesCard : Claim7 := { stood := { row := validBodiesRow, standIns := [], harness := (true, "4cb8a72d88dcfb54c73312c7c197d2159c11462f28e7556be505a5fa261bcaa9"), looks := false }, kinds := [], alts := [], laidByText := true, laidKinds := [.data, .data, .data, .pinned], laidTests := true, laidLooks := .later }
def ValidBodiesCardSaid : Prop := Claim7.holds Tryz.pinned (.plain (OpenSpec.ofChange validBodiesSpec)) validBodiesCard

/-- THE TIED CARD OF 'gimletlaw11.ValidTells'. -/
def validTellsCard : Claim7 := { stood := { row := validTellsRow, standIns := [], harness := (true, "4cb8a72d88dcfb54c73312c7c197d2159c11462f28e7556be505a5fa261bcaa9"), looks := false }, kinds := [], alts := [], laidByText := true, laidKinds := [.data, .data, .data, .pinned], laidTests := true, laidLooks := .later }
def ValidTellsCardSaid : Prop := Claim7.holds Tryz.pinned (.plain (OpenSpec.ofChange validTellsSpec)) validTellsCard

/-- THE SECOND FORM's CARD OF 'gimletlaw13.PlaceScript'. -/
def placeScriptUptoCard : Claim7 := { stood := { row := placeScriptUptoRow, standIns := [], harness := (true, "4cb8a72d88dcfb54c73312c7c197d2159c11462f28e7556be505a5fa261bcaa9"), looks := false }, kinds := [], alts := [], laidByText := true, laidKinds := [.data, .data, .data, .pinned], laidTests := true, laidLooks := .later }
def PlaceScriptUptoCardSaid : Prop := Claim7.holds Tryz.pinned (.plain (OpenSpec.upto placeScriptSpec)) placeScriptUptoCard

/-- THE SECOND FORM's CARD OF 'gimletlaw13.PlaceNone'. -/
def placeNoneUptoCard : Claim7 := { stood := { row := placeNoneUptoRow, standIns := [], harness := (true, "4cb8a72d88dcfb54c73312c7c197d2159c11462f28e7556be505a5fa261bcaa9"), looks := false }, kinds := [], alts := [], laidByText := true, laidKinds := [.data, .data, .data, .pinned], laidTests := true, laidLooks := .later }
def PlaceNoneUptoCardSaid : Prop := Claim7.holds Tryz.pinned (.plain (OpenSpec.upto placeNoneSpec)) placeNoneUptoCard

/-- THE SECOND FORM's CARD OF 'gimletlaw13.PlaceApart'. -/
def placeApartUptoCard : Claim7 := { stood := { row := placeApartUptoRow, standIns := [], harness := (true, "4cb8a72d88dcfb54c73312c7c197d2159c11462f28e7556be505a5fa261bcaa9"), looks := false }, kinds := [], alts := [], laidByText := true, laidKinds := [.data, .data, .data, .pinned], laidTests := true, laidLooks := .later }
def PlaceApartUptoCardSaid : Prop := Claim7.holds Tryz.pinned (.plain (OpenSpec.upto placeApartSpec)) placeApartUptoCard

/-- THE SECOND FORM's CARD OF 'gimletlaw13.PlaceReady'. -/
def placeReadyUptoCard : Claim7 := { stood := { row := placeReadyUptoRow, standIns := [], harness := (true, "4cb8a72d88dcfb54c73312c7c197d2159c11462f28e7556be505a5fa261bcaa9"), looks := false }, kinds := [], alts := [], laidByText := true, laidKinds := [.data, .data, .data, .pinned], laidTests := true, laidLooks := .later }
def PlaceReadyUptoCardSaid : Prop := Claim7.holds Tryz.pinned (.plain (OpenSpec.upto placeReadySpec)) placeReadyUptoCard

/-- THE SECOND FORM's CARD OF 'gimletlaw13.PlaceKnown'. -/
def placeKnownUptoCard : Claim7 := { stood := { row := placeKnownUptoRow, standIns := [], harness := (true, "4cb8a72d88dcfb54c73312c7c197d2159c11462f28e7556be505a5fa261bcaa9"), looks := false }, kinds := [], alts := [], laidByText := true, laidKinds := [.data, .data, .data, .pinned], laidTests := true, laidLooks := .later }
def PlaceKnownUptoCardSaid : Prop := Claim7.holds Tryz.pinned (.plain (OpenSpec.upto placeKnownSpec)) placeKnownUptoCard

/-- THE SECOND FORM's CARD OF 'gimletlaw11.ValidParts'. -/
def validPartsUptoCard : Claim7 := { stood := { row := validPartsUptoRow, standIns := [], harness := (true, "4cb8a72d88dcfb54c73312c7c197d2159c11462f28e7556be505a5fa261bcaa9"), looks := false }, kinds := [], alts := [], laidByText := true, laidKinds := [.data, .data, .data, .pinned], laidTests := true, laidLooks := .later }
def ValidPartsUptoCardSaid : Prop := Claim7.holds Tryz.pinned (.plain (OpenSpec.upto validPartsSpec)) validPartsUptoCard

/-- THE SECOND FORM's CARD OF 'gimletlaw11.ValidBodies'. -/
def validBodiesUptoCard : Claim7 := { stood := { row := validBodiesUptoRow, standIns := [], harness := (true, "4cb8a72d88dcfb54c73312c7c197d2159c11462f28e7556be505a5fa261bcaa9"), looks := false }, kinds := [], alts := [], laidByText := true, laidKinds := [.data, .data, .data, .pinned], laidTests := true, laidLooks := .later }
def ValidBodiesUptoCardSaid : Prop := Claim7.holds Tryz.pinned (.plain (OpenSpec.upto validBodiesSpec)) validBodiesUptoCard

/-- THE SECOND FORM's CARD OF 'gimletlaw11.ValidTells'. -/
def validTellsUptoCard : Claim7 := { stood := { row := validTellsUptoRow, standIns := [], harness := (true, "4cb8a72d88dcfb54c73312c7c197d2159c11462f28e7556be505a5fa261bcaa9"), looks := false }, kinds := [], alts := [], laidByText := true, laidKinds := [.data, .data, .data, .pinned], laidTests := true, laidLooks := .later }
def ValidTellsUptoCardSaid : Prop := Claim7.holds Tryz.pinned (.plain (OpenSpec.upto validTellsSpec)) validTellsUptoCard
end Rows
end Go.Proofs.YtckdnhafookcgaaGreatDoor
