/-
  DERIVED. GIVEN WITH THE SEED: THE CARDS: each row of YtcpklpbhdbddiaaGreatDoorRows.lean that lists a variable, with what it lists TIED to the program's text (the seventh form; the later family's looks); each row that meets fmt, with fmt's text TOLD by the authors' own Lean function (tested against real Go, not proved from fmt's source: count such statements apart). THE CARD IS WHAT COUNTS. Prove the row's statement (the work); the ties are given (YtcpklpbhdbddiaaGreatDoorTie.lean); close each card by the builder's one call (the guide's Derived/Test/ToyasCard.lean, 'card_holds'). Laid BY PROGRAM, IN A SANDBOX (cutbox-door.mjs). By AI agents, Wed Nov 11 2026. No macro, syntax, notation, axiom, sorry.
-/
import Derived.Test.YtcpklpbhdbddiaaGreatDoorRows
import GoSem.ClaimSeven
namespace Go.Proofs.YtcpklpbhdbddiaaGreatDoor
namespace Rows

/-- THE TIED CARD OF 'pianolalaw05.SketchParses'. -/
def sketchParsesCard : Claim7 := { stood := { row := sketchParsesRow, standIns := [], harness := (true, "73bbefc9a7accb2e0cb80d2478586351b8b10f4c1fe3099ccf83a91b663014b9"), looks := true }, kinds := [], alts := [], laidByText := true, laidKinds := [.data, .data, .data, .sentinel, .sentinel], laidTests := true, laidLooks := .later }
def SketchParsesCardSaid : Prop := Claim7.holds Tryz.pinned (.plain (OpenSpec.ofChange sketchParsesSpec)) sketchParsesCard

/-- THE SECOND FORM's CARD OF 'pianolalaw05.SketchParses'. -/
def sketchParsesUptoCard : Claim7 := { stood := { row := sketchParsesUptoRow, standIns := [], harness := (true, "73bbefc9a7accb2e0cb80d2478586351b8b10f4c1fe3099ccf83a91b663014b9"), looks := true }, kinds := [], alts := [], laidByText := true, laidKinds := [.data, .data, .data, .sentinel, .sentinel], laidTests := true, laidLooks := .later }
def SketchParsesUptoCardSaid : Prop := Claim7.holds Tryz.pinned (.plain (OpenSpec.upto sketchParsesSpec)) sketchParsesUptoCard
end Rows
end Go.Proofs.YtcpklpbhdbddiaaGreatDoor
