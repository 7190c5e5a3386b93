/-
  DERIVED. GIVEN WITH THE SEED: THE CARDS: each row of YtlnodnkfagehgabDoorRows.lean that lists a variable, with what it lists TIED to the program's text (the seventh form; the later family's looks); each row that meets fmt, with fmt's text TOLD by the authors' own Lean function (tested against real Go, not proved from fmt's source: count such statements apart). THE CARD IS WHAT COUNTS. Prove the row's statement (the work); the ties are given (YtlnodnkfagehgabDoorTie.lean); close each card by the builder's one call (the guide's Derived/Test/ToyasCard.lean, 'card_holds'). Laid BY PROGRAM, IN A SANDBOX (cutbox-door.mjs). By AI agents, Wed Nov 11 2026. No macro, syntax, notation, axiom, sorry.
-/
import Derived.Test.YtlnodnkfagehgabDoorRows
import GoSem.ClaimSeven
namespace Go.Proofs.YtlnodnkfagehgabDoor
namespace Rows

/-- THE TIED CARD OF 'pianolalaw05.SketchAhead'. -/
def sketchAheadCard : Claim7 := { stood := { row := sketchAheadRow, standIns := [], harness := (true, "c04b36a348730d4a394f485b44a8510947a80650a232758f809fb2ad06d21f8d"), looks := true }, kinds := [], alts := [], laidByText := true, laidKinds := [.data, .data, .data, .sentinel, .sentinel], laidTests := true, laidLooks := .later }
def SketchAheadCardSaid : Prop := Claim7.holds Tryd.pinned (.plain (OpenSpec.ofChange sketchAheadSpec)) sketchAheadCard

/-- THE TIED CARD OF 'pianolalaw05.SketchNames'. -/
def sketchNamesCard : Claim7 := { stood := { row := sketchNamesRow, standIns := [], harness := (true, "c04b36a348730d4a394f485b44a8510947a80650a232758f809fb2ad06d21f8d"), looks := true }, kinds := [], alts := [], laidByText := true, laidKinds := [.data, .data, .data, .sentinel, .sentinel], laidTests := true, laidLooks := .later }
def SketchNamesCardSaid : Prop := Claim7.holds Tryd.pinned (.plain (OpenSpec.ofChange sketchNamesSpec)) sketchNamesCard

/-- THE SECOND FORM's CARD OF 'pianolalaw05.SketchAhead'. -/
def sketchAheadUptoCard : Claim7 := { stood := { row := sketchAheadUptoRow, standIns := [], harness := (true, "c04b36a348730d4a394f485b44a8510947a80650a232758f809fb2ad06d21f8d"), looks := true }, kinds := [], alts := [], laidByText := true, laidKinds := [.data, .data, .data, .sentinel, .sentinel], laidTests := true, laidLooks := .later }
def SketchAheadUptoCardSaid : Prop := Claim7.holds Tryd.pinned (.plain (OpenSpec.upto sketchAheadSpec)) sketchAheadUptoCard

/-- THE SECOND FORM's CARD OF 'pianolalaw05.SketchNames'. -/
def sketchNamesUptoCard : Claim7 := { stood := { row := sketchNamesUptoRow, standIns := [], harness := (true, "c04b36a348730d4a394f485b44a8510947a80650a232758f809fb2ad06d21f8d"), looks := true }, kinds := [], alts := [], laidByText := true, laidKinds := [.data, .data, .data, .sentinel, .sentinel], laidTests := true, laidLooks := .later }
def SketchNamesUptoCardSaid : Prop := Claim7.holds Tryd.pinned (.plain (OpenSpec.upto sketchNamesSpec)) sketchNamesUptoCard
end Rows
end Go.Proofs.YtlnodnkfagehgabDoor
