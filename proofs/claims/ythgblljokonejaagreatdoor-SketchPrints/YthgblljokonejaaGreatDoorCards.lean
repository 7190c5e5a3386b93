/-
  DERIVED. GIVEN WITH THE SEED: THE CARDS: each row of YthgblljokonejaaGreatDoorRows.lean that lists a variable, with what it lists TIED to the program's text (the seventh form; the later family's looks); each row that meets fmt, with fmt's text TOLD by the authors' own Lean function (tested against real Go, not proved from fmt's source: count such statements apart). THE CARD IS WHAT COUNTS. Prove the row's statement (the work); the ties are given (YthgblljokonejaaGreatDoorTie.lean); close each card by the builder's one call (the guide's Derived/Test/ToyasCard.lean, 'card_holds'). Laid BY PROGRAM, IN A SANDBOX (cutbox-door.mjs). By AI agents, Wed Nov 11 2026. No macro, syntax, notation, axiom, sorry.
-/
import Derived.Test.YthgblljokonejaaGreatDoorRows
import GoSem.ClaimSeven
namespace Go.Proofs.YthgblljokonejaaGreatDoor
namespace Rows

/-- THE TIED CARD OF 'pianolalaw05.SketchParses'. -/
def sketchParsesCard : Claim7 := { stood := { row := sketchParsesRow, standIns := [], harness := (true, "7ebe5130c260817575bf0ea360705c56934f306ea9d5d1920d70590518f7cd53"), looks := true }, kinds := [], alts := [], laidByText := true, laidKinds := [.data, .data, .data, .sentinel, .sentinel], laidTests := true, laidLooks := .later }
def SketchParsesCardSaid : Prop := Claim7.holds Tryz.pinned (.plain (OpenSpec.ofChange sketchParsesSpec)) sketchParsesCard

/-- THE TIED CARD OF 'pianolalaw05.SketchPrints'. -/
def sketchPrintsCard : Claim7 := { stood := { row := sketchPrintsRow, standIns := [], harness := (true, "7ebe5130c260817575bf0ea360705c56934f306ea9d5d1920d70590518f7cd53"), looks := true }, kinds := [], alts := [], laidByText := true, laidKinds := [.data, .data, .data, .sentinel, .sentinel], laidTests := true, laidLooks := .later }
def SketchPrintsCardSaid : Prop := Claim7.holds Tryz.pinned (.plain (OpenSpec.ofChange sketchPrintsSpec)) sketchPrintsCard

/-- THE SECOND FORM's CARD OF 'pianolalaw05.SketchParses'. -/
def sketchParsesUptoCard : Claim7 := { stood := { row := sketchParsesUptoRow, standIns := [], harness := (true, "7ebe5130c260817575bf0ea360705c56934f306ea9d5d1920d70590518f7cd53"), looks := true }, kinds := [], alts := [], laidByText := true, laidKinds := [.data, .data, .data, .sentinel, .sentinel], laidTests := true, laidLooks := .later }
def SketchParsesUptoCardSaid : Prop := Claim7.holds Tryz.pinned (.plain (OpenSpec.upto sketchParsesSpec)) sketchParsesUptoCard

/-- THE SECOND FORM's CARD OF 'pianolalaw05.SketchPrints'. -/
def sketchPrintsUptoCard : Claim7 := { stood := { row := sketchPrintsUptoRow, standIns := [], harness := (true, "7ebe5130c260817575bf0ea360705c56934f306ea9d5d1920d70590518f7cd53"), looks := true }, kinds := [], alts := [], laidByText := true, laidKinds := [.data, .data, .data, .sentinel, .sentinel], laidTests := true, laidLooks := .later }
def SketchPrintsUptoCardSaid : Prop := Claim7.holds Tryz.pinned (.plain (OpenSpec.upto sketchPrintsSpec)) sketchPrintsUptoCard
end Rows
end Go.Proofs.YthgblljokonejaaGreatDoor
