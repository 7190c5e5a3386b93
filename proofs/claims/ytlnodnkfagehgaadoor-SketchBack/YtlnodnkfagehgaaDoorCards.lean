/-
  DERIVED. GIVEN WITH THE SEED: THE CARDS: each row of YtlnodnkfagehgaaDoorRows.lean that lists a variable, with what it lists TIED to the program's text (the seventh form; the later family's looks); each row that meets fmt, with fmt's text TOLD by the authors' own Lean function (tested against real Go, not proved from fmt's source: count such statements apart). THE CARD IS WHAT COUNTS. Prove the row's statement (the work); the ties are given (YtlnodnkfagehgaaDoorTie.lean); close each card by the builder's one call (the guide's Derived/Test/ToyasCard.lean, 'card_holds'). Laid BY PROGRAM, IN A SANDBOX (cutbox-door.mjs). By AI agents, Wed Nov 11 2026. No macro, syntax, notation, axiom, sorry.
-/
import Derived.Test.YtlnodnkfagehgaaDoorRows
import GoSem.ClaimSeven
namespace Go.Proofs.YtlnodnkfagehgaaDoor
namespace Rows

/-- THE TIED CARD OF 'pianolalaw05.SketchBack'. -/
def sketchBackCard : Claim7 := { stood := { row := sketchBackRow, standIns := [], harness := (true, "d7e849ea2b63c9e8a55bf144d6eb9a4eff196b20796691d0a37467cc33375210"), looks := true }, kinds := [], alts := [], laidByText := true, laidKinds := [.data, .data, .data, .sentinel, .sentinel], laidTests := true, laidLooks := .later }
def SketchBackCardSaid : Prop := Claim7.holds Tryd.pinned (.plain (OpenSpec.ofChange sketchBackSpec)) sketchBackCard

/-- THE TIED CARD OF 'pianolalaw05.SketchAgain'. -/
def sketchAgainCard : Claim7 := { stood := { row := sketchAgainRow, standIns := [], harness := (true, "d7e849ea2b63c9e8a55bf144d6eb9a4eff196b20796691d0a37467cc33375210"), looks := true }, kinds := [], alts := [], laidByText := true, laidKinds := [.data, .data, .data, .sentinel, .sentinel], laidTests := true, laidLooks := .later }
def SketchAgainCardSaid : Prop := Claim7.holds Tryd.pinned (.plain (OpenSpec.ofChange sketchAgainSpec)) sketchAgainCard

/-- THE TIED CARD OF 'pianolalaw05.SketchPlaces'. -/
def sketchPlacesCard : Claim7 := { stood := { row := sketchPlacesRow, standIns := [], harness := (true, "d7e849ea2b63c9e8a55bf144d6eb9a4eff196b20796691d0a37467cc33375210"), looks := true }, kinds := [], alts := [], laidByText := true, laidKinds := [.data, .data, .data, .sentinel, .sentinel], laidTests := true, laidLooks := .later }
def SketchPlacesCardSaid : Prop := Claim7.holds Tryd.pinned (.plain (OpenSpec.ofChange sketchPlacesSpec)) sketchPlacesCard

/-- THE TIED CARD OF 'pianolalaw05.SketchLoose'. -/
def sketchLooseCard : Claim7 := { stood := { row := sketchLooseRow, standIns := [], harness := (true, "d7e849ea2b63c9e8a55bf144d6eb9a4eff196b20796691d0a37467cc33375210"), looks := true }, kinds := [], alts := [], laidByText := true, laidKinds := [.data, .data, .data, .sentinel, .sentinel], laidTests := true, laidLooks := .later }
def SketchLooseCardSaid : Prop := Claim7.holds Tryd.pinned (.plain (OpenSpec.ofChange sketchLooseSpec)) sketchLooseCard

/-- THE SECOND FORM's CARD OF 'pianolalaw05.SketchBack'. -/
def sketchBackUptoCard : Claim7 := { stood := { row := sketchBackUptoRow, standIns := [], harness := (true, "d7e849ea2b63c9e8a55bf144d6eb9a4eff196b20796691d0a37467cc33375210"), looks := true }, kinds := [], alts := [], laidByText := true, laidKinds := [.data, .data, .data, .sentinel, .sentinel], laidTests := true, laidLooks := .later }
def SketchBackUptoCardSaid : Prop := Claim7.holds Tryd.pinned (.plain (OpenSpec.upto sketchBackSpec)) sketchBackUptoCard

/-- THE SECOND FORM's CARD OF 'pianolalaw05.SketchAgain'. -/
def sketchAgainUptoCard : Claim7 := { stood := { row := sketchAgainUptoRow, standIns := [], harness := (true, "d7e849ea2b63c9e8a55bf144d6eb9a4eff196b20796691d0a37467cc33375210"), looks := true }, kinds := [], alts := [], laidByText := true, laidKinds := [.data, .data, .data, .sentinel, .sentinel], laidTests := true, laidLooks := .later }
def SketchAgainUptoCardSaid : Prop := Claim7.holds Tryd.pinned (.plain (OpenSpec.upto sketchAgainSpec)) sketchAgainUptoCard

/-- THE SECOND FORM's CARD OF 'pianolalaw05.SketchPlaces'. -/
def sketchPlacesUptoCard : Claim7 := { stood := { row := sketchPlacesUptoRow, standIns := [], harness := (true, "d7e849ea2b63c9e8a55bf144d6eb9a4eff196b20796691d0a37467cc33375210"), looks := true }, kinds := [], alts := [], laidByText := true, laidKinds := [.data, .data, .data, .sentinel, .sentinel], laidTests := true, laidLooks := .later }
def SketchPlacesUptoCardSaid : Prop := Claim7.holds Tryd.pinned (.plain (OpenSpec.upto sketchPlacesSpec)) sketchPlacesUptoCard

/-- THE SECOND FORM's CARD OF 'pianolalaw05.SketchLoose'. -/
def sketchLooseUptoCard : Claim7 := { stood := { row := sketchLooseUptoRow, standIns := [], harness := (true, "d7e849ea2b63c9e8a55bf144d6eb9a4eff196b20796691d0a37467cc33375210"), looks := true }, kinds := [], alts := [], laidByText := true, laidKinds := [.data, .data, .data, .sentinel, .sentinel], laidTests := true, laidLooks := .later }
def SketchLooseUptoCardSaid : Prop := Claim7.holds Tryd.pinned (.plain (OpenSpec.upto sketchLooseSpec)) sketchLooseUptoCard
end Rows
end Go.Proofs.YtlnodnkfagehgaaDoor
