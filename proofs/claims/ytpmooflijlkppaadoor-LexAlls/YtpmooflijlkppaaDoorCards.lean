/-
  DERIVED. GIVEN WITH THE SEED: THE CARDS: each row of YtpmooflijlkppaaDoorRows.lean that lists a variable, with what it lists TIED to the program's text (the seventh form; the later family's looks); each row that meets fmt, with fmt's text TOLD by the authors' own Lean function (tested against real Go, not proved from fmt's source: count such statements apart). THE CARD IS WHAT COUNTS. Prove the row's statement (the work); the ties are given (YtpmooflijlkppaaDoorTie.lean); close each card by the builder's one call (the guide's Derived/Test/ToyasCard.lean, 'card_holds'). Laid BY PROGRAM, IN A SANDBOX (cutbox-door.mjs). By AI agents, Wed Nov 11 2026. No macro, syntax, notation, axiom, sorry.
-/
import Derived.Test.YtpmooflijlkppaaDoorRows
import GoSem.ClaimSeven
namespace Go.Proofs.YtpmooflijlkppaaDoor
namespace Rows

/-- THE TIED CARD OF 'pianolalaw04.LexAlls'. -/
def lexAllsCard : Claim7 := { stood := { row := lexAllsRow, standIns := [], harness := (true, "2aa915445f83de75f0153c66eb0169cb2b85a549ead6f6b91f3c8bc580dba1ed"), looks := true }, kinds := [], alts := [], laidByText := true, laidKinds := [.data, .data, .data, .sentinel, .sentinel], laidTests := true, laidLooks := .later }
def LexAllsCardSaid : Prop := Claim7.holds Tryd.pinned (.plain (OpenSpec.ofChange lexAllsSpec)) lexAllsCard

/-- THE TIED CARD OF 'pianolalaw05.SketchBack'. -/
def sketchBackCard : Claim7 := { stood := { row := sketchBackRow, standIns := [], harness := (true, "2aa915445f83de75f0153c66eb0169cb2b85a549ead6f6b91f3c8bc580dba1ed"), looks := true }, kinds := [], alts := [], laidByText := true, laidKinds := [.data, .data, .data, .sentinel, .sentinel], laidTests := true, laidLooks := .later }
def SketchBackCardSaid : Prop := Claim7.holds Tryd.pinned (.plain (OpenSpec.ofChange sketchBackSpec)) sketchBackCard

/-- THE TIED CARD OF 'pianolalaw05.SketchAgain'. -/
def sketchAgainCard : Claim7 := { stood := { row := sketchAgainRow, standIns := [], harness := (true, "2aa915445f83de75f0153c66eb0169cb2b85a549ead6f6b91f3c8bc580dba1ed"), looks := true }, kinds := [], alts := [], laidByText := true, laidKinds := [.data, .data, .data, .sentinel, .sentinel], laidTests := true, laidLooks := .later }
def SketchAgainCardSaid : Prop := Claim7.holds Tryd.pinned (.plain (OpenSpec.ofChange sketchAgainSpec)) sketchAgainCard

/-- THE TIED CARD OF 'pianolalaw05.SketchPlaces'. -/
def sketchPlacesCard : Claim7 := { stood := { row := sketchPlacesRow, standIns := [], harness := (true, "2aa915445f83de75f0153c66eb0169cb2b85a549ead6f6b91f3c8bc580dba1ed"), looks := true }, kinds := [], alts := [], laidByText := true, laidKinds := [.data, .data, .data, .sentinel, .sentinel], laidTests := true, laidLooks := .later }
def SketchPlacesCardSaid : Prop := Claim7.holds Tryd.pinned (.plain (OpenSpec.ofChange sketchPlacesSpec)) sketchPlacesCard

/-- THE SECOND FORM's CARD OF 'pianolalaw04.LexAlls'. -/
def lexAllsUptoCard : Claim7 := { stood := { row := lexAllsUptoRow, standIns := [], harness := (true, "2aa915445f83de75f0153c66eb0169cb2b85a549ead6f6b91f3c8bc580dba1ed"), looks := true }, kinds := [], alts := [], laidByText := true, laidKinds := [.data, .data, .data, .sentinel, .sentinel], laidTests := true, laidLooks := .later }
def LexAllsUptoCardSaid : Prop := Claim7.holds Tryd.pinned (.plain (OpenSpec.upto lexAllsSpec)) lexAllsUptoCard

/-- THE SECOND FORM's CARD OF 'pianolalaw05.SketchBack'. -/
def sketchBackUptoCard : Claim7 := { stood := { row := sketchBackUptoRow, standIns := [], harness := (true, "2aa915445f83de75f0153c66eb0169cb2b85a549ead6f6b91f3c8bc580dba1ed"), looks := true }, kinds := [], alts := [], laidByText := true, laidKinds := [.data, .data, .data, .sentinel, .sentinel], laidTests := true, laidLooks := .later }
def SketchBackUptoCardSaid : Prop := Claim7.holds Tryd.pinned (.plain (OpenSpec.upto sketchBackSpec)) sketchBackUptoCard

/-- THE SECOND FORM's CARD OF 'pianolalaw05.SketchAgain'. -/
def sketchAgainUptoCard : Claim7 := { stood := { row := sketchAgainUptoRow, standIns := [], harness := (true, "2aa915445f83de75f0153c66eb0169cb2b85a549ead6f6b91f3c8bc580dba1ed"), looks := true }, kinds := [], alts := [], laidByText := true, laidKinds := [.data, .data, .data, .sentinel, .sentinel], laidTests := true, laidLooks := .later }
def SketchAgainUptoCardSaid : Prop := Claim7.holds Tryd.pinned (.plain (OpenSpec.upto sketchAgainSpec)) sketchAgainUptoCard

/-- THE SECOND FORM's CARD OF 'pianolalaw05.SketchPlaces'. -/
def sketchPlacesUptoCard : Claim7 := { stood := { row := sketchPlacesUptoRow, standIns := [], harness := (true, "2aa915445f83de75f0153c66eb0169cb2b85a549ead6f6b91f3c8bc580dba1ed"), looks := true }, kinds := [], alts := [], laidByText := true, laidKinds := [.data, .data, .data, .sentinel, .sentinel], laidTests := true, laidLooks := .later }
def SketchPlacesUptoCardSaid : Prop := Claim7.holds Tryd.pinned (.plain (OpenSpec.upto sketchPlacesSpec)) sketchPlacesUptoCard
end Rows
end Go.Proofs.YtpmooflijlkppaaDoor
