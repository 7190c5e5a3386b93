/- Texts of one chain, laid one behind the other. -/
import Derived.Test.YthgblljokonejaaGreatDoorChain23
/- The statements' right: may a token stand in a text? -/
namespace Go.Proofs.YthgblljokonejaaGreatDoor
open Go.ChangeShapes Go.WideShapes Go.ChangeAt Go.RowKit

def rightB (t : Tok) : Bool := if t.sort = 1 then decide (t.num = 0) && nameB t.text else if t.sort = 2 then decide (t.text = []) else if t.sort = 3 then decide (t.num = 0) && markT t.text else false
def TokV (so : Int) (tx : List UInt8) (nm pl : Int) : Value := .agg #[.int .u8 so, .string (str tx), .int .i64 nm, .int .i64 pl]
def RightEnd (b : Bool) (w : World) (e : Ending) (w' : World) : Prop := e = .returned (.bool b) ∧ Below w.heap.size w w'

end Go.Proofs.YthgblljokonejaaGreatDoor
