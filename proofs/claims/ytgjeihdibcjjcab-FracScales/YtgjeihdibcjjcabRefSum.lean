/- The document's Sum (pianolaref01): the same plain function. -/
import Derived.Test.YtgjeihdibcjjcabRefAdd
namespace Go.Proofs.Ytgjeihdibcjjcab
open Go.ChangeShapes Go.WideShapes Go.ChangeAt Go.RowKit

def Answers (w : World) (v : Int) (f : Bool) (e : Ending) (w' : World) : Prop := e = .returned (.tuple #[.int .i64 v, .bool f]) ∧ Below w.heap.size w w'

end Go.Proofs.Ytgjeihdibcjjcab
