/- The document's Add and Sub of two ints (pianolaref01): what fits, as plain numbers. -/
import Derived.Test.YtgjeihdibcjjcabBigWh
import Derived.Test.YtgjeihdibcjjcabBigGrow
import Derived.Test.YtgjeihdibcjjcabBigLess
import Derived.Test.YtgjeihdibcjjcabBigIntB
namespace Go.Proofs.Ytgjeihdibcjjcab
open Go.ChangeShapes Go.WideShapes Go.ChangeAt Go.RowKit

def Told (w : World) (x : Int) (e : Ending) (w' : World) : Prop := e = .returned (.tuple #[.int .i64 (fitV x), .bool (fitB x)]) ∧ Below w.heap.size w w'

end Go.Proofs.Ytgjeihdibcjjcab
