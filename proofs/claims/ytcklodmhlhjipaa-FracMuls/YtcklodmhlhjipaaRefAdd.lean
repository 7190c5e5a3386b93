/- The document's Add and Sub of two ints (pianolaref01): what fits, as plain numbers. -/
import Derived.Test.YtcklodmhlhjipaaBigWh
import Derived.Test.YtcklodmhlhjipaaBigGrow
import Derived.Test.YtcklodmhlhjipaaBigLess
import Derived.Test.YtcklodmhlhjipaaBigIntB
namespace Go.Proofs.Ytcklodmhlhjipaa
open Go.ChangeShapes Go.WideShapes Go.ChangeAt Go.RowKit

def Told (w : World) (x : Int) (e : Ending) (w' : World) : Prop := e = .returned (.tuple #[.int .i64 (fitV x), .bool (fitB x)]) ∧ Below w.heap.size w w'

end Go.Proofs.Ytcklodmhlhjipaa
