/- Texts of one chain, laid one behind the other. -/
import Derived.Test.YtkkccomdclklhaaPartSimulHome1
import Derived.Test.YtkkccomdclklhaaPartSimulHome5
import Derived.StillTailTactics
import Derived.Test.YtkkccomdclklhaaPartSimulHome15
import Derived.Deep.OwnRows
import Derived.Laws.CopyOwn
namespace Go.Proofs.Ytkkccomdclklhaa
open Go.ChangeShapes Go.WideShapes Go.ChangeAt Go.RowKit
def up (ns : List Nat) : List Int := ns.map (fun n : Nat => (n : Int))
end Go.Proofs.Ytkkccomdclklhaa
