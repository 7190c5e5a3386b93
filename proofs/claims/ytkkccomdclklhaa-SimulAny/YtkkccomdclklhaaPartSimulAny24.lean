/- Texts of one chain, laid one behind the other. -/
import Derived.Test.YtkkccomdclklhaaPartSimulAny1
import Derived.Test.YtkkccomdclklhaaPartSimulAny5
import Derived.StillTailTactics
import Derived.Test.YtkkccomdclklhaaPartSimulAny15
import Derived.Deep.OwnRows
import Derived.Laws.CopyOwn
namespace Go.Proofs.Ytkkccomdclklhaa
open Go.ChangeShapes Go.WideShapes Go.ChangeAt Go.RowKit
def up (ns : List Nat) : List Int := ns.map (fun n : Nat => (n : Int))
end Go.Proofs.Ytkkccomdclklhaa
