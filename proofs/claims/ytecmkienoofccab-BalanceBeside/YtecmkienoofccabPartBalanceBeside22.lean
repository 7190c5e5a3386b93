/- Texts of one chain, laid one behind the other. -/
import Derived.Test.YtecmkienoofccabPartBalanceBeside1
import Derived.Test.YtecmkienoofccabPartBalanceBeside10
import Derived.Test.YtecmkienoofccabPartBalanceBeside6
import Derived.Laws.CopyOwn
namespace Go.Proofs.Ytecmkienoofccab
open Go.ChangeShapes Go.WideShapes Go.ChangeAt Go.RowKit
def up (ns : List Nat) : List Int := ns.map (fun n : Nat => (n : Int))
end Go.Proofs.Ytecmkienoofccab
