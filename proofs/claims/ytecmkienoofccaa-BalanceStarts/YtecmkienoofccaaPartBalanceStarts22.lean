/- Texts of one chain, laid one behind the other. -/
import Derived.Test.YtecmkienoofccaaPartBalanceStarts1
import Derived.Test.YtecmkienoofccaaPartBalanceStarts10
import Derived.Test.YtecmkienoofccaaPartBalanceStarts6
import Derived.Laws.CopyOwn
namespace Go.Proofs.Ytecmkienoofccaa
open Go.ChangeShapes Go.WideShapes Go.ChangeAt Go.RowKit
def up (ns : List Nat) : List Int := ns.map (fun n : Nat => (n : Int))
end Go.Proofs.Ytecmkienoofccaa
