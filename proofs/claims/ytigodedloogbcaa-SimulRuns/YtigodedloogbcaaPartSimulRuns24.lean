/- Texts of one chain, laid one behind the other. -/
import Derived.Test.YtigodedloogbcaaPartSimulRuns1
import Derived.Test.YtigodedloogbcaaPartSimulRuns16
import Derived.Test.YtigodedloogbcaaPartSimulRuns6
import Derived.Laws.CopyOwn
namespace Go.Proofs.Ytigodedloogbcaa
open Go.ChangeShapes Go.WideShapes Go.ChangeAt Go.RowKit
def posB : List Int → Bool
  | [] => true
  | x :: xs => decide (1 ≤ x) && posB xs
def up (ns : List Nat) : List Int := ns.map (fun n : Nat => (n : Int))
def nats (zs : List Int) : List Nat := zs.map Int.toNat
theorem up_len (ns : List Nat) : (up ns).length = ns.length := by simp [up]
end Go.Proofs.Ytigodedloogbcaa
