/- What the copy of a row (pianolaref00.Ints) answers. -/
import Derived.Test.YtancphohpedigaaOwn
namespace Go.Proofs.Ytancphohpedigaa
open Go.ChangeShapes Go.WideShapes Go.ChangeAt Go.RowKit

/-- A call's end: a new row with these numbers; nothing old has turned. -/
def Copied (w : World) (len : Nat) (zs : List Int) (e : Ending) (w' : World) : Prop :=
  ∃ (a : Option Addr) (cap : Nat), e = .returned (.slice a len cap) ∧ At w' a zs ∧ Below w.heap.size w w' ∧ (a = none → len = 0 ∧ cap = 0) ∧ len ≤ cap ∧ (∀ x, a = some x → w.heap.size ≤ x.block)

end Go.Proofs.Ytancphohpedigaa
