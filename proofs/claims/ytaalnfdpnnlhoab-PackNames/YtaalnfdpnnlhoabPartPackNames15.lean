/- Texts of one chain, laid one behind the other. -/
import Derived.Test.YtaalnfdpnnlhoabPartPackNames12
import Derived.Deep.SlicePairs
import Derived.SizedLaws
namespace Go.Proofs.Ytaalnfdpnnlhoab
open Go.ChangeShapes Go.WideShapes Go.ChangeAt Go.RowKit
/-- What a walk is told of a net that came in. -/
structure ArgN (w : World) (a : Option Addr) (c : Nat) (n : NN) : Prop where
  lies : AtN w a n.arcs
  none : a = Option.none → n.arcs.length = 0 ∧ c = 0
  nodes : -9223372036854775808 ≤ n.nodes ∧ n.nodes ≤ 9223372036854775807
  room : n.arcs.length * 40 ≤ 140737488351232
theorem ArgN.below {w w' : World} {a : Option Addr} {c : Nat} {n : NN} (h : ArgN w a c n) (hb : Below w.heap.size w w') : ArgN w' a c n := ⟨h.lies.below hb, h.none, h.nodes, h.room⟩
section
variable {H : Type} {enc : TypeId × Value → H} {W : World} {base : Nat} {held : Bool}
end
end Go.Proofs.Ytaalnfdpnnlhoab
