/- Texts of one chain, laid one behind the other. -/
import Derived.Test.YtlnodnkfagehgaaDoorChain11
/- The document's answer: what bytes are; names. -/
namespace Go.Proofs.YtlnodnkfagehgaaDoor
open Go.ChangeShapes Go.WideShapes Go.ChangeAt Go.RowKit

theorem row_next {p : Int → Bool} {l : List UInt8} {i : Nat} (h : i ≤ rowN p l) (hi : i < l.length) (hp : p (by8 l i) = true) : i + 1 ≤ rowN p l := by
  rcases Nat.lt_or_ge i (rowN p l) with h1 | h1
  · exact h1
  · have e : rowN p l = i := by omega
    have := rowN_out p l (by omega)
    rw [e, hp] at this
    cases this
end Go.Proofs.YtlnodnkfagehgaaDoor
