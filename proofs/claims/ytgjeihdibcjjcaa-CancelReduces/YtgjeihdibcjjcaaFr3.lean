/- What frac's product of two answers, whatever order its statements draw. -/
import Derived.Test.YtgjeihdibcjjcaaFr2
import Derived.StillTailTactics
namespace Go.Proofs.Ytgjeihdibcjjcaa
open Go.ChangeShapes Go.WideShapes Go.ChangeAt Go.RowKit

/-- How the product of two ends. -/
def TwoEnd (w : World) (a b c d : Int) (e : Ending) (w' : World) : Prop :=
  Below w.heap.size w w' ∧ ((twoB a b c d = true ∧ e = .returned (.agg #[.int .i64 (twoN a b c d), .int .i64 (twoD a b c d)])) ∨ (twoB a b c d = false ∧ e = .panicked bigPanic))

end Go.Proofs.Ytgjeihdibcjjcaa
