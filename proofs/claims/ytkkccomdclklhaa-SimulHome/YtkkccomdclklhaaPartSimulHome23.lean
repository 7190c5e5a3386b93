/- Texts of one chain, laid one behind the other. -/
import Derived.Test.YtkkccomdclklhaaPartSimulHome5
import Derived.StillTailTactics
import Derived.Test.YtkkccomdclklhaaPartSimulHome15
import Derived.Deep.OwnRows
namespace Go.Proofs.Ytkkccomdclklhaa
open Go.ChangeShapes Go.WideShapes Go.ChangeAt Go.RowKit
theorem newF_yes {n d : Int} (hd : d ≠ 0) (h : lowB n d = true) : newN n d = lowN n d ∧ newD n d = lowD n d ∧ newE n d = 0 := new_yes hd h
theorem newF_any (n d : Int) (w : World) (hn : -9223372036854775808 ≤ n ∧ n ≤ 9223372036854775807) (hd : -9223372036854775808 ≤ d ∧ d ≤ 9223372036854775807) :
    Calls Try.prog 48 #[.int .i64 n, .int .i64 d] w (NewEnd w n d) := new_any n d w hn hd
end Go.Proofs.Ytkkccomdclklhaa
