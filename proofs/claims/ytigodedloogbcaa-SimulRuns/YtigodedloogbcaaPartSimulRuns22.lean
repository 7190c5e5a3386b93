/- Texts of one chain, laid one behind the other. -/
import Derived.Test.YtigodedloogbcaaPartSimulRuns21
import Derived.Test.YtigodedloogbcaaPartSimulRuns18
namespace Go.Proofs.Ytigodedloogbcaa
open Go.ChangeShapes Go.WideShapes Go.ChangeAt Go.RowKit
def netA : NN := ⟨1, [⟨0, 0, 1, 1, 0⟩]⟩
theorem atN_one (U : World) (x : NA) : AtN (U.alloc (.cells #[.int .i64 x.f, .int .i64 x.t, .int .i64 x.g, .int .i64 x.k, .int .i64 x.s] 64)) (some ⟨U.heap.size, 0, none⟩) [x] := by
  have b := blkA_new 64 U #[.int .i64 x.f, .int .i64 x.t, .int .i64 x.g, .int .i64 x.k, .int .i64 x.s]
  refine .inr ⟨U.heap.size, 0, rfl, fun k hk => ?_⟩
  match k, hk with
  | 0, _ => exact ⟨b.cell rfl, b.cell rfl, b.cell rfl, b.cell rfl, b.cell rfl⟩
end Go.Proofs.Ytigodedloogbcaa
