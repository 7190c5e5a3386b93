/- Tokens further on in a text (moved). -/
import Derived.Test.YtendmdokgpgngabDoorLSame
import Derived.Test.YtendmdokgpgngabDoorLJoinM
import Derived.Test.YtendmdokgpgngabDoorLNames
namespace Go.Proofs.YtendmdokgpgngabDoor
open Go.ChangeShapes Go.WideShapes Go.ChangeAt Go.RowKit

theorem Toks.snoc {base w v ts t} (h : w.ownsRow base 31 4 v (ts.length + 1) (ts.flatMap tokC ++ tokC t)) : Toks base w v (ts ++ [t]) := by
  unfold Toks
  rw [List.flatMap_append, List.length_append]
  simpa [List.flatMap] using h
theorem drop_nthT : ∀ (ts : List Tok) (k : Nat), k < ts.length → ts.take (k + 1) = ts.take k ++ [nthT ts k]
  | [], k, h => by simp at h
  | t :: ts, 0, _ => rfl
  | t :: ts, k + 1, h => by
    rw [List.take_succ_cons, List.take_succ_cons, drop_nthT ts k (by simp at h; omega)]
    rfl
end Go.Proofs.YtendmdokgpgngabDoor
