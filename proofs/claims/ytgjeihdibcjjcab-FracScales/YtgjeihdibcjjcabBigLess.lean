/- What the document's numbers of any length do over rows of digits: less (pianolaref00). -/
import Derived.Test.YtgjeihdibcjjcabBigGrow
namespace Go.Proofs.Ytgjeihdibcjjcab
open Go.ChangeShapes Go.WideShapes Go.ChangeAt Go.RowKit

theorem lessL_step (b : Int) (xs ys : List Int) (i : Nat) (h : i < xs.length) :
    lessL b (xs.drop i) (ys.drop i) = (if nth xs i - b - nth ys i < 0 then nth xs i - b - nth ys i + 1073741824 else nth xs i - b - nth ys i) :: lessL (if nth xs i - b - nth ys i < 0 then 1 else 0) (xs.drop (i + 1)) (ys.drop (i + 1)) := by
  have e : nth (ys.drop i) 0 = nth ys i := by
    unfold nth
    rw [List.getD_eq_getElem?_getD, List.getD_eq_getElem?_getD, List.getElem?_drop, Nat.add_zero]
  rw [drop_nth xs i h, lessL, e, List.tail_drop]

end Go.Proofs.Ytgjeihdibcjjcab
