/- The walk through the statement CancelTurns. (Written by tmpl/mkCTurns.py.) -/
import Derived.Test.YtgjeihdibcjjcabCAwake
import Derived.Test.YtgjeihdibcjjcabCopy
namespace Go.Proofs.Ytgjeihdibcjjcab
open Go.ChangeShapes Go.WideShapes Go.ChangeAt Go.RowKit

theorem cE_turn (xs ys : List Int) : cE ys xs = cE xs ys := by
  unfold cE
  rw [Bool.and_comm (posB ys)]
  by_cases h : 1024 < xs.length ∨ 1024 < ys.length
  · rw [if_pos h, if_pos (by omega)]
  · rw [if_neg h, if_neg (by omega)]
theorem cA_turn (xs ys : List Int) : cA ys xs = cB xs ys ∧ cB ys xs = cA xs ys := by
  unfold cA cB
  rw [cE_turn xs ys, (red_turn (nats xs) (nats ys)).1, (red_turn (nats xs) (nats ys)).2]
  exact ⟨rfl, rfl⟩
theorem eqB_turn (xs ys : List Int) : eqB ys xs = eqB xs ys := by
  unfold eqB
  rw [cE_turn xs ys]
  congr 1
  by_cases h : prodN' (nats xs) = prodN' (nats ys)
  · rw [decide_eq_true h, decide_eq_true h.symm]
  · rw [decide_eq_false h, decide_eq_false (fun k => h k.symm)]

end Go.Proofs.Ytgjeihdibcjjcab
