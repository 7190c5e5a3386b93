/- Texts of one chain, laid one behind the other. -/
import Derived.Test.YtkkccomdclklhaaPartSimulMore20
import Derived.Test.YtkkccomdclklhaaPartSimulMore17
import Derived.Test.YtkkccomdclklhaaPartSimulMore18
namespace Go.Proofs.Ytkkccomdclklhaa
open Go.ChangeShapes Go.WideShapes Go.ChangeAt Go.RowKit
def netA : NN := ⟨1, [⟨0, 0, 1, 1, 0⟩]⟩
theorem atN_one (U : World) (x : NA) : AtN (U.alloc (.cells #[.int .i64 x.f, .int .i64 x.t, .int .i64 x.g, .int .i64 x.k, .int .i64 x.s] 50)) (some ⟨U.heap.size, 0, none⟩) [x] := by
  have b := blkA_new 50 U #[.int .i64 x.f, .int .i64 x.t, .int .i64 x.g, .int .i64 x.k, .int .i64 x.s]
  refine .inr ⟨U.heap.size, 0, rfl, fun k hk => ?_⟩
  match k, hk with
  | 0, _ => exact ⟨b.cell rfl, b.cell rfl, b.cell rfl, b.cell rfl, b.cell rfl⟩
theorem more_step {U : World} {g : Nat} {A : List NA} {i : Nat} (h : AtN U (some ⟨g, 0, none⟩) A) (hi : i < A.length) : AtN (U.setCell ⟨g, i * 5 + 4, none⟩ (.int .i64 ((nthNa A i).s + 1))) (some ⟨g, 0, none⟩) (A.set i (moreA (nthNa A i))) := by
  rcases h with e | ⟨b, off, e, hc⟩
  · rw [e] at hi; exact absurd hi (Nat.not_lt_zero _)
  · cases e
    refine .inr ⟨g, 0, rfl, fun k hk => ?_⟩
    rw [List.length_set] at hk
    obtain ⟨q0, q1, q2, q3, q4⟩ := hc k hk
    have ne : ∀ o, o ≠ i * 5 + 4 → (U.setCell ⟨g, i * 5 + 4, none⟩ (.int .i64 ((nthNa A i).s + 1))).cell? ⟨g, o, none⟩ = U.cell? ⟨g, o, none⟩ := fun o ho => World.cell?_setCell_other _ _ _ _ (fun e => ho (by cases e; rfl))
    rw [nthNa_set hi]
    by_cases e : k = i
    · subst e
      rw [if_pos rfl]
      refine ⟨by rw [ne _ (by omega)]; exact q0, by rw [ne _ (by omega)]; exact q1, by rw [ne _ (by omega)]; exact q2, by rw [ne _ (by omega)]; exact q3, ?_⟩
      rw [Nat.zero_add] at q4 ⊢
      exact World.cell?_setCell_same' _ _ _ (by rw [q4]; rfl)
    · rw [if_neg e]
      exact ⟨by rw [ne _ (by omega)]; exact q0, by rw [ne _ (by omega)]; exact q1, by rw [ne _ (by omega)]; exact q2, by rw [ne _ (by omega)]; exact q3, by rw [ne _ (by omega)]; exact q4⟩
end Go.Proofs.Ytkkccomdclklhaa
