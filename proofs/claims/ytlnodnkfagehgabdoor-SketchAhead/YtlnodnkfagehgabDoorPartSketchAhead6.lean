/- Texts of one chain, laid one behind the other. -/
import Derived.Test.YtlnodnkfagehgabDoorChain26
import Derived.Test.YtlnodnkfagehgabDoorChain29
/- What stands ahead of an error's place, or of a token, is read (LexAhead). -/
namespace Go.Proofs.YtlnodnkfagehgabDoor
open Go.ChangeShapes Go.WideShapes Go.ChangeAt Go.RowKit

theorem tok_errs (r : List UInt8) : (tokO r).err = 0 ∨ (tokO r).err = 40 ∨ (tokO r).err = 41 ∨ (tokO r).err = 42 := by
  unfold tokO
  split
  · unfold wordO; split
    · exact Or.inr (Or.inr (Or.inr rfl))
    · exact Or.inl rfl
  · split
    · unfold numberO
      simp only
      split
      · exact Or.inr (Or.inr (Or.inl rfl))
      · exact Or.inl rfl
    · split
      · exact Or.inl rfl
      · split
        · exact Or.inl rfl
        · exact Or.inr (Or.inl rfl)
theorem all_errs : ∀ (n p : Nat) (x : List UInt8), x.length ≤ n → (allL p x).err = 0 ∨ (allL p x).err = 40 ∨ (allL p x).err = 41 ∨ (allL p x).err = 42
  | n, p, x, hn => by
    by_cases h1 : x.drop (skipN false x) = []
    · rw [allL_end h1]; exact Or.inl rfl
    · by_cases h2 : (tokO (x.drop (skipN false x))).err = 0
      · match n, hn with
        | 0, hn => exact absurd (by rw [List.eq_nil_of_length_eq_zero (Nat.le_zero.1 hn)]; rfl) h1
        | n + 1, hn =>
          obtain ⟨hs1, hs2, -⟩ := tok_some h2
          have hlen : (x.drop (skipN false x)).length = x.length - skipN false x := List.length_drop
          have ih := all_errs n (p + skipN false x + (tokO (x.drop (skipN false x))).n) (x.drop (skipN false x + (tokO (x.drop (skipN false x))).n)) (by rw [List.length_drop]; omega)
          rw [allL_tok h1 h2]
          unfold Got.cons
          split
          · exact Or.inl rfl
          · exact ih
      · rw [allL_err h1 h2]
        exact tok_errs _
theorem str_to (l : List UInt8) (n : Nat) : (str l).extract 0 n = str (l.take n) := by
  have := str_cut l 0 n
  rw [Nat.zero_add, List.drop_zero] at this
  exact this
end Go.Proofs.YtlnodnkfagehgabDoor
