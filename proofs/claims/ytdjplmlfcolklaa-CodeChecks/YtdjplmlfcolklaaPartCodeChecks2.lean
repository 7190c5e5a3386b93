/- Texts of one chain, laid one behind the other. -/
import Derived.RowKit
namespace Go.Proofs.Ytdjplmlfcolklaa
open Go.RowKit
/-! ### Rows of numbers -/
def nth (zs : List Int) (k : Nat) : Int := zs.getD k 0
def InR (zs : List Int) : Prop := ∀ k, -9223372036854775808 ≤ nth zs k ∧ nth zs k ≤ 9223372036854775807
theorem inR0 : InR [] := fun k => by
  have e : nth [] k = 0 := by simp [nth]
  rw [e]; decide
theorem drop_nth (zs : List Int) (k : Nat) (h : k < zs.length) : zs.drop k = nth zs k :: zs.drop (k + 1) := by
  rw [List.drop_eq_getElem_cons h]
  unfold nth
  rw [List.getD_eq_getElem?_getD, List.getElem?_eq_getElem h]
  rfl
end Go.Proofs.Ytdjplmlfcolklaa
