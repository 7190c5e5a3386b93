/- Texts of one chain. -/
import Derived.RowKit
namespace Go.Proofs.Ytgoconkleicmkaa
open Go.RowKit
def yW (zs : List Int) (k : Nat) : Int := zs.getD k 0
def InR (zs : List Int) : Prop := ∀ k, -9223372036854775808 <= yW zs k /\ yW zs k <= 9223372036854775807
theorem inR0 : InR [] := fun k => by
 have e : yW [] k = 0 := by simp [yW]
 rw [e]; decide
end Go.Proofs.Ytgoconkleicmkaa
