/- Texts of one chain, laid one behind the other. -/
import Derived.RowKit
namespace Go.Proofs.YtimioiaoefhabaaGreat
open Go.RowKit
/-! ### Rows of numbers -/
def nth (zs : List Int) (k : Nat) : Int := zs.getD k 0
def InR (zs : List Int) : Prop := ∀ k, -9223372036854775808 ≤ nth zs k ∧ nth zs k ≤ 9223372036854775807
theorem inR0 : InR [] := fun k => by
  have e : nth [] k = 0 := by simp [nth]
  rw [e]; decide
end Go.Proofs.YtimioiaoefhabaaGreat
