/- Texts of one chain, laid one behind the other. -/
import Derived.Test.YtehgkgbijhobdaaPartActorsTwo8
import Derived.Laws.Strings
import Derived.Test.YtehgkgbijhobdaaPartActorsTwo6
namespace Go.Proofs.Ytehgkgbijhobdaa
open Go.ChangeShapes Go.WideShapes Go.ChangeAt Go.RowKit
theorem same6 (zs : List Int) (a b : Option Addr) (c1 c2 : Nat) (W : World) (hm : zs.length ≤ 1024) (k1 : At W a zs) (k2 : At W b zs) : Calls Try.prog 17 #[.slice a zs.length c1, .slice b zs.length c2] W (fun e w' => e = .returned (.bool true) ∧ Below W.heap.size W w') :=
  (same_any a b zs zs.length c1 c2 W rfl (by omega) k1 k2).mono fun e w' ⟨n, h1, h2⟩ => ⟨h1, by rw [h2]; exact bdrew (Below.refl _ _) n⟩
end Go.Proofs.Ytehgkgbijhobdaa
