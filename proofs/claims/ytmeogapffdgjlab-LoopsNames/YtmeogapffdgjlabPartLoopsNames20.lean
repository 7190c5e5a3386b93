/- Texts of one chain, laid one behind the other. -/
import Derived.Test.YtmeogapffdgjlabPartLoopsNames15
import Derived.RangeFuncNested
import Derived.RangeFuncBound
import Derived.RangeFuncCalls
import Derived.RangeFuncLeaves
import Derived.RangeFuncBox
import Derived.Shelf.Abstract
import Derived.Shelf.RegionOpen
import Derived.WalkKit
import Derived.OwnWalkIn
import Derived.TacticsInMore
import Derived.LoopNIn
import Derived.LoopIn
namespace Go.Proofs.Ytmeogapffdgjlab
open Go.ChangeShapes Go.WideShapes Go.ChangeAt Go.RowKit Go.Shelf
attribute [local go_sem] Oper.semAt_some
/-- What a round keeps: the blocks of F, and all rows and boxes of loops. -/
def KpZ (F : Nat → Prop) (W W' : World) : Prop := (W.heap.size ≤ W'.heap.size ∧ ∀ k, F k → W'.heap[k]? = W.heap[k]?) ∧ ∀ k cs, BlkA 29 k W cs → BlkA 29 k W' cs
theorem KpZ.refl (F : Nat → Prop) (W : World) : KpZ F W W := ⟨⟨Nat.le_refl _, fun _ _ => rfl⟩, fun _ _ h => h⟩
theorem KpZ.trans {F : Nat → Prop} {A B C : World} (h : KpZ F A B) (k : KpZ F B C) : KpZ F A C := ⟨⟨Nat.le_trans h.1.1 k.1.1, fun i hi => (k.1.2 i hi).trans (h.1.2 i hi)⟩, fun i cs hi => k.2 i cs (h.2 i cs hi)⟩
theorem KpZ.of_below {F : Nat → Prop} {A B : World} (h : Below A.heap.size A B) (hn : ∀ k, F k → k < A.heap.size) : KpZ F A B := ⟨⟨h.size, fun k hk => h.block k (hn k hk)⟩, fun _ _ hi => hi.below h⟩
end Go.Proofs.Ytmeogapffdgjlab
