/- The three boxed fractions of the statement FracOrders. -/
import Derived.Test.YtcklodmhlhjipabFrArg
namespace Go.Proofs.Ytcklodmhlhjipab
open Go.ChangeShapes Go.WideShapes Go.ChangeAt Go.RowKit

/-- The three boxed fractions, behind calls that turned nothing old. -/
structure Box3 (w w1 : World) (a1 a2 b1 b2 c1 c2 : Value) : Prop where
  va : Var2 w1 w.heap.size a1 a2
  vb : Var2 w1 (w.heap.size + 1) b1 b2
  vc : Var2 w1 (w.heap.size + 1 + 1) c1 c2
  old : Below w.heap.size w w1
theorem box3_new (w : World) (a1 a2 b1 b2 c1 c2 : Value) (t : TypeId) : Box3 w (((w.alloc (.cells #[a1, a2] t)).alloc (.cells #[b1, b2] t)).alloc (.cells #[c1, c2] t)) a1 a2 b1 b2 c1 c2 :=
  ⟨((var2_new w _ _ _).alloc _).alloc _, (var2_at _ _ _ _ (by simp)).alloc _, var2_at _ _ _ _ (by simp), (((Below.refl _ _).alloc (Nat.le_refl _) _).alloc (by simp) _).alloc (by simp; omega) _⟩
theorem Box3.later {w w1 w2 : World} {a1 a2 b1 b2 c1 c2 : Value} (h : Box3 w w1 a1 a2 b1 b2 c1 c2) (hb : Below w1.heap.size w1 w2) : Box3 w w2 a1 a2 b1 b2 c1 c2 :=
  ⟨h.va.later hb h.va.lt, h.vb.later hb h.vb.lt, h.vc.later hb h.vc.lt, h.old.trans (hb.mono h.old.size)⟩

end Go.Proofs.Ytcklodmhlhjipab
