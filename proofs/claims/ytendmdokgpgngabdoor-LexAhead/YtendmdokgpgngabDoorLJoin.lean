/- Two texts with a line's end between them (LexJoins). -/
import Derived.Test.YtendmdokgpgngabDoorLMoved
namespace Go.Proofs.YtendmdokgpgngabDoor
open Go.ChangeShapes Go.WideShapes Go.ChangeAt Go.RowKit

theorem text_short {l : List UInt8} (h : l.length ≤ 1048576) : textG l = allL 0 l := by unfold textG; rw [if_neg (by omega)]
theorem nth_mem {ts : List Tok} {k : Nat} (h : k < ts.length) : nthT ts k ∈ ts := by
  unfold nthT
  rw [List.getD_eq_getElem?_getD, List.getElem?_eq_getElem h]
  exact List.getElem_mem h

/-- The facts about the joined text that a walk asks. -/
structure Cat (x y : List UInt8) (C1 C : ByteArray) : Prop where
  z0 : (ByteArray.mk #[10]).size = 1
  z1 : str x ++ ByteArray.mk #[10] = C1
  z2 : C1.size = x.length + 1
  z3 : C1 ++ str y = C
theorem cat_any (x y : List UInt8) : Cat x y (str (x ++ [10])) (str (x ++ 10 :: y)) := by
  refine ⟨rfl, ByteArray.mk_append_mk x [10], by rw [str_size]; simp, ?_⟩
  have := ByteArray.mk_append_mk (x ++ [10]) y
  rw [List.append_assoc] at this
  exact this
def JoinsEnd (w : World) (e : Ending) (w' : World) : Prop := e = .returned (.bool true) ∧ Below w.heap.size w w'

end Go.Proofs.YtendmdokgpgngabDoor
