/- Facts that are used often. -/
import Derived.Test.YtgoconkleicmkaaRows
import Derived.Deep.LoopGhost
import Derived.Deep.DeepCutAuto
import Derived.RowKit
import Derived.WalkKit
import Derived.ProofKit
import Derived.OpenShut
import Derived.BigQuiet
import Derived.Outline
import Derived.StillTail
import Derived.Laws.AppendOwnNone
import Derived.SizedLaws
import Derived.Laws.OwnMore
namespace Go.Proofs.Ytgoconkleicmkaa
open Go.ChangeShapes Go.WideShapes Go.ChangeAt Go.RowKit
theorem qS {α : Type} : (∀ (xs : List α) (i : Nat), xs.toArray[i]? = xs[i]?) ∧ (∀ (a : α) (l : List α), (a :: l)[0]? = some a) ∧ (∀ (a : α) (l : List α) (i : Nat), (a :: l)[i + 1]? = l[i]?) ∧ (∀ a b : α, (some a = some b) = (a = b)) := ⟨fun _ _ => List.getElem?_toArray, fun _ _ => List.getElem?_cons_zero, fun _ _ _ => List.getElem?_cons_succ, fun a b => Option.some.injEq a b⟩
theorem qU {α : Type} : (∀ (l : List α) (i : Nat) (a : α), l.toArray.setIfInBounds i a = (l.set i a).toArray) ∧ (∀ (a b : α) (l : List α), (a :: l).set 0 b = b :: l) ∧ (∀ (a b : α) (l : List α) (i : Nat), (a :: l).set (i + 1) b = a :: l.set i b) := ⟨fun _ _ _ => List.setIfInBounds_toArray _ _ _, fun _ _ _ => List.set_cons_zero, fun _ _ _ _ => List.set_cons_succ⟩
theorem qF {p : Prop} (hw : true = false) : p := absurd hw (by decide)
theorem qD {p q : Prop} [Decidable p] (h : p) (hd : decide p = false := by decide) : q := absurd h (of_decide_eq_false hd)
theorem qB {w : World} {α : Type} {v : α} : Below w.heap.size w w ∧ v = v := ⟨Below.refl _ _, rfl⟩
end Go.Proofs.Ytgoconkleicmkaa
