/- Texts of one chain, laid one behind the other. -/
import Derived.Test.YtmeogapffdgjlabPartLoopsNames14
import Derived.Test.YtmeogapffdgjlabPartLoopsNames19
import Derived.Deep.QuietTactic
import Derived.BigQuiet
namespace Go.Proofs.Ytmeogapffdgjlab
open Go.ChangeShapes Go.WideShapes Go.ChangeAt Go.RowKit
theorem NstR.drew {F : Nat → Prop} {m : Bool} {w : World} {b o : Nat} {l : List Lp} (h : NstR F m w b o l) (n : Nat) : NstR F m (w.drewN n) b o l := NstR.keep (w := w) (w' := w.drewN n) (fun _ _ => rfl) _ _ _ h
theorem NsK.drew {F : Nat → Prop} {m : Bool} {w : World} {a : Option Addr} {k : Nat} {l : List Lp} (h : NsK F m w a k l) (n : Nat) : NsK F m (w.drewN n) a k l := h.keep (fun _ _ => rfl)
theorem Nst.drew {F : Nat → Prop} {m : Bool} {w : World} {a : Option Addr} {l : List Lp} (h : Nst F m w a l) (n : Nat) : Nst F m (w.drewN n) a l := h.keep (fun _ _ => rfl)
end Go.Proofs.Ytmeogapffdgjlab
