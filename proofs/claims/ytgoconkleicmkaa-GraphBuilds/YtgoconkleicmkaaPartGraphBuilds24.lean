/- Texts of one chain. -/
import Derived.Test.YtgoconkleicmkaaPartGraphBuilds17
import Derived.Test.YtgoconkleicmkaaPartGraphBuilds4
import Derived.Laws.Tables
namespace Go.Proofs.Ytgoconkleicmkaa
open Go.ChangeShapes Go.WideShapes Go.ChangeAt Go.RowKit
theorem mB (w : World) (b : Nat) (cs : Array Value) : vA b w (w.setRow b cs) := by
 refine ⟨rfl, rfl, rfl, by simp [World.setRow], fun k hk hn => ?_⟩
 simp only [World.setRow, Array.getElem?_modify]
 rw [if_neg (Ne.symm hn)]
theorem zM (w : World) {ops : Array Oper} {rest : List Oper} {o : Oper} {a : Act} {Q : Exit -> Act -> World -> Prop} (hgd : o.guard = none) (ty : TypeId) (x y : Operand) (ho : o.op = .store ty x y) (hdst : o.dst = none)
 (b : Nat) (S : TypeId) (old cells : Array Value) (hx : a.eval x = .pointer (some ⟨b, 0, none⟩)) (hy : a.eval y = .agg cells) (hB : zN S b w old) (hi : (Try.prog.info? ty).map (·.size) = some cells.size) (hold : old.size = cells.size) (h1 : cells.toList.all (·.oneCell') = true)
 (h : ∀ w', zN S b w' cells -> vA b w w' -> wpList Try.prog ops Q rest a w') : wpList Try.prog ops Q (o :: rest) a w := by
 refine wpList_store_row hgd ty x y ho b cells hx hy S old hB hi hold (by rw [<- Array.all_toList]; exact h1) ?_
 rw [hdst]
 exact h _ (setRow_heap w b old cells S _ hB) (mB w b cells)
theorem sizI : (Try.prog.info? 45).map (·.size) = some 11 := by kernel_rfl
theorem sizQ : (Try.prog.info? 43).map (·.size) = some 3 := by kernel_rfl
theorem sizS : (Try.prog.info? 24).map (·.size) = some 2 := by kernel_rfl
theorem qZ : (Try.prog.info? 31).map (·.size) = some 5 := by kernel_rfl
theorem kY : (Try.prog.info? 34).map (·.size) = some 2 := by kernel_rfl
theorem sizF : (Try.prog.info? 52).map (·.size) = some 4 := by kernel_rfl
end Go.Proofs.Ytgoconkleicmkaa
