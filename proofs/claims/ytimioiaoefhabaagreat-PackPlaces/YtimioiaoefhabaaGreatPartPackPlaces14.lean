/- Texts of one chain, laid one behind the other. -/
import Derived.Test.YtimioiaoefhabaaGreatPartPackPlaces10
import Derived.Test.YtimioiaoefhabaaGreatPartPackPlaces3
import Derived.Laws.Tables
namespace Go.Proofs.YtimioiaoefhabaaGreat
open Go.ChangeShapes Go.WideShapes Go.ChangeAt Go.RowKit
theorem setRow_but (w : World) (b : Nat) (cs : Array Value) : But b w (w.setRow b cs) := by
  refine ⟨rfl, rfl, rfl, by simp [World.setRow], fun k hk hn => ?_⟩
  simp only [World.setRow, Array.getElem?_modify]
  rw [if_neg (Ne.symm hn)]
theorem wpList_storeW (w : World) {ops : Array Oper} {rest : List Oper} {o : Oper} {a : Act} {Q : Exit → Act → World → Prop} (hgd : o.guard = none) (ty : TypeId) (x y : Operand) (ho : o.op = .store ty x y) (hdst : o.dst = none)
    (b : Nat) (S : TypeId) (old cells : Array Value) (hx : a.eval x = .pointer (some ⟨b, 0, none⟩)) (hy : a.eval y = .agg cells) (hB : BlkA S b w old) (hi : (Tryz.prog.info? ty).map (·.size) = some cells.size) (hold : old.size = cells.size) (h1 : cells.toList.all (·.oneCell') = true)
    (h : ∀ w', BlkA S b w' cells → But b w w' → wpList Tryz.prog ops Q rest a w') : wpList Tryz.prog ops Q (o :: rest) a w := by
  refine wpList_store_row hgd ty x y ho b cells hx hy S old hB hi hold (by rw [← Array.all_toList]; exact h1) ?_
  rw [hdst]
  exact h _ (setRow_heap w b old cells S _ hB) (setRow_but w b cells)
end Go.Proofs.YtimioiaoefhabaaGreat
