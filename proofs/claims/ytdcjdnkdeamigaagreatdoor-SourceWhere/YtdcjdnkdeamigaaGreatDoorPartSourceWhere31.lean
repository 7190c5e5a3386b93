/- Texts of one chain. -/
import Derived.Test.YtdcjdnkdeamigaaGreatDoorPartQ
import Derived.Test.YtdcjdnkdeamigaaGreatDoorPartSourceWhere25
import Derived.Test.YtdcjdnkdeamigaaGreatDoorPartSourceWhere4
import Derived.Laws.Tables
namespace Go.Proofs.YtdcjdnkdeamigaaGreatDoor
open Go.ChangeShapes Go.WideShapes Go.ChangeAt Go.RowKit
theorem jE (w:World) (b:Nat) (cs:Array Value):tD b w (w.setRow b cs):=by
 refine ⟨rfl,rfl,rfl,by simp[World.setRow],fun k hk hn=>?_⟩
 simp only[World.setRow,Array.getElem?_modify];rw[if_neg (Ne.symm hn)]
theorem xI (w:World) {ops:Array Oper} {rest:List Oper} {o:Oper} {a:Act} {Q:Exit->Act->World->Prop} (hgd:o.guard=none) (ty:TypeId) (x y:Operand) (ho:o.op=.store ty x y) (hdst:o.dst=none)
 (b:Nat) (S:TypeId) (old cells:Array Value) (hx:a.eval x=(qP b)) (hy:a.eval y=.agg cells) (hB:zD S b w old) (hi:(Tryz.prog.info? ty).map (·.size)=some cells.size) (hold:old.size=cells.size) (h1:cells.toList.all (·.oneCell')=true)
 (h:∀w',zD S b w' cells->tD b w w'->wpList Tryz.prog ops Q rest a w'):wpList Tryz.prog ops Q (o::rest) a w:=by
 refine wpList_store_row hgd ty x y ho b cells hx hy S old hB hi hold (by rw[<- Array.all_toList];exact h1) ?_
 rw[hdst];exact h _ (setRow_heap w b old cells S _ hB) (jE w b cells)
theorem sizI:(Tryz.prog.info? 103).map (·.size)=some 11:=by kernel_rfl
theorem sizQ:(Tryz.prog.info? 101).map (·.size)=some 3:=by kernel_rfl
theorem sizS:(Tryz.prog.info? 52).map (·.size)=some 2:=by kernel_rfl
theorem MG:(Tryz.prog.info? 26).map (·.size)=some 5:=by kernel_rfl
theorem MF:(Tryz.prog.info? 33).map (·.size)=some 2:=by kernel_rfl
theorem sizF:(Tryz.prog.info? 85).map (·.size)=some 4:=by kernel_rfl
end Go.Proofs.YtdcjdnkdeamigaaGreatDoor
