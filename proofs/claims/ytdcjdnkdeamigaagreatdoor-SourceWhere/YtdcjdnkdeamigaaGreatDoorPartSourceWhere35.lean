/- Texts of one chain. -/
import Derived.Test.YtdcjdnkdeamigaaGreatDoorPartSourceWhere34
import Derived.Test.YtdcjdnkdeamigaaGreatDoorPartSourceWhere33
import Derived.Test.YtdcjdnkdeamigaaGreatDoorPartSourceWhere4
import Derived.Deep.Cut
namespace Go.Proofs.YtdcjdnkdeamigaaGreatDoor
open Go.ChangeShapes Go.WideShapes Go.ChangeAt Go.RowKit
def BP (nm:List UInt8) (K:List wJ) (u:World) (v:Value):Prop:=∃a c M,v=.agg #[.string (zW nm),.slice a M.length c]/\M.map Prod.fst=K/\YQ u a M/\LR u M
theorem BP.later {nm:List UInt8} {K:List wJ} {u u':World} {v:Value} (h:BP nm K u v) (hb:Below u.heap.size u u'):BP nm K u' v:=by
 obtain ⟨a,c,M,h1,h2,h3,h4⟩:=h;exact ⟨a,c,M,h1,h2,h3.below hb,h4.below hb⟩
theorem mJ {nm:List UInt8} {K:List wJ} (h:(vS nm K).2.1=0):vS nm K=(sG nm K,0,0)/\(yD (sG nm K)).code=0:=by
 unfold vS at h ⊢
 by_cases h1:0<=pR K 0
 ·rw [if_pos h1]at h;exact absurd (show (1:Int)=0 from h) (by decide)
 rw[if_neg h1]at h ⊢
 by_cases h2:(yD (sG nm K)).code≠0
 ·rw [if_pos h2]at h;exact absurd h h2
 rw[if_neg h2];exact ⟨rfl,Decidable.not_not.1 h2⟩
theorem DQ {w:World} {a1 a2 a3 a4:Option Addr} {g:GG} (h:UH w a1 a2 a3 a4 g):(∀ x ∈ g.A,x.params.length<=4611686018427387904)/\∀x ∈ g.E,x.start.length<=4611686018427387904:=by
 have q:=h.nums;exact ⟨fun x hx=>by have:=(q.1 x hx).2.2;omega,fun x hx=>by have:=(q.2 x hx).2;omega⟩
end Go.Proofs.YtdcjdnkdeamigaaGreatDoor
