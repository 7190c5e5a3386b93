/- Texts of one chain. -/
import Derived.Test.YtpohmekkdjdhmaaGreatPartTopPeriods32
import Derived.Test.YtpohmekkdjdhmaaGreatPartTopPeriods33
import Derived.Test.YtpohmekkdjdhmaaGreatPartTopPeriods3
import Derived.Test.YtpohmekkdjdhmaaGreatPartTopPeriods30
namespace Go.Proofs.YtpohmekkdjdhmaaGreat
open Go.ChangeShapes Go.WideShapes Go.ChangeAt Go.RowKit
def zNN (V:World) (zs:List Int) (u:World) (v:Value):Prop:=∃a c,v=.slice a zs.length c/\zO V.heap.size u a c zs
theorem zNN.later {V u u':World} {zs:List Int} {v:Value} (h:zNN V zs u v) (hb:Below u.heap.size u u'):zNN V zs u' v:=by
 obtain ⟨a,c,h1,h2⟩:=h;exact ⟨a,c,h1,h2.later hb⟩
def ItV (V:World) (x:YU) (u:World) (v:Value):Prop:=∃a c,v=.agg (itC x.kind x.name x.tag (.slice a x.nums.length c) x.frm x.tgt x.place)/\zO V.heap.size u a c x.nums
def ItC (V:World) (x:YU) (u:World) (v:Value):Prop:=∃h a c,v=.slice (some ⟨h,0,none⟩) 1 1/\(∀ k y,(itP (x,.slice a x.nums.length c))[k]? =some y->u.cell? ⟨h,k,none⟩=some y)/\zO V.heap.size u a c x.nums
theorem ItV.later {V u u':World} {x:YU} {v:Value} (h:ItV V x u v) (hb:Below u.heap.size u u'):ItV V x u' v:=by
 obtain ⟨a,c,h1,h2⟩:=h;exact ⟨a,c,h1,h2.later hb⟩
theorem ItC.later {V u u':World} {x:YU} {v:Value} (h:ItC V x u v) (hb:Below u.heap.size u u'):ItC V x u' v:=by
 obtain ⟨g,a,c,h1,h2,h3⟩:=h;exact ⟨g,a,c,h1,fun k y hy=>xR hb (h2 k y hy),h3.later hb⟩
def numG:List (List UInt8)->Nat->Int->List UInt8->Int
 |[],_,d,_=>d
 |n::r,i,d,x=>numG r (i+1) (if n=x then (i:Int) else d) x
def zUZ (ns:List (List UInt8)) (x:List UInt8):Int:=numG ns 0 (-1) x
def PF (k:Int) (L:List YU):List YU:=L.filter (fun x=>decide (x.kind=k))
def luA (x:YU):GA:=⟨x.name,(tagS x.tag).1,x.nums⟩
def luE (ns:List (List UInt8)) (x:YU):GE:=⟨zUZ ns x.frm.name,x.frm.port,zUZ ns x.tgt.name,x.tgt.port,x.nums⟩
def luI (ns:List (List UInt8)) (x:YU):GP:=⟨x.name,zUZ ns x.tgt.name,x.tgt.port⟩
def luO (ns:List (List UInt8)) (x:YU):GP:=⟨x.name,zUZ ns x.frm.name,x.frm.port⟩
theorem kQ (k:Int) (L:List YU):(PF k L).length<=L.length:=List.length_filter_le _ _
end Go.Proofs.YtpohmekkdjdhmaaGreat
