/- Texts of one chain. -/
import Derived.RowKit
namespace Go.Proofs.YtdcjdnkdeamigaaGreatDoor
open Go.RowKit
def wF (zs:List Int) (k:Nat):Int:=zs.getD k 0
def InR (zs:List Int):Prop:=∀k,-9223372036854775808<=wF zs k/\wF zs k<=9223372036854775807
theorem inR0:InR []:=fun k=>by
 have e:wF [] k=0:=by simp[wF]
 rw[e];decide
end Go.Proofs.YtdcjdnkdeamigaaGreatDoor
