/- Texts of one chain. -/
import Derived.Test.YtdcjdnkdeamigaaGreatDoorPartSourceWhere15
import Derived.Test.YtdcjdnkdeamigaaGreatDoorPartSourceWhere8
namespace Go.Proofs.YtdcjdnkdeamigaaGreatDoor
open Go.ChangeShapes Go.WideShapes Go.ChangeAt Go.RowKit
structure GA where
 name:List UInt8
 tag:Nat
 params:List Int
structure GE where
 f:Int
 fp:Int
 t:Int
 tp:Int
 start:List Int
structure GP where
 name:List UInt8
 actor:Int
 port:Int
structure GG where
 name:List UInt8
 A:List GA
 E:List GE
 ins:List GP
 outs:List GP
structure LS where
 ns:List (List UInt8)
 I:List (List Bool)
 O:List (List Bool)
structure FL where
 code:Int
 kind:Nat
 number:Nat
 stop:Nat
def DI:FL:=⟨0,0,0,0⟩
def wD (R:List (List Bool)) (k:Nat):List Bool:=R.getD k []
def mR (R:List (List Bool)) (a p:Nat):Bool:=(wD R a).getD p false
def bY (R:List (List Bool)) (a p:Nat):List (List Bool):=R.set a ((wD R a).set p true)
def zC (ns:List (List UInt8)) (s:List UInt8):Int × List (List UInt8):=if yO s=true then (if 0<ns.count s then 83 else 0,s::ns) else (82,ns)
def vP (s:LS) (t:Nat) (zs:List Int):Int × LS:=if (aY t zs).2.2=0 then (0,⟨s.ns,s.I++[List.replicate (aY t zs).1.length false],s.O++[List.replicate (aY t zs).2.1.length false]⟩) else ((aY t zs).2.2,s)
def yU (R:List (List Bool)) (a p:Int):Int:=
 if a<0\/(R.length:Int)<=a then 84 else if p<0\/((wD R a.toNat).length:Int)<=p then 85 else if mR R a.toNat p.toNat=true then 86 else 0
def xJ (R:List (List Bool)) (a p:Int):List (List Bool):=if yU R a p=0 then bY R a.toNat p.toNat else R
def hY (R:List (List Bool)) (a:Nat):Bool:=(wD R a).contains false
def rZ (g:GG):FL:=
 if yO g.name=false then ⟨82,0,0,0⟩ else if g.A.length=0 then ⟨80,0,0,0⟩ else if 32<g.A.length then ⟨81,1,32,0⟩ else if 96<g.E.length then ⟨81,2,96,0⟩
 else if 16<g.ins.length then ⟨81,3,16,0⟩ else if 16<g.outs.length then ⟨81,4,16,0⟩ else DI
def vM:List GA->Nat->LS->FL × LS
 |[],_,s=>(DI,s)
 |a::r,i,s=>
  if (zC s.ns a.name).1=0 then
   (if (vP ⟨(zC s.ns a.name).2,s.I,s.O⟩ a.tag a.params).1=0 then vM r (i+1) (vP ⟨(zC s.ns a.name).2,s.I,s.O⟩ a.tag a.params).2
    else (⟨(vP ⟨(zC s.ns a.name).2,s.I,s.O⟩ a.tag a.params).1,1,i,0⟩,s))
  else (⟨(zC s.ns a.name).1,1,i,0⟩,s)
def uO:List GE->Nat->LS->FL × LS
 |[],_,s=>(DI,s)
 |e::r,i,s=>
  if yU s.O e.f e.fp=0 then
   (if yU s.I e.t e.tp=0 then (if 256<e.start.length then (⟨88,2,i,0⟩,s) else uO r (i+1) ⟨s.ns,xJ s.I e.t e.tp,xJ s.O e.f e.fp⟩)
    else (⟨yU s.I e.t e.tp,2,i,2⟩,s))
  else (⟨yU s.O e.f e.fp,2,i,1⟩,s)
def mQ:List GP->Nat->LS->FL × LS
 |[],_,s=>(DI,s)
 |p::r,i,s=>
  if (zC s.ns p.name).1=0 then (if yU s.I p.actor p.port=0 then mQ r (i+1) ⟨(zC s.ns p.name).2,xJ s.I p.actor p.port,s.O⟩ else (⟨yU s.I p.actor p.port,3,i,2⟩,s))
  else (⟨(zC s.ns p.name).1,3,i,0⟩,s)
def rH:List GP->Nat->LS->FL × LS
 |[],_,s=>(DI,s)
 |p::r,i,s=>
  if (zC s.ns p.name).1=0 then (if yU s.O p.actor p.port=0 then rH r (i+1) ⟨(zC s.ns p.name).2,s.I,xJ s.O p.actor p.port⟩ else (⟨yU s.O p.actor p.port,4,i,1⟩,s))
  else (⟨(zC s.ns p.name).1,4,i,0⟩,s)
def lG (I O:List (List Bool)):Nat->Nat->FL
 |0,_=>DI
 |n+1,i=>if hY I i=true\/hY O i=true then ⟨87,1,i,0⟩ else lG I O n (i+1)
def yD (g:GG):FL:=
 if (rZ g).code≠0 then rZ g else
 let a:=vM g.A 0 ⟨[],[],[]⟩
 if a.1.code≠0 then a.1 else
 let e:=uO g.E 0 a.2
 if e.1.code≠0 then e.1 else
 let i:=mQ g.ins 0 e.2
 if i.1.code≠0 then i.1 else
 let o:=rH g.outs 0 i.2
 if o.1.code≠0 then o.1 else
 lG o.2.I o.2.O g.A.length 0
end Go.Proofs.YtdcjdnkdeamigaaGreatDoor
