/- Texts of one chain. -/
import Derived.Test.YtpohmekkdjdhmaaGreatPartTopPeriods27
import Derived.Test.YtpohmekkdjdhmaaGreatPartTopPeriods16
namespace Go.Proofs.YtpohmekkdjdhmaaGreat
open Go.ChangeShapes Go.WideShapes Go.ChangeAt Go.RowKit
structure GA where
 name:List UInt8
 tag:Nat
 params:List Int
structure GE where
 f:Int
 fp:Int
 t:Int
 tp:Int
 start:List Int
structure GP where
 name:List UInt8
 actor:Int
 port:Int
structure GG where
 name:List UInt8
 A:List GA
 E:List GE
 ins:List GP
 outs:List GP
structure LS where
 ns:List (List UInt8)
 I:List (List Bool)
 O:List (List Bool)
structure FL where
 code:Int
 kind:Nat
 number:Nat
 stop:Nat
def fl0:FL:=⟨0,0,0,0⟩
def xM (R:List (List Bool)) (k:Nat):List Bool:=R.getD k []
def nS (R:List (List Bool)) (a p:Nat):Bool:=(xM R a).getD p false
def aU (R:List (List Bool)) (a p:Nat):List (List Bool):=R.set a ((xM R a).set p true)
def zK (ns:List (List UInt8)) (s:List UInt8):Int × List (List UInt8):=if vQ s=true then (if 0<ns.count s then 83 else 0,s::ns) else (82,ns)
def xI (s:LS) (t:Nat) (zs:List Int):Int × LS:=if (nU t zs).2.2=0 then (0,⟨s.ns,s.I++[List.replicate (nU t zs).1.length false],s.O++[List.replicate (nU t zs).2.1.length false]⟩) else ((nU t zs).2.2,s)
def zJ (R:List (List Bool)) (a p:Int):Int:=
 if a<0\/(R.length:Int)<=a then 84 else if p<0\/((xM R a.toNat).length:Int)<=p then 85 else if nS R a.toNat p.toNat=true then 86 else 0
def yL (R:List (List Bool)) (a p:Int):List (List Bool):=if zJ R a p=0 then aU R a.toNat p.toNat else R
def iC (R:List (List Bool)) (a:Nat):Bool:=(xM R a).contains false
def rP (g:GG):FL:=
 if vQ g.name=false then ⟨82,0,0,0⟩ else if g.A.length=0 then ⟨80,0,0,0⟩ else if 32<g.A.length then ⟨81,1,32,0⟩ else if 96<g.E.length then ⟨81,2,96,0⟩
 else if 16<g.ins.length then ⟨81,3,16,0⟩ else if 16<g.outs.length then ⟨81,4,16,0⟩ else fl0
def xF:List GA->Nat->LS->FL × LS
 |[],_,s=>(fl0,s)
 |a::r,i,s=>
  if (zK s.ns a.name).1=0 then
   (if (xI ⟨(zK s.ns a.name).2,s.I,s.O⟩ a.tag a.params).1=0 then xF r (i+1) (xI ⟨(zK s.ns a.name).2,s.I,s.O⟩ a.tag a.params).2
    else (⟨(xI ⟨(zK s.ns a.name).2,s.I,s.O⟩ a.tag a.params).1,1,i,0⟩,s))
  else (⟨(zK s.ns a.name).1,1,i,0⟩,s)
def vX:List GE->Nat->LS->FL × LS
 |[],_,s=>(fl0,s)
 |e::r,i,s=>
  if zJ s.O e.f e.fp=0 then
   (if zJ s.I e.t e.tp=0 then (if 256<e.start.length then (⟨88,2,i,0⟩,s) else vX r (i+1) ⟨s.ns,yL s.I e.t e.tp,yL s.O e.f e.fp⟩)
    else (⟨zJ s.I e.t e.tp,2,i,2⟩,s))
  else (⟨zJ s.O e.f e.fp,2,i,1⟩,s)
def nR:List GP->Nat->LS->FL × LS
 |[],_,s=>(fl0,s)
 |p::r,i,s=>
  if (zK s.ns p.name).1=0 then (if zJ s.I p.actor p.port=0 then nR r (i+1) ⟨(zK s.ns p.name).2,yL s.I p.actor p.port,s.O⟩ else (⟨zJ s.I p.actor p.port,3,i,2⟩,s))
  else (⟨(zK s.ns p.name).1,3,i,0⟩,s)
def tE:List GP->Nat->LS->FL × LS
 |[],_,s=>(fl0,s)
 |p::r,i,s=>
  if (zK s.ns p.name).1=0 then (if zJ s.O p.actor p.port=0 then tE r (i+1) ⟨(zK s.ns p.name).2,s.I,yL s.O p.actor p.port⟩ else (⟨zJ s.O p.actor p.port,4,i,1⟩,s))
  else (⟨(zK s.ns p.name).1,4,i,0⟩,s)
def mC (I O:List (List Bool)):Nat->Nat->FL
 |0,_=>fl0
 |n+1,i=>if iC I i=true\/iC O i=true then ⟨87,1,i,0⟩ else mC I O n (i+1)
def yH (g:GG):FL:=
 if (rP g).code≠0 then rP g else
 let a:=xF g.A 0 ⟨[],[],[]⟩
 if a.1.code≠0 then a.1 else
 let e:=vX g.E 0 a.2
 if e.1.code≠0 then e.1 else
 let i:=nR g.ins 0 e.2
 if i.1.code≠0 then i.1 else
 let o:=tE g.outs 0 i.2
 if o.1.code≠0 then o.1 else
 mC o.2.I o.2.O g.A.length 0
end Go.Proofs.YtpohmekkdjdhmaaGreat
