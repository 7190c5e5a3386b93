/- Texts of one chain. -/
import Derived.Test.YtgoconkleicmkaaPartGraphBuilds15
import Derived.Test.YtgoconkleicmkaaPartGraphBuilds9
namespace Go.Proofs.Ytgoconkleicmkaa
open Go.ChangeShapes Go.WideShapes Go.ChangeAt Go.RowKit
structure GA where
 name : List UInt8
 tag : Nat
 params : List Int
structure GE where
 f : Int
 fp : Int
 t : Int
 tp : Int
 start : List Int
structure GP where
 name : List UInt8
 actor : Int
 port : Int
structure GG where
 name : List UInt8
 A : List GA
 E : List GE
 ins : List GP
 outs : List GP
structure LS where
 ns : List (List UInt8)
 I : List (List Bool)
 O : List (List Bool)
structure FL where
 code : Int
 kind : Nat
 number : Nat
 stop : Nat
def bC : FL := ⟨0, 0, 0, 0⟩
def xV (R : List (List Bool)) (k : Nat) : List Bool := R.getD k []
def sV (R : List (List Bool)) (a p : Nat) : Bool := (xV R a).getD p false
def mL (R : List (List Bool)) (a p : Nat) : List (List Bool) := R.set a ((xV R a).set p true)
def zL (ns : List (List UInt8)) (s : List UInt8) : Int × List (List UInt8) := if yM s = true then (if 0 < ns.count s then 83 else 0, s :: ns) else (82, ns)
def xR (s : LS) (t : Nat) (zs : List Int) : Int × LS := if (sE t zs).2.2 = 0 then (0, ⟨s.ns, s.I ++ [List.replicate (sE t zs).1.length false], s.O ++ [List.replicate (sE t zs).2.1.length false]⟩) else ((sE t zs).2.2, s)
def zE (R : List (List Bool)) (a p : Int) : Int :=
 if a < 0 \/ (R.length : Int) <= a then 84 else if p < 0 \/ ((xV R a.toNat).length : Int) <= p then 85 else if sV R a.toNat p.toNat = true then 86 else 0
def yK (R : List (List Bool)) (a p : Int) : List (List Bool) := if zE R a p = 0 then mL R a.toNat p.toNat else R
def pM (R : List (List Bool)) (a : Nat) : Bool := (xV R a).contains false
def xD (g : GG) : FL :=
 if yM g.name = false then ⟨82, 0, 0, 0⟩ else if g.A.length = 0 then ⟨80, 0, 0, 0⟩ else if 32 < g.A.length then ⟨81, 1, 32, 0⟩ else if 96 < g.E.length then ⟨81, 2, 96, 0⟩
 else if 16 < g.ins.length then ⟨81, 3, 16, 0⟩ else if 16 < g.outs.length then ⟨81, 4, 16, 0⟩ else bC
def xO : List GA -> Nat -> LS -> FL × LS
 | [], _, s => (bC, s)
 | a :: r, i, s =>
  if (zL s.ns a.name).1 = 0 then
   (if (xR ⟨(zL s.ns a.name).2, s.I, s.O⟩ a.tag a.params).1 = 0 then xO r (i + 1) (xR ⟨(zL s.ns a.name).2, s.I, s.O⟩ a.tag a.params).2
    else (⟨(xR ⟨(zL s.ns a.name).2, s.I, s.O⟩ a.tag a.params).1, 1, i, 0⟩, s))
  else (⟨(zL s.ns a.name).1, 1, i, 0⟩, s)
def wY : List GE -> Nat -> LS -> FL × LS
 | [], _, s => (bC, s)
 | e :: r, i, s =>
  if zE s.O e.f e.fp = 0 then
   (if zE s.I e.t e.tp = 0 then (if 256 < e.start.length then (⟨88, 2, i, 0⟩, s) else wY r (i + 1) ⟨s.ns, yK s.I e.t e.tp, yK s.O e.f e.fp⟩)
    else (⟨zE s.I e.t e.tp, 2, i, 2⟩, s))
  else (⟨zE s.O e.f e.fp, 2, i, 1⟩, s)
def sU : List GP -> Nat -> LS -> FL × LS
 | [], _, s => (bC, s)
 | p :: r, i, s =>
  if (zL s.ns p.name).1 = 0 then (if zE s.I p.actor p.port = 0 then sU r (i + 1) ⟨(zL s.ns p.name).2, yK s.I p.actor p.port, s.O⟩ else (⟨zE s.I p.actor p.port, 3, i, 2⟩, s))
  else (⟨(zL s.ns p.name).1, 3, i, 0⟩, s)
def vF : List GP -> Nat -> LS -> FL × LS
 | [], _, s => (bC, s)
 | p :: r, i, s =>
  if (zL s.ns p.name).1 = 0 then (if zE s.O p.actor p.port = 0 then vF r (i + 1) ⟨(zL s.ns p.name).2, s.I, yK s.O p.actor p.port⟩ else (⟨zE s.O p.actor p.port, 4, i, 1⟩, s))
  else (⟨(zL s.ns p.name).1, 4, i, 0⟩, s)
def sC (I O : List (List Bool)) : Nat -> Nat -> FL
 | 0, _ => bC
 | n + 1, i => if pM I i = true \/ pM O i = true then ⟨87, 1, i, 0⟩ else sC I O n (i + 1)
def yZ (g : GG) : FL :=
 if (xD g).code ≠ 0 then xD g else
 let a := xO g.A 0 ⟨[], [], []⟩
 if a.1.code ≠ 0 then a.1 else
 let e := wY g.E 0 a.2
 if e.1.code ≠ 0 then e.1 else
 let i := sU g.ins 0 e.2
 if i.1.code ≠ 0 then i.1 else
 let o := vF g.outs 0 i.2
 if o.1.code ≠ 0 then o.1 else
 sC o.2.I o.2.O g.A.length 0
end Go.Proofs.Ytgoconkleicmkaa
