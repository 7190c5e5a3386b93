/- Texts of one chain, laid one behind the other. -/
import Derived.Test.YtmnbapcbailcbaaGreatPartTopPeriods27
import Derived.Test.YtmnbapcbailcbaaGreatPartTopPeriods16
namespace Go.Proofs.YtmnbapcbailcbaaGreat
open Go.ChangeShapes Go.WideShapes Go.ChangeAt Go.RowKit
structure GA where
  name : List UInt8
  tag : Nat
  params : List Int
structure GE where
  f : Int
  fp : Int
  t : Int
  tp : Int
  start : List Int
structure GP where
  name : List UInt8
  actor : Int
  port : Int
structure GG where
  name : List UInt8
  actors : List GA
  edges : List GE
  ins : List GP
  outs : List GP
/-- What is known of a graph, as far as it has been gone through. -/
structure LS where
  ns : List (List UInt8)
  I : List (List Bool)
  O : List (List Bool)
/-- What is wrong, and where. -/
structure FL where
  code : Int
  kind : Nat
  number : Nat
  stop : Nat
def fl0 : FL := ⟨0, 0, 0, 0⟩
def nthB (R : List (List Bool)) (k : Nat) : List Bool := R.getD k []
def bitB (R : List (List Bool)) (a p : Nat) : Bool := (nthB R a).getD p false
def setB (R : List (List Bool)) (a p : Nat) : List (List Bool) := R.set a ((nthB R a).set p true)
def enterS (ns : List (List UInt8)) (s : List UInt8) : Int × List (List UInt8) := if nameB s = true then (if 0 < ns.count s then 83 else 0, s :: ns) else (82, ns)
def openS (s : LS) (t : Nat) (zs : List Int) : Int × LS := if (ofS t zs).2.2 = 0 then (0, ⟨s.ns, s.I ++ [List.replicate (ofS t zs).1.length false], s.O ++ [List.replicate (ofS t zs).2.1.length false]⟩) else ((ofS t zs).2.2, s)
def takeC (R : List (List Bool)) (a p : Int) : Int :=
  if a < 0 ∨ (R.length : Int) ≤ a then 84 else if p < 0 ∨ ((nthB R a.toNat).length : Int) ≤ p then 85 else if bitB R a.toNat p.toNat = true then 86 else 0
def takeR (R : List (List Bool)) (a p : Int) : List (List Bool) := if takeC R a p = 0 then setB R a.toNat p.toNat else R
def gapB (R : List (List Bool)) (a : Nat) : Bool := (nthB R a).contains false
def headF (g : GG) : FL :=
  if nameB g.name = false then ⟨82, 0, 0, 0⟩ else if g.actors.length = 0 then ⟨80, 0, 0, 0⟩ else if 32 < g.actors.length then ⟨81, 1, 32, 0⟩ else if 96 < g.edges.length then ⟨81, 2, 96, 0⟩
  else if 16 < g.ins.length then ⟨81, 3, 16, 0⟩ else if 16 < g.outs.length then ⟨81, 4, 16, 0⟩ else fl0
def actorsF : List GA → Nat → LS → FL × LS
  | [], _, s => (fl0, s)
  | a :: r, i, s =>
    if (enterS s.ns a.name).1 = 0 then
      (if (openS ⟨(enterS s.ns a.name).2, s.I, s.O⟩ a.tag a.params).1 = 0 then actorsF r (i + 1) (openS ⟨(enterS s.ns a.name).2, s.I, s.O⟩ a.tag a.params).2
       else (⟨(openS ⟨(enterS s.ns a.name).2, s.I, s.O⟩ a.tag a.params).1, 1, i, 0⟩, s))
    else (⟨(enterS s.ns a.name).1, 1, i, 0⟩, s)
def edgesF : List GE → Nat → LS → FL × LS
  | [], _, s => (fl0, s)
  | e :: r, i, s =>
    if takeC s.O e.f e.fp = 0 then
      (if takeC s.I e.t e.tp = 0 then (if 256 < e.start.length then (⟨88, 2, i, 0⟩, s) else edgesF r (i + 1) ⟨s.ns, takeR s.I e.t e.tp, takeR s.O e.f e.fp⟩)
       else (⟨takeC s.I e.t e.tp, 2, i, 2⟩, s))
    else (⟨takeC s.O e.f e.fp, 2, i, 1⟩, s)
def insF : List GP → Nat → LS → FL × LS
  | [], _, s => (fl0, s)
  | p :: r, i, s =>
    if (enterS s.ns p.name).1 = 0 then (if takeC s.I p.actor p.port = 0 then insF r (i + 1) ⟨(enterS s.ns p.name).2, takeR s.I p.actor p.port, s.O⟩ else (⟨takeC s.I p.actor p.port, 3, i, 2⟩, s))
    else (⟨(enterS s.ns p.name).1, 3, i, 0⟩, s)
def outsF : List GP → Nat → LS → FL × LS
  | [], _, s => (fl0, s)
  | p :: r, i, s =>
    if (enterS s.ns p.name).1 = 0 then (if takeC s.O p.actor p.port = 0 then outsF r (i + 1) ⟨(enterS s.ns p.name).2, s.I, takeR s.O p.actor p.port⟩ else (⟨takeC s.O p.actor p.port, 4, i, 1⟩, s))
    else (⟨(enterS s.ns p.name).1, 4, i, 0⟩, s)
def openF (I O : List (List Bool)) : Nat → Nat → FL
  | 0, _ => fl0
  | n + 1, i => if gapB I i = true ∨ gapB O i = true then ⟨87, 1, i, 0⟩ else openF I O n (i + 1)
/-- The first thing that is wrong with a graph. -/
def firstF (g : GG) : FL :=
  if (headF g).code ≠ 0 then headF g else
  let a := actorsF g.actors 0 ⟨[], [], []⟩
  if a.1.code ≠ 0 then a.1 else
  let e := edgesF g.edges 0 a.2
  if e.1.code ≠ 0 then e.1 else
  let i := insF g.ins 0 e.2
  if i.1.code ≠ 0 then i.1 else
  let o := outsF g.outs 0 i.2
  if o.1.code ≠ 0 then o.1 else
  openF o.2.I o.2.O g.actors.length 0
end Go.Proofs.YtmnbapcbailcbaaGreat
