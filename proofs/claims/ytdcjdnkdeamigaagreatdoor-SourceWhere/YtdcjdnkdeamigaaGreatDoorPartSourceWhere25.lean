/- Texts of one chain. -/
import Derived.Test.YtdcjdnkdeamigaaGreatDoorPartSourceWhere7
import Derived.Test.YtdcjdnkdeamigaaGreatDoorPartSourceWhere13
namespace Go.Proofs.YtdcjdnkdeamigaaGreatDoor
open Go.ChangeShapes Go.WideShapes Go.ChangeAt Go.RowKit
theorem aQ (w:World) (b k:Nat) (cs:Array Value) (T:TypeId) (u:Value) (h:w.heap[b]? =some (.cells cs T (0,0))):(w.setCell ⟨b,k,none⟩ u).heap[b]? =some (.cells (cs.setIfInBounds k u) T (0,0)):=by
 simp only[World.setCell,Array.getElem?_modify];rw[if_pos trivial,h];rfl
def zD (T:TypeId) (n:Nat) (w:World) (cs:Array Value):Prop:=w.heap[n]? =some (.cells cs T (0,0))
theorem zD.lt {T n w cs} (h:zD T n w cs):n<w.heap.size:=(Array.getElem?_eq_some_iff.1 h).1
theorem zD.cell {T n w cs} (h:zD T n w cs) {k:Nat} {x:Value} (hk:cs[k]? =some x):w.cell? ⟨n,k,none⟩=some x:=by
 unfold zD at h;simp[World.cell?,h,hk]
theorem zD.frozen {T n w cs} (h:zD T n w cs) (k:Nat):w.frozen? ⟨n,k,none⟩=false:=by
 unfold zD at h;simp[World.frozen?,h]
theorem zD.keep {T n w w' cs} (h:zD T n w cs) (hb:w'.heap[n]? =w.heap[n]?):zD T n w' cs:=hb.trans h
theorem zD.below {T n w w' cs} (h:zD T n w cs) (hb:Below w.heap.size w w'):zD T n w' cs:=(hb.block n h.lt).trans h
theorem zD.set {T n w cs} (h:zD T n w cs) (k:Nat) (u:Value):zD T n (w.setCell ⟨n,k,none⟩ u) (cs.setIfInBounds k u):=aQ w n k _ _ _ h
theorem zL (T:TypeId) (w:World) (cs:Array Value):zD T w.heap.size (w.alloc (.cells cs T)) cs:=by show (w.heap.push _)[w.heap.size]? =_;simp
theorem xM.keep {base:Nat} {w w':World} {a:Option Addr} {cap:Nat} {zs:List Int} (h:xM base w a cap zs) (hk:∀x,a=some x->w'.heap[x.block]? =w.heap[x.block]?):xM base w' a cap zs:=by
 refine ⟨h.1,?_⟩
 rcases h.2 with h2|⟨g,c,cur,hv,hg,hh,r⟩
 ·exact .inl h2
 refine .inr ⟨g,c,cur,hv,hg,?_,r⟩
 cases hv
 rw[hk _ rfl];exact hh
theorem xM.nil (base:Nat) (w:World):xM base w none 0 []:=World.ownsRow_nil _ _ _ _
structure tD (K : Nat) (w w' : World) : Prop where
 os:w'.os=w.os
 tape:w'.tape=w.tape
 output:w'.output=w.output
 size:w.heap.size<=w'.heap.size
 block:∀k,k<w.heap.size->k≠K->w'.heap[k]? =w.heap[k]?
theorem tD.of_below {K:Nat} {w w':World} (h:Below w.heap.size w w'):tD K w w':=⟨h.os,h.tape,h.output,h.size,fun k hk _=>h.block k hk⟩
theorem tD.trans {K:Nat} {a b c:World} (h:tD K a b) (k:tD K b c):tD K a c:=
 ⟨k.os.trans h.os,k.tape.trans h.tape,k.output.trans h.output,Nat.le_trans h.size k.size,fun i hi hn=>(k.block i (by have:=h.size;omega) hn).trans (h.block i hi hn)⟩
theorem tD.set (w:World) (K k:Nat) (u:Value):tD K w (w.setCell ⟨K,k,none⟩ u):=⟨rfl,rfl,rfl,by simp[World.setCell],fun i _ hn=>Below.heap_setCell _ _ _ _ hn⟩
theorem tD.below {K B:Nat} {w w':World} (h:tD K w w') (hK:B<=K) (hB:B<=w.heap.size):Below B w w':=⟨h.os,h.tape,h.output,h.size,fun k hk=>h.block k (by omega) (by omega)⟩
end Go.Proofs.YtdcjdnkdeamigaaGreatDoor
