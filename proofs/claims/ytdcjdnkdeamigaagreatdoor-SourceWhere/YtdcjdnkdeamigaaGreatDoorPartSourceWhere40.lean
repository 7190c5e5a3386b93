/- Texts of one chain. -/
import Derived.Test.YtdcjdnkdeamigaaGreatDoorPartSourceWhere23
import Derived.Test.YtdcjdnkdeamigaaGreatDoorPartSourceWhere37
namespace Go.Proofs.YtdcjdnkdeamigaaGreatDoor
open Go.ChangeShapes Go.WideShapes Go.ChangeAt Go.RowKit
def cvP:vZ->EA
 |⟨n,p,q⟩=>⟨n,p,q⟩
def OZ:zF->wJ
 |⟨k,n,t,ns,f,g,p⟩=>⟨k,n,t,ns,cvP f,cvP g,p⟩
def OY (L:List (zF × Value)):List (wJ × Value):=L.map fun p=>(OZ p.1,p.2)
theorem BF (p:zF × Value):lW (OZ p.1,p.2)=tL p:=by
 obtain ⟨⟨k,n,t,ns,⟨f1,f2,f3⟩,⟨g1,g2,g3⟩,q⟩,v⟩:=p;rfl
theorem OX (x:zF):(OZ x).nums=x.nums:=by
 obtain ⟨k,n,t,ns,f,g,q⟩:=x;rfl
theorem BE (L:List (zF × Value)):(OY L).map Prod.fst=(L.map Prod.fst).map OZ:=by
 unfold OY;rw[List.map_map,List.map_map];rfl
theorem AZ {base:Nat} {w:World} {v:Value} {L:List (zF × Value)} (h:vY base w v L):iY base w v (OY L):=by
 refine ⟨?_,fun p hp=>?_,fun p hp=>?_,?_⟩
 ·have e:(OY L).flatMap lW=L.flatMap tL:=by
   unfold OY;rw[List.flatMap_map];exact congrArg (fun f=>L.flatMap f) (funext BF)
  rw[e]
  have el:(OY L).length=L.length:=by simp[OY]
  rw[el];exact h.row
 ·obtain ⟨q,hq,rfl⟩:=List.mem_map.1 hp
  show wU base w q.2 (OZ q.1).nums;rw[OX];exact h.nums q hq
 ·obtain ⟨q,hq,rfl⟩:=List.mem_map.1 hp
  exact h.off q hq
 unfold OY;rw[List.pairwise_map];exact h.pair
theorem IK {x:zF} (h:xU x=true):(OZ x).name.length<=140737488355328/\(OZ x).frm.name.length<=140737488355328/\(OZ x).tgt.name.length<=140737488355328:=by
 obtain ⟨k,n,t,ns,⟨f1,f2,f3⟩,⟨g1,g2,g3⟩,q⟩:=x
 have nm:∀ {l:List UInt8},yO l=true->l.length<=140737488355328:=fun {l} hl=>Nat.le_trans (IV hl) (by decide)
 have nz:∀ {l:List UInt8},decide (l=[])=true->l.length<=140737488355328:=fun {l} hl=>by rw[of_decide_eq_true hl];exact Nat.zero_le _
 show n.length<=_/\f1.length<=_/\g1.length<=_;unfold xU at h;simp only[oW]at h
 split at h
 ·simp only[Bool.and_eq_true]at h
  exact ⟨nm h.1,nz h.2.2.1.1,nz h.2.2.2.1⟩
 split at h
 ·simp only[Bool.and_eq_true]at h
  exact ⟨nz h.1,nm h.2.2.1,nm h.2.2.2⟩
 split at h
 ·simp only[Bool.and_eq_true]at h
  exact ⟨nm h.1,nz h.2.2.1.1,nm h.2.2.2⟩
 split at h
 ·simp only[Bool.and_eq_true]at h
  exact ⟨nm h.1,nm h.2.2.1,nz h.2.2.2.1⟩
 cases h
theorem DO {x:zF} (h:aS x) (hl:x.nums.length<=2000001):vE x.nums:=by
 refine ⟨fun k=>?_,by omega⟩
 by_cases hk:k<x.nums.length
 ·rw [wF,List.getD_eq_getElem?_getD,List.getElem?_eq_getElem hk]
  exact (h.nums _ (List.getElem_mem hk)).1
 rw[wF,List.getD_eq_getElem?_getD,List.getElem?_eq_none (by omega)];exact (by decide:(-9223372036854775808:Int)<=0/\(0:Int)<=9223372036854775807)
theorem IJ {l:List UInt8} {s:jU} {j:Nat} (h:(yE l).err=0) (hs:yB (yE l).toks=(some s,j)) {base:Nat} {w:World} {a:Option Addr} {c:Nat} {L:List (zF × Value)} (hL:s.items=L.map Prod.fst) (hI:vY base w (.slice a s.items.length c) L):YQ w a (OY L)/\LR w (OY L)/\(OY L).length=s.items.length/\s.items.length<=2000000:=by
 have el:(OY L).length=s.items.length:=by rw[hL];simp[OY]
 have hi:=AZ hI;obtain ⟨-,hr,-⟩:=RM h hs;have hf:=MY hs;have hw:=UX (ZD l) (kJ l) hs;refine ⟨iY.at5 (c:=c) (by rw[el];exact hi),⟨fun p hp=>?_,fun p hp=>?_⟩,el,RL h hs⟩
 ·obtain ⟨q,hq,rfl⟩:=List.mem_map.1 hp
  have hq':q.1 ∈ s.items:=by rw[hL];exact List.mem_map_of_mem hq
  have ok:=DO (hf _ hq') (hw _ hq');show ∃x c,q.2=.slice x (OZ q.1).nums.length c/\YF w x (OZ q.1).nums.length c (OZ q.1).nums
  rw[OX];exact fM (hI.nums q hq) ok
 obtain ⟨q,hq,rfl⟩:=List.mem_map.1 hp
 have hq':q.1 ∈ s.items:=by rw[hL];exact List.mem_map_of_mem hq
 exact IK (hr _ hq').1
end Go.Proofs.YtdcjdnkdeamigaaGreatDoor
