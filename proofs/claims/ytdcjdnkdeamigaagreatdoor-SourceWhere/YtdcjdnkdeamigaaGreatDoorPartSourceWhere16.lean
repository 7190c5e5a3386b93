/- Texts of one chain. -/
import Derived.Test.YtdcjdnkdeamigaaGreatDoorPartSourceWhere12
import Derived.Test.YtdcjdnkdeamigaaGreatDoorPartSourceWhere15
namespace Go.Proofs.YtdcjdnkdeamigaaGreatDoor
open Go.ChangeShapes Go.WideShapes Go.ChangeAt Go.RowKit
theorem sO.open {base w v ts} (h:sO base w v ts) (hn:ts≠[]):∃g cap,v=.slice (some ⟨g,0,none⟩) ts.length cap/\∀j u,(ts.flatMap jZ)[j]? =some u->w.cell? ⟨g,j,none⟩=some u:=by
 have h0:=h
 rcases h.2 with ⟨-,h2⟩|⟨g,cap,cur,rfl,-⟩
 ·exact absurd (List.eq_nil_of_length_eq_zero h2) hn
 refine ⟨g,cap,rfl,fun j u hj=>?_⟩
 have h1:=World.ownsRow.cells h0 (g:=g) rfl j u hj
 have e:(⟨g,0,none⟩:Addr).add j=⟨g,j,none⟩:=by
  unfold Addr.add
  by_cases h0:j=0
  ·subst h0;rfl
  simp[h0]
 rw[e]at h1;exact h1
theorem sO.cell {base w g n cap ts} (h:sO base w (.slice (some ⟨g,0,none⟩) n cap) ts) {j:Nat} {u:Value} (hj:(ts.flatMap jZ)[j]? =some u):w.cell? ⟨g,j,none⟩=some u:=by
 have hn:ts≠[]:=by intro e;subst e;simp at hj
 obtain ⟨g',cap',he,hc⟩:=h.open hn
 cases he
 exact hc j u hj
theorem ZP {l:List UInt8} (h:(yE l).err=0):(yE l).place=0:=by
 unfold yE at h ⊢
 split
 ·rename_i h1;rw[if_pos h1]at h;cases h
 rename_i h1;rw[if_neg h1]at h;exact kR h
theorem sO.shape {base w v ts} (h:sO base w v ts):∃a cap,v=.slice a ts.length cap:=by
 rcases h.2 with ⟨h1,h2⟩|⟨g,cap,cur,rfl,-⟩
 ·exact ⟨none,0,by rw[h1,h2]⟩
 exact ⟨_,cap,rfl⟩
def zM (ts:List yJ) (k:Nat):yJ:=ts.getD k wM
structure iK (w : World) (g o : Nat) (t : yJ) : Prop where
 c0:w.cell? ⟨g,o,none⟩=some (.int .u8 t.sort)
 c1:w.cell? ⟨g,o+1,none⟩=some (.string (zW t.text))
 c2:w.cell? ⟨g,o+2,none⟩=some (.int .i64 t.num)
 c3:w.cell? ⟨g,o+3,none⟩=some (.int .i64 t.place)
def CW (w:World) (a:Option Addr) (ts:List yJ):Prop:=
 ts=[]\/∃g off,a=some ⟨g,off,none⟩/\∀k,k<ts.length->iK w g (off+k*4) (zM ts k)
theorem cT:∀(ts:List yJ) (k r:Nat),k<ts.length->r<4->(ts.flatMap jZ)[k*4+r]? =(jZ (zM ts k))[r]?
 |[],k,r,h,_=>by simp at h
 |t::ts,0,r,_,hr=>by
  rw[List.flatMap_cons,List.getElem?_append_left (by show 0*4+r<4;omega),Nat.zero_mul,Nat.zero_add];rfl
 |t::ts,k+1,r,h,hr=>by
  rw[List.flatMap_cons,List.getElem?_append_right (by show 4<=(k+1)*4+r;omega)]
  have e:(k+1)*4+r-(jZ t).length=k*4+r:=by show (k+1)*4+r-4=_;omega
  rw[e,cT ts k r (by simp at h;omega) hr];rfl
theorem sO.at {base w v ts} (h:sO base w v ts):∃a cap,v=.slice a ts.length cap/\CW w a ts:=by
 by_cases hn:ts=[]
 ·obtain ⟨a,cap,he⟩:=h.shape
  exact ⟨a,cap,he,Or.inl hn⟩
 obtain ⟨g,cap,he,hc⟩:=h.open hn;refine ⟨_,cap,he,Or.inr ⟨g,0,rfl,fun k hk=>?_⟩⟩
 have f:∀r u,r<4->(jZ (zM ts k))[r]? =some u->w.cell? ⟨g,k*4+r,none⟩=some u:=fun r u hr hu=>hc _ u (by rw[cT ts k r hk hr];exact hu)
 rw[Nat.zero_add];exact ⟨f 0 _ (by decide) rfl,f 1 _ (by decide) rfl,f 2 _ (by decide) rfl,f 3 _ (by decide) rfl⟩
theorem iK.below {w w' g o t} (h:iK w g o t) (hb:Below w.heap.size w w'):iK w' g o t:=
 ⟨(hb.cell (block_lt_of_cell h.c0)).trans h.c0,(hb.cell (block_lt_of_cell h.c1)).trans h.c1,(hb.cell (block_lt_of_cell h.c2)).trans h.c2,(hb.cell (block_lt_of_cell h.c3)).trans h.c3⟩
theorem CW.below {w w' a ts} (h:CW w a ts) (hb:Below w.heap.size w w'):CW w' a ts:=by
 rcases h with h|⟨g,off,rfl,hc⟩
 ·exact Or.inl h
 exact Or.inr ⟨g,off,rfl,fun k hk=>(hc k hk).below hb⟩
theorem OG {ts:List yJ} {n k:Nat} (h:k<n):zM (ts.take n) k=zM ts k:=by
 unfold zM;rw[List.getD_eq_getElem?_getD,List.getD_eq_getElem?_getD,List.getElem?_take_of_lt h]
theorem CW.take {w a ts} (h:CW w a ts) (n:Nat):CW w a (ts.take n):=by
 rcases h with h|⟨g,off,rfl,hc⟩
 ·exact Or.inl (by rw[h];simp)
 refine Or.inr ⟨g,off,rfl,fun k hk=>?_⟩
 rw[List.length_take]at hk;rw[OG (by omega)];exact hc k (by omega)
end Go.Proofs.YtdcjdnkdeamigaaGreatDoor
namespace Go.Proofs.YtdcjdnkdeamigaaGreatDoor
structure vZ where
 name:List UInt8
 port:Int
 place:Int
def zV:vZ:=⟨[],0,0⟩
structure zF where
 kind:Int
 name:List UInt8
 tag:List UInt8
 nums:List Int
 frm:vZ
 tO:vZ
 place:Int
structure jU where
 name:List UInt8
 items:List zF
abbrev Rd (α :Type):=Option α × Nat
def andThen {α β :Type} (r:Rd α) (f: α ->Nat->Rd β):Rd β :=
 match r with
 |(some a,j)=>f a j
 |(none,j)=>(none,j)
theorem zO {α β :Type} (a: α) (j:Nat) (f: α ->Nat->Rd β):andThen (some a,j) f=f a j:=rfl
theorem yS {α β :Type} (j:Nat) (f: α ->Nat->Rd β):andThen (none,j) f=(none,j):=rfl
def yX (ts:List yJ) (x:List UInt8) (i:Nat):Rd Unit:=if (zM ts i).text=x then (some (),i+1) else (none,i)
def wY (ts:List yJ) (i:Nat):Rd (List UInt8):=if (zM ts i).sort=1 then (some (zM ts i).text,i+1) else (none,i)
def nX (ts:List yJ) (i:Nat):Rd Int:=if (zM ts i).sort=2 then (some (zM ts i).num,i+1) else (none,i)
def ZO:List yJ->List Int
 |[]=>[]
 |t::r=>if t.sort=2 then t.num::ZO r else []
def yM (ts:List yJ) (i:Nat):List Int:=ZO (ts.drop i)
def xP (ts:List yJ) (i:Nat):Rd vZ:=
 andThen (wY ts i) fun n j=>andThen (yX ts [46] j) fun _ j=>andThen (nX ts j) fun p j=>(some ⟨n,p,(zM ts i).place⟩,j)
def vN (ts:List yJ) (i:Nat):Rd zF:=
 andThen (yX ts [97,99,116,111,114] i) fun _ j=>andThen (wY ts j) fun n j=>andThen (yX ts [61] j) fun _ j=>andThen (wY ts j) fun t j=>
  (some ⟨1,n,t,yM ts j,zV,zV,(zM ts i).place⟩,j+(yM ts j).length)
def mE (ts:List yJ) (j:Nat):Rd (List Int):=
 if (zM ts j).text=[119,105,116,104] then andThen (nX ts (j+1)) fun x k=>(some (x::yM ts k),k+(yM ts k).length) else (some [],j)
def vF (ts:List yJ) (i:Nat):Rd zF:=
 andThen (yX ts [101,100,103,101] i) fun _ j=>andThen (xP ts j) fun f j=>andThen (yX ts [45,62] j) fun _ j=>andThen (xP ts j) fun t j=>
  andThen (mE ts j) fun xs j=>(some ⟨2,[],[],xs,f,t,(zM ts i).place⟩,j)
def dU (ts:List yJ) (i:Nat):Rd zF:=
 andThen (yX ts [105,110] i) fun _ j=>andThen (wY ts j) fun n j=>andThen (yX ts [45,62] j) fun _ j=>andThen (xP ts j) fun t j=>
  (some ⟨3,n,[],[],zV,t,(zM ts i).place⟩,j)
def rX (ts:List yJ) (i:Nat):Rd zF:=
 andThen (yX ts [111,117,116] i) fun _ j=>andThen (xP ts j) fun f j=>andThen (yX ts [45,62] j) fun _ j=>andThen (wY ts j) fun n j=>
  (some ⟨4,n,[],[],f,zV,(zM ts i).place⟩,j)
def uK (ts:List yJ) (i:Nat):Rd zF:=
 if (zM ts i).text=[97,99,116,111,114] then vN ts i
 else if (zM ts i).text=[101,100,103,101] then vF ts i
 else if (zM ts i).text=[105,110] then dU ts i
 else rX ts i
def xY (ts:List yJ) (i:Nat):Rd zF:=andThen (uK ts i) fun x j=>andThen (yX ts [59] j) fun _ k=>(some x,k)
def vT:Nat->List yJ->Nat->Rd (List zF)
 |0,_,i=>(none,i)
 |n+1,ts,i=>if (zM ts i).text=[125] then (some [],i) else andThen (xY ts i) fun x j=>andThen (vT n ts j) fun xs k=>(some (x::xs),k)
def yB (ts:List yJ):Rd jU:=
 andThen (yX ts [103,114,97,112,104] 0) fun _ i=>andThen (wY ts i) fun n i=>andThen (yX ts [123] i) fun _ i=>andThen (vT ts.length ts i) fun xs i=>
  andThen (yX ts [125] i) fun _ i=>if (zM ts i).sort=0 then (some ⟨n,xs⟩,i+1) else (none,i)
structure yQ (ts : List yJ) : Prop where
 pos:0<ts.length
 sort:(zM ts (ts.length-1)).sort=0
 text:(zM ts (ts.length-1)).text=[]
theorem yQ.text_lt {ts:List yJ} (h:yQ ts) {i:Nat} (hi:i<ts.length) {x:List UInt8} (hx:x≠[]) (e:(zM ts i).text=x):i+1<ts.length:=by
 rcases Nat.lt_or_ge (i+1) ts.length with h1|h1
 ·exact h1
 have e2:i=ts.length-1:=by omega
 rw[e2,h.text]at e;exact absurd e.symm hx
theorem yQ.sort_lt {ts:List yJ} (h:yQ ts) {i:Nat} (hi:i<ts.length) {x:Int} (hx:x≠0) (e:(zM ts i).sort=x):i+1<ts.length:=by
 rcases Nat.lt_or_ge (i+1) ts.length with h1|h1
 ·exact h1
 have e2:i=ts.length-1:=by omega
 rw[e2,h.sort]at e;exact absurd e.symm hx
theorem gB {ts:List yJ} {i:Nat} (hi:i<ts.length) (h:(zM ts i).sort=2):yM ts i=(zM ts i).num::yM ts (i+1):=by
 unfold yM;rw[List.drop_eq_getElem_cons hi]
 have e:zM ts i=ts[i]:=by unfold zM;rw[List.getD_eq_getElem?_getD,List.getElem?_eq_getElem hi];rfl
 rw[e]at h ⊢;show (if _ then _ else _)=_
 rw[if_pos h]
theorem gA {ts:List yJ} {i:Nat} (h:(zM ts i).sort≠2):yM ts i=[]:=by
 unfold yM
 rcases Nat.lt_or_ge i ts.length with hi|hi
 ·rw [List.drop_eq_getElem_cons hi]
  have e:zM ts i=ts[i]:=by unfold zM;rw[List.getD_eq_getElem?_getD,List.getElem?_eq_getElem hi];rfl
  rw[e]at h;show (if _ then _ else _)=_
  rw[if_neg h]
 rw[List.drop_eq_nil_of_le hi];rfl
theorem XW {ts:List yJ} (hE:yQ ts):∀(n j:Nat),ts.length-j<=n->j<ts.length->j+(yM ts j).length<ts.length
 |0,j,h,hj=>by omega
 |n+1,j,h,hj=>by
  by_cases h2:(zM ts j).sort=2
  ·have h3:=hE.sort_lt hj (by decide) h2
   have:=XW hE n (j+1) (by omega) h3;rw[gB hj h2,List.length_cons];omega
  rw[gA h2];exact hj
end Go.Proofs.YtdcjdnkdeamigaaGreatDoor
namespace Go.Proofs.YtdcjdnkdeamigaaGreatDoor
open Go.ChangeShapes Go.WideShapes Go.ChangeAt Go.RowKit
structure Two (w : World) (n : Nat) (x y : Value) : Prop where
 lt:n<w.heap.size
 c0:w.cell? ⟨n,0,none⟩=some x
 c1:w.cell? ⟨n,1,none⟩=some y
theorem Two.later {w w':World} {n:Nat} {x y:Value} (h:Two w n x y) (hb:Below w.heap.size w w'):Two w' n x y:=⟨Nat.lt_of_lt_of_le h.lt hb.size,(hb.cell (p:=⟨n,0,none⟩) h.lt).trans h.c0,(hb.cell (p:=⟨n,1,none⟩) h.lt).trans h.c1⟩
theorem Two.alloc {w:World} {n:Nat} {x y:Value} (h:Two w n x y) (o:Obj):Two (w.alloc o) n x y:=h.later ((Below.refl _ _).alloc (Nat.le_refl _) _)
end Go.Proofs.YtdcjdnkdeamigaaGreatDoor
