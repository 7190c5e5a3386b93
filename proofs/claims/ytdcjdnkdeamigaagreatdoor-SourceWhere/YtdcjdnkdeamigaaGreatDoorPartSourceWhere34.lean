/- Texts of one chain. -/
import Derived.Test.YtdcjdnkdeamigaaGreatDoorPartQ
import Derived.Test.YtdcjdnkdeamigaaGreatDoorPartSourceWhere33
import Derived.Deep.SlicePairs
import Derived.SizedLaws
import Derived.Test.YtdcjdnkdeamigaaGreatDoorPartSourceWhere13
import Derived.Test.YtdcjdnkdeamigaaGreatDoorPartSourceWhere8
import Derived.Test.YtdcjdnkdeamigaaGreatDoorPartSourceWhere32
import Derived.Test.YtdcjdnkdeamigaaGreatDoorPartSourceWhere28
import Derived.Test.YtdcjdnkdeamigaaGreatDoorPartSourceWhere9
import Derived.Test.YtdcjdnkdeamigaaGreatDoorPartSourceWhere7
namespace Go.Proofs.YtdcjdnkdeamigaaGreatDoor
open Go.ChangeShapes Go.WideShapes Go.ChangeAt Go.RowKit
structure CC (w : World) (a1 a2 a3 a4 : Option Addr) (c3 c4 : Nat) (g : GG) : Prop where
 gr:UH w a1 a2 a3 a4 g
 n3:a3=none->c3=0
 n4:a4=none->c4=0
theorem CC.below {w w':World} {a1 a2 a3 a4:Option Addr} {c3 c4:Nat} {g:GG} (h:CC w a1 a2 a3 a4 c3 c4 g) (hb:Below w.heap.size w w'):CC w' a1 a2 a3 a4 c3 c4 g:=⟨h.gr.below hb,h.n3,h.n4⟩
section
variable {H:Type} {enc:TypeId × Value->H} {W:World} {base:Nat} {held:Bool}
end
structure Light (g : GG) : Prop where
 a:g.A.length<=1048576
 e:g.E.length<=1048576
 i:g.ins.length<=1048576
 o:g.outs.length<=1048576
 pa:∀x ∈ g.A,x.params.length<=1048576
 pe:∀x ∈ g.E,x.start.length<=1048576
theorem IB.len {w:World} {a:Option Addr} {As:List GA} (h:IB w a As):∀x ∈ As,x.params.length<=17592186043904:=fun x hx=>by
 obtain ⟨k,hk,rfl⟩:=memA hx
 rcases h with h|⟨b,off,-,hc⟩
 ·rw [h]at hk;exact absurd hk (Nat.not_lt_zero _)
 obtain ⟨-,-,-,y,c,-,h5⟩:=hc k hk;have:=h5.reach;omega
theorem RG.len {w:World} {a:Option Addr} {As:List GE} (h:RG w a As):∀x ∈ As,x.start.length<=17592186043904:=fun x hx=>by
 obtain ⟨k,hk,rfl⟩:=CE hx
 rcases h with h|⟨b,off,-,hc⟩
 ·rw [h]at hk;exact absurd hk (Nat.not_lt_zero _)
 obtain ⟨-,-,-,-,y,c,-,h5⟩:=hc k hk;have:=h5.reach;omega
theorem gR {α :Type} (f: α ->List Value) (c:Nat) (hc:∀x,(f x).length=c):∀(L:List α),(L.flatMap f).length=L.length*c
 |[]=>by simp
 |x::r=>by rw[List.flatMap_cons,List.length_append,hc,gR f c hc r,List.length_cons,Nat.succ_mul];omega
theorem fL {w:World} {base T c g n cap:Nat} {xs ys:List Value} {m:Nat} (h:w.ownsRow base T c (.slice (some ⟨g,0,none⟩) n cap) n (xs++ys)) (hm:xs.length=m*c) (hmn:m<=n):w.ownsRow base T c (.slice (some ⟨g,0,none⟩) m cap) m xs:=by
 obtain ⟨h1,h2⟩:=h;refine ⟨hm,?_⟩
 rcases h2 with ⟨hv,-⟩|⟨g',c',cur,hv,hg,hh,hc,hmm,hs,ht⟩
 ·cases hv
 cases hv
 refine .inr ⟨_,_,cur,rfl,hg,hh,by omega,hmm,hs,?_⟩
 have h3:=congrArg (List.take (m*c)) ht;rw[List.take_take,Nat.min_eq_left (Nat.mul_le_mul_right _ hmn)]at h3;rw[h3,<-hm,List.take_left]
def gQ:GP:=⟨[109,97,114,107],-7770777,0⟩
def mA (B:Nat) (w:World) (a:Option Addr) (c:Nat) (Ps:List GP):Prop:=∃b,a=some ⟨b,0,none⟩/\B<=b/\Ps.length+1<=c/\w.ownsRow B 81 3 (.slice a (Ps.length+1) c) (Ps.length+1) (Ps.flatMap pP++pP gQ)
theorem mA.keep {B:Nat} {w w':World} {a:Option Addr} {c:Nat} {Ps:List GP} (h:mA B w a c Ps) (hk:∀k,B<=k->k<w.heap.size->w'.heap[k]? =w.heap[k]?):mA B w' a c Ps:=by
 obtain ⟨b,h1,h2,h3,h4⟩:=h;exact ⟨b,h1,h2,h3,zT h4 fun k e=>hk k (zQ h4 k e) (zI h4 k e)⟩
theorem mA.at {B:Nat} {w:World} {a:Option Addr} {c:Nat} {Ps:List GP} (h:mA B w a c Ps):nN w a Ps:=by
 obtain ⟨b,rfl,-,-,h4⟩:=h;exact gT (n:=Ps.length) (cp:=c) (fL h4 (gR pP 3 bJ Ps) (Nat.le_succ _))
theorem IU {w w':World} {b k:Nat} (h:w'.heap[b]? =w.heap[b]?):w'.cell? ⟨b,k,none⟩=w.cell? ⟨b,k,none⟩:=by simp[World.cell?,h]
theorem nY.keepB {B:Nat} {w w':World} {g len:Nat} {zs:List Int} (h:nY B w g len zs) (hk:w'.heap[g]? =w.heap[g]?):nY B w' g len zs:=by
 obtain ⟨h1,h2,h3⟩:=h;refine ⟨h1,h2,?_⟩
 rcases h3 with h3|⟨b,off,e,hc⟩
 ·exact .inl h3
 cases e
 exact .inr ⟨g,0,rfl,fun k hk2=>by rw[IU hk];exact hc k hk2⟩
theorem nY.lt {B:Nat} {w:World} {g len:Nat} {zs:List Int} (h:nY B w g len zs):g<w.heap.size:=block_lt_of_cell (h.cells.2 len (Nat.le_refl _) (by omega))
theorem nY.base {B B':Nat} {w:World} {g len:Nat} {zs:List Int} (h:nY B w g len zs) (hb:B'<=B):nY B' w g len zs:=⟨Nat.le_trans hb h.1,h.2⟩
theorem nY.arg {B:Nat} {w:World} {g:Nat} {zs:List Int} (h:nY B w g zs.length zs) (ho:vE zs):YF w (some ⟨g,0,none⟩) zs.length (zs.length+4) zs:=⟨rfl,ho.2,(fun e=>by cases e),ho.1,h.at,by omega⟩
def oF (B:Nat) (w:World) (q:Value) (ns:List Int):Prop:=∃gq,q=.slice (some ⟨gq,0,none⟩) ns.length (ns.length+4)/\nY B w gq ns.length ns
theorem oF.lt {B:Nat} {w:World} {q:Value} {ns:List Int} (h:oF B w q ns):∀k,q.ownBlock=some k->B<=k/\k<w.heap.size:=by
 obtain ⟨gq,rfl,h⟩:=h;intro k e
 cases e
 exact ⟨h.1,h.lt⟩
theorem oF.keep {B:Nat} {w w':World} {q:Value} {ns:List Int} (h:oF B w q ns) (hk:∀k,q.ownBlock=some k->w'.heap[k]? =w.heap[k]?):oF B w' q ns:=by
 obtain ⟨gq,rfl,h⟩:=h;exact ⟨gq,rfl,h.keepB (hk gq rfl)⟩
theorem oF.base {B B':Nat} {w:World} {q:Value} {ns:List Int} (h:oF B w q ns) (hb:B'<=B):oF B' w q ns:=by
 obtain ⟨gq,h1,h2⟩:=h;exact ⟨gq,h1,h2.base hb⟩
def kX:GA × Value:=(⟨[109,97,114,107],99,[]⟩,qN)
def kW:GE × Value:=(⟨-7770777,0,0,0,[]⟩,qN)
structure LtA (w W1 : World) (nm : List UInt8) (u2 u3 u4 v : Value) (M : List (GA × Value)) (wr : World) : Prop where
 ob:zD 26 (w.heap.size+2) wr #[.string (zW nm),v,u2,u3,u4]
 row:wr.ownsRow W1.heap.size 62 3 v M.length (M.flatMap aP)
 qs:∀p ∈ M,oF W1.heap.size wr p.2 p.1.params
 ap:∀p ∈ M,NB v p.2
 chg:wL (fun k=>k=w.heap.size+2\/W1.heap.size<=k) W1 wr
 hk:w.heap.size+2<W1.heap.size
theorem LtA.put {w W1 nm u2 u3 u4 v M} {V:World} (h:LtA w W1 nm u2 u3 u4 v M V) {w2 w4:World} {p:GA × Value} {v':Value} (hb:Below V.heap.size V w2) (hq:oF V.heap.size w2 p.2 p.1.params)
 (ho:w4.ownsRow W1.heap.size 62 3 v' (M.length+1) (M.flatMap aP++aP p))
 (ht:(∃ g cap,v=.slice (some ⟨g,0,none⟩) M.length cap/\v'=.slice (some ⟨g,0,none⟩) (M.length+1) cap/\w2.grownBy w4 (some g))\/(∃ cap,v'=.slice (some ⟨w2.heap.size,0,none⟩) (M.length+1) cap/\w2.grownBy w4 none)):
 LtA w W1 nm u2 u3 u4 v' (M++[p]) (w4.setCell ⟨w.heap.size+2,1,none⟩ v')/\zD 26 (w.heap.size+2) w4 #[.string (zW nm),v,u2,u3,u4]:=by
 have hk:=h.hk;have h1:=h.chg.size;have hsz:=hb.size;have tk:=vW ht
 have kp:∀d,d<V.heap.size->v.ownBlock≠some d->w4.heap[d]? =V.heap[d]? :=fun d hd hn=>(tk.2 d (by omega) hn).trans (hb.block d hd)
 have lowr:∀d,d<W1.heap.size->v.ownBlock≠some d:=fun d hd e=>by have:=zQ h.row d e;omega
 have b3:=h.ob.keep (kp _ (by omega) (lowr _ hk))
 have set:∀k,k≠w.heap.size+2->(w4.setCell ⟨w.heap.size+2,1,none⟩ v').heap[k]? =w4.heap[k]? :=fun k hk=>Below.heap_setCell w4 ⟨w.heap.size+2,1,none⟩ v' k hk
 have np:NB v p.2:=fun k e1 e2=>by have:=zI h.row k e1;have:=(hq.lt k e2).1;omega
 refine ⟨⟨b3.set 1 v',?_,fun q hq'=>?_,fun q hq'=>?_,?_,hk⟩,b3⟩
 ·rw [tG,List.length_append]
  exact zT ho fun k e=>set k (by have:=zQ ho k e;omega)
 ·rcases List.mem_append.1 hq' with hm|hm
  ·have l:=h.qs q hm
   exact l.keep fun k e=>(set k (by have:=(l.lt k e).1;omega)).trans (kp k (l.lt k e).2 (fun e2=>h.ap q hm k e2 e))
  rw[List.mem_singleton.1 hm];exact (hq.keep fun k e=>(set k (by have:=(hq.lt k e).1;omega)).trans (tk.2 k (hq.lt k e).2 (fun e2=>np k e2 e))).base h1
 ·rcases List.mem_append.1 hq' with hm|hm
  ·exact NB.told (h.ap q hm) (fun k e=>Nat.lt_of_lt_of_le ((h.qs q hm).lt k e).2 hsz) ht
  rw[List.mem_singleton.1 hm];exact NB.told np (fun k e=>(hq.lt k e).2) ht
 obtain ⟨row,hg,hrow⟩:=wV ht;have c1:wL (fun k=>k=w.heap.size+2\/W1.heap.size<=k) V w2:=wL.of_below hb
 have c2:wL (fun k=>k=w.heap.size+2\/W1.heap.size<=k) w2 w4:=wL.grown hg fun k e=>.inr (zQ h.row k (hrow k e))
 exact ((h.chg.trans' c1).trans' c2).trans' (wL.set w4 (.inl rfl) 1 v')
def kV (B:Nat) (w:World) (a:Option Addr) (c:Nat) (As:List GA):Prop:=∃(b:Nat) (M:List (GA × Value)),a=some ⟨b,0,none⟩/\B<=b/\As.length+1<=c/\M.map Prod.fst=As/\w.ownsRow B 62 3 (.slice a (As.length+1) c) (As.length+1) (M.flatMap aP++aP kX)/\∀p ∈ M,oF B w p.2 p.1.params
theorem kV.keep {B:Nat} {w w':World} {a:Option Addr} {c:Nat} {As:List GA} (h:kV B w a c As) (hk:∀k,B<=k->k<w.heap.size->w'.heap[k]? =w.heap[k]?):kV B w' a c As:=by
 obtain ⟨b,M,h1,h2,h3,h4,h5,h6⟩:=h;exact ⟨b,M,h1,h2,h3,h4,zT h5 fun k e=>hk k (zQ h5 k e) (zI h5 k e),fun p hp=>(h6 p hp).keep fun k e=>hk k ((h6 p hp).lt k e).1 ((h6 p hp).lt k e).2⟩
theorem kV.base {B B':Nat} {w:World} {a:Option Addr} {c:Nat} {As:List GA} (h:kV B w a c As) (hb:B'<=B):kV B' w a c As:=by
 obtain ⟨b,M,h1,h2,h3,h4,h5,h6⟩:=h;exact ⟨b,M,h1,Nat.le_trans hb h2,h3,h4,uQ h5 hb,fun p hp=>(h6 p hp).base hb⟩
theorem kV.gr {B:Nat} {w:World} {a:Option Addr} {c:Nat} {As:List GA} (h:kV B w a c As) (ho:∀x ∈ As,x.tag<=255/\vE x.params):IB w a As:=by
 obtain ⟨b,M,rfl,-,-,h4,h5,h6⟩:=h
 have hl:M.length=As.length:=by rw[<- h4,List.length_map]
 rw[<- hl]at h5
 have r:=WY (n:=M.length) (cp:=c) (fL h5 (gR aP 3 jD M) (Nat.le_succ _)) (fun p hp=>by
  have hx:=ho p.1 (by rw[<- h4];exact List.mem_map_of_mem hp);obtain ⟨gq,e,hq⟩:=h6 p hp
  exact ⟨hx.1,_,_,e,hq.arg hx.2⟩)
 rw[h4]at r;exact r
structure LtE (w W1 : World) (nm : List UInt8) (u1 u3 u4 v : Value) (M : List (GE × Value)) (wr : World) : Prop where
 ob:zD 26 (w.heap.size+2) wr #[.string (zW nm),u1,v,u3,u4]
 row:wr.ownsRow W1.heap.size 65 5 v M.length (M.flatMap eP)
 qs:∀p ∈ M,oF W1.heap.size wr p.2 p.1.start
 ap:∀p ∈ M,NB v p.2
 chg:wL (fun k=>k=w.heap.size+2\/W1.heap.size<=k) W1 wr
 hk:w.heap.size+2<W1.heap.size
theorem LtE.put {w W1 nm u1 u3 u4 v M} {V:World} (h:LtE w W1 nm u1 u3 u4 v M V) {w2 w4:World} {p:GE × Value} {v':Value} (hb:Below V.heap.size V w2) (hq:oF V.heap.size w2 p.2 p.1.start)
 (ho:w4.ownsRow W1.heap.size 65 5 v' (M.length+1) (M.flatMap eP++eP p))
 (ht:(∃ g cap,v=.slice (some ⟨g,0,none⟩) M.length cap/\v'=.slice (some ⟨g,0,none⟩) (M.length+1) cap/\w2.grownBy w4 (some g))\/(∃ cap,v'=.slice (some ⟨w2.heap.size,0,none⟩) (M.length+1) cap/\w2.grownBy w4 none)):
 LtE w W1 nm u1 u3 u4 v' (M++[p]) (w4.setCell ⟨w.heap.size+2,2,none⟩ v')/\zD 26 (w.heap.size+2) w4 #[.string (zW nm),u1,v,u3,u4]:=by
 have hk:=h.hk;have h1:=h.chg.size;have hsz:=hb.size;have tk:=vW ht
 have kp:∀d,d<V.heap.size->v.ownBlock≠some d->w4.heap[d]? =V.heap[d]? :=fun d hd hn=>(tk.2 d (by omega) hn).trans (hb.block d hd)
 have lowr:∀d,d<W1.heap.size->v.ownBlock≠some d:=fun d hd e=>by have:=zQ h.row d e;omega
 have b3:=h.ob.keep (kp _ (by omega) (lowr _ hk))
 have set:∀k,k≠w.heap.size+2->(w4.setCell ⟨w.heap.size+2,2,none⟩ v').heap[k]? =w4.heap[k]? :=fun k hk=>Below.heap_setCell w4 ⟨w.heap.size+2,2,none⟩ v' k hk
 have np:NB v p.2:=fun k e1 e2=>by have:=zI h.row k e1;have:=(hq.lt k e2).1;omega
 refine ⟨⟨b3.set 2 v',?_,fun q hq'=>?_,fun q hq'=>?_,?_,hk⟩,b3⟩
 ·rw [tG,List.length_append]
  exact zT ho fun k e=>set k (by have:=zQ ho k e;omega)
 ·rcases List.mem_append.1 hq' with hm|hm
  ·have l:=h.qs q hm
   exact l.keep fun k e=>(set k (by have:=(l.lt k e).1;omega)).trans (kp k (l.lt k e).2 (fun e2=>h.ap q hm k e2 e))
  rw[List.mem_singleton.1 hm];exact (hq.keep fun k e=>(set k (by have:=(hq.lt k e).1;omega)).trans (tk.2 k (hq.lt k e).2 (fun e2=>np k e2 e))).base h1
 ·rcases List.mem_append.1 hq' with hm|hm
  ·exact NB.told (h.ap q hm) (fun k e=>Nat.lt_of_lt_of_le ((h.qs q hm).lt k e).2 hsz) ht
  rw[List.mem_singleton.1 hm];exact NB.told np (fun k e=>(hq.lt k e).2) ht
 obtain ⟨row,hg,hrow⟩:=wV ht;have c1:wL (fun k=>k=w.heap.size+2\/W1.heap.size<=k) V w2:=wL.of_below hb
 have c2:wL (fun k=>k=w.heap.size+2\/W1.heap.size<=k) w2 w4:=wL.grown hg fun k e=>.inr (zQ h.row k (hrow k e))
 exact ((h.chg.trans' c1).trans' c2).trans' (wL.set w4 (.inl rfl) 2 v')
def kU (B:Nat) (w:World) (a:Option Addr) (c:Nat) (As:List GE):Prop:=∃(b:Nat) (M:List (GE × Value)),a=some ⟨b,0,none⟩/\B<=b/\As.length+1<=c/\M.map Prod.fst=As/\w.ownsRow B 65 5 (.slice a (As.length+1) c) (As.length+1) (M.flatMap eP++eP kW)/\∀p ∈ M,oF B w p.2 p.1.start
theorem kU.keep {B:Nat} {w w':World} {a:Option Addr} {c:Nat} {As:List GE} (h:kU B w a c As) (hk:∀k,B<=k->k<w.heap.size->w'.heap[k]? =w.heap[k]?):kU B w' a c As:=by
 obtain ⟨b,M,h1,h2,h3,h4,h5,h6⟩:=h;exact ⟨b,M,h1,h2,h3,h4,zT h5 fun k e=>hk k (zQ h5 k e) (zI h5 k e),fun p hp=>(h6 p hp).keep fun k e=>hk k ((h6 p hp).lt k e).1 ((h6 p hp).lt k e).2⟩
theorem kU.base {B B':Nat} {w:World} {a:Option Addr} {c:Nat} {As:List GE} (h:kU B w a c As) (hb:B'<=B):kU B' w a c As:=by
 obtain ⟨b,M,h1,h2,h3,h4,h5,h6⟩:=h;exact ⟨b,M,h1,Nat.le_trans hb h2,h3,h4,uQ h5 hb,fun p hp=>(h6 p hp).base hb⟩
theorem kU.gr {B:Nat} {w:World} {a:Option Addr} {c:Nat} {As:List GE} (h:kU B w a c As) (ho:∀x ∈ As,vE x.start):RG w a As:=by
 obtain ⟨b,M,rfl,-,-,h4,h5,h6⟩:=h
 have hl:M.length=As.length:=by rw[<- h4,List.length_map]
 rw[<- hl]at h5
 have r:=WX (n:=M.length) (cp:=c) (fL h5 (gR eP 5 mL M) (Nat.le_succ _)) (fun p hp=>by
  have hx:=ho p.1 (by rw[<- h4];exact List.mem_map_of_mem hp);obtain ⟨gq,e,hq⟩:=h6 p hp
  exact ⟨_,_,e,hq.arg hx⟩)
 rw[h4]at r;exact r
theorem mA.base {B B':Nat} {w:World} {a:Option Addr} {c:Nat} {Ps:List GP} (h:mA B w a c Ps) (hb:B'<=B):mA B' w a c Ps:=by
 obtain ⟨b,h1,h2,h3,h4⟩:=h;exact ⟨b,h1,Nat.le_trans hb h2,h3,uQ h4 hb⟩
structure TU (B : Nat) (w : World) (x1 x2 x3 x4 : Option Addr) (c1 c2 c3 c4 : Nat) (g : GG) : Prop where
 a:kV B w x1 c1 g.A
 e:kU B w x2 c2 g.E
 i:mA B w x3 c3 g.ins
 o:mA B w x4 c4 g.outs
theorem TU.keep {B:Nat} {w w':World} {x1 x2 x3 x4:Option Addr} {c1 c2 c3 c4:Nat} {g:GG} (h:TU B w x1 x2 x3 x4 c1 c2 c3 c4 g) (hk:∀k,B<=k->k<w.heap.size->w'.heap[k]? =w.heap[k]?):TU B w' x1 x2 x3 x4 c1 c2 c3 c4 g:=⟨h.a.keep hk,h.e.keep hk,h.i.keep hk,h.o.keep hk⟩
def DB (g:GG):Prop:=(∀ x ∈ g.A,x.tag<=255/\vE x.params)/\(∀ x ∈ g.E,vE x.start)
theorem UH.nums {w:World} {a1 a2 a3 a4:Option Addr} {g:GG} (h:UH w a1 a2 a3 a4 g):DB g:=by
 refine ⟨fun x hx=>?_,fun x hx=>?_⟩
 ·obtain ⟨k,hk,rfl⟩:=memA hx
  rcases h.A with e|⟨b,off,-,hc⟩
  ·rw [e]at hk;exact absurd hk (Nat.not_lt_zero _)
  obtain ⟨-,-,h3,y,c,-,h5⟩:=hc k hk;exact ⟨h3,h5.fits,h5.reach⟩
 obtain ⟨k,hk,rfl⟩:=CE hx
 rcases h.E with e|⟨b,off,-,hc⟩
 ·rw [e]at hk;exact absurd hk (Nat.not_lt_zero _)
 obtain ⟨-,-,-,-,y,c,-,h5⟩:=hc k hk;exact ⟨h5.fits,h5.reach⟩
theorem TU.gr {B:Nat} {w:World} {x1 x2 x3 x4:Option Addr} {c1 c2 c3 c4:Nat} {g:GG} (h:TU B w x1 x2 x3 x4 c1 c2 c3 c4 g) (ho:DB g) (hl:Light g):UH w x1 x2 x3 x4 g:=
 ⟨h.a.gr ho.1,h.e.gr ho.2,h.i.at,h.o.at,Nat.le_trans hl.a (by decide),Nat.le_trans hl.e (by decide),Nat.le_trans hl.i (by decide),Nat.le_trans hl.o (by decide)⟩
structure LB (w : World) (gv : Array Value) (u : World) : Prop where
 i:zD 26 w.heap.size u gv
 r:zD 26 (w.heap.size+1) u #[qE,qN,qN,qN,qN]
 bel:Below w.heap.size w u
theorem LB.below {w gv} {u u':World} (h:LB w gv u) (hb:Below u.heap.size u u'):LB w gv u':=⟨h.i.below hb,h.r.below hb,h.bel.trans (hb.mono h.bel.size)⟩
theorem LB.chg {w gv} {u u':World} {N:Nat} (h:LB w gv u) (hc:wL (fun k=>k=w.heap.size+2\/N<=k) u u') (hN:w.heap.size+2<N):LB w gv u':=
 ⟨h.i.keep (hc.block _ h.i.lt (by omega)),h.r.keep (hc.block _ h.r.lt (by omega)),h.bel.trans (hc.below (L:=w.heap.size) (fun k e=>by omega) h.bel.size)⟩
theorem LB.set {w gv} {u:World} (h:LB w gv u) (f:Nat) (v:Value):LB w gv (u.setCell ⟨w.heap.size+2,f,none⟩ v):=
 ⟨h.i.keep (Below.heap_setCell _ ⟨w.heap.size+2,f,none⟩ _ _ (by show w.heap.size≠w.heap.size+2;omega)),h.r.keep (Below.heap_setCell _ ⟨w.heap.size+2,f,none⟩ _ _ (by show w.heap.size+1≠w.heap.size+2;omega)),h.bel.setCell (p:=⟨w.heap.size+2,f,none⟩) (Nat.le_add_right _ 2) _⟩
def LZ (w:World) (gv:Array Value) (u:World):Prop:=zD 26 w.heap.size u gv/\Below w.heap.size w u
theorem yV {w:World} {B T c n B' T' c' n':Nat} {v v':Value} {xs xs':List Value} (h:w.ownsRow B T c v n xs) (h':w.ownsRow B' T' c' v' n' xs') (hT:T≠T'):NB v v':=by
 intro k e e'
 rcases h.2 with ⟨h1,-⟩|⟨g,cap,cur,hv,-,hh,-⟩
 ·rw [h1]at e;cases e
 rcases h'.2 with ⟨h1,-⟩|⟨g',cap',cur',hv',-,hh',-⟩
 ·rw [h1]at e';cases e'
 rw[hv]at e;rw[hv']at e'
 cases e
 cases e'
 rw[hh]at hh'
 cases hh'
 exact hT rfl
def ParO (B:Nat) (w:World) (p:GA × Value):Prop:=p.1.tag<=255/\vE p.1.params/\wU B w p.2 p.1.params
def ParQ (B:Nat) (w:World) (p:GE × Value):Prop:=vE p.1.start/\wU B w p.2 p.1.start
structure QX (w : World) (B : Nat) (sk : Array Value) (nm : List UInt8) (v1 v2 v3 v4 : Value) (As : List (GA × Value)) (Es : List (GE × Value)) (Ps Os : List GP) (wr : World) : Prop where
 sb:zD 52 w.heap.size wr sk
 rb:zD 26 (w.heap.size+1) wr #[qE,qN,qN,qN,qN]
 gb:zD 26 (w.heap.size+2) wr #[.string (zW nm),v1,v2,v3,v4]
 r1:wr.ownsRow B 62 3 v1 As.length (As.flatMap aP)
 r2:wr.ownsRow B 65 5 v2 Es.length (Es.flatMap eP)
 r3:wr.ownsRow B 81 3 v3 Ps.length (Ps.flatMap pP)
 r4:wr.ownsRow B 81 3 v4 Os.length (Os.flatMap pP)
 n34:NB v3 v4
 pa:∀p ∈ As,ParO B wr p
 pe:∀p ∈ Es,ParQ B wr p
 bel:Below w.heap.size w wr
 hB:w.heap.size+2<B
 big:B<=wr.heap.size
theorem QX.below {w B sk nm v1 v2 v3 v4 As Es Ps Os} {wr w2:World} (h:QX w B sk nm v1 v2 v3 v4 As Es Ps Os wr) (hb:Below wr.heap.size wr w2):QX w B sk nm v1 v2 v3 v4 As Es Ps Os w2:=
 ⟨h.sb.below hb,h.rb.below hb,h.gb.below hb,yY h.r1 hb,yY h.r2 hb,yY h.r3 hb,yY h.r4 hb,h.n34,fun p hp=>⟨(h.pa p hp).1,(h.pa p hp).2.1,yY (h.pa p hp).2.2 hb⟩,fun p hp=>⟨(h.pe p hp).1,yY (h.pe p hp).2 hb⟩,h.bel.trans (hb.mono h.bel.size),h.hB,Nat.le_trans h.big hb.size⟩
theorem QX.put1 {w B sk nm v1 v2 v3 v4 As Es Ps Os} {V:World} (h:QX w B sk nm v1 v2 v3 v4 As Es Ps Os V) {w2 w4:World} {p:(GA × Value)} {v':Value} (hb:Below V.heap.size V w2) (hp:ParO B w2 p)
 (ho:w4.ownsRow B 62 3 v' (As.length+1) (As.flatMap aP++aP p))
 (ht:(∃ g cap,v1=.slice (some ⟨g,0,none⟩) As.length cap/\v'=.slice (some ⟨g,0,none⟩) (As.length+1) cap/\w2.grownBy w4 (some g))\/(∃ cap,v'=.slice (some ⟨w2.heap.size,0,none⟩) (As.length+1) cap/\w2.grownBy w4 none)):
 QX w B sk nm v' v2 v3 v4 (As++[p]) Es Ps Os (w4.setCell ⟨w.heap.size+2,1,none⟩ v')/\zD 26 (w.heap.size+2) w4 #[.string (zW nm),v1,v2,v3,v4]:=by
 have hbig:=h.big;have hB:=h.hB;have hsz:=hb.size;have tk:=vW ht
 have kp:∀d,d<V.heap.size->v1.ownBlock≠some d->w4.heap[d]? =V.heap[d]? :=fun d hd hn=>(tk.2 d (by omega) hn).trans (hb.block d hd)
 have lowr:∀d,d<B->v1.ownBlock≠some d:=fun d hd e=>by have:=zQ h.r1 d e;omega
 have b3:=h.gb.keep (kp (w.heap.size+2) (by omega) (lowr _ (by omega)))
 have set:∀k,k≠w.heap.size+2->(w4.setCell ⟨w.heap.size+2,1,none⟩ v').heap[k]? =w4.heap[k]? :=fun k hk=>Below.heap_setCell w4 ⟨w.heap.size+2,1,none⟩ v' k hk
 have rI:(w4.setCell ⟨w.heap.size+2,1,none⟩ v').ownsRow B 62 3 v' (As++[p]).length ((As++[p]).flatMap aP):=by
  rw[tG,List.length_append]
  exact zT ho fun k e=>set k (by have:=zQ ho k e;omega)
 obtain ⟨row,hg,hrow⟩:=wV ht;refine ⟨⟨h.sb.keep ((set _ (by omega)).trans (kp _ (by omega) (lowr _ (by omega)))),h.rb.keep ((set _ (by omega)).trans (kp _ (by omega) (lowr _ (by omega)))),b3.set 1 v',rI,(zT h.r2 fun k e=>(set k (by have:=zQ h.r2 k e;omega)).trans (kp k (zI h.r2 k e) (fun q=>(yV h.r1 h.r2 (by decide)) k q e))),(zT h.r3 fun k e=>(set k (by have:=zQ h.r3 k e;omega)).trans (kp k (zI h.r3 k e) (fun q=>(yV h.r1 h.r3 (by decide)) k q e))),(zT h.r4 fun k e=>(set k (by have:=zQ h.r4 k e;omega)).trans (kp k (zI h.r4 k e) (fun q=>(yV h.r1 h.r4 (by decide)) k q e))),h.n34,fun q hq=>(List.mem_append.1 hq).elim (fun hq=>⟨(h.pa q hq).1,(h.pa q hq).2.1,(zT (h.pa q hq).2.2 fun k e=>(set k (by have:=zQ (h.pa q hq).2.2 k e;omega)).trans (kp k (zI (h.pa q hq).2.2 k e) (fun z=>yV h.r1 (h.pa q hq).2.2 (by decide) k z e)))⟩) (fun e=>by rw[List.mem_singleton.1 e];exact ⟨hp.1,hp.2.1,(zT hp.2.2 fun k e=>(set k (by have:=zQ hp.2.2 k e;omega)).trans (tk.2 k (zI hp.2.2 k e) (fun z=>yV (yY h.r1 hb) hp.2.2 (by decide) k z e)))⟩),fun q hq=>⟨(h.pe q hq).1,(zT (h.pe q hq).2 fun k e=>(set k (by have:=zQ (h.pe q hq).2 k e;omega)).trans (kp k (zI (h.pe q hq).2 k e) (fun z=>yV h.r1 (h.pe q hq).2 (by decide) k z e)))⟩,?_,h.hB,?_⟩,b3⟩
 ·have h1:Below w.heap.size w w2:=h.bel.trans (hb.mono h.bel.size)
  exact (yT h1 hg (fun k hk=>by have:=zQ h.r1 k (hrow k hk);omega) h1.size).setCell (p:=⟨w.heap.size+2,1,none⟩) (by show w.heap.size<=w.heap.size+2;omega) _
 have:=tk.1;rw[World.size_setCell];omega
theorem QX.put2 {w B sk nm v1 v2 v3 v4 As Es Ps Os} {V:World} (h:QX w B sk nm v1 v2 v3 v4 As Es Ps Os V) {w2 w4:World} {p:(GE × Value)} {v':Value} (hb:Below V.heap.size V w2) (hp:ParQ B w2 p)
 (ho:w4.ownsRow B 65 5 v' (Es.length+1) (Es.flatMap eP++eP p))
 (ht:(∃ g cap,v2=.slice (some ⟨g,0,none⟩) Es.length cap/\v'=.slice (some ⟨g,0,none⟩) (Es.length+1) cap/\w2.grownBy w4 (some g))\/(∃ cap,v'=.slice (some ⟨w2.heap.size,0,none⟩) (Es.length+1) cap/\w2.grownBy w4 none)):
 QX w B sk nm v1 v' v3 v4 As (Es++[p]) Ps Os (w4.setCell ⟨w.heap.size+2,2,none⟩ v')/\zD 26 (w.heap.size+2) w4 #[.string (zW nm),v1,v2,v3,v4]:=by
 have hbig:=h.big;have hB:=h.hB;have hsz:=hb.size;have tk:=vW ht
 have kp:∀d,d<V.heap.size->v2.ownBlock≠some d->w4.heap[d]? =V.heap[d]? :=fun d hd hn=>(tk.2 d (by omega) hn).trans (hb.block d hd)
 have lowr:∀d,d<B->v2.ownBlock≠some d:=fun d hd e=>by have:=zQ h.r2 d e;omega
 have b3:=h.gb.keep (kp (w.heap.size+2) (by omega) (lowr _ (by omega)))
 have set:∀k,k≠w.heap.size+2->(w4.setCell ⟨w.heap.size+2,2,none⟩ v').heap[k]? =w4.heap[k]? :=fun k hk=>Below.heap_setCell w4 ⟨w.heap.size+2,2,none⟩ v' k hk
 have rI:(w4.setCell ⟨w.heap.size+2,2,none⟩ v').ownsRow B 65 5 v' (Es++[p]).length ((Es++[p]).flatMap eP):=by
  rw[tG,List.length_append]
  exact zT ho fun k e=>set k (by have:=zQ ho k e;omega)
 obtain ⟨row,hg,hrow⟩:=wV ht;refine ⟨⟨h.sb.keep ((set _ (by omega)).trans (kp _ (by omega) (lowr _ (by omega)))),h.rb.keep ((set _ (by omega)).trans (kp _ (by omega) (lowr _ (by omega)))),b3.set 2 v',(zT h.r1 fun k e=>(set k (by have:=zQ h.r1 k e;omega)).trans (kp k (zI h.r1 k e) (fun q=>(yV h.r2 h.r1 (by decide)) k q e))),rI,(zT h.r3 fun k e=>(set k (by have:=zQ h.r3 k e;omega)).trans (kp k (zI h.r3 k e) (fun q=>(yV h.r2 h.r3 (by decide)) k q e))),(zT h.r4 fun k e=>(set k (by have:=zQ h.r4 k e;omega)).trans (kp k (zI h.r4 k e) (fun q=>(yV h.r2 h.r4 (by decide)) k q e))),h.n34,fun q hq=>⟨(h.pa q hq).1,(h.pa q hq).2.1,(zT (h.pa q hq).2.2 fun k e=>(set k (by have:=zQ (h.pa q hq).2.2 k e;omega)).trans (kp k (zI (h.pa q hq).2.2 k e) (fun z=>yV h.r2 (h.pa q hq).2.2 (by decide) k z e)))⟩,fun q hq=>(List.mem_append.1 hq).elim (fun hq=>⟨(h.pe q hq).1,(zT (h.pe q hq).2 fun k e=>(set k (by have:=zQ (h.pe q hq).2 k e;omega)).trans (kp k (zI (h.pe q hq).2 k e) (fun z=>yV h.r2 (h.pe q hq).2 (by decide) k z e)))⟩) (fun e=>by rw[List.mem_singleton.1 e];exact ⟨hp.1,(zT hp.2 fun k e=>(set k (by have:=zQ hp.2 k e;omega)).trans (tk.2 k (zI hp.2 k e) (fun z=>yV (yY h.r2 hb) hp.2 (by decide) k z e)))⟩),?_,h.hB,?_⟩,b3⟩
 ·have h1:Below w.heap.size w w2:=h.bel.trans (hb.mono h.bel.size)
  exact (yT h1 hg (fun k hk=>by have:=zQ h.r2 k (hrow k hk);omega) h1.size).setCell (p:=⟨w.heap.size+2,2,none⟩) (by show w.heap.size<=w.heap.size+2;omega) _
 have:=tk.1;rw[World.size_setCell];omega
theorem QX.put3 {w B sk nm v1 v2 v3 v4 As Es Ps Os} {V:World} (h:QX w B sk nm v1 v2 v3 v4 As Es Ps Os V) {w2 w4:World} {p:GP} {v':Value} (hb:Below V.heap.size V w2)
 (ho:w4.ownsRow B 81 3 v' (Ps.length+1) (Ps.flatMap pP++pP p))
 (ht:(∃ g cap,v3=.slice (some ⟨g,0,none⟩) Ps.length cap/\v'=.slice (some ⟨g,0,none⟩) (Ps.length+1) cap/\w2.grownBy w4 (some g))\/(∃ cap,v'=.slice (some ⟨w2.heap.size,0,none⟩) (Ps.length+1) cap/\w2.grownBy w4 none)):
 QX w B sk nm v1 v2 v' v4 As Es (Ps++[p]) Os (w4.setCell ⟨w.heap.size+2,3,none⟩ v')/\zD 26 (w.heap.size+2) w4 #[.string (zW nm),v1,v2,v3,v4]:=by
 have hbig:=h.big;have hB:=h.hB;have hsz:=hb.size;have tk:=vW ht
 have kp:∀d,d<V.heap.size->v3.ownBlock≠some d->w4.heap[d]? =V.heap[d]? :=fun d hd hn=>(tk.2 d (by omega) hn).trans (hb.block d hd)
 have lowr:∀d,d<B->v3.ownBlock≠some d:=fun d hd e=>by have:=zQ h.r3 d e;omega
 have b3:=h.gb.keep (kp (w.heap.size+2) (by omega) (lowr _ (by omega)))
 have set:∀k,k≠w.heap.size+2->(w4.setCell ⟨w.heap.size+2,3,none⟩ v').heap[k]? =w4.heap[k]? :=fun k hk=>Below.heap_setCell w4 ⟨w.heap.size+2,3,none⟩ v' k hk
 have rI:(w4.setCell ⟨w.heap.size+2,3,none⟩ v').ownsRow B 81 3 v' (Ps++[p]).length ((Ps++[p]).flatMap pP):=by
  rw[tG,List.length_append]
  exact zT ho fun k e=>set k (by have:=zQ ho k e;omega)
 obtain ⟨row,hg,hrow⟩:=wV ht;refine ⟨⟨h.sb.keep ((set _ (by omega)).trans (kp _ (by omega) (lowr _ (by omega)))),h.rb.keep ((set _ (by omega)).trans (kp _ (by omega) (lowr _ (by omega)))),b3.set 3 v',(zT h.r1 fun k e=>(set k (by have:=zQ h.r1 k e;omega)).trans (kp k (zI h.r1 k e) (fun q=>(yV h.r3 h.r1 (by decide)) k q e))),(zT h.r2 fun k e=>(set k (by have:=zQ h.r2 k e;omega)).trans (kp k (zI h.r2 k e) (fun q=>(yV h.r3 h.r2 (by decide)) k q e))),rI,(zT h.r4 fun k e=>(set k (by have:=zQ h.r4 k e;omega)).trans (kp k (zI h.r4 k e) (fun q=>h.n34 k q e))),(NB.told h.n34 (fun k e=>Nat.lt_of_lt_of_le (zI h.r4 k e) hsz) ht),fun q hq=>⟨(h.pa q hq).1,(h.pa q hq).2.1,(zT (h.pa q hq).2.2 fun k e=>(set k (by have:=zQ (h.pa q hq).2.2 k e;omega)).trans (kp k (zI (h.pa q hq).2.2 k e) (fun z=>yV h.r3 (h.pa q hq).2.2 (by decide) k z e)))⟩,fun q hq=>⟨(h.pe q hq).1,(zT (h.pe q hq).2 fun k e=>(set k (by have:=zQ (h.pe q hq).2 k e;omega)).trans (kp k (zI (h.pe q hq).2 k e) (fun z=>yV h.r3 (h.pe q hq).2 (by decide) k z e)))⟩,?_,h.hB,?_⟩,b3⟩
 ·have h1:Below w.heap.size w w2:=h.bel.trans (hb.mono h.bel.size)
  exact (yT h1 hg (fun k hk=>by have:=zQ h.r3 k (hrow k hk);omega) h1.size).setCell (p:=⟨w.heap.size+2,3,none⟩) (by show w.heap.size<=w.heap.size+2;omega) _
 have:=tk.1;rw[World.size_setCell];omega
theorem QX.put4 {w B sk nm v1 v2 v3 v4 As Es Ps Os} {V:World} (h:QX w B sk nm v1 v2 v3 v4 As Es Ps Os V) {w2 w4:World} {p:GP} {v':Value} (hb:Below V.heap.size V w2)
 (ho:w4.ownsRow B 81 3 v' (Os.length+1) (Os.flatMap pP++pP p))
 (ht:(∃ g cap,v4=.slice (some ⟨g,0,none⟩) Os.length cap/\v'=.slice (some ⟨g,0,none⟩) (Os.length+1) cap/\w2.grownBy w4 (some g))\/(∃ cap,v'=.slice (some ⟨w2.heap.size,0,none⟩) (Os.length+1) cap/\w2.grownBy w4 none)):
 QX w B sk nm v1 v2 v3 v' As Es Ps (Os++[p]) (w4.setCell ⟨w.heap.size+2,4,none⟩ v')/\zD 26 (w.heap.size+2) w4 #[.string (zW nm),v1,v2,v3,v4]:=by
 have hbig:=h.big;have hB:=h.hB;have hsz:=hb.size;have tk:=vW ht
 have kp:∀d,d<V.heap.size->v4.ownBlock≠some d->w4.heap[d]? =V.heap[d]? :=fun d hd hn=>(tk.2 d (by omega) hn).trans (hb.block d hd)
 have lowr:∀d,d<B->v4.ownBlock≠some d:=fun d hd e=>by have:=zQ h.r4 d e;omega
 have b3:=h.gb.keep (kp (w.heap.size+2) (by omega) (lowr _ (by omega)))
 have set:∀k,k≠w.heap.size+2->(w4.setCell ⟨w.heap.size+2,4,none⟩ v').heap[k]? =w4.heap[k]? :=fun k hk=>Below.heap_setCell w4 ⟨w.heap.size+2,4,none⟩ v' k hk
 have rI:(w4.setCell ⟨w.heap.size+2,4,none⟩ v').ownsRow B 81 3 v' (Os++[p]).length ((Os++[p]).flatMap pP):=by
  rw[tG,List.length_append]
  exact zT ho fun k e=>set k (by have:=zQ ho k e;omega)
 obtain ⟨row,hg,hrow⟩:=wV ht;refine ⟨⟨h.sb.keep ((set _ (by omega)).trans (kp _ (by omega) (lowr _ (by omega)))),h.rb.keep ((set _ (by omega)).trans (kp _ (by omega) (lowr _ (by omega)))),b3.set 4 v',(zT h.r1 fun k e=>(set k (by have:=zQ h.r1 k e;omega)).trans (kp k (zI h.r1 k e) (fun q=>(yV h.r4 h.r1 (by decide)) k q e))),(zT h.r2 fun k e=>(set k (by have:=zQ h.r2 k e;omega)).trans (kp k (zI h.r2 k e) (fun q=>(yV h.r4 h.r2 (by decide)) k q e))),(zT h.r3 fun k e=>(set k (by have:=zQ h.r3 k e;omega)).trans (kp k (zI h.r3 k e) (fun q=>h.n34.symm k q e))),rI,(NB.told h.n34.symm (fun k e=>Nat.lt_of_lt_of_le (zI h.r3 k e) hsz) ht).symm,fun q hq=>⟨(h.pa q hq).1,(h.pa q hq).2.1,(zT (h.pa q hq).2.2 fun k e=>(set k (by have:=zQ (h.pa q hq).2.2 k e;omega)).trans (kp k (zI (h.pa q hq).2.2 k e) (fun z=>yV h.r4 (h.pa q hq).2.2 (by decide) k z e)))⟩,fun q hq=>⟨(h.pe q hq).1,(zT (h.pe q hq).2 fun k e=>(set k (by have:=zQ (h.pe q hq).2 k e;omega)).trans (kp k (zI (h.pe q hq).2 k e) (fun z=>yV h.r4 (h.pe q hq).2 (by decide) k z e)))⟩,?_,h.hB,?_⟩,b3⟩
 ·have h1:Below w.heap.size w w2:=h.bel.trans (hb.mono h.bel.size)
  exact (yT h1 hg (fun k hk=>by have:=zQ h.r4 k (hrow k hk);omega) h1.size).setCell (p:=⟨w.heap.size+2,4,none⟩) (by show w.heap.size<=w.heap.size+2;omega) _
 have:=tk.1;rw[World.size_setCell];omega
structure PD (ns : List (List UInt8)) (L : List wJ) (As : List (GA × Value)) (Es : List (GE × Value)) (Ps Os : List GP) : Prop where
 a:As.map Prod.fst=(tH 1 L).map CL
 e:Es.map Prod.fst=((tH 2 L).map (wE ns)).take 97
 i:Ps=((tH 3 L).map (wI ns)).take 17
 o:Os=((tH 4 L).map (wO ns)).take 17
theorem mK {α :Type} {l:List α} {x: α} {m:Nat} (h:l.length<m):(l++[x]).take m=l.take m++[x]:=by
 rw[List.take_of_length_le (by rw[List.length_append];simp;omega),List.take_of_length_le (Nat.le_of_lt h)]
theorem PD.len {ns L As Es Ps Os} (h:PD ns L As Es Ps Os):As.length<=L.length/\Es.length<=97/\Ps.length<=17/\Os.length<=17:=by
 have h1:=congrArg List.length h.a;have h2:=congrArg List.length h.e;have h3:=congrArg List.length h.i;have h4:=congrArg List.length h.o;simp only[List.length_map,List.length_take]at h1 h2 h3 h4;have:=pI 1 L;omega
theorem PD.addA {ns L As Es Ps Os} (h:PD ns L As Es Ps Os) {x:wJ} (hk:x.kind=1) (q:Value):PD ns (L++[x]) (As++[(CL x,q)]) Es Ps Os:=by
 refine ⟨?_,?_,?_,?_⟩
 ·rw [yR,if_pos hk,List.map_append,List.map_append,h.a];rfl
 ·rw [yR,if_neg (by rw[hk];decide)];exact h.e
 ·rw [yR,if_neg (by rw[hk];decide)];exact h.i
 rw[yR,if_neg (by rw[hk];decide)];exact h.o
theorem PD.addE {ns L As Es Ps Os} (h:PD ns L As Es Ps Os) {x:wJ} (hk:x.kind=2) (hm:Es.length<97) (q:Value):PD ns (L++[x]) As (Es++[(wE ns x,q)]) Ps Os:=by
 refine ⟨?_,?_,?_,?_⟩
 ·rw [yR,if_neg (by rw[hk];decide)];exact h.a
 ·have hl:=congrArg List.length h.e
  simp only[List.length_map,List.length_take]at hl;rw[yR,if_pos hk,List.map_append,List.map_append];show _=((tH 2 L).map (wE ns)++[wE ns x]).take 97
  rw[mK (by rw[List.length_map];omega),<-h.e];rfl
 ·rw [yR,if_neg (by rw[hk];decide)];exact h.i
 rw[yR,if_neg (by rw[hk];decide)];exact h.o
theorem PD.addI {ns L As Es Ps Os} (h:PD ns L As Es Ps Os) {x:wJ} (hk:x.kind=3) (hm:Ps.length<17):PD ns (L++[x]) As Es (Ps++[wI ns x]) Os:=by
 refine ⟨?_,?_,?_,?_⟩
 ·rw [yR,if_neg (by rw[hk];decide)];exact h.a
 ·rw [yR,if_neg (by rw[hk];decide)];exact h.e
 ·have hl:=congrArg List.length h.i
  simp only[List.length_map,List.length_take]at hl;rw[yR,if_pos hk,List.map_append];show _=((tH 3 L).map (wI ns)++[wI ns x]).take 17
  rw[mK (by rw[List.length_map];omega),<-h.i]
 rw[yR,if_neg (by rw[hk];decide)];exact h.o
theorem PD.addO {ns L As Es Ps Os} (h:PD ns L As Es Ps Os) {x:wJ} (hk:x.kind=4) (hm:Os.length<17):PD ns (L++[x]) As Es Ps (Os++[wO ns x]):=by
 refine ⟨?_,?_,?_,?_⟩
 ·rw [yR,if_neg (by rw[hk];decide)];exact h.a
 ·rw [yR,if_neg (by rw[hk];decide)];exact h.e
 ·rw [yR,if_neg (by rw[hk];decide)];exact h.i
 have hl:=congrArg List.length h.o;simp only[List.length_map,List.length_take]at hl;rw[yR,if_pos hk,List.map_append];show _=((tH 4 L).map (wO ns)++[wO ns x]).take 17
 rw[mK (by rw[List.length_map];omega),<-h.o]
theorem LZ.low {w u:World} {gv:Array Value} (h:LZ w gv u):Below w.heap.size w u:=h.2
theorem LZ.later {w u u':World} {gv:Array Value} (h:LZ w gv u) (hb:Below u.heap.size u u'):LZ w gv u':=⟨h.1.below hb,h.2.trans (hb.mono h.2.size)⟩
def IR (w:World) (gv:Array Value) (u:World):Prop:=LZ w gv u/\zD 114 (w.heap.size+1) u #[.int .i64 0,.int .u8 0,.int .i64 0,.int .i64 0]
theorem IR.low {w u:World} {gv:Array Value} (h:IR w gv u):Below w.heap.size w u:=h.1.2
theorem IR.later {w u u':World} {gv:Array Value} (h:IR w gv u) (hb:Below u.heap.size u u'):IR w gv u':=⟨h.1.later hb,h.2.below hb⟩
def NuV (V:World) (zs:List Int) (u:World) (v:Value):Prop:=∃a c,v=.slice a zs.length c/\xM V.heap.size u a c zs
theorem NuV.later {V u u':World} {zs:List Int} {v:Value} (h:NuV V zs u v) (hb:Below u.heap.size u u'):NuV V zs u' v:=by
 obtain ⟨a,c,h1,h2⟩:=h;exact ⟨a,c,h1,h2.later hb⟩
def BU (B:Nat) (T:TypeId) (cs:Array Value) (u:World) (v:Value):Prop:=∃xb,v=(qP xb)/\B<=xb/\zD T xb u cs
theorem BU.later {B:Nat} {T:TypeId} {cs:Array Value} {u u':World} {v:Value} (h:BU B T cs u v) (hb:Below u.heap.size u u'):BU B T cs u' v:=by
 obtain ⟨xb,h1,h2,h3⟩:=h;exact ⟨xb,h1,h2,h3.below hb⟩
theorem kV.cells {B:Nat} {w:World} {a:Option Addr} {c:Nat} {As:List GA} (h:kV B w a c As):∃b z,a=some ⟨b,z,none⟩/\As.length+1<=c/\(∀ k,k<As.length->∃gq,w.cell? ⟨b,z+k*3+2,none⟩=some (.slice (some ⟨gq,0,none⟩) (yI As k).params.length ((yI As k).params.length+4))/\nY B w gq (yI As k).params.length (yI As k).params)/\w.cell? ⟨b,z+As.length*3+1,none⟩=some (.int .u8 99):=by
 obtain ⟨b,M,rfl,-,h3,h4,h5,h6⟩:=h
 have hl:M.length=As.length:=by rw[<- h4,List.length_map]
 have e1:M.flatMap aP++aP kX=(M++[kX]).flatMap aP:=by rw[List.flatMap_append];simp
 have e2:As.length+1=(M++[kX]).length:=by rw[List.length_append,hl];rfl
 rw[e1]at h5
 have h7:w.ownsRow B 62 3 (.slice (some ⟨b,0,none⟩) (As.length+1) c) (M++[kX]).length ((M++[kX]).flatMap aP):=by rw[<- e2];exact h5
 refine ⟨b,0,rfl,h3,fun k hk=>?_,?_⟩
 ·have hkm:k<M.length:=by omega
  have hk2:k<(M++[kX]).length:=by omega
  have e3:(M++[kX])[k]=M[k]:=List.getElem_append_left hkm
  have e4:yI As k=M[k].1:=by
   subst h4;rw[gV hk,List.getElem_map]
  obtain ⟨gq,e5,h8⟩:=h6 M[k] (List.getElem_mem hkm);rw[e4,Nat.zero_add];exact ⟨gq,wQ jD h7 hk2 (r:=2) (by decide) (by rw[e3,<-e5];rfl),h8⟩
 have hk2:As.length<(M++[kX]).length:=by omega
 have e3:(M++[kX])[As.length]=kX:=by
  rw[List.getElem_append_right (by omega)];simp
 rw[Nat.zero_add];exact wQ jD h7 hk2 (r:=1) (by decide) (by rw[e3];rfl)
theorem kU.cells {B:Nat} {w:World} {a:Option Addr} {c:Nat} {As:List GE} (h:kU B w a c As):∃b z,a=some ⟨b,z,none⟩/\As.length+1<=c/\(∀ k,k<As.length->∃gq,w.cell? ⟨b,z+k*5+4,none⟩=some (.slice (some ⟨gq,0,none⟩) (wK As k).start.length ((wK As k).start.length+4))/\nY B w gq (wK As k).start.length (wK As k).start)/\w.cell? ⟨b,z+As.length*5+0,none⟩=some (.int .i64 (-7770777)):=by
 obtain ⟨b,M,rfl,-,h3,h4,h5,h6⟩:=h
 have hl:M.length=As.length:=by rw[<- h4,List.length_map]
 have e1:M.flatMap eP++eP kW=(M++[kW]).flatMap eP:=by rw[List.flatMap_append];simp
 have e2:As.length+1=(M++[kW]).length:=by rw[List.length_append,hl];rfl
 rw[e1]at h5
 have h7:w.ownsRow B 65 5 (.slice (some ⟨b,0,none⟩) (As.length+1) c) (M++[kW]).length ((M++[kW]).flatMap eP):=by rw[<- e2];exact h5
 refine ⟨b,0,rfl,h3,fun k hk=>?_,?_⟩
 ·have hkm:k<M.length:=by omega
  have hk2:k<(M++[kW]).length:=by omega
  have e3:(M++[kW])[k]=M[k]:=List.getElem_append_left hkm
  have e4:wK As k=M[k].1:=by
   subst h4;rw[gU hk,List.getElem_map]
  obtain ⟨gq,e5,h8⟩:=h6 M[k] (List.getElem_mem hkm);rw[e4,Nat.zero_add];exact ⟨gq,wQ mL h7 hk2 (r:=4) (by decide) (by rw[e3,<-e5];rfl),h8⟩
 have hk2:As.length<(M++[kW]).length:=by omega
 have e3:(M++[kW])[As.length]=kW:=by
  rw[List.getElem_append_right (by omega)];simp
 rw[Nat.zero_add];exact wQ mL h7 hk2 (r:=0) (by decide) (by rw[e3];rfl)
theorem mA.mark {B:Nat} {w:World} {a:Option Addr} {c:Nat} {Ps:List GP} (h:mA B w a c Ps):∃b z,a=some ⟨b,z,none⟩/\Ps.length+1<=c/\w.cell? ⟨b,z+Ps.length*3+1,none⟩=some (.int .i64 (-7770777)):=by
 obtain ⟨b,rfl,-,h3,h5⟩:=h
 have e1:Ps.flatMap pP++pP gQ=(Ps++[gQ]).flatMap pP:=by rw[List.flatMap_append];simp
 have e2:Ps.length+1=(Ps++[gQ]).length:=by rw[List.length_append];rfl
 rw[e1]at h5
 have h7:w.ownsRow B 81 3 (.slice (some ⟨b,0,none⟩) (Ps.length+1) c) (Ps++[gQ]).length ((Ps++[gQ]).flatMap pP):=by rw[<- e2];exact h5
 have hk2:Ps.length<(Ps++[gQ]).length:=by omega
 have e3:(Ps++[gQ])[Ps.length]=gQ:=by
  rw[List.getElem_append_right (by omega)];simp
 exact ⟨b,0,rfl,h3,by rw[Nat.zero_add];exact wQ bJ h7 hk2 (r:=1) (by decide) (by rw[e3];rfl)⟩
def IQ (w:World) (ov gv:Array Value) (u:World):Prop:=zD 26 w.heap.size u ov/\zD 26 (w.heap.size+1) u gv/\Below w.heap.size w u
theorem IQ.low {w u:World} {ov gv:Array Value} (h:IQ w ov gv u):Below w.heap.size w u:=h.2.2
theorem IQ.later {w u u':World} {ov gv:Array Value} (h:IQ w ov gv u) (hb:Below u.heap.size u u'):IQ w ov gv u':=⟨h.1.below hb,h.2.1.below hb,h.2.2.trans (hb.mono h.2.2.size)⟩
def BS (V:World) (mk:Value->Value) (qn:Nat) (nu:List Int) (u:World) (v:Value):Prop:=∃za zc,v=mk (.slice za qn zc)/\xM V.heap.size u za zc nu
def BR (V:World) (P:Value->List Value) (qn:Nat) (nu:List Int) (u:World) (v:Value):Prop:=∃h za zc,v=.slice (some ⟨h,0,none⟩) 1 1/\(∀ j y,(P (.slice za qn zc))[j]? =some y->u.cell? ((⟨h,0,none⟩:Addr).add j)=some y)/\xM V.heap.size u za zc nu
theorem BS.later {V u u':World} {mk:Value->Value} {qn:Nat} {nu:List Int} {v:Value} (h:BS V mk qn nu u v) (hb:Below u.heap.size u u'):BS V mk qn nu u' v:=by
 obtain ⟨za,zc,h1,h2⟩:=h;exact ⟨za,zc,h1,h2.later hb⟩
theorem BR.later {V u u':World} {P:Value->List Value} {qn:Nat} {nu:List Int} {v:Value} (h:BR V P qn nu u v) (hb:Below u.heap.size u u'):BR V P qn nu u' v:=by
 obtain ⟨g,za,zc,h1,h2,h3⟩:=h;exact ⟨g,za,zc,h1,fun j y hy=>zR hb (h2 j y hy),h3.later hb⟩
theorem kT {B n c:Nat} {w:World} {T S:TypeId} {v:Value} {xs:List Value} {cs:Array Value} {hb:Nat} (h:w.ownsRow B T c v n xs) (hX:zD S hb w cs) (hT:S≠T):∀k,v.ownBlock=some k->k≠hb:=by
 intro k hk e
 rcases h.2 with ⟨hv,-⟩|⟨g,cap,cur,hv,hg,hh,-⟩
 ·rw [hv]at hk;cases hk
 rw[hv]at hk
 cases hk
 subst e;rw[show w.heap[g]? =some (.cells cs S (0,0)) from hX]at hh
 injection hh with hh
 injection hh with h1 h2
 exact hT h2
structure bF (w0 wr : World) (hb : Nat) (T : TypeId) (c : Nat) (cs : Array Value) (v : Value) (n : Nat) (xs : List Value) : Prop where
 blk:zD 26 hb wr cs
 row:wr.ownsRow w0.heap.size T c v n xs
 old:hb<w0.heap.size
 chg:wL (fun k=>k=hb\/w0.heap.size<=k) w0 wr
theorem bF.far {w0 wr:World} {hb:Nat} {T:TypeId} {c:Nat} {cs:Array Value} {v:Value} {n:Nat} {xs:List Value} (h:bF w0 wr hb T c cs v n xs):v.ownBlock≠some hb:=fun e=>by
 have:=zQ h.row _ e;have:=h.old;omega
theorem bF.nil {w0:World} {hb:Nat} (T:TypeId) (c:Nat) {cs:Array Value} (h:zD 26 hb w0 cs):bF w0 w0 hb T c cs (qN) 0 []:=
 ⟨h,World.ownsRow_nil _ _ _ _,h.lt,wL.of_below (Below.refl _ _)⟩
theorem bF.step {w0 V u:World} {hb:Nat} {T:TypeId} {c f:Nat} {cs:Array Value} {v:Value} {n:Nat} {xs e:List Value} (h:bF w0 V hb T c cs v n xs) (ap:RF (fun _ es=>es=e) V w0.heap.size T c v n xs 26 hb f cs u):∃g k,bF w0 u hb T c (cs.setIfInBounds f (.slice (some ⟨g,0,none⟩) (n+1) k)) (.slice (some ⟨g,0,none⟩) (n+1) k) (n+1) (xs++e):=by
 obtain ⟨es,w1,u1,z,hD,hbut,hblk⟩:=ap;obtain ⟨g,cap,rfl⟩:=hD.shape;have e1:es=e:=hD.el;subst e1;have hgB:w0.heap.size<=g:=zQ hD.own g rfl;have hold:=h.old;refine ⟨g,cap,hblk,zT hD.own (fun k hk=>hbut.block k (zI hD.own k hk) (by have:=zQ hD.own k hk;omega)),h.old,?_⟩
 have c1:=h.chg.trans hD.chg (fun k hk=>.inr (zQ h.row k hk));exact c1.trans (F':=fun k=>k=hb) ⟨hbut.os,hbut.tape,hbut.output,hbut.size,fun k hk hn=>hbut.block k hk hn⟩ (fun k hk=>.inl (.inl hk))
theorem bF.bel {w0 wr:World} {hb:Nat} {T:TypeId} {c:Nat} {cs:Array Value} {v:Value} {n:Nat} {xs:List Value} (h:bF w0 wr hb T c cs v n xs) {Q:Nat} (hQ:Q<=hb):Below Q w0 wr:=by
 have:=h.old;exact ⟨h.chg.os,h.chg.tape,h.chg.output,h.chg.size,fun k hk=>h.chg.block k (by omega) (by omega)⟩
theorem bF.keep {w0 wr:World} {hb:Nat} {T:TypeId} {c:Nat} {cs:Array Value} {v:Value} {n:Nat} {xs:List Value} (h:bF w0 wr hb T c cs v n xs):∀k,k<w0.heap.size->k≠hb->wr.heap[k]? =w0.heap[k]? :=fun k hk hn=>h.chg.block k hk (by omega)
theorem RG.tail {w:World} {b off:Nat} {e:GE} {es:List GE} (h:RG w (some ⟨b,off,none⟩) (e::es)):RG w (some ⟨b,off+5,none⟩) es:=by
 rcases h with h|⟨b',off',e1,hc⟩
 ·cases h
 cases e1
 refine .inr ⟨b,off+5,rfl,fun k hk=>?_⟩
 have:=hc (k+1) (Nat.succ_lt_succ hk)
 have e2:off+(k+1)*5=off+5+k*5:=by omega
 rw[e2]at this;exact this
theorem nN.tail {w:World} {b off:Nat} {e:GP} {es:List GP} (h:nN w (some ⟨b,off,none⟩) (e::es)):nN w (some ⟨b,off+3,none⟩) es:=by
 rcases h with h|⟨b',off',e1,hc⟩
 ·cases h
 cases e1
 refine .inr ⟨b,off+3,rfl,fun k hk=>?_⟩
 have:=hc (k+1) (Nat.succ_lt_succ hk)
 have e2:off+(k+1)*3=off+3+k*3:=by omega
 rw[e2]at this;exact this
theorem IP {B n c cap:Nat} {w:World} {T:TypeId} {a:Option Addr} {xs:List Value} (h:w.ownsRow B T c (.slice a n cap) n xs):n<=cap:=by
 rcases h.2 with ⟨hv,hn⟩|⟨g,cap',cur,hv,hg,hh,hc,-⟩
 ·omega
 cases hv;exact hc
end Go.Proofs.YtdcjdnkdeamigaaGreatDoor
namespace Go.Proofs.YtdcjdnkdeamigaaGreatDoor
open Go.RowKit
def gSN (second:List UInt8) (es:List GE):GG:=⟨[103],[⟨[97],2,[2]⟩,⟨second,8,[]⟩],es,[⟨[120],0,0⟩],[⟨[121],1,0⟩]⟩
def eSN (f:Int) (start:List Int):GE:=⟨f,0,1,0,start⟩
end Go.Proofs.YtdcjdnkdeamigaaGreatDoor
namespace Go.Proofs.YtdcjdnkdeamigaaGreatDoor
open Go.ChangeShapes Go.WideShapes Go.ChangeAt Go.RowKit
structure jV (S : TypeId) (w0 wr : World) (hb : Nat) (T : TypeId) (c : Nat) (cs : Array Value) (v : Value) (n : Nat) (xs : List Value) : Prop where
 blk:zD S hb wr cs
 row:wr.ownsRow w0.heap.size T c v n xs
 old:hb<w0.heap.size
 chg:wL (fun k=>k=hb\/w0.heap.size<=k) w0 wr
theorem jV.far {S:TypeId} {w0 wr:World} {hb:Nat} {T:TypeId} {c:Nat} {cs:Array Value} {v:Value} {n:Nat} {xs:List Value} (h:jV S w0 wr hb T c cs v n xs):v.ownBlock≠some hb:=fun e=>by
 have:=zQ h.row _ e;have:=h.old;omega
theorem jV.nil {S:TypeId} {w0:World} {hb:Nat} (T:TypeId) (c:Nat) {cs:Array Value} (h:zD S hb w0 cs):jV S w0 w0 hb T c cs (qN) 0 []:=
 ⟨h,World.ownsRow_nil _ _ _ _,h.lt,wL.of_below (Below.refl _ _)⟩
theorem jV.step {S:TypeId} {w0 V u:World} {hb:Nat} {T:TypeId} {c f:Nat} {cs:Array Value} {v:Value} {n:Nat} {xs e:List Value} (h:jV S w0 V hb T c cs v n xs) (ap:RF (fun _ es=>es=e) V w0.heap.size T c v n xs S hb f cs u):∃g k,jV S w0 u hb T c (cs.setIfInBounds f (.slice (some ⟨g,0,none⟩) (n+1) k)) (.slice (some ⟨g,0,none⟩) (n+1) k) (n+1) (xs++e):=by
 obtain ⟨es,w1,u1,z,hD,hbut,hblk⟩:=ap;obtain ⟨g,cap,rfl⟩:=hD.shape;have e1:es=e:=hD.el;subst e1;have hgB:w0.heap.size<=g:=zQ hD.own g rfl;have hold:=h.old;refine ⟨g,cap,hblk,zT hD.own (fun k hk=>hbut.block k (zI hD.own k hk) (by have:=zQ hD.own k hk;omega)),h.old,?_⟩
 have c1:=h.chg.trans hD.chg (fun k hk=>.inr (zQ h.row k hk));exact c1.trans (F':=fun k=>k=hb) ⟨hbut.os,hbut.tape,hbut.output,hbut.size,fun k hk hn=>hbut.block k hk hn⟩ (fun k hk=>.inl (.inl hk))
theorem jV.bel {S:TypeId} {w0 wr:World} {hb:Nat} {T:TypeId} {c:Nat} {cs:Array Value} {v:Value} {n:Nat} {xs:List Value} (h:jV S w0 wr hb T c cs v n xs) {Q:Nat} (hQ:Q<=hb):Below Q w0 wr:=by
 have:=h.old;exact ⟨h.chg.os,h.chg.tape,h.chg.output,h.chg.size,fun k hk=>h.chg.block k (by omega) (by omega)⟩
theorem jV.keep {S:TypeId} {w0 wr:World} {hb:Nat} {T:TypeId} {c:Nat} {cs:Array Value} {v:Value} {n:Nat} {xs:List Value} (h:jV S w0 wr hb T c cs v n xs):∀k,k<w0.heap.size->k≠hb->wr.heap[k]? =w0.heap[k]? :=fun k hk hn=>h.chg.block k hk (by omega)
structure DA (b : Nat) (nm : ByteArray) (w : World) : Prop where
 i2:zD 3 (b+1) w #[.int .i64 2]
 ac:zD 62 (b+2) w #[.string ⟨#[97]⟩,.int .u8 2,.slice (some ⟨b+1,0,none⟩) 1 1,.string nm,.int .u8 8,qN]
 pi:zD 81 (b+5) w #[.string ⟨#[120]⟩,.int .i64 0,.int .i64 0]
 po:zD 81 (b+6) w #[.string ⟨#[121]⟩,.int .i64 1,.int .i64 0]
theorem DA.keep {b:Nat} {nm:ByteArray} {w w':World} (h:DA b nm w) (hk:∀k,k=b+1\/k=b+2\/k=b+5\/k=b+6->k<w.heap.size->w'.heap[k]? =w.heap[k]?):DA b nm w':=
 ⟨h.i2.keep (hk _ (by omega) h.i2.lt),h.ac.keep (hk _ (by omega) h.ac.lt),h.pi.keep (hk _ (by omega) h.pi.lt),h.po.keep (hk _ (by omega) h.po.lt)⟩
theorem MA.x {b:Nat} {tp:Int} {w:World} (h:MA b tp w):DA b ⟨#[98]⟩ w:=⟨h.i2,h.ac,h.pi,h.po⟩
theorem MA.but {b gb:Nat} {tp:Int} {w w':World} (h:MA b tp w) (hB:tD gb w w') (hg:gb<b):MA b tp w':=
 ⟨h.i2.keep (hB.block _ h.i2.lt (by omega)),h.ac.keep (hB.block _ h.ac.lt (by omega)),h.i7.keep (hB.block _ h.i7.lt (by omega)),h.ed.keep (hB.block _ h.ed.lt (by omega)),h.pi.keep (hB.block _ h.pi.lt (by omega)),h.po.keep (hB.block _ h.po.lt (by omega))⟩
theorem DA.gr {b:Nat} {nm:List UInt8} {w:World} (h:DA b (zW nm) w) {x:Option Addr} {es:List GE} (hE:RG w x es) (hl:es.length<=10):UH w (some ⟨b+2,0,none⟩) x (some ⟨b+5,0,none⟩) (some ⟨b+6,0,none⟩) (gSN nm es):=by
 refine ⟨.inr ⟨b+2,0,rfl,fun k hk=>?_⟩,hE,.inr ⟨b+5,0,rfl,fun k hk=>?_⟩,.inr ⟨b+6,0,rfl,fun k hk=>?_⟩,by show 2<=1000000000000000;decide,by show es.length<=1000000000000000;omega,by show 1<=1000000000000000;decide,by show 1<=1000000000000000;decide⟩
 ·match k,hk with
  |0,_=>exact ⟨h.ac.cell (k:=0) rfl,h.ac.cell (k:=1) rfl,by show 2<=255;decide,_,_,h.ac.cell (k:=2) rfl,WU h.i2 (by decide)⟩
  |1,_=>exact ⟨h.ac.cell (k:=3) rfl,h.ac.cell (k:=4) rfl,by show 8<=255;decide,_,_,h.ac.cell (k:=5) rfl,QK⟩
  |k+2,hk=>exact absurd hk (by show ¬k+2<2;omega)
 ·match k,hk with
  |0,_=>exact ⟨h.pi.cell (k:=0) rfl,h.pi.cell (k:=1) rfl,h.pi.cell (k:=2) rfl⟩
  |k+1,hk=>exact absurd hk (by show ¬k+1<1;omega)
 match k,hk with
 |0,_=>exact ⟨h.po.cell (k:=0) rfl,h.po.cell (k:=1) rfl,h.po.cell (k:=2) rfl⟩
 |k+1,hk=>exact absurd hk (by show ¬k+1<1;omega)
theorem DS {w:World} {g:Nat} {f:Int} {d:Option Addr} {k:Nat} {st:List Int} (h:zD 65 g w #[.int .i64 f,.int .i64 0,.int .i64 1,.int .i64 0,.slice d st.length k]) (ha:YF w d st.length k st):RG w (some ⟨g,0,none⟩) [eSN f st]:=
 .inr ⟨g,0,rfl,fun i hi=>by
  match i,hi with
  |0,_=>exact ⟨h.cell (k:=0) rfl,h.cell (k:=1) rfl,h.cell (k:=2) rfl,h.cell (k:=3) rfl,_,_,h.cell (k:=4) rfl,ha⟩
  |i+1,hi=>exact absurd hi (by show ¬i+1<1;omega)⟩
theorem jV.later {S:TypeId} {w0 wr w':World} {hb:Nat} {T:TypeId} {c:Nat} {cs:Array Value} {v:Value} {n:Nat} {xs:List Value} (h:jV S w0 wr hb T c cs v n xs) (hb':Below wr.heap.size wr w'):jV S w0 w' hb T c cs v n xs:=
 ⟨h.blk.below hb',yY h.row hb',h.old,h.chg.trans (F':=fun k=>k=hb\/w0.heap.size<=k) (wL.of_below hb') (fun _ hk=>.inl hk)⟩
structure aE (w wr : World) (b k : Nat) (d : Option Addr) (kk : Nat) : Prop where
 box:zD 65 (b+4) wr #[.int .i64 0,.int .i64 0,.int .i64 1,.int .i64 0,.slice d (k+1) kk]
 row:wr.ownsRow (b+3) 3 1 (.slice d (k+1) kk) (k+1) (((7:Int)::List.replicate k 1).map (Value.int .i64))
 sx:DA b ⟨#[98]⟩ wr
 gx:zD 26 w.heap.size wr #[.string ⟨#[103]⟩,.slice (some ⟨b+2,0,none⟩) 2 2,.slice (some ⟨b+4,0,none⟩) 1 1,.slice (some ⟨b+5,0,none⟩) 1 1,.slice (some ⟨b+6,0,none⟩) 1 1]
 low:w.heap.size<b
 bel:Below w.heap.size w wr
theorem aE.far {w wr:World} {b k:Nat} {d:Option Addr} {kk:Nat} (h:aE w wr b k d kk):(.slice d (k+1) kk:Value).ownBlock≠some (b+4):=fun e=>kT h.row h.box (by decide) _ e rfl
theorem IO (k:Nat):((7:Int)::List.replicate (k+1) 1).map (Value.int .i64)=((7:Int)::List.replicate k 1).map (Value.int .i64)++[.int .i64 1]:=by
 rw[List.replicate_succ',<-List.cons_append,List.map_append];rfl
theorem aE.step {w V u:World} {b k:Nat} {d:Option Addr} {kk:Nat} (h:aE w V b k d kk) (ap:RF (fun _ es=>es=[.int .i64 1]) V (b+3) 3 1 (.slice d (k+1) kk) (k+1) (((7:Int)::List.replicate k 1).map (Value.int .i64)) 65 (b+4) 4 #[.int .i64 0,.int .i64 0,.int .i64 1,.int .i64 0,.slice d (k+1) kk] u):∃d' kk',aE w u b (k+1) d' kk':=by
 obtain ⟨es,w1,u1,z,hD,hbut,hblk⟩:=ap;obtain ⟨g,cap,rfl⟩:=hD.shape;have e1:es=[.int .i64 1]:=hD.el;subst e1;have hlow:=h.low;have hb1:zD 65 (b+4) u1 _:=h.box.keep (hD.chg.block _ h.box.lt h.far)
 have kp:∀j,j<V.heap.size->(.slice d (k+1) kk:Value).ownBlock≠some j->j≠b+4->u.heap[j]? =V.heap[j]? :=fun j hj hn h4=>(hbut.block j (Nat.lt_of_lt_of_le hj hD.chg.size) h4).trans (hD.chg.block j hj hn)
 have no:∀j,j<b+3->(.slice d (k+1) kk:Value).ownBlock≠some j:=fun j hj e=>by have:=zQ h.row j e;omega
 refine ⟨some ⟨g,0,none⟩,cap,hblk,?_,?_,?_,h.low,?_⟩
 ·rw [IO]
  exact zT hD.own (fun j hj=>hbut.block j (zI hD.own j hj) (kT hD.own hb1 (by decide) j hj))
 ·refine h.sx.keep fun j hj hl=>kp j hl ?_ (by omega)
  rcases hj with rfl|rfl|rfl|rfl
  ·exact no _ (by omega)
  ·exact no _ (by omega)
  ·exact fun e=>kT h.row h.sx.pi (by decide) _ e rfl
  exact fun e=>kT h.row h.sx.po (by decide) _ e rfl
 ·exact h.gx.keep (kp _ h.gx.lt (no _ (by omega)) (by omega))
 exact h.bel.trans ⟨hbut.os.trans hD.chg.os,hbut.tape.trans hD.chg.tape,hbut.output.trans hD.chg.output,Nat.le_trans hD.chg.size hbut.size,fun j hj=>kp j (Nat.lt_of_lt_of_le hj h.bel.size) (no _ (by omega)) (by omega)⟩
theorem aE.later {w wr w':World} {b k:Nat} {d:Option Addr} {kk:Nat} (h:aE w wr b k d kk) (hb:Below wr.heap.size wr w'):aE w w' b k d kk:=
 ⟨h.box.below hb,yY h.row hb,h.sx.keep (fun j _ hl=>hb.block j hl),h.gx.below hb,h.low,h.bel.trans (hb.mono h.bel.size)⟩
theorem aE.gr {w wr:World} {b k:Nat} {d:Option Addr} {kk:Nat} (h:aE w wr b k d kk) (hk:k<=300):UH wr (some ⟨b+2,0,none⟩) (some ⟨b+4,0,none⟩) (some ⟨b+5,0,none⟩) (some ⟨b+6,0,none⟩) (gSN [98] [eSN 0 (7::List.replicate k 1)]):=by
 have hl:((7:Int)::List.replicate k 1).length=k+1:=by simp
 have hcap:=IP h.row;refine DA.gr (nm:=[98]) h.sx (DS (d:=d) (k:=kk) (by rw[hl];exact h.box) ?_) (by simp)
 rw[hl];refine ⟨hl,by omega,fun e=>?_,fun i=>?_,?_,hcap⟩
 ·subst e
  rcases h.row.2 with ⟨hv,hn⟩|⟨g,c,cur,hv,-⟩
  ·omega
  cases hv
 ·unfold wF
  rw[List.getD_eq_getElem?_getD]
  by_cases hi:i<((7:Int)::List.replicate k 1).length
  ·rw [List.getElem?_eq_getElem hi]
   have hm:=List.getElem_mem hi;simp only[Option.getD_some]
   rcases List.mem_cons.1 hm with e|e
   ·rw [e];decide
   rw[(List.mem_replicate.1 e).2];decide
  rw[List.getElem?_eq_none (by omega)];decide
 have q:xM (b+3) wr d kk ((7:Int)::List.replicate k 1):=by unfold xM;rw[hl];exact h.row
 exact q.at
theorem zD.grown {T n w w' cs} {row:Option Nat} (h:zD T n w cs) (hg:w.grownBy w' row) (hn:some n≠row):zD T n w' cs:=(hg.block n h.lt hn).trans h
theorem zD.other {T n w cs} (h:zD T n w cs) {m k:Nat} (hn:n≠m) (u:Value):zD T n (w.setCell ⟨m,k,none⟩ u) cs:=(Below.heap_setCell w _ _ n hn).trans h
structure LSk (w : World) (nm : List UInt8) (a : Option Addr) (n c : Nat) (L : List (wJ × Value)) (k : Nat) (v : Value) (M : List (wJ × Value)) (wr : World) : Prop where
 b1:zD 52 w.heap.size wr #[.string (zW nm),.slice a n c]
 b2:zD 52 (w.heap.size+1) wr #[qE,qN]
 b3:zD 52 (w.heap.size+2) wr #[.string (zW nm),v]
 its:iY (w.heap.size+3) wr v M
 same:M.map Prod.fst=(L.take k).map Prod.fst
 len:M.length=k
 bel:Below w.heap.size w wr
 big:w.heap.size+3<=wr.heap.size
theorem LSk.put {w nm a n c L k v M wr} {L2:List (wJ × Value)} (h:LSk w nm a n c L k v M wr) {w2 w4:World} {x:wJ} {q v':Value} {m:Nat} {M':List (wJ × Value)} {k':Nat} (hb:Below wr.heap.size wr w2) (hq:wU m w2 q x.nums) (hm:wr.heap.size<=m)
 (ho:w4.ownsRow (w.heap.size+3) 103 11 v' (M.length+1) (M.flatMap lW++lW (x,q)))
 (ht:(∃ g cap,v=.slice (some ⟨g,0,none⟩) M.length cap/\v'=.slice (some ⟨g,0,none⟩) (M.length+1) cap/\w2.grownBy w4 (some g))\/(∃ cap,v'=.slice (some ⟨w2.heap.size,0,none⟩) (M.length+1) cap/\w2.grownBy w4 none))
 (hM:M'=M++[(x,q)]) (hs:M'.map Prod.fst=(L2.take k').map Prod.fst) (hk:M'.length=k'):LSk w nm a n c L2 k' v' M' (w4.setCell ⟨w.heap.size+2,1,none⟩ v'):=by
 subst hM;have hbig:=h.big;have hsz:=hb.size;have i1:=h.its.below hb
 have i2:=i1.app hq (fun k hk=>by
  rcases hk with hk|⟨p,hp,hk⟩
  ·have:=zI h.its.row k hk;omega
  have:=zI (h.its.nums p hp) k hk;omega) (by omega) ho ht
 have hg:∃row,w2.grownBy w4 row/\∀k,row=some k->w.heap.size+3<=k:=by
  rcases ht with ⟨g,cap,e,-,hg⟩|⟨cap,-,hg⟩
  ·refine ⟨_,hg,fun k hk=>?_⟩
   cases hk
   exact zQ h.its.row g (by rw[e];rfl)
  exact ⟨_,hg,fun k hk=>by cases hk⟩
 obtain ⟨row,hg,hrow⟩:=hg
 have ne:∀d,d<w.heap.size+3->some d≠row:=fun d hd e=>by have:=hrow d e.symm;omega
 have b3:=((h.b3.below hb).grown hg (ne _ (by omega))).set 1 v';refine ⟨((h.b1.below hb).grown hg (ne _ (by omega))).other (by omega) _,((h.b2.below hb).grown hg (ne _ (by omega))).other (by omega) _,b3,i2.put (by omega),hs,hk,?_,?_⟩
 ·have h1:Below w.heap.size w w2:=h.bel.trans (hb.mono h.bel.size)
  exact (yT h1 hg (fun k hk=>by have:=hrow k hk;omega) h1.size).setCell (p:=⟨w.heap.size+2,1,none⟩) (by show w.heap.size<=w.heap.size+2;omega) _
 have:=hg.size;simp;omega
theorem At.block8 {w w':World} {a:Option Addr} {zs:List Int} (h:At w a zs) (hb:∀x,a=some x->w'.heap[x.block]? =w.heap[x.block]?):At w' a zs:=by
 rcases h with h|⟨b,off,rfl,hc⟩
 ·exact .inl h
 refine .inr ⟨b,off,rfl,fun k hk=>?_⟩
 rw[World.cell?_of_block (w:=w) (w':=w') (a:=⟨b,off+k,none⟩) (hb ⟨b,off,none⟩ rfl)];exact hc k hk
def LM (B:Nat) (wr:World) (M:List (wJ × Value)):Prop:=∀p ∈ M,∃g,B<=g/\g<wr.heap.size/\p.2=.slice (some ⟨g,0,none⟩) p.1.nums.length (p.1.nums.length+4)/\At wr (some ⟨g,0,none⟩) (p.1.nums++[-7770777,-7770777,-7770777,-7770777])
theorem LM.set {B:Nat} {wr:World} {M:List (wJ × Value)} (h:LM B wr M) {b:Nat} (hb:b<B) (k:Nat) (u:Value):LM B (wr.setCell ⟨b,k,none⟩ u) M:=fun p hp=>by
 obtain ⟨g,h1,h2,h3,h4⟩:=h p hp;exact ⟨g,h1,by rw[World.size_setCell];exact h2,h3,h4.block8 fun x hx=>by cases hx;exact Below.heap_setCell _ _ _ _ (by show g≠b;omega)⟩
theorem LM.below {B:Nat} {w w':World} {M:List (wJ × Value)} (h:LM B w M) (hb:Below w.heap.size w w'):LM B w' M:=fun p hp=>by
 obtain ⟨g,h1,h2,h3,h4⟩:=h p hp;exact ⟨g,h1,Nat.lt_of_lt_of_le h2 hb.size,h3,h4.below hb⟩
theorem LM.go {w nm a n c L k v M wr} (h:LSk w nm a n c L k v M wr) (hm:LM (w.heap.size+3) wr M) {w2 w4:World} {v':Value} (hb:Below wr.heap.size wr w2)
 (ht:(∃ g cap,v=.slice (some ⟨g,0,none⟩) M.length cap/\v'=.slice (some ⟨g,0,none⟩) (M.length+1) cap/\w2.grownBy w4 (some g))\/(∃ cap,v'=.slice (some ⟨w2.heap.size,0,none⟩) (M.length+1) cap/\w2.grownBy w4 none)):LM (w.heap.size+3) (w4.setCell ⟨w.heap.size+2,1,none⟩ v') M:=by
 refine LM.set (fun p hp=>?_) (by omega) _ _
 obtain ⟨g,h1,h2,h3,h4⟩:=(hm.below hb) p hp;have hoff:=h.its.off p hp g (by rw[h3];rfl)
 have key:w4.heap[g]? =w2.heap[g]? /\w2.heap.size<=w4.heap.size:=by
  rcases ht with ⟨g',cap,e,-,hg⟩|⟨cap,-,hg⟩
  ·exact ⟨hg.block g h2 (fun e2=>hoff (by rw[e];exact e2.symm)),hg.size⟩
  exact ⟨hg.block g h2 (fun e2=>by cases e2),hg.size⟩
 exact ⟨g,h1,Nat.lt_of_lt_of_le h2 key.2,h3,h4.block8 fun x hx=>by cases hx;exact key.1⟩
theorem LM.put {w nm a n c L k v M wr} (h:LSk w nm a n c L k v M wr) (hm:LM (w.heap.size+3) wr M) {w2 w4:World} {x:wJ} {g:Nat} {v':Value} (hb:Below wr.heap.size wr w2) (hg:wr.heap.size<=g) (hlt:g<w2.heap.size) (hat:At w2 (some ⟨g,0,none⟩) (x.nums++[-7770777,-7770777,-7770777,-7770777]))
 (ht:(∃ g cap,v=.slice (some ⟨g,0,none⟩) M.length cap/\v'=.slice (some ⟨g,0,none⟩) (M.length+1) cap/\w2.grownBy w4 (some g))\/(∃ cap,v'=.slice (some ⟨w2.heap.size,0,none⟩) (M.length+1) cap/\w2.grownBy w4 none)):LM (w.heap.size+3) (w4.setCell ⟨w.heap.size+2,1,none⟩ v') (M++[(x,.slice (some ⟨g,0,none⟩) x.nums.length (x.nums.length+4))]):=by
 intro p hp
 rcases List.mem_append.1 hp with hp|hp
 ·exact LM.go h hm hb ht p hp
 rw[List.mem_singleton]at hp;subst hp;have hbig:=h.big
 have key:w4.heap[g]? =w2.heap[g]? /\w2.heap.size<=w4.heap.size:=by
  rcases ht with ⟨g',cap,e,-,hgg⟩|⟨cap,-,hgg⟩
  ·exact ⟨hgg.block g hlt (fun e2=>by
    have h1:=zI h.its.row g' (by rw[e];rfl);have h2:=Option.some.inj e2
    omega),hgg.size⟩
  exact ⟨hgg.block g hlt (fun e2=>by cases e2),hgg.size⟩
 exact ⟨g,by omega,by rw[World.size_setCell];exact Nat.lt_of_lt_of_le hlt key.2,rfl,(hat.block8 fun y hy=>by cases hy;exact key.1).block8 fun y hy=>by cases hy;exact Below.heap_setCell _ _ _ _ (by show g≠w.heap.size+2;omega)⟩
def BQ (B:Nat) (T:TypeId) (cs:Array Value) (u:World) (v:Value):Prop:=∃xb,v=(qP xb)/\B<=xb/\zD T xb u cs
theorem BQ.later {B:Nat} {T:TypeId} {cs:Array Value} {u u':World} {v:Value} (h:BQ B T cs u v) (hb:Below u.heap.size u u'):BQ B T cs u' v:=by
 obtain ⟨xb,h1,h2,h3⟩:=h;exact ⟨xb,h1,h2,h3.below hb⟩
theorem jV.ints {S:TypeId} {w0 V u:World} {hb:Nat} {c f:Nat} {cs:Array Value} {v:Value} {n:Nat} {xs e:List Value} (h:jV S w0 V hb 103 c cs v n xs) (ap:RF (fun _ es=>es=e) V w0.heap.size 103 c v n xs S hb f cs u) {r:Value} {ns:List Int} (hI:wU w0.heap.size V r ns):wU w0.heap.size u r ns:=by
 obtain ⟨es,w1,u1,z,hD,hbut,hblk⟩:=ap;have hold:=h.old
 refine zT hI fun k hk=>?_
 have hlt:=zI hI k hk;have hge:=zQ hI k hk
 have hne:v.ownBlock≠some k:=fun e=>by
  rcases hI.2 with ⟨hv,-⟩|⟨g,cap,cur,hv,hg,hh,-⟩
  ·rw [hv]at hk;cases hk
  rw[hv]at hk
  cases hk
  exact kT h.row (hb:=g) (S:=3) (cs:=cur) hh (by decide) g e rfl
 exact (hbut.block k (Nat.lt_of_lt_of_le hlt hD.chg.size) (by omega)).trans (hD.chg.block k hlt hne)
end Go.Proofs.YtdcjdnkdeamigaaGreatDoor
