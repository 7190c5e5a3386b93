/- Texts of one chain. -/
import Derived.Test.YtdcjdnkdeamigaaGreatDoorPartQ
import Derived.Test.YtdcjdnkdeamigaaGreatDoorPartSourceWhere33
import Derived.Test.YtdcjdnkdeamigaaGreatDoorPartSourceWhere4
import Derived.Deep.Cut
import Derived.Test.YtdcjdnkdeamigaaGreatDoorPartSourceWhere34
import Derived.Test.YtdcjdnkdeamigaaGreatDoorPartSourceWhere36
import Derived.Laws.AppendOwnNone
import Derived.Test.YtdcjdnkdeamigaaGreatDoorPartSourceWhere35
namespace Go.Proofs.YtdcjdnkdeamigaaGreatDoor
open Go.ChangeShapes Go.WideShapes Go.ChangeAt Go.RowKit
def dNm (g:GG):List UInt8:=if (yD g).code=0 then g.name else []
def TH (g:GG):List wJ:=if (yD g).code=0 then eJ g else []
theorem TT {g:GG} {w w':World} {e:Ending} (h:pS g w e w') {n:Nat} (hn:(TH g).length=n) {nm:List UInt8} (hd:dNm g=nm) {cd:Int} (hc:(yD g).code=cd):
 ∃a c M,e=.returned (.tuple #[.agg #[.string (zW nm),.slice a n c],.int .i64 cd])/\M.map Prod.fst=TH g/\M.length=n/\iY w.heap.size w' (.slice a n c) M/\Below w.heap.size w w':=by
 subst hn hd hc;unfold pS at h
 by_cases h0:(yD g).code=0
 ·rw [if_pos h0]at h
  obtain ⟨a,c,M,rfl,hm,hi,hb⟩:=h
  have e1:M.map Prod.fst=TH g:=by rw[hm];unfold TH;rw[if_pos h0]
  have e2:M.length=(TH g).length:=by rw[<- e1,List.length_map]
  exact ⟨a,c,M,by rw[h0,<-e2];unfold dNm;rw[if_pos h0],e1,e2,by rw[<- e2];exact hi,hb⟩
 rw[if_neg h0]at h;obtain ⟨rfl,hb⟩:=h
 have e1:TH g=[]:=by unfold TH;rw[if_neg h0]
 have e2:dNm g=[]:=by unfold dNm;rw[if_neg h0]
 exact ⟨none,0,[],by rw[e1,e2];rfl,by rw[e1];rfl,by rw[e1];rfl,by rw[e1];exact PK _ _,hb⟩
theorem DP (g:GG):(TH g).length<=160:=by
 unfold TH
 by_cases h0:(yD g).code=0
 ·rw [if_pos h0]
  have:=mO ((nL g).1 h0).head;unfold eJ;simp only[List.length_append,List.length_map];omega
 rw[if_neg h0];simp
theorem fK.at {B w wr g n cap ys b} (h:fK B w wr b (.slice (some ⟨g,0,none⟩) n cap) ys) (k:Nat) (hk:k<ys.length):oY wr g (k*11) (sD ys k):=h.own.cellsAt k hk
structure LO (w : World) (B : Nat) (gv : Array Value) (v1 v2 v3 v4 : Value) (n1 n2 n3 n4 : Nat) (X1 X2 X3 X4 : List Value) (wr : World) : Prop where
 gb:zD 26 w.heap.size wr gv
 r1:wr.ownsRow B 62 3 v1 n1 X1
 r2:wr.ownsRow B 65 5 v2 n2 X2
 r3:wr.ownsRow B 81 3 v3 n3 X3
 r4:wr.ownsRow B 81 3 v4 n4 X4
 n34:NB v3 v4
 fr:∀k,k<w.heap.size->v1.ownBlock≠some k->v2.ownBlock≠some k->v3.ownBlock≠some k->v4.ownBlock≠some k->wr.heap[k]? =w.heap[k]?
 bel:Below B w wr
 lo:∀k,(v1.ownBlock=some k\/v2.ownBlock=some k\/v3.ownBlock=some k\/v4.ownBlock=some k)->k<w.heap.size
 hB:B<=w.heap.size
theorem LO.put1 {w B gv v1 v2 v3 v4 n1 n2 n3 n4 X1 X2 X3 X4} {wr wr':World} (h:LO w B gv v1 v2 v3 v4 n1 n2 n3 n4 X1 X2 X3 X4 wr) {g:Nat} (hv:v1.ownBlock=some g) {X':List Value} (ho:wr'.ownsRow B 62 3 v1 n1 X') (hg:wr.grownBy wr' (some g)):LO w B gv v1 v2 v3 v4 n1 n2 n3 n4 X' X2 X3 X4 wr':=by
 have hgl:=h.lo g (.inl hv);have hs:=h.bel.size;have hBg:=zQ h.r1 g hv;refine ⟨h.gb.keep (hg.block _ h.gb.lt (fun q=>by cases q;omega)),ho,(zT h.r2 fun k e=>hg.block k (zI h.r2 k e) (fun q=>(yV h.r1 h.r2 (by decide)) k (by rw[hv];exact q.symm) e)),(zT h.r3 fun k e=>hg.block k (zI h.r3 k e) (fun q=>(yV h.r1 h.r3 (by decide)) k (by rw[hv];exact q.symm) e)),(zT h.r4 fun k e=>hg.block k (zI h.r4 k e) (fun q=>(yV h.r1 h.r4 (by decide)) k (by rw[hv];exact q.symm) e)),h.n34,fun k hk q1 q2 q3 q4=>(hg.block k (by omega) (fun q=>q1 (by rw[hv];exact q.symm))).trans (h.fr k hk q1 q2 q3 q4),yT h.bel hg (fun k hk=>by cases hk;exact hBg) (Nat.le_trans h.hB hs),h.lo,h.hB⟩
theorem LO.put2 {w B gv v1 v2 v3 v4 n1 n2 n3 n4 X1 X2 X3 X4} {wr wr':World} (h:LO w B gv v1 v2 v3 v4 n1 n2 n3 n4 X1 X2 X3 X4 wr) {g:Nat} (hv:v2.ownBlock=some g) {X':List Value} (ho:wr'.ownsRow B 65 5 v2 n2 X') (hg:wr.grownBy wr' (some g)):LO w B gv v1 v2 v3 v4 n1 n2 n3 n4 X1 X' X3 X4 wr':=by
 have hgl:=h.lo g (.inr (.inl hv));have hs:=h.bel.size;have hBg:=zQ h.r2 g hv;refine ⟨h.gb.keep (hg.block _ h.gb.lt (fun q=>by cases q;omega)),(zT h.r1 fun k e=>hg.block k (zI h.r1 k e) (fun q=>(yV h.r2 h.r1 (by decide)) k (by rw[hv];exact q.symm) e)),ho,(zT h.r3 fun k e=>hg.block k (zI h.r3 k e) (fun q=>(yV h.r2 h.r3 (by decide)) k (by rw[hv];exact q.symm) e)),(zT h.r4 fun k e=>hg.block k (zI h.r4 k e) (fun q=>(yV h.r2 h.r4 (by decide)) k (by rw[hv];exact q.symm) e)),h.n34,fun k hk q1 q2 q3 q4=>(hg.block k (by omega) (fun q=>q2 (by rw[hv];exact q.symm))).trans (h.fr k hk q1 q2 q3 q4),yT h.bel hg (fun k hk=>by cases hk;exact hBg) (Nat.le_trans h.hB hs),h.lo,h.hB⟩
theorem LO.put3 {w B gv v1 v2 v3 v4 n1 n2 n3 n4 X1 X2 X3 X4} {wr wr':World} (h:LO w B gv v1 v2 v3 v4 n1 n2 n3 n4 X1 X2 X3 X4 wr) {g:Nat} (hv:v3.ownBlock=some g) {X':List Value} (ho:wr'.ownsRow B 81 3 v3 n3 X') (hg:wr.grownBy wr' (some g)):LO w B gv v1 v2 v3 v4 n1 n2 n3 n4 X1 X2 X' X4 wr':=by
 have hgl:=h.lo g (.inr (.inr (.inl hv)));have hs:=h.bel.size;have hBg:=zQ h.r3 g hv;refine ⟨h.gb.keep (hg.block _ h.gb.lt (fun q=>by cases q;omega)),(zT h.r1 fun k e=>hg.block k (zI h.r1 k e) (fun q=>(yV h.r3 h.r1 (by decide)) k (by rw[hv];exact q.symm) e)),(zT h.r2 fun k e=>hg.block k (zI h.r2 k e) (fun q=>(yV h.r3 h.r2 (by decide)) k (by rw[hv];exact q.symm) e)),ho,(zT h.r4 fun k e=>hg.block k (zI h.r4 k e) (fun q=>h.n34 k (by rw[hv];exact q.symm) e)),h.n34,fun k hk q1 q2 q3 q4=>(hg.block k (by omega) (fun q=>q3 (by rw[hv];exact q.symm))).trans (h.fr k hk q1 q2 q3 q4),yT h.bel hg (fun k hk=>by cases hk;exact hBg) (Nat.le_trans h.hB hs),h.lo,h.hB⟩
theorem LO.put4 {w B gv v1 v2 v3 v4 n1 n2 n3 n4 X1 X2 X3 X4} {wr wr':World} (h:LO w B gv v1 v2 v3 v4 n1 n2 n3 n4 X1 X2 X3 X4 wr) {g:Nat} (hv:v4.ownBlock=some g) {X':List Value} (ho:wr'.ownsRow B 81 3 v4 n4 X') (hg:wr.grownBy wr' (some g)):LO w B gv v1 v2 v3 v4 n1 n2 n3 n4 X1 X2 X3 X' wr':=by
 have hgl:=h.lo g (.inr (.inr (.inr hv)));have hs:=h.bel.size;have hBg:=zQ h.r4 g hv;refine ⟨h.gb.keep (hg.block _ h.gb.lt (fun q=>by cases q;omega)),(zT h.r1 fun k e=>hg.block k (zI h.r1 k e) (fun q=>(yV h.r4 h.r1 (by decide)) k (by rw[hv];exact q.symm) e)),(zT h.r2 fun k e=>hg.block k (zI h.r2 k e) (fun q=>(yV h.r4 h.r2 (by decide)) k (by rw[hv];exact q.symm) e)),(zT h.r3 fun k e=>hg.block k (zI h.r3 k e) (fun q=>h.n34.symm k (by rw[hv];exact q.symm) e)),ho,h.n34,fun k hk q1 q2 q3 q4=>(hg.block k (by omega) (fun q=>q4 (by rw[hv];exact q.symm))).trans (h.fr k hk q1 q2 q3 q4),yT h.bel hg (fun k hk=>by cases hk;exact hBg) (Nat.le_trans h.hB hs),h.lo,h.hB⟩
structure GrF (w : World) (B : Nat) (o1 o2 o3 o4 : Value) (O1 O2 O3 O4 : List Value) (v1 v2 v3 v4 : Value) (n1 n2 n3 n4 : Nat) (X1 X2 X3 X4 : List Value) (wr : World) : Prop where
 r1:wr.ownsRow B 62 3 v1 n1 X1
 r2:wr.ownsRow B 65 5 v2 n2 X2
 r3:wr.ownsRow B 81 3 v3 n3 X3
 r4:wr.ownsRow B 81 3 v4 n4 X4
 n34:NB v3 v4
 p1:O1<+:X1
 p2:O2<+:X2
 p3:O3<+:X3
 p4:O4<+:X4
 q1:∀g,o1.ownBlock=some g->∀j,j<O1.length->wr.cell? ⟨g,j,none⟩=O1[j]?
 q2:∀g,o2.ownBlock=some g->∀j,j<O2.length->wr.cell? ⟨g,j,none⟩=O2[j]?
 q3:∀g,o3.ownBlock=some g->∀j,j<O3.length->wr.cell? ⟨g,j,none⟩=O3[j]?
 q4:∀g,o4.ownBlock=some g->∀j,j<O4.length->wr.cell? ⟨g,j,none⟩=O4[j]?
 l1:∀k,v1.ownBlock=some k->o1.ownBlock=some k\/w.heap.size+2<=k
 l2:∀k,v2.ownBlock=some k->o2.ownBlock=some k\/w.heap.size+2<=k
 l3:∀k,v3.ownBlock=some k->o3.ownBlock=some k\/w.heap.size+2<=k
 l4:∀k,v4.ownBlock=some k->o4.ownBlock=some k\/w.heap.size+2<=k
 s1:∀k,o1.ownBlock=some k->k<w.heap.size
 s2:∀k,o2.ownBlock=some k->k<w.heap.size
 s3:∀k,o3.ownBlock=some k->k<w.heap.size
 s4:∀k,o4.ownBlock=some k->k<w.heap.size
 a12:NB o1 o2
 a13:NB o1 o3
 a14:NB o1 o4
 a23:NB o2 o3
 a24:NB o2 o4
 a34:NB o3 o4
 fr:∀k,k<w.heap.size->o1.ownBlock≠some k->o2.ownBlock≠some k->o3.ownBlock≠some k->o4.ownBlock≠some k->wr.heap[k]? =w.heap[k]?
 bel:Below B w wr
 hB:B<=w.heap.size
structure LJ (w : World) (B : Nat) (nv : Value) (o1 o2 o3 o4 : Value) (O1 O2 O3 O4 : List Value) (v1 v2 v3 v4 : Value) (n1 n2 n3 n4 : Nat) (X1 X2 X3 X4 : List Value) (wr : World) : Prop where
 gb:zD 26 w.heap.size wr #[nv,v1,v2,v3,v4]
 rb:zD 26 (w.heap.size+1) wr #[qE,qN,qN,qN,qN]
 f:GrF w B o1 o2 o3 o4 O1 O2 O3 O4 v1 v2 v3 v4 n1 n2 n3 n4 X1 X2 X3 X4 wr
 big:w.heap.size+2<=wr.heap.size
theorem LJ.put1 {w B nv o1 o2 o3 o4 O1 O2 O3 O4 v1 v2 v3 v4 n1 n2 n3 n4 X1 X2 X3 X4} {V:World} (h:LJ w B nv o1 o2 o3 o4 O1 O2 O3 O4 v1 v2 v3 v4 n1 n2 n3 n4 X1 X2 X3 X4 V) {w2 w4:World} {P:List Value} {v':Value} (hb:Below V.heap.size V w2) (ho:w4.ownsRow B 62 3 v' (n1+1) (X1++P))
 (ht:(∃ g cap,v1=.slice (some ⟨g,0,none⟩) n1 cap/\v'=.slice (some ⟨g,0,none⟩) (n1+1) cap/\w2.grownBy w4 (some g))\/(∃ cap,v'=.slice (some ⟨w2.heap.size,0,none⟩) (n1+1) cap/\w2.grownBy w4 none)):
 LJ w B nv o1 o2 o3 o4 O1 O2 O3 O4 v' v2 v3 v4 (n1+1) n2 n3 n4 (X1++P) X2 X3 X4 (w4.setCell ⟨w.heap.size,1,none⟩ v')/\zD 26 w.heap.size w4 #[nv,v1,v2,v3,v4]:=by
 have hbig:=h.big;have hsz:=hb.size;have tk:=vW ht
 have kp:∀d,d<V.heap.size->v1.ownBlock≠some d->w4.heap[d]? =V.heap[d]? :=fun d hd hn=>(tk.2 d (by omega) hn).trans (hb.block d hd)
 have nbox1:∀k,v1.ownBlock=some k->k≠w.heap.size:=fun k e q=>by rcases h.f.l1 k e with z|z;exact absurd (h.f.s1 k z) (by omega);omega
 have nbox2:∀k,v2.ownBlock=some k->k≠w.heap.size:=fun k e q=>by rcases h.f.l2 k e with z|z;exact absurd (h.f.s2 k z) (by omega);omega
 have nbox3:∀k,v3.ownBlock=some k->k≠w.heap.size:=fun k e q=>by rcases h.f.l3 k e with z|z;exact absurd (h.f.s3 k z) (by omega);omega
 have nbox4:∀k,v4.ownBlock=some k->k≠w.heap.size:=fun k e q=>by rcases h.f.l4 k e with z|z;exact absurd (h.f.s4 k z) (by omega);omega
 have nb2:v1.ownBlock≠some (w.heap.size+1):=fun e=>by rcases h.f.l1 _ e with z|z;exact absurd (h.f.s1 _ z) (by omega);omega
 have b3:=h.gb.keep (kp w.heap.size (by omega) (fun e=>nbox1 _ e rfl))
 have set:∀k,k≠w.heap.size->(w4.setCell ⟨w.heap.size,1,none⟩ v').heap[k]? =w4.heap[k]? :=fun k hk=>Below.heap_setCell w4 ⟨w.heap.size,1,none⟩ v' k hk
 have nboxN:∀k,v'.ownBlock=some k->k≠w.heap.size:=fun k e q=>by
  rcases ht with ⟨g,cap,e1,e2,-⟩|⟨cap,e2,-⟩
  ·rw [e2]at e;cases e;exact nbox1 g (by rw[e1];rfl) q
  rw[e2]at e;have e':w2.heap.size=k:=Option.some.inj e;omega
 have rI:(w4.setCell ⟨w.heap.size,1,none⟩ v').ownsRow B 62 3 v' (n1+1) (X1++P):=zT ho fun k e=>set k (nboxN k e)
 have cellSame:∀g,g<w.heap.size->v1.ownBlock≠some g->∀ {j:Nat},(w4.setCell ⟨w.heap.size,1,none⟩ v').cell? ⟨g,j,none⟩=V.cell? ⟨g,j,none⟩:=fun g hg hn j=>by
  have e:(w4.setCell ⟨w.heap.size,1,none⟩ v').heap[g]? =V.heap[g]? :=(set g (by omega)).trans (kp g (by omega) hn);simp only[World.cell?,e]
 have qI:∀g,o1.ownBlock=some g->∀j,j<O1.length->(w4.setCell ⟨w.heap.size,1,none⟩ v').cell? ⟨g,j,none⟩=O1[j]? :=fun g hg j hj=>by
  by_cases hvg:v1.ownBlock=some g
  ·have hgs:=h.f.s1 g hg
   rcases ht with ⟨g',cap,e1,e2,-⟩|⟨cap,e2,hgn⟩
   ·rw [e1]at hvg
    cases hvg
    rw[e2]at rI;have hl:=rI.1;have hpl:=h.f.p1.length_le;have hXl:=h.f.r1.1;have e9:=rI.cellAt j (by rw[Nat.succ_mul];omega);rw[<- e2]at e9;rw[e9,List.getElem?_append_left (by omega)];obtain ⟨z,hz⟩:=h.f.p1;rw[<- hz,List.getElem?_append_left hj]
   have e:(w4.setCell ⟨w.heap.size,1,none⟩ v').heap[g]? =V.heap[g]? :=(set g (by omega)).trans ((hgn.block g (by omega) (fun e=>by cases e)).trans (hb.block g (by omega)))
   have e9:(w4.setCell ⟨w.heap.size,1,none⟩ v').cell? ⟨g,j,none⟩=V.cell? ⟨g,j,none⟩:=by simp only[World.cell?,e]
   rw[e9];exact h.f.q1 g hg j hj
  rw[cellSame g (h.f.s1 g hg) hvg];exact h.f.q1 g hg j hj
 have lI:∀k,v'.ownBlock=some k->o1.ownBlock=some k\/w.heap.size+2<=k:=fun k e=>by
  rcases ht with ⟨g,cap,e1,e2,-⟩|⟨cap,e2,-⟩
  ·rw [e2]at e;cases e;exact h.f.l1 g (by rw[e1];rfl)
  rw[e2]at e;have e':w2.heap.size=k:=Option.some.inj e;exact .inr (by omega)
 have hBw:=h.f.hB;obtain ⟨row,hg,hrow⟩:=wV ht;refine ⟨⟨b3.set 1 v',h.rb.keep ((set _ (by omega)).trans (kp _ (by omega) nb2)),⟨rI,(zT h.f.r2 fun k e=>(set k (nbox2 k e)).trans (kp k (zI h.f.r2 k e) (fun q=>(yV h.f.r1 h.f.r2 (by decide)) k q e))),(zT h.f.r3 fun k e=>(set k (nbox3 k e)).trans (kp k (zI h.f.r3 k e) (fun q=>(yV h.f.r1 h.f.r3 (by decide)) k q e))),(zT h.f.r4 fun k e=>(set k (nbox4 k e)).trans (kp k (zI h.f.r4 k e) (fun q=>(yV h.f.r1 h.f.r4 (by decide)) k q e))),h.f.n34,(h.f.p1.trans (List.prefix_append _ _)),h.f.p2,h.f.p3,h.f.p4,qI,(fun g hg j hj=>by rw[cellSame g (h.f.s2 g hg) (fun e=>by rcases h.f.l1 g e with q|q;exact h.f.a12 g q hg;exact absurd (h.f.s2 g hg) (by omega))];exact h.f.q2 g hg j hj),(fun g hg j hj=>by rw[cellSame g (h.f.s3 g hg) (fun e=>by rcases h.f.l1 g e with q|q;exact h.f.a13 g q hg;exact absurd (h.f.s3 g hg) (by omega))];exact h.f.q3 g hg j hj),(fun g hg j hj=>by rw[cellSame g (h.f.s4 g hg) (fun e=>by rcases h.f.l1 g e with q|q;exact h.f.a14 g q hg;exact absurd (h.f.s4 g hg) (by omega))];exact h.f.q4 g hg j hj),lI,h.f.l2,h.f.l3,h.f.l4,h.f.s1,h.f.s2,h.f.s3,h.f.s4,h.f.a12,h.f.a13,h.f.a14,h.f.a23,h.f.a24,h.f.a34,fun k hk z1 z2 z3 z4=>((set k (by omega)).trans (kp k (by omega) (fun e=>by rcases h.f.l1 k e with q|q;exact z1 q;omega))).trans (h.f.fr k hk z1 z2 z3 z4),?_,hBw⟩,?_⟩,b3⟩
 ·have h1:Below B w w2:=h.f.bel.trans (hb.mono (Nat.le_trans hBw h.f.bel.size))
  exact (yT h1 hg (fun k hk=>zQ h.f.r1 k (hrow k hk)) (Nat.le_trans hBw h1.size)).setCell (p:=⟨w.heap.size,1,none⟩) hBw _
 have:=tk.1;rw[World.size_setCell];omega
theorem LJ.put2 {w B nv o1 o2 o3 o4 O1 O2 O3 O4 v1 v2 v3 v4 n1 n2 n3 n4 X1 X2 X3 X4} {V:World} (h:LJ w B nv o1 o2 o3 o4 O1 O2 O3 O4 v1 v2 v3 v4 n1 n2 n3 n4 X1 X2 X3 X4 V) {w2 w4:World} {P:List Value} {v':Value} (hb:Below V.heap.size V w2) (ho:w4.ownsRow B 65 5 v' (n2+1) (X2++P))
 (ht:(∃ g cap,v2=.slice (some ⟨g,0,none⟩) n2 cap/\v'=.slice (some ⟨g,0,none⟩) (n2+1) cap/\w2.grownBy w4 (some g))\/(∃ cap,v'=.slice (some ⟨w2.heap.size,0,none⟩) (n2+1) cap/\w2.grownBy w4 none)):
 LJ w B nv o1 o2 o3 o4 O1 O2 O3 O4 v1 v' v3 v4 n1 (n2+1) n3 n4 X1 (X2++P) X3 X4 (w4.setCell ⟨w.heap.size,2,none⟩ v')/\zD 26 w.heap.size w4 #[nv,v1,v2,v3,v4]:=by
 have hbig:=h.big;have hsz:=hb.size;have tk:=vW ht
 have kp:∀d,d<V.heap.size->v2.ownBlock≠some d->w4.heap[d]? =V.heap[d]? :=fun d hd hn=>(tk.2 d (by omega) hn).trans (hb.block d hd)
 have nbox1:∀k,v1.ownBlock=some k->k≠w.heap.size:=fun k e q=>by rcases h.f.l1 k e with z|z;exact absurd (h.f.s1 k z) (by omega);omega
 have nbox2:∀k,v2.ownBlock=some k->k≠w.heap.size:=fun k e q=>by rcases h.f.l2 k e with z|z;exact absurd (h.f.s2 k z) (by omega);omega
 have nbox3:∀k,v3.ownBlock=some k->k≠w.heap.size:=fun k e q=>by rcases h.f.l3 k e with z|z;exact absurd (h.f.s3 k z) (by omega);omega
 have nbox4:∀k,v4.ownBlock=some k->k≠w.heap.size:=fun k e q=>by rcases h.f.l4 k e with z|z;exact absurd (h.f.s4 k z) (by omega);omega
 have nb2:v2.ownBlock≠some (w.heap.size+1):=fun e=>by rcases h.f.l2 _ e with z|z;exact absurd (h.f.s2 _ z) (by omega);omega
 have b3:=h.gb.keep (kp w.heap.size (by omega) (fun e=>nbox2 _ e rfl))
 have set:∀k,k≠w.heap.size->(w4.setCell ⟨w.heap.size,2,none⟩ v').heap[k]? =w4.heap[k]? :=fun k hk=>Below.heap_setCell w4 ⟨w.heap.size,2,none⟩ v' k hk
 have nboxN:∀k,v'.ownBlock=some k->k≠w.heap.size:=fun k e q=>by
  rcases ht with ⟨g,cap,e1,e2,-⟩|⟨cap,e2,-⟩
  ·rw [e2]at e;cases e;exact nbox2 g (by rw[e1];rfl) q
  rw[e2]at e;have e':w2.heap.size=k:=Option.some.inj e;omega
 have rI:(w4.setCell ⟨w.heap.size,2,none⟩ v').ownsRow B 65 5 v' (n2+1) (X2++P):=zT ho fun k e=>set k (nboxN k e)
 have cellSame:∀g,g<w.heap.size->v2.ownBlock≠some g->∀ {j:Nat},(w4.setCell ⟨w.heap.size,2,none⟩ v').cell? ⟨g,j,none⟩=V.cell? ⟨g,j,none⟩:=fun g hg hn j=>by
  have e:(w4.setCell ⟨w.heap.size,2,none⟩ v').heap[g]? =V.heap[g]? :=(set g (by omega)).trans (kp g (by omega) hn);simp only[World.cell?,e]
 have qI:∀g,o2.ownBlock=some g->∀j,j<O2.length->(w4.setCell ⟨w.heap.size,2,none⟩ v').cell? ⟨g,j,none⟩=O2[j]? :=fun g hg j hj=>by
  by_cases hvg:v2.ownBlock=some g
  ·have hgs:=h.f.s2 g hg
   rcases ht with ⟨g',cap,e1,e2,-⟩|⟨cap,e2,hgn⟩
   ·rw [e1]at hvg
    cases hvg
    rw[e2]at rI;have hl:=rI.1;have hpl:=h.f.p2.length_le;have hXl:=h.f.r2.1;have e9:=rI.cellAt j (by rw[Nat.succ_mul];omega);rw[<- e2]at e9;rw[e9,List.getElem?_append_left (by omega)];obtain ⟨z,hz⟩:=h.f.p2;rw[<- hz,List.getElem?_append_left hj]
   have e:(w4.setCell ⟨w.heap.size,2,none⟩ v').heap[g]? =V.heap[g]? :=(set g (by omega)).trans ((hgn.block g (by omega) (fun e=>by cases e)).trans (hb.block g (by omega)))
   have e9:(w4.setCell ⟨w.heap.size,2,none⟩ v').cell? ⟨g,j,none⟩=V.cell? ⟨g,j,none⟩:=by simp only[World.cell?,e]
   rw[e9];exact h.f.q2 g hg j hj
  rw[cellSame g (h.f.s2 g hg) hvg];exact h.f.q2 g hg j hj
 have lI:∀k,v'.ownBlock=some k->o2.ownBlock=some k\/w.heap.size+2<=k:=fun k e=>by
  rcases ht with ⟨g,cap,e1,e2,-⟩|⟨cap,e2,-⟩
  ·rw [e2]at e;cases e;exact h.f.l2 g (by rw[e1];rfl)
  rw[e2]at e;have e':w2.heap.size=k:=Option.some.inj e;exact .inr (by omega)
 have hBw:=h.f.hB;obtain ⟨row,hg,hrow⟩:=wV ht;refine ⟨⟨b3.set 2 v',h.rb.keep ((set _ (by omega)).trans (kp _ (by omega) nb2)),⟨(zT h.f.r1 fun k e=>(set k (nbox1 k e)).trans (kp k (zI h.f.r1 k e) (fun q=>(yV h.f.r2 h.f.r1 (by decide)) k q e))),rI,(zT h.f.r3 fun k e=>(set k (nbox3 k e)).trans (kp k (zI h.f.r3 k e) (fun q=>(yV h.f.r2 h.f.r3 (by decide)) k q e))),(zT h.f.r4 fun k e=>(set k (nbox4 k e)).trans (kp k (zI h.f.r4 k e) (fun q=>(yV h.f.r2 h.f.r4 (by decide)) k q e))),h.f.n34,h.f.p1,(h.f.p2.trans (List.prefix_append _ _)),h.f.p3,h.f.p4,(fun g hg j hj=>by rw[cellSame g (h.f.s1 g hg) (fun e=>by rcases h.f.l2 g e with q|q;exact h.f.a12.symm g q hg;exact absurd (h.f.s1 g hg) (by omega))];exact h.f.q1 g hg j hj),qI,(fun g hg j hj=>by rw[cellSame g (h.f.s3 g hg) (fun e=>by rcases h.f.l2 g e with q|q;exact h.f.a23 g q hg;exact absurd (h.f.s3 g hg) (by omega))];exact h.f.q3 g hg j hj),(fun g hg j hj=>by rw[cellSame g (h.f.s4 g hg) (fun e=>by rcases h.f.l2 g e with q|q;exact h.f.a24 g q hg;exact absurd (h.f.s4 g hg) (by omega))];exact h.f.q4 g hg j hj),h.f.l1,lI,h.f.l3,h.f.l4,h.f.s1,h.f.s2,h.f.s3,h.f.s4,h.f.a12,h.f.a13,h.f.a14,h.f.a23,h.f.a24,h.f.a34,fun k hk z1 z2 z3 z4=>((set k (by omega)).trans (kp k (by omega) (fun e=>by rcases h.f.l2 k e with q|q;exact z2 q;omega))).trans (h.f.fr k hk z1 z2 z3 z4),?_,hBw⟩,?_⟩,b3⟩
 ·have h1:Below B w w2:=h.f.bel.trans (hb.mono (Nat.le_trans hBw h.f.bel.size))
  exact (yT h1 hg (fun k hk=>zQ h.f.r2 k (hrow k hk)) (Nat.le_trans hBw h1.size)).setCell (p:=⟨w.heap.size,2,none⟩) hBw _
 have:=tk.1;rw[World.size_setCell];omega
theorem LJ.put3 {w B nv o1 o2 o3 o4 O1 O2 O3 O4 v1 v2 v3 v4 n1 n2 n3 n4 X1 X2 X3 X4} {V:World} (h:LJ w B nv o1 o2 o3 o4 O1 O2 O3 O4 v1 v2 v3 v4 n1 n2 n3 n4 X1 X2 X3 X4 V) {w2 w4:World} {P:List Value} {v':Value} (hb:Below V.heap.size V w2) (ho:w4.ownsRow B 81 3 v' (n3+1) (X3++P))
 (ht:(∃ g cap,v3=.slice (some ⟨g,0,none⟩) n3 cap/\v'=.slice (some ⟨g,0,none⟩) (n3+1) cap/\w2.grownBy w4 (some g))\/(∃ cap,v'=.slice (some ⟨w2.heap.size,0,none⟩) (n3+1) cap/\w2.grownBy w4 none)):
 LJ w B nv o1 o2 o3 o4 O1 O2 O3 O4 v1 v2 v' v4 n1 n2 (n3+1) n4 X1 X2 (X3++P) X4 (w4.setCell ⟨w.heap.size,3,none⟩ v')/\zD 26 w.heap.size w4 #[nv,v1,v2,v3,v4]:=by
 have hbig:=h.big;have hsz:=hb.size;have tk:=vW ht
 have kp:∀d,d<V.heap.size->v3.ownBlock≠some d->w4.heap[d]? =V.heap[d]? :=fun d hd hn=>(tk.2 d (by omega) hn).trans (hb.block d hd)
 have nbox1:∀k,v1.ownBlock=some k->k≠w.heap.size:=fun k e q=>by rcases h.f.l1 k e with z|z;exact absurd (h.f.s1 k z) (by omega);omega
 have nbox2:∀k,v2.ownBlock=some k->k≠w.heap.size:=fun k e q=>by rcases h.f.l2 k e with z|z;exact absurd (h.f.s2 k z) (by omega);omega
 have nbox3:∀k,v3.ownBlock=some k->k≠w.heap.size:=fun k e q=>by rcases h.f.l3 k e with z|z;exact absurd (h.f.s3 k z) (by omega);omega
 have nbox4:∀k,v4.ownBlock=some k->k≠w.heap.size:=fun k e q=>by rcases h.f.l4 k e with z|z;exact absurd (h.f.s4 k z) (by omega);omega
 have nb2:v3.ownBlock≠some (w.heap.size+1):=fun e=>by rcases h.f.l3 _ e with z|z;exact absurd (h.f.s3 _ z) (by omega);omega
 have b3:=h.gb.keep (kp w.heap.size (by omega) (fun e=>nbox3 _ e rfl))
 have set:∀k,k≠w.heap.size->(w4.setCell ⟨w.heap.size,3,none⟩ v').heap[k]? =w4.heap[k]? :=fun k hk=>Below.heap_setCell w4 ⟨w.heap.size,3,none⟩ v' k hk
 have nboxN:∀k,v'.ownBlock=some k->k≠w.heap.size:=fun k e q=>by
  rcases ht with ⟨g,cap,e1,e2,-⟩|⟨cap,e2,-⟩
  ·rw [e2]at e;cases e;exact nbox3 g (by rw[e1];rfl) q
  rw[e2]at e;have e':w2.heap.size=k:=Option.some.inj e;omega
 have rI:(w4.setCell ⟨w.heap.size,3,none⟩ v').ownsRow B 81 3 v' (n3+1) (X3++P):=zT ho fun k e=>set k (nboxN k e)
 have cellSame:∀g,g<w.heap.size->v3.ownBlock≠some g->∀ {j:Nat},(w4.setCell ⟨w.heap.size,3,none⟩ v').cell? ⟨g,j,none⟩=V.cell? ⟨g,j,none⟩:=fun g hg hn j=>by
  have e:(w4.setCell ⟨w.heap.size,3,none⟩ v').heap[g]? =V.heap[g]? :=(set g (by omega)).trans (kp g (by omega) hn);simp only[World.cell?,e]
 have qI:∀g,o3.ownBlock=some g->∀j,j<O3.length->(w4.setCell ⟨w.heap.size,3,none⟩ v').cell? ⟨g,j,none⟩=O3[j]? :=fun g hg j hj=>by
  by_cases hvg:v3.ownBlock=some g
  ·have hgs:=h.f.s3 g hg
   rcases ht with ⟨g',cap,e1,e2,-⟩|⟨cap,e2,hgn⟩
   ·rw [e1]at hvg
    cases hvg
    rw[e2]at rI;have hl:=rI.1;have hpl:=h.f.p3.length_le;have hXl:=h.f.r3.1;have e9:=rI.cellAt j (by rw[Nat.succ_mul];omega);rw[<- e2]at e9;rw[e9,List.getElem?_append_left (by omega)];obtain ⟨z,hz⟩:=h.f.p3;rw[<- hz,List.getElem?_append_left hj]
   have e:(w4.setCell ⟨w.heap.size,3,none⟩ v').heap[g]? =V.heap[g]? :=(set g (by omega)).trans ((hgn.block g (by omega) (fun e=>by cases e)).trans (hb.block g (by omega)))
   have e9:(w4.setCell ⟨w.heap.size,3,none⟩ v').cell? ⟨g,j,none⟩=V.cell? ⟨g,j,none⟩:=by simp only[World.cell?,e]
   rw[e9];exact h.f.q3 g hg j hj
  rw[cellSame g (h.f.s3 g hg) hvg];exact h.f.q3 g hg j hj
 have lI:∀k,v'.ownBlock=some k->o3.ownBlock=some k\/w.heap.size+2<=k:=fun k e=>by
  rcases ht with ⟨g,cap,e1,e2,-⟩|⟨cap,e2,-⟩
  ·rw [e2]at e;cases e;exact h.f.l3 g (by rw[e1];rfl)
  rw[e2]at e;have e':w2.heap.size=k:=Option.some.inj e;exact .inr (by omega)
 have hBw:=h.f.hB;obtain ⟨row,hg,hrow⟩:=wV ht;refine ⟨⟨b3.set 3 v',h.rb.keep ((set _ (by omega)).trans (kp _ (by omega) nb2)),⟨(zT h.f.r1 fun k e=>(set k (nbox1 k e)).trans (kp k (zI h.f.r1 k e) (fun q=>(yV h.f.r3 h.f.r1 (by decide)) k q e))),(zT h.f.r2 fun k e=>(set k (nbox2 k e)).trans (kp k (zI h.f.r2 k e) (fun q=>(yV h.f.r3 h.f.r2 (by decide)) k q e))),rI,(zT h.f.r4 fun k e=>(set k (nbox4 k e)).trans (kp k (zI h.f.r4 k e) (fun q=>h.f.n34 k q e))),(NB.told h.f.n34 (fun k e=>Nat.lt_of_lt_of_le (zI h.f.r4 k e) hsz) ht),h.f.p1,h.f.p2,(h.f.p3.trans (List.prefix_append _ _)),h.f.p4,(fun g hg j hj=>by rw[cellSame g (h.f.s1 g hg) (fun e=>by rcases h.f.l3 g e with q|q;exact h.f.a13.symm g q hg;exact absurd (h.f.s1 g hg) (by omega))];exact h.f.q1 g hg j hj),(fun g hg j hj=>by rw[cellSame g (h.f.s2 g hg) (fun e=>by rcases h.f.l3 g e with q|q;exact h.f.a23.symm g q hg;exact absurd (h.f.s2 g hg) (by omega))];exact h.f.q2 g hg j hj),qI,(fun g hg j hj=>by rw[cellSame g (h.f.s4 g hg) (fun e=>by rcases h.f.l3 g e with q|q;exact h.f.a34 g q hg;exact absurd (h.f.s4 g hg) (by omega))];exact h.f.q4 g hg j hj),h.f.l1,h.f.l2,lI,h.f.l4,h.f.s1,h.f.s2,h.f.s3,h.f.s4,h.f.a12,h.f.a13,h.f.a14,h.f.a23,h.f.a24,h.f.a34,fun k hk z1 z2 z3 z4=>((set k (by omega)).trans (kp k (by omega) (fun e=>by rcases h.f.l3 k e with q|q;exact z3 q;omega))).trans (h.f.fr k hk z1 z2 z3 z4),?_,hBw⟩,?_⟩,b3⟩
 ·have h1:Below B w w2:=h.f.bel.trans (hb.mono (Nat.le_trans hBw h.f.bel.size))
  exact (yT h1 hg (fun k hk=>zQ h.f.r3 k (hrow k hk)) (Nat.le_trans hBw h1.size)).setCell (p:=⟨w.heap.size,3,none⟩) hBw _
 have:=tk.1;rw[World.size_setCell];omega
theorem LJ.put4 {w B nv o1 o2 o3 o4 O1 O2 O3 O4 v1 v2 v3 v4 n1 n2 n3 n4 X1 X2 X3 X4} {V:World} (h:LJ w B nv o1 o2 o3 o4 O1 O2 O3 O4 v1 v2 v3 v4 n1 n2 n3 n4 X1 X2 X3 X4 V) {w2 w4:World} {P:List Value} {v':Value} (hb:Below V.heap.size V w2) (ho:w4.ownsRow B 81 3 v' (n4+1) (X4++P))
 (ht:(∃ g cap,v4=.slice (some ⟨g,0,none⟩) n4 cap/\v'=.slice (some ⟨g,0,none⟩) (n4+1) cap/\w2.grownBy w4 (some g))\/(∃ cap,v'=.slice (some ⟨w2.heap.size,0,none⟩) (n4+1) cap/\w2.grownBy w4 none)):
 LJ w B nv o1 o2 o3 o4 O1 O2 O3 O4 v1 v2 v3 v' n1 n2 n3 (n4+1) X1 X2 X3 (X4++P) (w4.setCell ⟨w.heap.size,4,none⟩ v')/\zD 26 w.heap.size w4 #[nv,v1,v2,v3,v4]:=by
 have hbig:=h.big;have hsz:=hb.size;have tk:=vW ht
 have kp:∀d,d<V.heap.size->v4.ownBlock≠some d->w4.heap[d]? =V.heap[d]? :=fun d hd hn=>(tk.2 d (by omega) hn).trans (hb.block d hd)
 have nbox1:∀k,v1.ownBlock=some k->k≠w.heap.size:=fun k e q=>by rcases h.f.l1 k e with z|z;exact absurd (h.f.s1 k z) (by omega);omega
 have nbox2:∀k,v2.ownBlock=some k->k≠w.heap.size:=fun k e q=>by rcases h.f.l2 k e with z|z;exact absurd (h.f.s2 k z) (by omega);omega
 have nbox3:∀k,v3.ownBlock=some k->k≠w.heap.size:=fun k e q=>by rcases h.f.l3 k e with z|z;exact absurd (h.f.s3 k z) (by omega);omega
 have nbox4:∀k,v4.ownBlock=some k->k≠w.heap.size:=fun k e q=>by rcases h.f.l4 k e with z|z;exact absurd (h.f.s4 k z) (by omega);omega
 have nb2:v4.ownBlock≠some (w.heap.size+1):=fun e=>by rcases h.f.l4 _ e with z|z;exact absurd (h.f.s4 _ z) (by omega);omega
 have b3:=h.gb.keep (kp w.heap.size (by omega) (fun e=>nbox4 _ e rfl))
 have set:∀k,k≠w.heap.size->(w4.setCell ⟨w.heap.size,4,none⟩ v').heap[k]? =w4.heap[k]? :=fun k hk=>Below.heap_setCell w4 ⟨w.heap.size,4,none⟩ v' k hk
 have nboxN:∀k,v'.ownBlock=some k->k≠w.heap.size:=fun k e q=>by
  rcases ht with ⟨g,cap,e1,e2,-⟩|⟨cap,e2,-⟩
  ·rw [e2]at e;cases e;exact nbox4 g (by rw[e1];rfl) q
  rw[e2]at e;have e':w2.heap.size=k:=Option.some.inj e;omega
 have rI:(w4.setCell ⟨w.heap.size,4,none⟩ v').ownsRow B 81 3 v' (n4+1) (X4++P):=zT ho fun k e=>set k (nboxN k e)
 have cellSame:∀g,g<w.heap.size->v4.ownBlock≠some g->∀ {j:Nat},(w4.setCell ⟨w.heap.size,4,none⟩ v').cell? ⟨g,j,none⟩=V.cell? ⟨g,j,none⟩:=fun g hg hn j=>by
  have e:(w4.setCell ⟨w.heap.size,4,none⟩ v').heap[g]? =V.heap[g]? :=(set g (by omega)).trans (kp g (by omega) hn);simp only[World.cell?,e]
 have qI:∀g,o4.ownBlock=some g->∀j,j<O4.length->(w4.setCell ⟨w.heap.size,4,none⟩ v').cell? ⟨g,j,none⟩=O4[j]? :=fun g hg j hj=>by
  by_cases hvg:v4.ownBlock=some g
  ·have hgs:=h.f.s4 g hg
   rcases ht with ⟨g',cap,e1,e2,-⟩|⟨cap,e2,hgn⟩
   ·rw [e1]at hvg
    cases hvg
    rw[e2]at rI;have hl:=rI.1;have hpl:=h.f.p4.length_le;have hXl:=h.f.r4.1;have e9:=rI.cellAt j (by rw[Nat.succ_mul];omega);rw[<- e2]at e9;rw[e9,List.getElem?_append_left (by omega)];obtain ⟨z,hz⟩:=h.f.p4;rw[<- hz,List.getElem?_append_left hj]
   have e:(w4.setCell ⟨w.heap.size,4,none⟩ v').heap[g]? =V.heap[g]? :=(set g (by omega)).trans ((hgn.block g (by omega) (fun e=>by cases e)).trans (hb.block g (by omega)))
   have e9:(w4.setCell ⟨w.heap.size,4,none⟩ v').cell? ⟨g,j,none⟩=V.cell? ⟨g,j,none⟩:=by simp only[World.cell?,e]
   rw[e9];exact h.f.q4 g hg j hj
  rw[cellSame g (h.f.s4 g hg) hvg];exact h.f.q4 g hg j hj
 have lI:∀k,v'.ownBlock=some k->o4.ownBlock=some k\/w.heap.size+2<=k:=fun k e=>by
  rcases ht with ⟨g,cap,e1,e2,-⟩|⟨cap,e2,-⟩
  ·rw [e2]at e;cases e;exact h.f.l4 g (by rw[e1];rfl)
  rw[e2]at e;have e':w2.heap.size=k:=Option.some.inj e;exact .inr (by omega)
 have hBw:=h.f.hB;obtain ⟨row,hg,hrow⟩:=wV ht;refine ⟨⟨b3.set 4 v',h.rb.keep ((set _ (by omega)).trans (kp _ (by omega) nb2)),⟨(zT h.f.r1 fun k e=>(set k (nbox1 k e)).trans (kp k (zI h.f.r1 k e) (fun q=>(yV h.f.r4 h.f.r1 (by decide)) k q e))),(zT h.f.r2 fun k e=>(set k (nbox2 k e)).trans (kp k (zI h.f.r2 k e) (fun q=>(yV h.f.r4 h.f.r2 (by decide)) k q e))),(zT h.f.r3 fun k e=>(set k (nbox3 k e)).trans (kp k (zI h.f.r3 k e) (fun q=>h.f.n34.symm k q e))),rI,(NB.told h.f.n34.symm (fun k e=>Nat.lt_of_lt_of_le (zI h.f.r3 k e) hsz) ht).symm,h.f.p1,h.f.p2,h.f.p3,(h.f.p4.trans (List.prefix_append _ _)),(fun g hg j hj=>by rw[cellSame g (h.f.s1 g hg) (fun e=>by rcases h.f.l4 g e with q|q;exact h.f.a14.symm g q hg;exact absurd (h.f.s1 g hg) (by omega))];exact h.f.q1 g hg j hj),(fun g hg j hj=>by rw[cellSame g (h.f.s2 g hg) (fun e=>by rcases h.f.l4 g e with q|q;exact h.f.a24.symm g q hg;exact absurd (h.f.s2 g hg) (by omega))];exact h.f.q2 g hg j hj),(fun g hg j hj=>by rw[cellSame g (h.f.s3 g hg) (fun e=>by rcases h.f.l4 g e with q|q;exact h.f.a34.symm g q hg;exact absurd (h.f.s3 g hg) (by omega))];exact h.f.q3 g hg j hj),qI,h.f.l1,h.f.l2,h.f.l3,lI,h.f.s1,h.f.s2,h.f.s3,h.f.s4,h.f.a12,h.f.a13,h.f.a14,h.f.a23,h.f.a24,h.f.a34,fun k hk z1 z2 z3 z4=>((set k (by omega)).trans (kp k (by omega) (fun e=>by rcases h.f.l4 k e with q|q;exact z4 q;omega))).trans (h.f.fr k hk z1 z2 z3 z4),?_,hBw⟩,?_⟩,b3⟩
 ·have h1:Below B w w2:=h.f.bel.trans (hb.mono (Nat.le_trans hBw h.f.bel.size))
  exact (yT h1 hg (fun k hk=>zQ h.f.r4 k (hrow k hk)) (Nat.le_trans hBw h1.size)).setCell (p:=⟨w.heap.size,4,none⟩) hBw _
 have:=tk.1;rw[World.size_setCell];omega
def LI (w:World) (x:Option Addr) (n s j:Nat) (v:Value):Prop:=∀k,k<n->∃g m,x=some ⟨g,m,none⟩/\w.cell? ⟨g,m+k*s+j,none⟩=some v
theorem LI.below {w w':World} {b:Nat} {x:Option Addr} {n s j:Nat} {v:Value} (h:LI w x n s j v) (hb:Below b w w') (hl:∀g m,x=some ⟨g,m,none⟩->g<b):LI w' x n s j v:=fun k hk=>by
 obtain ⟨g,m,e,c⟩:=h k hk;refine ⟨g,m,e,?_⟩
 have q:=hb.block g (hl g m e);simp only[World.cell?]at c ⊢;rw[q];exact c
theorem LI.keep {w w':World} {x:Option Addr} {n s j:Nat} {v:Value} (h:LI w x n s j v) (hl:∀g m,x=some ⟨g,m,none⟩->w'.heap[g]? =w.heap[g]?):LI w' x n s j v:=fun k hk=>by
 obtain ⟨g,m,e,c⟩:=h k hk;refine ⟨g,m,e,?_⟩
 have q:=hl g m e;simp only[World.cell?]at c ⊢;rw[q];exact c
structure MkG (w : World) (x1 x2 x3 x4 : Option Addr) (n1 n2 n3 n4 t : Nat) : Prop where
 m11:LI w x1 n1 3 1 (.int .u8 (t:Int))
 m20:LI w x2 n2 5 0 (.int .i64 (t:Int))
 m31:LI w x3 n3 3 1 (.int .i64 (t:Int))
 m32:LI w x3 n3 3 2 (.int .i64 1)
 m41:LI w x4 n4 3 1 (.int .i64 (t:Int))
 m42:LI w x4 n4 3 2 (.int .i64 2)
theorem MkG.keep {w w':World} {x1 x2 x3 x4:Option Addr} {n1 n2 n3 n4 t:Nat} (h:MkG w x1 x2 x3 x4 n1 n2 n3 n4 t) (hl:∀g m,(x1=some ⟨g,m,none⟩\/x2=some ⟨g,m,none⟩\/x3=some ⟨g,m,none⟩\/x4=some ⟨g,m,none⟩)->w'.heap[g]? =w.heap[g]?):MkG w' x1 x2 x3 x4 n1 n2 n3 n4 t:=
 ⟨h.m11.keep fun g m e=>hl g m (.inl e),h.m20.keep fun g m e=>hl g m (.inr (.inl e)),h.m31.keep fun g m e=>hl g m (.inr (.inr (.inl e))),h.m32.keep fun g m e=>hl g m (.inr (.inr (.inl e))),h.m41.keep fun g m e=>hl g m (.inr (.inr (.inr e))),h.m42.keep fun g m e=>hl g m (.inr (.inr (.inr e)))⟩
def elA (p:GA × Value):El:=(⟨0,[],[],p.1.params,⟨[],0,0⟩,⟨[],0,0⟩,0⟩,p.2)
def elE (p:GE × Value):El:=(⟨0,[],[],p.1.start,⟨[],0,0⟩,⟨[],0,0⟩,0⟩,p.2)
def elG (As:List (GA × Value)) (Es:List (GE × Value)):List El:=As.map elA++Es.map elE
structure aD (w0 B1 B2 : Nat) (gv hv : Array Value) (v1 v2 v3 v4 u1 u2 u3 u4 : Value) (n1 n2 n3 n4 m1 m2 m3 m4 : Nat) (X1 X2 X3 X4 Y1 Y2 Y3 Y4 : List Value) (V : World) : Prop where
 ba:zD 26 w0 V gv
 bb:zD 26 (w0+1) V hv
 r1:V.ownsRow B1 62 3 v1 n1 X1
 r2:V.ownsRow B1 65 5 v2 n2 X2
 r3:V.ownsRow B1 81 3 v3 n3 X3
 r4:V.ownsRow B1 81 3 v4 n4 X4
 s1:V.ownsRow B2 62 3 u1 m1 Y1
 s2:V.ownsRow B2 65 5 u2 m2 Y2
 s3:V.ownsRow B2 81 3 u3 m3 Y3
 s4:V.ownsRow B2 81 3 u4 m4 Y4
 n34:NB v3 v4
 m34:NB u3 u4
 lo:∀k,(v1.ownBlock=some k\/v2.ownBlock=some k\/v3.ownBlock=some k\/v4.ownBlock=some k)->k<B2
 hi:∀k,(u1.ownBlock=some k\/u2.ownBlock=some k\/u3.ownBlock=some k\/u4.ownBlock=some k)->k<w0
 hb:B1<=B2
 hB:B2<=w0
 big:w0+2<=V.heap.size
theorem aD.up {w0 B1 B2 gv hv v1 v2 v3 v4 u1 u2 u3 u4 n1 n2 n3 n4 m1 m2 m3 m4 X1 X2 X3 X4 Y1 Y2 Y3 Y4} {V:World} (h:aD w0 B1 B2 gv hv v1 v2 v3 v4 u1 u2 u3 u4 n1 n2 n3 n4 m1 m2 m3 m4 X1 X2 X3 X4 Y1 Y2 Y3 Y4 V):∀k,(u1.ownBlock=some k\/u2.ownBlock=some k\/u3.ownBlock=some k\/u4.ownBlock=some k)->B2<=k:=fun k e=>by
 rcases e with e|e|e|e
 ·exact zQ h.s1 k e
 ·exact zQ h.s2 k e
 ·exact zQ h.s3 k e
 exact zQ h.s4 k e
theorem aD.ne {w0 B1 B2 gv hv v1 v2 v3 v4 u1 u2 u3 u4 n1 n2 n3 n4 m1 m2 m3 m4 X1 X2 X3 X4 Y1 Y2 Y3 Y4} {V:World} (h:aD w0 B1 B2 gv hv v1 v2 v3 v4 u1 u2 u3 u4 n1 n2 n3 n4 m1 m2 m3 m4 X1 X2 X3 X4 Y1 Y2 Y3 Y4 V) {k:Nat} (e:v1.ownBlock=some k\/v2.ownBlock=some k\/v3.ownBlock=some k\/v4.ownBlock=some k) (e2:u1.ownBlock=some k\/u2.ownBlock=some k\/u3.ownBlock=some k\/u4.ownBlock=some k):False:=by
 have:=h.lo k e;have:=h.up k e2;omega
theorem aD.later {w0 B1 B2 gv hv v1 v2 v3 v4 u1 u2 u3 u4 n1 n2 n3 n4 m1 m2 m3 m4 X1 X2 X3 X4 Y1 Y2 Y3 Y4} {V V':World} (h:aD w0 B1 B2 gv hv v1 v2 v3 v4 u1 u2 u3 u4 n1 n2 n3 n4 m1 m2 m3 m4 X1 X2 X3 X4 Y1 Y2 Y3 Y4 V) (hb:Below V.heap.size V V'):aD w0 B1 B2 gv hv v1 v2 v3 v4 u1 u2 u3 u4 n1 n2 n3 n4 m1 m2 m3 m4 X1 X2 X3 X4 Y1 Y2 Y3 Y4 V':=
 ⟨h.ba.below hb,h.bb.below hb,yY h.r1 hb,yY h.r2 hb,yY h.r3 hb,yY h.r4 hb,yY h.s1 hb,yY h.s2 hb,yY h.s3 hb,yY h.s4 hb,h.n34,h.m34,h.lo,h.hi,h.hb,h.hB,Nat.le_trans h.big hb.size⟩
theorem aD.keep {w0 B1 B2 gv hv v1 v2 v3 v4 u1 u2 u3 u4 n1 n2 n3 n4 m1 m2 m3 m4 X1 X2 X3 X4 Y1 Y2 Y3 Y4} {V V':World} (h:aD w0 B1 B2 gv hv v1 v2 v3 v4 u1 u2 u3 u4 n1 n2 n3 n4 m1 m2 m3 m4 X1 X2 X3 X4 Y1 Y2 Y3 Y4 V) (hs:V.heap.size<=V'.heap.size) (hk:∀k,(k=w0\/k=w0+1\/(v1.ownBlock=some k\/v2.ownBlock=some k\/v3.ownBlock=some k\/v4.ownBlock=some k)\/(u1.ownBlock=some k\/u2.ownBlock=some k\/u3.ownBlock=some k\/u4.ownBlock=some k))->V'.heap[k]? =V.heap[k]?):aD w0 B1 B2 gv hv v1 v2 v3 v4 u1 u2 u3 u4 n1 n2 n3 n4 m1 m2 m3 m4 X1 X2 X3 X4 Y1 Y2 Y3 Y4 V':=
 ⟨h.ba.keep (hk _ (.inl rfl)),h.bb.keep (hk _ (.inr (.inl rfl))),zT h.r1 (fun k e=>hk k (.inr (.inr (.inl (.inl e))))),zT h.r2 (fun k e=>hk k (.inr (.inr (.inl (.inr (.inl e)))))),zT h.r3 (fun k e=>hk k (.inr (.inr (.inl (.inr (.inr (.inl e))))))),zT h.r4 (fun k e=>hk k (.inr (.inr (.inl (.inr (.inr (.inr e))))))),zT h.s1 (fun k e=>hk k (.inr (.inr (.inr (.inl e))))),zT h.s2 (fun k e=>hk k (.inr (.inr (.inr (.inr (.inl e)))))),zT h.s3 (fun k e=>hk k (.inr (.inr (.inr (.inr (.inr (.inl e))))))),zT h.s4 (fun k e=>hk k (.inr (.inr (.inr (.inr (.inr (.inr e))))))),h.n34,h.m34,h.lo,h.hi,h.hb,h.hB,Nat.le_trans h.big hs⟩
def InX (x1 x2 x3 x4:Option Addr) (g:Nat):Prop:=∃m,x1=some ⟨g,m,none⟩\/x2=some ⟨g,m,none⟩\/x3=some ⟨g,m,none⟩\/x4=some ⟨g,m,none⟩
structure IM (wr : World) (top : Nat) (x1 x2 x3 x4 : Option Addr) (n1 n2 n3 n4 d1 d2 d3 d4 : Nat) (y1 y2 y3 y4 : Option Addr) (e1 e2 e3 e4 t s : Nat) (g1 g2 g3 g4 : Nat) : Prop where
 y1:y1=some ⟨g1,0,none⟩
 e1:n1+16<=e1
 y2:y2=some ⟨g2,0,none⟩
 e2:n2+16<=e2
 y3:y3=some ⟨g3,0,none⟩
 e3:n3+16<=e3
 y4:y4=some ⟨g4,0,none⟩
 e4:n4+16<=e4
 old:MkG wr x1 x2 x3 x4 n1 n2 n3 n4 t
 new:MkG wr (some ⟨g1,n1*3,none⟩) (some ⟨g2,n2*5,none⟩) (some ⟨g3,n3*3,none⟩) (some ⟨g4,n4*3,none⟩) 16 16 16 16 s
 lt:∀g,(InX x1 x2 x3 x4 g\/InX (some ⟨g1,n1*3,none⟩) (some ⟨g2,n2*5,none⟩) (some ⟨g3,n3*3,none⟩) (some ⟨g4,n4*3,none⟩) g)->g<wr.heap.size/\(((Value.slice x1 n1 d1).ownBlock=some g\/(Value.slice x2 n2 d2).ownBlock=some g\/(Value.slice x3 n3 d3).ownBlock=some g\/(Value.slice x4 n4 d4).ownBlock=some g)\/top<=g)
theorem IM.keep {wr wr':World} {top:Nat} {x1 x2 x3 x4 n1 n2 n3 n4 d1 d2 d3 d4 y1 y2 y3 y4 e1 e2 e3 e4 t s g1 g2 g3 g4} (h:IM wr top x1 x2 x3 x4 n1 n2 n3 n4 d1 d2 d3 d4 y1 y2 y3 y4 e1 e2 e3 e4 t s g1 g2 g3 g4) (hs:wr.heap.size<=wr'.heap.size) (hk:∀k,k<wr.heap.size->(((Value.slice x1 n1 d1).ownBlock=some k\/(Value.slice x2 n2 d2).ownBlock=some k\/(Value.slice x3 n3 d3).ownBlock=some k\/(Value.slice x4 n4 d4).ownBlock=some k)\/top<=k)->wr'.heap[k]? =wr.heap[k]?):IM wr' top x1 x2 x3 x4 n1 n2 n3 n4 d1 d2 d3 d4 y1 y2 y3 y4 e1 e2 e3 e4 t s g1 g2 g3 g4:=
 ⟨h.y1,h.e1,h.y2,h.e2,h.y3,h.e3,h.y4,h.e4,h.old.keep fun g m e=>hk g (h.lt g (.inl ⟨m,e⟩)).1 (h.lt g (.inl ⟨m,e⟩)).2,h.new.keep fun g m e=>hk g (h.lt g (.inr ⟨m,e⟩)).1 (h.lt g (.inr ⟨m,e⟩)).2,fun g e=>⟨Nat.lt_of_lt_of_le (h.lt g e).1 hs,(h.lt g e).2⟩⟩
def bG (nm:List UInt8) (K:List wJ):GG:=if (vS nm K).2.1=0 then sG nm K else IA
theorem BN (nm:List UInt8) (K:List wJ):(bG nm K).A.length<=32/\(bG nm K).E.length<=96/\(bG nm K).ins.length<=16/\(bG nm K).outs.length<=16:=by
 unfold bG
 by_cases h:(vS nm K).2.1=0
 ·rw [if_pos h]
  have q:=mO ((nL _).1 (mJ h).2).head;omega
 rw[if_neg h];exact ⟨Nat.zero_le _,Nat.zero_le _,Nat.zero_le _,Nat.zero_le _⟩
structure BO (B : Nat) (w : World) (G : GG) (x1 x2 x3 x4 : Option Addr) (d1 d2 d3 d4 : Nat) (As : List (GA × Value)) (Es : List (GE × Value)) : Prop where
 own:eE B w (.slice x1 As.length d1) (.slice x2 Es.length d2) (.slice x3 G.ins.length d3) (.slice x4 G.outs.length d4) As Es G.ins G.outs
 a:As.map Prod.fst=G.A
 e:Es.map Prod.fst=G.E
 na:∀p ∈ As,p.1.tag<=255/\vE p.1.params
 ne:∀p ∈ Es,vE p.1.start
theorem BO.la {B w G x1 x2 x3 x4 d1 d2 d3 d4 As Es} (h:BO B w G x1 x2 x3 x4 d1 d2 d3 d4 As Es):As.length=G.A.length:=by have e:=congrArg List.length h.a;rw[List.length_map]at e;exact e
theorem BO.le {B w G x1 x2 x3 x4 d1 d2 d3 d4 As Es} (h:BO B w G x1 x2 x3 x4 d1 d2 d3 d4 As Es):Es.length=G.E.length:=by have e:=congrArg List.length h.e;rw[List.length_map]at e;exact e
theorem BO.later {B w G x1 x2 x3 x4 d1 d2 d3 d4 As Es} {w':World} (h:BO B w G x1 x2 x3 x4 d1 d2 d3 d4 As Es) (hb:Below w.heap.size w w'):BO B w' G x1 x2 x3 x4 d1 d2 d3 d4 As Es:=
 ⟨h.own.keep fun k _ hk=>hb.block k hk,h.a,h.e,h.na,h.ne⟩
theorem BO.gr {B w G x1 x2 x3 x4 d1 d2 d3 d4 As Es} (h:BO B w G x1 x2 x3 x4 d1 d2 d3 d4 As Es) (l1:G.A.length<=32) (l2:G.E.length<=96) (l3:G.ins.length<=16) (l4:G.outs.length<=16):UH w x1 x2 x3 x4 G:=by
 have e1:=h.la;have e2:=h.le;have q:=h.own.gr (nm:=G.name) h.na h.ne (by omega) (by omega) (by omega) (by omega);rw[h.a,h.e]at q;exact q
def IL (w:World) (G:GG) (cd pl:Int) (e:Ending) (w':World):Prop:=∃x1 x2 x3 x4 d1 d2 d3 d4 As Es,e=.returned (.tuple #[.agg #[.string (zW G.name),.slice x1 G.A.length d1,.slice x2 G.E.length d2,.slice x3 G.ins.length d3,.slice x4 G.outs.length d4],.agg #[.int .i64 cd,.int .i64 pl]])/\BO w.heap.size w' G x1 x2 x3 x4 d1 d2 d3 d4 As Es/\Below w.heap.size w w'
theorem TS {B:Nat} {w:World} :eE B w (qN) (qN) (qN) (qN) [] [] [] []:=
 ⟨⟨World.ownsRow_nil _ _ _ _,World.ownsRow_nil _ _ _ _,World.ownsRow_nil _ _ _ _,World.ownsRow_nil _ _ _ _,NB.nilL _,NB.nilL _,NB.nilL _,NB.nilL _,NB.nilL _,NB.nilL _⟩,fun p hp=>by (cases hp),fun p hp=>by (cases hp),List.Pairwise.nil,fun q hq=>by (cases hq)⟩
theorem PC (nm:List UInt8) (a:Option Addr) (n c:Nat) (L:List (wJ × Value)) (w:World) (hn:L.length=n) (h:YQ w a L) (hO:LR w L) (hl:n<=2000000) {K:List wJ} (hK:L.map Prod.fst=K) {cd pl:Int} (hB:(vS nm K).2=(cd,pl)):
 Calls Tryz.prog 23 #[.agg #[.string (zW nm),.slice a n c]] w (IL w (bG nm K) cd pl):=by
 refine (MB nm a n c L w hn h hO hl).mono fun e w' he=>?_
 unfold bH at he;rw[hK]at he
 by_cases h0:(vS nm K).2.1=0
 ·rw [if_pos h0]at he
  obtain ⟨v1,v2,v3,v4,As,Es,rfl,hw,hA,hE,nA,nE,hb⟩:=he;obtain ⟨e1,-⟩:=mJ h0;have eg:bG nm K=sG nm K:=if_pos h0;rw[e1]at hw hA hE hB;obtain ⟨z1,f1,rfl⟩:=xD hw.rw.r1;obtain ⟨z2,f2,rfl⟩:=xD hw.rw.r2;obtain ⟨z3,f3,rfl⟩:=xD hw.rw.r3;obtain ⟨z4,f4,rfl⟩:=xD hw.rw.r4
  have hO:BO w.heap.size w' (bG nm K) z1 z2 z3 z4 f1 f2 f3 f4 As Es:=by rw[eg];exact ⟨hw,hA,hE,nA,nE⟩
  refine ⟨z1,z2,z3,z4,f1,f2,f3,f4,As,Es,?_,hO,hb⟩
  rw[<- hO.la,<-hO.le,eg]
  cases hB
  rfl
 rw[if_neg h0]at he;obtain ⟨rfl,hb⟩:=he;have eg:bG nm K=IA:=if_neg h0;refine ⟨none,none,none,none,0,0,0,0,[],[],?_,?_,hb⟩
 ·rw [eg,hB]
  rfl
 rw[eg];exact ⟨TS,rfl,rfl,fun p hp=>by (cases hp),fun p hp=>by (cases hp)⟩
theorem BO.short {B w G x1 x2 x3 x4 d1 d2 d3 d4 As Es} (h:BO B w G x1 x2 x3 x4 d1 d2 d3 d4 As Es):∀p ∈ elG As Es,p.1.nums.length<=17592186043904:=by
 intro p hp
 rcases List.mem_append.1 hp with hp|hp
 ·obtain ⟨q,hq,rfl⟩:=List.mem_map.1 hp
  have:=(h.na q hq).2.2;show q.1.params.length<=_
  omega
 obtain ⟨q,hq,rfl⟩:=List.mem_map.1 hp;have:=(h.ne q hq).2;show q.1.start.length<=_
 omega
end Go.Proofs.YtdcjdnkdeamigaaGreatDoor
