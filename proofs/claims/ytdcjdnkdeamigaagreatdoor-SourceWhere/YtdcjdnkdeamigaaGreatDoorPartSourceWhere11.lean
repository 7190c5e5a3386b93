/- Texts of one chain. -/
import Derived.Test.YtdcjdnkdeamigaaGreatDoorPartQ
import Derived.Test.YtdcjdnkdeamigaaGreatDoorPartSourceWhere10
import Derived.Deep.LoopGhost
set_option maxRecDepth 100000
set_option maxHeartbeats 1000000
namespace Go.Proofs.YtdcjdnkdeamigaaGreatDoor
open Go.ChangeShapes Go.WideShapes Go.ChangeAt Go.RowKit
theorem xS.set {T b l p w} (h:xS T b l p w) (q:Nat):xS T b l q (w.setCell ⟨b,1,none⟩ (.int .i64 (q:Int))):=by
 unfold xS at h ⊢;simp only[World.setCell,Array.getElem?_modify,↓reduceIte,h,Option.map_some];rfl
structure yC (T : TypeId) (b : Nat) (l : List UInt8) (q : Nat) (w w' : World) : Prop where
 cur:xS T b l q w'
 grown:w.grownBy w' (some b)
theorem yC.trans {T b l q r w w1 w2} (h:yC T b l q w w1) (k:yC T b l r w1 w2):yC T b l r w w2:=⟨k.cur,Lib.grownBy_trans h.grown k.grown⟩
theorem wH (w:World) (n:Nat) (row:Option Nat):w.grownBy (w.drewN n) row:=⟨rfl,rfl,rfl,Nat.le_refl _,fun _ _ _=>rfl⟩
theorem yC.drew {T b l q w} (h:xS T b l q w) (n:Nat):yC T b l q w (w.drewN n):=⟨h,wH w n _⟩
theorem yC.refl {T b l q w} (h:xS T b l q w):yC T b l q w w:=⟨h,rfl,rfl,rfl,Nat.le_refl _,fun _ _ _=>rfl⟩
theorem lP (T:TypeId) (b:Nat) (l:List UInt8) (p n:Nat) (w:World) (h:xS T b l p w) (hp:p+n<=l.length) (hl:l.length<=1048576):
 Calls Tryz.prog 161 #[(qP b),.int .i64 (n:Int)] w fun e w'=>e=.returned (.string (zW ((l.drop p).take n)))/\yC T b l (p+n) w w':=by
 have h0:=h.c0;have h1:=h.c1;have f1:=h.f1;have H:=zY h;clear h;have e1:=zB l
 have s3:wrap64 ((p:Int)+(n:Int))=((p+n:Nat):Int):=by unfold wrap64;omega
 have i0:(0:Int)<=(p:Int):=by omega
 have i1:(p:Int)<=((p+n:Nat):Int):=by omega
 have i2:((p+n:Nat):Int)<=(l.length:Int):=by omega
 have hc:=FI l p n;obtain ⟨q,hq⟩:∃q:Nat,q=p+n:=⟨_,rfl⟩;rw[<- hq]at s3 i1 i2 hc ⊢;have HQ:=zY hq;clear hq hp;have c0:(w.setCell ⟨b,1,none⟩ (.int .i64 (q:Int))).cell? ⟨b,0,none⟩=some (.string (zW l)):=(H.out.set q).c0;have c1:(w.setCell ⟨b,1,none⟩ (.int .i64 (q:Int))).cell? ⟨b,1,none⟩=some (.int .i64 (q:Int)):=(H.out.set q).c1
 go_enter Tryz.func161,Tryz.ntmps161
 go_wp2
 go_quiet (fail)
 go_wp2
 go_ret
 exact ⟨rfl,H.out.set q,Lib.grownBy_trans (Lib.grownBy_setCell w b 1 _) (wH _ _ _)⟩
structure ZS (f : Nat) (p : Int -> Bool) : Prop where
 tells:∀(c:Int) (w:World),Calls Tryz.prog f #[.int .u8 c] w fun e w'=>e=.returned (.bool (p c))/\w=w'
 enters:∀(c:Int) (w:World),(callFunc f #[.int .u8 c]).run Tryz.prog w=.ok (.enter f #[.int .u8 c]) w
theorem rT (T:TypeId) (f:Nat) (P:Int->Bool) (hf:ZS f P) (b:Nat) (l:List UInt8) (p:Nat) (w:World) (h:xS T b l p w) (hp:p<=l.length) (hl:l.length<=1048576):
 Calls Tryz.prog 127 #[(qP b),.func (.func f) #[] #[]] w fun e w'=>e=.returned (.string (zW ((l.drop p).take (yW P (l.drop p)))))/\yC T b l (p+yW P (l.drop p)) w w':=by
 have e1:=zB l;have HR:=zY (uM P (l.drop p));have HF:Hid (ZS f P):=hf
 have HT:Hid (∀ n W,xS T b l p W->p+n<=l.length->Calls Tryz.prog 161 #[(qP b),.int .i64 (n:Int)] W fun e w'=>e=.returned (.string (zW ((l.drop p).take n)))/\yC T b l (p+n) W w'):=fun n W hc hn=>lP T b l p n W hc hn hl
 have hK:=hf.enters
 have HK:∀q,xS T b l p (w.drewN q):=fun _=>h
 clear hf;obtain ⟨N,hN⟩:∃N,yW P (l.drop p)=N:=⟨_,rfl⟩
 have HI:Hid (∀ k,k<N->P (xF l (p+k))=true):=fun k hk=>by rw[<- pG];exact QP P _ k (by rw[hN];exact hk)
 have HO:Hid (p+N<l.length->P (xF l (p+N))=false):=fun hk=>by
  have:=dM P (l.drop p) (by rw[hN,List.length_drop];omega);rw[hN,pG]at this;exact this
 have HNL:p+N<=l.length:=by have:=HR.out;rw[hN,List.length_drop]at this;omega
 rw[hN];clear hN HR
 go_enter Tryz.func127,Tryz.ntmps127
 go_wp2
 go_loopg [5] N (fun gk v wr=>∃(k q:Nat),k<=N/\gk=N-k/\v=.int .i64 k/\wr=w.drewN q)
 case atStart=>exact ⟨0,0,Nat.zero_le _,rfl,rfl,rfl⟩
 case round=>
  obtain ⟨k,q,hk,rfl,rfl,rfl⟩:=hrel;have h0:=h.c0;have h1:=h.c1
  have s2:IntKind.i64.wrap ((p:Int)+(k:Int))=(p:Int)+(k:Int):=by rw[IntKind.wrap_i64];omega
  have i0:(0:Int)<=(p:Int)+(k:Int):=by omega
  have i3:((p:Int)+(k:Int)).toNat=p+k:=by omega
  by_cases hlt:p+k<l.length
  ·have i1:(p:Int)+(k:Int)<(l.length:Int):=by omega
   have g:=YB l (p+k) (by rw[e1];exact hlt);have HC:=zY (HF.out.tells (xF l (p+k)))
   by_cases hkn:k<N
   ·have hP:=HI.out k hkn
    rw[hP]at HC
    go_wp2
    go_quiet (refine (HC.out _).mono fun _ _ h=>⟨h.1,_,h.2.symm⟩)
    go_wp2
    go_roundg (N-(k+1))
    case measure=>omega
    case rel=>exact ⟨k+1,_,by omega,rfl,by go_num,rfl⟩
   have e:k=N:=by omega
   subst e;have hP:=HO.out hlt;rw[hP]at HC
   go_wp2
   go_quiet (refine (HC.out _).mono fun _ _ h=>⟨h.1,_,h.2.symm⟩)
   go_wp2_with (go_at_call 161;(with_reducible refine (HT.out _ _ (HK _) HNL).mono ?_);rintro e w1 ⟨rfl,hm⟩)
   go_ret
   exact ⟨rfl,hm.cur,Lib.grownBy_trans (wH _ _ _) hm.grown⟩
  have e:k=N:=by omega
  subst e;have i1:decide ((p:Int)+(k:Int)<(l.length:Int))=false:=decide_eq_false (by omega)
  go_wp2
  go_quiet (fail)
  go_wp2_with (go_at_call 161;(with_reducible refine (HT.out _ _ (HK _) HNL).mono ?_);rintro e w1 ⟨rfl,hm⟩)
  go_ret
  exact ⟨rfl,hm.cur,Lib.grownBy_trans (wH _ _ _) hm.grown⟩
theorem sX:ZS 134 xQ:=⟨xR,fun _ _=>rfl⟩
theorem cX:ZS 155 wR:=⟨SV,fun _ _=>rfl⟩
theorem WI:ZS 128 xG:=⟨WJ,fun _ _=>rfl⟩
theorem YA:ZS 130 uI:=⟨YC,fun _ _=>rfl⟩
def xH (t:yJ):Value:=.agg #[.int .u8 t.sort,.string (zW t.text),.int .i64 t.num,.int .i64 t.place]
theorem xS.lt {T b l p w} (h:xS T b l p w):b<w.heap.size:=(Array.getElem?_eq_some_iff.1 h).1
theorem xS.alloc {T b l p w} (h:xS T b l p w) (o:Obj):xS T b l p (w.alloc o):=h.kept (Below.heap_alloc w o b h.lt)
theorem xS.setOther {T b l p w} (h:xS T b l p w) {n i:Nat} (hn:b≠n) (v:Value):xS T b l p (w.setCell ⟨n,i,none⟩ v):=h.kept (Below.heap_setCell w _ _ b hn)
theorem xS.below {T b l p w w'} (h:xS T b l p w) (hb:Below w.heap.size w w'):xS T b l p w':=h.kept (hb.block b h.lt)
theorem nZ {w w1:World} {b n i:Nat} {v:Value} (h:w.grownBy w1 (some b)) (hn:w.heap.size<=n):w.grownBy (w1.setCell ⟨n,i,none⟩ v) (some b):=
 ⟨h.os,h.tape,h.output,by rw[World.size_setCell];exact h.size,fun k hk hne=>(Below.heap_setCell w1 _ _ k (fun e=>by subst e;exact absurd hk (by simpa using hn))).trans (h.block k hk hne)⟩
theorem xX (w:World) (o:Obj) (row:Option Nat):w.grownBy (w.alloc o) row:=World.grownBy_alloc w o row
def rA (n:Nat) (w:World):Prop:=∃x y z u,w.heap[n]? =some (.cells #[x,y,z,u] 96 (0,0))
theorem rA.parts {n w} (h:rA n w):∃x y z u,w.cell? ⟨n,0,none⟩=some x/\w.cell? ⟨n,1,none⟩=some y/\w.cell? ⟨n,2,none⟩=some z/\w.cell? ⟨n,3,none⟩=some u/\
 w.frozen? ⟨n,0,none⟩=false/\w.frozen? ⟨n,1,none⟩=false/\w.frozen? ⟨n,2,none⟩=false/\w.frozen? ⟨n,3,none⟩=false:=by
 obtain ⟨x,y,z,u,h⟩:=h;exact ⟨x,y,z,u,by simp[World.cell?,h],by simp[World.cell?,h],by simp[World.cell?,h],by simp[World.cell?,h],by simp[World.frozen?,h],by simp[World.frozen?,h],by simp[World.frozen?,h],by simp[World.frozen?,h]⟩
theorem rA.lt {n w} (h:rA n w):n<w.heap.size:=by obtain ⟨x,y,z,u,h⟩:=h;exact (Array.getElem?_eq_some_iff.1 h).1
theorem rA.grown {n w w' b} (h:rA n w) (hg:w.grownBy w' (some b)) (hn:n≠b):rA n w':=by
 have hl:=h.lt;obtain ⟨x,y,z,u,h⟩:=h;exact ⟨x,y,z,u,(hg.block n hl (fun e=>hn (Option.some.inj e))).trans h⟩
theorem rA.below {n w w'} (h:rA n w) (hb:Below w.heap.size w w'):rA n w':=by
 have hl:=h.lt;obtain ⟨x,y,z,u,h⟩:=h;exact ⟨x,y,z,u,(hb.block n hl).trans h⟩
theorem wA (w:World) (x y z u:Value):rA w.heap.size (w.alloc (.cells #[x,y,z,u] 96)):=⟨x,y,z,u,by show (w.heap.push _)[w.heap.size]? =_;simp⟩
theorem xK {w w1:World} {b n:Nat} {x y z u:Value} (h:w.grownBy w1 (some b)) (hn:w.heap.size<=n):w.grownBy ((((w1.setCell ⟨n,0,none⟩ x).setCell ⟨n,1,none⟩ y).setCell ⟨n,2,none⟩ z).setCell ⟨n,3,none⟩ u) (some b):=
 nZ (nZ (nZ (nZ h hn) hn) hn) hn
theorem tN {T b l p w1 n} {x y z u:Value} (h:xS T b l p w1) (hn:b≠n):xS T b l p ((((w1.setCell ⟨n,0,none⟩ x).setCell ⟨n,1,none⟩ y).setCell ⟨n,2,none⟩ z).setCell ⟨n,3,none⟩ u):=
 (((h.setOther hn _).setOther hn _).setOther hn _).setOther hn _
def uP (T:TypeId) (b:Nat) (l:List UInt8) (p:Nat) (o:One) (w:World) (e:Ending) (w':World):Prop:=
 e=.returned (.tuple #[xH o.tok,.int .i64 o.err])/\w.grownBy w' (some b)/\(o.err=0->xS T b l (p+o.n) w')
theorem iS (l:List UInt8) (p:Nat):xG (xF (l.drop (p+yW xG (l.drop p))) 0)=false:=by
 rw[<- List.drop_drop]
 by_cases h:yW xG (l.drop p)<(l.drop p).length
 ·have:=dM xG (l.drop p) h
  rw[pG];exact this
 rw[oU (by rw[List.length_drop];omega)];rfl
theorem SU {l:List UInt8} (h:xF l 0=35):0<yW uI l:=by
 cases l with
 |nil=>simp[xF]at h
 |cons c r=>
  rw[sN]at h;simp[yW,uI,h]
theorem KT (T:TypeId) (b:Nat) (l:List UInt8) (p:Nat) (w:World) (h:xS T b l p w) (hp:p<=l.length) (hl:l.length<=1048576):
 Calls Tryz.prog 81 #[(qP b)] w fun e w'=>e=.returned (.tuple #[])/\yC T b l (p+zK false (l.drop p)) w w':=by
 have HB:Hid (∀ q W,xS T b l q W->q<=l.length->Calls Tryz.prog 127 #[(qP b),.func (.func 128) #[] #[]] W fun e w'=>e=.returned (.string (zW ((l.drop q).take (yW xG (l.drop q)))))/\yC T b l (q+yW xG (l.drop q)) W w'):=
  fun q W hc hq=>rT T _ _ WI b l q W hc hq hl
 have HM:Hid (∀ q W,xS T b l q W->q<=l.length->Calls Tryz.prog 127 #[(qP b),.func (.func 130) #[] #[]] W fun e w'=>e=.returned (.string (zW ((l.drop q).take (yW uI (l.drop q)))))/\yC T b l (q+yW uI (l.drop q)) W w'):=
  fun q W hc hq=>rT T _ _ YA b l q W hc hq hl
 have HA:Hid (∀ q W,xS T b l q W->q<=l.length->Calls Tryz.prog 129 #[(qP b),.int .i64 0] W fun e w'=>e=.returned (.int .u8 (xF (l.drop q) 0))/\∃m,w'=W.drewN m):=
  fun q W hc hq=>xW T b l q 0 W hc hq hl (by decide)
 have R1:=zY (fun q=>uM xG (l.drop q));have R2:=zY (fun q=>uM uI (l.drop q));have HH:=zY h;clear h
 go_enter Tryz.func81,Tryz.ntmps81
 go_wp2_with (go_at_call 127;(with_reducible refine (HB.out _ _ HH.out hp).mono ?_);rintro e w1 ⟨rfl,hm1⟩;have M1:=zY hm1;clear hm1)
 have HS:Hid (∀ q,q<=l.length->xF (l.drop q) 0=35->q<l.length/\0<yW uI (l.drop q)/\q+yW uI (l.drop q)+yW xG (l.drop (q+yW uI (l.drop q)))<=l.length/\
  (q+yW uI (l.drop q)+yW xG (l.drop (q+yW uI (l.drop q))))+zK false (l.drop (q+yW uI (l.drop q)+yW xG (l.drop (q+yW uI (l.drop q)))))=q+zK false (l.drop q)):=fun q hq h35=>by
  have r1:=uM uI (l.drop q);have r2:=uM xG (l.drop (q+yW uI (l.drop q)));rw[List.length_drop]at r1 r2;refine ⟨?_,SU h35,by omega,?_⟩
  ·rcases Nat.lt_or_ge q l.length with h|h
   ·exact h
   rw[oU (by rw[List.length_drop];omega)]at h35;cases h35
  have e1:=OS h35;have e2:=jP (l.drop (q+yW uI (l.drop q)));rw[List.drop_drop]at e1 e2;omega
 have hfin:Hid (p+yW xG (l.drop p)+zK false (l.drop (p+yW xG (l.drop p)))=p+zK false (l.drop p)):=by
  have e2:=jP (l.drop p);rw[List.drop_drop]at e2;show _=_
  omega
 have hle:p+yW xG (l.drop p)<=l.length:=by have:=R1.out p;rw[List.length_drop]at this;omega
 go_loopg [] (l.length-(p+yW xG (l.drop p))) (fun gk wr=>∃q,q<=l.length/\gk=l.length-q/\q+zK false (l.drop q)=p+zK false (l.drop p)/\xG (xF (l.drop q) 0)=false/\yC T b l q w wr)
 case atStart=>exact ⟨p+yW xG (l.drop p),hle,rfl,hfin.out,iS l p,M1.out⟩
 case round=>
  clear M1 hfin hle;obtain ⟨q,hq,rfl,hsum,hbl,hmv⟩:=hrel;have HV:=zY hmv;have HQ:=zY hsum;have HBL:=zY hbl;clear hmv hsum hbl;have A1:=zY (fun W hc=>HA.out q W hc hq);have HC:=zY HV.out.cur
  by_cases h35:xF (l.drop q) 0=35
  ·obtain ⟨hlt,hpos,hle2,hs2⟩:=HS.out q hq h35
   have HQ2:=zY (hs2.trans HQ.out);have HB2:=zY (iS l (q+yW uI (l.drop q)))
   have hle1:q+yW uI (l.drop q)<=l.length:=by omega
   rw[h35]at A1;clear hs2 HQ HBL HS HA;obtain ⟨q1,hq1⟩:∃q1,q+yW uI (l.drop q)=q1:=⟨_,rfl⟩;have H1:=zY (fun W hc=>HM.out q W hc hq);rw[hq1]at H1 HQ2 HB2 hle1 hle2;obtain ⟨q2,hq2⟩:∃q2,q1+yW xG (l.drop q1)=q2:=⟨_,rfl⟩;have H2:=zY (fun W hc=>HB.out q1 W hc hle1);rw[hq2]at H2 HQ2 HB2 hle2
   have hdec:q<q2:=by omega
   clear hq1 hq2 HM HB hpos;generalize zW (List.take (yW uI (l.drop q)) (l.drop q))=s1 at *;generalize zW (List.take (yW xG (l.drop q1)) (l.drop q1))=s2 at *
   go_wp2_with (first
    |(go_at_call 127;(with_reducible refine (H2.out _ M2.out.cur).mono ?_);rintro e w3 ⟨rfl,hm3⟩;have M3:=zY hm3;clear hm3)
    |(go_at_call 127;(with_reducible refine (H1.out _ CD.out).mono ?_);rintro e w2 ⟨rfl,hm2⟩;have M2:=zY hm2;clear hm2)
    |(go_at_call 129;(with_reducible refine (A1.out _ HC.out).mono ?_);rintro e w' ⟨rfl,m1,rfl⟩;have CD:Hid (xS T b l q (wr.drewN m1)):=HC.out))
   go_roundg (l.length-q2)
   case measure=>omega
   case rel=>exact ⟨q2,hle2,rfl,HQ2.out,HB2.out,HV.out.trans ((yC.drew HC.out m1).trans (M2.out.trans M3.out))⟩
  have hd:decide (xF (l.drop q) 0=35)=false:=decide_eq_false h35
  have HZ:Hid (p+zK false (l.drop p)=q):=by
   have e0:=OQ HBL.out h35;have e1:=HQ.out;show _=_
   omega
  generalize xF (l.drop q) 0=x at *
  go_wp2_with (go_at_call 129;(with_reducible refine (A1.out _ HC.out).mono ?_);rintro e w' ⟨rfl,m1,rfl⟩)
  go_end0
  refine ⟨rfl,?_⟩
  rw[HZ.out];exact HV.out.trans (yC.drew HC.out m1)
theorem ST (T:TypeId) (b:Nat) (l:List UInt8) (p:Nat) (w:World) (h:xS T b l p w) (hp:p<=l.length) (hl:l.length<=1048576):
 Calls Tryz.prog 133 #[(qP b)] w (uP T b l p (oT (l.drop p)) w):=by
 have HB:Hid (∀ W,xS T b l p W->Calls Tryz.prog 127 #[(qP b),.func (.func 155) #[] #[]] W fun e w'=>e=.returned (.string (zW ((l.drop p).take (yW wR (l.drop p)))))/\yC T b l (p+yW wR (l.drop p)) W w'):=
  fun W hc=>rT T _ _ cX b l p W hc hp hl
 have hle:=uM wR (l.drop p);rw[List.length_drop]at hle
 have ES:Hid (∀ k,k<=l.length-p->(zW ((l.drop p).take k)).size=k):=fun k hk=>by rw[zB,List.length_take,List.length_drop];omega
 have HH:=zY h;have hb:=h.lt;clear h
 by_cases hn:16<yW wR (l.drop p)
 ·have eo:oT (l.drop p)=⟨wM,42,0⟩:=by unfold oT;rw[if_pos hn]
  rw[eo];clear eo;generalize yW wR (l.drop p)=N at *;have es:=ES.out N hle;generalize zW ((l.drop p).take N)=S at *
  have hN:(16:Int)<(N:Int):=by omega
  have HA:Hid (∀ o,xS T b l p (w.alloc o)):=fun o=>HH.out.alloc o
  go_enter Tryz.func133,Tryz.ntmps133
  go_wp2_with (go_at_call 127;(with_reducible refine (HB.out _ (HA.out _)).mono ?_);rintro e w1 ⟨rfl,hm1⟩;have M1:=zY hm1;obtain ⟨x,y,z,u,c0,c1,c2,c3,f0,f1,f2,f3⟩:=((wA w _ _ _ _).grown hm1.grown (by omega)).parts;clear hm1)
  exact bodyPost_ret (v:=.tuple #[xH wM,.int .i64 42]) (by simp[results,Tryz.results133,go_sem,c0,c1,c2,c3,xH,wM,zW]) rfl ⟨rfl,xK (Lib.grownBy_trans (xX w _ _) M1.out.grown) (Nat.le_refl _),fun h=>by cases h⟩
 have eo:oT (l.drop p)=⟨⟨1,(l.drop p).take (yW wR (l.drop p)),0,0⟩,0,yW wR (l.drop p)⟩:=by unfold oT;rw[if_neg hn]
 rw[eo];clear eo;generalize yW wR (l.drop p)=N at *;have es:=ES.out N hle;generalize (l.drop p).take N=S at *;have hN:decide ((16:Int)<(N:Int))=false:=decide_eq_false (by omega)
 have HA:Hid (∀ o,xS T b l p (w.alloc o)):=fun o=>HH.out.alloc o
 go_enter Tryz.func133,Tryz.ntmps133
 go_wp2_with (go_at_call 127;(with_reducible refine (HB.out _ (HA.out _)).mono ?_);rintro e w1 ⟨rfl,hm1⟩;have M1:=zY hm1;obtain ⟨x,y,z,u,c0,c1,c2,c3,f0,f1,f2,f3⟩:=((wA w _ _ _ _).grown hm1.grown (by omega)).parts;clear hm1)
 exact bodyPost_ret (v:=.tuple #[xH ⟨1,S,0,0⟩,.int .i64 0]) (by simp[results,Tryz.results133,go_sem,c0,c1,c2,c3,xH]) rfl ⟨rfl,xK (Lib.grownBy_trans (xX w _ _) M1.out.grown) (Nat.le_refl _),fun _=>tN M1.out.cur (by omega)⟩
theorem WH (T:TypeId) (b:Nat) (l:List UInt8) (p n:Nat) (w:World) (h:xS T b l p w) (hp:p+n<=l.length) (hl:l.length<=1048576):
 Calls Tryz.prog 137 #[(qP b),.int .i64 (n:Int)] w (uP T b l p (oS (l.drop p) n) w):=by
 have HT:Hid (∀ W,xS T b l p W->Calls Tryz.prog 161 #[(qP b),.int .i64 (n:Int)] W fun e w'=>e=.returned (.string (zW ((l.drop p).take n)))/\yC T b l (p+n) W w'):=fun W hc=>lP T b l p n W hc hp hl
 have hb:=h.lt
 have HA:Hid (∀ o,xS T b l p (w.alloc o)):=fun o=>h.alloc o
 clear h;unfold oS;generalize (l.drop p).take n=S at *
 go_enter Tryz.func137,Tryz.ntmps137
 go_wp2_with (go_at_call 161;(with_reducible refine (HT.out _ (HA.out _)).mono ?_);rintro e w1 ⟨rfl,hm1⟩;have M1:=zY hm1;obtain ⟨x,y,z,u,c0,c1,c2,c3,f0,f1,f2,f3⟩:=((wA w _ _ _ _).grown hm1.grown (by omega)).parts;clear hm1)
 exact bodyPost_ret (v:=.tuple #[xH ⟨3,S,0,0⟩,.int .i64 0]) (by simp[results,Tryz.results137,go_sem,c0,c1,c2,c3,xH]) rfl ⟨rfl,xK (Lib.grownBy_trans (xX w _ _) M1.out.grown) (Nat.le_refl _),fun _=>tN M1.out.cur (by omega)⟩
end Go.Proofs.YtdcjdnkdeamigaaGreatDoor
