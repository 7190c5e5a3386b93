/- Texts of one chain. -/
import Derived.RowKit
import Derived.Lib.AtoiAll
namespace Go.Proofs.YtdcjdnkdeamigaaGreatDoor
open Go.RowKit
def rP (b:Int):Bool:=decide (97<=b)&&decide (b<=122)
def xQ (b:Int):Bool:=decide (48<=b)&&decide (b<=57)
def wR (b:Int):Bool:=rP b||xQ b||decide (b=95)
def xG (b:Int):Bool:=decide (b=32)||decide (b=9)||decide (b=13)||decide (b=10)
def uI (b:Int):Bool:= !decide (b=10)
def pH (b:Int):Bool:=decide (b=123)||decide (b=125)||decide (b=61)||decide (b=59)||decide (b=46)
def xF (l:List UInt8) (n:Nat):Int:=((l.getD n 0).toNat:Int)
def yW (p:Int->Bool):List UInt8->Nat
 |[]=>0
 |c::r=>if p (c.toNat:Int) then yW p r+1 else 0
theorem uM (p:Int->Bool):∀l,yW p l<=l.length
 |[]=>Nat.le_refl _
 |c::r=>by
  unfold yW
  split
  ·have:=uM p r;simp;omega
  simp
theorem sN (c:UInt8) (r:List UInt8):xF (c::r) 0=(c.toNat:Int):=rfl
theorem oU {l:List UInt8} {n:Nat} (h:l.length<=n):xF l n=0:=by
 unfold xF;rw[List.getD_eq_getElem?_getD,List.getElem?_eq_none h];rfl
theorem pG (l:List UInt8) (k n:Nat):xF (l.drop k) n=xF l (k+n):=by
 unfold xF;rw[List.getD_eq_getElem?_getD,List.getD_eq_getElem?_getD,List.getElem?_drop]
theorem QP (p:Int->Bool):∀(l:List UInt8) (k:Nat),k<yW p l->p (xF l k)=true
 |[],k,h=>by simp[yW]at h
 |c::r,k,h=>by
  unfold yW at h
  split at h
  ·rename_i hc
   match k,h with
   |0,_=>exact hc
   |k+1,h=>exact QP p r k (by omega)
  omega
theorem dM (p:Int->Bool):∀(l:List UInt8),yW p l<l.length->p (xF l (yW p l))=false
 |[],h=>by simp at h
 |c::r,h=>by
  unfold yW at h ⊢
  split
  ·rename_i hc
   rw[if_pos hc]at h;exact dM p r (by simp at h;omega)
  rename_i hc
  rw[sN]
  simpa using hc
def zK:Bool->List UInt8->Nat
 |_,[]=>0
 |true,c::r=>if (c.toNat:Int)=10 then zK false r+1 else zK true r+1
 |false,c::r=>if xG (c.toNat:Int) then zK false r+1 else if (c.toNat:Int)=35 then zK true r+1 else 0
theorem rN:∀(m:Bool) (l:List UInt8),zK m l<=l.length
 |m,[]=>by cases m<;>simp[zK]
 |true,c::r=>by
  unfold zK;have h1:=rN false r;have h2:=rN true r
  split<;>simp<;>omega
 |false,c::r=>by
  unfold zK;have h1:=rN false r;have h2:=rN true r
  split
  ·simp;omega
  split<;>simp<;>omega
theorem jP:∀(l:List UInt8),zK false l=yW xG l+zK false (l.drop (yW xG l))
 |[]=>by simp[zK,yW]
 |c::r=>by
  by_cases h:xG (c.toNat:Int)=true
  ·have e:=jP r
   have e1:yW xG (c::r)=yW xG r+1:=by simp[yW,h]
   have e2:zK false (c::r)=zK false r+1:=by simp[zK,h]
   rw[e1,e2,List.drop_succ_cons];omega
  have e1:yW xG (c::r)=0:=by simp[yW,h]
  rw[e1,List.drop_zero];omega
theorem WQ:∀(l:List UInt8),zK true l=yW uI l+zK false (l.drop (yW uI l))
 |[]=>by simp[zK,yW]
 |c::r=>by
  by_cases h:(c.toNat:Int)=10
  ·have e1:yW uI (c::r)=0:=by simp[yW,uI,h]
   have e2:zK true (c::r)=zK false r+1:=by simp[zK,h]
   have e3:zK false (c::r)=zK false r+1:=by simp[zK,xG,h]
   rw[e1,List.drop_zero,e2,e3];omega
  have e:=WQ r
  have e1:yW uI (c::r)=yW uI r+1:=by simp[yW,uI,h]
  have e2:zK true (c::r)=zK true r+1:=by simp[zK,h]
  rw[e1,e2,List.drop_succ_cons];omega
theorem OS {l:List UInt8} (h:xF l 0=35):zK false l=yW uI l+zK false (l.drop (yW uI l)):=by
 cases l with
 |nil=>simp[xF]at h
 |cons c r=>
  rw[sN]at h
  have e1:zK false (c::r)=zK true r+1:=by simp[zK,xG,h]
  have e2:yW uI (c::r)=yW uI r+1:=by simp[yW,uI,h]
  rw[e1,e2,List.drop_succ_cons,WQ r];omega
theorem OQ {l:List UInt8} (h1:xG (xF l 0)=false) (h2:xF l 0≠35):zK false l=0:=by
 cases l with
 |nil=>rfl
 |cons c r=>
  rw[sN]at h1 h2;simp[zK,h1,h2]
def vV:Int->List UInt8->Int
 |a,[]=>a
 |a,c::r=>vV (a*10+((c.toNat:Int)-48)) r
def wC (x:Int):Bool:=decide (-9223372036854775808<=x)&&decide (x<=9223372036854775807)
def iX (neg:Bool) (ds:List UInt8):Bool:= !decide (xF ds 0=48)||(decide (ds.length=1)&& !neg)
def vB (neg:Bool) (x:Int):Int:=if neg then -x else x
def kD (neg:Bool) (ds:List UInt8):Option Int:=if iX neg ds&&wC (vB neg (vV 0 ds)) then some (vB neg (vV 0 ds)) else none
structure yJ where
 sort:Int
 text:List UInt8
 num:Int
 place:Int
structure One where
 tok:yJ
 err:Int
 n:Nat
def wM:yJ:=⟨0,[],0,0⟩
def oT (l:List UInt8):One:=if 16<yW wR l then ⟨wM,42,0⟩ else ⟨⟨1,l.take (yW wR l),0,0⟩,0,yW wR l⟩
def vI (l:List UInt8):One:=
 let neg:=decide (xF l 0=45)
 let r:=if neg then l.drop 1 else l
 match kD neg (r.take (yW xQ r)) with
 |none=>⟨wM,41,0⟩
 |some v=>⟨⟨2,[],v,0⟩,0,(if neg then 1 else 0)+yW xQ r⟩
def oS (l:List UInt8) (n:Nat):One:=⟨⟨3,l.take n,0,0⟩,0,n⟩
def yL (l:List UInt8):One:=
 if rP (xF l 0) then oT l
 else if xQ (xF l 0)||(decide (xF l 0=45)&&xQ (xF l 1)) then vI l
 else if pH (xF l 0) then oS l 1
 else if decide (xF l 0=45)&&decide (xF l 1=62) then oS l 2
 else ⟨wM,40,0⟩
structure gM where
 toks:List yJ
 err:Int
 place:Int
def gM.cons (t:yJ) (g:gM):gM:=if g.err=0 then ⟨t::g.toks,0,0⟩ else g
def YH:Nat->Nat->List UInt8->gM
 |0,_,_=>⟨[],0,0⟩
 |f+1,p,l=>
  let k:=zK false l
  let r:=l.drop k
  if r=[] then ⟨[⟨0,[],0,((p+k:Nat):Int)⟩],0,0⟩
  else
   let o:=yL r
   if o.err=0 then (YH f (p+k+o.n) (r.drop o.n)).cons { o.tok with place:=((p+k:Nat):Int) }
   else ⟨[],o.err,((p+k:Nat):Int)⟩
def vH (p:Nat) (l:List UInt8):gM:=YH (l.length+1) p l
def yE (l:List UInt8):gM:=if 1048576<l.length then ⟨[],2,1048576⟩ else vH 0 l
def kC (ds:List UInt8):Prop:=∀c ∈ ds,48<=c.toNat/\c.toNat<=57
theorem LG {c:UInt8} :xQ (c.toNat:Int)=true↔48<=c.toNat/\c.toNat<=57:=by
 unfold xQ;rw[Bool.and_eq_true,decide_eq_true_iff,decide_eq_true_iff];omega
theorem pF:∀l:List UInt8,kC (l.take (yW xQ l))
 |[]=>by intro c hc;simp at hc
 |c::r=>by
  unfold yW
  by_cases h:xQ (c.toNat:Int)=true
  ·rw [if_pos h,List.take_succ_cons]
   intro d hd
   rcases List.mem_cons.1 hd with rfl|hd
   ·exact LG.1 h
   exact pF r d hd
  rw[if_neg h,List.take_zero];intro d hd;cases hd
theorem dX:∀(ds:List UInt8) (a:Int),kC ds->0<=a->a<=vV a ds
 |[],a,_,_=>Int.le_refl _
 |c::r,a,hd,ha=>by
  have hc:=hd c (by simp);have:=dX r (a*10+((c.toNat:Int)-48)) (fun d h=>hd d (by simp[h])) (by omega);unfold vV;omega
theorem dL:∀(ds:List UInt8) (a:Nat),kC ds->a<18446744073709551616->
 Lib.parseUint10 a ds=if vV (a:Int) ds<18446744073709551616 then .ok (vV (a:Int) ds).toNat else .range
 |[],a,_,ha=>by
  have:((a:Int)<18446744073709551616):=by omega
  simp[Lib.parseUint10,vV,this]
 |c::r,a,hd,ha=>by
  have hc:=hd c (by simp)
  have hr:kC r:=fun d h=>hd d (by simp[h])
  have ec:(a:Int)*10+((c.toNat:Int)-48)=((a*10+(c.toNat-48):Nat):Int):=by omega
  have hge:=dX r ((a*10+(c.toNat-48):Nat):Int) hr (by omega)
  have ed:vV (a:Int) (c::r)=vV ((a*10+(c.toNat-48):Nat):Int) r:=by rw[<- ec];rfl
  rw[ed,Lib.parseUint10,if_pos hc]
  by_cases h1:1844674407370955162<=a
  ·rw [if_pos h1,if_neg (by omega)]
  rw[if_neg h1]
  by_cases h2:18446744073709551616<=a*10+(c.toNat-48)
  ·rw [if_pos h2,if_neg (by omega)]
  rw[if_neg h2];exact dL r _ hr (by omega)
theorem TF {ds:List UInt8} (hne:ds≠[]) (hd:kC ds):Lib.atoiAll ds=if wC (vV 0 ds) then .ok (vV 0 ds) else .range:=by
 cases ds with
 |nil=>exact absurd rfl hne
 |cons c r=>
  have hc:=hd c (by simp);have h0:=dX (c::r) 0 hd (by decide);have hu:=dL (c::r) 0 hd (by decide);have e0:((0:Nat):Int)=0:=rfl;rw[e0]at hu;generalize vV 0 (c::r)=v at *
  have hn:¬c.toNat=45:=by omega
  have hp:¬c.toNat=43:=by omega
  simp only[Lib.atoiAll,hn,hp,or_self,if_false,Lib.parseMag];rw[if_neg (by simp),hu];unfold wC
  by_cases h1:v<18446744073709551616
  ·rw [if_pos h1]
   by_cases h2:v<=9223372036854775807
   ·have a1:(decide (-9223372036854775808<=v)&&decide (v<=9223372036854775807))=true:=by simp;omega
    rw[if_pos a1]
    have t:((v.toNat:Nat):Int)=v:=by omega
    have t2:¬(9223372036854775808<=v.toNat):=by omega
    simp[t,t2]
   have a1:(decide (-9223372036854775808<=v)&&decide (v<=9223372036854775807))=false:=by simp;omega
   rw[if_neg (by rw[a1];decide)];simp;omega
  rw[if_neg h1]
  have a1:(decide (-9223372036854775808<=v)&&decide (v<=9223372036854775807))=false:=by simp;omega
  rw[if_neg (by rw[a1];decide)]
theorem TE {ds:List UInt8} (hne:ds≠[]) (hd:kC ds):Lib.atoiAll (45::ds)=if wC (-vV 0 ds) then .ok (-vV 0 ds) else .range:=by
 have h0:=dX ds 0 hd (by decide);have hu:=dL ds 0 hd (by decide);have e0:((0:Nat):Int)=0:=rfl;rw[e0]at hu;generalize vV 0 ds=v at *;have hn:(45:UInt8).toNat=45:=rfl;simp only[Lib.atoiAll,hn,or_true,if_true,Lib.parseMag];rw[if_neg hne,hu];unfold wC
 by_cases h1:v<18446744073709551616
 ·rw [if_pos h1]
  by_cases h2: -9223372036854775808<= -v
  ·have a1:(decide (-9223372036854775808<= -v)&&decide (-v<=9223372036854775807))=true:=by simp;omega
   rw[if_pos a1]
   have t:((v.toNat:Nat):Int)=v:=by omega
   have t2:¬(9223372036854775808<v.toNat):=by omega
   simp[t,t2]
  have a1:(decide (-9223372036854775808<= -v)&&decide (-v<=9223372036854775807))=false:=by simp;omega
  rw[if_neg (by rw[a1];decide)];simp;omega
 rw[if_neg h1]
 have a1:(decide (-9223372036854775808<= -v)&&decide (-v<=9223372036854775807))=false:=by simp;omega
 rw[if_neg (by rw[a1];decide)]
def fD (neg:Bool):List UInt8:=if neg then [45] else []
theorem WP (neg:Bool) {ds:List UInt8} (hne:ds≠[]) (hd:kC ds):Lib.atoiAll (fD neg++ds)=if wC (vB neg (vV 0 ds)) then .ok (vB neg (vV 0 ds)) else .range:=by
 cases neg
 ·exact TF hne hd
 exact TE hne hd
theorem nH (p:Int->Bool) (l:List UInt8):(l.take (yW p l)).length=yW p l:=by
 rw[List.length_take];have:=uM p l;omega
theorem YG {l:List UInt8} {n:Nat} (h:xF l n≠0):n<l.length:=by
 rcases Nat.lt_or_ge n l.length with h1|h1
 ·exact h1
 exact absurd (oU h1) h
theorem aC {x:Int} (h:rP x=true):wR x=true:=by unfold wR;rw[h];rfl
theorem QO {x:Int} (h:rP x=true):x≠0:=by intro e;subst e;cases h
theorem dK {x:Int} (h:xQ x=true):x≠0:=by intro e;subst e;cases h
theorem LF {x:Int} (h:pH x=true):x≠0:=by intro e;subst e;cases h
theorem lU {p:Int->Bool} {l:List UInt8} (h:p (xF l 0)=true) (h0:xF l 0≠0):0<yW p l:=by
 cases l with
 |nil=>exact absurd rfl h0
 |cons c r=>
  rw[sN]at h;simp[yW,h]
theorem tT {l:List UInt8} (h:(yL l).err=0):0<(yL l).n/\(yL l).n<=l.length/\((yL l).tok.sort=1\/(yL l).tok.sort=2\/(yL l).tok.sort=3):=by
 unfold yL at h ⊢
 by_cases h1:rP (xF l 0)=true
 ·rw [if_pos h1]at h ⊢
  unfold oT at h ⊢
  by_cases h2:16<yW wR l
  ·rw [if_pos h2]at h;cases h
  rw[if_neg h2];exact ⟨lU (aC h1) (QO h1),uM _ _,Or.inl rfl⟩
 rw[if_neg h1]at h ⊢
 by_cases h2:(xQ (xF l 0)||(decide (xF l 0=45)&&xQ (xF l 1)))=true
 ·rw [if_pos h2]at h ⊢
  unfold vI at h ⊢
  by_cases h3:xF l 0=45
  ·simp only[h3,decide_true,if_true]at h ⊢
   have hl:0<l.length:=YG (by rw[h3];decide);generalize kD true _=z at h ⊢
   cases z with
   |none=>cases h
   |some v=>
    have:=uM xQ (l.drop 1);rw[List.length_drop]at this;exact ⟨by show 0<1+_;omega,by show 1+_<=_;omega,Or.inr (Or.inl rfl)⟩
  simp only[h3,decide_false,Bool.false_eq_true,if_false]at h ⊢
  have h4:xQ (xF l 0)=true:=by
   rw[decide_eq_false h3,Bool.false_and,Bool.or_false]at h2;exact h2
  generalize kD false _=z at h ⊢
  cases z with
  |none=>cases h
  |some v=>
   have:=uM xQ l;have hp:=lU h4 (dK h4);exact ⟨by show 0<0+_;omega,by show 0+_<=_;omega,Or.inr (Or.inl rfl)⟩
 rw[if_neg h2]at h ⊢
 by_cases h3:pH (xF l 0)=true
 ·rw [if_pos h3]
  exact ⟨by show 0<1;decide,YG (LF h3),Or.inr (Or.inr rfl)⟩
 rw[if_neg h3]at h ⊢
 by_cases h4:(decide (xF l 0=45)&&decide (xF l 1=62))=true
 ·rw [if_pos h4]
  rw[Bool.and_eq_true,decide_eq_true_iff,decide_eq_true_iff]at h4;exact ⟨by show 0<2;decide,YG (n:=1) (by rw[h4.2];decide),Or.inr (Or.inr rfl)⟩
 rw[if_neg h4]at h;cases h
theorem aB:∀(f g p:Nat) (l:List UInt8),l.length<f->l.length<g->YH f p l=YH g p l
 |0,_,_,_,h,_=>by omega
 |f+1,0,_,_,_,h=>by omega
 |f+1,g+1,p,l,hf,hg=>by
  unfold YH;simp only
  by_cases h1:l.drop (zK false l)=[]
  ·rw [if_pos h1,if_pos h1]
  rw[if_neg h1,if_neg h1]
  by_cases h2:(yL (l.drop (zK false l))).err=0
  ·rw [if_pos h2,if_pos h2]
   have h3:=tT h2
   have h4:((l.drop (zK false l)).drop (yL (l.drop (zK false l))).n).length<l.length:=by
    rw[List.length_drop]
    have:(l.drop (zK false l)).length<=l.length:=by rw[List.length_drop];omega
    omega
   rw[aB f g _ _ (by omega) (by omega)]
  rw[if_neg h2,if_neg h2]
theorem sM {p:Nat} {l:List UInt8} (h:l.drop (zK false l)=[]):vH p l=⟨[⟨0,[],0,((p+zK false l:Nat):Int)⟩],0,0⟩:=by
 unfold vH YH;simp only;rw[if_pos h]
theorem sL {p:Nat} {l:List UInt8} (h:l.drop (zK false l)≠[]) (h2:(yL (l.drop (zK false l))).err≠0):vH p l=⟨[],(yL (l.drop (zK false l))).err,((p+zK false l:Nat):Int)⟩:=by
 unfold vH YH;simp only;rw[if_neg h,if_neg h2]
theorem sK {p:Nat} {l:List UInt8} (h:l.drop (zK false l)≠[]) (h2:(yL (l.drop (zK false l))).err=0):
 vH p l=(vH (p+zK false l+(yL (l.drop (zK false l))).n) (l.drop (zK false l+(yL (l.drop (zK false l))).n))).cons { (yL (l.drop (zK false l))).tok with place:=((p+zK false l:Nat):Int) } :=by
 have h3:=tT h2
 have e:vH p l=(YH l.length (p+zK false l+(yL (l.drop (zK false l))).n) ((l.drop (zK false l)).drop (yL (l.drop (zK false l))).n)).cons { (yL (l.drop (zK false l))).tok with place:=((p+zK false l:Nat):Int) } :=by
  unfold vH;rw[YH];simp only;rw[if_neg h,if_pos h2]
 rw[e,List.drop_drop];unfold vH;rw[aB _ ((l.drop (zK false l+(yL (l.drop (zK false l))).n)).length+1) _ _ ?_ (by omega)];have h5:(l.drop (zK false l)).length=l.length-zK false l:=List.length_drop;rw[List.length_drop];omega
def gM.app (ts:List yJ) (g:gM):gM:=if g.err=0 then ⟨ts++g.toks,0,0⟩ else g
theorem HY (g:gM) (h:g.err=0->g.place=0):g.app []=g:=by
 unfold gM.app
 split
 ·rename_i h0
  have:=h h0
  cases g
  simp_all
 rfl
theorem LE (ts:List yJ) (t:yJ) (g:gM):(g.cons t).app ts=g.app (ts++[t]):=by
 unfold gM.app gM.cons
 by_cases h:g.err=0
 ·simp [h]
 simp[h]
theorem kR {p:Nat} {l:List UInt8} (he:(vH p l).err=0):(vH p l).place=0:=by
 by_cases h:l.drop (zK false l)=[]
 ·rw [sM h]
 by_cases h2:(yL (l.drop (zK false l))).err=0
 ·rw [sK h h2]at he ⊢
  unfold gM.cons at he ⊢
  split
  ·rfl
  rename_i h3;rw[if_neg h3]at he;exact absurd he h3
 rw[sL h h2]at he;exact absurd he h2
def CZ (k:Nat):UInt8:=UInt8.ofNat (48+k)
theorem QN {k:Nat} (h:k<10):(CZ k).toNat=48+k:=by
 unfold CZ;rw[UInt8.toNat_ofNat'];omega
theorem WO {c:UInt8} (h:48<=c.toNat/\c.toNat<=57):CZ (c.toNat-48)=c:=by
 apply UInt8.toNat.inj
 rw[QN (by omega)];omega
def TD:Nat->Nat->List UInt8
 |0,_=>[]
 |f+1,n=>if n=0 then [] else TD f (n / 10)++[CZ (n % 10)]
def kB (n:Nat):List UInt8:=TD (n+1) n
theorem aA:∀(f g n:Nat),n<f->n<g->TD f n=TD g n
 |0,_,_,h,_=>by omega
 |_+1,0,_,_,h=>by omega
 |f+1,g+1,n,hf,hg=>by
  unfold TD
  by_cases h:n=0
  ·rw [if_pos h,if_pos h]
  rw[if_neg h,if_neg h,aA f g (n / 10) (by omega) (by omega)]
theorem oB:kB 0=[]:=rfl
theorem lT {n:Nat} (h:n≠0):kB n=kB (n / 10)++[CZ (n % 10)]:=by
 have e:kB n=TD n (n / 10)++[CZ (n % 10)]:=by
  unfold kB;rw[TD,if_neg h]
 rw[e];unfold kB;rw[aA n (n / 10+1) (n / 10) (by omega) (by omega)]
def gL (v:Int):List UInt8:=if v=0 then [48] else fD (decide (v<0))++kB v.natAbs
theorem lS:∀(xs ys:List UInt8) (a:Int),vV a (xs++ys)=vV (vV a xs) ys
 |[],_,_=>rfl
 |c::r,ys,a=>by rw[List.cons_append,vV,vV,lS r ys]
theorem dJ:∀(m n:Nat),n<=m->kC (kB n)/\vV 0 (kB n)=(n:Int)/\(0<n->kB n≠[]/\xF (kB n) 0≠48)
 |0,n,h=>by
  have:n=0:=by omega
  subst this;exact ⟨(fun c hc=>by cases hc),rfl,(fun h=>by omega)⟩
 |m+1,n,h=>by
  by_cases h0:n=0
  ·subst h0
   exact ⟨(fun c hc=>by cases hc),rfl,(fun h=>by omega)⟩
  obtain ⟨a1,a2,a3⟩:=dJ m (n / 10) (by omega);have hd:=QN (k:=n % 10) (by omega);rw[lT h0];refine ⟨?_,?_,fun _=>⟨by simp,?_⟩⟩
  ·intro c hc
   rcases List.mem_append.1 hc with hc|hc
   ·exact a1 c hc
   simp only[List.mem_cons,List.not_mem_nil,or_false]at hc;subst hc;rw[hd];omega
  ·rw [lS,a2]
   show (((n / 10:Nat):Int))*10+(((CZ (n % 10)).toNat:Int)-48)=_;rw[hd];omega
  by_cases h1:n / 10=0
  ·rw [h1,oB,List.nil_append,sN,hd]
   omega
  obtain ⟨b1,b2⟩:=a3 (by omega)
  cases hc:kB (n / 10) with
  |nil=>exact absurd hc b1
  |cons c r=>
   rw[hc]at b2;exact b2
theorem ZZ:∀(m:Nat) (ds:List UInt8),ds.length<=m->ds≠[]->kC ds->xF ds 0≠48->kB (vV 0 ds).toNat=ds/\0<vV 0 ds
 |m,ds,hm,hne,hd,h48=>by
  rcases List.eq_nil_or_concat ds with h|⟨xs,c,h⟩
  ·exact absurd h hne
  rw[List.concat_eq_append]at h;subst h;have hc:=hd c (by simp)
  have hdx:kC xs:=fun e he=>hd e (by simp[he])
  rw[lS];have e1:vV (vV 0 xs) [c]=vV 0 xs*10+((c.toNat:Int)-48):=rfl;rw[e1]
  cases xs with
  |nil=>
   have e2:vV 0 ([]:List UInt8)=0:=rfl;rw[e2];have h1:(c.toNat:Int)≠48:=h48
   have h2:((0:Int)*10+((c.toNat:Int)-48)).toNat=c.toNat-48:=by omega
   refine ⟨?_,by omega⟩
   rw[h2,lT (by omega)]
   have h3:(c.toNat-48) / 10=0:=by omega
   have h4:(c.toNat-48) % 10=c.toNat-48:=by omega
   rw[h3,h4,oB,WO hc]
  |cons d r=>
   match m,hm with
   |0,hm=>simp at hm
   |m+1,hm=>
    obtain ⟨i1,i2⟩:=ZZ m (d::r) (by simp at hm ⊢;omega) (by simp) hdx h48;generalize vV 0 (d::r)=v at *;refine ⟨?_,by omega⟩
    have h2:(v*10+((c.toNat:Int)-48)).toNat=v.toNat*10+(c.toNat-48):=by omega
    rw[h2,lT (by omega)]
    have h3:(v.toNat*10+(c.toNat-48)) / 10=v.toNat:=by omega
    have h4:(v.toNat*10+(c.toNat-48)) % 10=c.toNat-48:=by omega
    rw[h3,h4,i1,WO hc]
theorem ZY {neg:Bool} {ds:List UInt8} {v:Int} (hne:ds≠[]) (hd:kC ds) (h:kD neg ds=some v):gL v=fD neg++ds/\wC v=true:=by
 unfold kD at h
 split at h
 ·rename_i hc
  rw[Bool.and_eq_true]at hc;obtain ⟨ho,hf⟩:=hc;have hv:vB neg (vV 0 ds)=v:=Option.some.inj h;rw[hv]at hf;refine ⟨?_,hf⟩
  by_cases h48:xF ds 0=48
  ·unfold iX at ho
   rw[decide_eq_true h48]at ho;have ho2:(decide (ds.length=1)&& !neg)=true:=ho;rw[Bool.and_eq_true,decide_eq_true_iff]at ho2;obtain ⟨hl,hn⟩:=ho2
   have hn':neg=false:=by simpa using hn
   subst hn'
   match ds,hl with
   |[c],_=>
    have hc:(c.toNat:Int)=48:=h48
    have ec:c=48:=by apply UInt8.toNat.inj;show c.toNat=48;omega
    subst ec
    have:v=0:=by rw[<- hv];rfl
    subst this;rfl
  obtain ⟨b1,b2⟩:=ZZ ds.length ds (Nat.le_refl _) hne hd h48;unfold gL
  cases neg
  ·have hv2:vV 0 ds=v:=hv
   rw[hv2]at b1 b2;rw[if_neg (by omega),decide_eq_false (by omega)]
   have:v.natAbs=v.toNat:=by omega
   rw[this,b1]
  have hv2: -(vV 0 ds)=v:=hv;rw[if_neg (by omega),decide_eq_true (by omega)]
  have:v.natAbs=(vV 0 ds).toNat:=by omega
  rw[this,b1]
 cases h
def spelt (t:yJ):List UInt8:=if t.sort=2 then gL t.num else t.text
def dI (s:List UInt8):Bool:=decide (s=[123])||decide (s=[125])||decide (s=[61])||decide (s=[59])||decide (s=[46])||decide (s=[45,62])
theorem QM (p:Int->Bool):∀l:List UInt8,yW p (l.take (yW p l))=yW p l
 |[]=>rfl
 |c::r=>by
  by_cases h:p (c.toNat:Int)=true
  ·have e:∀r,yW p (c::r)=yW p r+1:=fun r=>by rw[yW,if_pos h]
   rw[e,List.take_succ_cons,e,QM p r]
  have e:∀r,yW p (c::r)=0:=fun r=>by rw[yW,if_neg h]
  rw[e,List.take_zero];rfl
theorem dH {l:List UInt8} (h:l≠[]):∃c r,l=c::r:=by
 cases l with
 |nil=>exact absurd rfl h
 |cons c r=>exact ⟨c,r,rfl⟩
theorem OP {r:List UInt8} (he:(yL r).err=0):spelt (yL r).tok=r.take (yL r).n/\
 (((yL r).tok.sort=1/\(yL r).tok.num=0/\(yL r).tok.text.length<=16/\rP (xF (yL r).tok.text 0)=true/\yW wR (yL r).tok.text=(yL r).tok.text.length)\/
  ((yL r).tok.sort=2/\(yL r).tok.text=[]/\wC (yL r).tok.num=true)\/
  ((yL r).tok.sort=3/\(yL r).tok.num=0/\dI (yL r).tok.text=true)):=by
 by_cases h1:rP (xF r 0)=true
 ·have e:yL r=oT r:=by unfold yL;rw[if_pos h1]
  rw[e]at he ⊢;unfold oT at he ⊢
  by_cases h2:16<yW wR r
  ·rw [if_pos h2]at he;cases he
  rw[if_neg h2];have hp:=lU (aC h1) (QO h1);have hl:(r.take (yW wR r)).length=yW wR r:=nH _ _;refine ⟨rfl,Or.inl ⟨rfl,rfl,by show (r.take (yW wR r)).length<=16;omega,?_,?_⟩⟩
  ·show rP (xF (r.take (yW wR r)) 0)=true
   have:xF (r.take (yW wR r)) 0=xF r 0:=by
    unfold xF;rw[List.getD_eq_getElem?_getD,List.getD_eq_getElem?_getD,List.getElem?_take_of_lt hp]
   rw[this];exact h1
  show yW wR (r.take (yW wR r))=(r.take (yW wR r)).length;rw[QM,hl]
 by_cases h2:(xQ (xF r 0)||(decide (xF r 0=45)&&xQ (xF r 1)))=true
 ·have e:yL r=vI r:=by unfold yL;rw[if_neg h1,if_pos h2]
  rw[e]at he ⊢;unfold vI at he ⊢
  by_cases h3:xF r 0=45
  ·simp only[h3,decide_true,if_true]at he ⊢
   have hd1:xQ (xF r 1)=true:=by
    rw[h3]at h2;have:xQ 45=false:=rfl;rw[this,decide_eq_true rfl,Bool.false_or,Bool.true_and]at h2;exact h2
   have hpos:0<yW xQ (r.drop 1):=lU (by rw[pG];exact hd1) (by rw[pG];exact dK hd1)
   have hne:(r.drop 1).take (yW xQ (r.drop 1))≠[]:=by
    intro e;have:=congrArg List.length e;rw[nH,List.length_nil]at this;omega
   cases hz:kD true ((r.drop 1).take (yW xQ (r.drop 1))) with
   |none=>rw[hz]at he;cases he
   |some v=>
    obtain ⟨a1,a2⟩:=ZY hne (pF _) hz;refine ⟨?_,Or.inr (Or.inl ⟨rfl,rfl,a2⟩)⟩
    show gL v=r.take (1+yW xQ (r.drop 1));rw[a1];obtain ⟨c,r2,rfl⟩:=dH (l:=r) (by intro e;subst e;simp[xF]at h3);have hc:(c.toNat:Int)=45:=h3
    have ec:c=45:=by apply UInt8.toNat.inj;show c.toNat=45;omega
    subst ec;rw[Nat.add_comm];rfl
  simp only[h3,decide_false,Bool.false_eq_true,if_false]at he ⊢
  have hd0:xQ (xF r 0)=true:=by
   rw[decide_eq_false h3,Bool.false_and,Bool.or_false]at h2;exact h2
  have hpos:0<yW xQ r:=lU hd0 (dK hd0)
  have hne:r.take (yW xQ r)≠[]:=by
   intro e;have:=congrArg List.length e;rw[nH,List.length_nil]at this;omega
  cases hz:kD false (r.take (yW xQ r)) with
  |none=>rw[hz]at he;cases he
  |some v=>
   obtain ⟨a1,a2⟩:=ZY hne (pF _) hz;refine ⟨?_,Or.inr (Or.inl ⟨rfl,rfl,a2⟩)⟩
   show gL v=r.take (0+yW xQ r);rw[a1,Nat.zero_add];rfl
 by_cases h3:pH (xF r 0)=true
 ·have e:yL r=oS r 1:=by unfold yL;rw[if_neg h1,if_neg h2,if_pos h3]
  rw[e];refine ⟨rfl,Or.inr (Or.inr ⟨rfl,rfl,?_⟩)⟩
  show dI (r.take 1)=true;obtain ⟨c,r2,rfl⟩:=dH (l:=r) (by intro e;subst e;cases h3);rw[sN]at h3
  have h4:c=123\/c=125\/c=61\/c=59\/c=46:=by
   unfold pH at h3;simp only[Bool.or_eq_true,decide_eq_true_eq]at h3
   rcases h3 with (((h|h)|h)|h)|h
   ·exact Or.inl (by apply UInt8.toNat.inj;show c.toNat=123;omega)
   ·exact Or.inr (Or.inl (by apply UInt8.toNat.inj;show c.toNat=125;omega))
   ·exact Or.inr (Or.inr (Or.inl (by apply UInt8.toNat.inj;show c.toNat=61;omega)))
   ·exact Or.inr (Or.inr (Or.inr (Or.inl (by apply UInt8.toNat.inj;show c.toNat=59;omega))))
   exact Or.inr (Or.inr (Or.inr (Or.inr (by apply UInt8.toNat.inj;show c.toNat=46;omega))))
  rcases h4 with rfl|rfl|rfl|rfl|rfl<;>rfl
 by_cases h4:(decide (xF r 0=45)&&decide (xF r 1=62))=true
 ·have e:yL r=oS r 2:=by unfold yL;rw[if_neg h1,if_neg h2,if_neg h3,if_pos h4]
  rw[e];refine ⟨rfl,Or.inr (Or.inr ⟨rfl,rfl,?_⟩)⟩
  show dI (r.take 2)=true;rw[Bool.and_eq_true,decide_eq_true_iff,decide_eq_true_iff]at h4
  match r,h4 with
  |[],h4=>exact absurd h4.1 (by decide)
  |[c],h4=>exact absurd h4.2 (by simp[xF])
  |c::d::r,h4=>
   have hc:(c.toNat:Int)=45:=h4.1;have hd:(d.toNat:Int)=62:=h4.2
   have ec:c=45:=by apply UInt8.toNat.inj;show c.toNat=45;omega
   have ed:d=62:=by apply UInt8.toNat.inj;show d.toNat=62;omega
   subst ec;subst ed;rfl
 exfalso
 have e:yL r=⟨wM,40,0⟩:=by unfold yL;rw[if_neg h1,if_neg h2,if_neg h3,if_neg h4]
 rw[e]at he;cases he
def yJ.by (k:Nat) (t:yJ):yJ:= { t with place:=t.place+(k:Int) }
theorem fC:∀(n p:Nat) (x:List UInt8),x.length<=n->(vH p x).err≠0->(vH p x).toks=[]/\(p:Int)<=(vH p x).place/\(vH p x).place<((p+x.length:Nat):Int)
 |n,p,x,hn,he=>by
  have hle:=rN false x
  by_cases h1:x.drop (zK false x)=[]
  ·rw [sM h1]at he;exact absurd rfl he
  have hlt:zK false x<x.length:=by
   rcases Nat.lt_or_ge (zK false x) x.length with h|h
   ·exact h
   exact absurd (List.drop_eq_nil_of_le h) h1
  by_cases h2:(yL (x.drop (zK false x))).err=0
  ·match n,hn with
   |0,hn=>exact absurd (by rw[List.eq_nil_of_length_eq_zero (Nat.le_zero.1 hn)];rfl) h1
   |n+1,hn=>
    have h3:=tT h2;have hlen:(x.drop (zK false x)).length=x.length-zK false x:=List.length_drop;have ih:=fC n (p+zK false x+(yL (x.drop (zK false x))).n) (x.drop (zK false x+(yL (x.drop (zK false x))).n)) (by rw[List.length_drop];omega);rw[List.length_drop]at ih;rw[sK h1 h2]at he ⊢;generalize vH (p+zK false x+(yL (x.drop (zK false x))).n) (x.drop (zK false x+(yL (x.drop (zK false x))).n))=g at *;unfold gM.cons at he ⊢
    by_cases hg:g.err=0
    ·rw [if_pos hg]at he;exact absurd rfl he
    rw[if_neg hg];have:=ih hg;exact ⟨this.1,by omega,by omega⟩
  rw[sL h1 h2];exact ⟨rfl,by show (p:Int)<=((p+zK false x:Nat):Int);omega,by show ((p+zK false x:Nat):Int)<_;omega⟩
theorem dG:∀(n p:Nat) (x:List UInt8),x.length<=n->∀t ∈ (vH p x).toks,(p:Int)<=t.place/\t.place<=((p+x.length:Nat):Int)
 |n,p,x,hn,t,ht=>by
  have hle:=rN false x
  by_cases h1:x.drop (zK false x)=[]
  ·rw [sM h1]at ht
   simp only[List.mem_cons,List.not_mem_nil,or_false]at ht;subst ht;exact ⟨by show (p:Int)<=((p+zK false x:Nat):Int);omega,by show ((p+zK false x:Nat):Int)<=_;omega⟩
  by_cases h2:(yL (x.drop (zK false x))).err=0
  ·match n,hn with
   |0,hn=>exact absurd (by rw[List.eq_nil_of_length_eq_zero (Nat.le_zero.1 hn)];rfl) h1
   |n+1,hn=>
    have h3:=tT h2;have hlen:(x.drop (zK false x)).length=x.length-zK false x:=List.length_drop;have ih:=dG n (p+zK false x+(yL (x.drop (zK false x))).n) (x.drop (zK false x+(yL (x.drop (zK false x))).n)) (by rw[List.length_drop];omega) t;rw[List.length_drop]at ih;rw[sK h1 h2]at ht;generalize vH (p+zK false x+(yL (x.drop (zK false x))).n) (x.drop (zK false x+(yL (x.drop (zK false x))).n))=g at *;unfold gM.cons at ht
    by_cases hg:g.err=0
    ·rw [if_pos hg]at ht
     rcases List.mem_cons.1 ht with rfl|ht
     ·exact ⟨by show (p:Int)<=((p+zK false x:Nat):Int);omega,by show ((p+zK false x:Nat):Int)<=_;omega⟩
     have:=ih ht;exact ⟨by omega,by omega⟩
    rw[if_neg hg]at ht;have:=ih ht;exact ⟨by omega,by omega⟩
  rw[sL h1 h2]at ht
  cases ht
theorem WN:∀(n p:Nat) (x:List UInt8),x.length<=n->(vH p x).err=0->(vH p x).toks.length<=x.length+1/\(vH p x).toks≠[]
 |n,p,x,hn,he=>by
  by_cases h1:x.drop (zK false x)=[]
  ·rw [sM h1];exact ⟨by simp,by simp⟩
  by_cases h2:(yL (x.drop (zK false x))).err=0
  ·match n,hn with
   |0,hn=>exact absurd (by rw[List.eq_nil_of_length_eq_zero (Nat.le_zero.1 hn)];rfl) h1
   |n+1,hn=>
    have h3:=tT h2;have hlen:(x.drop (zK false x)).length=x.length-zK false x:=List.length_drop;have ih:=WN n (p+zK false x+(yL (x.drop (zK false x))).n) (x.drop (zK false x+(yL (x.drop (zK false x))).n)) (by rw[List.length_drop];omega);rw[List.length_drop]at ih;rw[sK h1 h2]at he ⊢;generalize vH (p+zK false x+(yL (x.drop (zK false x))).n) (x.drop (zK false x+(yL (x.drop (zK false x))).n))=g at *;unfold gM.cons at he ⊢
    by_cases hg:g.err=0
    ·rw [if_pos hg]
     have:=(ih hg).1;exact ⟨by show (_::g.toks).length<=_;simp;omega,by simp⟩
    rw[if_neg hg]at he;exact absurd he hg
  rw[sL h1 h2]at he;exact absurd he h2
end Go.Proofs.YtdcjdnkdeamigaaGreatDoor
