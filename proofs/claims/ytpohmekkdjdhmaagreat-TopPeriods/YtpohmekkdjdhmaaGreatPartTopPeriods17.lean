/- Texts of one chain. -/
import Derived.Test.YtpohmekkdjdhmaaGreatPartQ
import Derived.Test.YtpohmekkdjdhmaaGreatPartTopPeriods15
import Derived.Test.YtpohmekkdjdhmaaGreatPartTopPeriods11
import Derived.Test.YtpohmekkdjdhmaaGreatPartTopPeriods10
namespace Go.Proofs.YtpohmekkdjdhmaaGreat
open Go.RowKit
def xY (L:List (Int × Bool)) (k:Nat):Int × Bool:=L.getD k (0,false)
def oE (A:List NA) (x:Int × Bool):NA:=if x.2=true then ⟨(zU A x.1.toNat).t,(zU A x.1.toNat).f,(zU A x.1.toNat).k,(zU A x.1.toNat).g,(zU A x.1.toNat).s⟩ else zU A x.1.toNat
def jC (A:List NA) (x:Int × Bool):Int:=(oE A x).f
def jV (A:List NA) (x:Int × Bool):Int:=(oE A x).t
def LM (A:List NA) (x:Int × Bool):Bool:=decide (0<=x.1)&&decide (x.1<(A.length:Int))
def LJ (A:List NA) (L:List (Int × Bool)):Bool:=(List.range L.length).all fun i=>LM A (xY L i)
def UY (n i:Nat):Nat:=if i=0 then n-1 else i-1
def lkW (A:List NA) (L:List (Int × Bool)) (i:Nat):Bool:=decide (jC A (xY L i)=jV A (xY L (UY L.length i)))
def hmW (A:List NA) (L:List (Int × Bool)):Bool:=(List.range L.length).all (lkW A L)
def paW (A:List NA) (x y:Int × Bool):Bool:=decide (x.1=y.1)||decide (jC A x=jC A y)
def frW (A:List NA) (L:List (Int × Bool)) (i:Nat):Bool:=(List.range i).all fun j=> !paW A (xY L i) (xY L j)
def twW (A:List NA) (L:List (Int × Bool)):Bool:= !((List.range L.length).all (frW A L))
def QX (A:List NA) (L:List (Int × Bool)):Bool:=decide (0<L.length)&&LJ A L&&hmW A L&& !twW A L
def jH (A:List NA) (L:List (Int × Bool)):List Int:=L.map fun x=>(oE A x).g
def mG (A:List NA) (L:List (Int × Bool)):List Int:=L.map fun x=>(oE A x).k
def alW (A:List NA) (L:List (Int × Bool)):Bool:=decide (zI (wV (jH A L))=zI (wV (mG A L)))
def BO (n:NN) (L:List (Int × Bool)):Int:=if zN n=0 then (if QX n.arcs L=true then (if alW n.arcs L=true then 121 else 0) else 120) else zN n
theorem wK {n:Nat} {p:Nat->Bool} :(List.range n).all p=true↔∀i,i<n->p i=true:=by simp[List.all_eq_true,List.mem_range]
theorem rV {n i:Nat} {p:Nat->Bool} (hi:i<n) (h:p i=false):(List.range n).all p=false:=by
 rw[<- Bool.not_eq_true,wK]
 exact fun x=>by rw[x i hi]at h;cases h
theorem wR {L:List (Int × Bool)} {k:Nat} (h:k<L.length):xY L k=L[k]:=by
 unfold xY;rw[List.getD_eq_getElem?_getD,List.getElem?_eq_getElem h];rfl
theorem mF {A:List NA} {L:List (Int × Bool)} :LJ A L=true↔∀x,x ∈ L->LM A x=true:=by
 unfold LJ;rw[wK]
 constructor
 ·intro h x hx
  obtain ⟨i,hi,rfl⟩:=List.mem_iff_getElem.1 hx;have:=h i hi;rwa[wR hi]at this
 intro h i hi;rw[wR hi];exact h _ (List.getElem_mem _)
def NP (A:List NA):Int->List (Int × Bool)->Int->Prop
 |p,[],q=>p=q
 |p,x::L,q=>jC A x=p/\NP A (jV A x) L q
theorem fO {A:List NA} :∀ {p r:Int} {L M:List (Int × Bool)},NP A p (L++M) r↔∃q,NP A p L q/\NP A q M r
 |p,r,[],M=>⟨fun h=>⟨p,rfl,h⟩,fun ⟨q,e,h⟩=>by cases e;exact h⟩
 |p,r,x::L,M=>by
  show (jC A x=p/\NP A (jV A x) (L++M) r)↔∃q,(jC A x=p/\NP A (jV A x) L q)/\NP A q M r;rw[fO];exact ⟨fun ⟨h,q,a,b⟩=>⟨q,⟨h,a⟩,b⟩,fun ⟨q,⟨h,a⟩,b⟩=>⟨h,q,a,b⟩⟩
theorem GC {A:List NA} :∀ {p q:Int} {L:List (Int × Bool)},NP A p L q->p::L.map (jV A)=L.map (jC A)++[q]
 |p,q,[],h=>by cases h;rfl
 |p,q,x::L,⟨h1,h2⟩=>by
  have:=GC h2;show p::jV A x::L.map (jV A)=jC A x::(L.map (jC A)++[q])
  rw[this,h1]
theorem bF {A:List NA} :∀ {p q:Int} {L:List (Int × Bool)},NP A p L q↔(∀ i,i<L.length->jC A (xY L i)=if i=0 then p else jV A (xY L (i-1)))/\(if L.length=0 then p else jV A (xY L (L.length-1)))=q
 |p,q,[]=>by
  show p=q↔_;simp
 |p,q,x::L=>by
  show (jC A x=p/\NP A (jV A x) L q)↔_;rw[bF]
  constructor
  ·rintro ⟨h1,h2,h3⟩
   refine ⟨fun i hi=>?_,?_⟩
   ·cases i with
    |zero=>exact h1
    |succ i=>
     have:=h2 i (Nat.lt_of_succ_lt_succ hi);show jC A (xY L i)=jV A (xY (x::L) i)
     rw[this]
     cases i with
     |zero=>rfl
     |succ i=>rfl
   show jV A (xY (x::L) L.length)=q;rw[<- h3]
   cases e:L.length with
   |zero=>rfl
   |succ k=>rfl
  rintro ⟨h1,h2⟩
  refine ⟨h1 0 (Nat.succ_pos _),fun i hi=>?_,?_⟩
  ·have:=h1 (i+1) (Nat.succ_lt_succ hi)
   have e:jC A (xY (x::L) (i+1))=jC A (xY L i):=rfl;rw[e]at this;rw[this]
   cases i with
   |zero=>rfl
   |succ i=>rfl
  rw[<- h2];show _=jV A (xY (x::L) L.length)
  cases e:L.length with
  |zero=>rfl
  |succ k=>rfl
theorem QW {A:List NA} {L:List (Int × Bool)} (h0:0<L.length):hmW A L=true↔∃p,NP A p L p:=by
 unfold hmW lkW UY;rw[wK]
 constructor
 ·intro h
  refine ⟨jV A (xY L (L.length-1)),bF.2 ⟨fun i hi=>?_,by rw[if_neg (by omega)]⟩⟩
  have:=of_decide_eq_true (h i hi);rw[this]
  split<;>rfl
 rintro ⟨p,h⟩ i hi
 obtain ⟨h1,h2⟩:=bF.1 h;rw[if_neg (by omega)]at h2;rw[h1 i hi]
 apply decide_eq_true
 split
 ·exact h2.symm
 rfl
theorem LG {A:List NA} {L:List (Int × Bool)} :twW A L=false↔(L.map Prod.fst).Nodup/\(L.map (jC A)).Nodup:=by
 unfold twW frW paW;rw[Bool.not_eq_false',wK];unfold List.Nodup;rw[List.pairwise_iff_getElem,List.pairwise_iff_getElem]
 constructor
 ·intro h
  constructor
  ·intro i j hi hj hij
   simp only[List.length_map]at hi hj;have:=wK.1 (h j hj) i hij;rw[wR hi,wR hj]at this;simp at this;rw[List.getElem_map,List.getElem_map]
   exact fun e=>this.1 e.symm
  intro i j hi hj hij;simp only[List.length_map]at hi hj;have:=wK.1 (h j hj) i hij;rw[wR hi,wR hj]at this;simp at this;rw[List.getElem_map,List.getElem_map]
  exact fun e=>this.2 e.symm
 rintro ⟨h1,h2⟩ i hi
 rw[wK];intro j hj;have a:=h1 j i (by simp;omega) (by simp;omega) hj;have b:=h2 j i (by simp;omega) (by simp;omega) hj;rw[List.getElem_map,List.getElem_map]at a b;rw[wR hi,wR (by omega)];simp;exact ⟨fun e=>a e.symm,fun e=>b e.symm⟩
structure ZD (A : List NA) (L : List (Int × Bool)) : Prop where
 some:0<L.length
 named:∀x,x ∈ L->LM A x=true
 home:∃p,NP A p L p
 arcs:(L.map Prod.fst).Nodup
 starts:(L.map (jC A)).Nodup
theorem UX {A:List NA} {L:List (Int × Bool)} :QX A L=true↔ZD A L:=by
 unfold QX;simp only[Bool.and_eq_true,decide_eq_true_eq,Bool.not_eq_true']
 constructor
 ·rintro ⟨⟨⟨h0,h1⟩,h2⟩,h3⟩
  exact ⟨h0,mF.1 h1,(QW h0).1 h2,(LG.1 h3).1,(LG.1 h3).2⟩
 intro h;exact ⟨⟨⟨h.some,mF.2 h.named⟩,(QW h.some).2 h.home⟩,LG.2 ⟨h.arcs,h.starts⟩⟩
theorem ZD.few {A:List NA} {L:List (Int × Bool)} (h:ZD A L):L.length<=A.length:=by
 have:=oT A.length (L.map fun x=>x.1.toNat) (by
  have ha:=h.arcs;unfold List.Nodup at ha ⊢;rw[List.pairwise_map]at ha ⊢;refine List.Pairwise.imp_of_mem (fun {x y} hx hy hxy e=>hxy ?_) ha
  have n1:=h.named x hx;have n2:=h.named y hy;unfold LM at n1 n2;simp at n1 n2
  omega) (fun x hx=>by
  obtain ⟨y,hy,rfl⟩:=List.mem_map.1 hx;have n1:=h.named y hy;unfold LM at n1;simp at n1
  omega)
 simpa using this
theorem zRL {A:List NA} {p:Int} {L:List (Int × Bool)} (h:NP A p L p):(L.map (jV A)).Perm (L.map (jC A)):=by
 have e:=GC h
 have h1:(p::L.map (jV A)).Perm (p::L.map (jC A)):=by rw[e];exact List.perm_append_singleton _ _
 exact List.Perm.cons_inv h1
theorem ZD.turn {A:List NA} {x:Int × Bool} {L:List (Int × Bool)} (h:ZD A (x::L)):ZD A (L++[x]):=by
 have hp:(L++[x]).Perm (x::L):=List.perm_append_singleton _ _;obtain ⟨p,h1,h2⟩:=h.home;refine ⟨by simp,fun y hy=>h.named y ((List.Perm.mem_iff hp).1 hy),⟨jV A x,fO.2 ⟨p,h2,h1,rfl⟩⟩,((hp.map _).nodup_iff).2 h.arcs,((hp.map _).nodup_iff).2 h.starts⟩
def rvW:List (Int × Bool)->List (Int × Bool)
 |[]=>[]
 |x::L=>rvW L++[(x.1,!x.2)]
theorem UW (L:List (Int × Bool)):rvW L=(L.map fun x=>(x.1,!x.2)).reverse:=by
 induction L with
 |nil=>rfl
 |cons x L ih=>show rvW L++[_]=_;rw[ih,List.map_cons,List.reverse_cons]
theorem zNX (L:List (Int × Bool)):(rvW L).length=L.length:=by rw[UW];simp
theorem GB (A:List NA) (x:Int × Bool):jC A (x.1,!x.2)=jV A x/\jV A (x.1,!x.2)=jC A x/\(oE A (x.1,!x.2)).g=(oE A x).k/\(oE A (x.1,!x.2)).k=(oE A x).g:=by
 obtain ⟨i,b⟩:=x;unfold jC jV oE
 cases b<;>simp
theorem FZ {A:List NA} :∀ {p q:Int} {L:List (Int × Bool)},NP A p L q->NP A q (rvW L) p
 |p,q,[],h=>Eq.symm h
 |p,q,x::L,⟨h1,h2⟩=>by
  obtain ⟨b1,b2,-,-⟩:=GB A x;exact fO.2 ⟨jV A x,FZ h2,b1,by rw[b2];exact h1⟩
theorem ZD.back {A:List NA} {L:List (Int × Bool)} (h:ZD A L):ZD A (rvW L):=by
 obtain ⟨p,hw⟩:=h.home;refine ⟨by rw[zNX];exact h.some,fun y hy=>?_,⟨p,FZ hw⟩,?_,?_⟩
 ·rw [UW,List.mem_reverse]at hy
  obtain ⟨x,hx,rfl⟩:=List.mem_map.1 hy;exact h.named x hx
 ·rw [UW,List.map_reverse,List.map_map]
  exact ((List.reverse_perm _).nodup_iff).2 h.arcs
 rw[UW,List.map_reverse,List.map_map];refine ((List.reverse_perm _).nodup_iff).2 ?_
 have e:(jC A ∘ fun x:Int × Bool=>(x.1,!x.2))=jV A:=by funext x;exact (GB A x).1
 rw[e];exact ((zRL hw).nodup_iff).2 h.starts
def nH (P:List (Nat × Bool)):List (Int × Bool):=P.map fun x=>((x.1:Int),x.2)
theorem LF (A:List NA) (j:Nat) (b:Bool):(oE A ((j:Int),b)).g.toNat=(if b then kN A j else gN A j)/\(oE A ((j:Int),b)).k.toNat=(if b then gN A j else kN A j):=by
 unfold oE gN kN
 cases b<;>exact ⟨rfl,rfl⟩
theorem bE {A:List NA} {T:List Nat} {c:Nat->Nat} (hT:∀j,j ∈ T->jX A c j):∀ {P:List (Nat × Bool)} {s t:Nat},rC A T s P t->zI (wV (jH A (nH P)))*c s=zI (wV (mG A (nH P)))*c t
 |[],s,t,h=>by rw[show s=t from h];rfl
 |(j,b)::P,s,t,⟨hj,hs,hw⟩=>by
  have ih:=bE hT hw;have e:=hT j hj;obtain ⟨e1,e2⟩:=LF A j b;show ((oE A ((j:Int),b)).g.toNat*zI (wV (jH A (nH P))))*c s=((oE A ((j:Int),b)).k.toNat*zI (wV (mG A (nH P))))*c t
  rw[e1,e2,<-hs];unfold jX at e
  have key:(if b then kN A j else gN A j)*c (dC A (j,b))=(if b then gN A j else kN A j)*c (TD A (j,b)):=by
   unfold dC TD
   cases b
   ·exact e
   exact e.symm
  generalize (if b=true then kN A j else gN A j)=p at *;generalize (if b=true then gN A j else kN A j)=q at *
  calc p*zI (wV (jH A (nH P)))*c (dC A (j,b))=p*c (dC A (j,b))*zI (wV (jH A (nH P))):=by rw[Nat.mul_right_comm]
   _=q*c (TD A (j,b))*zI (wV (jH A (nH P))):=by rw[key]
   _=q*(zI (wV (jH A (nH P)))*c (TD A (j,b))):=by rw[Nat.mul_assoc,Nat.mul_comm (c _)]
   _=q*(zI (wV (mG A (nH P)))*c t):=by rw[ih]
   _=q*zI (wV (mG A (nH P)))*c t:=by rw[Nat.mul_assoc]
theorem eA {A:List NA} {n:Nat} (hR:LT A n):∀ {P:List (Nat × Bool)},(∀ x,x ∈ P->x.1<n)->1<=zI (wV (mG A (nH P)))
 |[],_=>Nat.le_refl _
 |(j,b)::P,h=>by
  have ih:=eA hR fun x hx=>h x (List.mem_cons_of_mem _ hx)
  obtain ⟨-,e2⟩:=LF A j b;obtain ⟨r1,r2⟩:=hR j (h (j,b) (List.mem_cons_self ..));show 1<=(oE A ((j:Int),b)).k.toNat*zI (wV (mG A (nH P)))
  rw[e2];refine Nat.mul_pos ?_ ih
  cases b
  ·exact r2
  exact r1
theorem BM {A:List NA} {n i:Nat} (hR:LT A n) (hne:¬jX A (wX A n) i) {P:List (Nat × Bool)} (hw:rC A (yJ A n) (tN A i) P (fN A i)):alW A (((i:Int),false)::nH P)=false:=by
 have e:=bE (c:=wX A n) (fun j hj=>oR hj) hw;have pos:=eA hR (P:=P) (fun x hx=>uX (hw.mem x hx));obtain ⟨e1,e2⟩:=LF A i false;unfold alW
 apply decide_eq_false
 intro h;have h':(oE A ((i:Int),false)).g.toNat*zI (wV (jH A (nH P)))=(oE A ((i:Int),false)).k.toNat*zI (wV (mG A (nH P))):=h;rw[e1,e2]at h';simp only[Bool.false_eq_true,if_false]at h';refine hne ?_
 unfold jX
 have q:zI (wV (mG A (nH P)))*(gN A i*wX A n (fN A i))=zI (wV (mG A (nH P)))*(kN A i*wX A n (tN A i)):=by
  calc zI (wV (mG A (nH P)))*(gN A i*wX A n (fN A i))=gN A i*(zI (wV (mG A (nH P)))*wX A n (fN A i)):=by rw[Nat.mul_left_comm]
   _=gN A i*(zI (wV (jH A (nH P)))*wX A n (tN A i)):=by rw[e]
   _=gN A i*zI (wV (jH A (nH P)))*wX A n (tN A i):=by rw[Nat.mul_assoc]
   _=kN A i*zI (wV (mG A (nH P)))*wX A n (tN A i):=by rw[h']
   _=zI (wV (mG A (nH P)))*(kN A i*wX A n (tN A i)):=by rw[Nat.mul_comm (kN A i),Nat.mul_assoc]
 exact Nat.eq_of_mul_eq_mul_left pos q
theorem FY {A:List NA} {k:Nat} :∀ {P:List (Nat × Bool)} {s t:Nat} {c:Option Nat},rC A (yJ A k) s P t->mS c P->(P.map (dC A)).Nodup->t ∉ P.map (dC A)->(P.map Prod.fst).Nodup
 |[],_,_,_,_,_,_,_=>List.nodup_nil
 |(j,b)::P,s,t,c,⟨hj,hs,hw⟩,hn,hd,ht=>by
  rw[List.map_cons,List.nodup_cons]at hd;rw[List.map_cons,List.mem_cons,not_or]at ht;have ih:=FY hw hn.2 hd.2 ht.2;rw[List.map_cons,List.nodup_cons];refine ⟨fun hm=>?_,ih⟩
  obtain ⟨y,hy,ey⟩:=List.mem_map.1 hm;obtain ⟨j',b'⟩:=y;simp only at ey;subst ey
  by_cases hb:b'=b
  ·subst hb
   exact hd.1 (List.mem_map_of_mem hy)
  have hst:dC A (j',b')=TD A (j',b):=by
   unfold dC TD
   cases b<;>cases b'<;>first|rfl|exact absurd rfl hb
  cases P with
  |nil=>cases hy
  |cons z Q=>
   have hz:dC A z=TD A (j',b):=hw.2.1
   rcases List.mem_cons.1 hy with e|e
   ·have h1:=hn.2.1
    rw[<- e]at h1;exact h1 rfl
   rw[List.map_cons,List.nodup_cons]at hd;exact hd.2.1 (by rw[hz,<-hst];exact List.mem_map_of_mem e)
def zRK (A:List NA):Prop:=∀j,j<A.length->(zU A j).f=(fN A j:Int)/\(zU A j).t=(tN A j:Int)
theorem LE {A:List NA} (hE:zRK A) {x:Nat × Bool} (hx:x.1<A.length):jC A ((x.1:Int),x.2)=(dC A x:Int)/\jV A ((x.1:Int),x.2)=(TD A x:Int):=by
 obtain ⟨j,b⟩:=x;obtain ⟨h1,h2⟩:=hE j hx;unfold jC jV oE dC TD
 cases b
 ·exact ⟨h1,h2⟩
 exact ⟨h2,h1⟩
theorem zWJ {A:List NA} (hE:zRK A):∀ {P:List (Nat × Bool)} {s t:Nat},rC A (yJ A A.length) s P t->NP A (s:Int) (nH P) (t:Int)
 |[],s,t,h=>by rw[show s=t from h];rfl
 |x::P,s,t,⟨hj,hs,hw⟩=>by
  obtain ⟨h1,h2⟩:=LE hE (uX hj);refine ⟨by rw[<- hs];exact h1,?_⟩
  rw[h2];exact zWJ hE hw
theorem LD {A:List NA} {i:Nat} (hE:zRK A) (hi:i<A.length) (hne:¬jX A (wX A A.length) i) {P:List (Nat × Bool)} {c:Option Nat} (hw:rC A (yJ A A.length) (tN A i) P (fN A i)) (hn:mS c P):ZD A (((i:Int),false)::nH P):=by
 obtain ⟨n1,n2⟩:=fR hw hn;have n3:=FY hw hn n1 n2;obtain ⟨s1,s2⟩:=LE hE (x:=(i,false)) hi
 have hst:(nH P).map (jC A)=(P.map (dC A)).map (fun k:Nat=>(k:Int)):=by
  unfold nH;rw[List.map_map,List.map_map]
  exact List.map_congr_left fun x hx=>(LE hE (uX (hw.mem x hx))).1
 have har:(nH P).map Prod.fst=(P.map Prod.fst).map (fun k:Nat=>(k:Int)):=by
  unfold nH;rw[List.map_map,List.map_map];rfl
 have inj:∀ {l:List Nat},l.Nodup->(l.map (fun k:Nat=>(k:Int))).Nodup:=fun {l} h=>by
  unfold List.Nodup at h ⊢;rw[List.pairwise_map]
  exact h.imp fun {a b} hab e=>hab (by exact_mod_cast e)
 refine ⟨by simp,fun x hx=>?_,⟨(fN A i:Int),s1,?_⟩,?_,?_⟩
 ·rcases List.mem_cons.1 hx with rfl|hx
  ·unfold LM;simp;omega
  obtain ⟨y,hy,rfl⟩:=List.mem_map.1 hx;have:=uX (hw.mem y hy);unfold LM;simp;omega
 ·rw [s2]
  exact zWJ hE hw
 ·rw [List.map_cons,List.nodup_cons,har]
  refine ⟨fun hm=>?_,inj n3⟩
  obtain ⟨k,hk,ek⟩:=List.mem_map.1 hm
  have ek':k=i:=by have q:(k:Int)=(i:Int):=ek;omega
  subst ek';obtain ⟨y,hy,rfl⟩:=List.mem_map.1 hk;exact hne (oR (hw.mem y hy))
 rw[List.map_cons,List.nodup_cons,hst,s1];refine ⟨fun hm=>?_,inj n1⟩
 obtain ⟨k,hk,ek⟩:=List.mem_map.1 hm
 have ek':k=fN A i:=by have q:(k:Int)=(fN A i:Int):=ek;omega
 rw[ek']at hk;exact n2 hk
theorem LC {n:NN} {i:Nat} (hc:zN n=0) (hR:LT n.arcs n.arcs.length) (hE:zRK n.arcs) (hi:i<n.arcs.length) (hne:¬jX n.arcs (wX n.arcs n.arcs.length) i) {P:List (Nat × Bool)} {c:Option Nat} (hw:rC n.arcs (yJ n.arcs n.arcs.length) (tN n.arcs i) P (fN n.arcs i)) (hn:mS c P):BO n (((i:Int),false)::nH P)=0:=by
 unfold BO;rw[if_pos hc,if_pos (UX.2 (LD hE hi hne hw hn)),BM hR hne hw];rfl
theorem zPB {A:List NA} {N v:Nat} (hv:N<=v):∀ {k:Nat},(∀ j,j<k->fN A j<N/\tN A j<N)->zQ A k v=v/\wX A k v=1
 |0,_=>⟨rfl,rfl⟩
 |k+1,h=>by
  obtain ⟨h1,h2⟩:=zPB hv (k:=k) fun j hj=>h j (by omega)
  obtain ⟨f1,t1⟩:=h k (by omega);have l1:=tR (A:=A) (k:=k) (v:=fN A k);have l2:=tR (A:=A) (k:=k) (v:=tN A k)
  by_cases q:zQ A k (fN A k)=zQ A k (tN A k)
  ·rw [sM q,lG q];exact ⟨h1,h2⟩
  rw[RB q,iH q,h1];unfold jW;rw[h1,if_neg (by omega),if_neg (by omega),if_neg (by omega)];exact ⟨rfl,h2⟩
def yQ (x y:Nat):Int × Int:=(uE x y,tO x y)
theorem uS {x y:Nat} (hy:1<=y):yM (yQ x y).1 (yQ x y).2=true:=(lW (n:=(x:Int)) (d:=(y:Int)) (by omega)).1
theorem oQ {x y:Nat} (hy:1<=y):(yQ x y).1*(y:Int)=(x:Int)*(yQ x y).2:=(lW (n:=(x:Int)) (d:=(y:Int)) (by omega)).2
theorem fM (x y:Nat):yQ x y=(((x / Nat.gcd x y:Nat):Int),((y / Nat.gcd x y:Nat):Int)):=by
 have h0:¬((y:Int)<0):=by omega
 have hg:gg (x:Int) (y:Int)=Nat.gcd x y:=by simp[gg]
 unfold yQ uE tO;rw[if_neg h0,if_neg h0,hg];rfl
theorem zRJ {x y:Nat} :0<=(yQ x y).1/\(yQ x y).1<=(x:Int)/\0<=(yQ x y).2/\(yQ x y).2<=(y:Int):=by
 rw[fM];have h1:=Nat.div_le_self x (Nat.gcd x y);have h2:=Nat.div_le_self y (Nat.gcd x y);refine ⟨Int.natCast_nonneg _,Int.ofNat_le.2 h1,Int.natCast_nonneg _,Int.ofNat_le.2 h2⟩
theorem bD {x y:Nat} (hx:x<=9223372036854775807) (hy:y<=9223372036854775807):yK (yQ x y).1=true/\yK (yQ x y).2=true:=by
 obtain ⟨h1,h2,h3,h4⟩:=zRJ (x:=x) (y:=y);exact ⟨xU (by omega),xU (by omega)⟩
theorem zRI {x y:Nat} (hx:1<=x) (hy:1<=y):1<=(yQ x y).1/\1<=(yQ x y).2:=by
 rw[fM];have h1:=mL (y:=y) hx;have h2:=sS (x:=x) hy;exact ⟨Int.ofNat_le.2 h1,Int.ofNat_le.2 h2⟩
theorem zWI {x:Nat} (hx:1<=x):yQ x x=(1,1):=by
 rw[fM,Nat.gcd_self,Nat.div_self hx];rfl
theorem BI {x z h p q:Nat} (hh:1<=h) (hq:1<=q) (e:p*x=q*z):pB (yQ x h).1 (yQ x h).2 (yQ p q).1 (yQ p q).2=(yQ z h).1/\pA (yQ x h).1 (yQ x h).2 (yQ p q).1 (yQ p q).2=(yQ z h).2:=by
 have v1:=uS (x:=x) hh;have v2:=uS (x:=p) hq;have v3:=uS (x:=z) hh;have w1:=oQ (x:=x) hh;have w2:=oQ (x:=p) hq;have w3:=oQ (x:=z) hh;obtain ⟨t1,t2⟩:=gG v1 v2;have pb:=(yB.1 v1).1;have pd:=(yB.1 v2).1
 have eI:(p:Int)*(x:Int)=(q:Int)*(z:Int):=by rw[<- Int.natCast_mul,<-Int.natCast_mul,e]
 refine oC t1 v3 ?_
 generalize (yQ x h).1=a at *;generalize (yQ x h).2=b at *;generalize (yQ p q).1=c at *;generalize (yQ p q).2=d at *;generalize (yQ z h).1=u at *;generalize (yQ z h).2=v at *;generalize pB a b c d=T at *;generalize pA a b c d=U at *
 have hI:(h:Int)≠0:=by omega
 have qI:(q:Int)≠0:=by omega
 have k:(T*v)*(b*d*((h:Int)*(q:Int)))=(u*U)*(b*d*((h:Int)*(q:Int))):=by
  calc (T*v)*(b*d*((h:Int)*(q:Int)))=(T*(b*d))*(v*((h:Int)*(q:Int))):=by ac_rfl
   _=(a*c*U)*(v*((h:Int)*(q:Int))):=by rw[t2]
   _=(a*(h:Int))*(c*(q:Int))*(U*v):=by ac_rfl
   _=((x:Int)*b)*((p:Int)*d)*(U*v):=by rw[w1,w2]
   _=((p:Int)*(x:Int))*(b*d*(U*v)):=by ac_rfl
   _=((q:Int)*(z:Int))*(b*d*(U*v)):=by rw[eI]
   _=((z:Int)*v)*((q:Int)*b*d*U):=by ac_rfl
   _=(u*(h:Int))*((q:Int)*b*d*U):=by rw[w3]
   _=(u*U)*(b*d*((h:Int)*(q:Int))):=by ac_rfl
 refine Int.eq_of_mul_eq_mul_right (fun z0=>?_) k
 rcases Int.mul_eq_zero.1 z0 with z1|z1
 ·rcases Int.mul_eq_zero.1 z1 with z2|z2<;>omega
 rcases Int.mul_eq_zero.1 z1 with z2|z2<;>omega
def iG (x h p q:Nat):List (Int × Int):=[yQ x h,yQ p q]
theorem BH {x z h p q:Nat} (hh:1<=h) (hq:1<=q) (e:p*x=q*z) (hf:yK (yQ x h).1=true/\yK (yQ x h).2=true):
 (ZG (iG x h p q)=0/\VQ (iG x h p q)=(yQ z h).1/\VP (iG x h p q)=(yQ z h).2/\yK (yQ z h).1=true/\yK (yQ z h).2=true)\/(ZG (iG x h p q)=4/\(9223372036854775807<z\/9223372036854775807<h)):=by
 have v1:=uS (x:=x) hh;have v2:=uS (x:=p) hq;obtain ⟨o1,o2⟩:=zTB v1;obtain ⟨s1,s2⟩:=BI hh hq e
 have ha:vL (iG x h p q)=true:=by
  unfold iG vL;rw[v1];unfold vL;rw[v2];rfl
 have hb:sX 1 1 (yQ x h).1 (yQ x h).2=true:=by
  unfold sX;rw[o1,o2,hf.1,hf.2];rfl
 have hm:vG 1 1 (iG x h p q)=if sX (yQ x h).1 (yQ x h).2 (yQ p q).1 (yQ p q).2 then some (pB (yQ x h).1 (yQ x h).2 (yQ p q).1 (yQ p q).2,pA (yQ x h).1 (yQ x h).2 (yQ p q).1 (yQ p q).2) else none:=by
  unfold iG;rw[vG,if_pos hb,o1,o2,vG];rfl
 have ht:sX (yQ x h).1 (yQ x h).2 (yQ p q).1 (yQ p q).2=(yK (yQ z h).1&&yK (yQ z h).2):=by unfold sX;rw[s1,s2]
 rw[ht,s1,s2]at hm
 by_cases hw:9223372036854775807<z\/9223372036854775807<h
 ·cases hfz:(yK (yQ z h).1&&yK (yQ z h).2)
  ·right
   rw[hfz]at hm;refine ⟨?_,hw⟩
   unfold ZG;rw[if_pos ha,hm];rfl
  left
  rw[hfz]at hm;rw[Bool.and_eq_true]at hfz;unfold ZG VQ VP;rw[if_pos ha,if_pos ha,if_pos ha,hm];exact ⟨rfl,rfl,rfl,hfz.1,hfz.2⟩
 left
 have hfz:=bD (x:=z) (y:=h) (by omega) (by omega);rw[hfz.1,hfz.2]at hm;unfold ZG VQ VP;rw[if_pos ha,if_pos ha,if_pos ha,hm];exact ⟨rfl,rfl,rfl,hfz.1,hfz.2⟩
theorem QV {P:Nat} (hP:1<=P):∀ {L:List Int} {m:Nat},m ∣ P->(∀ x,x ∈ L->x.natAbs ∣ P)->(uW m L=none->9223372036854775807<P)/\∀K,uW m L=some K->K ∣ P/\m ∣ K/\∀x,x ∈ L->x.natAbs ∣ K
 |[],m,hm,_=>⟨(fun h=>by cases h),fun K h=>by cases h;exact ⟨hm,Nat.dvd_refl _,fun x hx=>by cases hx⟩⟩
 |y::L,m,hm,hL=>by
  have hl:Nat.lcm m y.natAbs ∣ P:=Nat.lcm_dvd hm (hL y (List.mem_cons_self ..));have ih:=QV hP (L:=L) hl (fun x hx=>hL x (List.mem_cons_of_mem _ hx))
  constructor
  ·intro h
   rw[uW]at h
   split at h
   ·exact ih.1 h
   rename_i hf
   have:=Nat.le_of_dvd hP hl;have hf':=tY.1 (by simpa using hf);omega
  intro K h;rw[uW]at h
  split at h
  ·obtain ⟨h1,h2,h3⟩:=ih.2 K h
   refine ⟨h1,Nat.dvd_trans (Nat.dvd_lcm_left _ _) h2,fun x hx=>?_⟩
   rcases List.mem_cons.1 hx with rfl|hx
   ·exact Nat.dvd_trans (Nat.dvd_lcm_right _ _) h2
   exact h3 x hx
  cases h
def xG (c:Nat->Nat) (h:Nat) (M:List Nat):List (Int × Int):=M.map fun v=>yQ (c v) (c h)
theorem QU {c:Nat->Nat} {h:Nat} (hh:1<=c h):∀(M:List Nat),vL (xG c h M)=true
 |[]=>rfl
 |v::M=>by
  show (yM (yQ (c v) (c h)).1 (yQ (c v) (c h)).2&&vL (xG c h M))=true;rw[uS hh,QU hh M];rfl
theorem zRH (x y:Nat):(yQ x y).2.natAbs ∣ y:=by
 rw[fM];exact ⟨Nat.gcd x y,(Nat.div_mul_cancel (Nat.gcd_dvd_right x y)).symm⟩
theorem dZ {x y:Nat} (hy:1<=y):(yQ x y).1*((y:Int) / (yQ x y).2)=(x:Int):=by
 rw[fM];show ((x / Nat.gcd x y:Nat):Int)*((y:Int) / ((y / Nat.gcd x y:Nat):Int))=(x:Int)
 have h1:y / (y / Nat.gcd x y)=Nat.gcd x y:=Nat.div_div_self (Nat.gcd_dvd_right x y) (by omega);rw[<- Int.natCast_ediv,h1,<-Int.natCast_mul,Nat.div_mul_cancel (Nat.gcd_dvd_left x y)]
theorem zWH {c:Nat->Nat} {h:Nat} (hc:∀v,1<=c v) (M:List Nat):DG (c h) (xG c h M)=M.map fun v=>(c v:Int):=by
 unfold DG xG;rw[List.map_map]
 refine List.map_congr_left fun v _=>?_
 exact dZ (hc h)
theorem FW {c:Nat->Nat} {h:Nat} (hc:∀v,1<=c v):∀(M:List Nat),ZK (c h) (xG c h M)=false->∃v,v ∈ M/\9223372036854775807<c v
 |[],q=>by cases q
 |v::M,q=>by
  have q':(yK ((yQ (c v) (c h)).1*((c h:Int) / (yQ (c v) (c h)).2))&&ZK (c h) (xG c h M))=false:=q;rw[dZ (hc h),Bool.and_eq_false_iff]at q'
  rcases q' with q'|q'
  ·have:=tY.1 q'
   exact ⟨v,List.mem_cons_self ..,by omega⟩
  obtain ⟨u,hu,k⟩:=FW hc M q';exact ⟨u,List.mem_cons_of_mem _ hu,k⟩
theorem QT {c:Nat->Nat} {h:Nat} {M:List Nat} (hc:∀v,1<=c v) (hh:h ∈ M) (h1:∀d,(∀ v,v ∈ M->d ∣ c v)->d=1):(cD (xG c h M)=some (c h)/\TF (xG c h M)=0/\scR (xG c h M)=M.map fun v=>(c v:Int))\/(TF (xG c h M)=4/\∃v,v ∈ M/\9223372036854775807<c v):=by
 have ha:=QU (hc h) M
 have hd:∀x,x ∈ yF (xG c h M)->x.natAbs ∣ c h:=fun x hx=>by
  unfold yF xG at hx;rw[List.map_map]at hx;obtain ⟨v,_,rfl⟩:=List.mem_map.1 hx;exact zRH (c v) (c h)
 have hl:=QV (hc h) (L:=yF (xG c h M)) (Nat.one_dvd _) hd
 have eo:cD (xG c h M)=mV (xG c h M):=by unfold cD;rw[if_pos ha]
 cases hk:uW 1 (yF (xG c h M)) with
 |none=>
  right
  have e1:mV (xG c h M)=none:=fW (fun K q=>by rw[hk]at q;cases q);refine ⟨?_,h,hh,hl.1 hk⟩
  unfold TF;rw[if_pos ha,eo,e1];rfl
 |some K=>
  obtain ⟨k1,-,k3⟩:=hl.2 K hk
  have eK:K=c h:=by
   obtain ⟨d,ed⟩:=k1
   have d1:d=1:=h1 d fun v hv=>by
    have m:(yQ (c v) (c h)).2 ∈ yF (xG c h M):=by
     unfold yF xG;rw[List.map_map];exact List.mem_map.2 ⟨v,hv,rfl⟩
    have q:=k3 _ m;rw[fM]at q;have q':c h / Nat.gcd (c v) (c h) ∣ K:=q;obtain ⟨t,et⟩:=q';have e3:c h / Nat.gcd (c v) (c h)*Nat.gcd (c v) (c h)=c h:=Nat.div_mul_cancel (Nat.gcd_dvd_right _ _)
    have e4:c h / Nat.gcd (c v) (c h)*(t*d)=c h / Nat.gcd (c v) (c h)*Nat.gcd (c v) (c h):=by
     rw[e3,<-Nat.mul_assoc,<-et,<-ed]
    have e5:=Nat.eq_of_mul_eq_mul_left (sS (x:=c v) (hc h)) e4;exact Nat.dvd_trans ⟨t,by rw[<- e5,Nat.mul_comm]⟩ (Nat.gcd_dvd_left (c v) (c h))
   rw[ed,d1,Nat.mul_one]
  subst eK
  cases hs:ZK (c h) (xG c h M) with
  |true=>
   left
   have e1:=fX hk hs;refine ⟨by rw[eo,e1],?_,?_⟩
   ·unfold TF
    rw[if_pos ha,eo,e1];rfl
   unfold scR;rw[eo,e1];exact zWH hc M
  |false=>
   right
   have e1:mV (xG c h M)=none:=fW (fun K q=>by rw[hk]at q;cases q;exact hs);refine ⟨?_,FW hc M hs⟩
   unfold TF;rw[if_pos ha,eo,e1];rfl
def dJ (V:Nat->Bool):Nat->Nat
 |0=>0
 |n+1=>dJ V n+(if V n then 0 else 1)
def fL (V U:Nat->Bool):Prop:=∀v,V v=true->U v=true
theorem KZ {V U:Nat->Bool} (h:fL V U):∀n,dJ U n<=dJ V n
 |0=>Nat.le_refl _
 |n+1=>by
  have ih:=KZ h n;have hn:=h n;unfold dJ
  cases hv:V n with
  |true=>rw[hn hv];simpa using ih
  |false=>cases U n<;>simp<;>omega
theorem KY {V U:Nat->Bool} {x:Nat} (h:fL V U) (h1:V x=false) (h2:U x=true):∀ {n},x<n->dJ U n<dJ V n
 |0,hx=>absurd hx (Nat.not_lt_zero _)
 |n+1,hx=>by
  unfold dJ
  by_cases e:x=n
  ·subst e
   have:=KZ h x;rw[h1,h2];simp;omega
  have ih:=KY h h1 h2 (n:=n) (by omega);have hn:=h n
  cases hv:V n with
  |true=>rw[hn hv];simpa using ih
  |false=>cases U n<;>simp<;>omega
theorem QS (V:Nat->Bool):∀n,dJ V n<=n
 |0=>Nat.le_refl _
 |n+1=>by
  have:=QS V n;unfold dJ
  split<;>omega
def nT (V:Nat->Bool) (x:Nat):Nat->Bool:=fun v=>if v=x then true else V v
theorem bC (V:Nat->Bool) (x:Nat):fL V (nT V x):=fun v h=>by unfold nT;split;rfl;exact h
theorem cZ (V:Nat->Bool) (x:Nat):nT V x x=true:=by unfold nT;rw[if_pos rfl]
theorem fL.trans {V U T:Nat->Bool} (h:fL V U) (k:fL U T):fL V T:=fun v hv=>k v (h v hv)
def iE (A:List NA) (T:List Nat) (V U:Nat->Bool) (x:Option Nat):Prop:=∀v,U v=true->V v=false->x≠some v->∀j,j ∈ T->∀y,yE A j v=some y->U y.1=true
theorem KW (A:List NA) (T:List Nat) (V:Nat->Bool) (x:Nat):iE A T V (nT V x) (some x):=fun v h1 h2 h3=>by
 unfold nT at h1
 split at h1
 ·rename_i e;exact absurd (by rw[e]) h3
 rw[h1]at h2;cases h2
theorem XQ {A:List NA} {T:List Nat} {V U R:Nat->Bool} {x:Option Nat} (h:iE A T V U x) (k:iE A T U R none) (s:fL U R):iE A T V R x:=fun v h1 h2 h3 j hj y hy=>by
 cases hu:U v with
 |true=>exact s _ (h v hu h2 h3 j hj y hy)
 |false=>exact k v h1 hu (fun e=>by cases e) j hj y hy
theorem zWG {A:List NA} {T:List Nat} {V U:Nat->Bool} {x:Nat} (h:iE A T V U (some x)) (k:∀j,j ∈ T->∀y,yE A j x=some y->U y.1=true):iE A T V U none:=fun v h1 h2 _ j hj y hy=>by
 by_cases e:v=x
 ·subst e;exact k j hj y hy
 exact h v h1 h2 (fun q=>by cases q;exact e rfl) j hj y hy
theorem QR {A:List NA} {T:List Nat} {U:Nat->Bool} (hT:∀j,j ∈ T->fN A j≠tN A j) (h:iE A T (fun _=>false) U none):∀ {W:List (Nat × Bool)} {s t:Nat},rC A T s W t->U s=true->U t=true
 |[],_,_,hw,hs=>by cases hw;exact hs
 |(j,b)::W,s,t,hw,hs=>by
  refine QR hT h hw.2.2 ?_
  have hc:=YA (b:=b) (hT j hw.1);rw[hw.2.1]at hc;exact h s hs rfl (fun e=>by cases e) j hw.1 _ hc
theorem zRG {A:List NA} {k N:Nat} {U:Nat->Bool} (h:iE A (yJ A k) (fun _=>false) U none) (hh:∀v,v<N->zQ A k v=v->U v=true):∀v,v<N->U v=true:=fun v hv=>by
 obtain ⟨W,h1,-⟩:=(LY A k).way (zQ A k v) v oV;exact QR (fun j hj=>lM hj) h h1 (hh _ (Nat.lt_of_le_of_lt tR hv) oV)
def xJ (H:Nat->Nat) (N h:Nat):List Nat:=(List.range N).filter fun v=>H v==h
theorem pX {H:Nat->Nat} {N h v:Nat} :v ∈ xJ H N h↔v<N/\H v=h:=by
 unfold xJ;rw[List.mem_filter,List.mem_range];simp
theorem zRF {A:List NA} {N h d:Nat} (hR:LT A A.length) (hA:∀j,j<A.length->fN A j<N/\tN A j<N) (hN:h<N) (hh:zQ A A.length h=h) (hd:∀v,v ∈ xJ (zQ A A.length) N h->d ∣ wX A A.length v):d=1:=by
 refine QZ hR (Nat.le_refl _) h d fun v hv=>?_
 rw[hh]at hv
 by_cases hvN:v<N
 ·exact hd v (pX.2 ⟨hvN,hv⟩)
 have:=(zPB (A:=A) (N:=N) (v:=v) (by omega) (k:=A.length) hA).1;omega
end Go.Proofs.YtpohmekkdjdhmaaGreat
