/- Texts of one chain. -/
import Derived.Test.YtdcjdnkdeamigaaGreatDoorPartQ
import Derived.Test.YtdcjdnkdeamigaaGreatDoorPartSourceWhere21
import Derived.Test.YtdcjdnkdeamigaaGreatDoorPartSourceWhere22
namespace Go.Proofs.YtdcjdnkdeamigaaGreatDoor
open Go.ChangeShapes Go.WideShapes Go.ChangeAt Go.RowKit
theorem XN:∀(m u:Nat),u<=m->u≠0->Lib.decDigits u=kC u
 |0,u,h,h0=>by omega
 |m+1,u,h,h0=>by
  rw[Lib.decDigits,lU h0]
  by_cases h1:u<10
  ·rw [dif_pos h1,show u / 10=0 by omega,oC,show u % 10=u by omega]
   rfl
  rw[dif_neg h1,XN m (u / 10) (by omega) (by omega)];rfl
theorem fX (n:Int):Lib.itoa n=gM n:=by
 unfold Lib.itoa gM
 by_cases h0:n=0
 ·subst h0
  rw[if_neg (by decide),if_pos rfl];rw[Lib.decDigits];rfl
 rw[if_neg h0]
 by_cases h1:n<0
 ·rw [if_pos h1,decide_eq_true h1,XN n.natAbs n.natAbs (Nat.le_refl _) (by omega)]
  rfl
 rw[if_neg h1,decide_eq_false h1,show n.toNat=n.natAbs by omega,XN n.natAbs n.natAbs (Nat.le_refl _) (by omega)];rfl
theorem nV {n:Int} (h: -9223372036854775808<=n/\n<=9223372036854775807):tL n:=by
 refine ⟨h,?_⟩
 rw[fX];unfold gM
 by_cases h0:n=0
 ·rw [if_pos h0];decide
 rw[if_neg h0,List.length_append];have h1:=VH 19 n.natAbs (by omega)
 have h2:(fE (decide (n<0))).length<=1:=by
  cases decide (n<0)<;>decide
 omega
def lY (n:Int):Prop:= -9223372036854775808<=n/\n<=9223372036854775807
theorem ZI:∀(l:List yJ) (x:Int),x ∈ ZP l->∃t ∈ l,x=t.num
 |[],x,h=>by cases h
 |t::r,x,h=>by
  unfold ZP at h
  split at h
  ·rcases List.mem_cons.1 h with rfl|h
   ·exact ⟨t,by simp,rfl⟩
   obtain ⟨u,hu,e⟩:=ZI r x h;exact ⟨u,by simp[hu],e⟩
  cases h
theorem ZH:∀(l:List yJ),(ZP l).length<=l.length
 |[]=>Nat.le_refl _
 |t::r=>by
  unfold ZP;have:=ZH r
  split
  ·simp;omega
  simp
theorem ZG {ts:List yJ} (hT:∀t ∈ ts,lY t.num) (i:Nat):∀x ∈ yM ts i,tL x:=fun x hx=>by
 obtain ⟨t,ht,rfl⟩:=ZI _ x hx;exact nV (hT t (List.mem_of_mem_drop ht))
theorem jK {ts:List yJ} (hl:ts.length<=2000000) (i:Nat):(yM ts i).length<=2000000:=by
 have:=ZH (ts.drop i);rw[List.length_drop]at this;unfold yM;omega
theorem EO {ts:List yJ} (hT:∀t ∈ ts,lY t.num) (k:Nat):lY (zM ts k).num:=by
 unfold zM;rw[List.getD_eq_getElem?_getD]
 rcases Nat.lt_or_ge k ts.length with h|h
 ·rw [List.getElem?_eq_getElem h]
  exact hT _ (List.getElem_mem h)
 rw[List.getElem?_eq_none h];exact ⟨by decide,by decide⟩
theorem VG {ts:List yJ} (hT:∀t ∈ ts,lY t.num) {i j:Nat} {n:Int} (h:nY ts i=(some n,j)):tL n:=by
 unfold nY at h
 split at h
 ·cases h
  exact nV (EO hT i)
 cases h
theorem mV {ts:List yJ} (hT:∀t ∈ ts,lY t.num) {i j:Nat} {p:vZ} (h:xP ts i=(some p,j)):tL p.port:=by
 unfold xP at h;obtain ⟨a1,j1,h1,h⟩:=zU h;obtain ⟨a2,j2,h2,h⟩:=zU h;obtain ⟨a3,j3,h3,h⟩:=zU h
 cases h
 exact VG hT h3
theorem oM:tL zV.port:=nV ⟨by decide,by decide⟩
theorem fW:∀n ∈ ([]:List Int),tL n:=fun _ h=>by cases h
theorem ZF {ts:List yJ} (hT:∀t ∈ ts,lY t.num) (hl:ts.length<=2000000) {i j:Nat} {ns:List Int} (h:mF ts i=(some ns,j)):(∀ n ∈ ns,tL n)/\ns.length<=2000001:=by
 unfold mF at h
 split at h
 ·obtain ⟨a1,j1,h1,h⟩:=zU h
  cases h
  refine ⟨fun n hn=>?_,?_⟩
  ·rcases List.mem_cons.1 hn with rfl|hn
   ·exact VG hT h1
   exact ZG hT j1 n hn
  have:=jK hl j1;simp;omega
 cases h
 exact ⟨fW,by simp⟩
theorem RS {ts:List yJ} (hT:∀t ∈ ts,lY t.num) (hl:ts.length<=2000000) {i j:Nat} {x:zF} (h:uK ts i=(some x,j)):aT x:=by
 unfold uK at h
 split at h
 ·unfold vN at h
  obtain ⟨a1,j1,h1,h⟩:=zU h;obtain ⟨a2,j2,h2,h⟩:=zU h;obtain ⟨a3,j3,h3,h⟩:=zU h;obtain ⟨a4,j4,h4,h⟩:=zU h
  cases h
  have:=jK hl j4;exact ⟨oM,oM,ZG hT j4,by show (yM ts j4).length<=_;omega⟩
 split at h
 ·unfold vF at h
  obtain ⟨a1,j1,h1,h⟩:=zU h;obtain ⟨a2,j2,h2,h⟩:=zU h;obtain ⟨a3,j3,h3,h⟩:=zU h;obtain ⟨a4,j4,h4,h⟩:=zU h;obtain ⟨a5,j5,h5,h⟩:=zU h
  cases h
  obtain ⟨w1,w2⟩:=ZF hT hl h5;exact ⟨mV hT h2,mV hT h4,w1,by show a5.length<=_;omega⟩
 split at h
 ·unfold dV at h
  obtain ⟨a1,j1,h1,h⟩:=zU h;obtain ⟨a2,j2,h2,h⟩:=zU h;obtain ⟨a3,j3,h3,h⟩:=zU h;obtain ⟨a4,j4,h4,h⟩:=zU h
  cases h
  exact ⟨oM,mV hT h4,fW,by simp⟩
 unfold rY at h;obtain ⟨a1,j1,h1,h⟩:=zU h;obtain ⟨a2,j2,h2,h⟩:=zU h;obtain ⟨a3,j3,h3,h⟩:=zU h;obtain ⟨a4,j4,h4,h⟩:=zU h
 cases h
 exact ⟨mV hT h2,oM,fW,by simp⟩
theorem eS {ts:List yJ} (hT:∀t ∈ ts,lY t.num) (hl:ts.length<=2000000):∀(n i j:Nat) (xs:List zF),vT n ts i=(some xs,j)->∀x ∈ xs,aT x
 |0,i,j,xs,h=>by cases h
 |n+1,i,j,xs,h=>by
  by_cases he:(zM ts i).text=[125]
  ·have e:vT (n+1) ts i=(some [],i):=by
    show (if _ then _ else _)=_;rw[if_pos he]
   rw[e]at h
   cases h
   intro x hx;cases hx
  rw[oP he]at h;obtain ⟨a1,j1,h1,h⟩:=zU h;obtain ⟨a2,j2,h2,h⟩:=zU h
  cases h
  unfold xY at h1;obtain ⟨b1,k1,g1,h1⟩:=zU h1;obtain ⟨b2,k2,g2,h1⟩:=zU h1
  cases h1
  intro x hx
  rcases List.mem_cons.1 hx with rfl|hx
  ·exact RS hT hl g1
  exact eS hT hl n _ _ _ h2 x hx
theorem XM {ts:List yJ} (hT:∀t ∈ ts,lY t.num) (hl:ts.length<=2000000) {s:jV} {j:Nat} (h:yB ts=(some s,j)):∀x ∈ s.items,aT x:=by
 unfold yB at h;obtain ⟨a1,j1,h1,h⟩:=zU h;obtain ⟨a2,j2,h2,h⟩:=zU h;obtain ⟨a3,j3,h3,h⟩:=zU h;obtain ⟨a4,j4,h4,h⟩:=zU h;obtain ⟨a5,j5,h5,h⟩:=zU h
 split at h
 ·cases h
  exact eS hT hl _ _ _ _ h4
 cases h
theorem ND {v:Int} (h:wC v=true):lY v:=by
 unfold wC at h;rw[Bool.and_eq_true,decide_eq_true_iff,decide_eq_true_iff]at h;exact h
theorem rW:lY 0:=⟨by decide,by decide⟩
theorem NA {neg:Bool} {ds:List UInt8} {v:Int} (h:kE neg ds=some v):lY v:=by
 unfold kE at h
 split at h
 ·rename_i hc
  cases h
  rw[Bool.and_eq_true]at hc;exact ND hc.2
 cases h
theorem KA (l:List UInt8):lY (yL l).tok.num:=by
 unfold yL
 split
 ·unfold oU
  split
  ·exact rW
  exact rW
 split
 ·unfold vI
  simp only
  cases h:kE (decide (xF l 0=45)) _ with
  |none=>exact rW
  |some v=>exact NA h
 split
 ·exact rW
 split
 ·exact rW
 exact rW
theorem VF:∀(n p:Nat) (x:List UInt8),x.length<=n->∀t ∈ (vH p x).toks,lY t.num
 |n,p,x,hn=>by
  by_cases h1:x.drop (zK false x)=[]
  ·rw [sN h1]
   intro t ht
   have e:t=⟨0,[],0,((p+zK false x:Nat):Int)⟩:=by simpa using ht
   rw[e];exact rW
  by_cases h2:(yL (x.drop (zK false x))).err=0
  ·obtain ⟨h3,h4,-⟩:=tT h2
   rw[List.length_drop]at h4;rw[sL h1 h2];unfold gN.cons
   match n,hn with
   |0,hn=>omega
   |n+1,hn=>
    have ih:=VF n (p+zK false x+(yL (x.drop (zK false x))).n) (x.drop (zK false x+(yL (x.drop (zK false x))).n)) (by rw[List.length_drop];omega)
    split
    ·intro t ht
     rcases List.mem_cons.1 ht with rfl|ht
     ·exact KA _
     exact ih t ht
    exact ih
  rw[sM h1 h2];intro t ht
  cases ht
theorem ZE (l:List UInt8):∀t ∈ (yE l).toks,lY t.num:=by
 unfold yE
 split
 ·intro t ht;cases ht
 exact VF l.length 0 l (Nat.le_refl _)
theorem MZ {l:List UInt8} {s:jV} {j:Nat} (h:yB (yE l).toks=(some s,j)):∀x ∈ s.items,aT x:=XM (ZE l) (kK l) h
def PZ (nm:List UInt8) (xs:List zF):List UInt8:=sV nm++xs.flatMap sW++[125,10]
def lK (nm:List UInt8) (xs:List zF):List UInt8 × Int:=
 if (xs.all xU&&yO nm)=true then (if 1048576<(PZ nm xs).length then ([],2) else (PZ nm xs,0)) else ([],1)
theorem RR (nm:List UInt8) (L:List (zF × Value)):sI nm L=PZ nm (L.map Prod.fst):=by
 unfold sI PZ uC;rw[List.flatMap_map]
theorem VE (nm:List UInt8) (L:List (zF × Value)):oE nm L=lK nm (L.map Prod.fst):=by
 unfold oE lK;rw[RR]
 have:pD L=(L.map Prod.fst).all xU:=by
  unfold pD;rw[List.all_map];rfl
 rw[this]
end Go.Proofs.YtdcjdnkdeamigaaGreatDoor
namespace Go.Proofs.YtdcjdnkdeamigaaGreatDoor
open Go.RowKit
def ZD (x:List UInt8):yJ:=⟨1,x,0,0⟩
def MY (x:List UInt8):yJ:=⟨3,x,0,0⟩
def DL (n:Int):yJ:=⟨2,[],n,0⟩
structure VD (x : zF) : Prop where
 frm:wC x.frm.port=true
 tg:wC x.tg.port=true
 nums:∀n ∈ x.nums,wC n=true
def eR (ns:List Int):List yJ:=ns.map DL
def jJ (p:vZ):List yJ:=[ZD p.name,MY [46],DL p.port]
def cI (x:zF):List yJ:=
 if x.kind=1 then [ZD [97,99,116,111,114],ZD x.name,MY [61],ZD x.tag]
 else if x.kind=2 then ZD [101,100,103,101]::(jJ x.frm++MY [45,62]::jJ x.tg)
 else if x.kind=3 then ZD [105,110]::ZD x.name::MY [45,62]::jJ x.tg
 else ZD [111,117,116]::(jJ x.frm++[MY [45,62],ZD x.name])
def cH (x:zF):List yJ:=if x.kind=2/\x.nums≠[] then [ZD [119,105,116,104]] else []
def lJ (x:zF):List yJ:=cI x++(cH x++(eR x.nums++[MY [59]]))
def VC (nm:List UInt8) (xs:List zF):List yJ:=ZD [103,114,97,112,104]::ZD nm::MY [123]::(xs.flatMap lJ++[MY [125]])
theorem MX (x:zF):0<(lJ x).length:=by
 unfold lJ;simp only[List.length_append,List.length_cons];omega
theorem ZC:∀xs:List zF,xs.length<=(xs.flatMap lJ).length
 |[]=>Nat.le_refl _
 |x::r=>by
  rw[List.flatMap_cons,List.length_append,List.length_cons];have:=ZC r;have:=MX x;omega
def jZ (ts:List yJ):Prop:=∀k,(lL (zM ts k)=true/\wC (zM ts k).num=true)\/((zM ts k).sort=0/\(zM ts k).text=[])
def nU (ts:List yJ) (i j:Nat) (us:List yJ):Prop:=(ts.drop i).map oN=us++(ts.drop j).map oN
theorem nU.trans {ts:List yJ} {i j k:Nat} {a b:List yJ} (h1:nU ts i j a) (h2:nU ts j k b):nU ts i k (a++b):=by
 unfold nU at *;rw[h1,h2,List.append_assoc]
theorem cG (ts:List yJ) (i:Nat):nU ts i i []:=rfl
theorem iF {ts:List yJ} {i:Nat} (h:zM ts i≠wM):nU ts i (i+1) [oN (zM ts i)]:=by
 unfold nU
 have hi:i<ts.length:=by
  rcases Nat.lt_or_ge i ts.length with h1|h1
  ·exact h1
  exact absurd (by unfold zM;rw[List.getD_eq_getElem?_getD,List.getElem?_eq_none h1];rfl) h
 rw[List.drop_eq_getElem_cons hi]
 have e:zM ts i=ts[i]:=by unfold zM;rw[List.getD_eq_getElem?_getD,List.getElem?_eq_getElem hi];rfl
 rw[e];rfl
theorem sU {t:yJ} (h:lL t=true):(t.sort=1/\t.num=0/\yO t.text=true)\/(t.sort=2/\t.text=[])\/(t.sort=3/\t.num=0/\dJ t.text=true):=by
 unfold lL at h
 split at h
 ·rename_i h1
  rw[Bool.and_eq_true,decide_eq_true_iff]at h;exact .inl ⟨h1,h⟩
 split at h
 ·rename_i h1
  rw[decide_eq_true_iff]at h;exact .inr (.inl ⟨h1,h⟩)
 split at h
 ·rename_i h1
  rw[Bool.and_eq_true,decide_eq_true_iff]at h;exact .inr (.inr ⟨h1,h⟩)
 cases h
theorem pQ {ts:List yJ} (hF:jZ ts) {x:List UInt8} {i j:Nat} {u:Unit} (hx:dJ x=false) (hn:x≠[]) (h:yX ts x i=(some u,j)):nU ts i j [ZD x]/\j=i+1:=by
 have hj:=uW h
 have ht:(zM ts i).text=x:=by
  unfold yX at h
  split at h
  ·assumption
  cases h
 subst hj;refine ⟨?_,rfl⟩
 have h1:=iF (ts:=ts) (i:=i) (fun e=>hn (by rw[<- ht,e];rfl))
 have h2:oN (zM ts i)=ZD x:=by
  rcases hF i with ⟨h3,-⟩|⟨-,h3⟩
  ·rcases sU h3 with ⟨a,b,c⟩|⟨a,b⟩|⟨a,b,c⟩
   ·unfold oN ZD;rw[a,b,ht]
   ·rw [ht]at b;exact absurd b hn
   rw[ht,hx]at c;cases c
  rw[ht]at h3;exact absurd h3 hn
 rw[h2]at h1;exact h1
theorem sT {ts:List yJ} (hF:jZ ts) {x:List UInt8} {i j:Nat} {u:Unit} (hx:rQ (xF x 0)=false) (hn:x≠[]) (h:yX ts x i=(some u,j)):nU ts i j [MY x]/\j=i+1:=by
 have hj:=uW h
 have ht:(zM ts i).text=x:=by
  unfold yX at h
  split at h
  ·assumption
  cases h
 subst hj;refine ⟨?_,rfl⟩
 have h1:=iF (ts:=ts) (i:=i) (fun e=>hn (by rw[<- ht,e];rfl))
 have h2:oN (zM ts i)=MY x:=by
  rcases hF i with ⟨h3,-⟩|⟨-,h3⟩
  ·rcases sU h3 with ⟨a,b,c⟩|⟨a,b⟩|⟨a,b,c⟩
   ·rw [ht]at c
    unfold yO at c;rw[hx]at c;simp at c
   ·rw [ht]at b;exact absurd b hn
   unfold oN MY;rw[a,b,ht]
  rw[ht]at h3;exact absurd h3 hn
 rw[h2]at h1;exact h1
theorem pO {ts:List yJ} (hF:jZ ts) {n:List UInt8} {i j:Nat} (h:wY ts i=(some n,j)):nU ts i j [ZD n]/\yO n=true:=by
 have hj:=uD h
 have ht:(zM ts i).sort=1/\(zM ts i).text=n:=by
  unfold wY at h
  split at h
  ·rename_i h1
   injection h with h2 h3
   exact ⟨h1,Option.some.inj h2⟩
  cases h
 subst hj;have h1:=iF (ts:=ts) (i:=i) (fun e=>by rw[e]at ht;exact absurd ht.1 (by decide))
 rcases hF i with ⟨h3,-⟩|⟨h3,-⟩
 ·rcases sU h3 with ⟨a,b,c⟩|⟨a,b⟩|⟨a,b,c⟩
  ·have h2:oN (zM ts i)=ZD n:=by unfold oN ZD;rw[a,b,ht.2]
   rw[h2]at h1;exact ⟨h1,by rw[<- ht.2];exact c⟩
  ·omega
  omega
 omega
theorem PY {ts:List yJ} (hF:jZ ts) {i:Nat} (h:(zM ts i).sort=2):nU ts i (i+1) [DL (zM ts i).num]/\wC (zM ts i).num=true:=by
 have h1:=iF (ts:=ts) (i:=i) (fun e=>by rw[e]at h;exact qD h)
 rcases hF i with ⟨h3,h4⟩|⟨h3,-⟩
 ·rcases sU h3 with ⟨a,b,c⟩|⟨a,b⟩|⟨a,b,c⟩
  ·omega
  ·have h2:oN (zM ts i)=DL (zM ts i).num:=by unfold oN DL;rw[a,b]
   rw[h2]at h1;exact ⟨h1,h4⟩
  omega
 omega
theorem VB {ts:List yJ} (hF:jZ ts) {n:Int} {i j:Nat} (h:nY ts i=(some n,j)):nU ts i j [DL n]/\wC n=true:=by
 have hj:=dT h
 have ht:(zM ts i).sort=2/\(zM ts i).num=n:=by
  unfold nY at h
  split at h
  ·rename_i h1
   injection h with h2 h3
   exact ⟨h1,Option.some.inj h2⟩
  cases h
 subst hj;have:=PY hF ht.1;rw[ht.2]at this;exact this
theorem fV {ts:List yJ} (hF:jZ ts):∀(n i:Nat),ts.length-i<=n->nU ts i (i+(yM ts i).length) (eR (yM ts i))/\∀x ∈ yM ts i,wC x=true
 |n,i,hn=>by
  by_cases h2:(zM ts i).sort=2
  ·have hi:i<ts.length:=by
    rcases Nat.lt_or_ge i ts.length with h1|h1
    ·exact h1
    have:zM ts i=wM:=by unfold zM;rw[List.getD_eq_getElem?_getD,List.getElem?_eq_none h1];rfl
    rw[this]at h2;exact absurd h2 (by decide)
   match n,hn with
   |0,hn=>omega
   |n+1,hn=>
    obtain ⟨a,b⟩:=PY hF h2;obtain ⟨c,d⟩:=fV hF n (i+1) (by omega);rw[gC hi h2];refine ⟨?_,fun x hx=>?_⟩
    ·have:=a.trans c
     rw[List.length_cons,show i+((yM ts (i+1)).length+1)=i+1+(yM ts (i+1)).length by omega];exact this
    rcases List.mem_cons.1 hx with rfl|hx
    ·exact b
    exact d x hx
  rw[gB h2];exact ⟨cG ts i,fun x hx=>by cases hx⟩
theorem mU {ts:List yJ} (hF:jZ ts) {p:vZ} {i j:Nat} (h:xP ts i=(some p,j)):nU ts i j (jJ p)/\yO p.name=true/\wC p.port=true:=by
 unfold xP at h;obtain ⟨n,j1,h1,h⟩:=zU h;obtain ⟨u,j2,h2,h⟩:=zU h;obtain ⟨q,j3,h3,h⟩:=zU h;obtain ⟨a,b⟩:=pO hF h1;obtain ⟨c,-⟩:=sT hF rfl (by decide) h2;obtain ⟨d,e⟩:=VB hF h3
 injection h with h4 h5
 have h4:=Option.some.inj h4;subst h4;subst h5;exact ⟨a.trans (c.trans d),b,e⟩
theorem MW {ts:List yJ} (hF:jZ ts) {ns:List Int} {i j:Nat} (h:mF ts i=(some ns,j)):nU ts i j ((if ns≠[] then [ZD [119,105,116,104]] else [])++eR ns)/\∀x ∈ ns,wC x=true:=by
 unfold mF at h
 split at h
 ·rename_i h0
  obtain ⟨x,j1,h1,h⟩:=zU h
  have hw:yX ts [119,105,116,104] i=(some (),i+1):=by unfold yX;rw[if_pos h0]
  obtain ⟨a,-⟩:=pQ hF rfl (by decide) hw;obtain ⟨b,c⟩:=VB hF h1;obtain ⟨d,e⟩:=fV hF (ts.length-j1) j1 (Nat.le_refl _)
  injection h with h2 h3
  have h2:=Option.some.inj h2;subst h2;subst h3;refine ⟨?_,fun y hy=>?_⟩
  ·rw [if_pos (List.cons_ne_nil _ _)]
   exact a.trans (b.trans d)
  rcases List.mem_cons.1 hy with rfl|hy
  ·exact c
  exact e y hy
 injection h with h2 h3
 have h2:=Option.some.inj h2;subst h2;subst h3;exact ⟨cG ts i,fun x hx=>by cases hx⟩
theorem RQ:oX zV=true:=rfl
theorem MV {ts:List yJ} (hF:jZ ts) {x:zF} {i j:Nat} (h:uK ts i=(some x,j)):nU ts i j (cI x++(cH x++eR x.nums))/\xU x=true/\VD x:=by
 unfold uK at h
 split at h
 ·unfold vN at h
  obtain ⟨u,j1,h1,h⟩:=zU h;obtain ⟨n,j2,h2,h⟩:=zU h;obtain ⟨u2,j3,h3,h⟩:=zU h;obtain ⟨t,j4,h4,h⟩:=zU h;obtain ⟨a1,-⟩:=pQ hF rfl (by decide) h1;obtain ⟨a2,b2⟩:=pO hF h2;obtain ⟨a3,-⟩:=sT hF rfl (by decide) h3;obtain ⟨a4,b4⟩:=pO hF h4;obtain ⟨a5,b5⟩:=fV hF (ts.length-j4) j4 (Nat.le_refl _)
  injection h with h6 h7
  have h6:=Option.some.inj h6;subst h6;subst h7;refine ⟨a1.trans (a2.trans (a3.trans (a4.trans a5))),?_,⟨rfl,rfl,b5⟩⟩
  unfold xU;simp only[if_true,b2,b4,RQ,Bool.and_self]
 split at h
 ·unfold vF at h
  obtain ⟨u,j1,h1,h⟩:=zU h;obtain ⟨f,j2,h2,h⟩:=zU h;obtain ⟨u2,j3,h3,h⟩:=zU h;obtain ⟨t,j4,h4,h⟩:=zU h;obtain ⟨ns,j5,h5,h⟩:=zU h;obtain ⟨a1,-⟩:=pQ hF rfl (by decide) h1;obtain ⟨a2,b2,c2⟩:=mU hF h2;obtain ⟨a3,-⟩:=sT hF rfl (by decide) h3;obtain ⟨a4,b4,c4⟩:=mU hF h4;obtain ⟨a5,b5⟩:=MW hF h5
  injection h with h6 h7
  have h6:=Option.some.inj h6;subst h6;subst h7;refine ⟨?_,?_,⟨c2,c4,b5⟩⟩
  ·have:=a1.trans (a2.trans (a3.trans (a4.trans a5)))
   unfold cI cH;simp only[show ¬((2:Int)=1) by decide,if_false,if_true,true_and]
   simpa [List.append_assoc] using this
  unfold xU;simp[b2,b4]
 split at h
 ·unfold dV at h
  obtain ⟨u,j1,h1,h⟩:=zU h;obtain ⟨n,j2,h2,h⟩:=zU h;obtain ⟨u2,j3,h3,h⟩:=zU h;obtain ⟨t,j4,h4,h⟩:=zU h;obtain ⟨a1,-⟩:=pQ hF rfl (by decide) h1;obtain ⟨a2,b2⟩:=pO hF h2;obtain ⟨a3,-⟩:=sT hF rfl (by decide) h3;obtain ⟨a4,b4,c4⟩:=mU hF h4
  injection h with h6 h7
  have h6:=Option.some.inj h6;subst h6;subst h7;refine ⟨?_,?_,⟨rfl,c4,fun x hx=>by cases hx⟩⟩
  ·have:=a1.trans (a2.trans (a3.trans a4))
   unfold cI cH;simp only[show ¬((3:Int)=1) by decide,show ¬((3:Int)=2) by decide,if_false,if_true,false_and]
   simpa [eR] using this
  unfold xU;simp[b2,b4,mE,RQ]
 unfold rY at h;obtain ⟨u,j1,h1,h⟩:=zU h;obtain ⟨f,j2,h2,h⟩:=zU h;obtain ⟨u2,j3,h3,h⟩:=zU h;obtain ⟨n,j4,h4,h⟩:=zU h;obtain ⟨a1,-⟩:=pQ hF rfl (by decide) h1;obtain ⟨a2,b2,c2⟩:=mU hF h2;obtain ⟨a3,-⟩:=sT hF rfl (by decide) h3;obtain ⟨a4,b4⟩:=pO hF h4
 injection h with h6 h7
 have h6:=Option.some.inj h6;subst h6;subst h7;refine ⟨?_,?_,⟨c2,rfl,fun x hx=>by cases hx⟩⟩
 ·have:=a1.trans (a2.trans (a3.trans a4))
  unfold cI cH;simp only[show ¬((4:Int)=1) by decide,show ¬((4:Int)=2) by decide,show ¬((4:Int)=3) by decide,if_false,false_and]
  simpa [eR] using this
 unfold xU;simp[b2,b4,mE,RQ]
theorem MU {ts:List yJ} (hF:jZ ts) {x:zF} {i j:Nat} (h:xY ts i=(some x,j)):nU ts i j (lJ x)/\xU x=true/\VD x:=by
 unfold xY at h;obtain ⟨y,j1,h1,h⟩:=zU h;obtain ⟨u,j2,h2,h⟩:=zU h;obtain ⟨a1,b1,c1⟩:=MV hF h1;obtain ⟨a2,-⟩:=sT hF rfl (by decide) h2
 injection h with h6 h7
 have h6:=Option.some.inj h6;subst h6;subst h7;refine ⟨?_,b1,c1⟩
 have:=a1.trans a2;unfold lJ
 simpa [List.append_assoc] using this
theorem cF {ts:List yJ} (hF:jZ ts):∀(n i j:Nat) (xs:List zF),vT n ts i=(some xs,j)->nU ts i j (xs.flatMap lJ)/\∀x ∈ xs,xU x=true/\VD x
 |0,i,j,xs,h=>by unfold vT at h;cases h
 |n+1,i,j,xs,h=>by
  unfold vT at h
  split at h
  ·injection h with h6 h7
   have h6:=Option.some.inj h6;subst h6;subst h7;exact ⟨cG ts i,fun x hx=>by cases hx⟩
  obtain ⟨x,j1,h1,h⟩:=zU h;obtain ⟨ys,j2,h2,h⟩:=zU h;obtain ⟨a1,b1⟩:=MU hF h1;obtain ⟨a2,b2⟩:=cF hF n j1 j2 ys h2
  injection h with h6 h7
  have h6:=Option.some.inj h6;subst h6;subst h7;refine ⟨by rw[List.flatMap_cons];exact a1.trans a2,fun y hy=>?_⟩
  rcases List.mem_cons.1 hy with rfl|hy
  ·exact b1
  exact b2 y hy
theorem eQ {ts:List yJ} (hF:jZ ts) {s:jV} {j:Nat} (h:yB ts=(some s,j)):(∃ r,ts.map oN=VC s.name s.items++r)/\yO s.name=true/\∀x ∈ s.items,xU x=true/\VD x:=by
 unfold yB at h;obtain ⟨u,j1,h1,h⟩:=zU h;obtain ⟨n,j2,h2,h⟩:=zU h;obtain ⟨u2,j3,h3,h⟩:=zU h;obtain ⟨xs,j4,h4,h⟩:=zU h;obtain ⟨u3,j5,h5,h⟩:=zU h;obtain ⟨a1,-⟩:=pQ hF rfl (by decide) h1;obtain ⟨a2,b2⟩:=pO hF h2;obtain ⟨a3,-⟩:=sT hF rfl (by decide) h3;obtain ⟨a4,b4⟩:=cF hF _ _ _ _ h4;obtain ⟨a5,-⟩:=sT hF rfl (by decide) h5
 split at h
 ·injection h with h6 h7
  have h6:=Option.some.inj h6;subst h6;refine ⟨⟨(ts.drop j5).map oN,?_⟩,b2,b4⟩
  have:=a1.trans (a2.trans (a3.trans (a4.trans a5)));unfold nU at this;rw[List.drop_zero]at this;exact this
 cases h
def nT (ts:List yJ):Nat:=(ts.map fun t=>(spelt t).length).sum
theorem rL (a b:List yJ):nT (a++b)=nT a+nT b:=by unfold nT;rw[List.map_append,List.sum_append_nat]
theorem vD (t:yJ) (r:List yJ):nT (t::r)=(spelt t).length+nT r:=by unfold nT;rw[List.map_cons,List.sum_cons]
theorem ZB:∀ts:List yJ,nT (ts.map oN)=nT ts
 |[]=>rfl
 |t::r=>by rw[List.map_cons,vD,vD,ZB r];rfl
theorem PX (n:Int):0<(gM n).length:=by
 unfold gM
 split
 ·decide
 rename_i h
 have hn:0<n.natAbs:=by omega
 obtain ⟨-,-,a3⟩:=dK n.natAbs n.natAbs (Nat.le_refl _);have:=(a3 hn).1;rw[List.length_append];have h2:0<(kC n.natAbs).length:=List.length_pos_iff.2 this;omega
theorem nS (x:List UInt8):(spelt (ZD x)).length=x.length:=rfl
theorem nR (x:List UInt8):(spelt (MY x)).length=x.length:=rfl
theorem VA (n:Int):(spelt (DL n)).length=(gM n).length:=rfl
theorem cE:∀ns:List Int,(uV ns).length<=4*nT (eR ns)
 |[]=>Nat.zero_le _
 |n::r=>by
  have ih:=cE r;have:=PX n;show (cL n++uV r).length<=4*nT (DL n::eR r)
  rw[vD,VA,List.length_append];unfold cL;rw[List.length_cons,fX];omega
theorem ZA (p:vZ):nT (jJ p)=p.name.length+(1+(gM p.port).length):=by
 unfold jJ;rw[vD,vD,vD,nS,nR,VA];rfl
theorem cD (p:vZ):(zG p).length=p.name.length+1+(gM p.port).length:=by
 unfold zG;rw[fX];simp;omega
theorem RP (x:zF):(sW x).length<=4*nT (lJ x):=by
 have hn:=cE x.nums;unfold sW lJ;rw[rL,rL,rL,List.length_append,List.length_append,List.length_append]
 have hw:(sB x).length<=4*nT (cH x):=by
  unfold sB cH
  split
  ·decide
  decide
 have hh:(sC x).length+2<=4*(nT (cI x)+1):=by
  have hf:=cD x.frm;have ht:=cD x.tg;have qf:=ZA x.frm;have qt:=ZA x.tg;unfold sC cI
  split
  ·simp only[vD,nS,nR,List.length_append,List.length_cons,List.length_nil]
   omega
  split
  ·simp only[vD,rL,nS,nR,List.length_append,List.length_cons,List.length_nil,hf,ht,qf,qt]
   omega
  split
  ·simp only[vD,nS,nR,List.length_append,List.length_cons,List.length_nil,ht,qt]
   omega
  simp only[vD,rL,nS,nR,List.length_append,List.length_cons,List.length_nil,hf,qf];omega
 have he:nT [MY [59]]=1:=rfl;rw[he];show _+_+_+2<=_
 omega
theorem eO:∀xs:List zF,(xs.flatMap sW).length<=4*nT (xs.flatMap lJ)
 |[]=>Nat.zero_le _
 |x::r=>by
  rw[List.flatMap_cons,List.flatMap_cons,rL,List.length_append];have:=eO r;have:=RP x;omega
theorem RO (nm:List UInt8) (xs:List zF):(sV nm++xs.flatMap sW++[125,10]).length<=4*nT (VC nm xs):=by
 have h:=eO xs;unfold sV VC;simp only[vD,rL,nS,nR,List.length_append,List.length_cons,List.length_nil];omega
def cC (l:List UInt8):Nat->List yJ->Prop
 |_,[]=>False
 |p,t::r=>∃q:Nat,t.place=(q:Int)/\p<=q/\q+(spelt t).length<=l.length/\(l.drop q).take (spelt t).length=spelt t/\wC t.num=true/\((t.sort=0/\r=[]/\q+(spelt t).length=l.length)\/(t.sort≠0/\lL t=true/\cC l (q+(spelt t).length) r))
theorem PV {l:List UInt8} :∀(n p:Nat) (ts:List yJ),ts.length<=n->p<=l.length->vH p (l.drop p)=⟨ts,0,0⟩->cC l p ts
 |0,p,ts,hn,hp,h=>by
  obtain ⟨t,rest,q,s,rfl,st⟩:=iG hp h;simp at hn
 |n+1,p,ts,hn,hp,h=>by
  obtain ⟨t,rest,q,s,rfl,st⟩:=iG hp h;have es:=st.spelt;have r1:=st.room;have r2:=st.stands;subst es;refine ⟨q,st.place,st.le,r1,r2,st.fits,?_⟩
  rcases st.ways with ⟨a,b,c⟩|⟨a,b,c,d⟩
  ·exact .inl ⟨a,b,c⟩
  exact .inr ⟨a,b,PV n _ rest (by simp at hn;omega) r1 d⟩
theorem UZ {l:List UInt8} :∀(ts:List yJ) (p:Nat),cC l p ts->p+nT ts<=l.length
 |[],p,h=>by cases h
 |t::r,p,h=>by
  obtain ⟨q,-,h2,h3,-,-,h6⟩:=h;rw[vD]
  rcases h6 with ⟨-,rfl,-⟩|⟨-,-,h7⟩
  ·show p+((spelt t).length+0)<=_;omega
  have:=UZ r _ h7;omega
theorem kJ {l:List UInt8} :∀(ts:List yJ) (p:Nat),cC l p ts->yQ ts->jZ ts
 |[],p,h,_=>by cases h
 |t::r,p,h,hE=>by
  obtain ⟨q,-,h2,h3,-,h5,h6⟩:=h
  rcases h6 with ⟨a,rfl,-⟩|⟨a,b,h7⟩
  ·intro k
   match k with
   |0=>exact .inr ⟨a,hE.text⟩
   |k+1=>exact .inr ⟨rfl,rfl⟩
  have hr:r≠[]:=by intro e;rw[e]at h7;cases h7
  have hE2:yQ r:=by
   have hp:=hE.pos;have h1:0<r.length:=List.length_pos_iff.2 hr
   have e:(t::r).length-1=(r.length-1)+1:=by rw[List.length_cons];omega
   refine ⟨h1,?_,?_⟩
   ·have:=hE.sort;rw[e]at this;exact this
   have:=hE.text;rw[e]at this;exact this
  have ih:=kJ r _ h7 hE2;intro k
  match k with
  |0=>exact .inl ⟨b,h5⟩
  |k+1=>exact ih k
theorem fU {l:List UInt8} (h:(yE l).err=0):l.length<=1048576/\cC l 0 (yE l).toks:=by
 by_cases hl:1048576<l.length
 ·unfold yE at h
  rw[if_pos hl]at h
  cases h
 have e:yE l=vH 0 l:=by unfold yE;rw[if_neg hl]
 rw[e]at h ⊢;refine ⟨by omega,PV _ 0 _ (Nat.le_refl _) (Nat.zero_le _) ?_⟩
 rw[List.drop_zero];have hz:=kT h;generalize vH 0 l=G at *;obtain ⟨ts,er,pl⟩:=G;simp only at h hz;subst h;subst hz;rfl
theorem RN {l:List UInt8} {s:jV} {j:Nat} (h:(yE l).err=0) (hs:yB (yE l).toks=(some s,j)):
 yO s.name=true/\(∀ x ∈ s.items,xU x=true/\VD x)/\(sV s.name++s.items.flatMap sW++[125,10]).length<=4*l.length:=by
 obtain ⟨hl,hL⟩:=fU h;have hF:=kJ _ _ hL (pE h);obtain ⟨⟨r,hr⟩,hn,hx⟩:=eQ hF hs;refine ⟨hn,hx,?_⟩
 have h1:=RO s.name s.items;have h2:=UZ _ _ hL;have h3:=congrArg nT hr;rw[ZB,rL]at h3;omega
end Go.Proofs.YtdcjdnkdeamigaaGreatDoor
namespace Go.Proofs.YtdcjdnkdeamigaaGreatDoor
open Go.ChangeShapes Go.WideShapes Go.ChangeAt Go.RowKit
theorem RM {l:List UInt8} {s:jV} {j:Nat} (h:(yE l).err=0) (hs:yB (yE l).toks=(some s,j)):s.items.length<=2000000:=by
 obtain ⟨hl,hL⟩:=fU h;obtain ⟨⟨r,hr⟩,-⟩:=eQ (kJ _ _ hL (pE h)) hs;have h1:=congrArg List.length hr;rw[List.length_map,List.length_append]at h1;have h2:=ZC s.items
 have h3:(s.items.flatMap lJ).length<=(VC s.name s.items).length:=by
  unfold VC;simp only[List.length_cons,List.length_append];omega
 have:=kK l;omega
theorem XP.on5 {w W:World} (h:XP w.heap.size w) (hb:Below w.heap.size w W):XP W.heap.size W:=fun w' h'=>h w' (hb.trans (h'.mono hb.size))
theorem MT {ts:List yJ} (hT:∀t ∈ ts,lY t.num) (hl:ts.length<=2000000) {i j:Nat} {x:zF} (h:uK ts i=(some x,j)):x.nums.length<=2000001:=by
 unfold uK at h
 split at h
 ·unfold vN at h
  obtain ⟨a1,j1,h1,h⟩:=zU h;obtain ⟨a2,j2,h2,h⟩:=zU h;obtain ⟨a3,j3,h3,h⟩:=zU h;obtain ⟨a4,j4,h4,h⟩:=zU h
  cases h
  have:=jK hl j4;show (yM ts j4).length<=_;omega
 split at h
 ·unfold vF at h
  obtain ⟨a1,j1,h1,h⟩:=zU h;obtain ⟨a2,j2,h2,h⟩:=zU h;obtain ⟨a3,j3,h3,h⟩:=zU h;obtain ⟨a4,j4,h4,h⟩:=zU h;obtain ⟨a5,j5,h5,h⟩:=zU h
  cases h
  obtain ⟨w1,w2⟩:=ZF hT hl h5;show a5.length<=_;omega
 split at h
 ·unfold dV at h
  obtain ⟨a1,j1,h1,h⟩:=zU h;obtain ⟨a2,j2,h2,h⟩:=zU h;obtain ⟨a3,j3,h3,h⟩:=zU h;obtain ⟨a4,j4,h4,h⟩:=zU h
  cases h
  simp
 unfold rY at h;obtain ⟨a1,j1,h1,h⟩:=zU h;obtain ⟨a2,j2,h2,h⟩:=zU h;obtain ⟨a3,j3,h3,h⟩:=zU h;obtain ⟨a4,j4,h4,h⟩:=zU h
 cases h
 simp
theorem cB {ts:List yJ} (hT:∀t ∈ ts,lY t.num) (hl:ts.length<=2000000):∀(n i j:Nat) (xs:List zF),vT n ts i=(some xs,j)->∀x ∈ xs,x.nums.length<=2000001
 |0,i,j,xs,h=>by cases h
 |n+1,i,j,xs,h=>by
  by_cases he:(zM ts i).text=[125]
  ·have e:vT (n+1) ts i=(some [],i):=by
    show (if _ then _ else _)=_;rw[if_pos he]
   rw[e]at h
   cases h
   intro x hx;cases hx
  rw[oP he]at h;obtain ⟨a1,j1,h1,h⟩:=zU h;obtain ⟨a2,j2,h2,h⟩:=zU h
  cases h
  unfold xY at h1;obtain ⟨b1,k1,g1,h1⟩:=zU h1;obtain ⟨b2,k2,g2,h1⟩:=zU h1
  cases h1
  intro x hx
  rcases List.mem_cons.1 hx with rfl|hx
  ·exact MT hT hl g1
  exact cB hT hl n _ _ _ h2 x hx
theorem UY {ts:List yJ} (hT:∀t ∈ ts,lY t.num) (hl:ts.length<=2000000) {s:jV} {j:Nat} (h:yB ts=(some s,j)):∀x ∈ s.items,x.nums.length<=2000001:=by
 unfold yB at h;obtain ⟨a1,j1,h1,h⟩:=zU h;obtain ⟨a2,j2,h2,h⟩:=zU h;obtain ⟨a3,j3,h3,h⟩:=zU h;obtain ⟨a4,j4,h4,h⟩:=zU h;obtain ⟨a5,j5,h5,h⟩:=zU h
 split at h
 ·cases h
  exact cB hT hl _ _ _ _ h4
 cases h
def mT (l:List UInt8):List UInt8 × List zF × Int × Int:=
 if (yE l).err≠0 then ([],[],(yE l).err,(yE l).place)
 else match yB (yE l).toks with
  |(none,j)=>([],[],50,(zM (yE l).toks j).place)
  |(some s,_)=>(s.name,s.items,0,0)
end Go.Proofs.YtdcjdnkdeamigaaGreatDoor
namespace Go.Proofs.YtdcjdnkdeamigaaGreatDoor
open Go.RowKit
def rK (l s:List UInt8) (p:Int):Prop:=∃q:Nat,p=(q:Int)/\q+s.length<=l.length/\(l.drop q).take s.length=s
theorem MS {t:yJ} (h:lL t=true):0<(spelt t).length:=by
 unfold spelt
 rcases sU h with ⟨a,-,c⟩|⟨a,-⟩|⟨a,-,c⟩
 ·rw [if_neg (by omega)]
  cases ht:t.text with
  |nil=>rw[ht]at c;exact absurd c (by decide)
  |cons x r=>simp
 ·rw [if_pos a];exact PX _
 rw[if_neg (by omega)]
 cases ht:t.text with
 |nil=>rw[ht]at c;exact absurd c (by decide)
 |cons x r=>simp
theorem iD (t:yJ) (r:List yJ) (k:Nat):zM (t::r) (k+1)=zM r k:=rfl
theorem pC {l:List UInt8} :∀(ts:List yJ) (p:Nat),cC l p ts->∀k,k<ts.length->rK l (spelt (zM ts k)) (zM ts k).place/\(p:Int)<=(zM ts k).place
 |[],p,h=>by cases h
 |t::r,p,h=>by
  obtain ⟨q,h1,h2,h3,h4,-,h6⟩:=h;intro k hk
  match k with
  |0=>exact ⟨⟨q,h1,h3,h4⟩,by show (p:Int)<=t.place;rw[h1];omega⟩
  |k+1=>
   rw[iD]
   rcases h6 with ⟨-,rfl,-⟩|⟨-,-,h7⟩
   ·simp at hk
   have:=pC r _ h7 k (by simp at hk;omega);exact ⟨this.1,by have:=this.2;omega⟩
theorem fT {l:List UInt8} :∀(ts:List yJ) (p:Nat),cC l p ts->∀k m,k<m->m<ts.length->(zM ts k).place<(zM ts m).place
 |[],p,h=>by cases h
 |t::r,p,h=>by
  obtain ⟨q,h1,h2,h3,h4,-,h6⟩:=h;intro k m hkm hm
  match m with
  |0=>omega
  |m+1=>
   rcases h6 with ⟨-,rfl,-⟩|⟨-,hr,h7⟩
   ·simp at hm
   match k with
   |0=>
    have h8:=(pC r _ h7 m (by simp at hm;omega)).2;have h9:=MS hr;rw[iD];show t.place<_
    rw[h1];omega
   |k+1=>
    rw[iD,iD];exact fT r _ h7 k m (by omega) (by simp at hm;omega)
theorem cA {l:List UInt8} {ts:List yJ} (hL:cC l 0 ts) {k:Nat} (hk:k<ts.length) (h:(zM ts k).sort≠2):rK l (zM ts k).text (zM ts k).place:=by
 have h1:=(pC ts 0 hL k hk).1;unfold spelt at h1;rw[if_neg h]at h1;exact h1
def DK (x:zF):Int:=max (max x.place x.frm.place) x.tg.place
def XL (l:List UInt8) (p:Int) (x:zF):Prop:=
 p<x.place/\((x.kind=1/\rK l [97,99,116,111,114] x.place/\x.frm.place=0/\x.tg.place=0)\/
  (x.kind=2/\rK l [101,100,103,101] x.place/\x.place<x.frm.place/\x.frm.place<x.tg.place/\rK l x.frm.name x.frm.place/\rK l x.tg.name x.tg.place)\/
  (x.kind=3/\rK l [105,110] x.place/\x.frm.place=0/\x.place<x.tg.place/\rK l x.tg.name x.tg.place)\/
  (x.kind=4/\rK l [111,117,116] x.place/\x.place<x.frm.place/\rK l x.frm.name x.frm.place/\x.tg.place=0))
def iC (l:List UInt8):Int->List zF->Prop
 |_,[]=>True
 |p,x::r=>XL l p x/\iC l (DK x) r
theorem vQ {ts:List yJ} {x:List UInt8} {i j:Nat} {u:Unit} (h:yX ts x i=(some u,j)):(zM ts i).text=x/\j=i+1:=by
 unfold yX at h
 split at h
 ·rename_i h1
  injection h with h2 h3
  exact ⟨h1,h3.symm⟩
 cases h
theorem sS {ts:List yJ} (hE:yQ ts) {p:vZ} {i j:Nat} (hi:i<ts.length) (h:xP ts i=(some p,j)):(zM ts i).sort=1/\p.name=(zM ts i).text/\p.place=(zM ts i).place/\i+2<j/\j<ts.length:=by
 unfold xP at h;obtain ⟨n,j1,h1,h⟩:=zU h;obtain ⟨u,j2,h2,h⟩:=zU h;obtain ⟨q,j3,h3,h⟩:=zU h;have e1:=uD h1;have e2:=(vQ h2).2;have e3:=dT h3
 have hs:(zM ts i).sort=1/\(zM ts i).text=n:=by
  unfold wY at h1
  split at h1
  ·rename_i h4
   injection h1 with h5 h6
   exact ⟨h4,Option.some.inj h5⟩
  cases h1
 have hs3:(zM ts j2).sort=2:=by
  unfold nY at h3
  split at h3
  ·assumption
  cases h3
 injection h with h4 h5
 have h4:=Option.some.inj h4;subst h4;subst h5;have b1:=hE.sort_lt hi (by decide) hs.1;have b2:=hE.text_lt (i:=j1) (by omega) (by decide) (vQ h2).1;have b3:=hE.sort_lt (i:=j2) (by omega) (by decide) hs3;exact ⟨hs.1,hs.2.symm,rfl,by omega,by omega⟩
theorem UX {l:List UInt8} {ts:List yJ} (hL:cC l 0 ts) (hE:yQ ts) {x:zF} {i j:Nat} {p:Int} (hi:i<ts.length) (hF:jZ ts) (hp:p<(zM ts i).place) (h:xY ts i=(some x,j)):XL l p x/\DK x<(zM ts j).place/\j<ts.length:=by
 have hj:=cM h hE hi;have rise:=fT ts 0 hL
 have word:∀k y,k<ts.length->(zM ts k).text=y->y≠[]->rK l y (zM ts k).place:=fun k y hk hy hn=>by
  rw[<- hy];refine cA hL hk (fun h2=>?_)
  rcases hF k with ⟨h3,-⟩|⟨h3,-⟩
  ·rcases sU h3 with ⟨a,-⟩|⟨-,b⟩|⟨a,-⟩
   ·omega
   ·exact hn (by rw[<- hy];exact b)
   omega
  omega
 have name:∀k,k<ts.length->(zM ts k).sort=1->rK l (zM ts k).text (zM ts k).place:=fun k hk hs=>cA hL hk (by omega)
 have zero:∀k,k<ts.length->0<=(zM ts k).place:=fun k hk=>by have:=(pC ts 0 hL k hk).2;omega
 unfold xY at h;obtain ⟨y,j1,h1,h⟩:=zU h;obtain ⟨u,j2,h2,h⟩:=zU h;have e2:=(vQ h2).2
 injection h with h3 h4
 have h3:=Option.some.inj h3;subst h3;subst h4;have hij:=VW h1;refine ⟨?_,?_,hj⟩
 all_goals
  unfold uK at h1
  split at h1
 ·rename_i ht
  unfold vN at h1;obtain ⟨u1,k1,g1,h1⟩:=zU h1;obtain ⟨u2,k2,g2,h1⟩:=zU h1;obtain ⟨u3,k3,g3,h1⟩:=zU h1;obtain ⟨u4,k4,g4,h1⟩:=zU h1
  injection h1 with h5 h6
  have h5:=Option.some.inj h5;subst h5;exact ⟨hp,.inl ⟨rfl,word i _ hi ht (by decide),rfl,rfl⟩⟩
 ·split at h1
  ·rename_i ht
   unfold vF at h1;obtain ⟨u1,k1,g1,h1⟩:=zU h1;obtain ⟨f,k2,g2,h1⟩:=zU h1;obtain ⟨u3,k3,g3,h1⟩:=zU h1;obtain ⟨t,k4,g4,h1⟩:=zU h1;obtain ⟨ns,k5,g5,h1⟩:=zU h1;have q1:=(vQ g1).2;have q3:=(vQ g3);have b1:=hE.text_lt hi (by decide) ht;obtain ⟨m1,m2,m3,m4,m5⟩:=sS hE (i:=k1) (by omega) g2;have b3:=hE.text_lt (i:=k2) (by omega) (by decide) q3.1;obtain ⟨n1,n2,n3,n4,n5⟩:=sS hE (i:=k3) (by omega) g4
   injection h1 with h5 h6
   have h5:=Option.some.inj h5;subst h5;refine ⟨hp,.inr (.inl ⟨rfl,word i _ hi ht (by decide),?_,?_,?_,?_⟩)⟩
   ·show (zM ts i).place<f.place
    rw[m3];exact rise _ _ (by omega) (by omega)
   ·show f.place<t.place
    rw[m3,n3];exact rise _ _ (by omega) (by omega)
   ·show rK l f.name f.place
    rw[m2,m3];exact name _ (by omega) m1
   show rK l t.name t.place;rw[n2,n3];exact name _ (by omega) n1
  split at h1
  ·rename_i ht
   unfold dV at h1;obtain ⟨u1,k1,g1,h1⟩:=zU h1;obtain ⟨n,k2,g2,h1⟩:=zU h1;obtain ⟨u3,k3,g3,h1⟩:=zU h1;obtain ⟨t,k4,g4,h1⟩:=zU h1;have q1:=(vQ g1).2;have q2:=uD g2;have q3:=(vQ g3);have b1:=hE.text_lt hi (by decide) ht
   have b2:k2<ts.length:=by have:=rN hE (i:=k1) (by omega);rw[g2]at this;exact this
   have b3:=hE.text_lt (i:=k2) b2 (by decide) q3.1;obtain ⟨n1,n2,n3,n4,n5⟩:=sS hE (i:=k3) (by omega) g4
   injection h1 with h5 h6
   have h5:=Option.some.inj h5;subst h5;refine ⟨hp,.inr (.inr (.inl ⟨rfl,word i _ hi ht (by decide),rfl,?_,?_⟩))⟩
   ·show (zM ts i).place<t.place
    rw[n3];exact rise _ _ (by omega) (by omega)
   show rK l t.name t.place;rw[n2,n3];exact name _ (by omega) n1
  unfold rY at h1;obtain ⟨u1,k1,g1,h1⟩:=zU h1;obtain ⟨f,k2,g2,h1⟩:=zU h1;obtain ⟨u3,k3,g3,h1⟩:=zU h1;obtain ⟨n,k4,g4,h1⟩:=zU h1;have q1:=(vQ g1);have b1:=hE.text_lt hi (by decide) q1.1;obtain ⟨m1,m2,m3,m4,m5⟩:=sS hE (i:=k1) (by omega) g2
  injection h1 with h5 h6
  have h5:=Option.some.inj h5;subst h5;refine ⟨hp,.inr (.inr (.inr ⟨rfl,word i _ hi q1.1 (by decide),?_,?_,rfl⟩))⟩
  ·show (zM ts i).place<f.place
   rw[m3];exact rise _ _ (by omega) (by omega)
  show rK l f.name f.place;rw[m2,m3];exact name _ (by omega) m1
 ·unfold vN at h1
  obtain ⟨u1,k1,g1,h1⟩:=zU h1;obtain ⟨u2,k2,g2,h1⟩:=zU h1;obtain ⟨u3,k3,g3,h1⟩:=zU h1;obtain ⟨u4,k4,g4,h1⟩:=zU h1
  injection h1 with h5 h6
  have h5:=Option.some.inj h5;subst h5;have r1:=rise i j2 (by omega) hj;have r2:=zero i hi;show max (max (zM ts i).place 0) 0<_
  omega
 split at h1
 ·rename_i ht
  unfold vF at h1;obtain ⟨u1,k1,g1,h1⟩:=zU h1;obtain ⟨f,k2,g2,h1⟩:=zU h1;obtain ⟨u3,k3,g3,h1⟩:=zU h1;obtain ⟨t,k4,g4,h1⟩:=zU h1;obtain ⟨ns,k5,g5,h1⟩:=zU h1;have q1:=(vQ g1).2;have q3:=(vQ g3);have b1:=hE.text_lt hi (by decide) ht;obtain ⟨m1,m2,m3,m4,m5⟩:=sS hE (i:=k1) (by omega) g2;have b3:=hE.text_lt (i:=k2) (by omega) (by decide) q3.1;obtain ⟨n1,n2,n3,n4,n5⟩:=sS hE (i:=k3) (by omega) g4;have q5:=VX g5
  injection h1 with h5 h6
  have h5:=Option.some.inj h5;subst h5;have r1:=rise i j2 (by omega) hj;have r2:=rise k1 j2 (by omega) hj;have r3:=rise k3 j2 (by omega) hj;show max (max (zM ts i).place f.place) t.place<_
  rw[m3,n3];omega
 split at h1
 ·rename_i ht
  unfold dV at h1;obtain ⟨u1,k1,g1,h1⟩:=zU h1;obtain ⟨n,k2,g2,h1⟩:=zU h1;obtain ⟨u3,k3,g3,h1⟩:=zU h1;obtain ⟨t,k4,g4,h1⟩:=zU h1;have q1:=(vQ g1).2;have q2:=uD g2;have q3:=(vQ g3);have b1:=hE.text_lt hi (by decide) ht
  have b2:k2<ts.length:=by have:=rN hE (i:=k1) (by omega);rw[g2]at this;exact this
  have b3:=hE.text_lt (i:=k2) b2 (by decide) q3.1;obtain ⟨n1,n2,n3,n4,n5⟩:=sS hE (i:=k3) (by omega) g4
  injection h1 with h5 h6
  have h5:=Option.some.inj h5;subst h5;have r1:=rise i j2 (by omega) hj;have r3:=rise k3 j2 (by omega) hj;have r4:=zero i hi;show max (max (zM ts i).place 0) t.place<_
  rw[n3];omega
 unfold rY at h1;obtain ⟨u1,k1,g1,h1⟩:=zU h1;obtain ⟨f,k2,g2,h1⟩:=zU h1;obtain ⟨u3,k3,g3,h1⟩:=zU h1;obtain ⟨n,k4,g4,h1⟩:=zU h1;have q1:=(vQ g1);have q3:=(vQ g3);have q4:=uD g4;have b1:=hE.text_lt hi (by decide) q1.1;obtain ⟨m1,m2,m3,m4,m5⟩:=sS hE (i:=k1) (by omega) g2
 injection h1 with h5 h6
 have h5:=Option.some.inj h5;subst h5;have r1:=rise i j2 (by omega) hj;have r2:=rise k1 j2 (by omega) hj;have r4:=zero i hi;show max (max (zM ts i).place f.place) 0<_
 rw[m3];omega
theorem iB {l:List UInt8} {ts:List yJ} (hL:cC l 0 ts) (hE:yQ ts) (hF:jZ ts):∀(n i j:Nat) (xs:List zF) (p:Int),i<ts.length->p<(zM ts i).place->vT n ts i=(some xs,j)->iC l p xs
 |0,i,j,xs,p,_,_,h=>by unfold vT at h;cases h
 |n+1,i,j,xs,p,hi,hp,h=>by
  unfold vT at h
  split at h
  ·injection h with h6 h7
   have h6:=Option.some.inj h6;subst h6
   trivial
  obtain ⟨x,j1,h1,h⟩:=zU h;obtain ⟨ys,j2,h2,h⟩:=zU h;obtain ⟨a,b,c⟩:=UX hL hE hi hF hp h1
  injection h with h6 h7
  have h6:=Option.some.inj h6;subst h6;exact ⟨a,iB hL hE hF n j1 j2 ys _ c b h2⟩
theorem aS {l:List UInt8} {ts:List yJ} (hL:cC l 0 ts) (hE:yQ ts) (hF:jZ ts) {s:jV} {j:Nat} (h:yB ts=(some s,j)):iC l 0 s.items:=by
 unfold yB at h;obtain ⟨u,j1,h1,h⟩:=zU h;obtain ⟨n,j2,h2,h⟩:=zU h;obtain ⟨u2,j3,h3,h⟩:=zU h;obtain ⟨xs,j4,h4,h⟩:=zU h;obtain ⟨u3,j5,h5,h⟩:=zU h;have q1:=vQ h1;have q2:=uD h2;have q3:=vQ h3;have b1:=hE.text_lt hE.pos (by decide) q1.1
 have b2:j2<ts.length:=by have:=rN hE (i:=j1) (by omega);rw[h2]at this;exact this
 have b3:=hE.text_lt (i:=j2) b2 (by decide) q3.1;have r:=fT ts 0 hL 0 j3 (by omega) (by omega);have z:=(pC ts 0 hL 0 hE.pos).2
 split at h
 ·injection h with h6 h7
  have h6:=Option.some.inj h6;subst h6;exact iB hL hE hF _ _ _ _ 0 (by omega) (by omega) h4
 cases h
end Go.Proofs.YtdcjdnkdeamigaaGreatDoor
