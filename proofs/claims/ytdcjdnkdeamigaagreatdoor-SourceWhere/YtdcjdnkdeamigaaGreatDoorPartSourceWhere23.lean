/- Texts of one chain. -/
import Derived.Test.YtdcjdnkdeamigaaGreatDoorPartQ
import Derived.Test.YtdcjdnkdeamigaaGreatDoorPartSourceWhere21
import Derived.Test.YtdcjdnkdeamigaaGreatDoorPartSourceWhere22
namespace Go.Proofs.YtdcjdnkdeamigaaGreatDoor
open Go.ChangeShapes Go.WideShapes Go.ChangeAt Go.RowKit
theorem XM:∀(m u:Nat),u<=m->u≠0->Lib.decDigits u=kB u
 |0,u,h,h0=>by omega
 |m+1,u,h,h0=>by
  rw[Lib.decDigits,lT h0]
  by_cases h1:u<10
  ·rw [dif_pos h1,show u / 10=0 by omega,oB,show u % 10=u by omega]
   rfl
  rw[dif_neg h1,XM m (u / 10) (by omega) (by omega)];rfl
theorem fW (n:Int):Lib.itoa n=gL n:=by
 unfold Lib.itoa gL
 by_cases h0:n=0
 ·subst h0
  rw[if_neg (by decide),if_pos rfl];rw[Lib.decDigits];rfl
 rw[if_neg h0]
 by_cases h1:n<0
 ·rw [if_pos h1,decide_eq_true h1,XM n.natAbs n.natAbs (Nat.le_refl _) (by omega)]
  rfl
 rw[if_neg h1,decide_eq_false h1,show n.toNat=n.natAbs by omega,XM n.natAbs n.natAbs (Nat.le_refl _) (by omega)];rfl
theorem nU {n:Int} (h: -9223372036854775808<=n/\n<=9223372036854775807):tK n:=by
 refine ⟨h,?_⟩
 rw[fW];unfold gL
 by_cases h0:n=0
 ·rw [if_pos h0];decide
 rw[if_neg h0,List.length_append];have h1:=VG 19 n.natAbs (by omega)
 have h2:(fD (decide (n<0))).length<=1:=by
  cases decide (n<0)<;>decide
 omega
def lX (n:Int):Prop:= -9223372036854775808<=n/\n<=9223372036854775807
theorem ZH:∀(l:List yJ) (x:Int),x ∈ ZO l->∃t ∈ l,x=t.num
 |[],x,h=>by cases h
 |t::r,x,h=>by
  unfold ZO at h
  split at h
  ·rcases List.mem_cons.1 h with rfl|h
   ·exact ⟨t,by simp,rfl⟩
   obtain ⟨u,hu,e⟩:=ZH r x h;exact ⟨u,by simp[hu],e⟩
  cases h
theorem ZG:∀(l:List yJ),(ZO l).length<=l.length
 |[]=>Nat.le_refl _
 |t::r=>by
  unfold ZO;have:=ZG r
  split
  ·simp;omega
  simp
theorem ZF {ts:List yJ} (hT:∀t ∈ ts,lX t.num) (i:Nat):∀x ∈ yM ts i,tK x:=fun x hx=>by
 obtain ⟨t,ht,rfl⟩:=ZH _ x hx;exact nU (hT t (List.mem_of_mem_drop ht))
theorem jJ {ts:List yJ} (hl:ts.length<=2000000) (i:Nat):(yM ts i).length<=2000000:=by
 have:=ZG (ts.drop i);rw[List.length_drop]at this;unfold yM;omega
theorem EN {ts:List yJ} (hT:∀t ∈ ts,lX t.num) (k:Nat):lX (zM ts k).num:=by
 unfold zM;rw[List.getD_eq_getElem?_getD]
 rcases Nat.lt_or_ge k ts.length with h|h
 ·rw [List.getElem?_eq_getElem h]
  exact hT _ (List.getElem_mem h)
 rw[List.getElem?_eq_none h];exact ⟨by decide,by decide⟩
theorem VF {ts:List yJ} (hT:∀t ∈ ts,lX t.num) {i j:Nat} {n:Int} (h:nX ts i=(some n,j)):tK n:=by
 unfold nX at h
 split at h
 ·cases h
  exact nU (EN hT i)
 cases h
theorem mU {ts:List yJ} (hT:∀t ∈ ts,lX t.num) {i j:Nat} {p:vZ} (h:xP ts i=(some p,j)):tK p.port:=by
 unfold xP at h;obtain ⟨a1,j1,h1,h⟩:=zU h;obtain ⟨a2,j2,h2,h⟩:=zU h;obtain ⟨a3,j3,h3,h⟩:=zU h
 cases h
 exact VF hT h3
theorem oL:tK zV.port:=nU ⟨by decide,by decide⟩
theorem fV:∀n ∈ ([]:List Int),tK n:=fun _ h=>by cases h
theorem ZE {ts:List yJ} (hT:∀t ∈ ts,lX t.num) (hl:ts.length<=2000000) {i j:Nat} {ns:List Int} (h:mE ts i=(some ns,j)):(∀ n ∈ ns,tK n)/\ns.length<=2000001:=by
 unfold mE at h
 split at h
 ·obtain ⟨a1,j1,h1,h⟩:=zU h
  cases h
  refine ⟨fun n hn=>?_,?_⟩
  ·rcases List.mem_cons.1 hn with rfl|hn
   ·exact VF hT h1
   exact ZF hT j1 n hn
  have:=jJ hl j1;simp;omega
 cases h
 exact ⟨fV,by simp⟩
theorem RR {ts:List yJ} (hT:∀t ∈ ts,lX t.num) (hl:ts.length<=2000000) {i j:Nat} {x:zF} (h:uK ts i=(some x,j)):aS x:=by
 unfold uK at h
 split at h
 ·unfold vN at h
  obtain ⟨a1,j1,h1,h⟩:=zU h;obtain ⟨a2,j2,h2,h⟩:=zU h;obtain ⟨a3,j3,h3,h⟩:=zU h;obtain ⟨a4,j4,h4,h⟩:=zU h
  cases h
  have:=jJ hl j4;exact ⟨oL,oL,ZF hT j4,by show (yM ts j4).length<=_;omega⟩
 split at h
 ·unfold vF at h
  obtain ⟨a1,j1,h1,h⟩:=zU h;obtain ⟨a2,j2,h2,h⟩:=zU h;obtain ⟨a3,j3,h3,h⟩:=zU h;obtain ⟨a4,j4,h4,h⟩:=zU h;obtain ⟨a5,j5,h5,h⟩:=zU h
  cases h
  obtain ⟨w1,w2⟩:=ZE hT hl h5;exact ⟨mU hT h2,mU hT h4,w1,by show a5.length<=_;omega⟩
 split at h
 ·unfold dU at h
  obtain ⟨a1,j1,h1,h⟩:=zU h;obtain ⟨a2,j2,h2,h⟩:=zU h;obtain ⟨a3,j3,h3,h⟩:=zU h;obtain ⟨a4,j4,h4,h⟩:=zU h
  cases h
  exact ⟨oL,mU hT h4,fV,by simp⟩
 unfold rX at h;obtain ⟨a1,j1,h1,h⟩:=zU h;obtain ⟨a2,j2,h2,h⟩:=zU h;obtain ⟨a3,j3,h3,h⟩:=zU h;obtain ⟨a4,j4,h4,h⟩:=zU h
 cases h
 exact ⟨mU hT h2,oL,fV,by simp⟩
theorem eR {ts:List yJ} (hT:∀t ∈ ts,lX t.num) (hl:ts.length<=2000000):∀(n i j:Nat) (xs:List zF),vT n ts i=(some xs,j)->∀x ∈ xs,aS x
 |0,i,j,xs,h=>by cases h
 |n+1,i,j,xs,h=>by
  by_cases he:(zM ts i).text=[125]
  ·have e:vT (n+1) ts i=(some [],i):=by
    show (if _ then _ else _)=_;rw[if_pos he]
   rw[e]at h
   cases h
   intro x hx;cases hx
  rw[oO he]at h;obtain ⟨a1,j1,h1,h⟩:=zU h;obtain ⟨a2,j2,h2,h⟩:=zU h
  cases h
  unfold xY at h1;obtain ⟨b1,k1,g1,h1⟩:=zU h1;obtain ⟨b2,k2,g2,h1⟩:=zU h1
  cases h1
  intro x hx
  rcases List.mem_cons.1 hx with rfl|hx
  ·exact RR hT hl g1
  exact eR hT hl n _ _ _ h2 x hx
theorem XL {ts:List yJ} (hT:∀t ∈ ts,lX t.num) (hl:ts.length<=2000000) {s:jU} {j:Nat} (h:yB ts=(some s,j)):∀x ∈ s.items,aS x:=by
 unfold yB at h;obtain ⟨a1,j1,h1,h⟩:=zU h;obtain ⟨a2,j2,h2,h⟩:=zU h;obtain ⟨a3,j3,h3,h⟩:=zU h;obtain ⟨a4,j4,h4,h⟩:=zU h;obtain ⟨a5,j5,h5,h⟩:=zU h
 split at h
 ·cases h
  exact eR hT hl _ _ _ _ h4
 cases h
theorem NA {v:Int} (h:wC v=true):lX v:=by
 unfold wC at h;rw[Bool.and_eq_true,decide_eq_true_iff,decide_eq_true_iff]at h;exact h
theorem rV:lX 0:=⟨by decide,by decide⟩
theorem MZ {neg:Bool} {ds:List UInt8} {v:Int} (h:kD neg ds=some v):lX v:=by
 unfold kD at h
 split at h
 ·rename_i hc
  cases h
  rw[Bool.and_eq_true]at hc;exact NA hc.2
 cases h
theorem JZ (l:List UInt8):lX (yL l).tok.num:=by
 unfold yL
 split
 ·unfold oT
  split
  ·exact rV
  exact rV
 split
 ·unfold vI
  simp only
  cases h:kD (decide (xF l 0=45)) _ with
  |none=>exact rV
  |some v=>exact MZ h
 split
 ·exact rV
 split
 ·exact rV
 exact rV
theorem VE:∀(n p:Nat) (x:List UInt8),x.length<=n->∀t ∈ (vH p x).toks,lX t.num
 |n,p,x,hn=>by
  by_cases h1:x.drop (zK false x)=[]
  ·rw [sM h1]
   intro t ht
   have e:t=⟨0,[],0,((p+zK false x:Nat):Int)⟩:=by simpa using ht
   rw[e];exact rV
  by_cases h2:(yL (x.drop (zK false x))).err=0
  ·obtain ⟨h3,h4,-⟩:=tT h2
   rw[List.length_drop]at h4;rw[sK h1 h2];unfold gM.cons
   match n,hn with
   |0,hn=>omega
   |n+1,hn=>
    have ih:=VE n (p+zK false x+(yL (x.drop (zK false x))).n) (x.drop (zK false x+(yL (x.drop (zK false x))).n)) (by rw[List.length_drop];omega)
    split
    ·intro t ht
     rcases List.mem_cons.1 ht with rfl|ht
     ·exact JZ _
     exact ih t ht
    exact ih
  rw[sL h1 h2];intro t ht
  cases ht
theorem ZD (l:List UInt8):∀t ∈ (yE l).toks,lX t.num:=by
 unfold yE
 split
 ·intro t ht;cases ht
 exact VE l.length 0 l (Nat.le_refl _)
theorem MY {l:List UInt8} {s:jU} {j:Nat} (h:yB (yE l).toks=(some s,j)):∀x ∈ s.items,aS x:=XL (ZD l) (kJ l) h
def PY (nm:List UInt8) (xs:List zF):List UInt8:=sU nm++xs.flatMap sV++[125,10]
def lJ (nm:List UInt8) (xs:List zF):List UInt8 × Int:=
 if (xs.all xU&&yO nm)=true then (if 1048576<(PY nm xs).length then ([],2) else (PY nm xs,0)) else ([],1)
theorem RQ (nm:List UInt8) (L:List (zF × Value)):sH nm L=PY nm (L.map Prod.fst):=by
 unfold sH PY uC;rw[List.flatMap_map]
theorem VD (nm:List UInt8) (L:List (zF × Value)):oD nm L=lJ nm (L.map Prod.fst):=by
 unfold oD lJ;rw[RQ]
 have:pC L=(L.map Prod.fst).all xU:=by
  unfold pC;rw[List.all_map];rfl
 rw[this]
end Go.Proofs.YtdcjdnkdeamigaaGreatDoor
namespace Go.Proofs.YtdcjdnkdeamigaaGreatDoor
open Go.RowKit
def ZC (x:List UInt8):yJ:=⟨1,x,0,0⟩
def MX (x:List UInt8):yJ:=⟨3,x,0,0⟩
def DK (n:Int):yJ:=⟨2,[],n,0⟩
structure VC (x : zF) : Prop where
 frm:wC x.frm.port=true
 tO:wC x.tO.port=true
 nums:∀n ∈ x.nums,wC n=true
def eQ (ns:List Int):List yJ:=ns.map DK
def jI (p:vZ):List yJ:=[ZC p.name,MX [46],DK p.port]
def cH (x:zF):List yJ:=
 if x.kind=1 then [ZC [97,99,116,111,114],ZC x.name,MX [61],ZC x.tag]
 else if x.kind=2 then ZC [101,100,103,101]::(jI x.frm++MX [45,62]::jI x.tO)
 else if x.kind=3 then ZC [105,110]::ZC x.name::MX [45,62]::jI x.tO
 else ZC [111,117,116]::(jI x.frm++[MX [45,62],ZC x.name])
def cG (x:zF):List yJ:=if x.kind=2/\x.nums≠[] then [ZC [119,105,116,104]] else []
def lH (x:zF):List yJ:=cH x++(cG x++(eQ x.nums++[MX [59]]))
def VB (nm:List UInt8) (xs:List zF):List yJ:=ZC [103,114,97,112,104]::ZC nm::MX [123]::(xs.flatMap lH++[MX [125]])
theorem MW (x:zF):0<(lH x).length:=by
 unfold lH;simp only[List.length_append,List.length_cons];omega
theorem ZB:∀xs:List zF,xs.length<=(xs.flatMap lH).length
 |[]=>Nat.le_refl _
 |x::r=>by
  rw[List.flatMap_cons,List.length_append,List.length_cons];have:=ZB r;have:=MW x;omega
def jY (ts:List yJ):Prop:=∀k,(lK (zM ts k)=true/\wC (zM ts k).num=true)\/((zM ts k).sort=0/\(zM ts k).text=[])
def nT (ts:List yJ) (i j:Nat) (us:List yJ):Prop:=(ts.drop i).map oM=us++(ts.drop j).map oM
theorem nT.trans {ts:List yJ} {i j k:Nat} {a b:List yJ} (h1:nT ts i j a) (h2:nT ts j k b):nT ts i k (a++b):=by
 unfold nT at *;rw[h1,h2,List.append_assoc]
theorem cF (ts:List yJ) (i:Nat):nT ts i i []:=rfl
theorem iD {ts:List yJ} {i:Nat} (h:zM ts i≠wM):nT ts i (i+1) [oM (zM ts i)]:=by
 unfold nT
 have hi:i<ts.length:=by
  rcases Nat.lt_or_ge i ts.length with h1|h1
  ·exact h1
  exact absurd (by unfold zM;rw[List.getD_eq_getElem?_getD,List.getElem?_eq_none h1];rfl) h
 rw[List.drop_eq_getElem_cons hi]
 have e:zM ts i=ts[i]:=by unfold zM;rw[List.getD_eq_getElem?_getD,List.getElem?_eq_getElem hi];rfl
 rw[e];rfl
theorem sT {t:yJ} (h:lK t=true):(t.sort=1/\t.num=0/\yO t.text=true)\/(t.sort=2/\t.text=[])\/(t.sort=3/\t.num=0/\dI t.text=true):=by
 unfold lK at h
 split at h
 ·rename_i h1
  rw[Bool.and_eq_true,decide_eq_true_iff]at h;exact .inl ⟨h1,h⟩
 split at h
 ·rename_i h1
  rw[decide_eq_true_iff]at h;exact .inr (.inl ⟨h1,h⟩)
 split at h
 ·rename_i h1
  rw[Bool.and_eq_true,decide_eq_true_iff]at h;exact .inr (.inr ⟨h1,h⟩)
 cases h
theorem pO {ts:List yJ} (hF:jY ts) {x:List UInt8} {i j:Nat} {u:Unit} (hx:dI x=false) (hn:x≠[]) (h:yX ts x i=(some u,j)):nT ts i j [ZC x]/\j=i+1:=by
 have hj:=uW h
 have ht:(zM ts i).text=x:=by
  unfold yX at h
  split at h
  ·assumption
  cases h
 subst hj;refine ⟨?_,rfl⟩
 have h1:=iD (ts:=ts) (i:=i) (fun e=>hn (by rw[<- ht,e];rfl))
 have h2:oM (zM ts i)=ZC x:=by
  rcases hF i with ⟨h3,-⟩|⟨-,h3⟩
  ·rcases sT h3 with ⟨a,b,c⟩|⟨a,b⟩|⟨a,b,c⟩
   ·unfold oM ZC;rw[a,b,ht]
   ·rw [ht]at b;exact absurd b hn
   rw[ht,hx]at c;cases c
  rw[ht]at h3;exact absurd h3 hn
 rw[h2]at h1;exact h1
theorem sS {ts:List yJ} (hF:jY ts) {x:List UInt8} {i j:Nat} {u:Unit} (hx:rP (xF x 0)=false) (hn:x≠[]) (h:yX ts x i=(some u,j)):nT ts i j [MX x]/\j=i+1:=by
 have hj:=uW h
 have ht:(zM ts i).text=x:=by
  unfold yX at h
  split at h
  ·assumption
  cases h
 subst hj;refine ⟨?_,rfl⟩
 have h1:=iD (ts:=ts) (i:=i) (fun e=>hn (by rw[<- ht,e];rfl))
 have h2:oM (zM ts i)=MX x:=by
  rcases hF i with ⟨h3,-⟩|⟨-,h3⟩
  ·rcases sT h3 with ⟨a,b,c⟩|⟨a,b⟩|⟨a,b,c⟩
   ·rw [ht]at c
    unfold yO at c;rw[hx]at c;simp at c
   ·rw [ht]at b;exact absurd b hn
   unfold oM MX;rw[a,b,ht]
  rw[ht]at h3;exact absurd h3 hn
 rw[h2]at h1;exact h1
theorem pN {ts:List yJ} (hF:jY ts) {n:List UInt8} {i j:Nat} (h:wY ts i=(some n,j)):nT ts i j [ZC n]/\yO n=true:=by
 have hj:=uD h
 have ht:(zM ts i).sort=1/\(zM ts i).text=n:=by
  unfold wY at h
  split at h
  ·rename_i h1
   injection h with h2 h3
   exact ⟨h1,Option.some.inj h2⟩
  cases h
 subst hj;have h1:=iD (ts:=ts) (i:=i) (fun e=>by rw[e]at ht;exact absurd ht.1 (by decide))
 rcases hF i with ⟨h3,-⟩|⟨h3,-⟩
 ·rcases sT h3 with ⟨a,b,c⟩|⟨a,b⟩|⟨a,b,c⟩
  ·have h2:oM (zM ts i)=ZC n:=by unfold oM ZC;rw[a,b,ht.2]
   rw[h2]at h1;exact ⟨h1,by rw[<- ht.2];exact c⟩
  ·omega
  omega
 omega
theorem PX {ts:List yJ} (hF:jY ts) {i:Nat} (h:(zM ts i).sort=2):nT ts i (i+1) [DK (zM ts i).num]/\wC (zM ts i).num=true:=by
 have h1:=iD (ts:=ts) (i:=i) (fun e=>by rw[e]at h;exact qD h)
 rcases hF i with ⟨h3,h4⟩|⟨h3,-⟩
 ·rcases sT h3 with ⟨a,b,c⟩|⟨a,b⟩|⟨a,b,c⟩
  ·omega
  ·have h2:oM (zM ts i)=DK (zM ts i).num:=by unfold oM DK;rw[a,b]
   rw[h2]at h1;exact ⟨h1,h4⟩
  omega
 omega
theorem VA {ts:List yJ} (hF:jY ts) {n:Int} {i j:Nat} (h:nX ts i=(some n,j)):nT ts i j [DK n]/\wC n=true:=by
 have hj:=dS h
 have ht:(zM ts i).sort=2/\(zM ts i).num=n:=by
  unfold nX at h
  split at h
  ·rename_i h1
   injection h with h2 h3
   exact ⟨h1,Option.some.inj h2⟩
  cases h
 subst hj;have:=PX hF ht.1;rw[ht.2]at this;exact this
theorem fU {ts:List yJ} (hF:jY ts):∀(n i:Nat),ts.length-i<=n->nT ts i (i+(yM ts i).length) (eQ (yM ts i))/\∀x ∈ yM ts i,wC x=true
 |n,i,hn=>by
  by_cases h2:(zM ts i).sort=2
  ·have hi:i<ts.length:=by
    rcases Nat.lt_or_ge i ts.length with h1|h1
    ·exact h1
    have:zM ts i=wM:=by unfold zM;rw[List.getD_eq_getElem?_getD,List.getElem?_eq_none h1];rfl
    rw[this]at h2;exact absurd h2 (by decide)
   match n,hn with
   |0,hn=>omega
   |n+1,hn=>
    obtain ⟨a,b⟩:=PX hF h2;obtain ⟨c,d⟩:=fU hF n (i+1) (by omega);rw[gB hi h2];refine ⟨?_,fun x hx=>?_⟩
    ·have:=a.trans c
     rw[List.length_cons,show i+((yM ts (i+1)).length+1)=i+1+(yM ts (i+1)).length by omega];exact this
    rcases List.mem_cons.1 hx with rfl|hx
    ·exact b
    exact d x hx
  rw[gA h2];exact ⟨cF ts i,fun x hx=>by cases hx⟩
theorem mT {ts:List yJ} (hF:jY ts) {p:vZ} {i j:Nat} (h:xP ts i=(some p,j)):nT ts i j (jI p)/\yO p.name=true/\wC p.port=true:=by
 unfold xP at h;obtain ⟨n,j1,h1,h⟩:=zU h;obtain ⟨u,j2,h2,h⟩:=zU h;obtain ⟨q,j3,h3,h⟩:=zU h;obtain ⟨a,b⟩:=pN hF h1;obtain ⟨c,-⟩:=sS hF rfl (by decide) h2;obtain ⟨d,e⟩:=VA hF h3
 injection h with h4 h5
 have h4:=Option.some.inj h4;subst h4;subst h5;exact ⟨a.trans (c.trans d),b,e⟩
theorem MV {ts:List yJ} (hF:jY ts) {ns:List Int} {i j:Nat} (h:mE ts i=(some ns,j)):nT ts i j ((if ns≠[] then [ZC [119,105,116,104]] else [])++eQ ns)/\∀x ∈ ns,wC x=true:=by
 unfold mE at h
 split at h
 ·rename_i h0
  obtain ⟨x,j1,h1,h⟩:=zU h
  have hw:yX ts [119,105,116,104] i=(some (),i+1):=by unfold yX;rw[if_pos h0]
  obtain ⟨a,-⟩:=pO hF rfl (by decide) hw;obtain ⟨b,c⟩:=VA hF h1;obtain ⟨d,e⟩:=fU hF (ts.length-j1) j1 (Nat.le_refl _)
  injection h with h2 h3
  have h2:=Option.some.inj h2;subst h2;subst h3;refine ⟨?_,fun y hy=>?_⟩
  ·rw [if_pos (List.cons_ne_nil _ _)]
   exact a.trans (b.trans d)
  rcases List.mem_cons.1 hy with rfl|hy
  ·exact c
  exact e y hy
 injection h with h2 h3
 have h2:=Option.some.inj h2;subst h2;subst h3;exact ⟨cF ts i,fun x hx=>by cases hx⟩
theorem RP:oW zV=true:=rfl
theorem MU {ts:List yJ} (hF:jY ts) {x:zF} {i j:Nat} (h:uK ts i=(some x,j)):nT ts i j (cH x++(cG x++eQ x.nums))/\xU x=true/\VC x:=by
 unfold uK at h
 split at h
 ·unfold vN at h
  obtain ⟨u,j1,h1,h⟩:=zU h;obtain ⟨n,j2,h2,h⟩:=zU h;obtain ⟨u2,j3,h3,h⟩:=zU h;obtain ⟨t,j4,h4,h⟩:=zU h;obtain ⟨a1,-⟩:=pO hF rfl (by decide) h1;obtain ⟨a2,b2⟩:=pN hF h2;obtain ⟨a3,-⟩:=sS hF rfl (by decide) h3;obtain ⟨a4,b4⟩:=pN hF h4;obtain ⟨a5,b5⟩:=fU hF (ts.length-j4) j4 (Nat.le_refl _)
  injection h with h6 h7
  have h6:=Option.some.inj h6;subst h6;subst h7;refine ⟨a1.trans (a2.trans (a3.trans (a4.trans a5))),?_,⟨rfl,rfl,b5⟩⟩
  unfold xU;simp only[if_true,b2,b4,RP,Bool.and_self]
 split at h
 ·unfold vF at h
  obtain ⟨u,j1,h1,h⟩:=zU h;obtain ⟨f,j2,h2,h⟩:=zU h;obtain ⟨u2,j3,h3,h⟩:=zU h;obtain ⟨t,j4,h4,h⟩:=zU h;obtain ⟨ns,j5,h5,h⟩:=zU h;obtain ⟨a1,-⟩:=pO hF rfl (by decide) h1;obtain ⟨a2,b2,c2⟩:=mT hF h2;obtain ⟨a3,-⟩:=sS hF rfl (by decide) h3;obtain ⟨a4,b4,c4⟩:=mT hF h4;obtain ⟨a5,b5⟩:=MV hF h5
  injection h with h6 h7
  have h6:=Option.some.inj h6;subst h6;subst h7;refine ⟨?_,?_,⟨c2,c4,b5⟩⟩
  ·have:=a1.trans (a2.trans (a3.trans (a4.trans a5)))
   unfold cH cG;simp only[show ¬((2:Int)=1) by decide,if_false,if_true,true_and]
   simpa [List.append_assoc] using this
  unfold xU;simp[b2,b4]
 split at h
 ·unfold dU at h
  obtain ⟨u,j1,h1,h⟩:=zU h;obtain ⟨n,j2,h2,h⟩:=zU h;obtain ⟨u2,j3,h3,h⟩:=zU h;obtain ⟨t,j4,h4,h⟩:=zU h;obtain ⟨a1,-⟩:=pO hF rfl (by decide) h1;obtain ⟨a2,b2⟩:=pN hF h2;obtain ⟨a3,-⟩:=sS hF rfl (by decide) h3;obtain ⟨a4,b4,c4⟩:=mT hF h4
  injection h with h6 h7
  have h6:=Option.some.inj h6;subst h6;subst h7;refine ⟨?_,?_,⟨rfl,c4,fun x hx=>by cases hx⟩⟩
  ·have:=a1.trans (a2.trans (a3.trans a4))
   unfold cH cG;simp only[show ¬((3:Int)=1) by decide,show ¬((3:Int)=2) by decide,if_false,if_true,false_and]
   simpa [eQ] using this
  unfold xU;simp[b2,b4,mD,RP]
 unfold rX at h;obtain ⟨u,j1,h1,h⟩:=zU h;obtain ⟨f,j2,h2,h⟩:=zU h;obtain ⟨u2,j3,h3,h⟩:=zU h;obtain ⟨n,j4,h4,h⟩:=zU h;obtain ⟨a1,-⟩:=pO hF rfl (by decide) h1;obtain ⟨a2,b2,c2⟩:=mT hF h2;obtain ⟨a3,-⟩:=sS hF rfl (by decide) h3;obtain ⟨a4,b4⟩:=pN hF h4
 injection h with h6 h7
 have h6:=Option.some.inj h6;subst h6;subst h7;refine ⟨?_,?_,⟨c2,rfl,fun x hx=>by cases hx⟩⟩
 ·have:=a1.trans (a2.trans (a3.trans a4))
  unfold cH cG;simp only[show ¬((4:Int)=1) by decide,show ¬((4:Int)=2) by decide,show ¬((4:Int)=3) by decide,if_false,false_and]
  simpa [eQ] using this
 unfold xU;simp[b2,b4,mD,RP]
theorem MT {ts:List yJ} (hF:jY ts) {x:zF} {i j:Nat} (h:xY ts i=(some x,j)):nT ts i j (lH x)/\xU x=true/\VC x:=by
 unfold xY at h;obtain ⟨y,j1,h1,h⟩:=zU h;obtain ⟨u,j2,h2,h⟩:=zU h;obtain ⟨a1,b1,c1⟩:=MU hF h1;obtain ⟨a2,-⟩:=sS hF rfl (by decide) h2
 injection h with h6 h7
 have h6:=Option.some.inj h6;subst h6;subst h7;refine ⟨?_,b1,c1⟩
 have:=a1.trans a2;unfold lH
 simpa [List.append_assoc] using this
theorem cE {ts:List yJ} (hF:jY ts):∀(n i j:Nat) (xs:List zF),vT n ts i=(some xs,j)->nT ts i j (xs.flatMap lH)/\∀x ∈ xs,xU x=true/\VC x
 |0,i,j,xs,h=>by unfold vT at h;cases h
 |n+1,i,j,xs,h=>by
  unfold vT at h
  split at h
  ·injection h with h6 h7
   have h6:=Option.some.inj h6;subst h6;subst h7;exact ⟨cF ts i,fun x hx=>by cases hx⟩
  obtain ⟨x,j1,h1,h⟩:=zU h;obtain ⟨ys,j2,h2,h⟩:=zU h;obtain ⟨a1,b1⟩:=MT hF h1;obtain ⟨a2,b2⟩:=cE hF n j1 j2 ys h2
  injection h with h6 h7
  have h6:=Option.some.inj h6;subst h6;subst h7;refine ⟨by rw[List.flatMap_cons];exact a1.trans a2,fun y hy=>?_⟩
  rcases List.mem_cons.1 hy with rfl|hy
  ·exact b1
  exact b2 y hy
theorem eO {ts:List yJ} (hF:jY ts) {s:jU} {j:Nat} (h:yB ts=(some s,j)):(∃ r,ts.map oM=VB s.name s.items++r)/\yO s.name=true/\∀x ∈ s.items,xU x=true/\VC x:=by
 unfold yB at h;obtain ⟨u,j1,h1,h⟩:=zU h;obtain ⟨n,j2,h2,h⟩:=zU h;obtain ⟨u2,j3,h3,h⟩:=zU h;obtain ⟨xs,j4,h4,h⟩:=zU h;obtain ⟨u3,j5,h5,h⟩:=zU h;obtain ⟨a1,-⟩:=pO hF rfl (by decide) h1;obtain ⟨a2,b2⟩:=pN hF h2;obtain ⟨a3,-⟩:=sS hF rfl (by decide) h3;obtain ⟨a4,b4⟩:=cE hF _ _ _ _ h4;obtain ⟨a5,-⟩:=sS hF rfl (by decide) h5
 split at h
 ·injection h with h6 h7
  have h6:=Option.some.inj h6;subst h6;refine ⟨⟨(ts.drop j5).map oM,?_⟩,b2,b4⟩
  have:=a1.trans (a2.trans (a3.trans (a4.trans a5)));unfold nT at this;rw[List.drop_zero]at this;exact this
 cases h
def nS (ts:List yJ):Nat:=(ts.map fun t=>(spelt t).length).sum
theorem rK (a b:List yJ):nS (a++b)=nS a+nS b:=by unfold nS;rw[List.map_append,List.sum_append_nat]
theorem vD (t:yJ) (r:List yJ):nS (t::r)=(spelt t).length+nS r:=by unfold nS;rw[List.map_cons,List.sum_cons]
theorem ZA:∀ts:List yJ,nS (ts.map oM)=nS ts
 |[]=>rfl
 |t::r=>by rw[List.map_cons,vD,vD,ZA r];rfl
theorem PV (n:Int):0<(gL n).length:=by
 unfold gL
 split
 ·decide
 rename_i h
 have hn:0<n.natAbs:=by omega
 obtain ⟨-,-,a3⟩:=dJ n.natAbs n.natAbs (Nat.le_refl _);have:=(a3 hn).1;rw[List.length_append];have h2:0<(kB n.natAbs).length:=List.length_pos_iff.2 this;omega
theorem nR (x:List UInt8):(spelt (ZC x)).length=x.length:=rfl
theorem nQ (x:List UInt8):(spelt (MX x)).length=x.length:=rfl
theorem UZ (n:Int):(spelt (DK n)).length=(gL n).length:=rfl
theorem cD:∀ns:List Int,(uV ns).length<=4*nS (eQ ns)
 |[]=>Nat.zero_le _
 |n::r=>by
  have ih:=cD r;have:=PV n;show (cK n++uV r).length<=4*nS (DK n::eQ r)
  rw[vD,UZ,List.length_append];unfold cK;rw[List.length_cons,fW];omega
theorem YZ (p:vZ):nS (jI p)=p.name.length+(1+(gL p.port).length):=by
 unfold jI;rw[vD,vD,vD,nR,nQ,UZ];rfl
theorem cC (p:vZ):(zG p).length=p.name.length+1+(gL p.port).length:=by
 unfold zG;rw[fW];simp;omega
theorem RO (x:zF):(sV x).length<=4*nS (lH x):=by
 have hn:=cD x.nums;unfold sV lH;rw[rK,rK,rK,List.length_append,List.length_append,List.length_append]
 have hw:(sA x).length<=4*nS (cG x):=by
  unfold sA cG
  split
  ·decide
  decide
 have hh:(sB x).length+2<=4*(nS (cH x)+1):=by
  have hf:=cC x.frm;have ht:=cC x.tO;have qf:=YZ x.frm;have qt:=YZ x.tO;unfold sB cH
  split
  ·simp only[vD,nR,nQ,List.length_append,List.length_cons,List.length_nil]
   omega
  split
  ·simp only[vD,rK,nR,nQ,List.length_append,List.length_cons,List.length_nil,hf,ht,qf,qt]
   omega
  split
  ·simp only[vD,nR,nQ,List.length_append,List.length_cons,List.length_nil,ht,qt]
   omega
  simp only[vD,rK,nR,nQ,List.length_append,List.length_cons,List.length_nil,hf,qf];omega
 have he:nS [MX [59]]=1:=rfl;rw[he];show _+_+_+2<=_
 omega
theorem eN:∀xs:List zF,(xs.flatMap sV).length<=4*nS (xs.flatMap lH)
 |[]=>Nat.zero_le _
 |x::r=>by
  rw[List.flatMap_cons,List.flatMap_cons,rK,List.length_append];have:=eN r;have:=RO x;omega
theorem RN (nm:List UInt8) (xs:List zF):(sU nm++xs.flatMap sV++[125,10]).length<=4*nS (VB nm xs):=by
 have h:=eN xs;unfold sU VB;simp only[vD,rK,nR,nQ,List.length_append,List.length_cons,List.length_nil];omega
def cB (l:List UInt8):Nat->List yJ->Prop
 |_,[]=>False
 |p,t::r=>∃q:Nat,t.place=(q:Int)/\p<=q/\q+(spelt t).length<=l.length/\(l.drop q).take (spelt t).length=spelt t/\wC t.num=true/\((t.sort=0/\r=[]/\q+(spelt t).length=l.length)\/(t.sort≠0/\lK t=true/\cB l (q+(spelt t).length) r))
theorem PU {l:List UInt8} :∀(n p:Nat) (ts:List yJ),ts.length<=n->p<=l.length->vH p (l.drop p)=⟨ts,0,0⟩->cB l p ts
 |0,p,ts,hn,hp,h=>by
  obtain ⟨t,rest,q,s,rfl,st⟩:=iF hp h;simp at hn
 |n+1,p,ts,hn,hp,h=>by
  obtain ⟨t,rest,q,s,rfl,st⟩:=iF hp h;have es:=st.spelt;have r1:=st.room;have r2:=st.stands;subst es;refine ⟨q,st.place,st.le,r1,r2,st.fits,?_⟩
  rcases st.ways with ⟨a,b,c⟩|⟨a,b,c,d⟩
  ·exact .inl ⟨a,b,c⟩
  exact .inr ⟨a,b,PU n _ rest (by simp at hn;omega) r1 d⟩
theorem UY {l:List UInt8} :∀(ts:List yJ) (p:Nat),cB l p ts->p+nS ts<=l.length
 |[],p,h=>by cases h
 |t::r,p,h=>by
  obtain ⟨q,-,h2,h3,-,-,h6⟩:=h;rw[vD]
  rcases h6 with ⟨-,rfl,-⟩|⟨-,-,h7⟩
  ·show p+((spelt t).length+0)<=_;omega
  have:=UY r _ h7;omega
theorem kI {l:List UInt8} :∀(ts:List yJ) (p:Nat),cB l p ts->yQ ts->jY ts
 |[],p,h,_=>by cases h
 |t::r,p,h,hE=>by
  obtain ⟨q,-,h2,h3,-,h5,h6⟩:=h
  rcases h6 with ⟨a,rfl,-⟩|⟨a,b,h7⟩
  ·intro k
   match k with
   |0=>exact .inr ⟨a,hE.text⟩
   |k+1=>exact .inr ⟨rfl,rfl⟩
  have hr:r≠[]:=by intro e;rw[e]at h7;cases h7
  have hE2:yQ r:=by
   have hp:=hE.pos;have h1:0<r.length:=List.length_pos_iff.2 hr
   have e:(t::r).length-1=(r.length-1)+1:=by rw[List.length_cons];omega
   refine ⟨h1,?_,?_⟩
   ·have:=hE.sort;rw[e]at this;exact this
   have:=hE.text;rw[e]at this;exact this
  have ih:=kI r _ h7 hE2;intro k
  match k with
  |0=>exact .inl ⟨b,h5⟩
  |k+1=>exact ih k
theorem fT {l:List UInt8} (h:(yE l).err=0):l.length<=1048576/\cB l 0 (yE l).toks:=by
 by_cases hl:1048576<l.length
 ·unfold yE at h
  rw[if_pos hl]at h
  cases h
 have e:yE l=vH 0 l:=by unfold yE;rw[if_neg hl]
 rw[e]at h ⊢;refine ⟨by omega,PU _ 0 _ (Nat.le_refl _) (Nat.zero_le _) ?_⟩
 rw[List.drop_zero];have hz:=kR h;generalize vH 0 l=G at *;obtain ⟨ts,er,pl⟩:=G;simp only at h hz;subst h;subst hz;rfl
theorem RM {l:List UInt8} {s:jU} {j:Nat} (h:(yE l).err=0) (hs:yB (yE l).toks=(some s,j)):
 yO s.name=true/\(∀ x ∈ s.items,xU x=true/\VC x)/\(sU s.name++s.items.flatMap sV++[125,10]).length<=4*l.length:=by
 obtain ⟨hl,hL⟩:=fT h;have hF:=kI _ _ hL (pD h);obtain ⟨⟨r,hr⟩,hn,hx⟩:=eO hF hs;refine ⟨hn,hx,?_⟩
 have h1:=RN s.name s.items;have h2:=UY _ _ hL;have h3:=congrArg nS hr;rw[ZA,rK]at h3;omega
end Go.Proofs.YtdcjdnkdeamigaaGreatDoor
namespace Go.Proofs.YtdcjdnkdeamigaaGreatDoor
open Go.ChangeShapes Go.WideShapes Go.ChangeAt Go.RowKit
theorem RL {l:List UInt8} {s:jU} {j:Nat} (h:(yE l).err=0) (hs:yB (yE l).toks=(some s,j)):s.items.length<=2000000:=by
 obtain ⟨hl,hL⟩:=fT h;obtain ⟨⟨r,hr⟩,-⟩:=eO (kI _ _ hL (pD h)) hs;have h1:=congrArg List.length hr;rw[List.length_map,List.length_append]at h1;have h2:=ZB s.items
 have h3:(s.items.flatMap lH).length<=(VB s.name s.items).length:=by
  unfold VB;simp only[List.length_cons,List.length_append];omega
 have:=kJ l;omega
theorem XO.on5 {w W:World} (h:XO w.heap.size w) (hb:Below w.heap.size w W):XO W.heap.size W:=fun w' h'=>h w' (hb.trans (h'.mono hb.size))
theorem MS {ts:List yJ} (hT:∀t ∈ ts,lX t.num) (hl:ts.length<=2000000) {i j:Nat} {x:zF} (h:uK ts i=(some x,j)):x.nums.length<=2000001:=by
 unfold uK at h
 split at h
 ·unfold vN at h
  obtain ⟨a1,j1,h1,h⟩:=zU h;obtain ⟨a2,j2,h2,h⟩:=zU h;obtain ⟨a3,j3,h3,h⟩:=zU h;obtain ⟨a4,j4,h4,h⟩:=zU h
  cases h
  have:=jJ hl j4;show (yM ts j4).length<=_;omega
 split at h
 ·unfold vF at h
  obtain ⟨a1,j1,h1,h⟩:=zU h;obtain ⟨a2,j2,h2,h⟩:=zU h;obtain ⟨a3,j3,h3,h⟩:=zU h;obtain ⟨a4,j4,h4,h⟩:=zU h;obtain ⟨a5,j5,h5,h⟩:=zU h
  cases h
  obtain ⟨w1,w2⟩:=ZE hT hl h5;show a5.length<=_;omega
 split at h
 ·unfold dU at h
  obtain ⟨a1,j1,h1,h⟩:=zU h;obtain ⟨a2,j2,h2,h⟩:=zU h;obtain ⟨a3,j3,h3,h⟩:=zU h;obtain ⟨a4,j4,h4,h⟩:=zU h
  cases h
  simp
 unfold rX at h;obtain ⟨a1,j1,h1,h⟩:=zU h;obtain ⟨a2,j2,h2,h⟩:=zU h;obtain ⟨a3,j3,h3,h⟩:=zU h;obtain ⟨a4,j4,h4,h⟩:=zU h
 cases h
 simp
theorem cA {ts:List yJ} (hT:∀t ∈ ts,lX t.num) (hl:ts.length<=2000000):∀(n i j:Nat) (xs:List zF),vT n ts i=(some xs,j)->∀x ∈ xs,x.nums.length<=2000001
 |0,i,j,xs,h=>by cases h
 |n+1,i,j,xs,h=>by
  by_cases he:(zM ts i).text=[125]
  ·have e:vT (n+1) ts i=(some [],i):=by
    show (if _ then _ else _)=_;rw[if_pos he]
   rw[e]at h
   cases h
   intro x hx;cases hx
  rw[oO he]at h;obtain ⟨a1,j1,h1,h⟩:=zU h;obtain ⟨a2,j2,h2,h⟩:=zU h
  cases h
  unfold xY at h1;obtain ⟨b1,k1,g1,h1⟩:=zU h1;obtain ⟨b2,k2,g2,h1⟩:=zU h1
  cases h1
  intro x hx
  rcases List.mem_cons.1 hx with rfl|hx
  ·exact MS hT hl g1
  exact cA hT hl n _ _ _ h2 x hx
theorem UX {ts:List yJ} (hT:∀t ∈ ts,lX t.num) (hl:ts.length<=2000000) {s:jU} {j:Nat} (h:yB ts=(some s,j)):∀x ∈ s.items,x.nums.length<=2000001:=by
 unfold yB at h;obtain ⟨a1,j1,h1,h⟩:=zU h;obtain ⟨a2,j2,h2,h⟩:=zU h;obtain ⟨a3,j3,h3,h⟩:=zU h;obtain ⟨a4,j4,h4,h⟩:=zU h;obtain ⟨a5,j5,h5,h⟩:=zU h
 split at h
 ·cases h
  exact cA hT hl _ _ _ _ h4
 cases h
def mS (l:List UInt8):List UInt8 × List zF × Int × Int:=
 if (yE l).err≠0 then ([],[],(yE l).err,(yE l).place)
 else match yB (yE l).toks with
  |(none,j)=>([],[],50,(zM (yE l).toks j).place)
  |(some s,_)=>(s.name,s.items,0,0)
end Go.Proofs.YtdcjdnkdeamigaaGreatDoor
namespace Go.Proofs.YtdcjdnkdeamigaaGreatDoor
open Go.RowKit
def rJ (l s:List UInt8) (p:Int):Prop:=∃q:Nat,p=(q:Int)/\q+s.length<=l.length/\(l.drop q).take s.length=s
theorem MR {t:yJ} (h:lK t=true):0<(spelt t).length:=by
 unfold spelt
 rcases sT h with ⟨a,-,c⟩|⟨a,-⟩|⟨a,-,c⟩
 ·rw [if_neg (by omega)]
  cases ht:t.text with
  |nil=>rw[ht]at c;exact absurd c (by decide)
  |cons x r=>simp
 ·rw [if_pos a];exact PV _
 rw[if_neg (by omega)]
 cases ht:t.text with
 |nil=>rw[ht]at c;exact absurd c (by decide)
 |cons x r=>simp
theorem iC (t:yJ) (r:List yJ) (k:Nat):zM (t::r) (k+1)=zM r k:=rfl
theorem pB {l:List UInt8} :∀(ts:List yJ) (p:Nat),cB l p ts->∀k,k<ts.length->rJ l (spelt (zM ts k)) (zM ts k).place/\(p:Int)<=(zM ts k).place
 |[],p,h=>by cases h
 |t::r,p,h=>by
  obtain ⟨q,h1,h2,h3,h4,-,h6⟩:=h;intro k hk
  match k with
  |0=>exact ⟨⟨q,h1,h3,h4⟩,by show (p:Int)<=t.place;rw[h1];omega⟩
  |k+1=>
   rw[iC]
   rcases h6 with ⟨-,rfl,-⟩|⟨-,-,h7⟩
   ·simp at hk
   have:=pB r _ h7 k (by simp at hk;omega);exact ⟨this.1,by have:=this.2;omega⟩
theorem fS {l:List UInt8} :∀(ts:List yJ) (p:Nat),cB l p ts->∀k m,k<m->m<ts.length->(zM ts k).place<(zM ts m).place
 |[],p,h=>by cases h
 |t::r,p,h=>by
  obtain ⟨q,h1,h2,h3,h4,-,h6⟩:=h;intro k m hkm hm
  match m with
  |0=>omega
  |m+1=>
   rcases h6 with ⟨-,rfl,-⟩|⟨-,hr,h7⟩
   ·simp at hm
   match k with
   |0=>
    have h8:=(pB r _ h7 m (by simp at hm;omega)).2;have h9:=MR hr;rw[iC];show t.place<_
    rw[h1];omega
   |k+1=>
    rw[iC,iC];exact fS r _ h7 k m (by omega) (by simp at hm;omega)
theorem bZ {l:List UInt8} {ts:List yJ} (hL:cB l 0 ts) {k:Nat} (hk:k<ts.length) (h:(zM ts k).sort≠2):rJ l (zM ts k).text (zM ts k).place:=by
 have h1:=(pB ts 0 hL k hk).1;unfold spelt at h1;rw[if_neg h]at h1;exact h1
def DJ (x:zF):Int:=max (max x.place x.frm.place) x.tO.place
def XK (l:List UInt8) (p:Int) (x:zF):Prop:=
 p<x.place/\((x.kind=1/\rJ l [97,99,116,111,114] x.place/\x.frm.place=0/\x.tO.place=0)\/
  (x.kind=2/\rJ l [101,100,103,101] x.place/\x.place<x.frm.place/\x.frm.place<x.tO.place/\rJ l x.frm.name x.frm.place/\rJ l x.tO.name x.tO.place)\/
  (x.kind=3/\rJ l [105,110] x.place/\x.frm.place=0/\x.place<x.tO.place/\rJ l x.tO.name x.tO.place)\/
  (x.kind=4/\rJ l [111,117,116] x.place/\x.place<x.frm.place/\rJ l x.frm.name x.frm.place/\x.tO.place=0))
def iB (l:List UInt8):Int->List zF->Prop
 |_,[]=>True
 |p,x::r=>XK l p x/\iB l (DJ x) r
theorem vQ {ts:List yJ} {x:List UInt8} {i j:Nat} {u:Unit} (h:yX ts x i=(some u,j)):(zM ts i).text=x/\j=i+1:=by
 unfold yX at h
 split at h
 ·rename_i h1
  injection h with h2 h3
  exact ⟨h1,h3.symm⟩
 cases h
theorem sR {ts:List yJ} (hE:yQ ts) {p:vZ} {i j:Nat} (hi:i<ts.length) (h:xP ts i=(some p,j)):(zM ts i).sort=1/\p.name=(zM ts i).text/\p.place=(zM ts i).place/\i+2<j/\j<ts.length:=by
 unfold xP at h;obtain ⟨n,j1,h1,h⟩:=zU h;obtain ⟨u,j2,h2,h⟩:=zU h;obtain ⟨q,j3,h3,h⟩:=zU h;have e1:=uD h1;have e2:=(vQ h2).2;have e3:=dS h3
 have hs:(zM ts i).sort=1/\(zM ts i).text=n:=by
  unfold wY at h1
  split at h1
  ·rename_i h4
   injection h1 with h5 h6
   exact ⟨h4,Option.some.inj h5⟩
  cases h1
 have hs3:(zM ts j2).sort=2:=by
  unfold nX at h3
  split at h3
  ·assumption
  cases h3
 injection h with h4 h5
 have h4:=Option.some.inj h4;subst h4;subst h5;have b1:=hE.sort_lt hi (by decide) hs.1;have b2:=hE.text_lt (i:=j1) (by omega) (by decide) (vQ h2).1;have b3:=hE.sort_lt (i:=j2) (by omega) (by decide) hs3;exact ⟨hs.1,hs.2.symm,rfl,by omega,by omega⟩
theorem UW {l:List UInt8} {ts:List yJ} (hL:cB l 0 ts) (hE:yQ ts) {x:zF} {i j:Nat} {p:Int} (hi:i<ts.length) (hF:jY ts) (hp:p<(zM ts i).place) (h:xY ts i=(some x,j)):XK l p x/\DJ x<(zM ts j).place/\j<ts.length:=by
 have hj:=cL h hE hi;have rise:=fS ts 0 hL
 have word:∀k y,k<ts.length->(zM ts k).text=y->y≠[]->rJ l y (zM ts k).place:=fun k y hk hy hn=>by
  rw[<- hy];refine bZ hL hk (fun h2=>?_)
  rcases hF k with ⟨h3,-⟩|⟨h3,-⟩
  ·rcases sT h3 with ⟨a,-⟩|⟨-,b⟩|⟨a,-⟩
   ·omega
   ·exact hn (by rw[<- hy];exact b)
   omega
  omega
 have name:∀k,k<ts.length->(zM ts k).sort=1->rJ l (zM ts k).text (zM ts k).place:=fun k hk hs=>bZ hL hk (by omega)
 have zero:∀k,k<ts.length->0<=(zM ts k).place:=fun k hk=>by have:=(pB ts 0 hL k hk).2;omega
 unfold xY at h;obtain ⟨y,j1,h1,h⟩:=zU h;obtain ⟨u,j2,h2,h⟩:=zU h;have e2:=(vQ h2).2
 injection h with h3 h4
 have h3:=Option.some.inj h3;subst h3;subst h4;have hij:=VV h1;refine ⟨?_,?_,hj⟩
 all_goals
  unfold uK at h1
  split at h1
 ·rename_i ht
  unfold vN at h1;obtain ⟨u1,k1,g1,h1⟩:=zU h1;obtain ⟨u2,k2,g2,h1⟩:=zU h1;obtain ⟨u3,k3,g3,h1⟩:=zU h1;obtain ⟨u4,k4,g4,h1⟩:=zU h1
  injection h1 with h5 h6
  have h5:=Option.some.inj h5;subst h5;exact ⟨hp,.inl ⟨rfl,word i _ hi ht (by decide),rfl,rfl⟩⟩
 ·split at h1
  ·rename_i ht
   unfold vF at h1;obtain ⟨u1,k1,g1,h1⟩:=zU h1;obtain ⟨f,k2,g2,h1⟩:=zU h1;obtain ⟨u3,k3,g3,h1⟩:=zU h1;obtain ⟨t,k4,g4,h1⟩:=zU h1;obtain ⟨ns,k5,g5,h1⟩:=zU h1;have q1:=(vQ g1).2;have q3:=(vQ g3);have b1:=hE.text_lt hi (by decide) ht;obtain ⟨m1,m2,m3,m4,m5⟩:=sR hE (i:=k1) (by omega) g2;have b3:=hE.text_lt (i:=k2) (by omega) (by decide) q3.1;obtain ⟨n1,n2,n3,n4,n5⟩:=sR hE (i:=k3) (by omega) g4
   injection h1 with h5 h6
   have h5:=Option.some.inj h5;subst h5;refine ⟨hp,.inr (.inl ⟨rfl,word i _ hi ht (by decide),?_,?_,?_,?_⟩)⟩
   ·show (zM ts i).place<f.place
    rw[m3];exact rise _ _ (by omega) (by omega)
   ·show f.place<t.place
    rw[m3,n3];exact rise _ _ (by omega) (by omega)
   ·show rJ l f.name f.place
    rw[m2,m3];exact name _ (by omega) m1
   show rJ l t.name t.place;rw[n2,n3];exact name _ (by omega) n1
  split at h1
  ·rename_i ht
   unfold dU at h1;obtain ⟨u1,k1,g1,h1⟩:=zU h1;obtain ⟨n,k2,g2,h1⟩:=zU h1;obtain ⟨u3,k3,g3,h1⟩:=zU h1;obtain ⟨t,k4,g4,h1⟩:=zU h1;have q1:=(vQ g1).2;have q2:=uD g2;have q3:=(vQ g3);have b1:=hE.text_lt hi (by decide) ht
   have b2:k2<ts.length:=by have:=rM hE (i:=k1) (by omega);rw[g2]at this;exact this
   have b3:=hE.text_lt (i:=k2) b2 (by decide) q3.1;obtain ⟨n1,n2,n3,n4,n5⟩:=sR hE (i:=k3) (by omega) g4
   injection h1 with h5 h6
   have h5:=Option.some.inj h5;subst h5;refine ⟨hp,.inr (.inr (.inl ⟨rfl,word i _ hi ht (by decide),rfl,?_,?_⟩))⟩
   ·show (zM ts i).place<t.place
    rw[n3];exact rise _ _ (by omega) (by omega)
   show rJ l t.name t.place;rw[n2,n3];exact name _ (by omega) n1
  unfold rX at h1;obtain ⟨u1,k1,g1,h1⟩:=zU h1;obtain ⟨f,k2,g2,h1⟩:=zU h1;obtain ⟨u3,k3,g3,h1⟩:=zU h1;obtain ⟨n,k4,g4,h1⟩:=zU h1;have q1:=(vQ g1);have b1:=hE.text_lt hi (by decide) q1.1;obtain ⟨m1,m2,m3,m4,m5⟩:=sR hE (i:=k1) (by omega) g2
  injection h1 with h5 h6
  have h5:=Option.some.inj h5;subst h5;refine ⟨hp,.inr (.inr (.inr ⟨rfl,word i _ hi q1.1 (by decide),?_,?_,rfl⟩))⟩
  ·show (zM ts i).place<f.place
   rw[m3];exact rise _ _ (by omega) (by omega)
  show rJ l f.name f.place;rw[m2,m3];exact name _ (by omega) m1
 ·unfold vN at h1
  obtain ⟨u1,k1,g1,h1⟩:=zU h1;obtain ⟨u2,k2,g2,h1⟩:=zU h1;obtain ⟨u3,k3,g3,h1⟩:=zU h1;obtain ⟨u4,k4,g4,h1⟩:=zU h1
  injection h1 with h5 h6
  have h5:=Option.some.inj h5;subst h5;have r1:=rise i j2 (by omega) hj;have r2:=zero i hi;show max (max (zM ts i).place 0) 0<_
  omega
 split at h1
 ·rename_i ht
  unfold vF at h1;obtain ⟨u1,k1,g1,h1⟩:=zU h1;obtain ⟨f,k2,g2,h1⟩:=zU h1;obtain ⟨u3,k3,g3,h1⟩:=zU h1;obtain ⟨t,k4,g4,h1⟩:=zU h1;obtain ⟨ns,k5,g5,h1⟩:=zU h1;have q1:=(vQ g1).2;have q3:=(vQ g3);have b1:=hE.text_lt hi (by decide) ht;obtain ⟨m1,m2,m3,m4,m5⟩:=sR hE (i:=k1) (by omega) g2;have b3:=hE.text_lt (i:=k2) (by omega) (by decide) q3.1;obtain ⟨n1,n2,n3,n4,n5⟩:=sR hE (i:=k3) (by omega) g4;have q5:=VW g5
  injection h1 with h5 h6
  have h5:=Option.some.inj h5;subst h5;have r1:=rise i j2 (by omega) hj;have r2:=rise k1 j2 (by omega) hj;have r3:=rise k3 j2 (by omega) hj;show max (max (zM ts i).place f.place) t.place<_
  rw[m3,n3];omega
 split at h1
 ·rename_i ht
  unfold dU at h1;obtain ⟨u1,k1,g1,h1⟩:=zU h1;obtain ⟨n,k2,g2,h1⟩:=zU h1;obtain ⟨u3,k3,g3,h1⟩:=zU h1;obtain ⟨t,k4,g4,h1⟩:=zU h1;have q1:=(vQ g1).2;have q2:=uD g2;have q3:=(vQ g3);have b1:=hE.text_lt hi (by decide) ht
  have b2:k2<ts.length:=by have:=rM hE (i:=k1) (by omega);rw[g2]at this;exact this
  have b3:=hE.text_lt (i:=k2) b2 (by decide) q3.1;obtain ⟨n1,n2,n3,n4,n5⟩:=sR hE (i:=k3) (by omega) g4
  injection h1 with h5 h6
  have h5:=Option.some.inj h5;subst h5;have r1:=rise i j2 (by omega) hj;have r3:=rise k3 j2 (by omega) hj;have r4:=zero i hi;show max (max (zM ts i).place 0) t.place<_
  rw[n3];omega
 unfold rX at h1;obtain ⟨u1,k1,g1,h1⟩:=zU h1;obtain ⟨f,k2,g2,h1⟩:=zU h1;obtain ⟨u3,k3,g3,h1⟩:=zU h1;obtain ⟨n,k4,g4,h1⟩:=zU h1;have q1:=(vQ g1);have q3:=(vQ g3);have q4:=uD g4;have b1:=hE.text_lt hi (by decide) q1.1;obtain ⟨m1,m2,m3,m4,m5⟩:=sR hE (i:=k1) (by omega) g2
 injection h1 with h5 h6
 have h5:=Option.some.inj h5;subst h5;have r1:=rise i j2 (by omega) hj;have r2:=rise k1 j2 (by omega) hj;have r4:=zero i hi;show max (max (zM ts i).place f.place) 0<_
 rw[m3];omega
theorem hZ {l:List UInt8} {ts:List yJ} (hL:cB l 0 ts) (hE:yQ ts) (hF:jY ts):∀(n i j:Nat) (xs:List zF) (p:Int),i<ts.length->p<(zM ts i).place->vT n ts i=(some xs,j)->iB l p xs
 |0,i,j,xs,p,_,_,h=>by unfold vT at h;cases h
 |n+1,i,j,xs,p,hi,hp,h=>by
  unfold vT at h
  split at h
  ·injection h with h6 h7
   have h6:=Option.some.inj h6;subst h6
   trivial
  obtain ⟨x,j1,h1,h⟩:=zU h;obtain ⟨ys,j2,h2,h⟩:=zU h;obtain ⟨a,b,c⟩:=UW hL hE hi hF hp h1
  injection h with h6 h7
  have h6:=Option.some.inj h6;subst h6;exact ⟨a,hZ hL hE hF n j1 j2 ys _ c b h2⟩
theorem aR {l:List UInt8} {ts:List yJ} (hL:cB l 0 ts) (hE:yQ ts) (hF:jY ts) {s:jU} {j:Nat} (h:yB ts=(some s,j)):iB l 0 s.items:=by
 unfold yB at h;obtain ⟨u,j1,h1,h⟩:=zU h;obtain ⟨n,j2,h2,h⟩:=zU h;obtain ⟨u2,j3,h3,h⟩:=zU h;obtain ⟨xs,j4,h4,h⟩:=zU h;obtain ⟨u3,j5,h5,h⟩:=zU h;have q1:=vQ h1;have q2:=uD h2;have q3:=vQ h3;have b1:=hE.text_lt hE.pos (by decide) q1.1
 have b2:j2<ts.length:=by have:=rM hE (i:=j1) (by omega);rw[h2]at this;exact this
 have b3:=hE.text_lt (i:=j2) b2 (by decide) q3.1;have r:=fS ts 0 hL 0 j3 (by omega) (by omega);have z:=(pB ts 0 hL 0 hE.pos).2
 split at h
 ·injection h with h6 h7
  have h6:=Option.some.inj h6;subst h6;exact hZ hL hE hF _ _ _ _ 0 (by omega) (by omega) h4
 cases h
end Go.Proofs.YtdcjdnkdeamigaaGreatDoor
