/- Texts of one chain. -/
import Derived.RowKit
namespace Go.Proofs.YtpohmekkdjdhmaaGreat
open Go.RowKit
def yK (x:Int):Bool:=decide (-9223372036854775808<=x/\x<=9223372036854775807)
def nC (x:Int):Int:=if yK x then x else 0
theorem xC {x:Int} :yK x=true↔ -9223372036854775808<=x/\x<=9223372036854775807:=by unfold yK;exact decide_eq_true_iff
theorem tY {x:Int} :yK x=false↔¬(-9223372036854775808<=x/\x<=9223372036854775807):=by unfold yK;exact decide_eq_false_iff_not
theorem xU {x:Int} (h: -9223372036854775808<=x/\x<=9223372036854775807):yK x=true:=xC.2 h
theorem tS {x:Int} (h:¬(-9223372036854775808<=x/\x<=9223372036854775807)):yK x=false:=tY.2 h
theorem wE {x:Int} (h: -9223372036854775808<=x/\x<=9223372036854775807):nC x=x:=by unfold nC;rw[xU h];rfl
theorem rA {x:Int} (h:¬(-9223372036854775808<=x/\x<=9223372036854775807)):nC x=0:=by unfold nC;rw[tS h];rfl
theorem zYF {a b:Int} (hb0:b≠0) (ha: -9223372036854775808<=a/\a<=9223372036854775807) (h: -9223372036854775808<=a*b/\a*b<=9223372036854775807):
 wrap64 (a*b)=a*b/\wrap64 ((a*b).tdiv b)=a:=by
 have e:(a*b).tdiv b=a:=Int.mul_tdiv_cancel a hb0;rw[e]
 constructor<;>(unfold wrap64;omega)
theorem zTH {a b:Int} (hb0:b≠0) (hb: -9223372036854775808<=b/\b<=9223372036854775807) (h:¬(-9223372036854775808<=a*b/\a*b<=9223372036854775807)) (hn:b≠ -1)
 (ha: -9223372036854775808<=a/\a<=9223372036854775807):
 wrap64 ((wrap64 (a*b)).tdiv b)≠a:=by
 intro e
 have hw:∃k:Int,wrap64 (a*b)=a*b+18446744073709551616*k/\k≠0:=by
  refine ⟨-((a*b+9223372036854775808) / 18446744073709551616),?_,?_⟩
  ·unfold wrap64;omega
  omega
 obtain ⟨k,hk,hk0⟩:=hw
 have hr: -9223372036854775808<=wrap64 (a*b)/\wrap64 (a*b)<=9223372036854775807:=by unfold wrap64;omega
 generalize wrap64 (a*b)=p at *;have hd:=Int.mul_tdiv_add_tmod p b
 have hm:(p.tmod b).natAbs<b.natAbs:=by
  rw[Int.natAbs_tmod];exact Nat.mod_lt _ (by omega)
 have hq:(p.tdiv b).natAbs<=p.natAbs:=by
  rw[Int.natAbs_tdiv];exact Nat.div_le_self _ _
 generalize hq':p.tdiv b=q at *;generalize p.tmod b=r at *
 have hqa:q=a\/(q=9223372036854775808/\a= -9223372036854775808):=by
  unfold wrap64 at e;omega
 rcases hqa with rfl|⟨hq8,_⟩
 ·have hbq:b*q=q*b:=Int.mul_comm _ _
  rw[hbq]at hd;omega
 ·
  have hp:p= -9223372036854775808:=by omega
  have hb2:2<=b.natAbs\/b=1\/b= -1:=by omega
  rcases hb2 with h2|h1|h1
  ·have:q.natAbs=p.natAbs / b.natAbs:=by rw[<- hq',Int.natAbs_tdiv];rfl
   have h3:p.natAbs / b.natAbs<=p.natAbs / 2:=Nat.div_le_div_left h2 (by decide);omega
  ·subst h1;rw[Int.tdiv_one]at hq';omega
  exact hn h1
def zS (zs:List Int) (k:Nat):Int:=zs.getD k 0
def cQ (zs:List Int):Prop:=∀k,-9223372036854775808<=zS zs k/\zS zs k<=9223372036854775807
theorem inR0:cQ []:=fun k=>by
 have e:zS [] k=0:=by simp[zS]
 rw[e];decide
theorem vD (zs:List Int) (k:Nat) (h:k<zs.length):zs.drop k=zS zs k::zs.drop (k+1):=by
 rw[List.drop_eq_getElem_cons h];unfold zS;rw[List.getD_eq_getElem?_getD,List.getElem?_eq_getElem h];rfl
theorem nB (zs:List Int) (k:Nat) (h:¬k<zs.length):zs.drop k=[]:=List.drop_eq_nil_of_le (by omega)
def dP (d:Nat):List Int->Nat
 |[]=>d
 |x::xs=>dP (Nat.gcd d x.natAbs) xs
def vU:List Int->Bool
 |[]=>false
 |x::xs=>x==0||vU xs
def uW (m:Nat):List Int->Option Nat
 |[]=>some m
 |x::xs=>if yK (Nat.lcm m x.natAbs:Nat) then uW (Nat.lcm m x.natAbs) xs else none
theorem EC {zs:List Int} (h:vU zs=false) (k:Nat) (hk:k<zs.length):zS zs k≠0:=by
 induction zs generalizing k with
 |nil=>simp at hk
 |cons x xs ih=>
  rw[vU,Bool.or_eq_false_iff]at h
  cases k with
  |zero=>simpa [zS] using h.1
  |succ k=>exact ih h.2 k (by simpa using hk)
theorem EA {x:Nat} {y:Int} (hx:1<=x) (hy:y= -9223372036854775808):yK (Nat.lcm x y.natAbs:Nat)=false:=by
 apply tS
 have e:y.natAbs=9223372036854775808:=by omega
 rw[e];have h1:9223372036854775808 ∣ Nat.lcm x 9223372036854775808:=Nat.dvd_lcm_right _ _;have h2:0<Nat.lcm x 9223372036854775808:=Nat.lcm_pos (by omega) (by decide);have h3:=Nat.le_of_dvd h2 h1;omega
theorem zOO {x s:Nat} (hx:1<=x) (hs:1<=s):1<=Nat.gcd s x/\x / Nat.gcd s x*s=Nat.lcm x s/\1<=x / Nat.gcd s x/\1<=Nat.lcm x s:=by
 have hg:0<Nat.gcd s x:=Nat.gcd_pos_of_pos_left _ (by omega);refine ⟨hg,?_,?_,Nat.lcm_pos (by omega) (by omega)⟩
 ·rw [Nat.lcm,Nat.gcd_comm x s,Nat.div_mul_right_comm (Nat.gcd_dvd_right s x)]
 exact Nat.div_pos (Nat.le_of_dvd (by omega) (Nat.gcd_dvd_right s x)) hg
def NC (zs:List Int):Int:=if vU zs then 0 else ((uW 1 zs).getD 0:Nat)
def MZ (zs:List Int):Bool:=vU zs||(uW 1 zs).isSome
def DZ (zs:List Int):Int:=nC (dP 0 zs:Nat)
def DY (zs:List Int):Bool:=yK (dP 0 zs:Nat)
def oD (p:Nat):List Nat->Nat
 |[]=>p
 |q::qs=>oD (p / Nat.gcd p q) qs
def uF (p:Nat):List Nat->List Nat
 |[]=>[]
 |q::qs=>q / Nat.gcd p q::uF (p / Nat.gcd p q) qs
def pC:List Nat->List Nat->List Nat
 |[],_=>[]
 |p::ps,qs=>oD p qs::pC ps (uF p qs)
def pN:List Nat->List Nat->List Nat
 |[],qs=>qs
 |p::ps,qs=>pN ps (uF p qs)
def zI:List Nat->Nat
 |[]=>1
 |p::ps=>p*zI ps
def TH (ps:List Nat):Prop:=∀p ∈ ps,1<=p
theorem zTG:TH []:=fun _ h=>by cases h
theorem sE {p:Nat} {ps:List Nat} :TH (p::ps)↔1<=p/\TH ps:=by
 unfold TH;simp
theorem quo_pos {p q:Nat} (hp:1<=p):1<=p / Nat.gcd p q:=Nat.div_pos (Nat.le_of_dvd hp (Nat.gcd_dvd_left p q)) (Nat.gcd_pos_of_pos_left q hp)
theorem quo_pos_right {p q:Nat} (hq:1<=q):1<=q / Nat.gcd p q:=Nat.div_pos (Nat.le_of_dvd hq (Nat.gcd_dvd_right p q)) (Nat.gcd_pos_of_pos_right p hq)
theorem quo_dvd (p q:Nat):p / Nat.gcd p q ∣ p:=Nat.div_dvd_of_dvd (Nat.gcd_dvd_left p q)
theorem quo_dvd_right (p q:Nat):q / Nat.gcd p q ∣ q:=Nat.div_dvd_of_dvd (Nat.gcd_dvd_right p q)
theorem quo_cop {p q:Nat} (hp:1<=p):Nat.gcd (p / Nat.gcd p q) (q / Nat.gcd p q)=1:=by
 rw[Nat.gcd_div (Nat.gcd_dvd_left p q) (Nat.gcd_dvd_right p q),Nat.div_self (Nat.gcd_pos_of_pos_left q hp)]
theorem quo_mul (p q:Nat):p / Nat.gcd p q*Nat.gcd p q=p:=Nat.div_mul_cancel (Nat.gcd_dvd_left p q)
theorem quo_mul_right (p q:Nat):q / Nat.gcd p q*Nat.gcd p q=q:=Nat.div_mul_cancel (Nat.gcd_dvd_right p q)
theorem IK {a b c d:Nat} (h:Nat.gcd c d=1) (h1:a ∣ c) (h2:b ∣ d):Nat.gcd a b=1:=by
 have h3:Nat.gcd a b ∣ Nat.gcd c d:=Nat.dvd_gcd (Nat.dvd_trans (Nat.gcd_dvd_left a b) h1) (Nat.dvd_trans (Nat.gcd_dvd_right a b) h2);rw[h]at h3;exact Nat.dvd_one.1 h3
theorem zYE (p:Nat) (qs:List Nat):(uF p qs).length=qs.length:=by
 induction qs generalizing p with
 |nil=>rfl
 |cons q qs ih=>simp[uF,ih]
theorem TB (p:Nat) (qs:List Nat):oD p qs ∣ p:=by
 induction qs generalizing p with
 |nil=>exact Nat.dvd_refl p
 |cons q qs ih=>exact Nat.dvd_trans (ih _) (quo_dvd p q)
theorem zYD {p:Nat} {qs:List Nat} (h:1<=p):1<=oD p qs:=by
 rcases Nat.eq_zero_or_pos (oD p qs) with e|e
 ·have:=TB p qs
  rw[e]at this;have:=Nat.eq_zero_of_zero_dvd this;omega
 exact e
theorem SZ {p:Nat} {qs:List Nat} (h:TH qs):TH (uF p qs):=by
 induction qs generalizing p with
 |nil=>exact h
 |cons q qs ih=>
  obtain ⟨h1,h2⟩:=sE.1 h;exact sE.2 ⟨quo_pos_right h1,ih h2⟩
def VV:List Nat->List Nat->Prop
 |[],[]=>True
 |a::as,b::bs=>a ∣ b/\VV as bs
 |_,_=>False
theorem DX (as:List Nat):VV as as:=by
 induction as with
 |nil=>trivial
 |cons a as ih=>exact ⟨Nat.dvd_refl a,ih⟩
theorem MW {as bs cs:List Nat} (h1:VV as bs) (h2:VV bs cs):VV as cs:=by
 induction as generalizing bs cs with
 |nil=>
  cases bs with
  |nil=>exact h2
  |cons b bs=>exact h1.elim
 |cons a as ih=>
  cases bs with
  |nil=>exact h1.elim
  |cons b bs=>
   cases cs with
   |nil=>exact h2.elim
   |cons c cs=>exact ⟨Nat.dvd_trans h1.1 h2.1,ih h1.2 h2.2⟩
theorem YO (p:Nat) (qs:List Nat):VV (uF p qs) qs:=by
 induction qs generalizing p with
 |nil=>trivial
 |cons q qs ih=>exact ⟨quo_dvd_right p q,ih _⟩
theorem zTF {p:Nat} {qs:List Nat} (hp:1<=p):∀q ∈ uF p qs,Nat.gcd (oD p qs) q=1:=by
 induction qs generalizing p with
 |nil=>intro q h;cases h
 |cons q qs ih=>
  intro r hr
  rcases List.mem_cons.1 hr with rfl|hr
  ·exact IK (quo_cop (q:=q) hp) (TB _ _) (Nat.dvd_refl _)
  exact ih (quo_pos hp) r hr
theorem zYC (p:Nat) (qs:List Nat):p*zI (uF p qs)=oD p qs*zI qs:=by
 induction qs generalizing p with
 |nil=>rfl
 |cons q qs ih=>
  show p*(q / Nat.gcd p q*zI (uF (p / Nat.gcd p q) qs))=oD (p / Nat.gcd p q) qs*(q*zI qs);have h:=ih (p / Nat.gcd p q);have e1:=quo_mul p q;have e2:=quo_mul_right p q;generalize Nat.gcd p q=g at *;generalize p / g=a at *;generalize q / g=b at *;rw[<- e1,<-e2]
  calc a * g * (b * zI (uF a qs)) = (a * zI (uF a qs)) * (b * g) := by
         simp only[Nat.mul_comm,Nat.mul_left_comm,Nat.mul_assoc]
   _=(oD a qs*zI qs)*(b*g):=by rw[h]
   _=oD a qs*(b*g*zI qs):=by
    rw[Nat.mul_assoc,Nat.mul_comm (zI qs)]
theorem SY (ps qs:List Nat):(pC ps qs).length=ps.length:=by
 induction ps generalizing qs with
 |nil=>rfl
 |cons p ps ih=>simp[pC,ih]
theorem SX (ps qs:List Nat):(pN ps qs).length=qs.length:=by
 induction ps generalizing qs with
 |nil=>rfl
 |cons p ps ih=>rw[pN,ih,zYE]
theorem zYB {ps qs:List Nat} (h:TH ps):TH (pC ps qs):=by
 induction ps generalizing qs with
 |nil=>exact h
 |cons p ps ih=>
  obtain ⟨h1,h2⟩:=sE.1 h;exact sE.2 ⟨zYD h1,ih h2⟩
theorem zYA {ps qs:List Nat} (h:TH qs):TH (pN ps qs):=by
 induction ps generalizing qs with
 |nil=>exact h
 |cons p ps ih=>exact ih (SZ h)
theorem DW (ps qs:List Nat):VV (pN ps qs) qs:=by
 induction ps generalizing qs with
 |nil=>exact DX qs
 |cons p ps ih=>exact MW (ih _) (YO p qs)
theorem SW {as bs:List Nat} (h:VV as bs) {a:Nat} (ha:a ∈ as):∃b ∈ bs,a ∣ b:=by
 induction as generalizing bs with
 |nil=>cases ha
 |cons x as ih=>
  cases bs with
  |nil=>exact h.elim
  |cons b bs=>
   rcases List.mem_cons.1 ha with rfl|ha
   ·exact ⟨b,by simp,h.1⟩
   obtain ⟨c,hc,hd⟩:=ih h.2 ha;exact ⟨c,by simp[hc],hd⟩
theorem zTE {ps qs:List Nat} (h:TH ps):∀p ∈ pC ps qs,∀q ∈ pN ps qs,Nat.gcd p q=1:=by
 induction ps generalizing qs with
 |nil=>intro p hp;cases hp
 |cons p ps ih=>
  obtain ⟨h1,h2⟩:=sE.1 h;intro r hr q hq
  rcases List.mem_cons.1 hr with rfl|hr
  ·obtain ⟨b,hb,hd⟩:=SW (DW ps (uF p qs)) hq
   exact IK (zTF h1 b hb) (Nat.dvd_refl _) hd
  exact ih h2 r hr q hq
theorem zXZ (ps qs:List Nat):zI ps*zI (pN ps qs)=zI qs*zI (pC ps qs):=by
 induction ps generalizing qs with
 |nil=>simp[pC,pN,zI]
 |cons p ps ih=>
  show p*zI ps*zI (pN ps (uF p qs))=zI qs*(oD p qs*zI (pC ps (uF p qs)));have h:=ih (uF p qs);have e:=zYC p qs;generalize zI (pN ps (uF p qs))=x at *;generalize zI (pC ps (uF p qs))=y at *;generalize zI (uF p qs)=z at *;generalize oD p qs=r at *;generalize zI ps=s at *;generalize zI qs=t at *
  calc p*s*x=p*(s*x):=Nat.mul_assoc _ _ _
   _=p*(z*y):=by rw[h]
   _=(p*z)*y:=(Nat.mul_assoc _ _ _).symm
   _=r*t*y:=by rw[e]
   _=t*(r*y):=by rw[Nat.mul_comm r t,Nat.mul_assoc]
def kE:List Nat->Bool
 |[]=>true
 |p::ps=>decide (p=1)&&kE ps
theorem DV {ps:List Nat} (h:kE ps=true):zI ps=1:=by
 induction ps with
 |nil=>rfl
 |cons p ps ih=>
  rw[kE,Bool.and_eq_true,decide_eq_true_iff]at h;rw[zI,ih h.2,h.1]
theorem jA {ps:List Nat} (h:TH ps):1<=zI ps:=by
 induction ps with
 |nil=>exact Nat.le_refl 1
 |cons p ps ih=>
  obtain ⟨h1,h2⟩:=sE.1 h;exact Nat.mul_pos h1 (ih h2)
theorem DU {ps:List Nat} (h:zI ps=1):kE ps=true:=by
 induction ps with
 |nil=>rfl
 |cons p ps ih=>
  rw[zI]at h;have h1:=Nat.eq_one_of_mul_eq_one_right h;have h2:=Nat.eq_one_of_mul_eq_one_left h;rw[kE,Bool.and_eq_true,decide_eq_true_iff];exact ⟨h1,ih h2⟩
theorem IJ {a b c:Nat} (h1:Nat.gcd a b=1) (h2:Nat.gcd a c=1):Nat.gcd a (b*c)=1:=Nat.Coprime.mul_right h1 h2
theorem zXY {a:Nat} {qs:List Nat} (h:∀q ∈ qs,Nat.gcd a q=1):Nat.gcd a (zI qs)=1:=by
 induction qs with
 |nil=>exact Nat.gcd_one_right a
 |cons q qs ih=>exact IJ (h q (by simp)) (ih fun r hr=>h r (by simp[hr]))
theorem DT {ps qs:List Nat} (h:∀p ∈ ps,∀q ∈ qs,Nat.gcd p q=1):Nat.gcd (zI ps) (zI qs)=1:=by
 induction ps with
 |nil=>exact Nat.gcd_one_left _
 |cons p ps ih=>
  rw[zI,Nat.gcd_comm];refine IJ ?_ ?_
  ·rw [Nat.gcd_comm];exact zXY (h p (by simp))
  rw[Nat.gcd_comm];exact ih fun r hr=>h r (by simp[hr])
theorem zTD {ps qs:List Nat} (h:TH ps):Nat.gcd (zI (pC ps qs)) (zI (pN ps qs))=1:=DT (zTE h)
theorem SV {ps:List Nat} :kE ps=true↔zI ps=1:=⟨DV,DU⟩
theorem DS {ps qs:List Nat} (hp:TH ps) (hq:TH qs):(kE (pC ps qs)&&kE (pN ps qs))=decide (zI ps=zI qs):=by
 have e:=zXZ ps qs;have g:=zTD (qs:=qs) hp;have p1:=jA hp;have p2:=jA hq;have p3:=jA (zYB (qs:=qs) hp);have p4:=jA (zYA (ps:=ps) hq);rw[Bool.eq_iff_iff,Bool.and_eq_true,SV,SV,decide_eq_true_iff]
 constructor
 ·rintro ⟨h1,h2⟩
  rw[h1,h2]at e;omega
 intro h;rw[h]at e;have e2:=Nat.eq_of_mul_eq_mul_left p2 e;rw[e2,Nat.gcd_self]at g;exact ⟨g,by rw[e2];exact g⟩
def gg (n d:Int):Nat:=Nat.gcd n.natAbs d.natAbs
def yM (n d:Int):Bool:=decide (0<d)&&decide (gg n d=1)
theorem yB {n d:Int} :yM n d=true↔0<d/\gg n d=1:=by simp[yM]
def uE (n d:Int):Int:=if d<0 then -(n.tdiv (gg n d:Int)) else n.tdiv (gg n d:Int)
def tO (n d:Int):Int:=if d<0 then -(d.tdiv (gg n d:Int)) else d.tdiv (gg n d:Int)
def vT (n d:Int):Bool:=yK (uE n d)&&yK (tO n d)
def VU (n d:Int):Int:=if d=0 then 0 else if vT n d then uE n d else 0
def VT (n d:Int):Int:=if d=0 then 0 else if vT n d then tO n d else 0
def VR (n d:Int):Int:=if d=0 then 20 else if vT n d then 0 else 4
theorem zXX (n:Int):VU n 0=0/\VT n 0=0/\VR n 0=20:=⟨by simp[VU],by simp[VT],by simp[VR]⟩
theorem zTC {n d:Int} (hd:d≠0) (h:vT n d=true):VU n d=uE n d/\VT n d=tO n d/\VR n d=0:=by
 simp[VU,VT,VR,hd,h]
theorem YN {n:Int} {g:Nat} (hg:1<=g) (h:g ∣ n.natAbs):∃p:Int,n=p*(g:Int)/\n.tdiv (g:Int)=p/\n / (g:Int)=p/\p.natAbs<=n.natAbs/\p.natAbs=n.natAbs / g/\(n<0↔p<0)/\(n=0↔p=0):=by
 have h':(g:Int) ∣ n:=Int.ofNat_dvd_left.2 h;obtain ⟨p,hp⟩:=h'
 have hg0:(g:Int)≠0:=by omega
 have hp':n=p*(g:Int):=by rw[hp,Int.mul_comm]
 have e1:n.tdiv (g:Int)=p:=by rw[hp'];exact Int.mul_tdiv_cancel p hg0
 have e2:n / (g:Int)=p:=by rw[hp'];exact Int.mul_ediv_cancel p hg0
 have e3:n.natAbs=p.natAbs*g:=by rw[hp',Int.natAbs_mul];simp
 refine ⟨p,hp',e1,e2,?_,?_,?_,?_⟩
 ·rw [e3];exact Nat.le_mul_of_pos_right _ (by omega)
 ·rw [e3,Nat.mul_div_cancel _ (by omega)]
 ·constructor
  ·intro h;rcases Int.lt_or_le p 0 with h1|h1
   ·exact h1
   have:=Int.mul_nonneg h1 (Int.natCast_nonneg g);omega
  intro h;rw[hp'];exact Int.mul_neg_of_neg_of_pos h (by omega)
 constructor
 ·intro h
  rw[hp']at h;exact (Int.mul_eq_zero.1 h).resolve_right hg0
 intro h;rw[hp',h,Int.zero_mul]
theorem vM {n d:Int} (h:d≠0):1<=gg n d:=Nat.gcd_pos_of_pos_right _ (by omega)
theorem sO {n d:Int} (hd:d≠0):∃p q:Int,n=p*(gg n d:Int)/\d=q*(gg n d:Int)/\n.tdiv (gg n d:Int)=p/\d.tdiv (gg n d:Int)=q/\gg p q=1/\q≠0/\p.natAbs<=n.natAbs/\q.natAbs<=d.natAbs/\(d<0↔q<0)/\p.natAbs=n.natAbs / gg n d/\q.natAbs=d.natAbs / gg n d/\(n<0↔p<0)/\(n=0↔p=0):=by
 have hg:=vM (n:=n) hd;obtain ⟨p,hp,tp,-,lp,ap,sp,zp⟩:=YN (n:=n) hg (Nat.gcd_dvd_left _ _);obtain ⟨q,hq,tq,-,lq,aq,sq,zq⟩:=YN (n:=d) hg (Nat.gcd_dvd_right _ _);refine ⟨p,q,hp,hq,tp,tq,?_,fun h=>hd (zq.2 h),lp,lq,sq,ap,aq,sp,zp⟩
 unfold gg at *;rw[ap,aq];rw[Nat.gcd_div (Nat.gcd_dvd_left _ _) (Nat.gcd_dvd_right _ _)];exact Nat.div_self (by omega)
theorem zON (p q:Int):gg (-p) (-q)=gg p q:=by simp[gg]
theorem lW {n d:Int} (hd:d≠0):yM (uE n d) (tO n d)=true/\uE n d*d=n*tO n d:=by
 obtain ⟨p,q,hp,hq,tp,tq,hg,hq0,-,-,hs,-⟩:=sO (n:=n) hd;rw[yB];unfold uE tO;rw[tp,tq]
 by_cases h:d<0
 ·rw [if_pos h,if_pos h]
  refine ⟨⟨by have:=hs.1 h;omega,by rw[zON];exact hg⟩,?_⟩
  rw[Int.neg_mul,Int.mul_neg];generalize (gg n d:Int)=g at *;rw[hp,hq,Int.mul_comm q g,<-Int.mul_assoc]
 rw[if_neg h,if_neg h];refine ⟨⟨by have:¬q<0:=fun k=>h (hs.2 k);omega,hg⟩,?_⟩
 generalize (gg n d:Int)=g at *;rw[hp,hq,Int.mul_comm q g,<-Int.mul_assoc]
theorem oC {a b c d:Int} (h1:yM a b=true) (h2:yM c d=true) (h:a*d=c*b):a=c/\b=d:=by
 obtain ⟨hb,g1⟩:=yB.1 h1;obtain ⟨hd,g2⟩:=yB.1 h2
 have e:a.natAbs*d.natAbs=c.natAbs*b.natAbs:=by rw[<- Int.natAbs_mul,<-Int.natAbs_mul,h]
 unfold gg at g1 g2
 have k1:b.natAbs ∣ d.natAbs:=by
  have:b.natAbs ∣ a.natAbs*d.natAbs:=⟨c.natAbs,by rw[e,Nat.mul_comm]⟩;exact Nat.Coprime.dvd_of_dvd_mul_left (Nat.Coprime.symm g1) this
 have k2:d.natAbs ∣ b.natAbs:=by
  have:d.natAbs ∣ c.natAbs*b.natAbs:=⟨a.natAbs,by rw[<- e,Nat.mul_comm]⟩;exact Nat.Coprime.dvd_of_dvd_mul_left (Nat.Coprime.symm g2) this
 have k3:=Nat.dvd_antisymm k1 k2
 have k4:b=d:=by omega
 subst k4;exact ⟨Int.eq_of_mul_eq_mul_right (by omega) h,rfl⟩
def pB (a b c d:Int):Int:=a.tdiv (gg a d:Int)*c.tdiv (gg c b:Int)
def pA (a b c d:Int):Int:=b.tdiv (gg c b:Int)*d.tdiv (gg a d:Int)
def sX (a b c d:Int):Bool:=yK (pB a b c d)&&yK (pA a b c d)
def vG (a b:Int):List (Int × Int)->Option (Int × Int)
 |[]=>some (a,b)
 |f::fs=>if sX a b f.1 f.2 then vG (pB a b f.1 f.2) (pA a b f.1 f.2) fs else none
def vL:List (Int × Int)->Bool
 |[]=>true
 |f::fs=>yM f.1 f.2&&vL fs
def VQ (fs:List (Int × Int)):Int:=if vL fs then ((vG 1 1 fs).getD (0,0)).1 else 0
def VP (fs:List (Int × Int)):Int:=if vL fs then ((vG 1 1 fs).getD (0,0)).2 else 0
def ZG (fs:List (Int × Int)):Int:=if vL fs then (if (vG 1 1 fs).isSome then 0 else 4) else 1
theorem DR {a b c d:Int} (h1:yM a b=true) (h2:yM c d=true):
 ∃p q r s g h:Int,0<g/\0<h/\a=p*g/\d=s*g/\c=r*h/\b=q*h/\a.tdiv (gg a d:Int)=p/\d.tdiv (gg a d:Int)=s/\c.tdiv (gg c b:Int)=r/\b.tdiv (gg c b:Int)=q/\
  0<q/\0<s/\(gg a d:Int)=g/\(gg c b:Int)=h/\gg (p*r) (q*s)=1/\p.natAbs<=a.natAbs/\s<=d/\r.natAbs<=c.natAbs/\q<=b:=by
 obtain ⟨hb,g1⟩:=yB.1 h1;obtain ⟨hd,g2⟩:=yB.1 h2;have ha:=vM (n:=a) (d:=d) (by omega);have hc:=vM (n:=c) (d:=b) (by omega);obtain ⟨p,s,hp,hs,tp,ts,cps,hs0,lp,ls,ss,-⟩:=sO (n:=a) (d:=d) (by omega);obtain ⟨r,q,hr,hq,tr,tq,crq,hq0,lr,lq,sq,-⟩:=sO (n:=c) (d:=b) (by omega)
 have hs' : 0 < s := by have : ¬ s < 0 := fun k => by have := ss.2 k; omega
                        omega
 have hq' : 0 < q := by have : ¬ q < 0 := fun k => by have := sq.2 k; omega
                        omega
 refine ⟨p,q,r,s,gg a d,gg c b,by omega,by omega,hp,hs,hr,hq,tp,ts,tr,tq,hq',hs',rfl,rfl,?_,lp,by omega,lr,by omega⟩
 unfold gg at *
 have e1:a.natAbs=p.natAbs*Nat.gcd a.natAbs d.natAbs:=by
  have:=congrArg Int.natAbs hp;rw[Int.natAbs_mul]at this;simpa using this
 have e2:d.natAbs=s.natAbs*Nat.gcd a.natAbs d.natAbs:=by
  have:=congrArg Int.natAbs hs;rw[Int.natAbs_mul]at this;simpa using this
 have e3:c.natAbs=r.natAbs*Nat.gcd c.natAbs b.natAbs:=by
  have:=congrArg Int.natAbs hr;rw[Int.natAbs_mul]at this;simpa using this
 have e4:b.natAbs=q.natAbs*Nat.gcd c.natAbs b.natAbs:=by
  have:=congrArg Int.natAbs hq;rw[Int.natAbs_mul]at this;simpa using this
 have c1:Nat.Coprime p.natAbs q.natAbs:=by
  have k1:Nat.Coprime p.natAbs b.natAbs:=Nat.Coprime.coprime_dvd_left ⟨_,e1⟩ g1;exact Nat.Coprime.coprime_dvd_right ⟨_,e4⟩ k1
 have c2:Nat.Coprime r.natAbs s.natAbs:=by
  have k1:Nat.Coprime r.natAbs d.natAbs:=Nat.Coprime.coprime_dvd_left ⟨_,e3⟩ g2;exact Nat.Coprime.coprime_dvd_right ⟨_,e2⟩ k1
 rw[Int.natAbs_mul,Int.natAbs_mul];exact Nat.Coprime.mul_left (Nat.Coprime.mul_right c1 cps) (Nat.Coprime.mul_right crq c2)
theorem gG {a b c d:Int} (h1:yM a b=true) (h2:yM c d=true):yM (pB a b c d) (pA a b c d)=true/\pB a b c d*(b*d)=(a*c)*pA a b c d:=by
 obtain ⟨p,q,r,s,g,h,hg,hh,ea,ed,ec,eb,tp,ts,tr,tq,hq,hs,-,-,hc,-⟩:=DR h1 h2;unfold pB pA;rw[tp,ts,tr,tq,yB];refine ⟨⟨Int.mul_pos hq hs,hc⟩,?_⟩
 rw[ea,ed,ec,eb];simp only[Int.mul_comm,Int.mul_left_comm]
theorem zTB {c d:Int} (h:yM c d=true):pB 1 1 c d=c/\pA 1 1 c d=d:=by
 have h1:yM 1 1=true:=by decide
 obtain ⟨k1,k2⟩:=gG h1 h;have:=oC k1 h (by rw[Int.one_mul,Int.one_mul]at k2;exact k2);exact this
end Go.Proofs.YtpohmekkdjdhmaaGreat
