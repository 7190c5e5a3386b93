/- Texts of one chain. -/
import Derived.Test.YtpohmekkdjdhmaaGreatPartQ
import Derived.Test.YtpohmekkdjdhmaaGreatPartTopPeriods11
import Derived.Test.YtpohmekkdjdhmaaGreatPartTopPeriods3
import Derived.Deep.LoopGhost
import Derived.Deep.DeepCutAuto
set_option maxRecDepth 100000
set_option maxHeartbeats 2000000
namespace Go.Proofs.YtpohmekkdjdhmaaGreat
open Go.ChangeShapes Go.WideShapes Go.ChangeAt Go.RowKit
def yO (w:World) (g:Nat) (ns:List Nat):Prop:=w.rowIs g 3 ns.length (fun i=>.int .i64 ((ns.getD i 0:Nat):Int))
theorem yO.later {w w':World} {g:Nat} {ns:List Nat} (h:yO w g ns) (hb:Below w.heap.size w w'):yO w' g ns:=h.of_block (hb.block g h.lt)
theorem VI {w:World} {g k p:Nat} {os R:List Nat} (hk:os.length=k) (h:yO w g (os++p::R)):w.cell? ⟨g,k,none⟩=some (.int .i64 (p:Int)):=by
 have:=h.cell (i:=k) (by simp;omega);rw[this,<-hk];simp
theorem zXH {w:World} {g:Nat} {ns:List Nat} (h:yO w g ns) (k:Nat):w.frozen? ⟨g,k,none⟩=false:=h.frozen k
theorem GY {w:World} {g k p x:Nat} {os R:List Nat} (hk:os.length=k) (h:yO w g (os++p::R)):yO (w.setCell ⟨g,k,none⟩ (.int .i64 (x:Int))) g (os++x::R):=by
 have h2:=World.rowIs.set h k (.int .i64 (x:Int));unfold yO
 have e:(os++p::R).length=(os++x::R).length:=by simp
 rw[e]at h2
 refine h2.congr fun i hi=>?_
 show (if i=k then Value.int .i64 (x:Int) else _)=_
 by_cases hik:i=k
 ·subst hik
  rw[if_pos rfl,<-hk];simp
 rw[if_neg hik]
 have:(os++p::R).getD i 0=(os++x::R).getD i 0:=by
  rw[List.getD_eq_getElem?_getD,List.getD_eq_getElem?_getD]
  by_cases hlt:i<os.length
  ·rw [List.getElem?_append_left hlt,List.getElem?_append_left hlt]
  rw[List.getElem?_append_right (by omega),List.getElem?_append_right (by omega)];obtain ⟨j,hj⟩:∃j,i-os.length=j+1:=⟨i-os.length-1,by omega⟩;rw[hj];rfl
 show Value.int .i64 (((os++p::R).getD i 0:Nat):Int)=_;rw[this]
theorem kC {w:World} {g:Nat} {ns:List Nat} (h:yO w g ns) {a:Addr} (ha:g≠a.block) (v:Value):yO (w.setCell a v) g ns:=World.rowIs.setOther h ha v
theorem zXG {ns:List Nat} {i:Nat} :zS (up ns) i=((ns.getD i 0:Nat):Int):=by
 unfold zS up;rw[List.getD_eq_getElem?_getD,List.getD_eq_getElem?_getD,List.getElem?_map]
 cases ns[i]? <;>rfl
theorem YH {w:World} {g len:Nat} {ns:List Nat} (hl:ns.length=len) (h:w.rowIs g 3 len (fun i=>.int .i64 (zS (up ns) i))):yO w g ns:=by
 unfold yO;rw[hl]
 exact h.congr fun i _=>by show Value.int .i64 (zS (up ns) i)=_;rw[zXG]
theorem yO.rowIs {w:World} {g len:Nat} {ns:List Nat} (hl:ns.length=len) (h:yO w g ns):w.rowIs g 3 len (fun i=>.int .i64 (zS (up ns) i)):=by
 unfold yO at h;rw[hl]at h
 exact h.congr fun i _=>by show _=Value.int .i64 (zS (up ns) i);rw[zXG]
theorem yO.at {w:World} {g:Nat} {ns:List Nat} (h:yO w g ns):At w (some ⟨g,0,none⟩) (up ns):=VM (len:=ns.length) (sT ns) (h.rowIs rfl)
def Sm (ns:List Nat):Prop:=∀n ∈ ns,1<=n/\n<=9223372036854775807
theorem VH {n:Nat} {ns:List Nat} :Sm (n::ns)↔(1<=n/\n<=9223372036854775807)/\Sm ns:=by unfold Sm;simp
theorem Sm.pos {ns:List Nat} (h:Sm ns):TH ns:=fun n hn=>(h n hn).1
theorem zSN {xs ys:List Nat} (hp:TH xs) (hd:VV xs ys) (h:Sm ys):Sm xs:=fun a ha=>by
 obtain ⟨b,hb,hdv⟩:=SW hd ha;have:=h b hb;have:=Nat.le_of_dvd (by omega) hdv;exact ⟨hp a ha,by omega⟩
theorem zSM {p:Nat} {qs:List Nat} (h:Sm qs):Sm (uF p qs):=zSN (SZ h.pos) (YO p qs) h
theorem GX {ns:List Nat} (h:Sm ns):uO (up ns)=true:=by
 induction ns with
 |nil=>rfl
 |cons n ns ih=>
  have h2:=VH.1 h;show (decide (1<=(n:Int))&&uO (up ns))=true
  rw[ih h2.2,decide_eq_true (by omega)];rfl
theorem GV {zs:List Int} (hr:cQ zs) (hp:uO zs=true):Sm (wV zs):=by
 induction zs with
 |nil=>intro n hn;cases hn
 |cons z zs ih=>
  rw[uO,Bool.and_eq_true,decide_eq_true_iff]at hp;have h0:=hr 0;have e0:zS (z::zs) 0=z:=rfl;rw[e0]at h0;exact VH.2 ⟨by omega,ih (fun k=>hr (k+1)) hp.2⟩
theorem ME {ps:List Nat} {k:Nat} (h:k<ps.length):∃p,ps.drop k=p::ps.drop (k+1):=⟨_,List.drop_eq_getElem_cons h⟩
theorem MD {p g:Nat} (h:p<=9223372036854775807):p / g<=9223372036854775807:=Nat.le_trans (Nat.div_le_self p g) h
def RedOK (w:World) (ps qs:List Nat) (l1 l2:Nat) (e:Ending) (w':World):Prop:=
 ∃g1 g2,e=.returned (.tuple #[.slice (some ⟨g1,0,none⟩) l1 l1,.slice (some ⟨g2,0,none⟩) l2 l2,.int .i64 0])/\w.heap.size<=g1/\g1<g2/\yO w' g1 (pC ps qs)/\yO w' g2 (pN ps qs)/\Below w.heap.size w w'
theorem DB (a1 a2:Option Addr) (ps qs:List Nat) (l1 c1 l2 c2:Nat) (w:World) (hl1:ps.length=l1) (hl2:qs.length=l2) (hm1:l1<=1024) (hm2:l2<=1024) (h1:At w a1 (up ps)) (h2:At w a2 (up qs)) (hp:Sm ps) (hq:Sm qs):
 Calls Tryz.prog 51 #[.slice a1 l1 c1,.slice a2 l2 c2] w (RedOK w ps qs l1 l2):=by
 have hv1:=lS a1 (up ps) l1 c1 w (by rw[sT];exact hl1) (by omega) h1;have hv2:=lS a2 (up qs) l2 c2 w (by rw[sT];exact hl2) (by omega) h2;rw[GX hp]at hv1;rw[GX hq]at hv2;have ho1:=GZ a1 (up ps) l1 c1 w (by rw[sT];exact hl1) (by omega) h1
 have ho2:=fun W h=>GZ a2 (up qs) l2 c2 W (by rw[sT];exact hl2) (by omega) h
 have HP:Hid (Sm ps):=hp;have HQ:Hid (Sm qs):=hq;have H2:Hid (At w a2 (up qs)):=h2;have hd1:decide ((1024:Int)<(l1:Int))=false:=decide_eq_false (by omega);have hd2:decide ((1024:Int)<(l2:Int))=false:=decide_eq_false (by omega);have HM:Hid (l1<=1024/\l2<=1024):=⟨hm1,hm2⟩;clear hp hq h1 h2
 go_enter Tryz.func51,Tryz.ntmps51
 go_wp2_with (first
  |(go_at_call 79;(with_reducible refine hv1.mono ?_);rintro e w' ⟨rfl,rfl⟩)
  |(go_at_call 79;(with_reducible refine hv2.mono ?_);rintro e w' ⟨rfl,rfl⟩)
  |(go_at_call 80;(with_reducible refine ho1.mono ?_);rintro e w1 ⟨g1,rfl,hg1,hr1,hb1⟩)
  |(go_at_call 80;(with_reducible refine (ho2 _ (H2.out.below hb1)).mono ?_);rintro e w2 ⟨g2,rfl,hg2,hr2,hb2⟩))
 have lt12:=hr1.lt
 have HNE:Hid (g2≠g1):=by show g2≠g1;omega
 have HNE2:Hid (g1≠g2):=by show g1≠g2;omega
 have HG1:Hid (w.heap.size<=g1):=hg1
 have HG2:Hid (w.heap.size<=g2):=by have:=hb1.size;show w.heap.size<=g2;omega
 have HLT:Hid (g1<g2):=by show g1<g2;omega
 have R1:yO w2 g1 ps:=YH hl1 (hr1.of_block (hb2.block g1 lt12));have R2:yO w2 g2 qs:=YH hl2 hr2;have B2:Below w.heap.size w w2:=hb1.trans (hb2.mono hb1.size);clear hr1 hr2 hb1 hb2 hg1 hg2 lt12 hv1 hv2 ho1 ho2
 go_loopg [33] l1 (fun gk i wr=>∃(k:Nat) (os B:List Nat),k<=l1/\gk=l1-k/\i=.int .i64 k/\os.length=k/\B.length=l2/\Sm B/\os++pC (ps.drop k) B=pC ps qs/\pN (ps.drop k) B=pN ps qs/\yO wr g1 (os++ps.drop k)/\yO wr g2 B/\Below w.heap.size w wr)
 case atStart=>exact ⟨0,[],qs,Nat.zero_le _,rfl,rfl,rfl,hl2,HQ.out,rfl,rfl,R1,R2,B2⟩
 case round=>
  clear R1 R2 B2;obtain ⟨k,os,B,hk,rfl,rfl,hos,hBl,hBs,heP,heQ,hrow1,hrow2,hbel⟩:=hrel;have HO:Hid (os.length=k):=hos;have HBL:Hid (B.length=l2):=hBl;have HBS:Hid (Sm B):=hBs;have HEP:Hid (os++pC (ps.drop k) B=pC ps qs):=heP;have HEQ:Hid (pN (ps.drop k) B=pN ps qs):=heQ;have HR1:Hid (yO wr g1 (os++ps.drop k)):=hrow1;have HR2:Hid (yO wr g2 B):=hrow2;clear hos hBl hBs heP heQ hrow1 hrow2
  by_cases hlt:k<l1
  ·obtain ⟨p0,HD0⟩:=ME (ps:=ps) (k:=k) (by omega)
   have HD:Hid (ps.drop k=p0::ps.drop (k+1)):=HD0;have hp0:1<=p0/\p0<=9223372036854775807:=HP.out p0 (List.mem_of_mem_drop (i:=k) (by rw[HD0];simp))
   have hk1:(k:Int)<(l1:Int):=by omega
   clear HD0;obtain ⟨R,hR⟩:∃R,R=ps.drop (k+1):=⟨_,rfl⟩;have HRR:Hid (R=ps.drop (k+1)):=hR
   have HR1':Hid (yO wr g1 (os++p0::R)):=by have:=HR1.out;rw[HD.out,<-hR]at this;exact this
   have HP0:Hid (1<=p0/\p0<=9223372036854775807):=hp0;clear hR HR1 hp0
   go_wp2
   go_loopg [38] l2 (fun gm j wr=>∃(m p:Nat) (ts us:List Nat),m<=l2/\gm=l2-m/\j=.int .i64 m/\ts.length=m/\ts.length+us.length=l2/\(1<=p/\p<=9223372036854775807)/\Sm us/\oD p us=oD p0 B/\ts++uF p us=uF p0 B/\yO wr g1 (os++p::R)/\yO wr g2 (ts++us)/\Below w.heap.size w wr)
   case atStart=>exact ⟨0,p0,[],B,Nat.zero_le _,rfl,rfl,rfl,by simpa using HBL.out,HP0.out,HBS.out,rfl,rfl,HR1'.out,HR2.out,hbel⟩
   case round=>
    clear HR1' HR2 hbel;obtain ⟨m,p,ts,us,hm,rfl,rfl,hts,htu,hpp,hus,heP,heQ,hrow1,hrow2,hbel⟩:=hrel;have HT:Hid (ts.length=m):=hts;have HTU:Hid (ts.length+us.length=l2):=htu;have HEP2:Hid (oD p us=oD p0 B):=heP;have HEQ2:Hid (ts++uF p us=uF p0 B):=heQ;have HUS:Hid (Sm us):=hus;have HPP:Hid (1<=p/\p<=9223372036854775807):=hpp;clear hts htu heP heQ hus hpp
    by_cases hltm:m<l2
    ·have hm1:(m:Int)<(l2:Int):=by omega
     cases us with
     |nil=>
      exfalso
      have h1:=HTU.out;have h2:=HT.out;rw[List.length_nil]at h1;omega
     |cons q us=>
      have HQQ:Hid ((1<=q/\q<=9223372036854775807)/\Sm us):=VH.1 HUS.out
      have hdv0:=fun W=>RX p q W HPP.out.1 HPP.out.2 HQQ.out.1.1 HQQ.out.1.2
      have HX:Hid ((1<=p / Nat.gcd p q/\p / Nat.gcd p q<=9223372036854775807)/\oD (p / Nat.gcd p q) us=oD p0 B/\(ts++[q / Nat.gcd p q])++uF (p / Nat.gcd p q) us=uF p0 B):=by
       refine ⟨⟨quo_pos HPP.out.1,MD HPP.out.2⟩,HEP2.out,?_⟩
       rw[List.append_assoc];exact HEQ2.out
      generalize p / Nat.gcd p q=x at *;generalize q / Nat.gcd p q=y at *;have hdv:Hid (∀ W,Calls Tryz.prog 81 #[.int .i64 (p:Int),.int .i64 (q:Int)] W fun e w'=>e=.returned (.tuple #[.int .i64 (x:Int),.int .i64 (y:Int)])/\Below W.heap.size W w'):=hdv0;clear hdv0;have hr1:yO wr g1 (os++p::R):=hrow1;have hr2:yO wr g2 (ts++q::us):=hrow2;clear hrow1 hrow2
      go_wp2
      refine ZE 17 19 (fun b c i u z=>match i with
       |0=>z=.slice (some ⟨g1,0,none⟩) l1 l1
       |1=>z=.int .i64 (k:Int)
       |2=>z=.slice (some ⟨g2,0,none⟩) l2 l2
       |3=>z=.int .i64 (m:Int)
       |4=>z=.slice (some ⟨g1,0,none⟩) l1 l1
       |5=>z=.int .i64 (k:Int)
       |6=>z=.pointer (some ⟨g1,k,none⟩)
       |7=>z=.int .i64 (p:Int)
       |8=>z=.slice (some ⟨g2,0,none⟩) l2 l2
       |9=>z=.int .i64 (m:Int)
       |10=>z=.pointer (some ⟨g2,m,none⟩)
       |11=>z=.int .i64 (q:Int)
       |12=>z=.tuple #[.int .i64 (x:Int),.int .i64 (y:Int)]
       |13=>z=.tuple #[.int .i64 (x:Int),.int .i64 (y:Int)]
       |14=>z=.int .i64 (x:Int)
       |15=>z=.int .i64 (y:Int)
       |16=>z=.pointer (some ⟨g1,k,none⟩)
       |18=>z=.pointer (some ⟨g2,m,none⟩)
       |_=>True) (fun b c u=>Below w.heap.size w u/\yO u g1 (os++(if b=true then x else p)::R)/\yO u g2 (ts++(if c=true then y else q)::us)) (by kernel_rfl) (by kernel_rfl) (by kernel_rfl) (by kernel_rfl) (by decide) (by decide) (by decide) (by kernel_rfl) ?_ ?_ ?_ ?_ ?_ ?_ ?_
      ·intro b c i w v w' h hb
       match i,h with
       |0,h=>exact h
       |1,h=>exact h
       |2,h=>exact h
       |3,h=>exact h
       |4,h=>exact h
       |5,h=>exact h
       |6,h=>exact h
       |7,h=>exact h
       |8,h=>exact h
       |9,h=>exact h
       |10,h=>exact h
       |11,h=>exact h
       |12,h=>exact h
       |13,h=>exact h
       |14,h=>exact h
       |15,h=>exact h
       |16,h=>exact h
       |17,_=>trivial
       |18,h=>exact h
       |19,_=>trivial
       |_+20,_=>trivial
      ·intro b c u u' h hb
       exact ⟨h.1.trans (hb.mono h.1.size),h.2.1.later hb,h.2.2.later hb⟩
      ·exact ⟨hbel,hr1,hr2⟩
      ·intro b c i o ρ w' hn1 hn2 ho hf1 hf2 hgot hC hcs hfs hfr zX
       match i,hn1,hn2,ho,hf1,hf2,hgot,zX with
       |0,_,_,ho,hf1,hf2,hgot,zX=>
        simp only[qS]at ho;subst ho;have ts: ρ (.tmp 7)=.slice (some ⟨g1,0,none⟩) l1 l1:=(qR hfr 7);simp[go_sem,ts];exact qB
       |1,_,_,ho,hf1,hf2,hgot,zX=>
        simp only[qS]at ho;subst ho;have ts: ρ (.tmp 9)=.int .i64 (k:Int):=(qR hfr 9);simp[go_sem,ts];exact qB
       |2,_,_,ho,hf1,hf2,hgot,zX=>
        simp only[qS]at ho;subst ho;have ts: ρ (.tmp 8)=.slice (some ⟨g2,0,none⟩) l2 l2:=(qR hfr 8);simp[go_sem,ts];exact qB
       |3,_,_,ho,hf1,hf2,hgot,zX=>
        simp only[qS]at ho;subst ho;have ts: ρ (.tmp 10)=.int .i64 (m:Int):=(qR hfr 10);simp[go_sem,ts];exact qB
       |4,_,_,ho,hf1,hf2,hgot,zX=>
        simp only[qS]at ho;subst ho;have ts: ρ (.tmp 7)=.slice (some ⟨g1,0,none⟩) l1 l1:=(qR hfr 7);simp[go_sem,ts];exact qB
       |5,_,_,ho,hf1,hf2,hgot,zX=>
        simp only[qS]at ho;subst ho;have ts: ρ (.tmp 9)=.int .i64 (k:Int):=(qR hfr 9);simp[go_sem,ts];exact qB
       |6,_,_,ho,hf1,hf2,hgot,zX=>
        simp only[qS]at ho;subst ho;have d0: ρ (.tmp 46)=.slice (some ⟨g1,0,none⟩) l1 l1:=(qH zX 4 46);have d1: ρ (.tmp 47)=.int .i64 (k:Int):=(qH zX 5 47);simp[go_sem,d0,d1,hk1];exact qB
       |7,_,_,ho,hf1,hf2,hgot,zX=>
        simp only[qS]at ho;subst ho;have hb0:b=false:=hf1 (by kernel_rfl);subst hb0;have hca:=VI HO.out hC.2.1;simp only[Bool.false_eq_true,if_false]at hca;have d0: ρ (.tmp 48)=.pointer (some ⟨g1,k,none⟩):=(qH zX 6 48);simp[go_sem,d0,hca];exact qB
       |8,_,_,ho,hf1,hf2,hgot,zX=>
        simp only[qS]at ho;subst ho;have ts: ρ (.tmp 8)=.slice (some ⟨g2,0,none⟩) l2 l2:=(qR hfr 8);simp[go_sem,ts];exact qB
       |9,_,_,ho,hf1,hf2,hgot,zX=>
        simp only[qS]at ho;subst ho;have ts: ρ (.tmp 10)=.int .i64 (m:Int):=(qR hfr 10);simp[go_sem,ts];exact qB
       |10,_,_,ho,hf1,hf2,hgot,zX=>
        simp only[qS]at ho;subst ho;have d0: ρ (.tmp 50)=.slice (some ⟨g2,0,none⟩) l2 l2:=(qH zX 8 50);have d1: ρ (.tmp 51)=.int .i64 (m:Int):=(qH zX 9 51);simp[go_sem,d0,d1,hm1];exact qB
       |11,_,_,ho,hf1,hf2,hgot,zX=>
        simp only[qS]at ho;subst ho;have hc0:c=false:=hf2 (by kernel_rfl);subst hc0;have hcb:=VI HT.out hC.2.2;simp only[Bool.false_eq_true,if_false]at hcb;have d0: ρ (.tmp 52)=.pointer (some ⟨g2,m,none⟩):=(qH zX 10 52);simp[go_sem,d0,hcb];exact qB
       |12,_,_,ho,hf1,hf2,hgot,zX=>
        simp only[qS]at ho;subst ho;have d0: ρ (.tmp 49)=.int .i64 (p:Int):=(qH zX 7 49);have d1: ρ (.tmp 53)=.int .i64 (q:Int):=(qH zX 11 53);simp[go_sem,d0,d1,hfs];exact ⟨rfl,(hdv.out _).mono (fun e w'' h=>⟨_,h.1,h.2,rfl⟩)⟩
       |13,_,_,ho,hf1,hf2,hgot,zX=>
        simp only[qS]at ho;subst ho;have d0: ρ (.tmp 54)=.tuple #[.int .i64 (x:Int),.int .i64 (y:Int)]:=(qH zX 12 54);simp[go_sem,d0];exact qB
       |14,_,_,ho,hf1,hf2,hgot,zX=>
        simp only[qS]at ho;subst ho;have d0: ρ (.tmp 41)=.tuple #[.int .i64 (x:Int),.int .i64 (y:Int)]:=(qH zX 13 41);simp[go_sem,d0];exact qB
       |15,_,_,ho,hf1,hf2,hgot,zX=>
        simp only[qS]at ho;subst ho;have d0: ρ (.tmp 41)=.tuple #[.int .i64 (x:Int),.int .i64 (y:Int)]:=(qH zX 13 41);simp[go_sem,d0];exact qB
       |16,_,_,ho,hf1,hf2,hgot,zX=>
        simp only[qS]at ho;subst ho;have d0: ρ (.tmp 42)=.slice (some ⟨g1,0,none⟩) l1 l1:=(qH zX 0 42);have d1: ρ (.tmp 43)=.int .i64 (k:Int):=(qH zX 1 43);simp[go_sem,d0,d1,hk1];exact qB
       |17,hn1,hn2,_,_,_,_,_=>exact absurd rfl hn1
       |18,_,_,ho,hf1,hf2,hgot,zX=>
        simp only[qS]at ho;subst ho;have d0: ρ (.tmp 44)=.slice (some ⟨g2,0,none⟩) l2 l2:=(qH zX 2 44);have d1: ρ (.tmp 45)=.int .i64 (m:Int):=(qH zX 3 45);simp[go_sem,d0,d1,hm1];exact qB
       |19,hn1,hn2,_,_,_,_,_=>exact absurd rfl hn2
       |n+20,_,_,ho,_,_,_,_=>simp at ho
      ·intro o ρ w' ho hC zX
       simp only[qS]at ho;subst ho;have d0: ρ (.tmp 57)=.pointer (some ⟨g1,k,none⟩):=(qH zX 16 57);have d1: ρ (.tmp 55)=.int .i64 (x:Int):=(qH zX 14 55);obtain ⟨C1,C2,C3⟩:=hC;simp only[Bool.false_eq_true,if_false]at C2 C3;have hca:=VI HO.out C2;have hfa:=zXH C2 k;refine ⟨w'.setCell ⟨g1,k,none⟩ (.int .i64 (x:Int)),by simp[go_sem,d0,d1,hca,hfa],⟨C1.setCell HG1.out _,?_,?_⟩,?_⟩
       ·simp only[if_true];exact GY HO.out C2
       ·simp only[Bool.false_eq_true,if_false];exact kC C3 HNE.out _
       intro j v hs
       match j,hs with
       |0,hs=>exact hs
       |1,hs=>exact hs
       |2,hs=>exact hs
       |3,hs=>exact hs
       |4,hs=>exact hs
       |5,hs=>exact hs
       |6,hs=>exact hs
       |7,hs=>exact hs
       |8,hs=>exact hs
       |9,hs=>exact hs
       |10,hs=>exact hs
       |11,hs=>exact hs
       |12,hs=>exact hs
       |13,hs=>exact hs
       |14,hs=>exact hs
       |15,hs=>exact hs
       |16,hs=>exact hs
       |17,_=>trivial
       |18,hs=>exact hs
       |19,_=>trivial
       |_+20,_=>trivial
      ·intro o ρ w' ho hC zX
       simp only[qS]at ho;subst ho;have d0: ρ (.tmp 58)=.pointer (some ⟨g2,m,none⟩):=(qH zX 18 58);have d1: ρ (.tmp 56)=.int .i64 (y:Int):=(qH zX 15 56);obtain ⟨C1,C2,C3⟩:=hC;simp only[Bool.false_eq_true,if_false,if_true]at C2 C3;have hcb:=VI HT.out C3;have hfb:=zXH C3 m;refine ⟨w'.setCell ⟨g2,m,none⟩ (.int .i64 (y:Int)),by simp[go_sem,d0,d1,hcb,hfb],⟨C1.setCell HG2.out _,?_,?_⟩,?_⟩
       ·simp only[if_true];exact kC C2 HNE2.out _
       ·simp only[if_true];exact GY HT.out C3
       intro j v hs
       match j,hs with
       |0,hs=>exact hs
       |1,hs=>exact hs
       |2,hs=>exact hs
       |3,hs=>exact hs
       |4,hs=>exact hs
       |5,hs=>exact hs
       |6,hs=>exact hs
       |7,hs=>exact hs
       |8,hs=>exact hs
       |9,hs=>exact hs
       |10,hs=>exact hs
       |11,hs=>exact hs
       |12,hs=>exact hs
       |13,hs=>exact hs
       |14,hs=>exact hs
       |15,hs=>exact hs
       |16,hs=>exact hs
       |17,_=>trivial
       |18,hs=>exact hs
       |19,_=>trivial
       |_+20,_=>trivial
      intro V w9 q9 hS;have e0:V 0=.slice (some ⟨g1,0,none⟩) l1 l1:=hS 0 (by decide) (by decide) (by decide);have e1:V 1=.int .i64 (k:Int):=hS 1 (by decide) (by decide) (by decide);have e2:V 2=.slice (some ⟨g2,0,none⟩) l2 l2:=hS 2 (by decide) (by decide) (by decide);have e3:V 3=.int .i64 (m:Int):=hS 3 (by decide) (by decide) (by decide);have e4:V 4=.slice (some ⟨g1,0,none⟩) l1 l1:=hS 4 (by decide) (by decide) (by decide);have e5:V 5=.int .i64 (k:Int):=hS 5 (by decide) (by decide) (by decide);have e6:V 6=.pointer (some ⟨g1,k,none⟩):=hS 6 (by decide) (by decide) (by decide);have e7:V 7=.int .i64 (p:Int):=hS 7 (by decide) (by decide) (by decide);have e8:V 8=.slice (some ⟨g2,0,none⟩) l2 l2:=hS 8 (by decide) (by decide) (by decide);have e9:V 9=.int .i64 (m:Int):=hS 9 (by decide) (by decide) (by decide);have e10:V 10=.pointer (some ⟨g2,m,none⟩):=hS 10 (by decide) (by decide) (by decide);have e11:V 11=.int .i64 (q:Int):=hS 11 (by decide) (by decide) (by decide);have e12:V 12=.tuple #[.int .i64 (x:Int),.int .i64 (y:Int)]:=hS 12 (by decide) (by decide) (by decide);have e13:V 13=.tuple #[.int .i64 (x:Int),.int .i64 (y:Int)]:=hS 13 (by decide) (by decide) (by decide);have e14:V 14=.int .i64 (x:Int):=hS 14 (by decide) (by decide) (by decide);have e15:V 15=.int .i64 (y:Int):=hS 15 (by decide) (by decide) (by decide);have e16:V 16=.pointer (some ⟨g1,k,none⟩):=hS 16 (by decide) (by decide) (by decide);have e18:V 18=.pointer (some ⟨g2,m,none⟩):=hS 18 (by decide) (by decide) (by decide);simp only[yP,uM,e0,e1,e2,e3,e4,e5,e6,e7,e8,e9,e10,e11,e12,e13,e14,e15,e16,e18];clear hS e0 e1 e2 e3 e4 e5 e6 e7 e8 e9 e10 e11 e12 e13 e14 e15 e16 e18 V;obtain ⟨C1,C2,C3⟩:=q9;simp only[if_true]at C2 C3;clear hr1 hr2 hbel hdv
      go_wp2
      go_roundg (l2-(m+1))
      case measure=>omega
      case rel=>exact ⟨m+1,x,ts++[y],us,by omega,rfl,by go_num,by simp[HT.out],by have:=HTU.out;simp at this ⊢;omega,HX.out.1,HQQ.out.2,HX.out.2.1,HX.out.2.2,C2,by rw[List.append_assoc];exact C3,C1⟩
    have em:l2=m:=by omega
    subst em
    have hmm:¬(l2:Int)<(l2:Int):=by omega
    have HU:Hid (us=[]):=by
     have h1:=HTU.out;have h2:=HT.out;exact List.eq_nil_of_length_eq_zero (by omega)
    have HY:Hid (p=oD p0 B/\ts=uF p0 B):=by
     have h1:=HEP2.out;have h2:=HEQ2.out;rw[HU.out]at h1 h2;exact ⟨h1,by simpa [uF] using h2⟩
    have F1:Hid (yO wr g1 ((os++[p])++ps.drop (k+1))):=by
     have:=hrow1;rw[HRR.out]at this;show yO wr g1 ((os++[p])++ps.drop (k+1))
     rw[List.append_assoc];exact this
    have F2:Hid (yO wr g2 ts):=by
     have:=hrow2;rw[HU.out,List.append_nil]at this;exact this
    clear hrow1 hrow2
    go_wp2
    go_roundg (l1-(k+1))
    case measure=>omega
    case rel=>
     refine ⟨k+1,os++[p],ts,by omega,rfl,by go_num,by simp[HO.out],HT.out,?_,?_,?_,F1.out,F2.out,hbel⟩
     ·rw [HY.out.2];exact zSM HBS.out
     ·have:=HEP.out
      rw[HD.out]at this;rw[HY.out.1,HY.out.2,List.append_assoc];exact this
     have:=HEQ.out;rw[HD.out]at this;rw[HY.out.2];exact this
  have ek:l1=k:=by omega
  subst ek
  have hkk:¬(l1:Int)<(l1:Int):=by omega
  have HDE:Hid (ps.drop l1=[]):=List.drop_eq_nil_of_le (by omega)
  have FO:Hid (yO wr g1 (pC ps qs)/\yO wr g2 (pN ps qs)):=by
   have h1:=HEP.out;have h2:=HEQ.out;have h3:=HR1.out;rw[HDE.out]at h1 h2 h3;refine ⟨?_,?_⟩
   ·rw [<- h1];exact h3
   rw[<- h2];exact HR2.out
  go_wp2
  refine bodyPost_ret (v:=.tuple #[.slice (some ⟨g1,0,none⟩) l1 l1,.slice (some ⟨g2,0,none⟩) l2 l2,.int .i64 0]) (by simp[results,Tryz.results51,go_sem]) rfl ⟨g1,g2,rfl,HG1.out,HLT.out,FO.out.1,FO.out.2,hbel⟩
def cE (xs ys:List Int):Int:=if 1024<xs.length\/1024<ys.length then 2 else if (uO xs&&uO ys)=true then 0 else 1
def cA (xs ys:List Int):List Int:=if cE xs ys=0 then up (pC (wV xs) (wV ys)) else []
def cB (xs ys:List Int):List Int:=if cE xs ys=0 then up (pN (wV xs) (wV ys)) else []
theorem GU {xs ys:List Int} (h:1024<xs.length\/1024<ys.length):cE xs ys=2:=if_pos h
theorem zXF {xs ys:List Int} (h1:xs.length<=1024) (h2:ys.length<=1024) (h:(uO xs&&uO ys)=false):cE xs ys=1:=by
 unfold cE;rw[if_neg (by omega),h];rfl
theorem zPH {xs ys:List Int} (h1:xs.length<=1024) (h2:ys.length<=1024) (h:(uO xs&&uO ys)=true):cE xs ys=0:=by
 unfold cE;rw[if_neg (by omega),h];rfl
theorem GQ {xs ys:List Int} (h:cE xs ys=0):xs.length<=1024/\ys.length<=1024/\uO xs=true/\uO ys=true:=by
 unfold cE at h
 split at h
 ·cases h
 rename_i h1
 split at h
 ·rename_i h2
  rw[Bool.and_eq_true]at h2;exact ⟨by omega,by omega,h2.1,h2.2⟩
 cases h
theorem zXE {xs ys:List Int} (h:cE xs ys≠0):cA xs ys=[]/\cB xs ys=[]:=⟨if_neg h,if_neg h⟩
theorem zXD {xs ys:List Int} (h:cE xs ys=0):cA xs ys=up (pC (wV xs) (wV ys))/\cB xs ys=up (pN (wV xs) (wV ys)):=⟨if_pos h,if_pos h⟩
def zXC (w:World) (xs ys:List Int) (e:Ending) (w':World):Prop:=
 Below w.heap.size w w'/\∃a b n1 n2,e=.returned (.tuple #[.slice a n1 n1,.slice b n2 n2,.int .i64 (cE xs ys)])/\VJ w.heap.size w' a n1 n1 (cA xs ys)/\VJ w.heap.size w' b n2 n2 (cB xs ys)/\(∀ x y,a=some x->b=some y->x.block<y.block)
theorem dD {w w':World} {xs ys:List Int} {E:Int} (hE:cE xs ys=E) (h0:E≠0) (hb:Below w.heap.size w w'):zXC w xs ys (.returned (.tuple #[qN,qN,.int .i64 E])) w':=by
 obtain ⟨e1,e2⟩:=zXE (xs:=xs) (ys:=ys) (by rw[hE];exact h0);refine ⟨hb,none,none,0,0,by rw[hE],?_,?_,fun x y h=>by cases h⟩
 ·rw [e1];exact ⟨rfl,.inl ⟨rfl,rfl,rfl⟩⟩
 rw[e2];exact ⟨rfl,.inl ⟨rfl,rfl,rfl⟩⟩
theorem MC (a1 a2:Option Addr) (xs ys:List Int) (l1 c1 l2 c2:Nat) (w:World) (hl1:xs.length=l1) (hl2:ys.length=l2) (hm1:l1<=4611686018427387904) (hm2:l2<=4611686018427387904) (hx:cQ xs) (hy:cQ ys) (h1:At w a1 xs) (h2:At w a2 ys):
 Calls Tryz.prog 51 #[.slice a1 l1 c1,.slice a2 l2 c2] w (zXC w xs ys):=by
 by_cases hL1:1024<l1
 ·have hd1:decide ((1024:Int)<(l1:Int))=true:=decide_eq_true (by omega)
  have HE:Hid (cE xs ys=2):=GU (.inl (by omega));clear h1 h2 hL1
  go_enter Tryz.func51,Tryz.ntmps51
  go_wp2
  exact bodyPost_ret (v:=.tuple #[qN,qN,.int .i64 2]) (by simp[results,Tryz.results51,go_sem]) rfl (dD HE.out (by decide) (Below.refl _ _))
 by_cases hL2:1024<l2
 ·have hd1:decide ((1024:Int)<(l1:Int))=false:=decide_eq_false (by omega)
  have hd2:decide ((1024:Int)<(l2:Int))=true:=decide_eq_true (by omega);have HE:Hid (cE xs ys=2):=GU (.inr (by omega));clear h1 h2 hL1 hL2
  go_enter Tryz.func51,Tryz.ntmps51
  go_wp2
  exact bodyPost_ret (v:=.tuple #[qN,qN,.int .i64 2]) (by simp[results,Tryz.results51,go_sem]) rfl (dD HE.out (by decide) (Below.refl _ _))
 have hd1:decide ((1024:Int)<(l1:Int))=false:=decide_eq_false (by omega);have hd2:decide ((1024:Int)<(l2:Int))=false:=decide_eq_false (by omega);have hv1:=lS a1 xs l1 c1 w hl1 hm1 h1;have hv2:=lS a2 ys l2 c2 w hl2 hm2 h2
 cases hP1:uO xs
 ·have HE:Hid (cE xs ys=1):=zXF (by omega) (by omega) (by rw[hP1];rfl)
  rw[hP1]at hv1;clear h1 h2 hP1 hv2 hL1 hL2
  go_enter Tryz.func51,Tryz.ntmps51
  go_wp2_with (go_at_call 79;(with_reducible refine hv1.mono ?_);rintro e w' ⟨rfl,rfl⟩)
  exact bodyPost_ret (v:=.tuple #[qN,qN,.int .i64 1]) (by simp[results,Tryz.results51,go_sem]) rfl (dD HE.out (by decide) (Below.refl _ _))
 cases hP2:uO ys
 ·have HE:Hid (cE xs ys=1):=zXF (by omega) (by omega) (by rw[hP2,Bool.and_false])
  rw[hP1]at hv1;rw[hP2]at hv2;clear h1 h2 hP1 hP2 hL1 hL2
  go_enter Tryz.func51,Tryz.ntmps51
  go_wp2_with (first
   |(go_at_call 79;(with_reducible refine hv1.mono ?_);rintro e w' ⟨rfl,rfl⟩)
   |(go_at_call 79;(with_reducible refine hv2.mono ?_);rintro e w' ⟨rfl,rfl⟩))
  exact bodyPost_ret (v:=.tuple #[qN,qN,.int .i64 1]) (by simp[results,Tryz.results51,go_sem]) rfl (dD HE.out (by decide) (Below.refl _ _))
 have hE:cE xs ys=0:=zPH (by omega) (by omega) (by rw[hP1,hP2];rfl);have e1:=ID hP1;have e2:=ID hP2;have s1:=GV hx hP1;have s2:=GV hy hP2;refine (DB a1 a2 (wV xs) (wV ys) l1 c1 l2 c2 w (by rw[oY];exact hl1) (by rw[oY];exact hl2) (by omega) (by omega) (by rw[e1];exact h1) (by rw[e2];exact h2) s1 s2).mono ?_
 rintro e w' ⟨g1,g2,rfl,hg1,hlt,r1,r2,hb⟩
 obtain ⟨f1,f2⟩:=zXD hE;refine ⟨hb,_,_,l1,l2,by rw[hE],?_,?_,fun x y k1 k2=>by cases k1;cases k2;exact hlt⟩
 ·rw [f1]
  have el:(pC (wV xs) (wV ys)).length=l1:=by rw[SY,oY];exact hl1
  exact ⟨by rw[sT];exact el,.inr ⟨g1,rfl,hg1,rfl,r1.rowIs el⟩⟩
 rw[f2]
 have el:(pN (wV xs) (wV ys)).length=l2:=by rw[SX,oY];exact hl2
 exact ⟨by rw[sT];exact el,.inr ⟨g2,rfl,by omega,rfl,r2.rowIs el⟩⟩
theorem VJ.at {base:Nat} {w:World} {a:Option Addr} {n cap:Nat} {zs:List Int} (h:VJ base w a n cap zs):At w a zs:=by
 obtain ⟨hl,⟨-,h0,-⟩|⟨g,rfl,-,-,hr⟩⟩:=h
 ·exact Or.inl (List.eq_nil_of_length_eq_zero (by omega))
 exact VM hl hr
def eqB (xs ys:List Int):Bool:=decide (cE xs ys=0)&&decide (zI (wV xs)=zI (wV ys))
theorem zSK {xs ys:List Int} (h:cE xs ys≠0):eqB xs ys=false:=by unfold eqB;rw[decide_eq_false h];rfl
theorem zOE {xs ys:List Int} (h:cE xs ys=0):eqB xs ys=(uL (cA xs ys)&&uL (cB xs ys)):=by
 obtain ⟨-,-,p1,p2⟩:=GQ h;obtain ⟨f1,f2⟩:=zXD h;rw[f1,f2,IB,IB,DS (RY p1) (RY p2)];unfold eqB;rw[h];rfl
theorem zOD {xs ys:List Int} :(cA xs ys).length<=1024/\(cB xs ys).length<=1024:=by
 by_cases h:cE xs ys=0
 ·obtain ⟨h1,h2,-,-⟩:=GQ h
  obtain ⟨f1,f2⟩:=zXD h;rw[f1,f2,sT,sT,SY,SX,oY,oY];exact ⟨h1,h2⟩
 obtain ⟨f1,f2⟩:=zXE h;rw[f1,f2];exact ⟨by decide,by decide⟩
def zPG (w:World) (xs ys:List Int) (e:Ending) (w':World):Prop:=e=.returned (.tuple #[.bool (eqB xs ys),.int .i64 (cE xs ys)])/\Below w.heap.size w w'
theorem DA (a1 a2:Option Addr) (xs ys:List Int) (l1 c1 l2 c2:Nat) (w:World) (hl1:xs.length=l1) (hl2:ys.length=l2) (hm1:l1<=4611686018427387904) (hm2:l2<=4611686018427387904) (hx:cQ xs) (hy:cQ ys) (h1:At w a1 xs) (h2:At w a2 ys):
 Calls Tryz.prog 25 #[.slice a1 l1 c1,.slice a2 l2 c2] w (zPG w xs ys):=by
 have hr:=MC a1 a2 xs ys l1 c1 l2 c2 w hl1 hl2 hm1 hm2 hx hy h1 h2;have HL:Hid ((cA xs ys).length<=1024/\(cB xs ys).length<=1024):=zOD;clear h1 h2 hl1 hl2 hm1 hm2
 by_cases h0:cE xs ys=0
 ·have HE:Hid (cE xs ys=0):=h0
  have HQ:Hid (eqB xs ys=(uL (cA xs ys)&&uL (cB xs ys))):=zOE h0
  have e0:((cE xs ys)!=0)=false:=by rw[h0];rfl
  clear h0;generalize hEE:cE xs ys=E at *;have HEE:Hid (cE xs ys=E):=hEE;clear hEE
  cases hA:uL (cA xs ys)
  ·have HA:Hid (uL (cA xs ys)=false):=hA
   clear hA
   go_enter Tryz.func25,Tryz.ntmps25
   go_wp2_with (first
    |(go_at_call 51;refine hr.mono ?_;rintro e w1 ⟨hb,a,b,n1,n2,rfl,o1,o2,-⟩;rw[HEE.out];have la:=o1.1;have ca:=jN a _ n1 n1 w1 o1.1 (by have:=HL.out.1;omega) o1.at;rw[HA.out]at ca)
    |(go_at_call 52;(with_reducible refine ca.mono ?_);rintro e w' ⟨rfl,rfl⟩))
   go_ret2
   exact ⟨by rw[HQ.out,HA.out,HEE.out,HE.out];rfl,hb⟩
  have HA:Hid (uL (cA xs ys)=true):=hA;clear hA
  go_enter Tryz.func25,Tryz.ntmps25
  go_wp2_with (first
   |(go_at_call 51;refine hr.mono ?_;rintro e w1 ⟨hb,a,b,n1,n2,rfl,o1,o2,-⟩;rw[HEE.out];have la:=o1.1;have ca:=jN a _ n1 n1 w1 o1.1 (by have:=HL.out.1;omega) o1.at;rw[HA.out]at ca;have cb:=jN b _ n2 n2 w1 o2.1 (by have:=HL.out.2;have:=o2.1;omega) o2.at)
   |(go_at_call 52;(with_reducible refine ca.mono ?_);rintro e w' ⟨rfl,rfl⟩)
   |(go_at_call 52;(with_reducible refine cb.mono ?_);rintro e w' ⟨rfl,rfl⟩))
  go_ret2
  exact ⟨by rw[HQ.out,HA.out,HEE.out,HE.out];rfl,hb⟩
 have e0:((cE xs ys)!=0)=true:=by simpa using h0
 have HB:Hid (eqB xs ys=false):=zSK h0;clear h0;generalize hEE:cE xs ys=E at *;have HEE:Hid (cE xs ys=E):=hEE;clear hEE
 go_enter Tryz.func25,Tryz.ntmps25
 go_wp2_with (go_at_call 51;refine hr.mono ?_;rintro e w1 ⟨hb,a,b,n1,n2,rfl,o1,o2,-⟩;rw[HEE.out])
 go_ret2
 exact ⟨by rw[HB.out,HEE.out];rfl,hb⟩
end Go.Proofs.YtpohmekkdjdhmaaGreat
