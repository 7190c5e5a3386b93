/- Texts of one chain. -/
import Derived.Test.YtpohmekkdjdhmaaGreatPartQ
import Derived.Test.YtpohmekkdjdhmaaGreatPartTopPeriods20
import Derived.Handy
import Derived.WalkSpells
import Derived.Test.YtpohmekkdjdhmaaGreatPartTopPeriods3
set_option maxRecDepth 100000
set_option maxHeartbeats 8000000
namespace Go.Proofs.YtpohmekkdjdhmaaGreat
open Go.ChangeShapes Go.WideShapes Go.ChangeAt Go.RowKit
def lA (w:World) (zs:List Int) (e:Ending) (w':World):Prop:=∃(a:Option Addr) (cap:Nat),e=.returned (.slice a zs.length cap)/\zO w.heap.size w' a cap zs/\Below w.heap.size w w'
theorem KV (w:World):(w.alloc (.cells #[] 3)).ownsRow w.heap.size 3 1 (.slice (some ⟨w.heap.size,0,none⟩) 0 0) 0 []:=
 ⟨rfl,.inr ⟨w.heap.size,0,#[],rfl,Nat.le_refl _,by show (w.heap.push _)[w.heap.size]? =_;simp,Nat.le_refl _,by unfold maxLen;omega,rfl,rfl⟩⟩
theorem jG (a:Option Addr) (zs:List Int) (len cap:Nat) (w:World) (hl:zs.length=len) (hr:len*8<=140737488351232) (hn:a=none->len=0/\cap=0) (h:At w a zs):
 Calls Tryz.prog 31 #[.slice a len cap] w (lA w zs):=by
 obtain ⟨i0,hi,hz0,hz1,hz2⟩:=info_parts Tryz.info3
 cases a with
 |none=>
  obtain ⟨rfl,rfl⟩:=hn rfl;have e:zs=[]:=List.eq_nil_of_length_eq_zero hl;subst e;have q0:=Lib.run_eql_slice_nil (P:=Tryz.prog) w 27 3 none 0 0 0 0 Tryz.underlying27
  go_enter Tryz.func31,Tryz.ntmps31
  go_wp2
  go_ret
  exact ⟨none,0,rfl,World.ownsRow_nil _ _ _ _,Below.refl _ _⟩
 |some ad=>
  have EO:=zZ (KV w);have HA:=zZ (h.below ((Below.refl w.heap.size w).alloc (Nat.le_refl _) (.cells #[] 3)));clear h;have q0:=Lib.run_eql_slice_nil (P:=Tryz.prog) w 27 3 (some ad) len cap 0 0 Tryz.underlying27
  go_enter Tryz.func31,Tryz.ntmps31
  go_wp2_with (at_builtin;refine wpList_append_own _ rfl _ _ 27 rfl w.heap.size 3 i0 (.int .i64 0) 1 8 Tryz.underlying27 hi hz0 hz1 hz2 rfl (by decide) _ 0 [] rfl EO.out ad len cap (zs.map (Value.int .i64)) rfl (by simp[hl]) (iU HA.out) (ints_oneCell _ _) ?c3 ?c4 (by simp) ?_)
  case c3=>unfold maxLen;omega
  case c4=>omega
  intro v' w1 hown hgrow _
  have hown':w1.ownsRow w.heap.size 3 1 v' len (zs.map (Value.int .i64)):=by simpa using hown
  obtain ⟨a',cap',hv,-,hat',hc',hn',hb'⟩:=iV (n:=len) (zs:=zs) hown';rw[hv]
  go_wp2
  go_ret
  refine ⟨a',cap',by rw[hl];rfl,?_,((Below.refl _ _).alloc (Nat.le_refl _) _).grown hgrow (by simp) (fun k h=>by cases h;exact Nat.le_refl _)⟩
  unfold zO;rw[hl,<-hv];exact hown'
theorem zO.noneN {base:Nat} {w:World} {cap:Nat} {zs:List Int} (h:zO base w none cap zs):zs.length=0/\cap=0:=by
 rcases h.2 with h2|⟨g,c,cur,hv,-⟩
 ·have:=h2.1;simp at this;exact ⟨by rw[this.1];rfl,this.2⟩
 cases hv
theorem KU {B E:Nat} (w:World) (K:Nat) (n:NN) (T F:List Int) (h:tB B E w K n T F):Calls Tryz.prog 15 #[(qP K)] w (lA w T):=by
 obtain ⟨aA,cA,H1,H2,D1,D2,E1,E2,aT,cT,gF,hP⟩:=h;have y3:=hP.blk.cell (k:=3) rfl;simp only[List.getElem_toArray,List.getElem_cons_zero,List.getElem_cons_succ]at y3
 have hlen:T.length<=96:=by have:=hP.lT;have:=hP.lF;have:=hP.sound.most;have:=hP.sound.nodes;omega
 have hC:=zZ (jG aT T T.length cT w rfl (by omega) (fun e=>by subst e;exact hP.tok.noneN) hP.tok.at);generalize aT=ad at *;generalize cT=c at *;clear hP
 go_enter Tryz.func15,Tryz.ntmps15
 go_wp2_with (go_at_call 31;(with_reducible refine hC.out.mono ?_);rintro e w' ⟨a',cap',rfl,h1,h2⟩;have R1:=zZ h1;have R2:=zZ h2;clear h1 h2)
 go_ret
 exact ⟨_,_,rfl,R1.out,R2.out⟩
theorem XM {B E:Nat} (w:World) (K:Nat) (n:NN) (T F:List Int) (h:tB B E w K n T F):Calls Tryz.prog 10 #[(qP K)] w (lA w F):=by
 obtain ⟨aA,cA,H1,H2,D1,D2,E1,E2,aT,cT,gF,hP⟩:=h;have y3:=hP.blk.cell (k:=4) rfl;simp only[List.getElem_toArray,List.getElem_cons_zero,List.getElem_cons_succ]at y3
 have hlen:F.length<=96:=by have:=hP.lT;have:=hP.lF;have:=hP.sound.most;have:=hP.sound.nodes;omega
 have hC:=zZ (jG (some ⟨gF,0,none⟩) F F.length n.nodes.toNat w rfl (by omega) (fun e=>by cases e) hP.fir.at);rw[hP.lF]at hC;generalize n.nodes.toNat=c at *;clear hP
 go_enter Tryz.func10,Tryz.ntmps10
 go_wp2_with (go_at_call 31;(with_reducible refine hC.out.mono ?_);rintro e w' ⟨a',cap',rfl,h1,h2⟩;have R1:=zZ h1;have R2:=zZ h2;clear h1 h2)
 go_ret
 exact ⟨_,_,rfl,R1.out,R2.out⟩
theorem QO (x:Int):IntKind.i64.wrap x=wrap64 x:=by rw[IntKind.wrap_i64];unfold wrap64;rfl
theorem zWD {B E:Nat} (w:World) (K:Nat) (n:NN) (T F:List Int) (h:tB B E w K n T F) (v:Int) (hv:xT n v=true):Calls Tryz.prog 33 #[(qP K),.int .i64 v] w fun e w'=>e=.returned (.tuple #[])/\tB B E w' K n (wN n T v) (xS F v)/\uA B E w w':=by
 obtain ⟨aA,cA,H1,H2,D1,D2,E1,E2,aT,cT,gF,hP⟩:=h;have hv:0<=v/\v<n.nodes:=of_decide_eq_true hv;obtain ⟨vn,rfl⟩:∃k:Nat,v=(k:Int):=⟨v.toNat,by omega⟩
 have hvn:vn<n.nodes.toNat:=by omega
 unfold wN;have IA:=zZ (fun (W:World) (T' F':List Int) (hS:cX B E W K n T' F' aA cA H1 H2 D1 D2 E1 E2 aT cT gF)=>aZ W K n T' F' aA cA H1 H2 D1 D2 E1 E2 aT cT gF hS vn hvn);have HI:=zZ (fun (W:World) (T':List Int) (hS:cX B E W K n T' F aA cA H1 H2 D1 D2 E1 E2 aT cT gF)=>(hS.ins vn hvn).2);have NI:=zZ (fun q (hq:q<(yR n vn).length)=>vB (p:=lR vn) (A:=n.arcs) (q:=n.arcs.length) (k:=q) hq);have OA:=zZ (fun (W:World) (T' F':List Int) (hS:cX B E W K n T' F' aA cA H1 H2 D1 D2 E1 E2 aT cT gF)=>QP W K n T' F' aA cA H1 H2 D1 D2 E1 E2 aT cT gF hS vn hvn);have HO:=zZ (fun (W:World) (T':List Int) (hS:cX B E W K n T' F aA cA H1 H2 D1 D2 E1 E2 aT cT gF)=>(hS.outs vn hvn).2);have NO:=zZ (fun q (hq:q<(xW n vn).length)=>vB (p:=wO vn) (A:=n.arcs) (q:=n.arcs.length) (k:=q) hq);have RLI:(yR n vn).length<=96:=Nat.le_trans (mU _ _ _) hP.sound.most;have RLO:(xW n vn).length<=96:=Nat.le_trans (mU _ _ _) hP.sound.most;have HP:=zZ hP;have hmost:=hP.sound.most;have hnn:=(wJ hP.sound).2;clear hP hv;obtain ⟨RI,hRI⟩:∃R,yR n vn=R:=⟨_,rfl⟩;obtain ⟨RO,hRO⟩:∃R,xW n vn=R:=⟨_,rfl⟩;have hRI':yT (lR vn) n.arcs n.arcs.length=RI:=hRI;have hRO':yT (wO vn) n.arcs n.arcs.length=RO:=hRO;rw[hRI']at NI;rw[hRO']at NO;rw[hRI]at IA HI NI RLI ⊢;rw[hRO]at OA HO NO RLO ⊢;obtain ⟨MI,hMI⟩:∃M,RI.length=M:=⟨_,rfl⟩;obtain ⟨MO,hMO⟩:∃M,RO.length=M:=⟨_,rfl⟩;rw[hMI]at IA NI RLI ⊢;rw[hMO]at OA NO RLO ⊢;clear hRI hRI' hRO hRO';obtain ⟨Id,hId⟩:∃d,D1 vn=d:=⟨_,rfl⟩;obtain ⟨Od,hOd⟩:∃d,D2 vn=d:=⟨_,rfl⟩;rw[hId]at IA HI;rw[hOd]at OA HO;clear hId hOd;have IA0:=zZ (IA.out w _ _ HP.out);generalize E1 vn=Ic at *;generalize E2 vn=Oc at *;clear IA
 go_enter Tryz.func33,Tryz.ntmps33
 go_wp2_with (go_at_call 61;(with_reducible refine IA0.out.mono ?_);rintro e w' ⟨rfl,hw'⟩;rw[hw'];clear hw' w')
 clear IA0
 go_loopg [14] MI (fun gk u wr=>∃q:Nat,q<=MI/\gk=MI-q/\u=.int .i64 (q:Int)/\cX B E wr K n (uJ n.arcs RI T q) F aA cA H1 H2 D1 D2 E1 E2 aT cT gF/\uA B E w wr)
 case atStart=>exact ⟨0,Nat.zero_le _,rfl,rfl,HP.out,uA.refl _ _ _⟩
 case round=>
  clear HP;obtain ⟨q,hq,rfl,rfl,hS,hB⟩:=hrel;have HS:=zZ hS;have HB:=zZ hB;clear hS hB
  by_cases hlt:q<MI
  ·have hki:(q:Int)<(MI:Int):=by omega
   have hRw:At wr Id RI:=(HI.out wr _ HS.out)
   rcases hRw with e|⟨rb,ro,rfl,hc⟩
   ·rw [e]at hMI;simp at hMI;omega
   have c0:=hc q (by omega);obtain ⟨ix,hi,hil,-⟩:=NI.out q hlt;rw[hi]at c0;have hP1:=HS.out;have hlen:(uJ n.arcs RI T q).length=n.arcs.length:=hP1.lT
   have US:uJ n.arcs RI T (q+1)=(uJ n.arcs RI T q).set ix (wrap64 (zS (uJ n.arcs RI T q) ix-(zU n.arcs ix).k)):=by
    show (uJ n.arcs RI T q).set (zS RI q).toNat _=_;rw[hi,Int.toNat_natCast]
   rcases hP1.arcs with e|⟨ab,ao,rfl,hca⟩
   ·rw [e]at hil;simp at hil
   obtain ⟨-,-,c2',c3',-⟩:=hca ix hil;have c3:=c3';clear c2' c3';obtain ⟨gT,rfl,-,-⟩:=hP1.tok.there (by omega)
   rcases hP1.tok.at with e|⟨tb,tof,et,cT'⟩
   ·rw [e]at hlen;simp at hlen;omega
   obtain ⟨rfl,rfl⟩:gT=tb/\0=tof:=by simp at et;exact ⟨et.1,et.2⟩
   have c5:=cT' ix (by omega);rw[Nat.zero_add]at c5;have z0:=hP1.blk.cell (k:=0) rfl;have z3:=hP1.blk.cell (k:=3) rfl;simp only[List.getElem_toArray,List.getElem_cons_zero,List.getElem_cons_succ]at z0 z3
   have hm1:ix<(uJ n.arcs RI T q).length:=by omega
   have hm2:ix<n.arcs.length:=hil
   have fz:=zZ fun (W:World) (hb:Below wr.heap.size wr W)=>(hP1.below hb).tok.fz ix
   have NX:Hid (∀ W,Below wr.heap.size wr W->cX B E (W.setCell ⟨gT,ix,none⟩ (.int .i64 (wrap64 (zS (uJ n.arcs RI T q) ix-(zU n.arcs ix).k)))) K n (uJ n.arcs RI T (q+1)) F (some ⟨ab,ao,none⟩) cA H1 H2 D1 D2 E1 E2 (some ⟨gT,0,none⟩) cT gF):=fun W hb=>by
    rw[US];exact (hP1.below hb).setT (fS _)
   have MX:Hid (∀ W u,Below wr.heap.size wr W->uA B E w (W.setCell ⟨gT,ix,none⟩ u)):=fun W u hb=>(HB.out.trans (uA.of_below hb)).trans (uA.set W ix u ⟨(hP1.iT _ rfl).1,(hP1.iT _ rfl).2.1⟩)
   generalize n.arcs.length=al at *;generalize (uJ n.arcs RI T q).length=tl at *;generalize zS (uJ n.arcs RI T q) ix=x at *;generalize (zU n.arcs ix).k=y at *;clear hca hc cT' et hP1 hi US hlen
   go_upto_region 3 with fail
   refine yU 17 (fun i u v=>match i with
    |0=>v=(qP K)
    |1=>v=(qP K)
    |2=>v=.pointer (some ⟨K,3,none⟩)
    |3=>v=.slice (some ⟨gT,0,none⟩) tl cT
    |4=>v=.int .i64 (ix:Int)
    |5=>v=.pointer (some ⟨gT,ix,none⟩)
    |6=>v=.int .i64 x
    |7=>v=(qP K)
    |8=>v=(qP K)
    |9=>v=(qP K)
    |10=>v=(qP K)
    |11=>v=.slice (some ⟨ab,ao,none⟩) al cA
    |12=>v=.int .i64 (ix:Int)
    |13=>v=.pointer (some ⟨ab,ao+ix*5,none⟩)
    |14=>v=.pointer (some ⟨ab,ao+ix*5+3,none⟩)
    |15=>v=.int .i64 y
    |16=>v=.int .i64 (wrap64 (x-y))
    |_=>True) (by kernel_rfl) (by kernel_rfl) (by kernel_rfl) (by kernel_rfl) ?_ ?_ ?_
   ·intro i w v w' h hb
    match i,h with
    |0,h=>exact h
    |1,h=>exact h
    |2,h=>exact h
    |3,h=>exact h
    |4,h=>exact h
    |5,h=>exact h
    |6,h=>exact h
    |7,h=>exact h
    |8,h=>exact h
    |9,h=>exact h
    |10,h=>exact h
    |11,h=>exact h
    |12,h=>exact h
    |13,h=>exact h
    |14,h=>exact h
    |15,h=>exact h
    |16,h=>exact h
    |_+17,_=>trivial
   ·intro i o ρ w' hi ho hb hc hf hfr zX
    have k0:=zW hb z0;have k3:=zW hb z3;have kT:=zW hb c5;have kA:=zW hb c3
    match i,hi with
    |0,_=>
     simp only[qS]at ho;subst ho;have ts: ρ (.tmp 0)=(qP K):=(qR hfr 0);simp[go_sem,ts];exact qB
    |1,_=>
     simp only[qS]at ho;subst ho;have t0: ρ (.tmp 18)=(qP K):=(qH zX 0 18);simp[go_sem,t0];exact qB
    |2,_=>
     simp only[qS]at ho;subst ho;have t0: ρ (.tmp 19)=(qP K):=(qH zX 1 19);simp[go_sem,t0];exact qB
    |3,_=>
     simp only[qS]at ho;subst ho;have ts: ρ (.tmp 20)=.pointer (some ⟨K,3,none⟩):=(qH zX 2 20);simp[go_sem,ts,k3];exact qB
    |4,_=>
     simp only[qS]at ho;subst ho;have ts: ρ (.tmp 5)=.int .i64 (ix:Int):=(qR hfr 5);simp[go_sem,ts];exact qB
    |5,_=>
     simp only[qS]at ho;subst ho;have t0: ρ (.tmp 21)=.slice (some ⟨gT,0,none⟩) tl cT:=(qH zX 3 21);have t1: ρ (.tmp 22)=.int .i64 (ix:Int):=(qH zX 4 22);simp[go_sem,t0,t1,hm1];exact qB
    |6,_=>
     simp only[qS]at ho;subst ho;have ts: ρ (.tmp 23)=.pointer (some ⟨gT,ix,none⟩):=(qH zX 5 23);simp[go_sem,ts,kT];exact qB
    |7,_=>
     simp only[qS]at ho;subst ho;have ts: ρ (.tmp 0)=(qP K):=(qR hfr 0);simp[go_sem,ts];exact qB
    |8,_=>
     simp only[qS]at ho;subst ho;have t0: ρ (.tmp 25)=(qP K):=(qH zX 7 25);simp[go_sem,t0];exact qB
    |9,_=>
     simp only[qS]at ho;subst ho;have t0: ρ (.tmp 26)=(qP K):=(qH zX 8 26);simp[go_sem,t0];exact qB
    |10,_=>
     simp only[qS]at ho;subst ho;have t0: ρ (.tmp 27)=(qP K):=(qH zX 9 27);simp[go_sem,t0];exact qB
    |11,_=>
     simp only[qS]at ho;subst ho;have ts: ρ (.tmp 28)=(qP K):=(qH zX 10 28);simp[go_sem,ts,k0];exact qB
    |12,_=>
     simp only[qS]at ho;subst ho;have ts: ρ (.tmp 5)=.int .i64 (ix:Int):=(qR hfr 5);simp[go_sem,ts];exact qB
    |13,_=>
     simp only[qS]at ho;subst ho;have t0: ρ (.tmp 29)=.slice (some ⟨ab,ao,none⟩) al cA:=(qH zX 11 29);have t1: ρ (.tmp 30)=.int .i64 (ix:Int):=(qH zX 12 30);simp[go_sem,t0,t1,hm2];exact qB
    |14,_=>
     simp only[qS]at ho;subst ho;have t0: ρ (.tmp 31)=.pointer (some ⟨ab,ao+ix*5,none⟩):=(qH zX 13 31);simp[go_sem,t0];exact qB
    |15,_=>
     simp only[qS]at ho;subst ho;have ts: ρ (.tmp 32)=.pointer (some ⟨ab,ao+ix*5+3,none⟩):=(qH zX 14 32);simp[go_sem,ts,kA];exact qB
    |16,_=>
     simp only[qS]at ho;subst ho;have t0: ρ (.tmp 24)=.int .i64 x:=(qH zX 6 24);have t1: ρ (.tmp 33)=.int .i64 y:=(qH zX 15 33);simp[go_sem,t0,t1,QO];exact qB
    |k+17,h=>exact absurd h (by omega)
   intro V w9 q9 hS;have e0:V 0=(qP K):=hS 0 (by decide);have e1:V 1=(qP K):=hS 1 (by decide);have e2:V 2=.pointer (some ⟨K,3,none⟩):=hS 2 (by decide);have e3:V 3=.slice (some ⟨gT,0,none⟩) tl cT:=hS 3 (by decide);have e4:V 4=.int .i64 (ix:Int):=hS 4 (by decide);have e5:V 5=.pointer (some ⟨gT,ix,none⟩):=hS 5 (by decide);have e6:V 6=.int .i64 x:=hS 6 (by decide);have e7:V 7=(qP K):=hS 7 (by decide);have e8:V 8=(qP K):=hS 8 (by decide);have e9:V 9=(qP K):=hS 9 (by decide);have e10:V 10=(qP K):=hS 10 (by decide);have e11:V 11=.slice (some ⟨ab,ao,none⟩) al cA:=hS 11 (by decide);have e12:V 12=.int .i64 (ix:Int):=hS 12 (by decide);have e13:V 13=.pointer (some ⟨ab,ao+ix*5,none⟩):=hS 13 (by decide);have e14:V 14=.pointer (some ⟨ab,ao+ix*5+3,none⟩):=hS 14 (by decide);have e15:V 15=.int .i64 y:=hS 15 (by decide);have e16:V 16=.int .i64 (wrap64 (x-y)):=hS 16 (by decide);simp only[List.drop_succ_cons,List.drop_zero,List.take_succ_cons,List.take_zero,yP,e0,e1,e2,e3,e4,e5,e6,e7,e8,e9,e10,e11,e12,e13,e14,e15,e16];clear hS e0 e1 e2 e3 e4 e5 e6 e7 e8 e9 e10 e11 e12 e13 e14 e15 e16 V;have c9:=zW q9 c5;have f9:=fz.out w9 q9;have N9:=zZ (NX.out w9 q9);have M9:=zZ (MX.out w9 (.int .i64 (wrap64 (x-y))) q9);clear q9 fz NX MX
   go_wp2
   go_roundg (MI-(q+1))
   case measure=>omega
   case rel=>exact ⟨q+1,by omega,rfl,by go_num,N9.out,M9.out⟩
  have ek:q=MI:=by omega
  subst ek
  have hki:¬(q:Int)<(q:Int):=by omega
  have OA0:=zZ (OA.out wr _ _ HS.out);clear OA;obtain ⟨T1,hT1⟩:∃T1,uJ n.arcs RI T q=T1:=⟨_,rfl⟩;rw[hT1]at HS;obtain ⟨wa,hwa⟩:∃wa,wr=wa:=⟨_,rfl⟩;rw[hwa]at HS HB OA0 ⊢;clear hwa HI;have HT1:=zZ hT1;clear hT1
  go_wp2_with (go_at_call 62;(with_reducible refine OA0.out.mono ?_);rintro e w' ⟨rfl,hw'⟩;rw[hw'];clear hw' w')
  clear OA0
  go_loopg [43] MO (fun gk u wr=>∃q:Nat,q<=MO/\gk=MO-q/\u=.int .i64 (q:Int)/\cX B E wr K n (uI n.arcs RO T1 q) F aA cA H1 H2 D1 D2 E1 E2 aT cT gF/\uA B E w wr)
  case atStart=>exact ⟨0,Nat.zero_le _,rfl,rfl,HS.out,HB.out⟩
  case round=>
   clear HS HB;obtain ⟨q,hq,rfl,rfl,hS,hB⟩:=hrel;have HS:=zZ hS;have HB:=zZ hB;clear hS hB
   by_cases hlt:q<MO
   ·have hki:(q:Int)<(MO:Int):=by omega
    have hRw:At wr Od RO:=(HO.out wr _ HS.out)
    rcases hRw with e|⟨rb,ro,rfl,hc⟩
    ·rw [e]at hMO;simp at hMO;omega
    have c0:=hc q (by omega);obtain ⟨ix,hi,hil,-⟩:=NO.out q hlt;rw[hi]at c0;have hP1:=HS.out;have hlen:(uI n.arcs RO T1 q).length=n.arcs.length:=hP1.lT
    have US:uI n.arcs RO T1 (q+1)=(uI n.arcs RO T1 q).set ix (wrap64 (zS (uI n.arcs RO T1 q) ix+(zU n.arcs ix).g)):=by
     show (uI n.arcs RO T1 q).set (zS RO q).toNat _=_;rw[hi,Int.toNat_natCast]
    rcases hP1.arcs with e|⟨ab,ao,rfl,hca⟩
    ·rw [e]at hil;simp at hil
    obtain ⟨-,-,c2',c3',-⟩:=hca ix hil;have c3:=c2';clear c2' c3';obtain ⟨gT,rfl,-,-⟩:=hP1.tok.there (by omega)
    rcases hP1.tok.at with e|⟨tb,tof,et,cT'⟩
    ·rw [e]at hlen;simp at hlen;omega
    obtain ⟨rfl,rfl⟩:gT=tb/\0=tof:=by simp at et;exact ⟨et.1,et.2⟩
    have c5:=cT' ix (by omega);rw[Nat.zero_add]at c5;have z0:=hP1.blk.cell (k:=0) rfl;have z3:=hP1.blk.cell (k:=3) rfl;simp only[List.getElem_toArray,List.getElem_cons_zero,List.getElem_cons_succ]at z0 z3
    have hm1:ix<(uI n.arcs RO T1 q).length:=by omega
    have hm2:ix<n.arcs.length:=hil
    have fz:=zZ fun (W:World) (hb:Below wr.heap.size wr W)=>(hP1.below hb).tok.fz ix
    have NX:Hid (∀ W,Below wr.heap.size wr W->cX B E (W.setCell ⟨gT,ix,none⟩ (.int .i64 (wrap64 (zS (uI n.arcs RO T1 q) ix+(zU n.arcs ix).g)))) K n (uI n.arcs RO T1 (q+1)) F (some ⟨ab,ao,none⟩) cA H1 H2 D1 D2 E1 E2 (some ⟨gT,0,none⟩) cT gF):=fun W hb=>by
     rw[US];exact (hP1.below hb).setT (fS _)
    have MX:Hid (∀ W u,Below wr.heap.size wr W->uA B E w (W.setCell ⟨gT,ix,none⟩ u)):=fun W u hb=>(HB.out.trans (uA.of_below hb)).trans (uA.set W ix u ⟨(hP1.iT _ rfl).1,(hP1.iT _ rfl).2.1⟩)
    generalize n.arcs.length=al at *;generalize (uI n.arcs RO T1 q).length=tl at *;generalize zS (uI n.arcs RO T1 q) ix=x at *;generalize (zU n.arcs ix).g=y at *;clear hca hc cT' et hP1 hi US hlen
    go_upto_region 8 with fail
    refine yU 17 (fun i u v=>match i with
     |0=>v=(qP K)
     |1=>v=(qP K)
     |2=>v=.pointer (some ⟨K,3,none⟩)
     |3=>v=.slice (some ⟨gT,0,none⟩) tl cT
     |4=>v=.int .i64 (ix:Int)
     |5=>v=.pointer (some ⟨gT,ix,none⟩)
     |6=>v=.int .i64 x
     |7=>v=(qP K)
     |8=>v=(qP K)
     |9=>v=(qP K)
     |10=>v=(qP K)
     |11=>v=.slice (some ⟨ab,ao,none⟩) al cA
     |12=>v=.int .i64 (ix:Int)
     |13=>v=.pointer (some ⟨ab,ao+ix*5,none⟩)
     |14=>v=.pointer (some ⟨ab,ao+ix*5+2,none⟩)
     |15=>v=.int .i64 y
     |16=>v=.int .i64 (wrap64 (x+y))
     |_=>True) (by kernel_rfl) (by kernel_rfl) (by kernel_rfl) (by kernel_rfl) ?_ ?_ ?_
    ·intro i w v w' h hb
     match i,h with
     |0,h=>exact h
     |1,h=>exact h
     |2,h=>exact h
     |3,h=>exact h
     |4,h=>exact h
     |5,h=>exact h
     |6,h=>exact h
     |7,h=>exact h
     |8,h=>exact h
     |9,h=>exact h
     |10,h=>exact h
     |11,h=>exact h
     |12,h=>exact h
     |13,h=>exact h
     |14,h=>exact h
     |15,h=>exact h
     |16,h=>exact h
     |_+17,_=>trivial
    ·intro i o ρ w' hi ho hb hc hf hfr zX
     have k0:=zW hb z0;have k3:=zW hb z3;have kT:=zW hb c5;have kA:=zW hb c3
     match i,hi with
     |0,_=>
      simp only[qS]at ho;subst ho;have ts: ρ (.tmp 0)=(qP K):=(qR hfr 0);simp[go_sem,ts];exact qB
     |1,_=>
      simp only[qS]at ho;subst ho;have t0: ρ (.tmp 47)=(qP K):=(qH zX 0 47);simp[go_sem,t0];exact qB
     |2,_=>
      simp only[qS]at ho;subst ho;have t0: ρ (.tmp 48)=(qP K):=(qH zX 1 48);simp[go_sem,t0];exact qB
     |3,_=>
      simp only[qS]at ho;subst ho;have ts: ρ (.tmp 49)=.pointer (some ⟨K,3,none⟩):=(qH zX 2 49);simp[go_sem,ts,k3];exact qB
     |4,_=>
      simp only[qS]at ho;subst ho;have ts: ρ (.tmp 7)=.int .i64 (ix:Int):=(qR hfr 7);simp[go_sem,ts];exact qB
     |5,_=>
      simp only[qS]at ho;subst ho;have t0: ρ (.tmp 50)=.slice (some ⟨gT,0,none⟩) tl cT:=(qH zX 3 50);have t1: ρ (.tmp 51)=.int .i64 (ix:Int):=(qH zX 4 51);simp[go_sem,t0,t1,hm1];exact qB
     |6,_=>
      simp only[qS]at ho;subst ho;have ts: ρ (.tmp 52)=.pointer (some ⟨gT,ix,none⟩):=(qH zX 5 52);simp[go_sem,ts,kT];exact qB
     |7,_=>
      simp only[qS]at ho;subst ho;have ts: ρ (.tmp 0)=(qP K):=(qR hfr 0);simp[go_sem,ts];exact qB
     |8,_=>
      simp only[qS]at ho;subst ho;have t0: ρ (.tmp 54)=(qP K):=(qH zX 7 54);simp[go_sem,t0];exact qB
     |9,_=>
      simp only[qS]at ho;subst ho;have t0: ρ (.tmp 55)=(qP K):=(qH zX 8 55);simp[go_sem,t0];exact qB
     |10,_=>
      simp only[qS]at ho;subst ho;have t0: ρ (.tmp 56)=(qP K):=(qH zX 9 56);simp[go_sem,t0];exact qB
     |11,_=>
      simp only[qS]at ho;subst ho;have ts: ρ (.tmp 57)=(qP K):=(qH zX 10 57);simp[go_sem,ts,k0];exact qB
     |12,_=>
      simp only[qS]at ho;subst ho;have ts: ρ (.tmp 7)=.int .i64 (ix:Int):=(qR hfr 7);simp[go_sem,ts];exact qB
     |13,_=>
      simp only[qS]at ho;subst ho;have t0: ρ (.tmp 58)=.slice (some ⟨ab,ao,none⟩) al cA:=(qH zX 11 58);have t1: ρ (.tmp 59)=.int .i64 (ix:Int):=(qH zX 12 59);simp[go_sem,t0,t1,hm2];exact qB
     |14,_=>
      simp only[qS]at ho;subst ho;have t0: ρ (.tmp 60)=.pointer (some ⟨ab,ao+ix*5,none⟩):=(qH zX 13 60);simp[go_sem,t0];exact qB
     |15,_=>
      simp only[qS]at ho;subst ho;have ts: ρ (.tmp 61)=.pointer (some ⟨ab,ao+ix*5+2,none⟩):=(qH zX 14 61);simp[go_sem,ts,kA];exact qB
     |16,_=>
      simp only[qS]at ho;subst ho;have t0: ρ (.tmp 53)=.int .i64 x:=(qH zX 6 53);have t1: ρ (.tmp 62)=.int .i64 y:=(qH zX 15 62);simp[go_sem,t0,t1,QO];exact qB
     |k+17,h=>exact absurd h (by omega)
    intro V w9 q9 hS;have e0:V 0=(qP K):=hS 0 (by decide);have e1:V 1=(qP K):=hS 1 (by decide);have e2:V 2=.pointer (some ⟨K,3,none⟩):=hS 2 (by decide);have e3:V 3=.slice (some ⟨gT,0,none⟩) tl cT:=hS 3 (by decide);have e4:V 4=.int .i64 (ix:Int):=hS 4 (by decide);have e5:V 5=.pointer (some ⟨gT,ix,none⟩):=hS 5 (by decide);have e6:V 6=.int .i64 x:=hS 6 (by decide);have e7:V 7=(qP K):=hS 7 (by decide);have e8:V 8=(qP K):=hS 8 (by decide);have e9:V 9=(qP K):=hS 9 (by decide);have e10:V 10=(qP K):=hS 10 (by decide);have e11:V 11=.slice (some ⟨ab,ao,none⟩) al cA:=hS 11 (by decide);have e12:V 12=.int .i64 (ix:Int):=hS 12 (by decide);have e13:V 13=.pointer (some ⟨ab,ao+ix*5,none⟩):=hS 13 (by decide);have e14:V 14=.pointer (some ⟨ab,ao+ix*5+2,none⟩):=hS 14 (by decide);have e15:V 15=.int .i64 y:=hS 15 (by decide);have e16:V 16=.int .i64 (wrap64 (x+y)):=hS 16 (by decide);simp only[List.drop_succ_cons,List.drop_zero,List.take_succ_cons,List.take_zero,yP,e0,e1,e2,e3,e4,e5,e6,e7,e8,e9,e10,e11,e12,e13,e14,e15,e16];clear hS e0 e1 e2 e3 e4 e5 e6 e7 e8 e9 e10 e11 e12 e13 e14 e15 e16 V;have c9:=zW q9 c5;have f9:=fz.out w9 q9;have N9:=zZ (NX.out w9 q9);have M9:=zZ (MX.out w9 (.int .i64 (wrap64 (x+y))) q9);clear q9 fz NX MX
    go_wp2
    go_roundg (MO-(q+1))
    case measure=>omega
    case rel=>exact ⟨q+1,by omega,rfl,by go_num,N9.out,M9.out⟩
   have ek:q=MO:=by omega
   subst ek
   have hki:¬(q:Int)<(q:Int):=by omega
   have hP1:=HS.out;obtain ⟨T2,hT2⟩:∃T2,uI n.arcs RO T1 q=T2:=⟨_,rfl⟩;rw[hT2]at hP1;have HT2:=zZ hT2;have z4:=hP1.blk.cell (k:=4) rfl;simp only[List.getElem_toArray,List.getElem_cons_zero,List.getElem_cons_succ]at z4
   rcases hP1.fir.at with e|⟨tb,tof,et,cF⟩
   ·have:=hP1.lF;rw[e]at this;simp at this;omega
   obtain ⟨rfl,rfl⟩:gF=tb/\0=tof:=by simp at et;exact ⟨et.1,et.2⟩
   have c5:=cF vn (by have:=hP1.lF;omega);rw[Nat.zero_add]at c5;have hm1:vn<n.nodes.toNat:=hvn;have f9:=hP1.fir.fz vn
   have eF:F.set vn (wrap64 (zS F vn+1))=xS F (vn:Int):=by unfold xS;rw[Int.toNat_natCast]
   have N9:Hid (tB B E (wr.setCell ⟨gF,vn,none⟩ (.int .i64 (wrap64 (zS F vn+1)))) K n T2 (xS F (vn:Int))):=by
    have h1:=hP1.setF (i:=vn) (x:=wrap64 (zS F vn+1)) (fS _);rw[eF]at h1;exact ⟨_,_,_,_,_,_,_,_,_,_,_,h1⟩
   have M9:=zZ (HB.out.trans (uA.set wr vn (.int .i64 (wrap64 (zS F vn+1))) hP1.iF));generalize zS F vn=x at *;generalize n.nodes.toNat=Nn at *;have hwx:=QO (x+1);clear hP1 et cF eF hT2 HS HB HO NO NI
   go_wp2
   refine bodyPost_end (v:=.tuple #[]) (by simp[results,Tryz.results33,go_sem]) rfl ?_
   rw[HT1.out,HT2.out];exact ⟨rfl,N9.out,M9.out⟩
theorem QN {w:World} {a:Option Addr} {zs:List Int} (h:At w a zs) (hne:zs≠[]) {x:Addr} (hx:a=some x):x.block<w.heap.size:=by
 rcases h with h|⟨b,off,e,hc⟩
 ·exact absurd h hne
 rw[e]at hx
 cases hx
 have hl:0<zs.length:=List.length_pos_iff.2 hne;exact block_lt_of_cell (hc 0 hl)
theorem kZ {B E:Nat} (w:World) (K:Nat) (n:NN) (T F:List Int) (h:tB B E w K n T F) (a:Option Addr) (c:Nat) (zs:List Int) (hz:At w a zs) (hl:zs.length<=4611686018427387904) (hK:∀x,a=some x->zs≠[]->x.block<B\/E<=x.block):Calls Tryz.prog 11 #[(qP K),.slice a zs.length c] w fun e w'=>e=.returned (.int .i64 ((xZ n zs T F).1:Int))/\tB B E w' K n (xZ n zs T F).2.1 (xZ n zs T F).2.2/\uA B E w w':=by
 obtain ⟨R,hR⟩:∃R,xZ n zs T F=R:=⟨_,rfl⟩;rw[hR];have H0:=zZ h;have HZ:=zZ hz;obtain ⟨N,hN⟩:∃N,zs.length=N:=⟨_,rfl⟩;rw[hN]at hl ⊢;clear h hz
 go_enter Tryz.func11,Tryz.ntmps11
 go_wp2
 go_loopg [9] N (fun gk u wr=>∃(k:Nat) (T1 F1:List Int),k<=N/\gk=N-k/\u=.int .i64 (k:Int)/\tB B E wr K n T1 F1/\uA B E w wr/\R=(k+(xZ n (zs.drop k) T1 F1).1,(xZ n (zs.drop k) T1 F1).2))
 case atStart=>exact ⟨0,T,F,Nat.zero_le _,rfl,rfl,H0.out,uA.refl _ _ _,by rw[List.drop_zero,hR,Nat.zero_add]⟩
 case round=>
  clear H0;obtain ⟨k,T1,F1,hk,rfl,rfl,hS,hM,hE⟩:=hrel;have HS:=zZ hS;have HM:=zZ hM;clear hS hM
  by_cases hlt:k<N
  ·have hki:(k:Int)<(N:Int):=by omega
   have hne:zs≠[]:=fun e=>by rw[e]at hN;simp at hN;omega
   have hzr:At wr a zs:=HZ.out.keep fun x hx=>HM.out.block _ (QN HZ.out hne hx) (hK x hx hne)
   rcases hzr with e|⟨zb,zo,rfl,hc⟩
   ·rw [e]at hN;simp at hN;omega
   have c0:=hc k (by omega)
   have hdr:zs.drop k=zS zs k::zs.drop (k+1):=by
    rw[List.drop_eq_getElem_cons (by omega)];unfold zS;rw[List.getD_eq_getElem?_getD,List.getElem?_eq_getElem (by omega)];rfl
   rw[hdr]at hE;unfold xZ at hE;have MY:=zZ (FV wr K n T1 F1 HS.out (zS zs k));have FI:=zZ (fun (W:World) (hS:tB B E W K n T1 F1) (hv:xT n (zS zs k)=true)=>zWD W K n T1 F1 hS (zS zs k) hv)
   have mb:wI n T1 (zS zs k)=true->xT n (zS zs k)=true:=fun e=>by unfold wI at e;rw[Bool.and_eq_true]at e;exact e.1
   have HE:=zZ hE;clear hE hc hdr;generalize zS zs k=v at *
   cases hb:wI n T1 v with
   |false=>
    rw[hb]at MY HE
    go_wp2_with (go_at_call 32;(with_reducible refine MY.out.mono ?_);rintro e w1 ⟨rfl,b1⟩;have B1:=zZ b1;clear b1)
    go_ret
    rw[HE.out,if_neg (by decide)];exact ⟨by simp,HS.out.below B1.out,HM.out.trans (uA.of_below B1.out)⟩
   |true=>
    rw[hb]at MY HE;have hnb:=mb hb;rw[if_pos rfl]at HE;clear mb hb
    go_wp2_with (first|(go_at_call 32;(with_reducible refine MY.out.mono ?_);rintro e w1 ⟨rfl,b1⟩;have B1:=zZ b1;clear b1;have FI1:=zZ (FI.out w1 (HS.out.below B1.out) hnb))|(go_at_call 33;(with_reducible refine FI1.out.mono ?_);rintro e w2 ⟨rfl,s2,m2⟩;have S2:=zZ s2;have M2:=zZ ((HM.out.trans (uA.of_below B1.out)).trans m2);clear s2 m2))
    go_roundg (N-(k+1))
    case measure=>omega
    case rel=>exact ⟨k+1,_,_,by omega,rfl,by go_num,S2.out,M2.out,by rw[HE.out];simp;omega⟩
  have ek:k=N:=by omega
  subst ek
  have hki:¬(k:Int)<(k:Int):=by omega
  have hd:zs.drop k=[]:=List.drop_eq_nil_of_le (by omega);rw[hd]at hE;have HE:=zZ hE;clear hE hd
  go_wp2
  go_ret
  rw[HE.out];exact ⟨by simp[xZ],HS.out,HM.out⟩
def zNW (a:NA) (j:Nat):Value:=.int .i64 (match j with|0=>a.f|1=>a.t|2=>a.g|3=>a.k|_=>a.s)
def vW (a:NA):List Value:=[.int .i64 a.f,.int .i64 a.t,.int .i64 a.g,.int .i64 a.k,.int .i64 a.s]
def vA:List NA->List Value
 |[]=>[]
 |a::L=>vW a++vA L
theorem kY:∀L:List NA,(vA L).length=L.length*5
 |[]=>rfl
 |a::L=>by
  show (vW a++vA L).length=_;rw[List.length_append,kY L,List.length_cons];show 5+L.length*5=_
  omega
theorem BD (a:NA) {j:Nat} (hj:j<5):(vW a)[j]? =some (zNW a j):=by
 match j,hj with
 |0,_=>rfl
 |1,_=>rfl
 |2,_=>rfl
 |3,_=>rfl
 |4,_=>rfl
theorem fJ:∀ {L:List NA} {k j:Nat},k<L.length->j<5->(vA L)[k*5+j]? =some (zNW (zU L k) j)
 |[],k,j,hk,_=>absurd hk (Nat.not_lt_zero _)
 |a::L,0,j,_,hj=>by
  show (vW a++vA L)[0*5+j]? =_;rw[Nat.zero_mul,Nat.zero_add,List.getElem?_append_left (by show j<5;exact hj)];exact BD a hj
 |a::L,k+1,j,hk,hj=>by
  show (vW a++vA L)[(k+1)*5+j]? =_;rw[List.getElem?_append_right (by show 5<=_;omega)]
  have e:(k+1)*5+j-(vW a).length=k*5+j:=by show (k+1)*5+j-5=_;omega
  rw[e];exact fJ (Nat.lt_of_succ_lt_succ hk) hj
theorem vN.flat {w:World} {ad:Addr} {L:List NA} (h:vN w (some ad) L):∀j u,(vA L)[j]? =some u->w.cell? (ad.add j)=some u:=by
 intro j u hu
 have hj:j<L.length*5:=by rw[<- kY];exact (List.getElem?_eq_some_iff.1 hu).1
 rcases h with e|⟨b,off,e,hc⟩
 ·subst e;simp at hj
 cases e
 have hk:j / 5<L.length:=by omega
 have e1:j=j / 5*5+j % 5:=by omega
 have hr:j % 5<5:=Nat.mod_lt _ (by decide);have h1:=fJ (L:=L) hk hr;rw[<- e1,hu]at h1
 cases h1
 obtain ⟨c0,c1,c2,c3,c4⟩:=hc (j / 5) hk
 have ea:(⟨b,off,none⟩:Addr).add j=⟨b,off+j / 5*5+j % 5,none⟩:=by
  have e2:off+j / 5*5+j % 5=off+j:=by omega
  rw[e2];simp[Addr.add]
 rw[ea];clear ea e1;generalize j / 5=k at *;generalize j % 5=r at *
 match r,hr with
 |0,_=>exact c0
 |1,_=>exact c1
 |2,_=>exact c2
 |3,_=>exact c3
 |4,_=>exact c4
theorem BC (L:List NA):∀u ∈ vA L,u.oneCell'=true:=by
 induction L with
 |nil=>intro u hu;cases hu
 |cons a L ih=>
  intro u hu
  rcases List.mem_append.1 (show u ∈ vW a++vA L from hu) with h|h
  ·simp [vW]at h
   rcases h with rfl|rfl|rfl|rfl|rfl<;>rfl
  exact ih u h
theorem QM {w:World} {base n:Nat} {v:Value} {L:List NA} (h:w.ownsRow base 61 5 v n (vA L)):∃a cap,v=.slice a n cap/\vN w a L/\(∀ x,a=some x->base<=x.block/\x.block<w.heap.size):=by
 have hl:L.length=n:=by have h1:=h.1;rw[kY]at h1;omega
 rcases h.2 with ⟨hv,hn⟩|⟨g,cap,cur,hv,hg,hh,hc,hm,hs,ht⟩
 ·exact ⟨none,0,by rw[hv,hn],Or.inl (List.eq_nil_of_length_eq_zero (by omega)),fun x hx=>by cases hx⟩
 rw[hv]at h;refine ⟨some ⟨g,0,none⟩,cap,hv,Or.inr ⟨g,0,rfl,fun k hk=>?_⟩,fun x hx=>by cases hx;exact ⟨hg,(Array.getElem?_eq_some_iff.1 hh).1⟩⟩
 have key:∀j,j<5->w.cell? ⟨g,k*5+j,none⟩=some (zNW (zU L k) j):=fun j hj=>by
  rw[h.cellAt (k*5+j) (by omega),fJ hk hj]
 rw[Nat.zero_add];exact ⟨key 0 (by decide),key 1 (by decide),key 2 (by decide),key 3 (by decide),key 4 (by decide)⟩
theorem Tryz.infoArc:(Tryz.prog.info? 61).map (fun i=>(i.zero,i.size,i.bytes))=some (some (.agg #[.int .i64 0,.int .i64 0,.int .i64 0,.int .i64 0,.int .i64 0]),5,40):=by kernel_rfl
def FS (w:World) (L:List NA) (e:Ending) (w':World):Prop:=∃(a:Option Addr) (cap:Nat),e=.returned (.slice a L.length cap)/\vN w' a L/\(∀ x,a=some x->w.heap.size<=x.block/\x.block<w'.heap.size)/\Below w.heap.size w w'
theorem KS (w:World):(w.alloc (.cells #[] 61)).ownsRow w.heap.size 61 5 (.slice (some ⟨w.heap.size,0,none⟩) 0 0) 0 []:=
 ⟨rfl,.inr ⟨w.heap.size,0,#[],rfl,Nat.le_refl _,by show (w.heap.push _)[w.heap.size]? =_;simp,Nat.le_refl _,by unfold maxLen;omega,rfl,rfl⟩⟩
theorem KR (a:Option Addr) (L:List NA) (len cap:Nat) (w:World) (hl:L.length=len) (hr:len<=96) (hn:a=none->len=0/\cap=0) (h:vN w a L):
 Calls Tryz.prog 59 #[.slice a len cap] w (FS w L):=by
 obtain ⟨i0,hi,hz0,hz1,hz2⟩:=info_parts Tryz.infoArc
 cases a with
 |none=>
  obtain ⟨rfl,rfl⟩:=hn rfl;have e:L=[]:=List.eq_nil_of_length_eq_zero hl;subst e;have q0:=Lib.run_eql_slice_nil (P:=Tryz.prog) w 28 61 none 0 0 0 0 Tryz.underlying28
  go_enter Tryz.func59,Tryz.ntmps59
  go_wp2
  go_ret
  exact ⟨none,0,rfl,.inl rfl,(fun x hx=>by cases hx),Below.refl _ _⟩
 |some ad=>
  have EO:=zZ (KS w);have HA:=zZ (h.below ((Below.refl w.heap.size w).alloc (Nat.le_refl _) (.cells #[] 61)));clear h;have q0:=Lib.run_eql_slice_nil (P:=Tryz.prog) w 28 61 (some ad) len cap 0 0 Tryz.underlying28
  go_enter Tryz.func59,Tryz.ntmps59
  go_wp2_with (at_builtin;refine wpList_append_own _ rfl _ _ 28 rfl w.heap.size 61 i0 _ 5 40 Tryz.underlying28 hi hz0 hz1 hz2 rfl (by decide) _ 0 [] rfl EO.out ad len cap (vA L) rfl (by rw[kY,hl]) (vN.flat HA.out) (BC L) ?c3 ?c4 (by simp) ?_)
  case c3=>unfold maxLen;omega
  case c4=>omega
  intro v' w1 hown hgrow _
  have hown':w1.ownsRow w.heap.size 61 5 v' len (vA L):=by simpa using hown
  obtain ⟨a',cap',hv,hat',hb'⟩:=QM hown';rw[hv]
  go_wp2
  go_ret
  exact ⟨a',cap',by rw[hl];rfl,hat',hb',((Below.refl _ _).alloc (Nat.le_refl _) _).grown hgrow (by simp) (fun k h=>by cases h;exact Nat.le_refl _)⟩
structure tV (B : Nat) (w : World) (H N : Nat) (D : Nat -> Option Addr) (E : Nat -> Nat) (Y : Nat -> List Int) : Prop where
 own:∀j,j<N->zO B w (D j) (E j) (Y j)
 long:w.rowIs H 27 N (fun j=>.slice (D j) (Y j).length (E j))
 dd:∀j k x y,j<N->k<N->j≠k->D j=some x->D k=some y->x.block≠y.block
 dt:∀j x,j<N->D j=some x->x.block≠H
 low:B<=H
def XK (N H:Nat) (D:Nat->Option Addr) (k:Nat):Prop:=k=H\/∃j x,j<N/\D j=some x/\x.block=k
theorem tV.lt {B:Nat} {w:World} {H N:Nat} {D:Nat->Option Addr} {E:Nat->Nat} {Y:Nat->List Int} (h:tV B w H N D E Y) {k:Nat} (hk:XK N H D k):B<=k/\k<w.heap.size:=by
 rcases hk with rfl|⟨j,x,hj,hx,rfl⟩
 ·exact ⟨h.low,h.long.lt⟩
 exact (h.own j hj).lt x hx
theorem tV.keep {B:Nat} {w w':World} {H N:Nat} {D:Nat->Option Addr} {E:Nat->Nat} {Y:Nat->List Int} (h:tV B w H N D E Y) (hk:∀k,XK N H D k->w'.heap[k]? =w.heap[k]?):tV B w' H N D E Y:=
 ⟨fun j hj=>(h.own j hj).keep fun x hx=>hk _ (.inr ⟨j,x,hj,hx,rfl⟩),h.long.of_block (hk H (.inl rfl)),h.dd,h.dt,h.low⟩
theorem tV.below {B:Nat} {w w':World} {H N:Nat} {D:Nat->Option Addr} {E:Nat->Nat} {Y:Nat->List Int} (h:tV B w H N D E Y) (hb:Below w.heap.size w w'):tV B w' H N D E Y:=h.keep fun k hk=>hb.block k (h.lt hk).2
theorem aY {B:Nat} {w:World} {H N:Nat} (hB:B<=H) (h:w.rowIs H 27 N (fun _=>qN)):tV B w H N (fun _=>none) (fun _=>0) (fun _=>[]):=
 ⟨fun _ _=>zO.nil _ _,h,(fun _ _ _ _ _ _ _ h=>by cases h),(fun _ _ _ h=>by cases h),hB⟩
theorem tV.put {B:Nat} {wr w2:World} {H N i c:Nat} {D:Nat->Option Addr} {E:Nat->Nat} {Y:Nat->List Int} {d:Option Addr} {L:List Int} (h:tV B wr H N D E Y) (hi:i<N) (hd:zO B w2 d c L) (hk:∀k,k<wr.heap.size->(∀ y,D i=some y->y.block≠k)->w2.heap[k]? =wr.heap[k]?) (hn:∀z,d=some z->D i=some z\/wr.heap.size<=z.block):
 tV B (w2.setCell ⟨H,i,none⟩ (.slice d L.length c)) H N (oX D i d) (oX E i c) (oX Y i L):=by
 have hH:=h.long.lt
 have dH:∀z,d=some z->z.block≠H:=fun z hz=>by
  rcases hn z hz with h1|h1
  ·exact h.dt i z hi h1
  omega
 have far:∀j x z,j<N->j≠i->D j=some x->d=some z->x.block≠z.block:=fun j x z hj hji hx hz=>by
  rcases hn z hz with h1|h1
  ·exact h.dd j i x z hj hi hji hx h1
  have:=((h.own j hj).lt x hx).2;omega
 refine ⟨fun j hj=>?_,?_,fun j k x y hj hk' hjk hx hy=>?_,fun j x hj hx=>?_,h.low⟩
 ·by_cases e:j=i
  ·subst e
   rw[yN,yN,yN];exact hd.setOther (ad:=⟨H,j,none⟩) dH _
  rw[yZ e,yZ e,yZ e];refine ((h.own j hj).keep fun x hx=>hk _ ((h.own j hj).lt x hx).2 fun y hy=>(h.dd j i x y hj hi e hx hy).symm).setOther (ad:=⟨H,i,none⟩) (fun x hx=>h.dt j x hj hx) _
 ·refine ((h.long.of_block (hk H hH fun y hy=>h.dt i y hi hy)).set i _).congr fun j hj=>?_
  by_cases e:j=i
  ·subst e;rw[if_pos rfl,yN,yN,yN]
  rw[if_neg e,yZ e,yZ e,yZ e]
 ·by_cases e:j=i
  ·subst e
   rw[yN]at hx;rw[yZ (Ne.symm hjk)]at hy;exact (far k y x hk' (Ne.symm hjk) hy hx).symm
  rw[yZ e]at hx
  by_cases e2:k=i
  ·subst e2
   rw[yN]at hy;exact far j x y hj e hx hy
  rw[yZ e2]at hy;exact h.dd j k x y hj hk' hjk hx hy
 by_cases e:j=i
 ·subst e;rw[yN]at hx;exact dH x hx
 rw[yZ e]at hx;exact h.dt j x hj hx
theorem FR {N H i:Nat} {D:Nat->Option Addr} {d:Option Addr} {k:Nat} (h:XK N H (oX D i d) k):XK N H D k\/∃z,d=some z/\z.block=k:=by
 rcases h with h|⟨j,x,hj,hx,hk⟩
 ·exact .inl (.inl h)
 by_cases e:j=i
 ·subst e;rw[yN]at hx;exact .inr ⟨x,hx,hk⟩
 rw[yZ e]at hx;exact .inl (.inr ⟨j,x,hj,hx,hk⟩)
end Go.Proofs.YtpohmekkdjdhmaaGreat
