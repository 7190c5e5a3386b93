/- Texts of one chain. -/
import Derived.Test.YtpohmekkdjdhmaaGreatPartQ
import Derived.Test.YtpohmekkdjdhmaaGreatPartTopPeriods17
import Derived.Test.YtpohmekkdjdhmaaGreatPartTopPeriods40
import Derived.Test.YtpohmekkdjdhmaaGreatPartTopPeriods10
import Derived.Test.YtpohmekkdjdhmaaGreatPartTopPeriods9
import Derived.Test.YtpohmekkdjdhmaaGreatPartTopPeriods38
import Derived.Deep.SlicePairs
import Derived.SizedLaws
set_option maxRecDepth 100000
set_option maxHeartbeats 32000000
namespace Go.Proofs.YtpohmekkdjdhmaaGreat
open Go.ChangeShapes Go.WideShapes Go.ChangeAt Go.RowKit
theorem oI {x y:Nat} (hx:1<=x/\x<=9223372036854775807) (hy:1<=y/\y<=9223372036854775807) (w:World):
 Calls Tryz.prog 43 #[.int .i64 (x:Int),.int .i64 (y:Int)] w fun e w'=>e=.returned (.agg #[.int .i64 (yQ x y).1,.int .i64 (yQ x y).2])/\Below w.heap.size w w':=by
 have NW:Hid (∀ U,Calls Tryz.prog 76 #[.int .i64 (x:Int),.int .i64 (y:Int)] U fun e w'=>e=.returned (.tuple #[.agg #[.int .i64 (yQ x y).1,.int .i64 (yQ x y).2],.int .i64 0])/\Below U.heap.size U w'):=fun U=>by
  have q2:=zXK (x:Int) (y:Int) U (by omega) (by omega);obtain ⟨k1,k2⟩:=bD (x:=x) (y:=y) (by omega) (by omega);have q:=zXL (n:=(x:Int)) (d:=(y:Int)) (by omega) (by unfold vT;exact (by rw[show yK (uE x y)=true from k1,show yK (tO x y)=true from k2];rfl));unfold MM at q2;rw[q.1,q.2.1,q.2.2]at q2;exact q2
 have V0:=zZ (tL w (.int .i64 0) (.int .i64 0) 117);have B0:=zZ ((Below.refl w.heap.size w).alloc (Nat.le_refl _) (.cells #[.int .i64 0,.int .i64 0] 117));generalize (yQ x y).1=p at *;generalize (yQ x y).2=q at *
 go_enter Tryz.func43,Tryz.ntmps43
 go_wp2_with (go_at_call 76;(with_reducible refine (NW.out _).mono ?_);rintro e W1 ⟨rfl,b1⟩;have L1:=zZ (B0.out.trans (b1.mono B0.out.size));have r:=(V0.out.later b1 V0.out.lt).alloc (.cells #[.int .i64 p,.int .i64 q] 117);have d0:=r.c0;have d1:=r.c1;have f0:=r.f0;have f1:=r.f1;clear b1)
 refine bodyPost_ret (v:=.agg #[.int .i64 p,.int .i64 q]) (by simp[results,Tryz.results43,go_sem,d0,d1]) rfl ⟨rfl,?_⟩
 exact ((L1.out.alloc L1.out.size _).setCell (Nat.le_refl _) _).setCell (Nat.le_refl _) _
def rL:List Int->Bool
 |[]=>true
 |z::zs=>decide (1<=z)&&decide (z<=4096)&&rL zs
theorem oH:∀ {zs:List Int},rL zs=true↔∀k,k<zs.length->1<=zS zs k/\zS zs k<=4096
 |[]=>⟨fun _ k hk=>absurd hk (Nat.not_lt_zero _),fun _=>rfl⟩
 |z::zs=>by
  unfold rL;rw[Bool.and_eq_true,Bool.and_eq_true,decide_eq_true_eq,decide_eq_true_eq,oH]
  constructor
  ·rintro ⟨⟨h1,h2⟩,h3⟩ k hk
   match k,hk with
   |0,_=>exact ⟨h1,h2⟩
   |k+1,hk=>exact h3 k (by simp at hk;omega)
  intro h;exact ⟨h 0 (Nat.succ_pos _),fun k hk=>h (k+1) (by simp;omega)⟩
theorem jR (a:Option Addr) (zs:List Int) (len cap:Nat) (w:World) (hl:zs.length=len) (hm:len<=4611686018427387904) (h:At w a zs):
 Calls Tryz.prog 42 #[.slice a len cap] w fun e w'=>e=.returned (.bool (rL zs))/\w=w':=by
 rcases h with h|⟨b,off,rfl,hc⟩
 ·subst h
  subst hl
  go_enter Tryz.func42,Tryz.ntmps42
  go_wp2
  go_loop [7] (fun i=>i=.int .i64 0) (fun _=>0)
  case atStart=>exact rfl
  case round=>
   subst hrel
   go_wp2
   go_ret
   exact ⟨rfl,rfl⟩
 have HC:=zZ hc;have HL:=zZ hl;clear hc hl
 go_enter Tryz.func42,Tryz.ntmps42
 go_wp2
 go_loop [7] (fun i=>∃k:Nat,k<=len/\i=.int .i64 (k:Int)/\rL (zs.drop k)=rL zs) (fun i=>match i with|.int _ k=>len-k.toNat|_=>0)
 case atStart=>exact ⟨0,Nat.zero_le _,rfl,rfl⟩
 case round=>
  obtain ⟨k,hk,rfl,hs⟩:=hrel;have HS:=zZ hs;clear hs
  by_cases hlt:k<len
  ·have c0:=HC.out k (by rw[HL.out];exact hlt)
   have HD:Hid (zs.drop k=zS zs k::zs.drop (k+1)):=vD zs k (by rw[HL.out];exact hlt);generalize zS zs k=z at *
   by_cases h1:z<1
   ·have HF:Hid (rL zs=false):=by
     show _=_;rw[<- HS.out,HD.out,rL,decide_eq_false (by omega)];rfl
    go_wp2
    go_ret
    exact ⟨by rw[HF.out];rfl,rfl⟩
   by_cases h2:4096<z
   ·have HF:Hid (rL zs=false):=by
     show _=_;rw[<- HS.out,HD.out,rL,decide_eq_false (show ¬z<=4096 by omega),Bool.and_false];rfl
    go_wp2
    go_ret
    exact ⟨by rw[HF.out];rfl,rfl⟩
   have HN:Hid (rL (zs.drop (k+1))=rL zs):=by
    show _=_;rw[<- HS.out,HD.out,rL,decide_eq_true (show 1<=z by omega),decide_eq_true (show z<=4096 by omega)];rfl
   go_wp2
   go_round
   case measure=>simp;omega
   case rel=>exact ⟨k+1,by omega,by go_num,HN.out⟩
  have HF:Hid (rL zs=true):=by
   show _=_;rw[<- HS.out,List.drop_eq_nil_of_le (by rw[HL.out];omega)];rfl
  go_wp2
  go_ret
  exact ⟨by rw[HF.out];rfl,rfl⟩
def YS (f t g k v:Nat):Value:=if f=v then .tuple #[.int .i64 (t:Int),.agg #[.int .i64 (yQ g k).1,.int .i64 (yQ g k).2],.bool true] else if t=v then .tuple #[.int .i64 (f:Int),.agg #[.int .i64 (yQ k g).1,.int .i64 (yQ k g).2],.bool true] else .tuple #[.int .i64 0,.agg #[.int .i64 0,.int .i64 0],.bool false]
theorem OU (f t g k v:Nat) (s:Value) (w:World) (hg:1<=g/\g<=64) (hk:1<=k/\k<=64):
 Calls Tryz.prog 73 #[.agg #[.int .i64 (f:Int),.int .i64 (t:Int),.int .i64 (g:Int),.int .i64 (k:Int),s],.int .i64 (v:Int)] w fun e w'=>e=.returned (YS f t g k v)/\Below w.heap.size w w':=by
 have R1:=zZ (fun U=>oI (x:=g) (y:=k) (by omega) (by omega) U);have R2:=zZ (fun U=>oI (x:=k) (y:=g) (by omega) (by omega) U);have b0:=(Below.refl w.heap.size w).alloc (Nat.le_refl _) (.cells #[.int .i64 (f:Int),.int .i64 (t:Int),.int .i64 (g:Int),.int .i64 (k:Int),s] 61);have b1:=(Below.refl (w.alloc (.cells #[.int .i64 (f:Int),.int .i64 (t:Int),.int .i64 (g:Int),.int .i64 (k:Int),s] 61)).heap.size (w.alloc (.cells #[.int .i64 (f:Int),.int .i64 (t:Int),.int .i64 (g:Int),.int .i64 (k:Int),s] 61))).alloc (Nat.le_refl _) (.cells #[.int .i64 0,.int .i64 0] 117);have X0:=(zV 61 w #[.int .i64 (f:Int),.int .i64 (t:Int),.int .i64 (g:Int),.int .i64 (k:Int),s]).below b1;have B0:=zZ (b0.trans (b1.mono b0.size));have V0:=zZ (tL (w.alloc (.cells #[.int .i64 (f:Int),.int .i64 (t:Int),.int .i64 (g:Int),.int .i64 (k:Int),s] 61)) (.int .i64 0) (.int .i64 0) 117);have hs:(w.alloc (.cells #[.int .i64 (f:Int),.int .i64 (t:Int),.int .i64 (g:Int),.int .i64 (k:Int),s] 61)).heap.size=w.heap.size+1:=World.size_alloc _ _;have y0:=X0.cell (k:=0) rfl;have y1:=X0.cell (k:=1) rfl;have y2:=X0.cell (k:=2) rfl;have y3:=X0.cell (k:=3) rfl;simp only[List.getElem_toArray,List.getElem_cons_zero,List.getElem_cons_succ]at y0 y1 y2 y3;rw[hs]at V0;clear b0 b1 X0 hs;obtain ⟨RE,hRE⟩:∃R,(fun (e:Ending) (w':World)=>e=.returned (YS f t g k v)/\Below w.heap.size w w')=R:=⟨_,rfl⟩;rw[hRE];have HRE:=zZ hRE;clear hRE
 by_cases h1:f=v
 ·have EV:Hid (YS f t g k v=.tuple #[.int .i64 (t:Int),.agg #[.int .i64 (yQ g k).1,.int .i64 (yQ g k).2],.bool true]):=if_pos h1
  have RT:=R1;clear R1 R2;generalize (yQ g k).1=p at *;generalize (yQ g k).2=q at *
  have hbe:((v:Int)==(f:Int))=true:=by simp;omega
  clear h1
  go_enter Tryz.func73,Tryz.ntmps73
  go_upto_region 3 with fail
  generalize (w.alloc (.cells #[.int .i64 (f:Int),.int .i64 (t:Int),.int .i64 (g:Int),.int .i64 (k:Int),s] 61)).alloc (.cells #[.int .i64 0,.int .i64 0] 117)=W0 at *;obtain ⟨ab,hab⟩:∃q,w.heap.size=q:=⟨_,rfl⟩;rw[hab]at y0 y1 y2 y3 V0 ⊢
  refine yU 8 (fun i u v=>match i with
   |0=>v=.pointer (some ⟨ab,1,none⟩)
   |1=>v=.int .i64 (t:Int)
   |2=>v=.pointer (some ⟨ab,2,none⟩)
   |3=>v=.int .i64 (g:Int)
   |4=>v=.pointer (some ⟨ab,3,none⟩)
   |5=>v=.int .i64 (k:Int)
   |6=>v=.agg #[.int .i64 p,.int .i64 q]
   |7=>v=.int .i64 (t:Int)
   |_=>True) (by kernel_rfl) (by kernel_rfl) (by kernel_rfl) (by kernel_rfl) ?_ ?_ ?_
  ·intro i w v w' h hb
   match i,h with
   |0,h=>exact h
   |1,h=>exact h
   |2,h=>exact h
   |3,h=>exact h
   |4,h=>exact h
   |5,h=>exact h
   |6,h=>exact h
   |7,h=>exact h
   |_+8,_=>trivial
  ·intro i o ρ w' hi ho hb hc hf hfr zX
   match i,hi with
   |0,_=>
    simp only[qS]at ho;subst ho;have ts: ρ (.tmp 2)=(qP ab):=(qR hfr 2);simp[go_sem,ts];exact qB
   |1,_=>
    simp only[qS]at ho;subst ho;have ts: ρ (.tmp 12)=.pointer (some ⟨ab,1,none⟩):=(qH zX 0 12);have kc:=zW hb y1;simp[go_sem,ts,kc];exact qB
   |2,_=>
    simp only[qS]at ho;subst ho;have ts: ρ (.tmp 2)=(qP ab):=(qR hfr 2);simp[go_sem,ts];exact qB
   |3,_=>
    simp only[qS]at ho;subst ho;have ts: ρ (.tmp 14)=.pointer (some ⟨ab,2,none⟩):=(qH zX 2 14);have kc:=zW hb y2;simp[go_sem,ts,kc];exact qB
   |4,_=>
    simp only[qS]at ho;subst ho;have ts: ρ (.tmp 2)=(qP ab):=(qR hfr 2);simp[go_sem,ts];exact qB
   |5,_=>
    simp only[qS]at ho;subst ho;have ts: ρ (.tmp 16)=.pointer (some ⟨ab,3,none⟩):=(qH zX 4 16);have kc:=zW hb y3;simp[go_sem,ts,kc];exact qB
   |6,_=>
    simp only[qS]at ho;subst ho;have t0: ρ (.tmp 15)=.int .i64 (g:Int):=(qH zX 3 15);have t1: ρ (.tmp 17)=.int .i64 (k:Int):=(qH zX 5 17);simp[go_sem,t0,t1,hf];exact ⟨rfl,(RT.out w').mono fun e' w'' hh=>⟨_,hh.1,hh.2,rfl⟩⟩
   |7,_=>
    simp only[qS]at ho;subst ho;have t0: ρ (.tmp 13)=.int .i64 (t:Int):=(qH zX 1 13);simp[go_sem,t0];exact qB
  intro V w9 q9 hS;have e0:V 0=.pointer (some ⟨ab,1,none⟩):=hS 0 (by decide);have e1:V 1=.int .i64 (t:Int):=hS 1 (by decide);have e2:V 2=.pointer (some ⟨ab,2,none⟩):=hS 2 (by decide);have e3:V 3=.int .i64 (g:Int):=hS 3 (by decide);have e4:V 4=.pointer (some ⟨ab,3,none⟩):=hS 4 (by decide);have e5:V 5=.int .i64 (k:Int):=hS 5 (by decide);have e6:V 6=.agg #[.int .i64 p,.int .i64 q]:=hS 6 (by decide);have e7:V 7=.int .i64 (t:Int):=hS 7 (by decide);simp only[List.drop_succ_cons,List.drop_zero,List.take_succ_cons,List.take_zero,yP,e0,e1,e2,e3,e4,e5,e6,e7];simp only[Act.put,qU];clear hS e0 e1 e2 e3 e4 e5 e6 e7 V;have r:=V0.out.later q9 V0.out.lt;have d0:=r.c0;have d1:=r.c1;have f0:=r.f0;have f1:=r.f1;clear y0 y1 y2 y3
  go_wp2
  refine bodyPost_ret (v:=.tuple #[.int .i64 (t:Int),.agg #[.int .i64 p,.int .i64 q],.bool true]) (by simp[results,Tryz.results73,go_sem,d0,d1]) rfl ?_
  rw[<- HRE.out];exact ⟨by rw[EV.out],((B0.out.trans (q9.mono B0.out.size)).setCell (by show w.heap.size<=ab+1;rw[hab];exact Nat.le_succ _) _).setCell (by show w.heap.size<=ab+1;rw[hab];exact Nat.le_succ _) _⟩
 have hbe:((v:Int)==(f:Int))=false:=by simp;omega
 by_cases h2:t=v
 ·have EV:Hid (YS f t g k v=.tuple #[.int .i64 (f:Int),.agg #[.int .i64 (yQ k g).1,.int .i64 (yQ k g).2],.bool true]):=by show (if _ then _ else _)=_;rw[if_neg h1,if_pos h2]
  have RT:=R2;clear R1 R2;generalize (yQ k g).1=p at *;generalize (yQ k g).2=q at *
  have hbe2:((v:Int)==(t:Int))=true:=by simp;omega
  clear h1 h2
  go_enter Tryz.func73,Tryz.ntmps73
  go_upto_region 5 with fail
  generalize (w.alloc (.cells #[.int .i64 (f:Int),.int .i64 (t:Int),.int .i64 (g:Int),.int .i64 (k:Int),s] 61)).alloc (.cells #[.int .i64 0,.int .i64 0] 117)=W0 at *;obtain ⟨ab,hab⟩:∃q,w.heap.size=q:=⟨_,rfl⟩;rw[hab]at y0 y1 y2 y3 V0 ⊢
  refine yU 8 (fun i u v=>match i with
   |0=>v=(qP ab)
   |1=>v=.int .i64 (f:Int)
   |2=>v=.pointer (some ⟨ab,3,none⟩)
   |3=>v=.int .i64 (k:Int)
   |4=>v=.pointer (some ⟨ab,2,none⟩)
   |5=>v=.int .i64 (g:Int)
   |6=>v=.agg #[.int .i64 p,.int .i64 q]
   |7=>v=.int .i64 (f:Int)
   |_=>True) (by kernel_rfl) (by kernel_rfl) (by kernel_rfl) (by kernel_rfl) ?_ ?_ ?_
  ·intro i w v w' h hb
   match i,h with
   |0,h=>exact h
   |1,h=>exact h
   |2,h=>exact h
   |3,h=>exact h
   |4,h=>exact h
   |5,h=>exact h
   |6,h=>exact h
   |7,h=>exact h
   |_+8,_=>trivial
  ·intro i o ρ w' hi ho hb hc hf hfr zX
   match i,hi with
   |0,_=>
    simp only[qS]at ho;subst ho;have ts: ρ (.tmp 2)=(qP ab):=(qR hfr 2);simp[go_sem,ts];exact qB
   |1,_=>
    simp only[qS]at ho;subst ho;have ts: ρ (.tmp 23)=(qP ab):=(qH zX 0 23);have kc:=zW hb y0;simp[go_sem,ts,kc];exact qB
   |2,_=>
    simp only[qS]at ho;subst ho;have ts: ρ (.tmp 2)=(qP ab):=(qR hfr 2);simp[go_sem,ts];exact qB
   |3,_=>
    simp only[qS]at ho;subst ho;have ts: ρ (.tmp 25)=.pointer (some ⟨ab,3,none⟩):=(qH zX 2 25);have kc:=zW hb y3;simp[go_sem,ts,kc];exact qB
   |4,_=>
    simp only[qS]at ho;subst ho;have ts: ρ (.tmp 2)=(qP ab):=(qR hfr 2);simp[go_sem,ts];exact qB
   |5,_=>
    simp only[qS]at ho;subst ho;have ts: ρ (.tmp 27)=.pointer (some ⟨ab,2,none⟩):=(qH zX 4 27);have kc:=zW hb y2;simp[go_sem,ts,kc];exact qB
   |6,_=>
    simp only[qS]at ho;subst ho;have t0: ρ (.tmp 26)=.int .i64 (k:Int):=(qH zX 3 26);have t1: ρ (.tmp 28)=.int .i64 (g:Int):=(qH zX 5 28);simp[go_sem,t0,t1,hf];exact ⟨rfl,(RT.out w').mono fun e' w'' hh=>⟨_,hh.1,hh.2,rfl⟩⟩
   |7,_=>
    simp only[qS]at ho;subst ho;have t0: ρ (.tmp 24)=.int .i64 (f:Int):=(qH zX 1 24);simp[go_sem,t0];exact qB
  intro V w9 q9 hS;have e0:V 0=(qP ab):=hS 0 (by decide);have e1:V 1=.int .i64 (f:Int):=hS 1 (by decide);have e2:V 2=.pointer (some ⟨ab,3,none⟩):=hS 2 (by decide);have e3:V 3=.int .i64 (k:Int):=hS 3 (by decide);have e4:V 4=.pointer (some ⟨ab,2,none⟩):=hS 4 (by decide);have e5:V 5=.int .i64 (g:Int):=hS 5 (by decide);have e6:V 6=.agg #[.int .i64 p,.int .i64 q]:=hS 6 (by decide);have e7:V 7=.int .i64 (f:Int):=hS 7 (by decide);simp only[List.drop_succ_cons,List.drop_zero,List.take_succ_cons,List.take_zero,yP,e0,e1,e2,e3,e4,e5,e6,e7];simp only[Act.put,qU];clear hS e0 e1 e2 e3 e4 e5 e6 e7 V;have r:=V0.out.later q9 V0.out.lt;have d0:=r.c0;have d1:=r.c1;have f0:=r.f0;have f1:=r.f1;clear y0 y1 y2 y3
  go_wp2
  refine bodyPost_ret (v:=.tuple #[.int .i64 (f:Int),.agg #[.int .i64 p,.int .i64 q],.bool true]) (by simp[results,Tryz.results73,go_sem,d0,d1]) rfl ?_
  rw[<- HRE.out];exact ⟨by rw[EV.out],((B0.out.trans (q9.mono B0.out.size)).setCell (by show w.heap.size<=ab+1;rw[hab];exact Nat.le_succ _) _).setCell (by show w.heap.size<=ab+1;rw[hab];exact Nat.le_succ _) _⟩
 have EV:Hid (YS f t g k v=.tuple #[.int .i64 0,.agg #[.int .i64 0,.int .i64 0],.bool false]):=by show (if _ then _ else _)=_;rw[if_neg h1,if_neg h2]
 have hbe2:((v:Int)==(t:Int))=false:=by simp;omega
 clear h1 h2 R1 R2;have d0:=V0.out.c0;have d1:=V0.out.c1;have f0:=V0.out.f0;have f1:=V0.out.f1
 go_enter Tryz.func73,Tryz.ntmps73
 go_wp2
 refine bodyPost_ret (v:=.tuple #[.int .i64 0,.agg #[.int .i64 0,.int .i64 0],.bool false]) (by simp[results,Tryz.results73,go_sem,d0,d1]) rfl ?_
 rw[<- HRE.out];exact ⟨by rw[EV.out],B0.out⟩
def zUJ (A:List NA) (c:Nat->Nat) (j:Nat):Bool:=gN A j*c (fN A j)!=kN A j*c (tN A j)
theorem cU {A:List NA} {c:Nat->Nat} {j:Nat} :zUJ A c j=false↔jX A c j:=by unfold zUJ jX;simp
theorem OT {A:List NA} {c:Nat->Nat} {j:Nat} :zUJ A c j=true↔¬jX A c j:=by unfold zUJ jX;simp
def jB (A:List NA) (c:Nat->Nat):Option Nat:=(List.range A.length).find? (zUJ A c)
def fuI (A:List NA) (c:Nat->Nat):Int:=match jB A c with|some i=>(i:Int)|none=> -1
theorem zQF {A:List NA} {c:Nat->Nat} {i:Nat} (hi:i<A.length) (h:¬jX A c i) (hb:∀j,j<i->jX A c j):jB A c=some i:=by
 unfold jB;rw[List.find?_range_eq_some];exact ⟨OT.2 h,List.mem_range.2 hi,fun j hj=>by rw[cU.2 (hb j hj)];rfl⟩
theorem OS {A:List NA} {c:Nat->Nat} (hb:∀j,j<A.length->jX A c j):jB A c=none:=by
 unfold jB;rw[List.find?_range_eq_none];intro j hj;rw[cU.2 (hb j hj)];rfl
theorem OQ {A:List NA} {c:Nat->Nat} {i:Nat} (h:jB A c=some i):i<A.length/\¬jX A c i/\∀j,j<i->jX A c j:=by
 unfold jB at h;rw[List.find?_range_eq_some]at h;exact ⟨List.mem_range.1 h.2.1,OT.1 h.1,fun j hj=>cU.1 (by simpa using h.2.2 j hj)⟩
theorem EL {A:List NA} {c:Nat->Nat} (h:jB A c=none):∀j,j<A.length->jX A c j:=by
 unfold jB at h;rw[List.find?_range_eq_none]at h;intro j hj;exact cU.1 (by simpa using h j hj)
theorem JK {A:List NA} {c:Nat->Nat} {j:Nat} (h1:1<=c (fN A j)) (h2:1<=kN A j):((yQ (c (tN A j)) (c (fN A j))).1=(yQ (gN A j) (kN A j)).1/\(yQ (c (tN A j)) (c (fN A j))).2=(yQ (gN A j) (kN A j)).2)↔jX A c j:=by
 have v1:=uS (x:=c (tN A j)) h1;have v2:=uS (x:=gN A j) h2;have w1:=oQ (x:=c (tN A j)) h1;have w2:=oQ (x:=gN A j) h2;have p1:=(yB.1 v1).1;have p2:=(yB.1 v2).1;unfold jX;generalize c (tN A j)=t at *;generalize c (fN A j)=f at *;generalize gN A j=g at *;generalize kN A j=k at *;generalize (yQ t f).1=a at *;generalize (yQ t f).2=b at *;generalize (yQ g k).1=u at *;generalize (yQ g k).2=v at *
 constructor
 ·rintro ⟨rfl,rfl⟩
  have:((g*f:Nat):Int)*b=((k*t:Nat):Int)*b:=by
   rw[Int.natCast_mul,Int.natCast_mul]
   calc (g:Int)*(f:Int)*b=((g:Int)*b)*(f:Int):=by ac_rfl
    _=(a*(k:Int))*(f:Int):=by rw[w2]
    _=(a*(f:Int))*(k:Int):=by ac_rfl
    _=((t:Int)*b)*(k:Int):=by rw[w1]
    _=(k:Int)*(t:Int)*b:=by ac_rfl
  exact Int.ofNat_inj.1 (Int.eq_of_mul_eq_mul_right (by omega) this)
 intro h;refine oC v1 v2 ?_
 have eI:(g:Int)*(f:Int)=(k:Int)*(t:Int):=by rw[<- Int.natCast_mul,<-Int.natCast_mul,h]
 have:a*v*((f:Int)*(k:Int))=u*b*((f:Int)*(k:Int)):=by
  calc a*v*((f:Int)*(k:Int))=(a*(f:Int))*(v*(k:Int)):=by ac_rfl
   _=((t:Int)*b)*(v*(k:Int)):=by rw[w1]
   _=((k:Int)*(t:Int))*(b*v):=by ac_rfl
   _=((g:Int)*(f:Int))*(b*v):=by rw[eI]
   _=((g:Int)*v)*((f:Int)*b):=by ac_rfl
   _=(u*(k:Int))*((f:Int)*b):=by rw[w2]
   _=u*b*((f:Int)*(k:Int)):=by ac_rfl
 refine Int.eq_of_mul_eq_mul_right (fun z0=>?_) this
 rcases Int.mul_eq_zero.1 z0 with z1|z1<;>omega
theorem zZE (x y u v:Int):((x==u)=true/\(y==v)=true/\x=u/\y=v)\/((x==u)=false/\¬(x=u/\y=v))\/((x==u)=true/\(y==v)=false/\¬(x=u/\y=v)):=by
 by_cases h1:x=u
 ·by_cases h2:y=v
  ·exact .inl ⟨by simpa using h1,by simpa using h2,h1,h2⟩
  exact .inr (.inr ⟨by simpa using h1,by simpa using h2,fun h=>h2 h.2⟩)
 exact .inr (.inl ⟨by simpa using h1,fun h=>h1 h.1⟩)
structure TY (A : List NA) (N : Nat) : Prop where
 ends:∀j,j<A.length->(zU A j).f=(fN A j:Int)/\(zU A j).t=(tN A j:Int)/\(zU A j).g=(gN A j:Int)/\(zU A j).k=(kN A j:Int)/\fN A j<N/\tN A j<N/\1<=gN A j/\gN A j<=64/\1<=kN A j/\kN A j<=64
theorem yI.souB {n:NN} (h:yI n):TY n.arcs n.nodes.toNat:=⟨fun j hj=>by
 have hs:=h.arcs j hj;have h1:=hs.f;have h2:=hs.t;have h3:=hs.g;have h4:=hs.k;unfold fN tN gN kN
 refine ⟨?_,?_,?_,?_,?_,?_,?_,?_,?_,?_⟩<;>omega⟩
theorem nE (A:List NA) (N:Nat) (c:Nat->Nat) (m:Int) (a r:Option Addr) (ac rc:Nat) (w:World) (hS:TY A N) (hl:A.length<=1000) (hc:∀v,v<N->1<=c v/\c v<=9223372036854775807) (ha:vN w a A) (hr:At w r (yV N c)):
 Calls Tryz.prog 20 #[.agg #[.int .i64 m,.slice a A.length ac],.slice r N rc] w fun e w'=>e=.returned (.int .i64 (fuI A c))/\Below w.heap.size w w':=by
 have b0:=(Below.refl w.heap.size w).alloc (Nat.le_refl _) (.cells #[.int .i64 m,.slice a A.length ac] 30);have X0:=zZ (zV 30 w #[.int .i64 m,.slice a A.length ac]);have B0:=zZ b0;have HA:=zZ (ha.below b0);have HR:=zZ (hr.below b0);have HS:=zZ hS;have HC:=zZ hc;have y1:=X0.out.cell (k:=1) rfl;simp only[List.getElem_toArray,List.getElem_cons_zero,List.getElem_cons_succ]at y1;clear b0 ha hr hS hc X0;obtain ⟨RE,hRE⟩:∃R,(fun (e:Ending) (w':World)=>e=.returned (.int .i64 (fuI A c))/\Below w.heap.size w w')=R:=⟨_,rfl⟩;rw[hRE];have HRE:=zZ hRE;clear hRE
 go_enter Tryz.func20,Tryz.ntmps20
 go_upto_region 1 with fail
 generalize w.alloc (.cells #[.int .i64 m,.slice a A.length ac] 30)=W0 at *
 go_wp2
 go_loopg [10] A.length (fun gk v wr=>∃j:Nat,j<=A.length/\gk=A.length-j/\v=.int .i64 (j:Int)/\Below W0.heap.size W0 wr/\∀i,i<j->jX A c i)
 case atStart=>exact ⟨0,Nat.zero_le _,rfl,rfl,Below.refl _ _,fun i hi=>absurd hi (Nat.not_lt_zero _)⟩
 case round=>
  obtain ⟨j,hjN,rfl,rfl,hBr,hI⟩:=hrel;have BR:=zZ hBr;have HI:=zZ hI;clear hBr hI y1
  by_cases hlt:j<A.length
  ·have hki:(j:Int)<(A.length:Int):=by omega
   obtain ⟨e1,e2,e3,e4,hf,ht,g1,g2,k1,k2⟩:=HS.out.ends j hlt
   rcases HA.out.below BR.out with e|⟨nb,no,en,hcn⟩
   ·rw [e]at hlt;exact absurd hlt (Nat.not_lt_zero _)
   obtain ⟨a0,a1,a2,a3,a4⟩:=hcn j hlt;rw[e1]at a0;rw[e2]at a1;rw[e3]at a2;rw[e4]at a3;have HAR:=HR.out.below BR.out
   rcases HAR with e|⟨rb,ro,er,hcr⟩
   ·have:=yY N c
    rw[e]at this;simp at this;omega
   have rt:=hcr (tN A j) (by rw[yY];exact ht);have rf:=hcr (fN A j) (by rw[yY];exact hf);rw[vS ht]at rt;rw[vS hf]at rf;have RT1:=zZ (fun U=>oI (x:=c (tN A j)) (y:=c (fN A j)) (HC.out _ ht) (HC.out _ hf) U);have RT2:=zZ (fun U=>oI (x:=gN A j) (y:=kN A j) (by omega) (by omega) U);have RV:=zZ (JK (A:=A) (c:=c) (j:=j) (HC.out _ hf).1 k1)
   have HIT:Hid (¬ jX A c j->fuI A c=(j:Int)):=fun h=>by unfold fuI;rw[zQF hlt h HI.out]
   have NX:Hid (jX A c j->∀i,i<j+1->jX A c i):=fun h i hi=>by
    by_cases e:i=j
    ·rw [e];exact h
    exact HI.out i (by omega)
   subst en;subst er;clear hcn hcr e1 e2 e3 e4 g1 g2 k1 k2 HI;have htN:(tN A j)<N:=ht;have hfN:(fN A j)<N:=hf;clear hf ht;generalize jX A c j=EV at *;generalize c (tN A j)=ct at *;generalize c (fN A j)=cf at *;generalize tN A j=t at *;generalize fN A j=f at *;generalize (yQ ct cf).1=p1 at *;generalize (yQ ct cf).2=q1 at *;generalize (yQ (gN A j) (kN A j)).1=p2 at *;generalize (yQ (gN A j) (kN A j)).2=q2 at *;generalize gN A j=g at *;generalize kN A j=k at *;generalize (zU A j).s=z at *
   go_upto_region 4 with fail
   have bs:=(Below.refl wr.heap.size wr).alloc (Nat.le_refl _) (.cells #[.int .i64 (f:Int),.int .i64 (t:Int),.int .i64 (g:Int),.int .i64 (k:Int),.int .i64 z] 61);have XS:=zZ (zV 61 wr #[.int .i64 (f:Int),.int .i64 (t:Int),.int .i64 (g:Int),.int .i64 (k:Int),.int .i64 z]);have L1:=zZ (BR.out.trans (bs.mono BR.out.size))
   replace rt:=zW bs rt
   replace rf:=zW bs rf
   obtain ⟨ab,hab⟩:∃q,wr.heap.size=q:=⟨_,rfl⟩;rw[hab]at XS ⊢;generalize wr.alloc (.cells #[.int .i64 (f:Int),.int .i64 (t:Int),.int .i64 (g:Int),.int .i64 (k:Int),.int .i64 z] 61)=W1 at *;clear bs hab a0 a1 a2 a3 a4 BR;have x0:=XS.out.cell (k:=0) rfl;have x1:=XS.out.cell (k:=1) rfl;have x2:=XS.out.cell (k:=2) rfl;have x3:=XS.out.cell (k:=3) rfl;simp only[List.getElem_toArray,List.getElem_cons_zero,List.getElem_cons_succ]at x0 x1 x2 x3;clear XS
   rcases zZE p1 q1 p2 q2 with ⟨z1,z2,z3⟩|⟨z1,z3⟩|⟨z1,z2,z3⟩
   ·replace NX:=zZ (NX.out (RV.out.1 z3))
    clear HIT RV z3
    refine zM [] (fun d_ i u_ z_=>match i with
     |0=>z_=.slice (some ⟨rb,ro,none⟩) N rc
     |1=>z_=.pointer (some ⟨ab,1,none⟩)
     |2=>z_=.int .i64 (t:Int)
     |3=>z_=.pointer (some ⟨rb,ro+t,none⟩)
     |4=>z_=.int .i64 (ct:Int)
     |5=>z_=.slice (some ⟨rb,ro,none⟩) N rc
     |6=>z_=(qP ab)
     |7=>z_=.int .i64 (f:Int)
     |8=>z_=.pointer (some ⟨rb,ro+f,none⟩)
     |9=>z_=.int .i64 (cf:Int)
     |10=>z_=.agg #[.int .i64 p1,.int .i64 q1]
     |11=>z_=.pointer (some ⟨ab,2,none⟩)
     |12=>z_=.int .i64 (g:Int)
     |13=>z_=.pointer (some ⟨ab,3,none⟩)
     |14=>z_=.int .i64 (k:Int)
     |15=>z_=.agg #[.int .i64 p2,.int .i64 q2]
     |16=>z_=.bool false
     |_=>True) (fun d_ u_=>Below W1.heap.size W1 u_) (by kernel_rfl) (by kernel_rfl) (by kernel_rfl) ?_ ?_ ?_ ?_ ?_ ?_ (by kernel_rfl)
    ·intro d_ i w_ v_ w' h hb
     match i,h with
     |0,h=>exact h
     |1,h=>exact h
     |2,h=>exact h
     |3,h=>exact h
     |4,h=>exact h
     |5,h=>exact h
     |6,h=>exact h
     |7,h=>exact h
     |8,h=>exact h
     |9,h=>exact h
     |10,h=>exact h
     |11,h=>exact h
     |12,h=>exact h
     |13,h=>exact h
     |14,h=>exact h
     |15,h=>exact h
     |16,h=>exact h
     |_+17,_=>trivial
    ·intro d_ u_ u' h hb
     exact h.trans (hb.mono h.size)
    ·exact Below.refl _ _
    ·intro d_ i o ρ w' hm ho hf hg hC hcs hfs hfr zX
     match i,hm,ho,hf,hg,hfr,zX with
     |0,_,ho,hf,hg,hfr,zX=>
      simp only[qS]at ho;subst ho;refine ⟨fun _=>?_,qF⟩
      have ts: ρ (.tmp 1)=.slice (some ⟨rb,ro,none⟩) N rc:=(qR hfr 1);simp[go_sem,ts];exact qB
     |1,_,ho,hf,hg,hfr,zX=>
      simp only[qS]at ho;subst ho;refine ⟨fun _=>?_,qF⟩
      have ts: ρ (.tmp 6)=(qP ab):=(qR hfr 6);simp[go_sem,ts];exact qB
     |2,_,ho,hf,hg,hfr,zX=>
      simp only[qS]at ho;subst ho;refine ⟨fun _=>?_,qF⟩
      have kc:=zW hC x1;have d0: ρ (.tmp 16)=.pointer (some ⟨ab,1,none⟩):=(qH zX 1 16);simp[go_sem,d0,kc];exact qB
     |3,_,ho,hf,hg,hfr,zX=>
      simp only[qS]at ho;subst ho;refine ⟨fun _=>?_,qF⟩
      have d0: ρ (.tmp 15)=.slice (some ⟨rb,ro,none⟩) N rc:=(qH zX 0 15);have d1: ρ (.tmp 17)=.int .i64 (t:Int):=(qH zX 2 17);simp[go_sem,d0,d1,htN];exact qB
     |4,_,ho,hf,hg,hfr,zX=>
      simp only[qS]at ho;subst ho;refine ⟨fun _=>?_,qF⟩
      have kc:=zW hC rt;have d0: ρ (.tmp 18)=.pointer (some ⟨rb,ro+t,none⟩):=(qH zX 3 18);simp[go_sem,d0,kc];exact qB
     |5,_,ho,hf,hg,hfr,zX=>
      simp only[qS]at ho;subst ho;refine ⟨fun _=>?_,qF⟩
      have ts: ρ (.tmp 1)=.slice (some ⟨rb,ro,none⟩) N rc:=(qR hfr 1);simp[go_sem,ts];exact qB
     |6,_,ho,hf,hg,hfr,zX=>
      simp only[qS]at ho;subst ho;refine ⟨fun _=>?_,qF⟩
      have ts: ρ (.tmp 6)=(qP ab):=(qR hfr 6);simp[go_sem,ts];exact qB
     |7,_,ho,hf,hg,hfr,zX=>
      simp only[qS]at ho;subst ho;refine ⟨fun _=>?_,qF⟩
      have kc:=zW hC x0;have d0: ρ (.tmp 21)=(qP ab):=(qH zX 6 21);simp[go_sem,d0,kc];exact qB
     |8,_,ho,hf,hg,hfr,zX=>
      simp only[qS]at ho;subst ho;refine ⟨fun _=>?_,qF⟩
      have d0: ρ (.tmp 20)=.slice (some ⟨rb,ro,none⟩) N rc:=(qH zX 5 20);have d1: ρ (.tmp 22)=.int .i64 (f:Int):=(qH zX 7 22);simp[go_sem,d0,d1,hfN];exact qB
     |9,_,ho,hf,hg,hfr,zX=>
      simp only[qS]at ho;subst ho;refine ⟨fun _=>?_,qF⟩
      have kc:=zW hC rf;have d0: ρ (.tmp 23)=.pointer (some ⟨rb,ro+f,none⟩):=(qH zX 8 23);simp[go_sem,d0,kc];exact qB
     |10,_,ho,hf,hg,hfr,zX=>
      simp only[qS]at ho;subst ho;refine ⟨fun _=>?_,qF⟩
      have t0: ρ (.tmp 19)=.int .i64 (ct:Int):=(qH zX 4 19);have t1: ρ (.tmp 24)=.int .i64 (cf:Int):=(qH zX 9 24);simp[go_sem,t0,t1,hfs];exact ⟨rfl,(RT1.out w').mono fun e' w'' hh=>⟨_,hh.1,hh.2,rfl⟩⟩
     |11,_,ho,hf,hg,hfr,zX=>
      simp only[qS]at ho;subst ho;refine ⟨fun _=>?_,qF⟩
      have ts: ρ (.tmp 6)=(qP ab):=(qR hfr 6);simp[go_sem,ts];exact qB
     |12,_,ho,hf,hg,hfr,zX=>
      simp only[qS]at ho;subst ho;refine ⟨fun _=>?_,qF⟩
      have kc:=zW hC x2;have d0: ρ (.tmp 26)=.pointer (some ⟨ab,2,none⟩):=(qH zX 11 26);simp[go_sem,d0,kc];exact qB
     |13,_,ho,hf,hg,hfr,zX=>
      simp only[qS]at ho;subst ho;refine ⟨fun _=>?_,qF⟩
      have ts: ρ (.tmp 6)=(qP ab):=(qR hfr 6);simp[go_sem,ts];exact qB
     |14,_,ho,hf,hg,hfr,zX=>
      simp only[qS]at ho;subst ho;refine ⟨fun _=>?_,qF⟩
      have kc:=zW hC x3;have d0: ρ (.tmp 28)=.pointer (some ⟨ab,3,none⟩):=(qH zX 13 28);simp[go_sem,d0,kc];exact qB
     |15,_,ho,hf,hg,hfr,zX=>
      simp only[qS]at ho;subst ho;refine ⟨fun _=>?_,qF⟩
      have t0: ρ (.tmp 27)=.int .i64 (g:Int):=(qH zX 12 27);have t1: ρ (.tmp 29)=.int .i64 (k:Int):=(qH zX 14 29);simp[go_sem,t0,t1,hfs];exact ⟨rfl,(RT2.out w').mono fun e' w'' hh=>⟨_,hh.1,hh.2,rfl⟩⟩
     |16,_,ho,hf,hg,hfr,zX=>
      simp only[qS]at ho;subst ho;refine ⟨fun _=>?_,qF⟩
      have d0: ρ (.tmp 25)=.agg #[.int .i64 p1,.int .i64 q1]:=(qH zX 10 25);have d1: ρ (.tmp 30)=.agg #[.int .i64 p2,.int .i64 q2]:=(qH zX 15 30);simp[go_sem,d0,d1,z1,z2];exact qB
     |n+17,_,ho,_,_,_,_=>simp at ho
    ·intro d_ i o ρ w' hm ho h0 hf hg hC hcs hfs hfr zX
     exact absurd hm (by simp)
    intro U1 W2 hC2 hS;have e0:U1 0=.slice (some ⟨rb,ro,none⟩) N rc:=hS 0 (by decide) (by intro h;cases h);have e1:U1 1=.pointer (some ⟨ab,1,none⟩):=hS 1 (by decide) (by intro h;cases h);have e2:U1 2=.int .i64 (t:Int):=hS 2 (by decide) (by intro h;cases h);have e3:U1 3=.pointer (some ⟨rb,ro+t,none⟩):=hS 3 (by decide) (by intro h;cases h);have e4:U1 4=.int .i64 (ct:Int):=hS 4 (by decide) (by intro h;cases h);have e5:U1 5=.slice (some ⟨rb,ro,none⟩) N rc:=hS 5 (by decide) (by intro h;cases h);have e6:U1 6=(qP ab):=hS 6 (by decide) (by intro h;cases h);have e7:U1 7=.int .i64 (f:Int):=hS 7 (by decide) (by intro h;cases h);have e8:U1 8=.pointer (some ⟨rb,ro+f,none⟩):=hS 8 (by decide) (by intro h;cases h);have e9:U1 9=.int .i64 (cf:Int):=hS 9 (by decide) (by intro h;cases h);have e10:U1 10=.agg #[.int .i64 p1,.int .i64 q1]:=hS 10 (by decide) (by intro h;cases h);have e11:U1 11=.pointer (some ⟨ab,2,none⟩):=hS 11 (by decide) (by intro h;cases h);have e12:U1 12=.int .i64 (g:Int):=hS 12 (by decide) (by intro h;cases h);have e13:U1 13=.pointer (some ⟨ab,3,none⟩):=hS 13 (by decide) (by intro h;cases h);have e14:U1 14=.int .i64 (k:Int):=hS 14 (by decide) (by intro h;cases h);have e15:U1 15=.agg #[.int .i64 p2,.int .i64 q2]:=hS 15 (by decide) (by intro h;cases h);have e16:U1 16=.bool false:=hS 16 (by decide) (by intro h;cases h);simp only[yP,e0,e1,e2,e3,e4,e5,e6,e7,e8,e9,e10,e11,e12,e13,e14,e15,e16];simp only[Act.put,qU];clear hS e0 e1 e2 e3 e4 e5 e6 e7 e8 e9 e10 e11 e12 e13 e14 e15 e16;have L2:=zZ (L1.out.trans (hC2.mono L1.out.size));clear hC2 x0 x1 x2 x3 rt rf
    go_wp2
    go_roundg (A.length-(j+1))
    case measure=>omega
    case rel=>exact ⟨j+1,by omega,rfl,by go_num,L2.out,NX.out⟩
   ·replace HIT:=zZ (HIT.out fun h=>z3 (RV.out.2 h))
    clear NX RV z3
    refine zM [] (fun d_ i u_ z_=>match i with
     |0=>z_=.slice (some ⟨rb,ro,none⟩) N rc
     |1=>z_=.pointer (some ⟨ab,1,none⟩)
     |2=>z_=.int .i64 (t:Int)
     |3=>z_=.pointer (some ⟨rb,ro+t,none⟩)
     |4=>z_=.int .i64 (ct:Int)
     |5=>z_=.slice (some ⟨rb,ro,none⟩) N rc
     |6=>z_=(qP ab)
     |7=>z_=.int .i64 (f:Int)
     |8=>z_=.pointer (some ⟨rb,ro+f,none⟩)
     |9=>z_=.int .i64 (cf:Int)
     |10=>z_=.agg #[.int .i64 p1,.int .i64 q1]
     |11=>z_=.pointer (some ⟨ab,2,none⟩)
     |12=>z_=.int .i64 (g:Int)
     |13=>z_=.pointer (some ⟨ab,3,none⟩)
     |14=>z_=.int .i64 (k:Int)
     |15=>z_=.agg #[.int .i64 p2,.int .i64 q2]
     |16=>z_=.bool true
     |_=>True) (fun d_ u_=>Below W1.heap.size W1 u_) (by kernel_rfl) (by kernel_rfl) (by kernel_rfl) ?_ ?_ ?_ ?_ ?_ ?_ (by kernel_rfl)
    ·intro d_ i w_ v_ w' h hb
     match i,h with
     |0,h=>exact h
     |1,h=>exact h
     |2,h=>exact h
     |3,h=>exact h
     |4,h=>exact h
     |5,h=>exact h
     |6,h=>exact h
     |7,h=>exact h
     |8,h=>exact h
     |9,h=>exact h
     |10,h=>exact h
     |11,h=>exact h
     |12,h=>exact h
     |13,h=>exact h
     |14,h=>exact h
     |15,h=>exact h
     |16,h=>exact h
     |_+17,_=>trivial
    ·intro d_ u_ u' h hb
     exact h.trans (hb.mono h.size)
    ·exact Below.refl _ _
    ·intro d_ i o ρ w' hm ho hf hg hC hcs hfs hfr zX
     match i,hm,ho,hf,hg,hfr,zX with
     |0,_,ho,hf,hg,hfr,zX=>
      simp only[qS]at ho;subst ho;refine ⟨fun _=>?_,qF⟩
      have ts: ρ (.tmp 1)=.slice (some ⟨rb,ro,none⟩) N rc:=(qR hfr 1);simp[go_sem,ts];exact qB
     |1,_,ho,hf,hg,hfr,zX=>
      simp only[qS]at ho;subst ho;refine ⟨fun _=>?_,qF⟩
      have ts: ρ (.tmp 6)=(qP ab):=(qR hfr 6);simp[go_sem,ts];exact qB
     |2,_,ho,hf,hg,hfr,zX=>
      simp only[qS]at ho;subst ho;refine ⟨fun _=>?_,qF⟩
      have kc:=zW hC x1;have d0: ρ (.tmp 16)=.pointer (some ⟨ab,1,none⟩):=(qH zX 1 16);simp[go_sem,d0,kc];exact qB
     |3,_,ho,hf,hg,hfr,zX=>
      simp only[qS]at ho;subst ho;refine ⟨fun _=>?_,qF⟩
      have d0: ρ (.tmp 15)=.slice (some ⟨rb,ro,none⟩) N rc:=(qH zX 0 15);have d1: ρ (.tmp 17)=.int .i64 (t:Int):=(qH zX 2 17);simp[go_sem,d0,d1,htN];exact qB
     |4,_,ho,hf,hg,hfr,zX=>
      simp only[qS]at ho;subst ho;refine ⟨fun _=>?_,qF⟩
      have kc:=zW hC rt;have d0: ρ (.tmp 18)=.pointer (some ⟨rb,ro+t,none⟩):=(qH zX 3 18);simp[go_sem,d0,kc];exact qB
     |5,_,ho,hf,hg,hfr,zX=>
      simp only[qS]at ho;subst ho;refine ⟨fun _=>?_,qF⟩
      have ts: ρ (.tmp 1)=.slice (some ⟨rb,ro,none⟩) N rc:=(qR hfr 1);simp[go_sem,ts];exact qB
     |6,_,ho,hf,hg,hfr,zX=>
      simp only[qS]at ho;subst ho;refine ⟨fun _=>?_,qF⟩
      have ts: ρ (.tmp 6)=(qP ab):=(qR hfr 6);simp[go_sem,ts];exact qB
     |7,_,ho,hf,hg,hfr,zX=>
      simp only[qS]at ho;subst ho;refine ⟨fun _=>?_,qF⟩
      have kc:=zW hC x0;have d0: ρ (.tmp 21)=(qP ab):=(qH zX 6 21);simp[go_sem,d0,kc];exact qB
     |8,_,ho,hf,hg,hfr,zX=>
      simp only[qS]at ho;subst ho;refine ⟨fun _=>?_,qF⟩
      have d0: ρ (.tmp 20)=.slice (some ⟨rb,ro,none⟩) N rc:=(qH zX 5 20);have d1: ρ (.tmp 22)=.int .i64 (f:Int):=(qH zX 7 22);simp[go_sem,d0,d1,hfN];exact qB
     |9,_,ho,hf,hg,hfr,zX=>
      simp only[qS]at ho;subst ho;refine ⟨fun _=>?_,qF⟩
      have kc:=zW hC rf;have d0: ρ (.tmp 23)=.pointer (some ⟨rb,ro+f,none⟩):=(qH zX 8 23);simp[go_sem,d0,kc];exact qB
     |10,_,ho,hf,hg,hfr,zX=>
      simp only[qS]at ho;subst ho;refine ⟨fun _=>?_,qF⟩
      have t0: ρ (.tmp 19)=.int .i64 (ct:Int):=(qH zX 4 19);have t1: ρ (.tmp 24)=.int .i64 (cf:Int):=(qH zX 9 24);simp[go_sem,t0,t1,hfs];exact ⟨rfl,(RT1.out w').mono fun e' w'' hh=>⟨_,hh.1,hh.2,rfl⟩⟩
     |11,_,ho,hf,hg,hfr,zX=>
      simp only[qS]at ho;subst ho;refine ⟨fun _=>?_,qF⟩
      have ts: ρ (.tmp 6)=(qP ab):=(qR hfr 6);simp[go_sem,ts];exact qB
     |12,_,ho,hf,hg,hfr,zX=>
      simp only[qS]at ho;subst ho;refine ⟨fun _=>?_,qF⟩
      have kc:=zW hC x2;have d0: ρ (.tmp 26)=.pointer (some ⟨ab,2,none⟩):=(qH zX 11 26);simp[go_sem,d0,kc];exact qB
     |13,_,ho,hf,hg,hfr,zX=>
      simp only[qS]at ho;subst ho;refine ⟨fun _=>?_,qF⟩
      have ts: ρ (.tmp 6)=(qP ab):=(qR hfr 6);simp[go_sem,ts];exact qB
     |14,_,ho,hf,hg,hfr,zX=>
      simp only[qS]at ho;subst ho;refine ⟨fun _=>?_,qF⟩
      have kc:=zW hC x3;have d0: ρ (.tmp 28)=.pointer (some ⟨ab,3,none⟩):=(qH zX 13 28);simp[go_sem,d0,kc];exact qB
     |15,_,ho,hf,hg,hfr,zX=>
      simp only[qS]at ho;subst ho;refine ⟨fun _=>?_,qF⟩
      have t0: ρ (.tmp 27)=.int .i64 (g:Int):=(qH zX 12 27);have t1: ρ (.tmp 29)=.int .i64 (k:Int):=(qH zX 14 29);simp[go_sem,t0,t1,hfs];exact ⟨rfl,(RT2.out w').mono fun e' w'' hh=>⟨_,hh.1,hh.2,rfl⟩⟩
     |16,_,ho,hf,hg,hfr,zX=>
      simp only[qS]at ho;subst ho;refine ⟨fun _=>?_,qF⟩
      have d0: ρ (.tmp 25)=.agg #[.int .i64 p1,.int .i64 q1]:=(qH zX 10 25);have d1: ρ (.tmp 30)=.agg #[.int .i64 p2,.int .i64 q2]:=(qH zX 15 30);simp[go_sem,d0,d1,z1];exact qB
     |n+17,_,ho,_,_,_,_=>simp at ho
    ·intro d_ i o ρ w' hm ho h0 hf hg hC hcs hfs hfr zX
     exact absurd hm (by simp)
    intro U1 W2 hC2 hS;have e0:U1 0=.slice (some ⟨rb,ro,none⟩) N rc:=hS 0 (by decide) (by intro h;cases h);have e1:U1 1=.pointer (some ⟨ab,1,none⟩):=hS 1 (by decide) (by intro h;cases h);have e2:U1 2=.int .i64 (t:Int):=hS 2 (by decide) (by intro h;cases h);have e3:U1 3=.pointer (some ⟨rb,ro+t,none⟩):=hS 3 (by decide) (by intro h;cases h);have e4:U1 4=.int .i64 (ct:Int):=hS 4 (by decide) (by intro h;cases h);have e5:U1 5=.slice (some ⟨rb,ro,none⟩) N rc:=hS 5 (by decide) (by intro h;cases h);have e6:U1 6=(qP ab):=hS 6 (by decide) (by intro h;cases h);have e7:U1 7=.int .i64 (f:Int):=hS 7 (by decide) (by intro h;cases h);have e8:U1 8=.pointer (some ⟨rb,ro+f,none⟩):=hS 8 (by decide) (by intro h;cases h);have e9:U1 9=.int .i64 (cf:Int):=hS 9 (by decide) (by intro h;cases h);have e10:U1 10=.agg #[.int .i64 p1,.int .i64 q1]:=hS 10 (by decide) (by intro h;cases h);have e11:U1 11=.pointer (some ⟨ab,2,none⟩):=hS 11 (by decide) (by intro h;cases h);have e12:U1 12=.int .i64 (g:Int):=hS 12 (by decide) (by intro h;cases h);have e13:U1 13=.pointer (some ⟨ab,3,none⟩):=hS 13 (by decide) (by intro h;cases h);have e14:U1 14=.int .i64 (k:Int):=hS 14 (by decide) (by intro h;cases h);have e15:U1 15=.agg #[.int .i64 p2,.int .i64 q2]:=hS 15 (by decide) (by intro h;cases h);have e16:U1 16=.bool true:=hS 16 (by decide) (by intro h;cases h);simp only[yP,e0,e1,e2,e3,e4,e5,e6,e7,e8,e9,e10,e11,e12,e13,e14,e15,e16];simp only[Act.put,qU];clear hS e0 e1 e2 e3 e4 e5 e6 e7 e8 e9 e10 e11 e12 e13 e14 e15 e16;have L2:=zZ (L1.out.trans (hC2.mono L1.out.size));clear hC2 x0 x1 x2 x3 rt rf
    go_wp2
    rw[<- HRE.out,HIT.out];exact ⟨rfl,B0.out.trans (L2.out.mono B0.out.size)⟩
   replace HIT:=zZ (HIT.out fun h=>z3 (RV.out.2 h))
   clear NX RV z3
   refine zM [] (fun d_ i u_ z_=>match i with
    |0=>z_=.slice (some ⟨rb,ro,none⟩) N rc
    |1=>z_=.pointer (some ⟨ab,1,none⟩)
    |2=>z_=.int .i64 (t:Int)
    |3=>z_=.pointer (some ⟨rb,ro+t,none⟩)
    |4=>z_=.int .i64 (ct:Int)
    |5=>z_=.slice (some ⟨rb,ro,none⟩) N rc
    |6=>z_=(qP ab)
    |7=>z_=.int .i64 (f:Int)
    |8=>z_=.pointer (some ⟨rb,ro+f,none⟩)
    |9=>z_=.int .i64 (cf:Int)
    |10=>z_=.agg #[.int .i64 p1,.int .i64 q1]
    |11=>z_=.pointer (some ⟨ab,2,none⟩)
    |12=>z_=.int .i64 (g:Int)
    |13=>z_=.pointer (some ⟨ab,3,none⟩)
    |14=>z_=.int .i64 (k:Int)
    |15=>z_=.agg #[.int .i64 p2,.int .i64 q2]
    |16=>z_=.bool true
    |_=>True) (fun d_ u_=>Below W1.heap.size W1 u_) (by kernel_rfl) (by kernel_rfl) (by kernel_rfl) ?_ ?_ ?_ ?_ ?_ ?_ (by kernel_rfl)
   ·intro d_ i w_ v_ w' h hb
    match i,h with
    |0,h=>exact h
    |1,h=>exact h
    |2,h=>exact h
    |3,h=>exact h
    |4,h=>exact h
    |5,h=>exact h
    |6,h=>exact h
    |7,h=>exact h
    |8,h=>exact h
    |9,h=>exact h
    |10,h=>exact h
    |11,h=>exact h
    |12,h=>exact h
    |13,h=>exact h
    |14,h=>exact h
    |15,h=>exact h
    |16,h=>exact h
    |_+17,_=>trivial
   ·intro d_ u_ u' h hb
    exact h.trans (hb.mono h.size)
   ·exact Below.refl _ _
   ·intro d_ i o ρ w' hm ho hf hg hC hcs hfs hfr zX
    match i,hm,ho,hf,hg,hfr,zX with
    |0,_,ho,hf,hg,hfr,zX=>
     simp only[qS]at ho;subst ho;refine ⟨fun _=>?_,qF⟩
     have ts: ρ (.tmp 1)=.slice (some ⟨rb,ro,none⟩) N rc:=(qR hfr 1);simp[go_sem,ts];exact qB
    |1,_,ho,hf,hg,hfr,zX=>
     simp only[qS]at ho;subst ho;refine ⟨fun _=>?_,qF⟩
     have ts: ρ (.tmp 6)=(qP ab):=(qR hfr 6);simp[go_sem,ts];exact qB
    |2,_,ho,hf,hg,hfr,zX=>
     simp only[qS]at ho;subst ho;refine ⟨fun _=>?_,qF⟩
     have kc:=zW hC x1;have d0: ρ (.tmp 16)=.pointer (some ⟨ab,1,none⟩):=(qH zX 1 16);simp[go_sem,d0,kc];exact qB
    |3,_,ho,hf,hg,hfr,zX=>
     simp only[qS]at ho;subst ho;refine ⟨fun _=>?_,qF⟩
     have d0: ρ (.tmp 15)=.slice (some ⟨rb,ro,none⟩) N rc:=(qH zX 0 15);have d1: ρ (.tmp 17)=.int .i64 (t:Int):=(qH zX 2 17);simp[go_sem,d0,d1,htN];exact qB
    |4,_,ho,hf,hg,hfr,zX=>
     simp only[qS]at ho;subst ho;refine ⟨fun _=>?_,qF⟩
     have kc:=zW hC rt;have d0: ρ (.tmp 18)=.pointer (some ⟨rb,ro+t,none⟩):=(qH zX 3 18);simp[go_sem,d0,kc];exact qB
    |5,_,ho,hf,hg,hfr,zX=>
     simp only[qS]at ho;subst ho;refine ⟨fun _=>?_,qF⟩
     have ts: ρ (.tmp 1)=.slice (some ⟨rb,ro,none⟩) N rc:=(qR hfr 1);simp[go_sem,ts];exact qB
    |6,_,ho,hf,hg,hfr,zX=>
     simp only[qS]at ho;subst ho;refine ⟨fun _=>?_,qF⟩
     have ts: ρ (.tmp 6)=(qP ab):=(qR hfr 6);simp[go_sem,ts];exact qB
    |7,_,ho,hf,hg,hfr,zX=>
     simp only[qS]at ho;subst ho;refine ⟨fun _=>?_,qF⟩
     have kc:=zW hC x0;have d0: ρ (.tmp 21)=(qP ab):=(qH zX 6 21);simp[go_sem,d0,kc];exact qB
    |8,_,ho,hf,hg,hfr,zX=>
     simp only[qS]at ho;subst ho;refine ⟨fun _=>?_,qF⟩
     have d0: ρ (.tmp 20)=.slice (some ⟨rb,ro,none⟩) N rc:=(qH zX 5 20);have d1: ρ (.tmp 22)=.int .i64 (f:Int):=(qH zX 7 22);simp[go_sem,d0,d1,hfN];exact qB
    |9,_,ho,hf,hg,hfr,zX=>
     simp only[qS]at ho;subst ho;refine ⟨fun _=>?_,qF⟩
     have kc:=zW hC rf;have d0: ρ (.tmp 23)=.pointer (some ⟨rb,ro+f,none⟩):=(qH zX 8 23);simp[go_sem,d0,kc];exact qB
    |10,_,ho,hf,hg,hfr,zX=>
     simp only[qS]at ho;subst ho;refine ⟨fun _=>?_,qF⟩
     have t0: ρ (.tmp 19)=.int .i64 (ct:Int):=(qH zX 4 19);have t1: ρ (.tmp 24)=.int .i64 (cf:Int):=(qH zX 9 24);simp[go_sem,t0,t1,hfs];exact ⟨rfl,(RT1.out w').mono fun e' w'' hh=>⟨_,hh.1,hh.2,rfl⟩⟩
    |11,_,ho,hf,hg,hfr,zX=>
     simp only[qS]at ho;subst ho;refine ⟨fun _=>?_,qF⟩
     have ts: ρ (.tmp 6)=(qP ab):=(qR hfr 6);simp[go_sem,ts];exact qB
    |12,_,ho,hf,hg,hfr,zX=>
     simp only[qS]at ho;subst ho;refine ⟨fun _=>?_,qF⟩
     have kc:=zW hC x2;have d0: ρ (.tmp 26)=.pointer (some ⟨ab,2,none⟩):=(qH zX 11 26);simp[go_sem,d0,kc];exact qB
    |13,_,ho,hf,hg,hfr,zX=>
     simp only[qS]at ho;subst ho;refine ⟨fun _=>?_,qF⟩
     have ts: ρ (.tmp 6)=(qP ab):=(qR hfr 6);simp[go_sem,ts];exact qB
    |14,_,ho,hf,hg,hfr,zX=>
     simp only[qS]at ho;subst ho;refine ⟨fun _=>?_,qF⟩
     have kc:=zW hC x3;have d0: ρ (.tmp 28)=.pointer (some ⟨ab,3,none⟩):=(qH zX 13 28);simp[go_sem,d0,kc];exact qB
    |15,_,ho,hf,hg,hfr,zX=>
     simp only[qS]at ho;subst ho;refine ⟨fun _=>?_,qF⟩
     have t0: ρ (.tmp 27)=.int .i64 (g:Int):=(qH zX 12 27);have t1: ρ (.tmp 29)=.int .i64 (k:Int):=(qH zX 14 29);simp[go_sem,t0,t1,hfs];exact ⟨rfl,(RT2.out w').mono fun e' w'' hh=>⟨_,hh.1,hh.2,rfl⟩⟩
    |16,_,ho,hf,hg,hfr,zX=>
     simp only[qS]at ho;subst ho;refine ⟨fun _=>?_,qF⟩
     have d0: ρ (.tmp 25)=.agg #[.int .i64 p1,.int .i64 q1]:=(qH zX 10 25);have d1: ρ (.tmp 30)=.agg #[.int .i64 p2,.int .i64 q2]:=(qH zX 15 30);simp[go_sem,d0,d1,z1,z2];exact qB
    |n+17,_,ho,_,_,_,_=>simp at ho
   ·intro d_ i o ρ w' hm ho h0 hf hg hC hcs hfs hfr zX
    exact absurd hm (by simp)
   intro U1 W2 hC2 hS;have e0:U1 0=.slice (some ⟨rb,ro,none⟩) N rc:=hS 0 (by decide) (by intro h;cases h);have e1:U1 1=.pointer (some ⟨ab,1,none⟩):=hS 1 (by decide) (by intro h;cases h);have e2:U1 2=.int .i64 (t:Int):=hS 2 (by decide) (by intro h;cases h);have e3:U1 3=.pointer (some ⟨rb,ro+t,none⟩):=hS 3 (by decide) (by intro h;cases h);have e4:U1 4=.int .i64 (ct:Int):=hS 4 (by decide) (by intro h;cases h);have e5:U1 5=.slice (some ⟨rb,ro,none⟩) N rc:=hS 5 (by decide) (by intro h;cases h);have e6:U1 6=(qP ab):=hS 6 (by decide) (by intro h;cases h);have e7:U1 7=.int .i64 (f:Int):=hS 7 (by decide) (by intro h;cases h);have e8:U1 8=.pointer (some ⟨rb,ro+f,none⟩):=hS 8 (by decide) (by intro h;cases h);have e9:U1 9=.int .i64 (cf:Int):=hS 9 (by decide) (by intro h;cases h);have e10:U1 10=.agg #[.int .i64 p1,.int .i64 q1]:=hS 10 (by decide) (by intro h;cases h);have e11:U1 11=.pointer (some ⟨ab,2,none⟩):=hS 11 (by decide) (by intro h;cases h);have e12:U1 12=.int .i64 (g:Int):=hS 12 (by decide) (by intro h;cases h);have e13:U1 13=.pointer (some ⟨ab,3,none⟩):=hS 13 (by decide) (by intro h;cases h);have e14:U1 14=.int .i64 (k:Int):=hS 14 (by decide) (by intro h;cases h);have e15:U1 15=.agg #[.int .i64 p2,.int .i64 q2]:=hS 15 (by decide) (by intro h;cases h);have e16:U1 16=.bool true:=hS 16 (by decide) (by intro h;cases h);simp only[yP,e0,e1,e2,e3,e4,e5,e6,e7,e8,e9,e10,e11,e12,e13,e14,e15,e16];simp only[Act.put,qU];clear hS e0 e1 e2 e3 e4 e5 e6 e7 e8 e9 e10 e11 e12 e13 e14 e15 e16;have L2:=zZ (L1.out.trans (hC2.mono L1.out.size));clear hC2 x0 x1 x2 x3 rt rf
   go_wp2
   rw[<- HRE.out,HIT.out];exact ⟨rfl,B0.out.trans (L2.out.mono B0.out.size)⟩
  have ej:j=A.length:=by omega
  have hki:¬(j:Int)<(A.length:Int):=by omega
  have HF:Hid (fuI A c= -1):=by show _=_;unfold fuI;rw[OS (fun i hi=>HI.out i (by omega))]
  go_wp2
  rw[<- HRE.out,HF.out];exact ⟨rfl,B0.out.trans (BR.out.mono B0.out.size)⟩
def ND (c H:Nat->Nat) (V:Nat->Bool) (v:Nat):Int × Int:=if V v=true then yQ (c v) (c (H v)) else (0,0)
structure uN (w : World) (sb N : Nat) (s : Nat -> Int × Int) : Prop where
 ex:∃cs,zE 117 sb w cs/\∀v,v<N->cs[v*2]? =some (.int .i64 (s v).1)/\cs[v*2+1]? =some (.int .i64 (s v).2)
theorem uN.cell {w:World} {sb N:Nat} {s:Nat->Int × Int} (h:uN w sb N s) {v:Nat} (hv:v<N):w.cell? ⟨sb,v*2,none⟩=some (.int .i64 (s v).1)/\w.cell? ⟨sb,v*2+1,none⟩=some (.int .i64 (s v).2):=by
 obtain ⟨cs,hb,hc⟩:=h.ex;exact ⟨hb.cell (hc v hv).1,hb.cell (hc v hv).2⟩
theorem uN.frozen {w:World} {sb N:Nat} {s:Nat->Int × Int} (h:uN w sb N s) (k:Nat):w.frozen? ⟨sb,k,none⟩=false:=by
 obtain ⟨cs,hb,hc⟩:=h.ex;exact hb.frozen k
theorem uN.lt {w:World} {sb N:Nat} {s:Nat->Int × Int} (h:uN w sb N s):sb<w.heap.size:=by
 obtain ⟨cs,hb,hc⟩:=h.ex;exact hb.lt
theorem uN.keep {w w':World} {sb N:Nat} {s:Nat->Int × Int} (h:uN w sb N s) (hk:w'.heap[sb]? =w.heap[sb]?):uN w' sb N s:=by
 obtain ⟨cs,hb,hc⟩:=h.ex;exact ⟨cs,hb.keep hk,hc⟩
theorem uN.below {w w':World} {sb N:Nat} {s:Nat->Int × Int} (h:uN w sb N s) (hb:Below w.heap.size w w'):uN w' sb N s:=h.keep (hb.block _ h.lt)
theorem uN.put {w:World} {sb N:Nat} {c H:Nat->Nat} {V:Nat->Bool} (h:uN w sb N (ND c H V)) {x:Nat} (hx:x<N):uN ((w.setCell ⟨sb,x*2,none⟩ (.int .i64 (yQ (c x) (c (H x))).1)).setCell ⟨sb,x*2+1,none⟩ (.int .i64 (yQ (c x) (c (H x))).2)) sb N (ND c H (nT V x)):=by
 obtain ⟨cs,hb,hc⟩:=h.ex;refine ⟨_,(hb.set _ _).set _ _,fun v hv=>?_⟩
 obtain ⟨h1,h2⟩:=hc v hv;have l1:=(Array.getElem?_eq_some_iff.1 h1).1;have l2:=(Array.getElem?_eq_some_iff.1 h2).1
 by_cases e:v=x
 ·subst e
  have es:ND c H (nT V v) v=yQ (c v) (c (H v)):=by unfold ND;rw[if_pos (cZ V v)]
  rw[es];simp[l1,l2]
 have es:ND c H (nT V x) v=ND c H V v:=by unfold ND nT;rw[if_neg e]
 rw[es]
 have n1:¬x*2=v*2:=by omega
 have n2:¬x*2+1=v*2:=by omega
 have n3:¬x*2=v*2+1:=by omega
 have n4:¬x*2+1=v*2+1:=by omega
 simp only[Array.getElem?_setIfInBounds,if_neg n1,if_neg n2,if_neg n3,if_neg n4];exact ⟨h1,h2⟩
structure zUI (w : World) (lb fb nb rb sb N : Nat) (A : List NA) (T : List Nat) (aa ta : Option Addr) (ac tc : Nat) : Prop where
 lc:w.cell? ⟨lb,0,none⟩=some (.slice (some ⟨sb,0,none⟩) N N)
 tcl:w.cell? ⟨fb,0,none⟩=some (.slice ta T.length tc)
 nc:w.cell? ⟨nb,1,none⟩=some (.slice aa A.length ac)
 rc:w.cell? ⟨rb,0,none⟩=some (.func (.func 72) #[] #[(qP lb),(qP fb),(qP nb),(qP rb)])
 tat:∀k,k<T.length->∃b off,ta=some ⟨b,off,none⟩/\b≠sb/\∀k,(h:k<T.length)->w.cell? ⟨b,off+k,none⟩=some (.int .i64 (T[k]:Int))
 nat:∀k,k<A.length->∃b off,aa=some ⟨b,off,none⟩/\b≠sb/\∀k,k<A.length->w.cell? ⟨b,off+k*5,none⟩=some (.int .i64 (zU A k).f)/\w.cell? ⟨b,off+k*5+1,none⟩=some (.int .i64 (zU A k).t)/\w.cell? ⟨b,off+k*5+2,none⟩=some (.int .i64 (zU A k).g)/\w.cell? ⟨b,off+k*5+3,none⟩=some (.int .i64 (zU A k).k)/\w.cell? ⟨b,off+k*5+4,none⟩=some (.int .i64 (zU A k).s)
 ne:lb≠sb/\fb≠sb/\nb≠sb/\rb≠sb
theorem xL {w w':World} {K b o:Nat} {v:Value} (k:xX K w w') (hn:b≠K) (h:w.cell? ⟨b,o,none⟩=some v):w'.cell? ⟨b,o,none⟩=some v:=xO h (k.block _ (block_lt_of_cell h) hn)
theorem zUI.keep {w w':World} {lb fb nb rb sb N:Nat} {A:List NA} {T:List Nat} {aa ta:Option Addr} {ac tc:Nat} (h:zUI w lb fb nb rb sb N A T aa ta ac tc) (k:xX sb w w'):zUI w' lb fb nb rb sb N A T aa ta ac tc:=by
 obtain ⟨n1,n2,n3,n4⟩:=h.ne;refine ⟨xL k n1 h.lc,xL k n2 h.tcl,xL k n3 h.nc,xL k n4 h.rc,fun i hi=>?_,fun i hi=>?_,h.ne⟩
 ·obtain ⟨b,off,h1,h2,h3⟩:=h.tat i hi
  exact ⟨b,off,h1,h2,fun j hj=>xL k h2 (h3 j hj)⟩
 obtain ⟨b,off,h1,h2,h3⟩:=h.nat i hi;exact ⟨b,off,h1,h2,fun j hj=>⟨xL k h2 (h3 j hj).1,xL k h2 (h3 j hj).2.1,xL k h2 (h3 j hj).2.2.1,xL k h2 (h3 j hj).2.2.2.1,xL k h2 (h3 j hj).2.2.2.2⟩⟩
def OP (c H:Nat->Nat) (U:Nat->Bool):Prop:=∀v,U v=true->yK (yQ (c v) (c (H v))).1=true/\yK (yQ (c v) (c (H v))).2=true
theorem OP.put {c H:Nat->Nat} {V:Nat->Bool} {x:Nat} (h:OP c H V) (hx:yK (yQ (c x) (c (H x))).1=true/\yK (yQ (c x) (c (H x))).2=true):OP c H (nT V x):=fun v hv=>by
 unfold nT at hv
 split at hv
 ·rename_i e;rw[e];exact hx
 exact h v hv
def YR (c:Nat->Nat) (N:Nat):Prop:=∃u,u<N/\9223372036854775807<c u
def zQE (w:World) (sb N:Nat) (A:List NA) (T:List Nat) (c H:Nat->Nat) (V:Nat->Bool) (v:Nat) (e:Ending) (w':World):Prop:=
 ∃(x:Int) (U:Nat->Bool),e=.returned (.int .i64 x)/\xX sb w w'/\((x=0/\fL V U/\U v=true/\iE A T V U none/\uN w' sb N (ND c H U)/\OP c H U/\∀u,U u=true->V u=false->H u=H v)\/(x=4/\YR c N))
structure LpA (w wr : World) (xb sb N : Nat) (A : List NA) (T : List Nat) (c H : Nat -> Nat) (V U : Nat -> Bool) (v q : Nat) (p1 q1 : Int) : Prop where
 but:xX sb w wr
 sub:fL V U
 here:U v=true
 clo:iE A T V U (some v)
 far:∀i,i<q->∀(h:i<T.length),∀y,yE A T[i] v=some y->U y.1=true
 sha:uN wr sb N (ND c H U)
 fit:OP c H U
 box:zE 117 xb wr #[.int .i64 p1,.int .i64 q1]
 hom:∀u,U u=true->V u=false->H u=H v
theorem LpA.step {w wr wr':World} {xb sb N:Nat} {A:List NA} {T:List Nat} {c H:Nat->Nat} {V U U':Nat->Bool} {v q:Nat} {p1 q1:Int} (h:LpA w wr xb sb N A T c H V U v q p1 q1) (hx:xb≠sb) (hb:xX sb wr wr') (hs:fL U U') (hc:iE A T U U' none) (sh:uN wr' sb N (ND c H U')) (ft:OP c H U') (hh:∀u,U' u=true->U u=false->H u=H v) (hq:∀(h:q<T.length),∀y,yE A T[q] v=some y->U' y.1=true):LpA w wr' xb sb N A T c H V U' v (q+1) p1 q1:=
 ⟨h.but.trans hb,h.sub.trans hs,hs _ h.here,XQ h.clo hc hs,fun i hi hT y hy=>by
  by_cases e:i=q
  ·subst e;exact hq hT y hy
  ·exact hs _ (h.far i (by omega) hT y hy),sh,ft,h.box.keep (hb.block _ h.box.lt hx),fun u h1 h2=>by
  cases hu:U u with
  |true=>exact h.hom u hu h2
  |false=>exact hh u h1 hu⟩
theorem LpA.same {w wr wr':World} {xb sb N:Nat} {A:List NA} {T:List Nat} {c H:Nat->Nat} {V U:Nat->Bool} {v q:Nat} {p1 q1:Int} (h:LpA w wr xb sb N A T c H V U v q p1 q1) (hx:xb≠sb) (hb:Below wr.heap.size wr wr') (hq:∀(h:q<T.length),∀y,yE A T[q] v=some y->U y.1=true):LpA w wr' xb sb N A T c H V U v (q+1) p1 q1:=
 h.step hx (xX.of_below hb) (fun _ hv=>hv) (fun u h1 h2=>by rw[h1]at h2;cases h2) (h.sha.below hb) h.fit (fun u h1 h2=>by rw[h1]at h2;cases h2) hq
theorem zUH {A:List NA} {j v:Nat} (h:yE A j v=none):YS (fN A j) (tN A j) (gN A j) (kN A j) v=.tuple #[.int .i64 0,.agg #[.int .i64 0,.int .i64 0],.bool false]:=by
 unfold yE at h
 split at h
 ·cases h
 split at h
 ·cases h
 rename_i h1 h2
 unfold YS;rw[if_neg h1,if_neg h2]
def upB (A:List NA) (j:Nat) (b:Bool):Nat:=if b then kN A j else gN A j
def dnB (A:List NA) (j:Nat) (b:Bool):Nat:=if b then gN A j else kN A j
theorem zUG {A:List NA} {j v x:Nat} {b:Bool} (h:yE A j v=some (x,b)):YS (fN A j) (tN A j) (gN A j) (kN A j) v=.tuple #[.int .i64 (x:Int),.agg #[.int .i64 (yQ (upB A j b) (dnB A j b)).1,.int .i64 (yQ (upB A j b) (dnB A j b)).2],.bool true]:=by
 unfold yE at h
 split at h
 ·rename_i h1
  cases h
  unfold YS;rw[if_pos h1];rfl
 split at h
 ·rename_i h1 h2
  cases h
  unfold YS;rw[if_neg h1,if_pos h2];rfl
 cases h
theorem zUF {A:List NA} {c:Nat->Nat} {j v x:Nat} {b:Bool} (he:jX A c j) (h:yE A j v=some (x,b)):upB A j b*c v=dnB A j b*c x:=by
 obtain ⟨h1,h2⟩:=tI h;unfold jX at he
 cases b with
 |false=>
  have h1':fN A j=v:=h1;have h2':tN A j=x:=h2;rw[<- h1',<-h2'];exact he
 |true=>
  have h1':tN A j=v:=h1;have h2':fN A j=x:=h2;rw[<- h1',<-h2'];exact he.symm
theorem JJ {A:List NA} {H:Nat->Nat} {j v x:Nat} {b:Bool} (he:H (fN A j)=H (tN A j)) (h:yE A j v=some (x,b)):H x=H v:=by
 obtain ⟨h1,h2⟩:=tI h
 cases b with
 |false=>
  have h1':fN A j=v:=h1;have h2':tN A j=x:=h2;rw[<- h1',<-h2',he]
 |true=>
  have h1':tN A j=v:=h1;have h2':fN A j=x:=h2;rw[<- h1',<-h2',he]
theorem zUE {A:List NA} {N j v x:Nat} {b:Bool} (h1:fN A j<N) (h2:tN A j<N) (h:yE A j v=some (x,b)):x<N:=by
 obtain ⟨-,q⟩:=tI h
 cases b with
 |false=>
  have q':tN A j=x:=q;omega
 |true=>
  have q':fN A j=x:=q;omega
theorem zZB {p q r s:Int} (h1:yK p=true) (h2:yK q=true) (h3:yK r=true) (h4:yK s=true):iS [(p,q),(r,s)]:=by
 intro k
 match k with
 |0=>exact ⟨xC.1 h1,xC.1 h2⟩
 |1=>exact ⟨xC.1 h3,xC.1 h4⟩
 |k+2=>
  have e1:uD [(p,q),(r,s)] (k+2)=0:=by simp[uD]
  have e2:uV [(p,q),(r,s)] (k+2)=0:=by simp[uV]
  rw[e1,e2]
  decide
theorem zUD (W:World) (p q r s:Int):SJ (W.alloc (.cells #[.int .i64 p,.int .i64 q,.int .i64 r,.int .i64 s] 117)) (some ⟨W.heap.size,0,none⟩) [(p,q),(r,s)]:=by
 have x:=zV 117 W #[.int .i64 p,.int .i64 q,.int .i64 r,.int .i64 s];refine .inr ⟨W.heap.size,0,rfl,fun k hk=>?_⟩
 match k,hk with
 |0,_=>exact ⟨x.cell (k:=0) rfl,x.cell (k:=1) rfl⟩
 |1,_=>exact ⟨x.cell (k:=2) rfl,x.cell (k:=3) rfl⟩
theorem zQD {lb fb nb rb sb N:Nat} {A:List NA} {T:List Nat} {aa ta:Option Addr} {ac tc:Nat} {c H:Nat->Nat} (hS:TY A N) (hT:∀j,j ∈ T->j<A.length) (hTl:T.length<=1000) (hc:∀v,1<=c v) (hev:∀j,j ∈ T->jX A c j) (hH:∀j,j ∈ T->H (fN A j)=H (tN A j)) (hHN:∀v,v<N->H v<N):
 ∀(k v:Nat) (V:Nat->Bool) (w:World),dJ V N<=k->v<N->V v=false->zUI w lb fb nb rb sb N A T aa ta ac tc->uN w sb N (ND c H V)->OP c H V->yK (yQ (c v) (c (H v))).1=true/\yK (yQ (c v) (c (H v))).2=true->
 Calls Tryz.prog 72 #[.int .i64 (v:Int),.agg #[.int .i64 (yQ (c v) (c (H v))).1,.int .i64 (yQ (c v) (c (H v))).2],(qP lb),(qP fb),(qP nb),(qP rb)] w (zQE w sb N A T c H V v):=by
 intro k
 induction k with
 |zero=>
  intro v V w hk hv hV;have:=KY (bC V v) hV (cZ V v) hv;omega
 |succ k ih=>
  intro v V w hk hv hV hR hSh hF hf
  have hkk:dJ (nT V v) N<=k:=by have:=KY (bC V v) hV (cZ V v) hv;omega
  have IH:=zZ ih;have HS:=zZ hS;have HT:=zZ hT;have HC:=zZ hc;have HEV:=zZ hev;have HH:=zZ hH;have HHN:=zZ hHN;have HF:=zZ hf;have HKK:=zZ hkk;have b0:=(Below.refl w.heap.size w).alloc (Nat.le_refl _) (.cells #[.int .i64 (yQ (c v) (c (H v))).1,.int .i64 (yQ (c v) (c (H v))).2] 117);have X0:=zZ (zV 117 w #[.int .i64 (yQ (c v) (c (H v))).1,.int .i64 (yQ (c v) (c (H v))).2]);have R0:=zZ (hR.keep (xX.of_below (K:=sb) b0));have S0:=zZ (hSh.below b0);have B0:=zZ (xX.of_below (K:=sb) b0);have hne:=hSh.lt;have FA:=zZ (hF.put hf);have SP:=zZ (fun (W:World) (h:uN W sb N (ND c H V))=>h.put hv);clear ih hS hT hc hev hH hHN hf hkk hk hR hSh b0 hF hV;obtain ⟨p,hp⟩:∃p,(yQ (c v) (c (H v))).1=p:=⟨_,rfl⟩;obtain ⟨r,hr⟩:∃r,(yQ (c v) (c (H v))).2=r:=⟨_,rfl⟩
  have PR:Hid (yQ (c v) (c (H v))=(p,r)):=by show _=_;rw[<- hp,<-hr]
  rw[hp,hr]at X0 R0 S0 B0 SP HF ⊢;clear hp hr;obtain ⟨RE,hRE⟩:∃R,zQE w sb N A T c H V v=R:=⟨_,rfl⟩;rw[hRE];have HRE:=zZ hRE;clear hRE
  go_enter Tryz.func72,Tryz.ntmps72
  go_upto_region 1 with fail
  generalize w.alloc (.cells #[.int .i64 p,.int .i64 r] 117)=W0 at *;obtain ⟨xb,hxb⟩:∃q,w.heap.size=q:=⟨_,rfl⟩;rw[hxb]at X0 hne ⊢;clear hxb
  have hxs:Hid (xb≠sb):=fun e=>by omega
  have l0:=R0.out.lc;obtain ⟨s0,s1⟩:=S0.out.cell hv;have f0:=S0.out.frozen (v*2);have f1:=S0.out.frozen (v*2+1)
  have hvI:(v:Int)<(N:Int):=by omega
  have x0:=X0.out.cell (k:=0) rfl;have x1:=X0.out.cell (k:=1) rfl;simp only[List.getElem_toArray,List.getElem_cons_zero,List.getElem_cons_succ]at x0 x1;clear hne
  go_upto_region 2 with fail
  have S1:=zZ (SP.out W0 S0.out);have BU:=((xX.set W0 sb (v*2) (.int .i64 p)).trans (xX.set (W0.setCell ⟨sb,v*2,none⟩ (.int .i64 p)) sb (v*2+1) (.int .i64 r)));have B1:=zZ (B0.out.trans BU);have R1:=zZ (R0.out.keep BU);have X1:=zZ (X0.out.keep (BU.block _ X0.out.lt hxs.out));clear x0 x1 l0 s0 s1 f0 f1 SP S0 B0 R0 X0 BU;generalize (W0.setCell ⟨sb,v*2,none⟩ (.int .i64 p)).setCell ⟨sb,v*2+1,none⟩ (.int .i64 r)=W1 at *;have t0:=R1.out.tcl
  have LP:Hid (LpA w W1 xb sb N A T c H V (nT V v) v 0 p r):=⟨B1.out,bC V v,cZ V v,KW A T V v,fun i hi=>absurd hi (Nat.not_lt_zero _),S1.out,FA.out,X1.out,fun u h1 h2=>by
   unfold nT at h1
   split at h1
   ·rename_i e;rw[e]
   rw[h1]at h2;cases h2⟩
  have KN:Hid (∀ U,LpA w W1 xb sb N A T c H V (nT V v) v 0 p r->fL (nT V v) U->dJ U N<=k):=fun U _ hs=>Nat.le_trans (KZ hs N) HKK.out
  clear S1 X1 FA HKK
  go_wp2
  go_loopg [23] T.length (fun gk u wr=>∃(q:Nat) (U:Nat->Bool),q<=T.length/\gk=T.length-q/\u=.int .i64 (q:Int)/\fL (nT V v) U/\LpA w wr xb sb N A T c H V U v q p r/\xX sb W1 wr)
  case atStart=>exact ⟨0,nT V v,Nat.zero_le _,rfl,rfl,fun _ h=>h,LP.out,xX.of_below (Below.refl _ _)⟩
  case round=>
   clear t0;obtain ⟨q,U,hq,rfl,rfl,hsu,hlp,hbt⟩:=hrel;have SU:=zZ hsu;have LQ:=zZ hlp;have RR:=zZ (R1.out.keep hbt);have BT:=zZ hbt;have UN:=zZ (KN.out U LP.out hsu);clear hsu hlp hbt
   by_cases hlt:q<T.length
   ·have hki:(q:Int)<(T.length:Int):=by omega
    obtain ⟨tb1,to1,et,-,hct⟩:=RR.out.tat q hlt;have c1:=hct q hlt;obtain ⟨j,hj⟩:∃j,T[q]=j:=⟨_,rfl⟩;have hjT:=List.getElem_mem hlt
    have HJ:Hid (∀ (h:q<T.length),T[q]=j):=fun _=>hj
    rw[hj]at c1 hjT;have hjA:=HT.out j hjT;obtain ⟨nb1,no1,en,-,hcn⟩:=RR.out.nat j hjA;obtain ⟨a0,a1,a2,a3,a4⟩:=hcn j hjA;obtain ⟨e1,e2,e3,e4,hfN,htN,g1,g2,k1,k2⟩:=HS.out.ends j hjA;rw[e1]at a0;rw[e2]at a1;rw[e3]at a2;rw[e4]at a3;generalize (zU A j).s=az at *;have n1:=RR.out.nc;have AC:=zZ (OU (fN A j) (tN A j) (gN A j) (kN A j) v (.int .i64 az) wr ⟨g1,g2⟩ ⟨k1,k2⟩)
    have hjI:(j:Int)<(A.length:Int):=by omega
    clear hct hcn hj e1 e2 e3 e4;subst et;subst en
    cases hcr:yE A j v with
    |none=>
     rw[zUH hcr]at AC
     have FQ:Hid (∀ (h:q<T.length),∀y,yE A T[q] v=some y->U y.1=true):=fun h y hy=>by rw[HJ.out h,hcr]at hy;cases hy
     clear hcr IH HEV HH HHN;generalize fN A j=af at *;generalize tN A j=at' at *;generalize gN A j=ag at *;generalize kN A j=ak at *
     go_wp2_with (go_at_call 73;(with_reducible refine AC.out.mono ?_);rintro e' W2 ⟨rfl,b2⟩;have B2:=zZ (b2.alloc b2.size (.cells #[.int .i64 0,.int .i64 0] 117));clear b2)
     go_roundg (T.length-(q+1))
     case measure=>omega
     case rel=>exact ⟨q+1,U,by omega,rfl,by go_num,SU.out,LQ.out.same hxs.out B2.out FQ.out,BT.out.trans (xX.of_below B2.out)⟩
    |some y=>
     obtain ⟨x,b⟩:=y;rw[zUG hcr]at AC;have hxN:=zUE hfN htN hcr
     have hxI:(x:Int)<(N:Int):=by omega
     have EVX:=zZ (zUF (HEV.out j hjT) hcr);have HX:=zZ (JJ (HH.out j hjT) hcr)
     have hup:1<=upB A j b/\upB A j b<=64:=by unfold upB;split<;>omega
     have hdn:1<=dnB A j b/\dnB A j b<=64:=by unfold dnB;split<;>omega
     have FQ:Hid (∀ U':Nat->Bool,U' x=true->∀(h:q<T.length),∀y,yE A T[q] v=some y->U' y.1=true):=fun U' hU h y hy=>by
      rw[HJ.out h,hcr]at hy
      cases hy
      exact hU
     have MS:=zZ (BH (x:=c v) (z:=c x) (h:=c (H v)) (p:=upB A j b) (q:=dnB A j b) (HC.out _) hdn.1 EVX.out (by rw[PR.out];exact HF.out));have FF:=zZ (bD (x:=upB A j b) (y:=dnB A j b) (by omega) (by omega));clear hcr HEV HH EVX hup hdn g1 g2 k1 k2 hfN htN HJ;generalize fN A j=af at *;generalize tN A j=at' at *
     have PB:Hid (iG (c v) (c (H v)) (upB A j b) (dnB A j b)=[(p,r),((yQ (upB A j b) (dnB A j b)).1,(yQ (upB A j b) (dnB A j b)).2)]):=by
      show [_,_]=_;rw[PR.out]
     rw[PB.out]at MS;clear PB;generalize (yQ (upB A j b) (dnB A j b)).1=g1 at *;generalize (yQ (upB A j b) (dnB A j b)).2=g2 at *;generalize gN A j=ag at *;generalize kN A j=ak at *
     go_upto_region 6 with (go_at_call 73;(with_reducible refine AC.out.mono ?_);rintro e' W2 ⟨rfl,b2⟩;have B2:=zZ (b2.alloc b2.size (.cells #[.int .i64 g1,.int .i64 g2] 117));have Y2:=zZ (zV 117 W2 #[.int .i64 g1,.int .i64 g2]);clear b2)
     clear AC a0 a1 a2 a3 a4 n1 c1;generalize W2.alloc (.cells #[.int .i64 g1,.int .i64 g2] 117)=W3 at *;obtain ⟨yb,hyb⟩:∃q,W2.heap.size=q:=⟨_,rfl⟩;rw[hyb]at Y2 ⊢;clear hyb;have S3:=zZ (LQ.out.sha.below B2.out);have R3:=zZ (RR.out.keep (xX.of_below B2.out));have l3:=R3.out.lc;obtain ⟨s0,s1⟩:=S3.out.cell hxN
     cases hU:U x with
     |true=>
      have es:ND c H U x=yQ (c x) (c (H x)):=if_pos hU;rw[es]at s0 s1;have ps:=(zRI (HC.out x) (HC.out (H x))).1;have FQ2:=zZ (FQ.out U hU);clear hU es IH FQ MS FF;generalize (yQ (c x) (c (H x))).1=u1 at *;generalize (yQ (c x) (c (H x))).2=u2 at *
      have hne0:(u1==0)=false:=by simp;omega
      go_wp2
      go_roundg (T.length-(q+1))
      case measure=>omega
      case rel=>exact ⟨q+1,U,by omega,rfl,by go_num,SU.out,LQ.out.same hxs.out B2.out FQ2.out,BT.out.trans (xX.of_below B2.out)⟩
     |false=>
      have es:ND c H U x=(0,0):=if_neg (by rw[hU];exact fun e=>by cases e);rw[es]at s0 s1;simp only at s0 s1;clear es
      go_upto_region 7 with fail
      clear s0 s1 l3;have X3:=zZ (LQ.out.box.below B2.out);have x0:=X3.out.cell (k:=0) rfl;have x1:=X3.out.cell (k:=1) rfl;have y0:=Y2.out.cell (k:=0) rfl;have y1:=Y2.out.cell (k:=1) rfl;simp only[List.getElem_toArray,List.getElem_cons_zero,List.getElem_cons_succ]at x0 x1 y0 y1;have ML:=zZ (zXO (some ⟨W3.heap.size,0,none⟩) [(p,r),(g1,g2)] 2 2 _ rfl (by omega) (zZB HF.out.1 HF.out.2 FF.out.1 FF.out.2) (zUD W3 p r g1 g2));have b4:=zZ ((Below.refl W3.heap.size W3).alloc (Nat.le_refl _) (.cells #[.int .i64 p,.int .i64 r,.int .i64 g1,.int .i64 g2] 117));unfold zXP at ML;clear FF
      rcases MS.out with ⟨m1,m2,m3,m4,m5⟩|⟨m1,m2⟩
      ·rw [m1,m2,m3]at ML
       have IHX:=zZ (fun W=>IH.out x U W UN.out hxN hU)
       have EX:Hid (yQ (c x) (c (H x))=yQ (c x) (c (H v))):=by show _=_;rw[HX.out]
       rw[EX.out]at IHX;have FX:Hid (yK (yQ (c x) (c (H v))).1=true/\yK (yQ (c x) (c (H v))).2=true):=⟨m4,m5⟩;clear MS m1 m2 m3 m4 m5 IH EX hU;generalize (yQ (c x) (c (H v))).1=z1 at *;generalize (yQ (c x) (c (H v))).2=z2 at *
       go_upto_region 8 with (go_at_call 74;(with_reducible refine ML.out.mono ?_);rintro e' W4 ⟨rfl,q4⟩;have q5:=b4.out.trans (q4.mono b4.out.size);have B5:=zZ (q5.alloc q5.size (.cells #[.int .i64 z1,.int .i64 z2] 117));have Z5:=zZ (zV 117 W4 #[.int .i64 z1,.int .i64 z2]);clear q4 q5)
       clear ML x0 x1 y0 y1;generalize W4.alloc (.cells #[.int .i64 z1,.int .i64 z2] 117)=W5 at *;obtain ⟨zb,hzb⟩:∃q,W4.heap.size=q:=⟨_,rfl⟩;rw[hzb]at Z5 ⊢;clear hzb b4;have R5:=zZ (R3.out.keep (xX.of_below B5.out));have S5:=zZ (S3.out.below B5.out);have r0:=R5.out.rc;have z0:=Z5.out.cell (k:=0) rfl;have z1':=Z5.out.cell (k:=1) rfl;simp only[List.getElem_toArray,List.getElem_cons_zero,List.getElem_cons_succ]at z0 z1';have CL:=zZ (IHX.out W5 R5.out S5.out LQ.out.fit FX.out);unfold zQE at CL;have B35:=zZ (B2.out.trans (B5.out.mono B2.out.size));clear IHX X3 Y2 Z5 S3 R3 S5 R5
       go_upto_region 10 with (go_at_call 72;(with_reducible refine CL.out.mono ?_);rintro e' W6 ⟨xx,U',rfl,bt6,h6⟩;have B6:=zZ bt6;have H6:=zZ h6;clear bt6 h6 r0 z0 z1')
       clear CL
       rcases H6.out with ⟨rfl,h1,h2,h3,h4,h5,h6⟩|⟨rfl,h1⟩
       ·have LNX:Hid (LpA w W6 xb sb N A T c H V U' v (q+1) p r):=LQ.out.step hxs.out ((xX.of_below B35.out).trans B6.out) h1 h3 h4 h5 (fun u g1 g2=>(h6 u g1 g2).trans HX.out) (FQ.out U' h2)
        have SN:=zZ (SU.out.trans h1);clear H6 h1 h2 h3 h4 h5 h6 LQ
        go_wp2
        go_roundg (T.length-(q+1))
        case measure=>omega
        case rel=>exact ⟨q+1,U',by omega,rfl,by go_num,SN.out,LNX.out,BT.out.trans ((xX.of_below B35.out).trans B6.out)⟩
       have BG:=zZ h1;clear H6 h1
       go_wp2
       rw[<- HRE.out];exact ⟨4,V,rfl,(LQ.out.but.trans (xX.of_below B35.out)).trans B6.out,.inr ⟨rfl,BG.out⟩⟩
      rw[m1]at ML
      have BG:Hid (YR c N):=by
       rcases m2 with h|h
       ·exact ⟨x,hxN,h⟩
       exact ⟨H v,HHN.out v hv,h⟩
      clear MS m1 m2 IH hU;generalize VQ [(p,r),(g1,g2)]=z1 at *;generalize VP [(p,r),(g1,g2)]=z2 at *
      go_wp2_with (go_at_call 74;(with_reducible refine ML.out.mono ?_);rintro e' W4 ⟨rfl,q4⟩;have q5:=b4.out.trans (q4.mono b4.out.size);have B5:=zZ (q5.alloc q5.size (.cells #[.int .i64 z1,.int .i64 z2] 117));clear q4 q5)
      rw[<- HRE.out];exact ⟨4,V,rfl,(LQ.out.but.trans (xX.of_below B2.out)).trans (xX.of_below B5.out),.inr ⟨rfl,BG.out⟩⟩
   have ek:q=T.length:=by omega
   have hki:¬(q:Int)<(T.length:Int):=by omega
   have FIN:Hid (iE A T V U none):=zWG LQ.out.clo fun j hj y hy=>by
    obtain ⟨i,hi,e⟩:=List.getElem_of_mem hj;exact LQ.out.far i (by omega) hi y (by rw[e];exact hy)
   clear IH HEV HH
   go_wp2
   rw[<- HRE.out];exact ⟨0,U,rfl,LQ.out.but,.inl ⟨rfl,LQ.out.sub,LQ.out.here,FIN.out,LQ.out.sha,LQ.out.fit,LQ.out.hom⟩⟩
theorem Tryz.infoFr:(Tryz.prog.info? 117).map (fun i=>(i.zero,i.size,i.bytes))=some (some (.agg #[.int .i64 0,.int .i64 0]),2,16):=by kernel_rfl
theorem OO {w0:World} {B g N:Nat} {c H:Nat->Nat} (h:w0.ownsRow B 117 2 (.slice (some ⟨g,0,none⟩) N N) N (madeCells (Value.cells (.agg #[.int .i64 0,.int .i64 0])) (N*2)).toList):uN w0 g N (ND c H (fun _=>false)):=by
 rcases h.2 with ⟨hv,hn⟩|⟨g',cap,cur,hv,hg,hh,hc,hm,hs,ht⟩
 ·cases hv
 cases hv
 have key:∀k,k<N*2->cur[k]? =some (.int .i64 0):=fun k hk=>by
  have e1:(cur.toList.take (N*2))[k]? =cur.toList[k]? :=List.getElem?_take_of_lt hk;rw[ht]at e1;rw[<- Array.getElem?_toList,<-e1];show (madeCells #[.int .i64 0,.int .i64 0] (N*2)).toList[k]? =_
  rcases Nat.mod_two_eq_zero_or_one k with h|h<;>simp[madeCells,hk,h]
 exact ⟨cur,hh,fun v hv=>⟨key _ (by omega),key _ (by omega)⟩⟩
theorem uN.congr {w:World} {sb N:Nat} {s s':Nat->Int × Int} (h:uN w sb N s) (he:∀v,v<N->s v=s' v):uN w sb N s':=by
 obtain ⟨cs,hb,hc⟩:=h.ex;exact ⟨cs,hb,fun v hv=>by rw[<- he v hv];exact hc v hv⟩
def zNF (w:World) (N:Nat) (c H:Nat->Nat) (e:Ending) (w':World):Prop:=
 ∃(x:Int) (d:Option Addr) (n:Nat),e=.returned (.tuple #[.slice d n n,.int .i64 x])/\Below w.heap.size w w'/\((x=0/\n=N/\∃sb,d=some ⟨sb,0,none⟩/\w.heap.size<=sb/\uN w' sb N (fun v=>yQ (c v) (c (H v)))/\∀v,v<N->yK (yQ (c v) (c (H v))).1=true/\yK (yQ (c v) (c (H v))).2=true)\/(x=4/\YR c N))
structure LpC (W wr : World) (sb N : Nat) (A : List NA) (T : List Nat) (c H : Nat -> Nat) (U : Nat -> Bool) (q : Nat) : Prop where
 but:xX sb W wr
 clo:iE A T (fun _=>false) U none
 hom:∀v,v<q->H v=v->U v=true
 low:∀v,U v=true->H v<q
 sha:uN wr sb N (ND c H U)
 fit:OP c H U
theorem ON {N:Nat} {A:List NA} {T:List Nat} {aa ta ha:Option Addr} {ac tc hac:Nat} {c H:Nat->Nat} (hS:TY A N) (hN:N<=1000) (hT:∀j,j ∈ T->j<A.length) (hTl:T.length<=1000) (hc:∀v,1<=c v) (hev:∀j,j ∈ T->jX A c j) (hH:∀j,j ∈ T->H (fN A j)=H (tN A j)) (hHN:∀v,H v<=v)
 (hall:∀U:Nat->Bool,iE A T (fun _=>false) U none->(∀ v,v<N->H v=v->U v=true)->∀v,v<N->U v=true) (w:World) (h1:vN w aa A) (h2:At w ta (yC T)) (h3:At w ha (yV N H)):
 Calls Tryz.prog 40 #[.agg #[.int .i64 (N:Int),.slice aa A.length ac],.agg #[.slice ta T.length tc,.slice ha N hac]] w (zNF w N c H):=by
 have hmf:∀(fn:Fn) (first cap:Array Value) (w:World),(Instr.makeFunc fn first cap).run Tryz.prog w=.ok (.func fn first cap) w:=fun _ _ _ _=>rfl
 have hsf:=fun (a:Addr) (fn:Fn) (c:Array Value) (w:World)=>run_store Tryz.prog w a (.func fn #[] c) .plain rfl
 obtain ⟨i0,hi,hz0,hz1,hz2⟩:=info_parts Tryz.infoFr;have ASK:=zZ (fun (lb fb nb rb sb v:Nat) (V:Nat->Bool) (W:World)=>zQD (lb:=lb) (fb:=fb) (nb:=nb) (rb:=rb) (sb:=sb) (aa:=aa) (ta:=ta) (ac:=ac) (tc:=tc) hS hT hTl hc hev hH (fun v hv=>Nat.lt_of_le_of_lt (hHN v) hv) N v V W (QS V N))
 have RT:Hid (∀ U,Calls Tryz.prog 43 #[.int .i64 1,.int .i64 1] U fun e w'=>e=.returned (.agg #[.int .i64 1,.int .i64 1])/\Below U.heap.size U w'):=fun U=>oI (x:=1) (y:=1) (by decide) (by decide) U
 have HALL:=zZ hall;have HC:=zZ hc;have b0:=(Below.refl w.heap.size w).alloc (Nat.le_refl _) (.cells #[.int .i64 (N:Int),.slice aa A.length ac] 30);have b1:=(Below.refl (w.alloc (.cells #[.int .i64 (N:Int),.slice aa A.length ac] 30)).heap.size (w.alloc (.cells #[.int .i64 (N:Int),.slice aa A.length ac] 30))).alloc (Nat.le_refl _) (.cells #[.slice ta T.length tc,.slice ha N hac] 69);have hs0:(w.alloc (.cells #[.int .i64 (N:Int),.slice aa A.length ac] 30)).heap.size=w.heap.size+1:=World.size_alloc _ _;have b2:=b0.trans (b1.mono b0.size);have XN:=zZ ((zV 30 w #[.int .i64 (N:Int),.slice aa A.length ac]).below b1);have XF:=zZ (zV 69 (w.alloc (.cells #[.int .i64 (N:Int),.slice aa A.length ac] 30)) #[.slice ta T.length tc,.slice ha N hac]);have L0:=zZ b2;have KA:=zZ (TZ h1);have KT:=zZ (OV h2)
 have KH:Hid (∀ k,k<N->∃b off,ha=some ⟨b,off,none⟩/\b<w.heap.size/\∀k,k<N->w.cell? ⟨b,off+k,none⟩=some (.int .i64 (H k:Int))):=fun k hk=>by
  rcases h3 with e|⟨b,off,e,hcc⟩
  ·have:=yY N H
   rw[e]at this;simp at this;omega
  have key:∀k,k<N->w.cell? ⟨b,off+k,none⟩=some (.int .i64 (H k:Int)):=fun i hi=>by
   have:=hcc i (by rw[yY];exact hi);rw[vS hi]at this;exact this
  exact ⟨b,off,e,block_lt_of_cell (key k hk),key⟩
 rw[hs0]at XF;clear b0 b1 b2 hs0 h1 h2 h3 hS hT hTl hc hev hH hall;obtain ⟨RE,hRE⟩:∃R,zNF w N c H=R:=⟨_,rfl⟩;rw[hRE];have HRE:=zZ hRE;clear hRE
 go_enter Tryz.func40,Tryz.ntmps40
 go_upto_region 1 with fail
 generalize (w.alloc (.cells #[.int .i64 (N:Int),.slice aa A.length ac] 30)).alloc (.cells #[.slice ta T.length tc,.slice ha N hac] 69)=W0 at *;obtain ⟨nb,hnb⟩:∃q,w.heap.size=q:=⟨_,rfl⟩;have HNB:=zZ hnb;rw[hnb]at XN XF L0 ⊢;clear hnb;obtain ⟨fb,hfb⟩:∃q,nb+1=q:=⟨_,rfl⟩;have HFB:=zZ hfb;rw[hfb]at XF ⊢;clear hfb;have y0:=XN.out.cell (k:=0) rfl;simp only[List.getElem_toArray,List.getElem_cons_zero]at y0
 go_upto_region 2 with (at_make;refine wpList_make_full _ rfl _ _ 111 rfl W0.heap.size 117 i0 (.agg #[.int .i64 0,.int .i64 0]) 2 Tryz.underlying111 hi hz0 hz1 _ _ _ _ N rfl rfl rfl rfl (by rw[hz2];omega) (by unfold maxLen;omega) (Nat.le_refl _) ?_;intro w1 hown0 hgrow0;have C0:=zZ (OO (c:=c) (H:=H) hown0);have B1:=zZ ((Below.refl W0.heap.size W0).grown hgrow0 (Nat.le_refl _) (fun k h=>by cases h));clear hown0 hgrow0)
 have b2:=(Below.refl w1.heap.size w1).alloc (Nat.le_refl _) (.cells #[.slice (some ⟨W0.heap.size,0,none⟩) N N] 111);have XL:=zZ (zV 111 w1 #[.slice (some ⟨W0.heap.size,0,none⟩) N N]);have C2:=zZ (C0.out.below b2);have L1:=zZ (B1.out.trans (b2.mono B1.out.size));have sl:W0.heap.size<w1.heap.size:=C0.out.lt;clear y0 b2 B1 C0 hi hz0 hz1 hz2;obtain ⟨sb,hsb⟩:∃q,W0.heap.size=q:=⟨_,rfl⟩;obtain ⟨lb,hlb⟩:∃q,w1.heap.size=q:=⟨_,rfl⟩;have HSB:=zZ hsb;rw[hsb]at XL C2 sl ⊢;rw[hsb]at L1;rw[hlb]at XL sl ⊢;clear hsb hlb;generalize w1.alloc (.cells #[.slice (some ⟨sb,0,none⟩) N N] 111)=W2 at *
 go_upto_region 4 with fail
 obtain ⟨rb,hrb⟩:∃q,W2.heap.size=q:=⟨_,rfl⟩;have b3:=(Below.refl W2.heap.size W2).alloc (Nat.le_refl _) (.cells #[.func (.func 72) #[] #[(qP lb),(qP fb),(qP nb),(qP rb)]] 148);have XR:=zZ (zV 148 W2 #[.func (.func 72) #[] #[(qP lb),(qP fb),(qP nb),(qP rb)]]);have X2:=XL.out.below b3;have C3:=zZ (C2.out.below b3)
 have hrl:lb<rb:=by have:=XL.out.lt;omega
 rw[hrb]at XR ⊢;clear hrb;have L3:=zZ (L1.out.trans (b3.mono (by have:=L1.out.size;have:=HSB.out;omega)));have N3:=zZ (XN.out.keep (L3.out.block _ (by have:=XN.out.lt;have:=HSB.out;omega)));have F3:=zZ (XF.out.keep (L3.out.block _ (by have:=XF.out.lt;have:=HSB.out;omega)));have B3:=zZ (L0.out.trans (L3.out.mono (by have:=L0.out.size;have:=HSB.out;have:=HNB.out;omega)));have lts:nb<sb/\fb<sb/\sb<lb:=⟨by have:=XN.out.lt;have:=HSB.out;omega,by have:=XF.out.lt;have:=HSB.out;omega,sl⟩;clear b3 XL C2 L1 XN XF L0 sl L3;generalize W2.alloc (.cells #[.func (.func 72) #[] #[(qP lb),(qP fb),(qP nb),(qP rb)]] 148)=W3 at *
 have AF:Hid (zUI W3 lb fb nb rb sb N A T aa ta ac tc):=by
  refine ⟨X2.cell (k:=0) rfl,F3.out.cell (k:=0) rfl,N3.out.cell (k:=1) rfl,XR.out.cell (k:=0) rfl,fun k hk=>?_,fun k hk=>?_,by omega,by omega,by omega,by omega⟩
  ·obtain ⟨b,off,h1,h2,h3⟩:=KT.out k hk
   have hbn:b<nb:=by have:=HNB.out;omega
   exact ⟨b,off,h1,by omega,fun i hi=>zG B3.out hbn (h3 i hi)⟩
  obtain ⟨b,off,h1,h2,h3⟩:=KA.out k hk
  have hbn:b<nb:=by have:=HNB.out;omega
  exact ⟨b,off,h1,by omega,fun i hi=>⟨zG B3.out hbn (h3 i hi).1,zG B3.out hbn (h3 i hi).2.1,zG B3.out hbn (h3 i hi).2.2.1,zG B3.out hbn (h3 i hi).2.2.2.1,zG B3.out hbn (h3 i hi).2.2.2.2⟩⟩
 have HM:Hid (∀ k,k<N->∃b off,ha=some ⟨b,off,none⟩/\b≠sb/\∀k,k<N->W3.cell? ⟨b,off+k,none⟩=some (.int .i64 (H k:Int))):=fun k hk=>by
  obtain ⟨b,off,h1,h2,h3⟩:=KH.out k hk
  have hbn:b<nb:=by have:=HNB.out;omega
  exact ⟨b,off,h1,by omega,fun i hi=>zG B3.out hbn (h3 i hi)⟩
 have L3:Hid (LpC W3 W3 sb N A T c H (fun _=>false) 0):=⟨xX.of_below (Below.refl _ _),(fun v h=>by cases h),(fun v hv=>absurd hv (Nat.not_lt_zero _)),(fun v h=>by cases h),C3.out,(fun v h=>by cases h)⟩
 have BE:Hid (∀ wr,xX sb W3 wr->Below nb w wr):=fun wr h=>B3.out.trans (h.below (by omega) (by have:=B3.out.size;have:=HNB.out;omega))
 have f1:=F3.out.cell (k:=1) rfl;simp only[List.getElem_toArray,List.getElem_cons_zero,List.getElem_cons_succ]at f1;have LTS:=zZ lts;clear X2 XR C3 KT KA KH N3 B3 hrl lts
 go_wp2
 go_loopg [18] N (fun gk u wr=>∃(q:Nat) (U:Nat->Bool),q<=N/\gk=N-q/\u=.int .i64 (q:Int)/\LpC W3 wr sb N A T c H U q)
 case atStart=>exact ⟨0,fun _=>false,Nat.zero_le _,rfl,rfl,L3.out⟩
 case round=>
  clear f1 L3;obtain ⟨q,U,hq,rfl,rfl,hlp⟩:=hrel;have LQ:=zZ hlp;have AQ:=zZ (AF.out.keep hlp.but);clear hlp
  by_cases hlt:q<N
  ·have hki:(q:Int)<(N:Int):=by omega
   obtain ⟨hb1,ho1,eh,hne,hch⟩:=HM.out q hlt;have c1:=xL LQ.out.but hne (hch q hlt);subst eh;clear hch hne
   by_cases hh:H q=q
   ·have SQ:Hid (yQ (c q) (c (H q))=(1,1)):=by show _=_;rw[hh];exact zWI (HC.out q)
    have hU:U q=false:=by
     cases e:U q with
     |false=>rfl
     |true=>have:=LQ.out.low q e;omega
    have CLL:=zZ (fun W h1 h2=>ASK.out lb fb nb rb sb q U W hlt hU h1 h2 LQ.out.fit (by rw[SQ.out];decide));rw[SQ.out]at CLL;have HHQ:=zZ hh;rw[hh]at c1;clear SQ hU hh ASK
    have hbe:((q:Int)!=(q:Int))=false:=by simp
    go_upto_region 8 with fail
    have r0:=AQ.out.rc;clear c1
    refine yU 3 (fun i u v=>match i with
     |0=>v=.func (.func 72) #[] #[(qP lb),(qP fb),(qP nb),(qP rb)]
     |1=>v=.int .i64 (q:Int)
     |2=>v=.agg #[.int .i64 1,.int .i64 1]
     |_=>True) (by kernel_rfl) (by kernel_rfl) (by kernel_rfl) (by kernel_rfl) ?_ ?_ ?_
    ·intro i w v w' h hb
     match i,h with
     |0,h=>exact h
     |1,h=>exact h
     |2,h=>exact h
     |_+3,_=>trivial
    ·intro i o ρ w' hi ho hb hc hf hfr zX
     match i,hi with
     |0,_=>
      simp only[qS]at ho;subst ho;have ts: ρ (.tmp 7)=(qP rb):=(qR hfr 7);have kc:=zW hb r0;simp[go_sem,ts,kc];exact qB
     |1,_=>
      simp only[qS]at ho;subst ho;have ts: ρ (.tmp 9)=.int .i64 (q:Int):=(qR hfr 9);simp[go_sem,ts];exact qB
     |2,_=>
      simp only[qS]at ho;subst ho;simp[go_sem,hc,hf];exact ⟨rfl,(RT.out w').mono fun e' w'' hh=>⟨_,hh.1,hh.2,rfl⟩⟩
    intro V w9 q9 hS;have e0:V 0=.func (.func 72) #[] #[(qP lb),(qP fb),(qP nb),(qP rb)]:=hS 0 (by decide);have e1:V 1=.int .i64 (q:Int):=hS 1 (by decide);have e2:V 2=.agg #[.int .i64 1,.int .i64 1]:=hS 2 (by decide);simp only[List.drop_succ_cons,List.drop_zero,List.take_succ_cons,List.take_zero,yP,e0,e1,e2];simp only[Act.put,qU];clear hS e0 e1 e2 V;clear r0;have A9:=zZ (AQ.out.keep (xX.of_below q9));have S9:=zZ (LQ.out.sha.below q9);have B9:=zZ q9;have CL:=zZ (CLL.out w9 A9.out S9.out);unfold zQE at CL;clear q9 CLL
    go_upto_region 9 with (go_at_call 72;(with_reducible refine CL.out.mono ?_);rintro e' W6 ⟨xx,U',rfl,bt6,h6⟩;have B6:=zZ bt6;have H6:=zZ h6;clear bt6 h6)
    have BW:=zZ ((LQ.out.but.trans (xX.of_below B9.out)).trans B6.out);clear CL
    rcases H6.out with ⟨rfl,h1,h2,h3,h4,h5,h6⟩|⟨rfl,h1⟩
    ·have LNX:Hid (LpC W3 W6 sb N A T c H U' (q+1)):=by
      refine ⟨BW.out,XQ LQ.out.clo h3 h1,fun v hv he=>?_,fun v hv=>?_,h4,h5⟩
      ·by_cases e:v=q
       ·rw [e];exact h2
       exact h1 _ (LQ.out.hom v (by omega) he)
      cases e:U v with
      |true=>have:=LQ.out.low v e;omega
      |false=>have:=h6 v hv e;have:=HHQ.out;omega
     clear H6 h1 h2 h3 h4 h5 h6 LQ AQ
     go_wp2
     go_roundg (N-(q+1))
     case measure=>omega
     case rel=>exact ⟨q+1,U',by omega,rfl,by go_num,LNX.out⟩
    have BG:=zZ h1;clear H6 h1
    go_wp2
    rw[<- HRE.out];exact ⟨4,none,0,rfl,by rw[HNB.out];exact BE.out _ BW.out,.inr ⟨rfl,BG.out⟩⟩
   have LNX:Hid (LpC W3 wr sb N A T c H U (q+1)):=⟨LQ.out.but,LQ.out.clo,fun v hv he=>by
    by_cases e:v=q
    ·rw [e]at he;exact absurd he hh
    exact LQ.out.hom v (by omega) he,fun v hv=>Nat.lt_succ_of_lt (LQ.out.low v hv),LQ.out.sha,LQ.out.fit⟩
   have hbe:((q:Int)!=(H q:Int))=true:=by simp;omega
   clear hh ASK;generalize H q=hq' at *
   go_wp2
   go_roundg (N-(q+1))
   case measure=>omega
   case rel=>exact ⟨q+1,U,by omega,rfl,by go_num,LNX.out⟩
  have ek:q=N:=by omega
  have hki:¬(q:Int)<(N:Int):=by omega
  have VA:=zZ (HALL.out U LQ.out.clo (fun v hv=>LQ.out.hom v (by omega)));have l0:=AQ.out.lc
  have SF:Hid (uN wr sb N (fun v=>yQ (c v) (c (H v)))):=LQ.out.sha.congr fun v hv=>if_pos (VA.out v hv)
  clear ASK
  go_wp2
  rw[<- HRE.out];exact ⟨0,some ⟨sb,0,none⟩,N,rfl,by rw[HNB.out];exact BE.out _ LQ.out.but,.inl ⟨rfl,rfl,sb,rfl,by have:=HNB.out;have:=LTS.out;omega,SF.out,fun v hv=>LQ.out.fit v (VA.out v hv)⟩⟩
def ZV (x:Int × Bool):List Value:=[.int .i64 x.1,.bool x.2]
def pO:List (Int × Bool)->List Value
 |[]=>[]
 |x::L=>ZV x++pO L
def celT (x:Int × Bool) (j:Nat):Value:=if j=0 then .int .i64 x.1 else .bool x.2
theorem eX:∀(L:List (Int × Bool)),(pO L).length=L.length*2
 |[]=>rfl
 |x::L=>by show (ZV x++pO L).length=_;rw[List.length_append,eX L,List.length_cons];show 2+_=_;omega
theorem gM:∀(L M:List (Int × Bool)),pO (L++M)=pO L++pO M
 |[],_=>rfl
 |x::L,M=>by show ZV x++pO (L++M)=ZV x++pO L++pO M;rw[gM L M,List.append_assoc]
theorem eV:∀ {L:List (Int × Bool)} {k j:Nat},k<L.length->j<2->(pO L)[k*2+j]? =some (celT (xY L k) j)
 |[],k,j,hk,_=>absurd hk (Nat.not_lt_zero _)
 |a::L,0,j,_,hj=>by
  show (ZV a++pO L)[0*2+j]? =_;rw[Nat.zero_mul,Nat.zero_add,List.getElem?_append_left (by show j<2;exact hj)]
  match j,hj with
  |0,_=>rfl
  |1,_=>rfl
 |a::L,k+1,j,hk,hj=>by
  show (ZV a++pO L)[(k+1)*2+j]? =_;rw[List.getElem?_append_right (by show 2<=_;omega)]
  have e:(k+1)*2+j-(ZV a).length=k*2+j:=by show (k+1)*2+j-2=_;omega
  rw[e];exact eV (Nat.lt_of_succ_lt_succ hk) hj
def JI (w:World) (a:Option Addr) (L:List (Int × Bool)):Prop:=L=[]\/∃b off,a=some ⟨b,off,none⟩/\∀k,k<L.length->w.cell? ⟨b,off+k*2,none⟩=some (.int .i64 (xY L k).1)/\w.cell? ⟨b,off+k*2+1,none⟩=some (.bool (xY L k).2)
theorem JI.below {w w':World} {a:Option Addr} {L:List (Int × Bool)} (h:JI w a L) (hb:Below w.heap.size w w'):JI w' a L:=by
 rcases h with h|⟨b,off,e,hc⟩
 ·exact .inl h
 exact .inr ⟨b,off,e,fun k hk=>⟨zW hb (hc k hk).1,zW hb (hc k hk).2⟩⟩
theorem JI.flat {w:World} {ad:Addr} {L:List (Int × Bool)} (h:JI w (some ad) L):∀j u,(pO L)[j]? =some u->w.cell? (ad.add j)=some u:=by
 intro j u hu
 have hj:j<L.length*2:=by rw[<- eX];exact (List.getElem?_eq_some_iff.1 hu).1
 rcases h with e|⟨b,off,e,hc⟩
 ·subst e;simp at hj
 cases e
 have hk:j / 2<L.length:=by omega
 have e1:j=j / 2*2+j % 2:=by omega
 have hr:j % 2<2:=Nat.mod_lt _ (by decide);have h1:=eV (L:=L) hk hr;rw[<- e1,hu]at h1
 cases h1
 obtain ⟨c0,c1⟩:=hc (j / 2) hk
 have ea:(⟨b,off,none⟩:Addr).add j=⟨b,off+j / 2*2+j % 2,none⟩:=by
  have e2:off+j / 2*2+j % 2=off+j:=by omega
  rw[e2];simp[Addr.add]
 rw[ea];clear ea e1;generalize j / 2=k at *;generalize j % 2=r at *
 match r,hr with
 |0,_=>exact c0
 |1,_=>exact c1
def sZ (B:Nat) (w:World) (a:Option Addr) (c:Nat) (L:List (Int × Bool)):Prop:=w.ownsRow B 122 2 (.slice a L.length c) L.length (pO L)
theorem sZ.nil (B:Nat) (w:World):sZ B w none 0 []:=World.ownsRow_nil _ _ _ _
theorem sZ.at {B:Nat} {w:World} {a:Option Addr} {c:Nat} {L:List (Int × Bool)} (h:sZ B w a c L):JI w a L:=by
 unfold sZ at h
 rcases h.2 with ⟨hv,hn⟩|⟨g,cap,cur,hv,hg,hh,hc,hm,hs,ht⟩
 ·exact .inl (List.eq_nil_of_length_eq_zero hn)
 cases hv
 refine .inr ⟨g,0,rfl,fun k hk=>?_⟩
 have key:∀j,j<2->w.cell? ⟨g,k*2+j,none⟩=some (celT (xY L k) j):=fun j hj=>by
  rw[h.cellAt (k*2+j) (by omega),eV hk hj]
 rw[Nat.zero_add];exact ⟨key 0 (by decide),key 1 (by decide)⟩
theorem sZ.lt {B:Nat} {w:World} {a:Option Addr} {c:Nat} {L:List (Int × Bool)} (h:sZ B w a c L):∀x,a=some x->B<=x.block/\x.block<w.heap.size:=by
 intro x hx
 rcases h.2 with ⟨hv,hn⟩|⟨g,cap,cur,hv,hg,hh,hc,hm,hs,ht⟩
 ·simp at hv;rw[hv.1]at hx;cases hx
 cases hv
 cases hx
 exact ⟨hg,(Array.getElem?_eq_some_iff.1 hh).1⟩
theorem sZ.none {B:Nat} {w:World} {a:Option Addr} {c:Nat} {L:List (Int × Bool)} (h:sZ B w a c L):a=Option.none->L.length=0/\c=0:=by
 intro e
 rcases h.2 with ⟨hv,hn⟩|⟨g,cap,cur,hv,hg,hh,hc,hm,hs,ht⟩
 ·simp at hv;exact ⟨hn,hv.2.2⟩
 subst e;cases hv
theorem sZ.keep {B:Nat} {w w':World} {a:Option Addr} {c:Nat} {L:List (Int × Bool)} (h:sZ B w a c L) (hk:∀x,a=some x->w'.heap[x.block]? =w.heap[x.block]?):sZ B w' a c L:=by
 refine ⟨h.1,?_⟩
 rcases h.2 with h2|⟨g,cap,cur,hv,hg,hh,r⟩
 ·exact .inl h2
 refine .inr ⟨g,cap,cur,hv,hg,?_,r⟩
 cases hv
 rw[hk _ rfl];exact hh
theorem sZ.later {B:Nat} {w w':World} {a:Option Addr} {c:Nat} {L:List (Int × Bool)} (h:sZ B w a c L) (hb:Below w.heap.size w w'):sZ B w' a c L:=h.keep fun x hx=>hb.block _ (h.lt x hx).2
theorem sZ.mono {B B':Nat} {w:World} {a:Option Addr} {c:Nat} {L:List (Int × Bool)} (h:sZ B w a c L) (hB:B'<=B):sZ B' w a c L:=by
 refine ⟨h.1,?_⟩
 rcases h.2 with h2|⟨g,cap,cur,hv,hg,r⟩
 ·exact .inl h2
 exact .inr ⟨g,cap,cur,hv,Nat.le_trans hB hg,r⟩
theorem sZ.pop {B:Nat} {w:World} {a:Option Addr} {c:Nat} {L:List (Int × Bool)} {x:Int × Bool} (h:sZ B w a c (L++[x])):sZ B w a c L:=by
 unfold sZ at h ⊢;rw[gM,List.length_append]at h
 rcases h.2 with ⟨hv,hn⟩|⟨g,cap,cur,hv,-⟩
 ·exact absurd hn (Nat.succ_ne_zero _)
 cases hv
 exact ownsRow_pop (eX L) h
theorem sZ.room {B:Nat} {w:World} {a:Option Addr} {c:Nat} {L:List (Int × Bool)} (h:sZ B w a c L):L.length<=c/\c<=maxLen:=by
 rcases h.2 with ⟨hv,hn⟩|⟨g,cap,cur,hv,hg,hh,hc,hm,r⟩
 ·simp at hv;exact ⟨by omega,by omega⟩
 cases hv;exact ⟨hc,hm⟩
def SlT (B:Nat) (P:List (Int × Bool)) (u:World) (z:Value):Prop:=∃d c,z=.slice d P.length c/\sZ B u d c P
def ElT (j:Int) (b:Bool) (u:World) (z:Value):Prop:=∃g,z=.slice (some ⟨g,0,none⟩) 1 1/\u.cell? ⟨g,0,none⟩=some (.int .i64 j)/\u.cell? ⟨g,1,none⟩=some (.bool b)
theorem SlT.later {B:Nat} {P:List (Int × Bool)} {u u':World} {z:Value} (h:SlT B P u z) (hb:Below u.heap.size u u'):SlT B P u' z:=by
 obtain ⟨d,c,h1,h2⟩:=h;exact ⟨d,c,h1,h2.later hb⟩
theorem ElT.later {j:Int} {b:Bool} {u u':World} {z:Value} (h:ElT j b u z) (hb:Below u.heap.size u u'):ElT j b u' z:=by
 obtain ⟨g,h1,h2,h3⟩:=h;exact ⟨g,h1,zW hb h2,zW hb h3⟩
structure zNE (w : World) (a : Option Addr) (len cap : Nat) (L : List (Int × Bool)) : Prop where
 len:L.length=len
 lies:JI w a L
 none:a=Option.none->L.length=0/\cap=0
 room:L.length*16<=140737488351232
 cap:L.length<=cap
theorem zNE.below {w w':World} {a:Option Addr} {len cap:Nat} {L:List (Int × Bool)} (h:zNE w a len cap L) (hb:Below w.heap.size w w'):zNE w' a len cap L:=⟨h.len,h.lies.below hb,h.none,h.room,h.cap⟩
section
variable {H:Type} {enc:TypeId × Value->H} {W:World} {base:Nat} {held:Bool}
end
end Go.Proofs.YtpohmekkdjdhmaaGreat
