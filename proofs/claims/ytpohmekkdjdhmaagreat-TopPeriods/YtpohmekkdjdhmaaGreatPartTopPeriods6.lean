/- Texts of one chain. -/
import Derived.Test.YtpohmekkdjdhmaaGreatPartQ
import Derived.Test.YtpohmekkdjdhmaaGreatPartTopPeriods1
import Derived.Test.YtpohmekkdjdhmaaGreatPartTopPeriods5
import Derived.Test.YtpohmekkdjdhmaaGreatPartTopPeriods2
import Derived.Recover
import Derived.Laws.Pointers
import Derived.Laws.NewBlocks
set_option maxRecDepth 100000
set_option maxHeartbeats 1000000
namespace Go.Proofs.YtpohmekkdjdhmaaGreat
open Go.ChangeShapes Go.WideShapes Go.ChangeAt Go.RowKit
def wY:List PanicEntry:=[{ v:=.iface 31 (.int .i64 4),recovered:=false }]
theorem sU (x:Int) (w:World):Calls Tryz.prog 116 #[.int .i64 x,.bool true] w fun e w'=>e=.returned (.int .i64 x)/\w=w':=by
 go_enter Tryz.func116,Tryz.ntmps116
 go_wp2
 go_ret
 exact ⟨rfl,rfl⟩
theorem gC (x:Int) (w:World):Calls Tryz.prog 116 #[.int .i64 x,.bool false] w fun e w'=>e=.panicked wY/\w=w':=by
 have hp:∀w:World,(Instr.panic (.iface 31 (.int .i64 4))).run Tryz.prog w=.halt (.panic (.iface 31 (.int .i64 4))) w:=fun _=>rfl
 go_enter Tryz.func116,Tryz.ntmps116
 go_wp2
 exact ⟨rfl,rfl,rfl⟩
theorem dN (p:Addr) (x:Int) (w:World) (hc:w.cell? p=some (.int .i64 x)) (hz:w.frozen? p=false):
 CallsD Tryz.prog 114 #[.pointer (some p)] (.panicking wY) w fun e u' w'=>
  e=.returned (.tuple #[])/\u'=.panicking [{ v:=.iface 31 (.int .i64 4),recovered:=true }]/\w'=w.setCell p (.int .i64 4):=by
 refine callsD_of_wpS Tryz.func114 rfl fun c₀ cs hu=>?_
 apply wpS_seq
 apply wpS_region
 simp[wpOpsS,go_sem,recoverD,hu,Tryz.ntmps114,Exit.thenS,wY];refine wpS_cond (t:=true) (by simp[Act.eval,Array.replicate]) ?_
 simp only[if_true]
 apply wpS_region
 simp[wpOpsS,go_sem,hc,hz,bodyPostS,results,Tryz.results114]
theorem MQ (p:Addr) (w:World):
 CallsD Tryz.prog 114 #[.pointer (some p)] .returning w fun e u' w'=>e=.returned (.tuple #[])/\u'=.returning/\w'=w:=by
 refine callsD_of_wpS Tryz.func114 rfl fun c₀ cs hu=>?_
 apply wpS_seq
 apply wpS_region
 simp[wpOpsS,go_sem,recoverD,hu,Tryz.ntmps114,Exit.thenS];refine wpS_cond (t:=false) (by simp[Act.eval,Array.replicate]) ?_
 simp only[Bool.false_eq_true,if_false];refine wpS_of_wp (wp_skip ?_)
 cases c₀
 simp_all [bodyPostS,results,Tryz.results114]
theorem pY (a b:Int) (w:World) (ha: -9223372036854775808<=a/\a<=9223372036854775807) (hb: -9223372036854775808<=b/\b<=9223372036854775807) (hg:gg a b<=9223372036854775807):
 Calls Tryz.prog 119 #[.int .i64 a,.int .i64 b] w fun e w'=>e=.returned (.int .i64 (gg a b:Nat))/\Below w.heap.size w w':=by
 have r:=inR2 ha hb
 have e1:dP 0 [a,b]=gg a b:=by simp[dP,gg]
 have v:DZ [a,b]=(gg a b:Nat):=by rw[DZ,e1];exact wE (by omega)
 have f:DY [a,b]=true:=by rw[DY,e1];exact xU (by omega)
 have hgcd:=fun x w=>II x [a,b] 2 2 w rfl (by decide) r
 rw[v,f]at hgcd;clear v f e1 r
 go_enter Tryz.func119,Tryz.ntmps119
 go_wp2_with (first
  |(go_at_call 102;refine (hgcd _ _ (zOM ?_)).mono ?_;(simp);rintro e w' ⟨n1,rfl,rfl⟩)
  |(go_at_call 116;refine (sU _ _).mono ?_;rintro e w' ⟨rfl,rfl⟩))
 go_ret
 exact ⟨rfl,pZ ((Below.refl _ _).alloc (Nat.le_refl _) _) n1⟩
structure vJ (w : World) (b : Nat) (x y : Value) : Prop where
 c0:w.cell? ⟨b,0,none⟩=some x
 c1:w.cell? ⟨b,1,none⟩=some y
 f0:w.frozen? ⟨b,0,none⟩=false
 f1:w.frozen? ⟨b,1,none⟩=false
 lt:b<w.heap.size
theorem vJ.later {w w':World} {b:Nat} {x y:Value} (h:vJ w b x y) {B:Nat} (hb:Below B w w') (hB:b<B):vJ w' b x y:=
 ⟨(hb.cell (p:=⟨b,0,none⟩) hB).trans h.c0,(hb.cell (p:=⟨b,1,none⟩) hB).trans h.c1,(hb.frozen (p:=⟨b,0,none⟩) hB).trans h.f0,(hb.frozen (p:=⟨b,1,none⟩) hB).trans h.f1,Nat.lt_of_lt_of_le h.lt hb.size⟩
theorem tL (w:World) (x y:Value) (t:TypeId):vJ (w.alloc (.cells #[x,y] t)) w.heap.size x y:=⟨by simp,by simp,by simp,by simp,by simp⟩
structure wC (w : World) (b : Nat) (x : Value) : Prop where
 c0:w.cell? ⟨b,0,none⟩=some x
 f0:w.frozen? ⟨b,0,none⟩=false
 lt:b<w.heap.size
theorem wC.later {w w':World} {b:Nat} {x:Value} (h:wC w b x) {B:Nat} (hb:Below B w w') (hB:b<B):wC w' b x:=
 ⟨(hb.cell (p:=⟨b,0,none⟩) hB).trans h.c0,(hb.frozen (p:=⟨b,0,none⟩) hB).trans h.f0,Nat.lt_of_lt_of_le h.lt hb.size⟩
theorem tK (w:World) (x:Value) (t:TypeId):wC (w.alloc (.cells #[x] t)) w.heap.size x:=⟨by simp,by simp,by simp⟩
theorem wC.alloc {w:World} {b:Nat} {x:Value} (h:wC w b x) (o:Obj):wC (w.alloc o) b x:=h.later ((Below.refl w.heap.size w).alloc (Nat.le_refl _) o) h.lt
theorem vJ.alloc {w:World} {b:Nat} {x y:Value} (h:vJ w b x y) (o:Obj):vJ (w.alloc o) b x y:=h.later ((Below.refl w.heap.size w).alloc (Nat.le_refl _) o) h.lt
theorem IE (w:World) (x:Value) (t:TypeId) {b:Nat} (h:b=w.heap.size):wC (w.alloc (.cells #[x] t)) b x:=h ▸ tK w x t
theorem lU (w:World) (x y:Value) (t:TypeId) {b:Nat} (h:b=w.heap.size):vJ (w.alloc (.cells #[x,y] t)) b x y:=h ▸ tL w x y t
theorem oZ (w:World) (p:Addr) (v:Value):(w.setCell p v).heap.size=w.heap.size:=by simp[World.setCell]
theorem wC.other {w:World} {b:Nat} {x:Value} (h:wC w b x) {p:Addr} (hp:p.block≠b) (v:Value):wC (w.setCell p v) b x:=
 ⟨by rw[World.cell?_setCell_other _ _ _ _ (fun e=>hp (by rw[e]))];exact h.c0,by rw[World.frozen?_setCell];exact h.f0,by rw[oZ];exact h.lt⟩
theorem vJ.other {w:World} {b:Nat} {x y:Value} (h:vJ w b x y) {p:Addr} (hp:p.block≠b) (v:Value):vJ (w.setCell p v) b x y:=
 ⟨by rw[World.cell?_setCell_other _ _ _ _ (fun e=>hp (by rw[e]))];exact h.c0,by rw[World.cell?_setCell_other _ _ _ _ (fun e=>hp (by rw[e]))];exact h.c1,
  by rw[World.frozen?_setCell];exact h.f0,by rw[World.frozen?_setCell];exact h.f1,by rw[oZ];exact h.lt⟩
theorem wC.put {w:World} {b:Nat} {x:Value} (h:wC w b x) (v:Value):wC (w.setCell ⟨b,0,none⟩ v) b v:=
 ⟨World.cell?_setCell_same _ _ _ h.c0,by rw[World.frozen?_setCell];exact h.f0,by rw[oZ];exact h.lt⟩
theorem vJ.put {w:World} {b:Nat} {x y:Value} (h:vJ w b x y) (u v:Value):vJ ((w.setCell ⟨b,0,none⟩ u).setCell ⟨b,1,none⟩ v) b u v:=
 ⟨by rw[World.cell?_setCell_other _ _ _ _ (by simp)];exact World.cell?_setCell_same _ _ _ h.c0,World.cell?_setCell_same _ _ _ ((World.cell?_setCell_other _ _ _ _ (by simp)).trans h.c1),by rw[World.frozen?_setCell,World.frozen?_setCell];exact h.f0,by rw[World.frozen?_setCell,World.frozen?_setCell];exact h.f1,by rw[oZ,oZ];exact h.lt⟩
def Tried (w:World) (Z:Bool->World->Prop) (e:Ending) (w':World):Prop:=
 ∃(ok:Bool) (w1:World),Z ok w1/\e=.returned (.int .i64 (if ok then 0 else 4))/\w'=w1.setCell ⟨w.heap.size,0,none⟩ (.int .i64 (if ok then 0 else 4))
def Trial (w:World) (Z:Bool->World->Prop) (e:Ending) (w':World):Prop:=
 wC w' w.heap.size (.int .i64 0)/\((e=.returned (.tuple #[])/\Z true w')\/(e=.panicked wY/\Z false w'))
theorem mW (K:FuncId) (caps:Array Value) (w:World) (Z:Bool->World->Prop)
 (hK:∀w',(callFunc K caps).run Tryz.prog w'=.ok (.enter K caps) w') (h:Calls Tryz.prog K caps (w.alloc (.cells #[.int .i64 0] 31)) (Trial w Z)):
 Calls Tryz.prog 93 #[.func (.func K) #[] caps] w (Tried w Z):=by
 have hmf:∀(fn:Fn) (first cap:Array Value) (w:World),(Instr.makeFunc fn first cap).run Tryz.prog w=.ok (.func fn first cap) w:=fun _ _ _ _=>rfl
 go_enter_defers Tryz.func93,Tryz.ntmps93
 go_wp2
 refine h.mono ?_
 rintro e w1 ⟨⟨hc,hf,-⟩,hz⟩
 rcases hz with ⟨rfl,hz⟩|⟨rfl,hz⟩
 ·go_wp2
  refine leaves_cons (f:=114) (args:=#[(qP w.heap.size)]) (by simp) (by simp[go_sem]) ?_
  refine (MQ ⟨w.heap.size,0,none⟩ _).mono ?_
  rintro e u' w'' ⟨rfl,rfl,rfl⟩
  simp[Leaves,settle,results,Tryz.results93,go_sem,hc];exact ⟨true,w1,hz,rfl,rfl⟩
 refine leaves_cons (f:=114) (args:=#[(qP w.heap.size)]) (by simp[wY]) (by simp[go_sem]) ?_
 refine (dN ⟨w.heap.size,0,none⟩ 0 _ hc hf).mono ?_
 rintro e u' w'' ⟨rfl,rfl,rfl⟩
 simp[Leaves,settle,results,Tryz.results93,go_sem,hc];exact ⟨false,w1,hz,rfl,rfl⟩
theorem zXV {d:Int} (hd:d≠0):uE 0 d=0/\tO 0 d=1:=by
 have h:=lW (n:=0) hd
 have h0:uE 0 d=0:=by simp[uE]
 have h1:=(yB.1 h.1);rw[h0]at h1;refine ⟨h0,?_⟩
 have h2:=h1.2;simp[gg]at h2;omega
theorem zXU {d:Int} (hd:d≠0):uE d d=1/\tO d d=1:=by
 have h:=lW (n:=d) hd
 have e:uE d d*1=1*tO d d:=by
  have h2:=h.2
  have:uE d d*d=tO d d*d:=by rw[h2,Int.mul_comm]
  have:=Int.eq_of_mul_eq_mul_right hd this;omega
 have:=oC h.1 (c:=1) (d:=1) (by decide) e;exact this
theorem zSY {n d:Int} (hn: -9223372036854775808<=n/\n<=9223372036854775807) (hd: -9223372036854775808<=d/\d<=9223372036854775807) (n0:n≠0) (d0:d≠0) (h:n≠d):gg n d<=9223372036854775807:=by
 have h1:gg n d<=n.natAbs:=Nat.le_of_dvd (by omega) (Nat.gcd_dvd_left _ _);have h2:gg n d<=d.natAbs:=Nat.le_of_dvd (by omega) (Nat.gcd_dvd_right _ _)
 by_cases h3:gg n d<=9223372036854775807
 ·exact h3
 exfalso;omega
theorem pJ {n d:Int} (hd:d<=9223372036854775807) (d0:0<d):gg n d<=9223372036854775807:=by
 have h2:gg n d<=d.natAbs:=Nat.le_of_dvd (by omega) (Nat.gcd_dvd_right _ _);omega
def zOL (w:World) (n d:Int) (e:Ending) (w':World):Prop:=
 Below w.heap.size w w'/\((vT n d=true/\e=.returned (.agg #[.int .i64 (uE n d),.int .i64 (tO n d)]))\/(vT n d=false/\e=.panicked wY))
theorem MP (n d:Int) (w:World) (hn: -9223372036854775808<=n/\n<=9223372036854775807) (hd: -9223372036854775808<=d/\d<=9223372036854775807) (d0:d≠0):
 Calls Tryz.prog 99 #[.int .i64 n,.int .i64 d] w (zOL w n d):=by
 by_cases hn0:n=0
 ·subst hn0
  have k:=zXV d0
  have hB:Hid (vT 0 d=true):=by show vT 0 d=true;unfold vT;rw[k.1,k.2];decide
  have K:Hid (uE 0 d=0/\tO 0 d=1):=k;clear k
  go_enter Tryz.func99,Tryz.ntmps99
  go_wp2
  refine bodyPost_ret (v:=.agg #[.int .i64 0,.int .i64 1]) (by simp[results,Tryz.results99,go_sem]) rfl ⟨?_,.inl ⟨hB.out,by rw[K.out.1,K.out.2]⟩⟩
  exact (Below.refl _ _).alloc (Nat.le_refl _) _
 by_cases hnd:n=d
 ·subst hnd
  have k:=zXU d0
  have hB:Hid (vT n n=true):=by show vT n n=true;unfold vT;rw[k.1,k.2];decide
  have K:Hid (uE n n=1/\tO n n=1):=k
  have q0:(n==0)=false:=by simpa using hn0
  have q1:(n==n)=true:=by simp
  clear k
  go_enter Tryz.func99,Tryz.ntmps99
  go_wp2
  refine bodyPost_ret (v:=.agg #[.int .i64 1,.int .i64 1]) (by simp[results,Tryz.results99,go_sem]) rfl ⟨?_,.inl ⟨hB.out,by rw[K.out.1,K.out.2]⟩⟩
  exact (Below.refl _ _).alloc (Nat.le_refl _) _
 have hgf:=zSY hn hd hn0 d0 hnd;have hg1:=vM (n:=n) d0;have hdv:=pY n d;obtain ⟨p,q,-,-,tp,tq,-,hq0,lp,lq,hs,-,-,hsn,-⟩:=sO (n:=n) d0
 have HN:Hid (uE n d=if d<0 then -p else p):=by show uE n d=_;unfold uE;rw[tp]
 have HD:Hid (tO n d=if d<0 then -q else q):=by show tO n d=_;unfold tO;rw[tq]
 generalize gg n d=g at *
 have q0:(n==0)=false:=by simpa using hn0
 have q1:(n==d)=false:=by simpa using hnd
 have pr: -9223372036854775808<=p/\p<=9223372036854775807:=by
  have:n<0↔p<0:=hsn;omega
 have qr: -9223372036854775808<=q/\q<=9223372036854775807:=by
  have:d<0↔q<0:=hs;omega
 have w1:wrap64 p=p:=by unfold wrap64;omega
 have w2:wrap64 q=q:=by unfold wrap64;omega
 have w3:IntKind.i64.wrap p=p:=by rw[IntKind.wrap_i64];omega
 have w4:IntKind.i64.wrap q=q:=by rw[IntKind.wrap_i64];omega
 have g0:¬(g:Int)=0:=by omega
 have HS:Hid (d<0↔q<0):=hs;clear hs hsn lp lq hn0 hnd;have HV:=tL w (.int .i64 0) (.int .i64 0) 117
 have HB0:Hid (∀ w1,Below (w.alloc (.cells #[.int .i64 0,.int .i64 0] 117)).heap.size (w.alloc (.cells #[.int .i64 0,.int .i64 0] 117)) w1->Below w.heap.size w w1):=fun w1 h=>((Below.refl _ _).alloc (Nat.le_refl _) _).trans (h.mono (by simp))
 by_cases hq:q<0
 ·have w5:yK (0-p)=yK (-p):=by rw[Int.zero_sub]
  have w6:nC (0-p)=nC (-p):=by rw[Int.zero_sub]
  have w7:yK (0-q)=yK (-q):=by rw[Int.zero_sub]
  have w8:nC (0-q)=nC (-q):=by rw[Int.zero_sub]
  have hN:Hid (uE n d= -p):=by show uE n d= -p;rw[HN.out,if_pos (HS.out.2 hq)]
  have hD:Hid (tO n d= -q):=by show tO n d= -q;rw[HD.out,if_pos (HS.out.2 hq)]
  have sp:=dE 0 p;have sq:=dE 0 q;rw[w5,w6]at sp;rw[w7,w8]at sq;clear w5 w6 w7 w8
  by_cases h1: -9223372036854775808<= -p/\ -p<=9223372036854775807
  ·rw [wE h1,xU h1]at sp
   by_cases h2: -9223372036854775808<= -q/\ -q<=9223372036854775807
   ·rw [wE h2,xU h2]at sq
    have HL:Hid (vT n d=true):=by show vT n d=true;unfold vT;rw[hN.out,hD.out,xU h1,xU h2];rfl
    clear h1 h2
    go_enter Tryz.func99,Tryz.ntmps99
    go_wp2_with (go_at_call 119;refine (hdv _ hn hd hgf).mono ?_;rintro e w1 ⟨rfl,hb⟩;have V:=HV.later hb HV.lt;have c0:=V.c0;have c1:=V.c1;have f0:=V.f0;have f1:=V.f1)
    go_quiet (fail)
    go_wp2_with (first
     |(go_at_call 120;(with_reducible refine (sp _ (by decide) pr).mono ?_);rintro e w' ⟨rfl,rfl⟩)
     |(go_at_call 120;(with_reducible refine (sq _ (by decide) qr).mono ?_);rintro e w' ⟨rfl,rfl⟩)
     |(go_at_call 116;refine (sU _ _).mono ?_;rintro e w' ⟨rfl,rfl⟩))
    refine bodyPost_ret (v:=.agg #[.int .i64 (-p),.int .i64 (-q)]) (by simp[results,Tryz.results99,go_sem,c0,c1]) rfl ⟨?_,.inl ⟨HL.out,by rw[hN.out,hD.out]⟩⟩
    exact pZ (((HB0.out _ hb).setCell (by exact Nat.le_refl _) _).setCell (by exact Nat.le_refl _) _) _
   rw[rA h2,tS h2]at sq
   have HL:Hid (vT n d=false):=by show vT n d=false;unfold vT;rw[hN.out,hD.out,xU h1,tS h2];rfl
   clear h1 h2
   go_enter Tryz.func99,Tryz.ntmps99
   go_wp2_with (go_at_call 119;refine (hdv _ hn hd hgf).mono ?_;rintro e w1 ⟨rfl,hb⟩)
   go_quiet (fail)
   go_wp2_with (first
    |(go_at_call 120;(with_reducible refine (sp _ (by decide) pr).mono ?_);rintro e w' ⟨rfl,rfl⟩)
    |(go_at_call 120;(with_reducible refine (sq _ (by decide) qr).mono ?_);rintro e w' ⟨rfl,rfl⟩)
    |(go_at_call 116;(with_reducible refine (sU _ _).mono ?_);rintro e w' ⟨rfl,rfl⟩)
    |(go_at_call 116;(with_reducible refine (gC _ _).mono ?_);rintro e w' ⟨rfl,rfl⟩))
   exact ⟨rfl,pZ (HB0.out _ hb) _,.inr ⟨HL.out,rfl⟩⟩
  rw[rA h1,tS h1]at sp
  have HL:Hid (vT n d=false):=by show vT n d=false;unfold vT;rw[hN.out,hD.out,tS h1];rfl
  clear h1
  go_enter Tryz.func99,Tryz.ntmps99
  go_wp2_with (go_at_call 119;refine (hdv _ hn hd hgf).mono ?_;rintro e w1 ⟨rfl,hb⟩)
  go_quiet (fail)
  go_wp2_with (first
   |(go_at_call 120;(with_reducible refine (sp _ (by decide) pr).mono ?_);rintro e w' ⟨rfl,rfl⟩)
   |(go_at_call 116;(with_reducible refine (gC _ _).mono ?_);rintro e w' ⟨rfl,rfl⟩))
  exact ⟨rfl,pZ (HB0.out _ hb) _,.inr ⟨HL.out,rfl⟩⟩
 have hN:Hid (uE n d=p):=by show uE n d=p;rw[HN.out,if_neg (fun h=>hq (HS.out.1 h))]
 have hD:Hid (tO n d=q):=by show tO n d=q;rw[HD.out,if_neg (fun h=>hq (HS.out.1 h))]
 have HL:Hid (vT n d=true):=by show vT n d=true;unfold vT;rw[hN.out,hD.out,xU pr,xU qr];rfl
 go_enter Tryz.func99,Tryz.ntmps99
 go_wp2_with (go_at_call 119;refine (hdv _ hn hd hgf).mono ?_;rintro e w1 ⟨rfl,hb⟩;have V:=HV.later hb HV.lt;have c0:=V.c0;have c1:=V.c1;have f0:=V.f0;have f1:=V.f1)
 go_quiet (fail)
 go_wp2
 refine bodyPost_ret (v:=.agg #[.int .i64 p,.int .i64 q]) (by simp[results,Tryz.results99,go_sem,c0,c1]) rfl ⟨?_,.inl ⟨HL.out,by rw[hN.out,hD.out]⟩⟩
 exact pZ (((HB0.out _ hb).setCell (by exact Nat.le_refl _) _).setCell (by exact Nat.le_refl _) _) _
def NewC (w:World) (n d:Int) (bf:Nat) (e:Ending) (w':World):Prop:=
 ∃w1,Below w.heap.size w w1/\((vT n d=true/\e=.returned (.tuple #[])/\w'=(w1.setCell ⟨bf,0,none⟩ (.int .i64 (uE n d))).setCell ⟨bf,1,none⟩ (.int .i64 (tO n d)))\/(vT n d=false/\e=.panicked wY/\w'=w1))
theorem zXT (n d:Int) (bn bd bf:Nat) (w:World) (hn: -9223372036854775808<=n/\n<=9223372036854775807) (hd: -9223372036854775808<=d/\d<=9223372036854775807) (d0:d≠0)
 (vn:wC w bn (.int .i64 n)) (vd:wC w bd (.int .i64 d)) (vf:vJ w bf (.int .i64 0) (.int .i64 0)):
 Calls Tryz.prog 98 #[(qP bn),(qP bd),(qP bf)] w (NewC w n d bf):=by
 have cn:=vn.c0;have cd:=vd.c0;have hlow:=MP n d w hn hd d0
 cases hB:vT n d
 ·have HB:Hid (vT n d=false):=hB
  clear hB
  go_enter Tryz.func98,Tryz.ntmps98
  go_wp2_with (go_at_call 99;refine hlow.mono ?_;rintro e w1 ⟨hb,⟨h1,rfl⟩|⟨h1,rfl⟩⟩;(rw [HB.out]at h1;cases h1))
  exact ⟨rfl,w1,hb,.inr ⟨HB.out,rfl,rfl⟩⟩
 have HB:Hid (vT n d=true):=hB;clear hB
 go_enter Tryz.func98,Tryz.ntmps98
 go_wp2_with (go_at_call 99;refine hlow.mono ?_;rintro e w1 ⟨hb,⟨h1,rfl⟩|⟨h1,rfl⟩⟩;rotate_left;(rw [HB.out]at h1;cases h1);have V:=vf.later hb vf.lt;have c0:=V.c0;have c1:=V.c1;have f0:=V.f0;have f1:=V.f1)
 go_end0
 exact ⟨w1,hb,.inl ⟨HB.out,rfl,rfl⟩⟩
def DM (n d:Int):Int:=if vT n d then uE n d else 0
def DL (n d:Int):Int:=if vT n d then tO n d else 0
def zOK (n d:Int):Int:=if vT n d then 0 else 4
def NewT (w:World) (n d:Int) (bf:Nat) (e:Ending) (w':World):Prop:=
 e=.returned (.int .i64 (zOK n d))/\vJ w' bf (.int .i64 (DM n d)) (.int .i64 (DL n d))/\Below bf w w'
theorem zSX (n d:Int) (bn bd bf:Nat) (w:World) (hn: -9223372036854775808<=n/\n<=9223372036854775807) (hd: -9223372036854775808<=d/\d<=9223372036854775807) (d0:d≠0)
 (vn:wC w bn (.int .i64 n)) (vd:wC w bd (.int .i64 d)) (vf:vJ w bf (.int .i64 0) (.int .i64 0)):
 Calls Tryz.prog 93 #[.func (.func 98) #[] #[(qP bn),(qP bd),(qP bf)]] w (NewT w n d bf):=by
 have b1:Below w.heap.size w (w.alloc (.cells #[.int .i64 0] 31)):=(Below.refl _ _).alloc (Nat.le_refl _) _;have ve:=tK w (.int .i64 0) 31
 have sz:(w.alloc (.cells #[.int .i64 0] 31)).heap.size=w.heap.size+1:=by simp
 have hlt:=vf.lt
 refine (mW 98 _ w (fun ok w1=>ok=vT n d/\Below bf w w1/\vJ w1 bf (.int .i64 (DM n d)) (.int .i64 (DL n d)))
  (fun w'=>by simp[go_sem]) ?_).mono ?_
 ·refine (zXT n d bn bd bf _ hn hd d0 (vn.later b1 vn.lt) (vd.later b1 vd.lt) (vf.later b1 vf.lt)).mono ?_
  rintro e w' ⟨w1,hb,⟨hB,rfl,rfl⟩|⟨hB,rfl,rfl⟩⟩
  ·have hb':=b1.trans (hb.mono (by omega))
   refine ⟨((ve.later hb ve.lt).other (by simp;omega) _).other (by simp;omega) _,.inl ⟨rfl,hB.symm,?_,?_⟩⟩
   ·exact ((hb'.mono (by omega)).setCell (by exact Nat.le_refl _) _).setCell (by exact Nat.le_refl _) _
   unfold DM DL;rw[hB];exact (vf.later hb' vf.lt).put _ _
  have hb':=b1.trans (hb.mono (by omega));refine ⟨ve.later hb ve.lt,.inr ⟨rfl,hB.symm,hb'.mono (by omega),?_⟩⟩
  unfold DM DL;rw[hB];exact vf.later hb' vf.lt
 rintro e w' ⟨ok,w1,⟨rfl,hb,v⟩,rfl,rfl⟩
 exact ⟨rfl,v.other (by simp;omega) _,hb.setCell (by simp;omega) _⟩
def MM (w:World) (n d:Int) (e:Ending) (w':World):Prop:=
 e=.returned (.tuple #[.agg #[.int .i64 (VU n d),.int .i64 (VT n d)],.int .i64 (VR n d)])/\Below w.heap.size w w'
theorem zSW (n d:Int) (w:World) (hn: -9223372036854775808<=n/\n<=9223372036854775807) (hd: -9223372036854775808<=d/\d<=9223372036854775807):
 Calls Tryz.prog 76 #[.int .i64 n,.int .i64 d] w (MM w n d):=by
 have hmf:∀(fn:Fn) (first cap:Array Value) (w:World),(Instr.makeFunc fn first cap).run Tryz.prog w=.ok (.func fn first cap) w:=fun _ _ _ _=>rfl
 by_cases d0:d=0
 ·subst d0
  have K:Hid (VU n 0=0/\VT n 0=0/\VR n 0=20):=zXX n
  go_enter Tryz.func76,Tryz.ntmps76
  go_wp2
  refine bodyPost_ret (v:=.tuple #[.agg #[.int .i64 0,.int .i64 0],.int .i64 20]) (by simp[results,Tryz.results76,go_sem]) rfl ⟨by rw[K.out.1,K.out.2.1,K.out.2.2],?_⟩
  exact (((Below.refl _ _).alloc (Nat.le_refl _) _).alloc (by simp) _).alloc (by simp;omega) _
 have hd0:(d==0)=false:=by simpa using d0
 have HT:Hid (∀ W bn bd bf,wC W bn (.int .i64 n)->wC W bd (.int .i64 d)->vJ W bf (.int .i64 0) (.int .i64 0)->Calls Tryz.prog 93 #[.func (.func 98) #[] #[(qP bn),(qP bd),(qP bf)]] W (NewT W n d bf)):=
  fun W bn bd bf h1 h2 h3=>zSX n d bn bd bf W hn hd d0 h1 h2 h3
 have HE:Hid (VU n d=DM n d/\VT n d=DL n d/\VR n d=zOK n d):=by
  refine ⟨?_,?_,?_⟩
  ·unfold VU;rw[if_neg d0];rfl
  ·unfold VT;rw[if_neg d0];rfl
  unfold VR;rw[if_neg d0];rfl
 have HV:Hid (∃ W,W=(((w.alloc (.cells #[.int .i64 n] 3)).alloc (.cells #[.int .i64 d] 3)).alloc (.cells #[.int .i64 0,.int .i64 0] 117)).alloc (.cells #[.int .i64 0,.int .i64 0] 117)/\wC W w.heap.size (.int .i64 n)/\wC W (w.heap.size+1) (.int .i64 d)/\vJ W (w.heap.size+1+1) (.int .i64 0) (.int .i64 0)/\vJ W (w.heap.size+1+1+1) (.int .i64 0) (.int .i64 0)/\Below w.heap.size w W):=by
  refine ⟨_,rfl,?_,?_,?_,?_,?_⟩
  ·exact (((tK w _ _).alloc _).alloc _).alloc _
  ·exact ((IE _ _ _ (by simp)).alloc _).alloc _
  ·exact (lU _ _ _ _ (by simp)).alloc _
  ·exact lU _ _ _ _ (by simp)
  exact ((((Below.refl _ _).alloc (Nat.le_refl _) _).alloc (by simp) _).alloc (by simp;omega) _).alloc (by simp;omega) _
 go_enter Tryz.func76,Tryz.ntmps76
 go_wp2_with (go_at_call 93;obtain ⟨W,eW,k0,k1,k2,k3,kb⟩:=HV.out;subst eW;refine (HT.out _ _ _ _ k0 k1 k3).mono ?_;rintro e w1 ⟨rfl,v,hb⟩;have c0:=v.c0;have c1:=v.c1;have r:=k2.later hb (by omega);have d0:=r.c0;have d1:=r.c1;have f0:=r.f0;have f1:=r.f1)
 refine bodyPost_ret (v:=.tuple #[.agg #[.int .i64 (DM n d),.int .i64 (DL n d)],.int .i64 (zOK n d)]) (by simp[results,Tryz.results76,go_sem,d0,d1]) rfl ⟨by rw[HE.out.1,HE.out.2.1,HE.out.2.2],?_⟩
 exact ((kb.trans (hb.mono (by omega))).setCell (by simp;omega) _).setCell (by simp;omega) _
theorem DK (n d:Int) (w:World) (hn: -9223372036854775808<=n/\n<=9223372036854775807) (hd: -9223372036854775808<=d/\d<=9223372036854775807):
 Calls Tryz.prog 113 #[.agg #[.int .i64 n,.int .i64 d]] w fun e w'=>e=.returned (.bool (yM n d))/\Below w.heap.size w w':=by
 by_cases h:0<d
 ·have hdv:=pY n d
  have hgf:=pJ (n:=n) hd.2 h
  have HV:Hid (yM n d=decide (gg n d=1)):=by show yM n d=_;unfold yM;rw[decide_eq_true h];rfl
  by_cases hg:gg n d=1
  ·have HG:Hid (yM n d=true):=by show yM n d=true;rw[HV.out,decide_eq_true hg]
   rw[hg]at hdv hgf;clear hg
   go_enter Tryz.func113,Tryz.ntmps113
   go_wp2_with (go_at_call 119;refine (hdv _ hn hd hgf).mono ?_;rintro e w1 ⟨rfl,hb⟩)
   go_ret
   exact ⟨by rw[HG.out];rfl,((Below.refl _ _).alloc (Nat.le_refl _) _).trans (hb.mono (by simp))⟩
  have HG:Hid (yM n d=false):=by show yM n d=false;rw[HV.out,decide_eq_false hg]
  have hg1:((gg n d:Int)==1)=false:=by simp;omega
  generalize gg n d=g at *
  go_enter Tryz.func113,Tryz.ntmps113
  go_wp2_with (go_at_call 119;refine (hdv _ hn hd hgf).mono ?_;rintro e w1 ⟨rfl,hb⟩)
  go_ret
  exact ⟨by rw[HG.out];rfl,((Below.refl _ _).alloc (Nat.le_refl _) _).trans (hb.mono (by simp))⟩
 have HG:Hid (yM n d=false):=by show yM n d=false;unfold yM;rw[decide_eq_false h];rfl
 go_enter Tryz.func113,Tryz.ntmps113
 go_wp2
 go_ret
 exact ⟨by rw[HG.out];rfl,(Below.refl _ _).alloc (Nat.le_refl _) _⟩
end Go.Proofs.YtpohmekkdjdhmaaGreat
