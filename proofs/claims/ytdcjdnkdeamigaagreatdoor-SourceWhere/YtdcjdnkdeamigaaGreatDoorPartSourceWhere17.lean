/- Texts of one chain. -/
import Derived.Test.YtdcjdnkdeamigaaGreatDoorPartQ
import Derived.Test.YtdcjdnkdeamigaaGreatDoorPartSourceWhere16
import Derived.Test.YtdcjdnkdeamigaaGreatDoorPartSourceWhere4
import Derived.Recover
import Derived.Laws.AppendOwnNone
set_option maxRecDepth 100000
set_option maxHeartbeats 2000000
namespace Go.Proofs.YtdcjdnkdeamigaaGreatDoor
open Go.ChangeShapes Go.WideShapes Go.ChangeAt Go.RowKit
def zH:List PanicEntry:=[{ v:=.iface 31 (.int .i64 50),recovered:=false }]
structure yH (P : Nat) (v : Value) (ts : List yJ) (i : Nat) (w : World) : Prop where
 here:w.heap[P]? =some (.cells #[v,.int .i64 (i:Int)] 93 (0,0))
 row:∃g cap,v=.slice (some ⟨g,0,none⟩) ts.length cap/\g≠P/\g<w.heap.size/\∀k,k<ts.length->iK w g (k*4) (zM ts k)
theorem yH.c0 {P v ts i w} (h:yH P v ts i w):w.cell? ⟨P,0,none⟩=some v:=by simp[World.cell?,h.here]
theorem yH.c1 {P v ts i w} (h:yH P v ts i w):w.cell? ⟨P,1,none⟩=some (.int .i64 (i:Int)):=by simp[World.cell?,h.here]
theorem yH.f1 {P v ts i w} (h:yH P v ts i w):w.frozen? ⟨P,1,none⟩=false:=by simp[World.frozen?,h.here]
theorem yH.lt {P v ts i w} (h:yH P v ts i w):P<w.heap.size:=(Array.getElem?_eq_some_iff.1 h.here).1
theorem iK.block {w w' g o t} (h:iK w g o t) (e:w'.heap[g]? =w.heap[g]?):iK w' g o t:=by
 have f:∀o,w'.cell? ⟨g,o,none⟩=w.cell? ⟨g,o,none⟩:=fun o=>by unfold World.cell?;rw[e]
 exact ⟨(f _).trans h.c0,(f _).trans h.c1,(f _).trans h.c2,(f _).trans h.c3⟩
theorem yH.moved {P v ts} {i j:Nat} {w w'} (h:yH P v ts i w) (hg:w.grownBy w' (some P)) (hh:w'.heap[P]? =some (.cells #[v,.int .i64 (j:Int)] 93 (0,0))):yH P v ts j w':=by
 refine ⟨hh,?_⟩
 obtain ⟨g,cap,hv,hne,hlt,hc⟩:=h.row;exact ⟨g,cap,hv,hne,Nat.lt_of_lt_of_le hlt hg.size,fun k hk=>(hc k hk).block (hg.block g hlt (fun e=>hne (Option.some.inj e)))⟩
theorem yH.below {P v ts i w w'} (h:yH P v ts i w) (hb:Below w.heap.size w w'):yH P v ts i w':=by
 refine ⟨(hb.block _ h.lt).trans h.here,?_⟩
 obtain ⟨g,cap,hv,hne,hlt,hc⟩:=h.row;exact ⟨g,cap,hv,hne,Nat.lt_of_lt_of_le hlt hb.size,fun k hk=>(hc k hk).block (hb.block g hlt)⟩
theorem yH.alloc {P v ts i w} (h:yH P v ts i w) (o:Obj):yH P v ts i (w.alloc o):=h.below ((Below.refl _ _).alloc (Nat.le_refl _) _)
structure zN (P : Nat) (v : Value) (ts : List yJ) (j : Nat) (W w' : World) : Prop where
 par:yH P v ts j w'
 grown:W.grownBy w' (some P)
theorem zN.trans {P v ts j k W w1 w2} (h:zN P v ts j W w1) (h2:zN P v ts k w1 w2):zN P v ts k W w2:=⟨h2.par,Lib.grownBy_trans h.grown h2.grown⟩
theorem eY {W w':World} (h:Below W.heap.size W w') (P:Option Nat):W.grownBy w' P:=⟨h.os,h.tape,h.output,h.size,fun k hk _=>h.block k hk⟩
theorem zN.stay {P v ts i W w'} (h:yH P v ts i W) (hb:Below W.heap.size W w'):zN P v ts i W w':=⟨h.below hb,eY hb _⟩
theorem zN.refl {P v ts i W} (h:yH P v ts i W):zN P v ts i W W:=zN.stay h (Below.refl _ _)
theorem zN.later {P v ts j W w1 w2} (h:zN P v ts j W w1) (hb:Below w1.heap.size w1 w2):zN P v ts j W w2:=h.trans (zN.stay h.par hb)
theorem SR {w w1:World} {n:Nat} {x y z u:Value} (h:Below w.heap.size w w1) (hn:w.heap.size<=n):Below w.heap.size w ((((w1.setCell ⟨n,0,none⟩ x).setCell ⟨n,1,none⟩ y).setCell ⟨n,2,none⟩ z).setCell ⟨n,3,none⟩ u):=
 (((h.setCell (p:=⟨n,0,none⟩) hn x).setCell (p:=⟨n,1,none⟩) hn y).setCell (p:=⟨n,2,none⟩) hn z).setCell (p:=⟨n,3,none⟩) hn u
theorem wZ (P:Nat) (v:Value) (ts:List yJ) (q:Nat) (W:World) (h:yH P v ts q W) (hi:q<ts.length) (hl:ts.length<=2000000):
 Calls Tryz.prog 46 #[(qP P)] W fun e w'=>e=.returned (xH (zM ts q))/\Below W.heap.size W w':=by
 have hbA:=(Below.refl W.heap.size W).alloc (Nat.le_refl _) (.cells #[.int .u8 0,qE,.int .i64 0,.int .i64 0] 96);have h:=h.below hbA;have HBX:=zY (wA W (.int .u8 0) (qE) (.int .i64 0) (.int .i64 0));have hc0:=h.c0;have hc1:=h.c1;have hPl:=h.lt;obtain ⟨g,cap,rfl,-,hgl,hc⟩:=h.row;obtain ⟨a0,a1,a2,a3⟩:=hc q hi
 have hii:(q:Int)<(ts.length:Int):=by omega
 have hin:=hi
 have hll:(ts.length:Int)<=2000000:=by omega
 have HBA:=zY hbA;clear h hc hbA;unfold xH;generalize zM ts q=t at *;obtain ⟨so,tx,nm,pl⟩:=t;simp only at a0 a1 a2 a3;generalize zW tx=S at *;generalize ts.length=N at *
 go_enter Tryz.func46,Tryz.ntmps46
 go_wp2
 generalize hW0:W.alloc (.cells #[.int .u8 0,qE,.int .i64 0,.int .i64 0] 96)=W0 at *
 refine yK 10 (fun i u v=>match i with
  |0=>v=(qP P)
  |1=>v=(qP P)
  |2=>v=(qP P)
  |3=>v=.slice (some ⟨g,0,none⟩) N cap
  |4=>v=(qP P)
  |5=>v=(qP P)
  |6=>v=.pointer (some ⟨P,1,none⟩)
  |7=>v=.int .i64 (q:Int)
  |8=>v=.pointer (some ⟨g,q*4,none⟩)
  |9=>v=.agg #[.int .u8 so,.string S,.int .i64 nm,.int .i64 pl]
  |_=>True) (by kernel_rfl) (by kernel_rfl) (by kernel_rfl) (by kernel_rfl) ?_ ?_ ?_
 ·intro i w v w' h hb
  match i,h with
  |0,h=>exact h
  |1,h=>exact h
  |2,h=>exact h
  |3,h=>exact h
  |4,h=>exact h
  |5,h=>exact h
  |6,h=>exact h
  |7,h=>exact h
  |8,h=>exact h
  |9,h=>exact h
  |_+10,_=>trivial
 ·intro i o ρ w' hi ho hb hc hf hfr zX
  have LK:∀ {a:Addr} {x:Value},a.block<W0.heap.size->W0.cell? a=some x->w'.cell? a=some x:=fun h1 h2=>(hb.cell h1).trans h2
  have k0:=LK hPl hc0;have k1:=LK hPl hc1;have k2:=LK hgl a0;have k3:=LK hgl a1;have k4:=LK hgl a2;have k5:=LK hgl a3
  match i,hi with
  |0,_=>
   simp only[qS]at ho;subst ho;have ts: ρ (.tmp 0)=(qP P):=(qR hfr 0);simp[go_sem,ts];exact qB
  |1,_=>
   simp only[qS]at ho;subst ho;have ts: ρ (.tmp 3)=(qP P):=(qH zX 0 3);simp[go_sem,ts];exact qB
  |2,_=>
   simp only[qS]at ho;subst ho;have ts: ρ (.tmp 4)=(qP P):=(qH zX 1 4);simp[go_sem,ts];exact qB
  |3,_=>
   simp only[qS]at ho;subst ho;have ts: ρ (.tmp 5)=(qP P):=(qH zX 2 5);simp[go_sem,ts,k0];exact qB
  |4,_=>
   simp only[qS]at ho;subst ho;have ts: ρ (.tmp 0)=(qP P):=(qR hfr 0);simp[go_sem,ts];exact qB
  |5,_=>
   simp only[qS]at ho;subst ho;have ts: ρ (.tmp 7)=(qP P):=(qH zX 4 7);simp[go_sem,ts];exact qB
  |6,_=>
   simp only[qS]at ho;subst ho;have ts: ρ (.tmp 8)=(qP P):=(qH zX 5 8);simp[go_sem,ts];exact qB
  |7,_=>
   simp only[qS]at ho;subst ho;have ts: ρ (.tmp 9)=.pointer (some ⟨P,1,none⟩):=(qH zX 6 9);simp[go_sem,ts,k1];exact qB
  |8,_=>
   simp only[qS]at ho;subst ho;have t1: ρ (.tmp 6)=.slice (some ⟨g,0,none⟩) N cap:=(qH zX 3 6);have t2: ρ (.tmp 10)=.int .i64 (q:Int):=(qH zX 7 10);simp[go_sem,t1,t2,hin];exact qB
  |9,_=>
   simp only[qS]at ho;subst ho;have ts: ρ (.tmp 11)=.pointer (some ⟨g,q*4,none⟩):=(qH zX 8 11);simp[go_sem,ts,k2,k3,k4,k5];exact qB
 intro V w9 q9 hS;have e0:V 0=(qP P):=hS 0 (by decide);have e1:V 1=(qP P):=hS 1 (by decide);have e2:V 2=(qP P):=hS 2 (by decide);have e3:V 3=.slice (some ⟨g,0,none⟩) N cap:=hS 3 (by decide);have e4:V 4=(qP P):=hS 4 (by decide);have e5:V 5=(qP P):=hS 5 (by decide);have e6:V 6=.pointer (some ⟨P,1,none⟩):=hS 6 (by decide);have e7:V 7=.int .i64 (q:Int):=hS 7 (by decide);have e8:V 8=.pointer (some ⟨g,q*4,none⟩):=hS 8 (by decide);have e9:V 9=.agg #[.int .u8 so,.string S,.int .i64 nm,.int .i64 pl]:=hS 9 (by decide);simp only[List.drop_succ_cons,List.drop_zero,List.take_succ_cons,List.take_zero,xA,e0,e1,e2,e3,e4,e5,e6,e7,e8,e9];clear hS e0 e1 e2 e3 e4 e5 e6 e7 e8 e9 V;obtain ⟨x1,y1,z5,u1,c0,c1,c2,c3,f0,f1,f2,f3⟩:=(HBX.out.below q9).parts
 go_wp2
 exact bodyPost_ret (v:=.agg #[.int .u8 so,.string S,.int .i64 nm,.int .i64 pl]) (by simp[results,Tryz.results46,go_sem,c0,c1,c2,c3]) rfl ⟨rfl,SR (HBA.out.trans (q9.mono HBA.out.size)) (Nat.le_refl _)⟩
theorem CV (a b c d:Value) (w:World):(Instr.field 96 (.agg #[a,b,c,d]) 0).run Tryz.prog w=.ok a w:=by kernel_rfl
theorem KQ (a b c d:Value) (w:World):(Instr.field 96 (.agg #[a,b,c,d]) 1).run Tryz.prog w=.ok b w:=by kernel_rfl
theorem CU (a b c d:Value) (w:World):(Instr.field 96 (.agg #[a,b,c,d]) 2).run Tryz.prog w=.ok c w:=by kernel_rfl
theorem uF (a b c d:Value) (w:World):(Instr.field 96 (.agg #[a,b,c,d]) 3).run Tryz.prog w=.ok d w:=by kernel_rfl
theorem ZN (P:Nat) (v:Value) (ts:List yJ) (i:Nat) (W:World) (h:yH P v ts i W) (hi:i<ts.length) (hl:ts.length<=2000000) (s:Int):
 Calls Tryz.prog 88 #[(qP P),.int .u8 s] W fun e w'=>e=.returned (.bool (decide ((zM ts i).sort=s)))/\Below W.heap.size W w':=by
 have HA:=zY (wZ P v ts i W h hi hl);clear h;unfold xH at HA;generalize zM ts i=t at *;obtain ⟨so,tx,nm,pl⟩:=t;simp only at HA ⊢;have ff:=CV
 go_enter Tryz.func88,Tryz.ntmps88
 go_wp2_with (go_at_call 46;(with_reducible refine HA.out.mono ?_);rintro e w1 ⟨rfl,hb⟩;have HB:=zY hb;clear hb)
 go_ret
 exact ⟨rfl,HB.out⟩
theorem yA (P:Nat) (v:Value) (ts:List yJ) (i:Nat) (W:World) (h:yH P v ts i W) (hi:i<ts.length) (hl:ts.length<=2000000) (x:List UInt8):
 Calls Tryz.prog 85 #[(qP P),.string (zW x)] W fun e w'=>e=.returned (.bool (decide ((zM ts i).text=x)))/\Below W.heap.size W w':=by
 have HA:=zY (wZ P v ts i W h hi hl);clear h;unfold xH at HA;generalize zM ts i=t at *;obtain ⟨so,tx,nm,pl⟩:=t;simp only at HA ⊢;have e1:=sJ tx;have e2:=sJ x
 have e3:(tx==x)=decide (tx=x):=by
  by_cases h:tx=x
  ·simp [h]
  rw[decide_eq_false h];simpa using h
 have ff:=KQ
 go_enter Tryz.func85,Tryz.ntmps85
 go_wp2_with (go_at_call 46;(with_reducible refine HA.out.mono ?_);rintro e w1 ⟨rfl,hb⟩;have HB:=zY hb;clear hb)
 go_ret
 exact ⟨rfl,HB.out⟩
theorem yH.set {P v ts i w} (h:yH P v ts i w) (j:Nat):zN P v ts j w (w.setCell ⟨P,1,none⟩ (.int .i64 (j:Int))):=by
 have hg:w.grownBy (w.setCell ⟨P,1,none⟩ (.int .i64 (j:Int))) (some P):=
  ⟨rfl,rfl,rfl,by simp,fun k _ hk=>Below.heap_setCell w _ _ k (fun e=>hk (by rw[e]))⟩
 refine ⟨h.moved hg ?_,hg⟩
 rw[heap_setCell_same w P 1 _ _ _ h.here];rfl
theorem yH.blk {P v ts i w} (h:yH P v ts i w) {n:Nat} (hn:w.heap.size<=n):v.ownBlock≠some n/\P≠n:=by
 obtain ⟨g,cap,rfl,-,hlt,-⟩:=h.row;have:=h.lt;exact ⟨fun e=>by have:g=n:=Option.some.inj e;omega,by omega⟩
theorem yH.other {P v ts i w} (h:yH P v ts i w) {n k:Nat} (hn:v.ownBlock≠some n/\P≠n) (x:Value):yH P v ts i (w.setCell ⟨n,k,none⟩ x):=by
 refine ⟨(Below.heap_setCell w _ _ P hn.2).trans h.here,?_⟩
 obtain ⟨g,cap,rfl,hne,hlt,hc⟩:=h.row;exact ⟨g,cap,rfl,hne,by rw[World.size_setCell];exact hlt,fun k hk=>(hc k hk).block (Below.heap_setCell w _ _ g (fun e=>hn.1 (congrArg some e)))⟩
theorem zN.put {P v ts j W w1} (h:zN P v ts j W w1) {n k:Nat} (hn:v.ownBlock≠some n/\P≠n) (hs:W.heap.size<=n) (x:Value):zN P v ts j W (w1.setCell ⟨n,k,none⟩ x):=⟨h.par.other hn x,nZ h.grown hs⟩
theorem SO {P:Nat} {w1:World} {a b c d:Value} (X:Value) (hP:P<w1.heap.size):let w2:=(w1.alloc (.cells #[a,b,c,d] 96)).setCell ⟨P,1,none⟩ X
 w2.cell? ⟨w1.heap.size,0,none⟩=some a/\w2.cell? ⟨w1.heap.size,1,none⟩=some b/\w2.cell? ⟨w1.heap.size,2,none⟩=some c/\w2.cell? ⟨w1.heap.size,3,none⟩=some d:=by
 have hne:w1.heap.size≠P:=by omega
 have e:=Below.heap_setCell (w1.alloc (.cells #[a,b,c,d] 96)) ⟨P,1,none⟩ X w1.heap.size hne
 have e2:(w1.alloc (.cells #[a,b,c,d] 96)).heap[w1.heap.size]? =some (.cells #[a,b,c,d] 96 (0,0)):=by show (w1.heap.push _)[w1.heap.size]? =_;simp
 have e3:=e.trans e2
 refine ⟨?_,?_,?_,?_⟩<;>(unfold World.cell?;rw[e3];rfl)
theorem rA.step {n P w} (h:rA n w) (hn:n≠P) (o:Obj) (X:Value):rA n ((w.alloc o).setCell ⟨P,1,none⟩ X):=by
 have hl:=h.lt;obtain ⟨x,y,z,u,h⟩:=h;exact ⟨x,y,z,u,(Below.heap_setCell _ _ _ n hn).trans ((Below.heap_alloc w o n hl).trans h)⟩
theorem XU (P:Nat) (v:Value) (ts:List yJ) (i:Nat) (W:World) (h:yH P v ts i W) (hi:i<ts.length) (hl:ts.length<=2000000):
 Calls Tryz.prog 142 #[(qP P)] W fun e w'=>e=.returned (xH (zM ts i))/\zN P v ts (i+1) W w':=by
 have hb0:=(Below.refl W.heap.size W).alloc (Nat.le_refl _) (.cells #[.int .u8 0,qE,.int .i64 0,.int .i64 0] 96);have HA:=zY (wZ P v ts i _ (h.below hb0) hi hl);have HPR:=zY (zN.stay h hb0);have HBX:=zY (wA W (.int .u8 0) (qE) (.int .i64 0) (.int .i64 0));have HBK:=zY (h.blk (Nat.le_refl _))
 have hiI:(i:Int)<(ts.length:Int):=by omega
 have hll:(ts.length:Int)<=2000000:=by omega
 clear h hb0;unfold xH at HA ⊢;generalize zM ts i=t at *;obtain ⟨so,tx,nm,pl⟩:=t;simp only at HA ⊢
 go_enter Tryz.func142,Tryz.ntmps142
 go_wp2_with (go_at_call 46;(with_reducible refine HA.out.mono ?_);rintro e w1 ⟨rfl,hb⟩;have HG:=zY (HPR.out.later hb);have HX:=zY (HBX.out.below hb);clear hb;have c1:=fun o=>(HG.out.par.alloc o).c1;have f1:=fun o=>(HG.out.par.alloc o).f1;obtain ⟨d0,d1,d2,d3⟩:=SO (a:=.int .u8 so) (b:=.string (zW tx)) (c:=.int .i64 nm) (d:=.int .i64 pl) (.int .i64 ((i:Int)+1)) HG.out.par.lt;obtain ⟨x1,y1,z5,u1,k0,k1,k2,k3,g0,g1,g2,g3⟩:=(HX.out.step (fun e=>HBK.out.2 e.symm) (.cells #[.int .u8 so,.string (zW tx),.int .i64 nm,.int .i64 pl] 96) (.int .i64 ((i:Int)+1))).parts)
 exact bodyPost_ret (v:=.agg #[.int .u8 so,.string (zW tx),.int .i64 nm,.int .i64 pl]) (by simp[results,Tryz.results142,go_sem,k0,k1,k2,k3]) rfl ⟨rfl,by
  have q1:=(HG.out.later ((Below.refl _ _).alloc (Nat.le_refl _) (.cells #[.int .u8 so,.string (zW tx),.int .i64 nm,.int .i64 pl] 96)));have q2:=q1.trans (q1.par.set (i+1))
  exact (((q2.put HBK.out (Nat.le_refl _) _).put HBK.out (Nat.le_refl _) _).put HBK.out (Nat.le_refl _) _).put HBK.out (Nat.le_refl _) _⟩
theorem dT (p:Value) (W:World):Calls Tryz.prog 87 #[p,.bool false] W fun e w'=>e=.panicked zH/\Below W.heap.size W w':=by
 have hp:∀w:World,(Instr.panic (.iface 31 (.int .i64 50))).run Tryz.prog w=.halt (.panic (.iface 31 (.int .i64 50))) w:=fun _=>rfl
 go_enter Tryz.func87,Tryz.ntmps87
 go_wp2
 exact ⟨rfl,rfl,(Below.refl _ _).alloc (Nat.le_refl _) _⟩
theorem iJ (P:Nat) (v:Value) (ts:List yJ) (i:Nat) (W:World) (h:yH P v ts i W) (hi:i<ts.length) (hl:ts.length<=2000000):
 Calls Tryz.prog 87 #[(qP P),.bool true] W fun e w'=>e=.returned (xH (zM ts i))/\zN P v ts (i+1) W w':=by
 have hb0:=(Below.refl W.heap.size W).alloc (Nat.le_refl _) (.cells #[.int .u8 0,qE,.int .i64 0,.int .i64 0] 96);have HA:=zY (XU P v ts i _ (h.below hb0) hi hl);have HPR:=zY (zN.stay h hb0);have HBX:=zY (wA W (.int .u8 0) (qE) (.int .i64 0) (.int .i64 0));have HBK:=zY (h.blk (Nat.le_refl _));clear h hb0;unfold xH at HA ⊢;generalize zM ts i=t at *;obtain ⟨so,tx,nm,pl⟩:=t;simp only at HA ⊢
 go_enter Tryz.func87,Tryz.ntmps87
 go_wp2_with (go_at_call 142;(with_reducible refine HA.out.mono ?_);rintro e w1 ⟨rfl,hg⟩;have HG:=zY (HPR.out.trans hg);obtain ⟨x1,y1,z5,u1,k0,k1,k2,k3,g0,g1,g2,g3⟩:=(HBX.out.grown hg.grown (fun e=>HBK.out.2 e.symm)).parts;clear hg)
 exact bodyPost_ret (v:=.agg #[.int .u8 so,.string (zW tx),.int .i64 nm,.int .i64 pl]) (by simp[results,Tryz.results87,go_sem,k0,k1,k2,k3]) rfl ⟨rfl,
  (((HG.out.put HBK.out (Nat.le_refl _) _).put HBK.out (Nat.le_refl _) _).put HBK.out (Nat.le_refl _) _).put HBK.out (Nat.le_refl _) _⟩
theorem mY (P:Nat) (v:Value) (ts:List yJ) (i:Nat) (W:World) (h:yH P v ts i W) (hi:i<ts.length) (hl:ts.length<=2000000) (x:List UInt8) (hx:(zM ts i).text=x):
 Calls Tryz.prog 83 #[(qP P),.string (zW x)] W fun e w'=>e=.returned (.tuple #[])/\zN P v ts (i+1) W w':=by
 have HS:=zY (yA P v ts i W h hi hl x);rw[decide_eq_true hx]at HS;have HPR:=zY h
 have HN:Hid (∀ w1,yH P v ts i w1->Calls Tryz.prog 87 #[(qP P),.bool true] w1 fun e w'=>e=.returned (xH (zM ts i))/\zN P v ts (i+1) w1 w'):=fun w1 h1=>iJ P v ts i w1 h1 hi hl
 clear h hx
 go_enter Tryz.func83,Tryz.ntmps83
 go_wp2_with (first
  |(go_at_call 87;(with_reducible refine (HN.out _ HG.out.par).mono ?_);rintro e w2 ⟨rfl,hg⟩;have HG2:=zY (HG.out.trans hg);clear hg)
  |(go_at_call 85;(with_reducible refine HS.out.mono ?_);rintro e w1 ⟨rfl,hb⟩;have HG:=zY (zN.stay HPR.out hb);clear hb))
 go_end0
 exact ⟨rfl,HG2.out⟩
theorem ZM (P:Nat) (v:Value) (ts:List yJ) (i:Nat) (W:World) (h:yH P v ts i W) (hi:i<ts.length) (hl:ts.length<=2000000) (x:List UInt8) (hx:(zM ts i).text≠x):
 Calls Tryz.prog 83 #[(qP P),.string (zW x)] W fun e w'=>e=.panicked zH/\zN P v ts i W w':=by
 have HS:=zY (yA P v ts i W h hi hl x);rw[decide_eq_false hx]at HS;have HPR:=zY h;have HN:=zY dT;clear h hx
 go_enter Tryz.func83,Tryz.ntmps83
 go_wp2_with (first
  |(go_at_call 87;(with_reducible refine (HN.out _ _).mono ?_);rintro e w2 ⟨rfl,hb⟩;have HG2:=zY (HG.out.later hb);clear hb)
  |(go_at_call 85;(with_reducible refine HS.out.mono ?_);rintro e w1 ⟨rfl,hb⟩;have HG:=zY (zN.stay HPR.out hb);clear hb))
 exact ⟨rfl,rfl,HG2.out⟩
theorem kN (P:Nat) (v:Value) (ts:List yJ) (i:Nat) (W:World) (h:yH P v ts i W) (hi:i<ts.length) (hl:ts.length<=2000000) (hx:(zM ts i).sort=1):
 Calls Tryz.prog 84 #[(qP P)] W fun e w'=>e=.returned (.string (zW (zM ts i).text))/\zN P v ts (i+1) W w':=by
 have HS:=zY (ZN P v ts i W h hi hl 1);rw[decide_eq_true hx]at HS;have HPR:=zY h
 have HN:Hid (∀ w1,yH P v ts i w1->Calls Tryz.prog 87 #[(qP P),.bool true] w1 fun e w'=>e=.returned (xH (zM ts i))/\zN P v ts (i+1) w1 w'):=fun w1 h1=>iJ P v ts i w1 h1 hi hl
 have ff:=KQ;clear h hx;unfold xH at HN;generalize zM ts i=t at *;obtain ⟨so,tx,nm,pl⟩:=t;simp only at HN ⊢
 go_enter Tryz.func84,Tryz.ntmps84
 go_wp2_with (first
  |(go_at_call 87;(with_reducible refine (HN.out _ HG.out.par).mono ?_);rintro e w2 ⟨rfl,hg⟩;have HG2:=zY (HG.out.trans hg);clear hg)
  |(go_at_call 88;(with_reducible refine HS.out.mono ?_);rintro e w1 ⟨rfl,hb⟩;have HG:=zY (zN.stay HPR.out hb);clear hb))
 go_ret
 exact ⟨rfl,HG2.out⟩
theorem VZ (P:Nat) (v:Value) (ts:List yJ) (i:Nat) (W:World) (h:yH P v ts i W) (hi:i<ts.length) (hl:ts.length<=2000000) (hx:(zM ts i).sort≠1):
 Calls Tryz.prog 84 #[(qP P)] W fun e w'=>e=.panicked zH/\zN P v ts i W w':=by
 have HS:=zY (ZN P v ts i W h hi hl 1);rw[decide_eq_false hx]at HS;have HPR:=zY h;have HN:=zY dT;clear h hx
 go_enter Tryz.func84,Tryz.ntmps84
 go_wp2_with (first
  |(go_at_call 87;(with_reducible refine (HN.out _ _).mono ?_);rintro e w2 ⟨rfl,hb⟩;have HG2:=zY (HG.out.later hb);clear hb)
  |(go_at_call 88;(with_reducible refine HS.out.mono ?_);rintro e w1 ⟨rfl,hb⟩;have HG:=zY (zN.stay HPR.out hb);clear hb))
 exact ⟨rfl,rfl,HG2.out⟩
theorem lL (P:Nat) (v:Value) (ts:List yJ) (i:Nat) (W:World) (h:yH P v ts i W) (hi:i<ts.length) (hl:ts.length<=2000000) (hx:(zM ts i).sort=2):
 Calls Tryz.prog 166 #[(qP P)] W fun e w'=>e=.returned (.int .i64 (zM ts i).num)/\zN P v ts (i+1) W w':=by
 have HS:=zY (ZN P v ts i W h hi hl 2);rw[decide_eq_true hx]at HS;have HPR:=zY h
 have HN:Hid (∀ w1,yH P v ts i w1->Calls Tryz.prog 87 #[(qP P),.bool true] w1 fun e w'=>e=.returned (xH (zM ts i))/\zN P v ts (i+1) w1 w'):=fun w1 h1=>iJ P v ts i w1 h1 hi hl
 have ff:=CU;clear h hx;unfold xH at HN;generalize zM ts i=t at *;obtain ⟨so,tx,nm,pl⟩:=t;simp only at HN ⊢
 go_enter Tryz.func166,Tryz.ntmps166
 go_wp2_with (first
  |(go_at_call 87;(with_reducible refine (HN.out _ HG.out.par).mono ?_);rintro e w2 ⟨rfl,hg⟩;have HG2:=zY (HG.out.trans hg);clear hg)
  |(go_at_call 88;(with_reducible refine HS.out.mono ?_);rintro e w1 ⟨rfl,hb⟩;have HG:=zY (zN.stay HPR.out hb);clear hb))
 go_ret
 exact ⟨rfl,HG2.out⟩
theorem cS (P:Nat) (v:Value) (ts:List yJ) (i:Nat) (W:World) (h:yH P v ts i W) (hi:i<ts.length) (hl:ts.length<=2000000) (hx:(zM ts i).sort≠2):
 Calls Tryz.prog 166 #[(qP P)] W fun e w'=>e=.panicked zH/\zN P v ts i W w':=by
 have HS:=zY (ZN P v ts i W h hi hl 2);rw[decide_eq_false hx]at HS;have HPR:=zY h;have HN:=zY dT;clear h hx
 go_enter Tryz.func166,Tryz.ntmps166
 go_wp2_with (first
  |(go_at_call 87;(with_reducible refine (HN.out _ _).mono ?_);rintro e w2 ⟨rfl,hb⟩;have HG2:=zY (HG.out.later hb);clear hb)
  |(go_at_call 88;(with_reducible refine HS.out.mono ?_);rintro e w1 ⟨rfl,hb⟩;have HG:=zY (zN.stay HPR.out hb);clear hb))
 exact ⟨rfl,rfl,HG2.out⟩
theorem Tryz.info3':(Tryz.prog.info? 3).map (fun i=>(i.zero,i.size,i.bytes))=some (some (.int .i64 0),1,8):=by kernel_rfl
theorem fZ {base:Nat} {w:World} {e:TypeId} {size n:Nat} {v:Value} {xs:List Value} (h:w.ownsRow base e size v n xs) {k:Nat} (hk:k<base):v.ownBlock≠some k:=by
 rcases h.2 with ⟨rfl,-⟩|⟨g,c,cur,rfl,hg,-⟩
 ·intro e;cases e
 intro e;cases e;exact absurd hk (by simpa using hg)
theorem mX {base:Nat} {w w':World} {e:TypeId} {size n:Nat} {v:Value} {xs:List Value} {b:Nat} (h:w.ownsRow base e size v n xs) (hg:w.grownBy w' (some b)) (hb:b<base):w'.ownsRow base e size v n xs:=World.ownsRow.kept h hg (Or.inr (fZ h hb))
theorem tW {base:Nat} {w w':World} {e:TypeId} {size n:Nat} {v:Value} {xs:List Value} (h:w.ownsRow base e size v n xs) (hb:Below w.heap.size w w'):w'.ownsRow base e size v n xs:=by
 refine ⟨h.1,?_⟩
 rcases h.2 with h2|⟨g,cap,cur,hv,hg,hh,r⟩
 ·exact .inl h2
 refine .inr ⟨g,cap,cur,hv,hg,?_,r⟩
 rw[hb.block g (Array.getElem?_eq_some_iff.1 hh).1];exact hh
theorem eX {base base':Nat} {w:World} {e:TypeId} {size n:Nat} {v:Value} {xs:List Value} (h:w.ownsRow base e size v n xs) (hb:base'<=base):w.ownsRow base' e size v n xs:=by
 refine ⟨h.1,?_⟩
 rcases h.2 with h2|⟨g,cap,cur,hv,hg,r⟩
 ·exact .inl h2
 exact .inr ⟨g,cap,cur,hv,Nat.le_trans hb hg,r⟩
def yZ (base:Nat) (w:World) (v:Value) (ns:List Int):Prop:=w.ownsRow base 3 1 v ns.length (ns.map (Value.int .i64))
theorem yZ.app {base w v' ns x} (h:w.ownsRow base 3 1 v' (ns.length+1) (ns.map (Value.int .i64)++[.int .i64 x])):yZ base w v' (ns++[x]):=by
 unfold yZ;rw[List.length_append,List.map_append];exact h
theorem zN.own {P v ts i j W w1 w2} {row:Option Nat} (h:zN P v ts j W w1) (h0:yH P v ts i W) (hg:w1.grownBy w2 row) (hr:∀k,row=some k->W.heap.size<=k):zN P v ts j W w2:=by
 have hP:=h0.lt
 have ne:∀k,k<W.heap.size->some k≠row:=fun k hk e=>by have:=hr k e.symm;omega
 have hs:=h.grown.size;refine ⟨⟨(hg.block P (by omega) (ne P hP)).trans h.par.here,?_⟩,?_⟩
 ·obtain ⟨g,cap,rfl,-,hlt,-⟩:=h0.row
  obtain ⟨g',cap',he,hne,hlt',hc⟩:=h.par.row
  cases he
  exact ⟨g,cap,rfl,hne,Nat.lt_of_lt_of_le hlt' hg.size,fun k hk=>(hc k hk).block (hg.block g hlt' (ne g hlt))⟩
 exact ⟨hg.os.trans h.grown.os,hg.tape.trans h.grown.tape,hg.output.trans h.grown.output,Nat.le_trans h.grown.size hg.size,fun k hk hne=>(hg.block k (by omega) (ne k hk)).trans (h.grown.block k hk hne)⟩
theorem kM {base:Nat} {w:World} {e:TypeId} {size n:Nat} {v:Value} {xs:List Value} (h:w.ownsRow base e size v n xs):∀k,v.ownBlock=some k->base<=k:=fun k e=>by
 rcases Nat.lt_or_ge k base with h1|h1
 ·exact absurd e (fZ h h1)
 exact h1
theorem FE (wr:World) (s:Int) (t:TypeId):∀j u,[Value.int .i64 s][j]? =some u->(wr.alloc (.cells #[.int .i64 s] t)).cell? ((⟨wr.heap.size,0,none⟩:Addr).add j)=some u:=by
 intro j u hu
 match j,hu with
 |0,hu=>simp at hu;subst hu;simp[Addr.add]
theorem QB (s:Int):∀u ∈ [Value.int .i64 s],u.oneCell'=true:=by
 intro u hu;simp only[List.mem_cons,List.not_mem_nil,or_false]at hu;subst hu;rfl
theorem cR (P:Nat) (v:Value) (ts:List yJ) (i:Nat) (W:World) (h:yH P v ts i W) (hE:yQ ts) (hi:i<ts.length) (hl:ts.length<=2000000):
 Calls Tryz.prog 164 #[(qP P)] W fun e w'=>∃r,e=.returned r/\yZ W.heap.size w' r (yM ts i)/\zN P v ts (i+(yM ts i).length) W w'/\i+(yM ts i).length<ts.length:=by
 have HP:=zY h;have HPL:=zY h.lt;have HG0:=zY (zN.refl h);have HI0:Hid (yZ W.heap.size W (qN) []):=World.ownsRow_nil _ _ _ _;clear h
 go_enter Tryz.func164,Tryz.ntmps164
 go_wp2
 go_loopg [3] (ts.length-i) (fun gk r wr=>∃(j:Nat) (ns:List Int),i<=j/\j<ts.length/\gk=ts.length-j/\ns++yM ts j=yM ts i/\j=i+ns.length/\zN P v ts j W wr/\yZ W.heap.size wr r ns)
 case atStart=>exact ⟨i,[],Nat.le_refl _,hi,rfl,rfl,rfl,HG0.out,HI0.out⟩
 case round=>
  clear HG0 HI0;obtain ⟨j,ns,hij,hj,rfl,hns,hjn,hgo,hin⟩:=hrel;have HGO:=zY hgo;have HIN:=zY hin;have HNS:=zY hns;have HJN:=zY hjn;have HIS:=zY (ZN P v ts j wr hgo.par hj hl 2);clear hgo hin hns hjn
  by_cases h2:(zM ts j).sort=2
  ·rw [decide_eq_true h2]at HIS
   have hj1:=hE.sort_lt hj (by decide) h2
   have HNS2:Hid ((ns++[(zM ts j).num])++yM ts (j+1)=yM ts i):=by
    show _=_;rw[<- HNS.out,gB hj h2,List.append_assoc];rfl
   have HNM:Hid (∀ w1,yH P v ts j w1->Calls Tryz.prog 166 #[(qP P)] w1 fun e w'=>e=.returned (.int .i64 (zM ts j).num)/\zN P v ts (j+1) w1 w'):=fun w1 h1=>lL P v ts j w1 h1 hj hl h2
   clear HNS h2;generalize (zM ts j).num=x at *;obtain ⟨i0,hi',hz0,hz1,hz2⟩:=info_parts Tryz.info3';have HI:=zY hi';have HI0:=zY hz0;have HI1:=zY hz1;have HI2:=zY hz2
   have HNL:Hid (ns.length<=2000000):=by have:=HJN.out;show _<=_;omega
   clear hi' hz0 hz1 hz2
   go_wp2_with (first
    |(at_builtin;refine wpList_append_own _ rfl _ _ 60 rfl W.heap.size 3 i0 (.int .i64 0) 1 8 Tryz.underlying60 HI.out HI0.out HI1.out HI2.out rfl (by decide) _ ns.length (ns.map (Value.int .i64)) rfl (tW I2.out ((Below.refl _ _).alloc (Nat.le_refl _) _)) ⟨w2.heap.size,0,none⟩ 1 1 [.int .i64 x] rfl rfl (FE w2 _ _) (QB _) (by have:=HNL.out;unfold maxLen;omega) (by have:=HNL.out;omega) (by have:=G2.out.grown.size;simp;omega) ?_;intro r' w8 hown hgrow _;have I8:Hid (yZ W.heap.size w8 r' (ns++[x])):=yZ.app hown;have G8:Hid (zN P v ts (j+1) W w8):=(G2.out.later ((Below.refl _ _).alloc (Nat.le_refl _) _)).own HP.out hgrow (kM I2.out);clear hown hgrow)
    |(go_at_call 166;(with_reducible refine (HNM.out _ G1.out.par).mono ?_);rintro e w2 ⟨rfl,hg⟩;have G2:=zY (G1.out.trans hg);have I2:=zY (mX I1.out hg.grown HPL.out);clear hg)
    |(go_at_call 88;(with_reducible refine HIS.out.mono ?_);rintro e w1 ⟨rfl,hb⟩;have G1:=zY (HGO.out.later hb);have I1:=zY (tW HIN.out hb);clear hb))
   go_roundg (ts.length-(j+1))
   case measure=>omega
   case rel=>exact ⟨j+1,ns++[x],by omega,hj1,rfl,HNS2.out,by have:=HJN.out;simp;omega,G8.out,I8.out⟩
  rw[decide_eq_false h2]at HIS
  have HNS2:Hid (ns=yM ts i):=by
   show _=_;rw[<- HNS.out,gA h2,List.append_nil]
  clear HNS h2
  go_wp2_with (go_at_call 88;(with_reducible refine HIS.out.mono ?_);rintro e w1 ⟨rfl,hb⟩;have G1:=zY (HGO.out.later hb);have I1:=zY (tW HIN.out hb);clear hb)
  go_ret
  refine ⟨_,rfl,?_⟩
  rw[<- HNS2.out,<-HJN.out];exact ⟨I1.out,G1.out,hj⟩
def cQ (n:Nat) (w:World) (x y z:Value):Prop:=w.heap[n]? =some (.cells #[x,y,z] 101 (0,0))
structure Plc3 (n : Nat) (w : World) (x y z : Value) : Prop where
 c0:w.cell? ⟨n,0,none⟩=some x
 c1:w.cell? ⟨n,1,none⟩=some y
 c2:w.cell? ⟨n,2,none⟩=some z
 f0:w.frozen? ⟨n,0,none⟩=false
 f1:w.frozen? ⟨n,1,none⟩=false
 f2:w.frozen? ⟨n,2,none⟩=false
theorem cQ.parts {n w x y z} (h:cQ n w x y z):Plc3 n w x y z:=by
 unfold cQ at h
 refine ⟨?_,?_,?_,?_,?_,?_⟩<;>first|(unfold World.cell?;rw[h];rfl)|(unfold World.frozen?;rw[h];rfl)
theorem cQ.lt {n w x y z} (h:cQ n w x y z):n<w.heap.size:=(Array.getElem?_eq_some_iff.1 h).1
theorem cQ.grown {n w w' x y z} {row:Option Nat} (h:cQ n w x y z) (hg:w.grownBy w' row) (hn:some n≠row):cQ n w' x y z:=(hg.block n h.lt hn).trans h
theorem cQ.below {n w w' x y z} (h:cQ n w x y z) (hb:Below w.heap.size w w'):cQ n w' x y z:=(hb.block n h.lt).trans h
theorem cQ.other {n w x y z} (h:cQ n w x y z) {m k:Nat} (hn:n≠m) (u:Value):cQ n (w.setCell ⟨m,k,none⟩ u) x y z:=(Below.heap_setCell w _ _ n hn).trans h
theorem cQ.set0 {n w x y z} (h:cQ n w x y z) (u:Value):cQ n (w.setCell ⟨n,0,none⟩ u) u y z:=by
 unfold cQ;rw[heap_setCell_same w n 0 _ _ _ h];rfl
theorem cQ.set1 {n w x y z} (h:cQ n w x y z) (u:Value):cQ n (w.setCell ⟨n,1,none⟩ u) x u z:=by
 unfold cQ;rw[heap_setCell_same w n 1 _ _ _ h];rfl
theorem oP (w:World) (x y z:Value):cQ w.heap.size (w.alloc (.cells #[x,y,z] 101)) x y z:=by show (w.heap.push _)[w.heap.size]? =_;simp
theorem OE (P:Nat) (v:Value) (ts:List yJ) (i:Nat) (W:World) (h:yH P v ts i W) (hi:i<ts.length) (hl:ts.length<=2000000) (h1:(zM ts i).sort≠1):
 Calls Tryz.prog 165 #[(qP P)] W fun e w'=>e=.panicked zH/\zN P v ts (i+0) W w':=by
 have hb0:=(Below.refl W.heap.size W).alloc (Nat.le_refl _) (.cells #[qE,.int .i64 0,.int .i64 0] 101);have HG0:=zY (zN.stay h hb0);have HA:=zY (wZ P v ts i _ (h.below hb0) hi hl);have HR:=zY (oP W (qE) (.int .i64 0) (.int .i64 0))
 have HBK:Hid (∀ {n:Nat},W.heap.size<=n->v.ownBlock≠some n/\P≠n):=fun hn=>h.blk hn
 have hW1:(W.alloc (.cells #[qE,.int .i64 0,.int .i64 0] 101)).heap.size=W.heap.size+1:=by simp
 have ff:=uF
 have HN1:Hid (∀ w1,yH P v ts i w1->Calls Tryz.prog 84 #[(qP P)] w1 fun e w'=>e=.panicked zH/\zN P v ts i w1 w'):=fun w1 q=>VZ P v ts i w1 q hi hl h1
 clear h hb0 h1;unfold xH at HA;generalize zM ts i=t at *;obtain ⟨so,tx,nm,pl⟩:=t;simp only at HA ⊢
 go_enter Tryz.func165,Tryz.ntmps165
 go_wp2_with (first
  |(go_at_call 84;(with_reducible refine (HN1.out _ G1.out.par).mono ?_);rintro e w2 ⟨rfl,hg⟩;have G2:=zY (G1.out.trans hg);clear hg)
  |(go_at_call 46;(with_reducible refine HA.out.mono ?_);rintro e w1 ⟨rfl,hb⟩;have NE:Hid (W.heap.size<=w1.heap.size/\W.heap.size≠w1.heap.size):=by { have:=hb.size;rw[hW1]at this;exact ⟨by omega,by omega⟩ };have hb2:=hb.trans (((Below.refl w1.heap.size w1).alloc (Nat.le_refl _) (.cells #[qE,.int .i64 0,.int .i64 pl] 101)).mono hb.size);have G1:=zY (HG0.out.later hb2);have L1:=zY (oP w1 (qE) (.int .i64 0) (.int .i64 pl));have R1:=zY (HR.out.below hb2);clear hb hb2))
 exact ⟨rfl,rfl,G2.out⟩
theorem OD (P:Nat) (v:Value) (ts:List yJ) (i:Nat) (W:World) (h:yH P v ts i W) (hE:yQ ts) (hi:i<ts.length) (hl:ts.length<=2000000) (h1:(zM ts i).sort=1) (h2:(zM ts (i+1)).text≠[46]):
 Calls Tryz.prog 165 #[(qP P)] W fun e w'=>e=.panicked zH/\zN P v ts (i+1) W w':=by
 have hb0:=(Below.refl W.heap.size W).alloc (Nat.le_refl _) (.cells #[qE,.int .i64 0,.int .i64 0] 101);have HG0:=zY (zN.stay h hb0);have HA:=zY (wZ P v ts i _ (h.below hb0) hi hl);have HR:=zY (oP W (qE) (.int .i64 0) (.int .i64 0))
 have HBK:Hid (∀ {n:Nat},W.heap.size<=n->v.ownBlock≠some n/\P≠n):=fun hn=>h.blk hn
 have hW1:(W.alloc (.cells #[qE,.int .i64 0,.int .i64 0] 101)).heap.size=W.heap.size+1:=by simp
 have ff:=uF;have hi1:=hE.sort_lt hi (by decide) h1
 have HN1:Hid (∀ w1,yH P v ts i w1->Calls Tryz.prog 84 #[(qP P)] w1 fun e w'=>e=.returned (.string (zW (zM ts i).text))/\zN P v ts (i+1) w1 w'):=fun w1 q=>kN P v ts i w1 q hi hl h1
 have HN2:Hid (∀ w1,yH P v ts (i+1) w1->Calls Tryz.prog 83 #[(qP P),.string ⟨#[46]⟩] w1 fun e w'=>e=.panicked zH/\zN P v ts (i+1) w1 w'):=fun w1 q=>ZM P v ts (i+1) w1 q hi1 hl [46] h2
 clear h hb0 h1;clear h2;unfold xH at HA;generalize zM ts i=t at *;obtain ⟨so,tx,nm,pl⟩:=t;simp only at HA HN1 ⊢
 go_enter Tryz.func165,Tryz.ntmps165
 go_wp2_with (first
  |(go_at_call 83;(with_reducible refine (HN2.out _ G2.out.par).mono ?_);rintro e w3 ⟨rfl,hg⟩;have G3:=zY (G2.out.trans hg);clear hg)
  |(go_at_call 84;(with_reducible refine (HN1.out _ G1.out.par).mono ?_);rintro e w2 ⟨rfl,hg⟩;have G2:=zY ((G1.out.trans hg).put (k:=0) (HBK.out NE.out.1) NE.out.1 (.string (zW tx)));have L2a:=L1.out.grown hg.grown (fun e=>(HBK.out NE.out.1).2 (Option.some.inj e).symm);obtain ⟨a0,-,-,af0,-,-⟩:=L2a.parts;clear L2a;clear hg)
  |(go_at_call 46;(with_reducible refine HA.out.mono ?_);rintro e w1 ⟨rfl,hb⟩;have NE:Hid (W.heap.size<=w1.heap.size/\W.heap.size≠w1.heap.size):=by { have:=hb.size;rw[hW1]at this;exact ⟨by omega,by omega⟩ };have hb2:=hb.trans (((Below.refl w1.heap.size w1).alloc (Nat.le_refl _) (.cells #[qE,.int .i64 0,.int .i64 pl] 101)).mono hb.size);have G1:=zY (HG0.out.later hb2);have L1:=zY (oP w1 (qE) (.int .i64 0) (.int .i64 pl));have R1:=zY (HR.out.below hb2);clear hb hb2))
 exact ⟨rfl,rfl,G3.out⟩
theorem OC (P:Nat) (v:Value) (ts:List yJ) (i:Nat) (W:World) (h:yH P v ts i W) (hE:yQ ts) (hi:i<ts.length) (hl:ts.length<=2000000) (h1:(zM ts i).sort=1) (h2:(zM ts (i+1)).text=[46]) (h3:(zM ts (i+2)).sort≠2):
 Calls Tryz.prog 165 #[(qP P)] W fun e w'=>e=.panicked zH/\zN P v ts (i+2) W w':=by
 have hb0:=(Below.refl W.heap.size W).alloc (Nat.le_refl _) (.cells #[qE,.int .i64 0,.int .i64 0] 101);have HG0:=zY (zN.stay h hb0);have HA:=zY (wZ P v ts i _ (h.below hb0) hi hl);have HR:=zY (oP W (qE) (.int .i64 0) (.int .i64 0))
 have HBK:Hid (∀ {n:Nat},W.heap.size<=n->v.ownBlock≠some n/\P≠n):=fun hn=>h.blk hn
 have hW1:(W.alloc (.cells #[qE,.int .i64 0,.int .i64 0] 101)).heap.size=W.heap.size+1:=by simp
 have ff:=uF;have hi1:=hE.sort_lt hi (by decide) h1
 have HN1:Hid (∀ w1,yH P v ts i w1->Calls Tryz.prog 84 #[(qP P)] w1 fun e w'=>e=.returned (.string (zW (zM ts i).text))/\zN P v ts (i+1) w1 w'):=fun w1 q=>kN P v ts i w1 q hi hl h1
 have hi2:=hE.text_lt hi1 (by decide) h2
 have HN2:Hid (∀ w1,yH P v ts (i+1) w1->Calls Tryz.prog 83 #[(qP P),.string ⟨#[46]⟩] w1 fun e w'=>e=.returned (.tuple #[])/\zN P v ts (i+2) w1 w'):=fun w1 q=>mY P v ts (i+1) w1 q hi1 hl [46] h2
 have HN3:Hid (∀ w1,yH P v ts (i+2) w1->Calls Tryz.prog 166 #[(qP P)] w1 fun e w'=>e=.panicked zH/\zN P v ts (i+2) w1 w'):=fun w1 q=>cS P v ts (i+2) w1 q hi2 hl h3
 clear h hb0 h1;clear h2;clear h3;unfold xH at HA;generalize zM ts i=t at *;obtain ⟨so,tx,nm,pl⟩:=t;simp only at HA HN1 ⊢
 go_enter Tryz.func165,Tryz.ntmps165
 go_wp2_with (first
  |(go_at_call 166;(with_reducible refine (HN3.out _ G3.out.par).mono ?_);rintro e w4 ⟨rfl,hg⟩;have G4:=zY (G3.out.trans hg);clear hg)
  |(go_at_call 83;(with_reducible refine (HN2.out _ G2.out.par).mono ?_);rintro e w3 ⟨rfl,hg⟩;have G3:=zY (G2.out.trans hg);clear hg)
  |(go_at_call 84;(with_reducible refine (HN1.out _ G1.out.par).mono ?_);rintro e w2 ⟨rfl,hg⟩;have G2:=zY ((G1.out.trans hg).put (k:=0) (HBK.out NE.out.1) NE.out.1 (.string (zW tx)));have L2a:=L1.out.grown hg.grown (fun e=>(HBK.out NE.out.1).2 (Option.some.inj e).symm);obtain ⟨a0,-,-,af0,-,-⟩:=L2a.parts;clear L2a;clear hg)
  |(go_at_call 46;(with_reducible refine HA.out.mono ?_);rintro e w1 ⟨rfl,hb⟩;have NE:Hid (W.heap.size<=w1.heap.size/\W.heap.size≠w1.heap.size):=by { have:=hb.size;rw[hW1]at this;exact ⟨by omega,by omega⟩ };have hb2:=hb.trans (((Below.refl w1.heap.size w1).alloc (Nat.le_refl _) (.cells #[qE,.int .i64 0,.int .i64 pl] 101)).mono hb.size);have G1:=zY (HG0.out.later hb2);have L1:=zY (oP w1 (qE) (.int .i64 0) (.int .i64 pl));have R1:=zY (HR.out.below hb2);clear hb hb2))
 exact ⟨rfl,rfl,G4.out⟩
theorem OB (P:Nat) (v:Value) (ts:List yJ) (i:Nat) (W:World) (h:yH P v ts i W) (hE:yQ ts) (hi:i<ts.length) (hl:ts.length<=2000000) (h1:(zM ts i).sort=1) (h2:(zM ts (i+1)).text=[46]) (h3:(zM ts (i+2)).sort=2):
 Calls Tryz.prog 165 #[(qP P)] W fun e w'=>e=.returned (.agg #[.string (zW (zM ts i).text),.int .i64 (zM ts (i+2)).num,.int .i64 (zM ts i).place])/\zN P v ts (i+3) W w':=by
 have hb0:=(Below.refl W.heap.size W).alloc (Nat.le_refl _) (.cells #[qE,.int .i64 0,.int .i64 0] 101);have HG0:=zY (zN.stay h hb0);have HA:=zY (wZ P v ts i _ (h.below hb0) hi hl);have HR:=zY (oP W (qE) (.int .i64 0) (.int .i64 0))
 have HBK:Hid (∀ {n:Nat},W.heap.size<=n->v.ownBlock≠some n/\P≠n):=fun hn=>h.blk hn
 have hW1:(W.alloc (.cells #[qE,.int .i64 0,.int .i64 0] 101)).heap.size=W.heap.size+1:=by simp
 have ff:=uF;have hi1:=hE.sort_lt hi (by decide) h1
 have HN1:Hid (∀ w1,yH P v ts i w1->Calls Tryz.prog 84 #[(qP P)] w1 fun e w'=>e=.returned (.string (zW (zM ts i).text))/\zN P v ts (i+1) w1 w'):=fun w1 q=>kN P v ts i w1 q hi hl h1
 have hi2:=hE.text_lt hi1 (by decide) h2
 have HN2:Hid (∀ w1,yH P v ts (i+1) w1->Calls Tryz.prog 83 #[(qP P),.string ⟨#[46]⟩] w1 fun e w'=>e=.returned (.tuple #[])/\zN P v ts (i+2) w1 w'):=fun w1 q=>mY P v ts (i+1) w1 q hi1 hl [46] h2
 have HN3:Hid (∀ w1,yH P v ts (i+2) w1->Calls Tryz.prog 166 #[(qP P)] w1 fun e w'=>e=.returned (.int .i64 (zM ts (i+2)).num)/\zN P v ts (i+3) w1 w'):=fun w1 q=>lL P v ts (i+2) w1 q hi2 hl h3
 clear h hb0 h1;clear h2;clear h3;generalize (zM ts (i+2)).num=num at *;unfold xH at HA;generalize zM ts i=t at *;obtain ⟨so,tx,nm,pl⟩:=t;simp only at HA HN1 ⊢
 go_enter Tryz.func165,Tryz.ntmps165
 go_wp2_with (first
  |(go_at_call 166;(with_reducible refine (HN3.out _ G3.out.par).mono ?_);rintro e w4 ⟨rfl,hg⟩;have G4:=zY (G3.out.trans hg);have hP:=HBK.out (Nat.le_refl W.heap.size);have L4:=zY (L3.out.grown hg.grown (fun e=>(HBK.out NE.out.1).2 (Option.some.inj e).symm));have R4:=zY (R3.out.grown hg.grown (fun e=>hP.2 (Option.some.inj e).symm));obtain ⟨l0,l1,l2,lf0,lf1,lf2⟩:=L4.out.parts;obtain ⟨r0,r1,r2,rf0,rf1,rf2⟩:=(R4.out.other (m:=w1.heap.size) (k:=1) NE.out.2 (.int .i64 num)).parts;obtain ⟨m0,m1,m2,-,-,-⟩:=(L4.out.set1 (.int .i64 num)).parts;clear hP;clear hg)
  |(go_at_call 83;(with_reducible refine (HN2.out _ G2.out.par).mono ?_);rintro e w3 ⟨rfl,hg⟩;have G3:=zY (G2.out.trans hg);have L3:=zY (L2.out.grown hg.grown (fun e=>(HBK.out NE.out.1).2 (Option.some.inj e).symm));have R3:=zY (R2.out.grown hg.grown (fun e=>(HBK.out (Nat.le_refl W.heap.size)).2 (Option.some.inj e).symm));clear hg)
  |(go_at_call 84;(with_reducible refine (HN1.out _ G1.out.par).mono ?_);rintro e w2 ⟨rfl,hg⟩;have G2:=zY ((G1.out.trans hg).put (k:=0) (HBK.out NE.out.1) NE.out.1 (.string (zW tx)));have L2a:=L1.out.grown hg.grown (fun e=>(HBK.out NE.out.1).2 (Option.some.inj e).symm);obtain ⟨a0,-,-,af0,-,-⟩:=L2a.parts;have L2:=zY (L2a.set0 (.string (zW tx)));have R2:=zY ((R1.out.grown hg.grown (fun e=>(HBK.out (Nat.le_refl W.heap.size)).2 (Option.some.inj e).symm)).other (m:=w1.heap.size) (k:=0) NE.out.2 (.string (zW tx)));clear L2a;clear hg)
  |(go_at_call 46;(with_reducible refine HA.out.mono ?_);rintro e w1 ⟨rfl,hb⟩;have NE:Hid (W.heap.size<=w1.heap.size/\W.heap.size≠w1.heap.size):=by { have:=hb.size;rw[hW1]at this;exact ⟨by omega,by omega⟩ };have hb2:=hb.trans (((Below.refl w1.heap.size w1).alloc (Nat.le_refl _) (.cells #[qE,.int .i64 0,.int .i64 pl] 101)).mono hb.size);have G1:=zY (HG0.out.later hb2);have L1:=zY (oP w1 (qE) (.int .i64 0) (.int .i64 pl));have R1:=zY (HR.out.below hb2);clear hb hb2))
 exact bodyPost_ret (v:=.agg #[.string (zW tx),.int .i64 num,.int .i64 pl]) (by simp[results,Tryz.results165,go_sem,r0,r1,r2]) rfl ⟨rfl,by
  have hP:=HBK.out (Nat.le_refl W.heap.size)
  exact (((G4.out.put (HBK.out NE.out.1) NE.out.1 _).put hP (Nat.le_refl _) _).put hP (Nat.le_refl _) _).put hP (Nat.le_refl _) _⟩
def plV (p:vZ):Value:=.agg #[.string (zW p.name),.int .i64 p.port,.int .i64 p.place]
theorem zS {ts:List yJ} {x:List UInt8} {i j:Nat} (h:yX ts x i=(some (),j)) (hE:yQ ts) (hi:i<ts.length) (hl:ts.length<=2000000) (hx:x≠[]) (P:Nat) (v:Value):
 j<ts.length/\Hid (∀ w1,yH P v ts i w1->Calls Tryz.prog 83 #[(qP P),.string (zW x)] w1 fun e w'=>e=.returned (.tuple #[])/\zN P v ts j w1 w'):=by
 unfold yX at h
 by_cases hc:(zM ts i).text=x
 ·rw [if_pos hc]at h
  cases h
  exact ⟨hE.text_lt hi hx hc,fun w1 q=>mY P v ts i w1 q hi hl x hc⟩
 rw[if_neg hc]at h;cases h
theorem yG {ts:List yJ} {x:List UInt8} {i j:Nat} (h:yX ts x i=(none,j)) (hi:i<ts.length) (hl:ts.length<=2000000) (P:Nat) (v:Value):
 j<ts.length/\Hid (∀ w1,yH P v ts i w1->Calls Tryz.prog 83 #[(qP P),.string (zW x)] w1 fun e w'=>e=.panicked zH/\zN P v ts j w1 w'):=by
 unfold yX at h
 by_cases hc:(zM ts i).text=x
 ·rw [if_pos hc]at h;cases h
 rw[if_neg hc]at h
 cases h
 exact ⟨hi,fun w1 q=>ZM P v ts i w1 q hi hl x hc⟩
theorem xN {ts:List yJ} {n:List UInt8} {i j:Nat} (h:wY ts i=(some n,j)) (hE:yQ ts) (hi:i<ts.length) (hl:ts.length<=2000000) (P:Nat) (v:Value):
 j<ts.length/\Hid (∀ w1,yH P v ts i w1->Calls Tryz.prog 84 #[(qP P)] w1 fun e w'=>e=.returned (.string (zW n))/\zN P v ts j w1 w'):=by
 unfold wY at h
 by_cases hc:(zM ts i).sort=1
 ·rw [if_pos hc]at h
  cases h
  exact ⟨hE.sort_lt hi (by decide) hc,fun w1 q=>kN P v ts i w1 q hi hl hc⟩
 rw[if_neg hc]at h;cases h
theorem uU {ts:List yJ} {i j:Nat} (h:wY ts i=(none,j)) (hi:i<ts.length) (hl:ts.length<=2000000) (P:Nat) (v:Value):
 j<ts.length/\Hid (∀ w1,yH P v ts i w1->Calls Tryz.prog 84 #[(qP P)] w1 fun e w'=>e=.panicked zH/\zN P v ts j w1 w'):=by
 unfold wY at h
 by_cases hc:(zM ts i).sort=1
 ·rw [if_pos hc]at h;cases h
 rw[if_neg hc]at h
 cases h
 exact ⟨hi,fun w1 q=>VZ P v ts i w1 q hi hl hc⟩
theorem eW {ts:List yJ} {n:Int} {i j:Nat} (h:nX ts i=(some n,j)) (hE:yQ ts) (hi:i<ts.length) (hl:ts.length<=2000000) (P:Nat) (v:Value):
 j<ts.length/\Hid (∀ w1,yH P v ts i w1->Calls Tryz.prog 166 #[(qP P)] w1 fun e w'=>e=.returned (.int .i64 n)/\zN P v ts j w1 w'):=by
 unfold nX at h
 by_cases hc:(zM ts i).sort=2
 ·rw [if_pos hc]at h
  cases h
  exact ⟨hE.sort_lt hi (by decide) hc,fun w1 q=>lL P v ts i w1 q hi hl hc⟩
 rw[if_neg hc]at h;cases h
theorem eV {ts:List yJ} {i j:Nat} (h:nX ts i=(none,j)) (hi:i<ts.length) (hl:ts.length<=2000000) (P:Nat) (v:Value):
 j<ts.length/\Hid (∀ w1,yH P v ts i w1->Calls Tryz.prog 166 #[(qP P)] w1 fun e w'=>e=.panicked zH/\zN P v ts j w1 w'):=by
 unfold nX at h
 by_cases hc:(zM ts i).sort=2
 ·rw [if_pos hc]at h;cases h
 rw[if_neg hc]at h
 cases h
 exact ⟨hi,fun w1 q=>cS P v ts i w1 q hi hl hc⟩
theorem yF {ts:List yJ} {p:vZ} {i j:Nat} (h:xP ts i=(some p,j)) (hE:yQ ts) (hi:i<ts.length) (hl:ts.length<=2000000) (P:Nat) (v:Value):
 j<ts.length/\Hid (∀ w1,yH P v ts i w1->Calls Tryz.prog 165 #[(qP P)] w1 fun e w'=>e=.returned (plV p)/\zN P v ts j w1 w'):=by
 unfold xP wY yX nX at h
 by_cases h1:(zM ts i).sort=1
 ·rw [if_pos h1,zO]at h
  have hi1:=hE.sort_lt hi (by decide) h1
  by_cases h2:(zM ts (i+1)).text=[46]
  ·rw [if_pos h2,zO]at h
   have hi2:=hE.text_lt hi1 (by decide) h2
   by_cases h3:(zM ts (i+1+1)).sort=2
   ·rw [if_pos h3,zO]at h
    cases h
    exact ⟨hE.sort_lt hi2 (by decide) h3,fun w1 q=>OB P v ts i w1 q hE hi hl h1 h2 h3⟩
   rw[if_neg h3,yS]at h;cases h
  rw[if_neg h2,yS]at h;cases h
 rw[if_neg h1,yS]at h;cases h
theorem uE {ts:List yJ} {i j:Nat} (h:xP ts i=(none,j)) (hE:yQ ts) (hi:i<ts.length) (hl:ts.length<=2000000) (P:Nat) (v:Value):
 j<ts.length/\Hid (∀ w1,yH P v ts i w1->Calls Tryz.prog 165 #[(qP P)] w1 fun e w'=>e=.panicked zH/\zN P v ts j w1 w'):=by
 unfold xP wY yX nX at h
 by_cases h1:(zM ts i).sort=1
 ·rw [if_pos h1,zO]at h
  have hi1:=hE.sort_lt hi (by decide) h1
  by_cases h2:(zM ts (i+1)).text=[46]
  ·rw [if_pos h2,zO]at h
   have hi2:=hE.text_lt hi1 (by decide) h2
   by_cases h3:(zM ts (i+1+1)).sort=2
   ·rw [if_pos h3,zO]at h;cases h
   rw[if_neg h3,yS]at h
   cases h
   exact ⟨hi2,fun w1 q=>OC P v ts i w1 q hE hi hl h1 h2 h3⟩
  rw[if_neg h2,yS]at h
  cases h
  exact ⟨hi1,fun w1 q=>OD P v ts i w1 q hE hi hl h1 h2⟩
 rw[if_neg h1,yS]at h
 cases h
 exact ⟨hi,fun w1 q=>OE P v ts i w1 q hi hl h1⟩
def xZ (T:TypeId) (n:Nat) (w:World) (cs:Array Value):Prop:=w.heap[n]? =some (.cells cs T (0,0))
theorem xZ.lt {T n w cs} (h:xZ T n w cs):n<w.heap.size:=(Array.getElem?_eq_some_iff.1 h).1
theorem xZ.cell {T n w cs} (h:xZ T n w cs) {k:Nat} {x:Value} (hk:cs[k]? =some x):w.cell? ⟨n,k,none⟩=some x:=by
 unfold xZ at h;unfold World.cell?;rw[h];exact hk
theorem xZ.frozen {T n w cs} (h:xZ T n w cs) (k:Nat):w.frozen? ⟨n,k,none⟩=false:=by
 unfold xZ at h;unfold World.frozen?;rw[h];simp
theorem xZ.grown {T n w w' cs} {row:Option Nat} (h:xZ T n w cs) (hg:w.grownBy w' row) (hn:some n≠row):xZ T n w' cs:=(hg.block n h.lt hn).trans h
theorem xZ.below {T n w w' cs} (h:xZ T n w cs) (hb:Below w.heap.size w w'):xZ T n w' cs:=(hb.block n h.lt).trans h
theorem xZ.other {T n w cs} (h:xZ T n w cs) {m k:Nat} (hn:n≠m) (u:Value):xZ T n (w.setCell ⟨m,k,none⟩ u) cs:=(Below.heap_setCell w _ _ n hn).trans h
theorem xZ.set {T n w cs} (h:xZ T n w cs) (k:Nat) (u:Value):xZ T n (w.setCell ⟨n,k,none⟩ u) (cs.setIfInBounds k u):=heap_setCell_same w n k _ _ _ h
theorem yN (T:TypeId) (w:World) (cs:Array Value):xZ T w.heap.size (w.alloc (.cells cs T)) cs:=by show (w.heap.push _)[w.heap.size]? =_;simp
def zJ (kind:Int) (nm tg:List UInt8) (r:Value) (f t:vZ) (pl:Int):Array Value:=
 #[.int .u8 kind,.string (zW nm),.string (zW tg),r,.string (zW f.name),.int .i64 f.port,.int .i64 f.place,.string (zW t.name),.int .i64 t.port,.int .i64 t.place,.int .i64 pl]
theorem yZ.shape {base w r ns} (h:yZ base w r ns):∃a c,r=.slice a ns.length c:=by
 rcases h.2 with ⟨rfl,h0⟩|⟨g,cap,cur,rfl,-⟩
 ·exact ⟨none,0,by rw[h0]⟩
 exact ⟨_,_,rfl⟩
theorem yZ.put {base w r ns} (h:yZ base w r ns) {I k:Nat} {u:Value} (hI:I<base):yZ base (w.setCell ⟨I,k,none⟩ u) r ns:=ownsRow_setCell_below h hI u
theorem yZ.mono {base base' w r ns} (h:yZ base w r ns) (hb:base'<=base):yZ base' w r ns:=eX h hb
theorem yZ.below {base w w' r ns} (h:yZ base w r ns) (hb:Below w.heap.size w w'):yZ base w' r ns:=tW h hb
theorem yZ.grown {base w w' r ns} {b:Nat} (h:yZ base w r ns) (hg:w.grownBy w' (some b)) (hb:b<base):yZ base w' r ns:=mX h hg hb
def wX (P:Nat) (v:Value) (ts:List yJ) (W0:World) (I:Nat) (r:Rd zF) (e:Ending) (w':World):Prop:=
 match r with
 |(some x,j)=>e=.returned (.tuple #[])/\(∃ ns,xZ 103 I w' (zJ x.kind x.name x.tag ns x.frm x.tO x.place)/\yZ W0.heap.size w' ns x.nums)/\zN P v ts j W0 w'/\j<ts.length
 |(none,j)=>e=.panicked zH/\zN P v ts j W0 w'/\j<ts.length
theorem OA (P:Nat) (v:Value) (ts:List yJ) (i:Nat) (W0 W:World) (I:Nat) (pl:Int) (_hpl:(zM ts i).place=pl) (hG:zN P v ts i W0 W) (hP0:∀ {n:Nat},W0.heap.size<=n->v.ownBlock≠some n/\P≠n) (hI:W0.heap.size<=I) (hB:xZ 103 I W (zJ 0 [] [] (qN) zV zV pl)) (hE:yQ ts) (hi:i<ts.length) (hl:ts.length<=2000000) (j1:Nat) (j2:Nat) (h1:yX ts [97,99,116,111,114] i=(some (),j1)) (h2:wY ts j1=(none,j2)):
 Calls Tryz.prog 138 #[(qP P),(qP I)] W (wX P v ts W0 I (vN ts i)):=by
 have HM:vN ts i=(none,j2):=by unfold vN;rw[h1,zO,h2,yS]
 rw[HM];show Calls _ _ _ _ (fun e w'=>e=.panicked zH/\zN P v ts j2 W0 w'/\j2<ts.length)
 clear HM _hpl;have HBK:Hid (v.ownBlock≠some I/\P≠I):=hP0 hI;have HI:=zY hI;have G0:=zY hG;have B0:=zY hB;clear hG hB hP0 hI;have H1:Hid (∀ w1,yH P v ts i w1->Calls Tryz.prog 83 #[(qP P),.string ⟨#[97,99,116,111,114]⟩] w1 fun e w'=>e=.returned (.tuple #[])/\zN P v ts j1 w1 w'):=(zS h1 hE hi hl (by decide) P v).2;have hj1:j1<ts.length:=(zS h1 hE hi hl (by decide) P v).1;have H2:Hid (∀ w1,yH P v ts j1 w1->Calls Tryz.prog 84 #[(qP P)] w1 fun e w'=>e=.panicked zH/\zN P v ts j2 w1 w'):=(uU h2 hj1 hl P v).2;have hj2:j2<ts.length:=(uU h2 hj1 hl P v).1;clear h1 h2
 go_enter Tryz.func138,Tryz.ntmps138
 go_wp2_with (first
  |(go_at_call 84;(with_reducible refine (H2.out _ G1.out.par).mono ?_);rintro e w2 ⟨rfl,hg⟩;have G2:=zY (G1.out.trans hg);clear hg)
  |(go_at_call 83;(with_reducible refine (H1.out _ G0.out.par).mono ?_);rintro e w1 ⟨rfl,hg⟩;have Bk:=(B0.out.grown hg.grown (fun e=>HBK.out.2 (Option.some.inj e).symm));have c1_0:=Bk.cell (k:=0) rfl;have f1_0:=Bk.frozen 0;have G1:=zY ((G0.out.trans hg).put (k:=0) HBK.out HI.out (.int .u8 1));have B1:Hid (xZ 103 I (w1.setCell ⟨I,0,none⟩ (.int .u8 1)) (zJ 1 [] [] (qN) zV zV pl)):=(Bk.set 0 (.int .u8 1));clear hg Bk))
 exact ⟨rfl,rfl,G2.out,hj2⟩
theorem NZ (P:Nat) (v:Value) (ts:List yJ) (i:Nat) (W0 W:World) (I:Nat) (pl:Int) (_hpl:(zM ts i).place=pl) (hG:zN P v ts i W0 W) (hP0:∀ {n:Nat},W0.heap.size<=n->v.ownBlock≠some n/\P≠n) (hI:W0.heap.size<=I) (hB:xZ 103 I W (zJ 0 [] [] (qN) zV zV pl)) (hE:yQ ts) (hi:i<ts.length) (hl:ts.length<=2000000) (j1:Nat) (j2:Nat) (n2:List UInt8) (j3:Nat) (h1:yX ts [97,99,116,111,114] i=(some (),j1)) (h2:wY ts j1=(some n2,j2)) (h3:yX ts [61] j2=(none,j3)):
 Calls Tryz.prog 138 #[(qP P),(qP I)] W (wX P v ts W0 I (vN ts i)):=by
 have HM:vN ts i=(none,j3):=by unfold vN;rw[h1,zO,h2,zO,h3,yS]
 rw[HM];show Calls _ _ _ _ (fun e w'=>e=.panicked zH/\zN P v ts j3 W0 w'/\j3<ts.length)
 clear HM _hpl;have HBK:Hid (v.ownBlock≠some I/\P≠I):=hP0 hI;have HI:=zY hI;have G0:=zY hG;have B0:=zY hB;clear hG hB hP0 hI;have H1:Hid (∀ w1,yH P v ts i w1->Calls Tryz.prog 83 #[(qP P),.string ⟨#[97,99,116,111,114]⟩] w1 fun e w'=>e=.returned (.tuple #[])/\zN P v ts j1 w1 w'):=(zS h1 hE hi hl (by decide) P v).2;have hj1:j1<ts.length:=(zS h1 hE hi hl (by decide) P v).1;have H2:Hid (∀ w1,yH P v ts j1 w1->Calls Tryz.prog 84 #[(qP P)] w1 fun e w'=>e=.returned (.string (zW n2))/\zN P v ts j2 w1 w'):=(xN h2 hE hj1 hl P v).2;have hj2:j2<ts.length:=(xN h2 hE hj1 hl P v).1;have H3:Hid (∀ w1,yH P v ts j2 w1->Calls Tryz.prog 83 #[(qP P),.string ⟨#[61]⟩] w1 fun e w'=>e=.panicked zH/\zN P v ts j3 w1 w'):=(yG h3 hj2 hl P v).2;have hj3:j3<ts.length:=(yG h3 hj2 hl P v).1;clear h1 h2 h3
 go_enter Tryz.func138,Tryz.ntmps138
 go_wp2_with (first
  |(go_at_call 83;(with_reducible refine (H3.out _ G2.out.par).mono ?_);rintro e w3 ⟨rfl,hg⟩;have G3:=zY (G2.out.trans hg);clear hg)
  |(go_at_call 84;(with_reducible refine (H2.out _ G1.out.par).mono ?_);rintro e w2 ⟨rfl,hg⟩;have Bk:=(B1.out.grown hg.grown (fun e=>HBK.out.2 (Option.some.inj e).symm));have c2_1:=Bk.cell (k:=1) rfl;have f2_1:=Bk.frozen 1;have G2:=zY ((G1.out.trans hg).put (k:=1) HBK.out HI.out (.string (zW n2)));have B2:Hid (xZ 103 I (w2.setCell ⟨I,1,none⟩ (.string (zW n2))) (zJ 1 n2 [] (qN) zV zV pl)):=(Bk.set 1 (.string (zW n2)));clear hg Bk)
  |(go_at_call 83;(with_reducible refine (H1.out _ G0.out.par).mono ?_);rintro e w1 ⟨rfl,hg⟩;have Bk:=(B0.out.grown hg.grown (fun e=>HBK.out.2 (Option.some.inj e).symm));have c1_0:=Bk.cell (k:=0) rfl;have f1_0:=Bk.frozen 0;have G1:=zY ((G0.out.trans hg).put (k:=0) HBK.out HI.out (.int .u8 1));have B1:Hid (xZ 103 I (w1.setCell ⟨I,0,none⟩ (.int .u8 1)) (zJ 1 [] [] (qN) zV zV pl)):=(Bk.set 0 (.int .u8 1));clear hg Bk))
 exact ⟨rfl,rfl,G3.out,hj3⟩
theorem NY (P:Nat) (v:Value) (ts:List yJ) (i:Nat) (W0 W:World) (I:Nat) (pl:Int) (_hpl:(zM ts i).place=pl) (hG:zN P v ts i W0 W) (hP0:∀ {n:Nat},W0.heap.size<=n->v.ownBlock≠some n/\P≠n) (hI:W0.heap.size<=I) (hB:xZ 103 I W (zJ 0 [] [] (qN) zV zV pl)) (hE:yQ ts) (hi:i<ts.length) (hl:ts.length<=2000000) (j1:Nat) (j2:Nat) (n2:List UInt8) (j3:Nat) (j4:Nat) (h1:yX ts [97,99,116,111,114] i=(some (),j1)) (h2:wY ts j1=(some n2,j2)) (h3:yX ts [61] j2=(some (),j3)) (h4:wY ts j3=(none,j4)):
 Calls Tryz.prog 138 #[(qP P),(qP I)] W (wX P v ts W0 I (vN ts i)):=by
 have HM:vN ts i=(none,j4):=by unfold vN;rw[h1,zO,h2,zO,h3,zO,h4,yS]
 rw[HM];show Calls _ _ _ _ (fun e w'=>e=.panicked zH/\zN P v ts j4 W0 w'/\j4<ts.length)
 clear HM _hpl;have HBK:Hid (v.ownBlock≠some I/\P≠I):=hP0 hI;have HI:=zY hI;have G0:=zY hG;have B0:=zY hB;clear hG hB hP0 hI;have H1:Hid (∀ w1,yH P v ts i w1->Calls Tryz.prog 83 #[(qP P),.string ⟨#[97,99,116,111,114]⟩] w1 fun e w'=>e=.returned (.tuple #[])/\zN P v ts j1 w1 w'):=(zS h1 hE hi hl (by decide) P v).2;have hj1:j1<ts.length:=(zS h1 hE hi hl (by decide) P v).1;have H2:Hid (∀ w1,yH P v ts j1 w1->Calls Tryz.prog 84 #[(qP P)] w1 fun e w'=>e=.returned (.string (zW n2))/\zN P v ts j2 w1 w'):=(xN h2 hE hj1 hl P v).2;have hj2:j2<ts.length:=(xN h2 hE hj1 hl P v).1;have H3:Hid (∀ w1,yH P v ts j2 w1->Calls Tryz.prog 83 #[(qP P),.string ⟨#[61]⟩] w1 fun e w'=>e=.returned (.tuple #[])/\zN P v ts j3 w1 w'):=(zS h3 hE hj2 hl (by decide) P v).2;have hj3:j3<ts.length:=(zS h3 hE hj2 hl (by decide) P v).1;have H4:Hid (∀ w1,yH P v ts j3 w1->Calls Tryz.prog 84 #[(qP P)] w1 fun e w'=>e=.panicked zH/\zN P v ts j4 w1 w'):=(uU h4 hj3 hl P v).2;have hj4:j4<ts.length:=(uU h4 hj3 hl P v).1;clear h1 h2 h3 h4
 go_enter Tryz.func138,Tryz.ntmps138
 go_wp2_with (first
  |(go_at_call 84;(with_reducible refine (H4.out _ G3.out.par).mono ?_);rintro e w4 ⟨rfl,hg⟩;have G4:=zY (G3.out.trans hg);clear hg)
  |(go_at_call 83;(with_reducible refine (H3.out _ G2.out.par).mono ?_);rintro e w3 ⟨rfl,hg⟩;have Bk:=(B2.out.grown hg.grown (fun e=>HBK.out.2 (Option.some.inj e).symm));have G3:=zY (G2.out.trans hg);have B3:Hid (xZ 103 I w3 (zJ 1 n2 [] (qN) zV zV pl)):=Bk;clear hg Bk)
  |(go_at_call 84;(with_reducible refine (H2.out _ G1.out.par).mono ?_);rintro e w2 ⟨rfl,hg⟩;have Bk:=(B1.out.grown hg.grown (fun e=>HBK.out.2 (Option.some.inj e).symm));have c2_1:=Bk.cell (k:=1) rfl;have f2_1:=Bk.frozen 1;have G2:=zY ((G1.out.trans hg).put (k:=1) HBK.out HI.out (.string (zW n2)));have B2:Hid (xZ 103 I (w2.setCell ⟨I,1,none⟩ (.string (zW n2))) (zJ 1 n2 [] (qN) zV zV pl)):=(Bk.set 1 (.string (zW n2)));clear hg Bk)
  |(go_at_call 83;(with_reducible refine (H1.out _ G0.out.par).mono ?_);rintro e w1 ⟨rfl,hg⟩;have Bk:=(B0.out.grown hg.grown (fun e=>HBK.out.2 (Option.some.inj e).symm));have c1_0:=Bk.cell (k:=0) rfl;have f1_0:=Bk.frozen 0;have G1:=zY ((G0.out.trans hg).put (k:=0) HBK.out HI.out (.int .u8 1));have B1:Hid (xZ 103 I (w1.setCell ⟨I,0,none⟩ (.int .u8 1)) (zJ 1 [] [] (qN) zV zV pl)):=(Bk.set 0 (.int .u8 1));clear hg Bk))
 exact ⟨rfl,rfl,G4.out,hj4⟩
theorem NX (P:Nat) (v:Value) (ts:List yJ) (i:Nat) (W0 W:World) (I:Nat) (pl:Int) (hpl:(zM ts i).place=pl) (hG:zN P v ts i W0 W) (hP0:∀ {n:Nat},W0.heap.size<=n->v.ownBlock≠some n/\P≠n) (hI:W0.heap.size<=I) (hB:xZ 103 I W (zJ 0 [] [] (qN) zV zV pl)) (hE:yQ ts) (hi:i<ts.length) (hl:ts.length<=2000000) (j1:Nat) (j2:Nat) (n2:List UInt8) (j3:Nat) (j4:Nat) (n4:List UInt8) (h1:yX ts [97,99,116,111,114] i=(some (),j1)) (h2:wY ts j1=(some n2,j2)) (h3:yX ts [61] j2=(some (),j3)) (h4:wY ts j3=(some n4,j4)):
 Calls Tryz.prog 138 #[(qP P),(qP I)] W (wX P v ts W0 I (vN ts i)):=by
 have HM:vN ts i=(some ⟨1,n2,n4,yM ts j4,zV,zV,pl⟩,(j4+(yM ts j4).length)):=by unfold vN;rw[h1,zO,h2,zO,h3,zO,h4,zO,hpl]
 rw[HM];show Calls _ _ _ _ (fun e w'=>e=.returned (.tuple #[])/\(∃ ns,xZ 103 I w' (zJ 1 n2 n4 ns zV zV pl)/\yZ W0.heap.size w' ns (yM ts j4))/\zN P v ts (j4+(yM ts j4).length) W0 w'/\(j4+(yM ts j4).length)<ts.length)
 clear HM hpl;have HBK:Hid (v.ownBlock≠some I/\P≠I):=hP0 hI;have HI:=zY hI;have G0:=zY hG;have B0:=zY hB;clear hG hB hP0 hI;have H1:Hid (∀ w1,yH P v ts i w1->Calls Tryz.prog 83 #[(qP P),.string ⟨#[97,99,116,111,114]⟩] w1 fun e w'=>e=.returned (.tuple #[])/\zN P v ts j1 w1 w'):=(zS h1 hE hi hl (by decide) P v).2;have hj1:j1<ts.length:=(zS h1 hE hi hl (by decide) P v).1;have H2:Hid (∀ w1,yH P v ts j1 w1->Calls Tryz.prog 84 #[(qP P)] w1 fun e w'=>e=.returned (.string (zW n2))/\zN P v ts j2 w1 w'):=(xN h2 hE hj1 hl P v).2;have hj2:j2<ts.length:=(xN h2 hE hj1 hl P v).1;have H3:Hid (∀ w1,yH P v ts j2 w1->Calls Tryz.prog 83 #[(qP P),.string ⟨#[61]⟩] w1 fun e w'=>e=.returned (.tuple #[])/\zN P v ts j3 w1 w'):=(zS h3 hE hj2 hl (by decide) P v).2;have hj3:j3<ts.length:=(zS h3 hE hj2 hl (by decide) P v).1;have H4:Hid (∀ w1,yH P v ts j3 w1->Calls Tryz.prog 84 #[(qP P)] w1 fun e w'=>e=.returned (.string (zW n4))/\zN P v ts j4 w1 w'):=(xN h4 hE hj3 hl P v).2;have hj4:j4<ts.length:=(xN h4 hE hj3 hl P v).1
 have H5:Hid (∀ w1,yH P v ts j4 w1->Calls Tryz.prog 164 #[(qP P)] w1 fun e w'=>∃a c,e=.returned (.slice a (yM ts j4).length c)/\yZ w1.heap.size w' (.slice a (yM ts j4).length c) (yM ts j4)/\zN P v ts (j4+(yM ts j4).length) w1 w'/\j4+(yM ts j4).length<ts.length):=fun w1 q=>(cR P v ts j4 w1 q hE hj4 hl).mono fun _ _ ⟨r,he,hn,hr⟩=>by { obtain ⟨a,c,rfl⟩:=hn.shape;exact ⟨a,c,he,hn,hr⟩ }
 clear h1 h2 h3 h4
 go_enter Tryz.func138,Tryz.ntmps138
 go_wp2_with (first
  |(go_at_call 164;(with_reducible refine (H5.out _ G4.out.par).mono ?_);rintro e w5 ⟨a5,k5,rfl,hin,hg,hj⟩;have Bk:=(B4.out.grown hg.grown (fun e=>HBK.out.2 (Option.some.inj e).symm));have c5_3:=Bk.cell (k:=3) rfl;have f5_3:=Bk.frozen 3;have G5:=zY ((G4.out.trans hg).put (k:=3) HBK.out HI.out (.slice a5 (yM ts j4).length k5));have B5:Hid (xZ 103 I (w5.setCell ⟨I,3,none⟩ (.slice a5 (yM ts j4).length k5)) (zJ 1 n2 n4 (.slice a5 (yM ts j4).length k5) zV zV pl)):=(Bk.set 3 (.slice a5 (yM ts j4).length k5));have IN:Hid (yZ W0.heap.size (w5.setCell ⟨I,3,none⟩ (.slice a5 (yM ts j4).length k5)) (.slice a5 (yM ts j4).length k5) (yM ts j4)):=(hin.put B4.out.lt).mono (Nat.le_trans HI.out (Nat.le_of_lt B4.out.lt));have HJ:=zY hj;clear hin hj;clear hg Bk)
  |(go_at_call 84;(with_reducible refine (H4.out _ G3.out.par).mono ?_);rintro e w4 ⟨rfl,hg⟩;have Bk:=(B3.out.grown hg.grown (fun e=>HBK.out.2 (Option.some.inj e).symm));have c4_2:=Bk.cell (k:=2) rfl;have f4_2:=Bk.frozen 2;have G4:=zY ((G3.out.trans hg).put (k:=2) HBK.out HI.out (.string (zW n4)));have B4:Hid (xZ 103 I (w4.setCell ⟨I,2,none⟩ (.string (zW n4))) (zJ 1 n2 n4 (qN) zV zV pl)):=(Bk.set 2 (.string (zW n4)));clear hg Bk)
  |(go_at_call 83;(with_reducible refine (H3.out _ G2.out.par).mono ?_);rintro e w3 ⟨rfl,hg⟩;have Bk:=(B2.out.grown hg.grown (fun e=>HBK.out.2 (Option.some.inj e).symm));have G3:=zY (G2.out.trans hg);have B3:Hid (xZ 103 I w3 (zJ 1 n2 [] (qN) zV zV pl)):=Bk;clear hg Bk)
  |(go_at_call 84;(with_reducible refine (H2.out _ G1.out.par).mono ?_);rintro e w2 ⟨rfl,hg⟩;have Bk:=(B1.out.grown hg.grown (fun e=>HBK.out.2 (Option.some.inj e).symm));have c2_1:=Bk.cell (k:=1) rfl;have f2_1:=Bk.frozen 1;have G2:=zY ((G1.out.trans hg).put (k:=1) HBK.out HI.out (.string (zW n2)));have B2:Hid (xZ 103 I (w2.setCell ⟨I,1,none⟩ (.string (zW n2))) (zJ 1 n2 [] (qN) zV zV pl)):=(Bk.set 1 (.string (zW n2)));clear hg Bk)
  |(go_at_call 83;(with_reducible refine (H1.out _ G0.out.par).mono ?_);rintro e w1 ⟨rfl,hg⟩;have Bk:=(B0.out.grown hg.grown (fun e=>HBK.out.2 (Option.some.inj e).symm));have c1_0:=Bk.cell (k:=0) rfl;have f1_0:=Bk.frozen 0;have G1:=zY ((G0.out.trans hg).put (k:=0) HBK.out HI.out (.int .u8 1));have B1:Hid (xZ 103 I (w1.setCell ⟨I,0,none⟩ (.int .u8 1)) (zJ 1 [] [] (qN) zV zV pl)):=(Bk.set 0 (.int .u8 1));clear hg Bk))
 go_end0
 exact ⟨rfl,⟨_,B5.out,IN.out⟩,G5.out,HJ.out⟩
theorem fY (P:Nat) (v:Value) (ts:List yJ) (i:Nat) (W0 W:World) (I:Nat) (pl:Int) (hpl:(zM ts i).place=pl) (hG:zN P v ts i W0 W) (hP0:∀ {n:Nat},W0.heap.size<=n->v.ownBlock≠some n/\P≠n) (hI:W0.heap.size<=I) (hB:xZ 103 I W (zJ 0 [] [] (qN) zV zV pl)) (hE:yQ ts) (hi:i<ts.length) (hl:ts.length<=2000000) (ht:(zM ts i).text=[97,99,116,111,114]):
 Calls Tryz.prog 138 #[(qP P),(qP I)] W (wX P v ts W0 I (vN ts i)):=by
 rcases h1:yX ts [97,99,116,111,114] i with ⟨_|⟨⟩,j1⟩
 ·unfold yX at h1;rw[if_pos ht]at h1;cases h1
 rcases h2:wY ts j1 with ⟨_|n2,j2⟩
 ·exact OA P v ts i W0 W I pl hpl hG hP0 hI hB hE hi hl j1 j2 h1 h2
 rcases h3:yX ts [61] j2 with ⟨_|⟨⟩,j3⟩
 ·exact NZ P v ts i W0 W I pl hpl hG hP0 hI hB hE hi hl j1 j2 n2 j3 h1 h2 h3
 rcases h4:wY ts j3 with ⟨_|n4,j4⟩
 ·exact NY P v ts i W0 W I pl hpl hG hP0 hI hB hE hi hl j1 j2 n2 j3 j4 h1 h2 h3 h4
 exact NX P v ts i W0 W I pl hpl hG hP0 hI hB hE hi hl j1 j2 n2 j3 j4 n4 h1 h2 h3 h4
theorem FD (P:Nat) (v:Value) (ts:List yJ) (i:Nat) (W0 W:World) (I:Nat) (pl:Int) (_hpl:(zM ts i).place=pl) (hG:zN P v ts i W0 W) (hP0:∀ {n:Nat},W0.heap.size<=n->v.ownBlock≠some n/\P≠n) (hI:W0.heap.size<=I) (hB:xZ 103 I W (zJ 0 [] [] (qN) zV zV pl)) (hE:yQ ts) (hi:i<ts.length) (hl:ts.length<=2000000) (j1:Nat) (j2:Nat) (h1:yX ts [105,110] i=(some (),j1)) (h2:wY ts j1=(none,j2)):
 Calls Tryz.prog 140 #[(qP P),(qP I)] W (wX P v ts W0 I (dU ts i)):=by
 have HM:dU ts i=(none,j2):=by unfold dU;rw[h1,zO,h2,yS]
 rw[HM];show Calls _ _ _ _ (fun e w'=>e=.panicked zH/\zN P v ts j2 W0 w'/\j2<ts.length)
 clear HM _hpl;have HBK:Hid (v.ownBlock≠some I/\P≠I):=hP0 hI;have HI:=zY hI;have G0:=zY hG;have B0:=zY hB;clear hG hB hP0 hI;have H1:Hid (∀ w1,yH P v ts i w1->Calls Tryz.prog 83 #[(qP P),.string ⟨#[105,110]⟩] w1 fun e w'=>e=.returned (.tuple #[])/\zN P v ts j1 w1 w'):=(zS h1 hE hi hl (by decide) P v).2;have hj1:j1<ts.length:=(zS h1 hE hi hl (by decide) P v).1;have H2:Hid (∀ w1,yH P v ts j1 w1->Calls Tryz.prog 84 #[(qP P)] w1 fun e w'=>e=.panicked zH/\zN P v ts j2 w1 w'):=(uU h2 hj1 hl P v).2;have hj2:j2<ts.length:=(uU h2 hj1 hl P v).1;clear h1 h2
 go_enter Tryz.func140,Tryz.ntmps140
 go_wp2_with (first
  |(go_at_call 84;(with_reducible refine (H2.out _ G1.out.par).mono ?_);rintro e w2 ⟨rfl,hg⟩;have G2:=zY (G1.out.trans hg);clear hg)
  |(go_at_call 83;(with_reducible refine (H1.out _ G0.out.par).mono ?_);rintro e w1 ⟨rfl,hg⟩;have Bk:=(B0.out.grown hg.grown (fun e=>HBK.out.2 (Option.some.inj e).symm));have c1_0:=Bk.cell (k:=0) rfl;have f1_0:=Bk.frozen 0;have G1:=zY ((G0.out.trans hg).put (k:=0) HBK.out HI.out (.int .u8 3));have B1:Hid (xZ 103 I (w1.setCell ⟨I,0,none⟩ (.int .u8 3)) (zJ 3 [] [] (qN) zV zV pl)):=(Bk.set 0 (.int .u8 3));clear hg Bk))
 exact ⟨rfl,rfl,G2.out,hj2⟩
theorem FC (P:Nat) (v:Value) (ts:List yJ) (i:Nat) (W0 W:World) (I:Nat) (pl:Int) (_hpl:(zM ts i).place=pl) (hG:zN P v ts i W0 W) (hP0:∀ {n:Nat},W0.heap.size<=n->v.ownBlock≠some n/\P≠n) (hI:W0.heap.size<=I) (hB:xZ 103 I W (zJ 0 [] [] (qN) zV zV pl)) (hE:yQ ts) (hi:i<ts.length) (hl:ts.length<=2000000) (j1:Nat) (j2:Nat) (n2:List UInt8) (j3:Nat) (h1:yX ts [105,110] i=(some (),j1)) (h2:wY ts j1=(some n2,j2)) (h3:yX ts [45,62] j2=(none,j3)):
 Calls Tryz.prog 140 #[(qP P),(qP I)] W (wX P v ts W0 I (dU ts i)):=by
 have HM:dU ts i=(none,j3):=by unfold dU;rw[h1,zO,h2,zO,h3,yS]
 rw[HM];show Calls _ _ _ _ (fun e w'=>e=.panicked zH/\zN P v ts j3 W0 w'/\j3<ts.length)
 clear HM _hpl;have HBK:Hid (v.ownBlock≠some I/\P≠I):=hP0 hI;have HI:=zY hI;have G0:=zY hG;have B0:=zY hB;clear hG hB hP0 hI;have H1:Hid (∀ w1,yH P v ts i w1->Calls Tryz.prog 83 #[(qP P),.string ⟨#[105,110]⟩] w1 fun e w'=>e=.returned (.tuple #[])/\zN P v ts j1 w1 w'):=(zS h1 hE hi hl (by decide) P v).2;have hj1:j1<ts.length:=(zS h1 hE hi hl (by decide) P v).1;have H2:Hid (∀ w1,yH P v ts j1 w1->Calls Tryz.prog 84 #[(qP P)] w1 fun e w'=>e=.returned (.string (zW n2))/\zN P v ts j2 w1 w'):=(xN h2 hE hj1 hl P v).2;have hj2:j2<ts.length:=(xN h2 hE hj1 hl P v).1;have H3:Hid (∀ w1,yH P v ts j2 w1->Calls Tryz.prog 83 #[(qP P),.string ⟨#[45,62]⟩] w1 fun e w'=>e=.panicked zH/\zN P v ts j3 w1 w'):=(yG h3 hj2 hl P v).2;have hj3:j3<ts.length:=(yG h3 hj2 hl P v).1;clear h1 h2 h3
 go_enter Tryz.func140,Tryz.ntmps140
 go_wp2_with (first
  |(go_at_call 83;(with_reducible refine (H3.out _ G2.out.par).mono ?_);rintro e w3 ⟨rfl,hg⟩;have G3:=zY (G2.out.trans hg);clear hg)
  |(go_at_call 84;(with_reducible refine (H2.out _ G1.out.par).mono ?_);rintro e w2 ⟨rfl,hg⟩;have Bk:=(B1.out.grown hg.grown (fun e=>HBK.out.2 (Option.some.inj e).symm));have c2_1:=Bk.cell (k:=1) rfl;have f2_1:=Bk.frozen 1;have G2:=zY ((G1.out.trans hg).put (k:=1) HBK.out HI.out (.string (zW n2)));have B2:Hid (xZ 103 I (w2.setCell ⟨I,1,none⟩ (.string (zW n2))) (zJ 3 n2 [] (qN) zV zV pl)):=(Bk.set 1 (.string (zW n2)));clear hg Bk)
  |(go_at_call 83;(with_reducible refine (H1.out _ G0.out.par).mono ?_);rintro e w1 ⟨rfl,hg⟩;have Bk:=(B0.out.grown hg.grown (fun e=>HBK.out.2 (Option.some.inj e).symm));have c1_0:=Bk.cell (k:=0) rfl;have f1_0:=Bk.frozen 0;have G1:=zY ((G0.out.trans hg).put (k:=0) HBK.out HI.out (.int .u8 3));have B1:Hid (xZ 103 I (w1.setCell ⟨I,0,none⟩ (.int .u8 3)) (zJ 3 [] [] (qN) zV zV pl)):=(Bk.set 0 (.int .u8 3));clear hg Bk))
 exact ⟨rfl,rfl,G3.out,hj3⟩
theorem FB (P:Nat) (v:Value) (ts:List yJ) (i:Nat) (W0 W:World) (I:Nat) (pl:Int) (_hpl:(zM ts i).place=pl) (hG:zN P v ts i W0 W) (hP0:∀ {n:Nat},W0.heap.size<=n->v.ownBlock≠some n/\P≠n) (hI:W0.heap.size<=I) (hB:xZ 103 I W (zJ 0 [] [] (qN) zV zV pl)) (hE:yQ ts) (hi:i<ts.length) (hl:ts.length<=2000000) (j1:Nat) (j2:Nat) (n2:List UInt8) (j3:Nat) (j4:Nat) (h1:yX ts [105,110] i=(some (),j1)) (h2:wY ts j1=(some n2,j2)) (h3:yX ts [45,62] j2=(some (),j3)) (h4:xP ts j3=(none,j4)):
 Calls Tryz.prog 140 #[(qP P),(qP I)] W (wX P v ts W0 I (dU ts i)):=by
 have HM:dU ts i=(none,j4):=by unfold dU;rw[h1,zO,h2,zO,h3,zO,h4,yS]
 rw[HM];show Calls _ _ _ _ (fun e w'=>e=.panicked zH/\zN P v ts j4 W0 w'/\j4<ts.length)
 clear HM _hpl;have HBK:Hid (v.ownBlock≠some I/\P≠I):=hP0 hI;have HI:=zY hI;have G0:=zY hG;have B0:=zY hB;clear hG hB hP0 hI;have H1:Hid (∀ w1,yH P v ts i w1->Calls Tryz.prog 83 #[(qP P),.string ⟨#[105,110]⟩] w1 fun e w'=>e=.returned (.tuple #[])/\zN P v ts j1 w1 w'):=(zS h1 hE hi hl (by decide) P v).2;have hj1:j1<ts.length:=(zS h1 hE hi hl (by decide) P v).1;have H2:Hid (∀ w1,yH P v ts j1 w1->Calls Tryz.prog 84 #[(qP P)] w1 fun e w'=>e=.returned (.string (zW n2))/\zN P v ts j2 w1 w'):=(xN h2 hE hj1 hl P v).2;have hj2:j2<ts.length:=(xN h2 hE hj1 hl P v).1;have H3:Hid (∀ w1,yH P v ts j2 w1->Calls Tryz.prog 83 #[(qP P),.string ⟨#[45,62]⟩] w1 fun e w'=>e=.returned (.tuple #[])/\zN P v ts j3 w1 w'):=(zS h3 hE hj2 hl (by decide) P v).2;have hj3:j3<ts.length:=(zS h3 hE hj2 hl (by decide) P v).1;have H4:Hid (∀ w1,yH P v ts j3 w1->Calls Tryz.prog 165 #[(qP P)] w1 fun e w'=>e=.panicked zH/\zN P v ts j4 w1 w'):=(uE h4 hE hj3 hl P v).2;have hj4:j4<ts.length:=(uE h4 hE hj3 hl P v).1;clear h1 h2 h3 h4
 go_enter Tryz.func140,Tryz.ntmps140
 go_wp2_with (first
  |(go_at_call 165;(with_reducible refine (H4.out _ G3.out.par).mono ?_);rintro e w4 ⟨rfl,hg⟩;have G4:=zY (G3.out.trans hg);clear hg)
  |(go_at_call 83;(with_reducible refine (H3.out _ G2.out.par).mono ?_);rintro e w3 ⟨rfl,hg⟩;have Bk:=(B2.out.grown hg.grown (fun e=>HBK.out.2 (Option.some.inj e).symm));have G3:=zY (G2.out.trans hg);have B3:Hid (xZ 103 I w3 (zJ 3 n2 [] (qN) zV zV pl)):=Bk;clear hg Bk)
  |(go_at_call 84;(with_reducible refine (H2.out _ G1.out.par).mono ?_);rintro e w2 ⟨rfl,hg⟩;have Bk:=(B1.out.grown hg.grown (fun e=>HBK.out.2 (Option.some.inj e).symm));have c2_1:=Bk.cell (k:=1) rfl;have f2_1:=Bk.frozen 1;have G2:=zY ((G1.out.trans hg).put (k:=1) HBK.out HI.out (.string (zW n2)));have B2:Hid (xZ 103 I (w2.setCell ⟨I,1,none⟩ (.string (zW n2))) (zJ 3 n2 [] (qN) zV zV pl)):=(Bk.set 1 (.string (zW n2)));clear hg Bk)
  |(go_at_call 83;(with_reducible refine (H1.out _ G0.out.par).mono ?_);rintro e w1 ⟨rfl,hg⟩;have Bk:=(B0.out.grown hg.grown (fun e=>HBK.out.2 (Option.some.inj e).symm));have c1_0:=Bk.cell (k:=0) rfl;have f1_0:=Bk.frozen 0;have G1:=zY ((G0.out.trans hg).put (k:=0) HBK.out HI.out (.int .u8 3));have B1:Hid (xZ 103 I (w1.setCell ⟨I,0,none⟩ (.int .u8 3)) (zJ 3 [] [] (qN) zV zV pl)):=(Bk.set 0 (.int .u8 3));clear hg Bk))
 exact ⟨rfl,rfl,G4.out,hj4⟩
theorem EZ (P:Nat) (v:Value) (ts:List yJ) (i:Nat) (W0 W:World) (I:Nat) (pl:Int) (hpl:(zM ts i).place=pl) (hG:zN P v ts i W0 W) (hP0:∀ {n:Nat},W0.heap.size<=n->v.ownBlock≠some n/\P≠n) (hI:W0.heap.size<=I) (hB:xZ 103 I W (zJ 0 [] [] (qN) zV zV pl)) (hE:yQ ts) (hi:i<ts.length) (hl:ts.length<=2000000) (j1:Nat) (j2:Nat) (n2:List UInt8) (j3:Nat) (j4:Nat) (p4:vZ) (h1:yX ts [105,110] i=(some (),j1)) (h2:wY ts j1=(some n2,j2)) (h3:yX ts [45,62] j2=(some (),j3)) (h4:xP ts j3=(some p4,j4)):
 Calls Tryz.prog 140 #[(qP P),(qP I)] W (wX P v ts W0 I (dU ts i)):=by
 have HM:dU ts i=(some ⟨3,n2,[],[],zV,p4,pl⟩,j4):=by unfold dU;rw[h1,zO,h2,zO,h3,zO,h4,zO,hpl]
 rw[HM];show Calls _ _ _ _ (fun e w'=>e=.returned (.tuple #[])/\(∃ ns,xZ 103 I w' (zJ 3 n2 [] ns zV p4 pl)/\yZ W0.heap.size w' ns [])/\zN P v ts j4 W0 w'/\j4<ts.length)
 clear HM hpl;have HBK:Hid (v.ownBlock≠some I/\P≠I):=hP0 hI;have HI:=zY hI;have G0:=zY hG;have B0:=zY hB;clear hG hB hP0 hI;have H1:Hid (∀ w1,yH P v ts i w1->Calls Tryz.prog 83 #[(qP P),.string ⟨#[105,110]⟩] w1 fun e w'=>e=.returned (.tuple #[])/\zN P v ts j1 w1 w'):=(zS h1 hE hi hl (by decide) P v).2;have hj1:j1<ts.length:=(zS h1 hE hi hl (by decide) P v).1;have H2:Hid (∀ w1,yH P v ts j1 w1->Calls Tryz.prog 84 #[(qP P)] w1 fun e w'=>e=.returned (.string (zW n2))/\zN P v ts j2 w1 w'):=(xN h2 hE hj1 hl P v).2;have hj2:j2<ts.length:=(xN h2 hE hj1 hl P v).1;have H3:Hid (∀ w1,yH P v ts j2 w1->Calls Tryz.prog 83 #[(qP P),.string ⟨#[45,62]⟩] w1 fun e w'=>e=.returned (.tuple #[])/\zN P v ts j3 w1 w'):=(zS h3 hE hj2 hl (by decide) P v).2;have hj3:j3<ts.length:=(zS h3 hE hj2 hl (by decide) P v).1;have H4:Hid (∀ w1,yH P v ts j3 w1->Calls Tryz.prog 165 #[(qP P)] w1 fun e w'=>e=.returned (.agg #[.string (zW p4.name),.int .i64 p4.port,.int .i64 p4.place])/\zN P v ts j4 w1 w'):=(yF h4 hE hj3 hl P v).2;have hj4:j4<ts.length:=(yF h4 hE hj3 hl P v).1;clear h1 h2 h3 h4
 go_enter Tryz.func140,Tryz.ntmps140
 go_wp2_with (first
  |(go_at_call 165;(with_reducible refine (H4.out _ G3.out.par).mono ?_);rintro e w4 ⟨rfl,hg⟩;have Bk:=(B3.out.grown hg.grown (fun e=>HBK.out.2 (Option.some.inj e).symm));have c4_7:=Bk.cell (k:=7) rfl;have f4_7:=Bk.frozen 7;have c4_8:=Bk.cell (k:=8) rfl;have f4_8:=Bk.frozen 8;have c4_9:=Bk.cell (k:=9) rfl;have f4_9:=Bk.frozen 9;have G4:=zY ((((G3.out.trans hg).put (k:=7) HBK.out HI.out (.string (zW p4.name))).put (k:=8) HBK.out HI.out (.int .i64 p4.port)).put (k:=9) HBK.out HI.out (.int .i64 p4.place));have B4:Hid (xZ 103 I (((w4.setCell ⟨I,7,none⟩ (.string (zW p4.name))).setCell ⟨I,8,none⟩ (.int .i64 p4.port)).setCell ⟨I,9,none⟩ (.int .i64 p4.place)) (zJ 3 n2 [] (qN) zV p4 pl)):=(((Bk.set 7 (.string (zW p4.name))).set 8 (.int .i64 p4.port)).set 9 (.int .i64 p4.place));clear hg Bk)
  |(go_at_call 83;(with_reducible refine (H3.out _ G2.out.par).mono ?_);rintro e w3 ⟨rfl,hg⟩;have Bk:=(B2.out.grown hg.grown (fun e=>HBK.out.2 (Option.some.inj e).symm));have G3:=zY (G2.out.trans hg);have B3:Hid (xZ 103 I w3 (zJ 3 n2 [] (qN) zV zV pl)):=Bk;clear hg Bk)
  |(go_at_call 84;(with_reducible refine (H2.out _ G1.out.par).mono ?_);rintro e w2 ⟨rfl,hg⟩;have Bk:=(B1.out.grown hg.grown (fun e=>HBK.out.2 (Option.some.inj e).symm));have c2_1:=Bk.cell (k:=1) rfl;have f2_1:=Bk.frozen 1;have G2:=zY ((G1.out.trans hg).put (k:=1) HBK.out HI.out (.string (zW n2)));have B2:Hid (xZ 103 I (w2.setCell ⟨I,1,none⟩ (.string (zW n2))) (zJ 3 n2 [] (qN) zV zV pl)):=(Bk.set 1 (.string (zW n2)));clear hg Bk)
  |(go_at_call 83;(with_reducible refine (H1.out _ G0.out.par).mono ?_);rintro e w1 ⟨rfl,hg⟩;have Bk:=(B0.out.grown hg.grown (fun e=>HBK.out.2 (Option.some.inj e).symm));have c1_0:=Bk.cell (k:=0) rfl;have f1_0:=Bk.frozen 0;have G1:=zY ((G0.out.trans hg).put (k:=0) HBK.out HI.out (.int .u8 3));have B1:Hid (xZ 103 I (w1.setCell ⟨I,0,none⟩ (.int .u8 3)) (zJ 3 [] [] (qN) zV zV pl)):=(Bk.set 0 (.int .u8 3));clear hg Bk))
 go_end0
 exact ⟨rfl,⟨_,B4.out,World.ownsRow_nil _ _ _ _⟩,G4.out,hj4⟩
theorem XT (P:Nat) (v:Value) (ts:List yJ) (i:Nat) (W0 W:World) (I:Nat) (pl:Int) (hpl:(zM ts i).place=pl) (hG:zN P v ts i W0 W) (hP0:∀ {n:Nat},W0.heap.size<=n->v.ownBlock≠some n/\P≠n) (hI:W0.heap.size<=I) (hB:xZ 103 I W (zJ 0 [] [] (qN) zV zV pl)) (hE:yQ ts) (hi:i<ts.length) (hl:ts.length<=2000000) (ht:(zM ts i).text=[105,110]):
 Calls Tryz.prog 140 #[(qP P),(qP I)] W (wX P v ts W0 I (dU ts i)):=by
 rcases h1:yX ts [105,110] i with ⟨_|⟨⟩,j1⟩
 ·unfold yX at h1;rw[if_pos ht]at h1;cases h1
 rcases h2:wY ts j1 with ⟨_|n2,j2⟩
 ·exact FD P v ts i W0 W I pl hpl hG hP0 hI hB hE hi hl j1 j2 h1 h2
 rcases h3:yX ts [45,62] j2 with ⟨_|⟨⟩,j3⟩
 ·exact FC P v ts i W0 W I pl hpl hG hP0 hI hB hE hi hl j1 j2 n2 j3 h1 h2 h3
 rcases h4:xP ts j3 with ⟨_|p4,j4⟩
 ·exact FB P v ts i W0 W I pl hpl hG hP0 hI hB hE hi hl j1 j2 n2 j3 j4 h1 h2 h3 h4
 exact EZ P v ts i W0 W I pl hpl hG hP0 hI hB hE hi hl j1 j2 n2 j3 j4 p4 h1 h2 h3 h4
theorem EY (P:Nat) (v:Value) (ts:List yJ) (i:Nat) (W0 W:World) (I:Nat) (pl:Int) (_hpl:(zM ts i).place=pl) (hG:zN P v ts i W0 W) (hP0:∀ {n:Nat},W0.heap.size<=n->v.ownBlock≠some n/\P≠n) (hI:W0.heap.size<=I) (hB:xZ 103 I W (zJ 0 [] [] (qN) zV zV pl)) (_hE:yQ ts) (hi:i<ts.length) (hl:ts.length<=2000000) (j1:Nat) (h1:yX ts [111,117,116] i=(none,j1)):
 Calls Tryz.prog 141 #[(qP P),(qP I)] W (wX P v ts W0 I (rX ts i)):=by
 have HM:rX ts i=(none,j1):=by unfold rX;rw[h1,yS]
 rw[HM];show Calls _ _ _ _ (fun e w'=>e=.panicked zH/\zN P v ts j1 W0 w'/\j1<ts.length)
 clear HM _hpl;have HBK:Hid (v.ownBlock≠some I/\P≠I):=hP0 hI;have HI:=zY hI;have G0:=zY hG;have B0:=zY hB;clear hG hB hP0 hI;have H1:Hid (∀ w1,yH P v ts i w1->Calls Tryz.prog 83 #[(qP P),.string ⟨#[111,117,116]⟩] w1 fun e w'=>e=.panicked zH/\zN P v ts j1 w1 w'):=(yG h1 hi hl P v).2;have hj1:j1<ts.length:=(yG h1 hi hl P v).1;clear h1
 go_enter Tryz.func141,Tryz.ntmps141
 go_wp2_with (first
  |(go_at_call 83;(with_reducible refine (H1.out _ G0.out.par).mono ?_);rintro e w1 ⟨rfl,hg⟩;have G1:=zY (G0.out.trans hg);clear hg))
 exact ⟨rfl,rfl,G1.out,hj1⟩
theorem EX (P:Nat) (v:Value) (ts:List yJ) (i:Nat) (W0 W:World) (I:Nat) (pl:Int) (_hpl:(zM ts i).place=pl) (hG:zN P v ts i W0 W) (hP0:∀ {n:Nat},W0.heap.size<=n->v.ownBlock≠some n/\P≠n) (hI:W0.heap.size<=I) (hB:xZ 103 I W (zJ 0 [] [] (qN) zV zV pl)) (hE:yQ ts) (hi:i<ts.length) (hl:ts.length<=2000000) (j1:Nat) (j2:Nat) (h1:yX ts [111,117,116] i=(some (),j1)) (h2:xP ts j1=(none,j2)):
 Calls Tryz.prog 141 #[(qP P),(qP I)] W (wX P v ts W0 I (rX ts i)):=by
 have HM:rX ts i=(none,j2):=by unfold rX;rw[h1,zO,h2,yS]
 rw[HM];show Calls _ _ _ _ (fun e w'=>e=.panicked zH/\zN P v ts j2 W0 w'/\j2<ts.length)
 clear HM _hpl;have HBK:Hid (v.ownBlock≠some I/\P≠I):=hP0 hI;have HI:=zY hI;have G0:=zY hG;have B0:=zY hB;clear hG hB hP0 hI;have H1:Hid (∀ w1,yH P v ts i w1->Calls Tryz.prog 83 #[(qP P),.string ⟨#[111,117,116]⟩] w1 fun e w'=>e=.returned (.tuple #[])/\zN P v ts j1 w1 w'):=(zS h1 hE hi hl (by decide) P v).2;have hj1:j1<ts.length:=(zS h1 hE hi hl (by decide) P v).1;have H2:Hid (∀ w1,yH P v ts j1 w1->Calls Tryz.prog 165 #[(qP P)] w1 fun e w'=>e=.panicked zH/\zN P v ts j2 w1 w'):=(uE h2 hE hj1 hl P v).2;have hj2:j2<ts.length:=(uE h2 hE hj1 hl P v).1;clear h1 h2
 go_enter Tryz.func141,Tryz.ntmps141
 go_wp2_with (first
  |(go_at_call 165;(with_reducible refine (H2.out _ G1.out.par).mono ?_);rintro e w2 ⟨rfl,hg⟩;have G2:=zY (G1.out.trans hg);clear hg)
  |(go_at_call 83;(with_reducible refine (H1.out _ G0.out.par).mono ?_);rintro e w1 ⟨rfl,hg⟩;have Bk:=(B0.out.grown hg.grown (fun e=>HBK.out.2 (Option.some.inj e).symm));have c1_0:=Bk.cell (k:=0) rfl;have f1_0:=Bk.frozen 0;have G1:=zY ((G0.out.trans hg).put (k:=0) HBK.out HI.out (.int .u8 4));have B1:Hid (xZ 103 I (w1.setCell ⟨I,0,none⟩ (.int .u8 4)) (zJ 4 [] [] (qN) zV zV pl)):=(Bk.set 0 (.int .u8 4));clear hg Bk))
 exact ⟨rfl,rfl,G2.out,hj2⟩
theorem EW (P:Nat) (v:Value) (ts:List yJ) (i:Nat) (W0 W:World) (I:Nat) (pl:Int) (_hpl:(zM ts i).place=pl) (hG:zN P v ts i W0 W) (hP0:∀ {n:Nat},W0.heap.size<=n->v.ownBlock≠some n/\P≠n) (hI:W0.heap.size<=I) (hB:xZ 103 I W (zJ 0 [] [] (qN) zV zV pl)) (hE:yQ ts) (hi:i<ts.length) (hl:ts.length<=2000000) (j1:Nat) (j2:Nat) (p2:vZ) (j3:Nat) (h1:yX ts [111,117,116] i=(some (),j1)) (h2:xP ts j1=(some p2,j2)) (h3:yX ts [45,62] j2=(none,j3)):
 Calls Tryz.prog 141 #[(qP P),(qP I)] W (wX P v ts W0 I (rX ts i)):=by
 have HM:rX ts i=(none,j3):=by unfold rX;rw[h1,zO,h2,zO,h3,yS]
 rw[HM];show Calls _ _ _ _ (fun e w'=>e=.panicked zH/\zN P v ts j3 W0 w'/\j3<ts.length)
 clear HM _hpl;have HBK:Hid (v.ownBlock≠some I/\P≠I):=hP0 hI;have HI:=zY hI;have G0:=zY hG;have B0:=zY hB;clear hG hB hP0 hI;have H1:Hid (∀ w1,yH P v ts i w1->Calls Tryz.prog 83 #[(qP P),.string ⟨#[111,117,116]⟩] w1 fun e w'=>e=.returned (.tuple #[])/\zN P v ts j1 w1 w'):=(zS h1 hE hi hl (by decide) P v).2;have hj1:j1<ts.length:=(zS h1 hE hi hl (by decide) P v).1;have H2:Hid (∀ w1,yH P v ts j1 w1->Calls Tryz.prog 165 #[(qP P)] w1 fun e w'=>e=.returned (.agg #[.string (zW p2.name),.int .i64 p2.port,.int .i64 p2.place])/\zN P v ts j2 w1 w'):=(yF h2 hE hj1 hl P v).2;have hj2:j2<ts.length:=(yF h2 hE hj1 hl P v).1;have H3:Hid (∀ w1,yH P v ts j2 w1->Calls Tryz.prog 83 #[(qP P),.string ⟨#[45,62]⟩] w1 fun e w'=>e=.panicked zH/\zN P v ts j3 w1 w'):=(yG h3 hj2 hl P v).2;have hj3:j3<ts.length:=(yG h3 hj2 hl P v).1;clear h1 h2 h3
 go_enter Tryz.func141,Tryz.ntmps141
 go_wp2_with (first
  |(go_at_call 83;(with_reducible refine (H3.out _ G2.out.par).mono ?_);rintro e w3 ⟨rfl,hg⟩;have G3:=zY (G2.out.trans hg);clear hg)
  |(go_at_call 165;(with_reducible refine (H2.out _ G1.out.par).mono ?_);rintro e w2 ⟨rfl,hg⟩;have Bk:=(B1.out.grown hg.grown (fun e=>HBK.out.2 (Option.some.inj e).symm));have c2_4:=Bk.cell (k:=4) rfl;have f2_4:=Bk.frozen 4;have c2_5:=Bk.cell (k:=5) rfl;have f2_5:=Bk.frozen 5;have c2_6:=Bk.cell (k:=6) rfl;have f2_6:=Bk.frozen 6;have G2:=zY ((((G1.out.trans hg).put (k:=4) HBK.out HI.out (.string (zW p2.name))).put (k:=5) HBK.out HI.out (.int .i64 p2.port)).put (k:=6) HBK.out HI.out (.int .i64 p2.place));have B2:Hid (xZ 103 I (((w2.setCell ⟨I,4,none⟩ (.string (zW p2.name))).setCell ⟨I,5,none⟩ (.int .i64 p2.port)).setCell ⟨I,6,none⟩ (.int .i64 p2.place)) (zJ 4 [] [] (qN) p2 zV pl)):=(((Bk.set 4 (.string (zW p2.name))).set 5 (.int .i64 p2.port)).set 6 (.int .i64 p2.place));clear hg Bk)
  |(go_at_call 83;(with_reducible refine (H1.out _ G0.out.par).mono ?_);rintro e w1 ⟨rfl,hg⟩;have Bk:=(B0.out.grown hg.grown (fun e=>HBK.out.2 (Option.some.inj e).symm));have c1_0:=Bk.cell (k:=0) rfl;have f1_0:=Bk.frozen 0;have G1:=zY ((G0.out.trans hg).put (k:=0) HBK.out HI.out (.int .u8 4));have B1:Hid (xZ 103 I (w1.setCell ⟨I,0,none⟩ (.int .u8 4)) (zJ 4 [] [] (qN) zV zV pl)):=(Bk.set 0 (.int .u8 4));clear hg Bk))
 exact ⟨rfl,rfl,G3.out,hj3⟩
theorem EV (P:Nat) (v:Value) (ts:List yJ) (i:Nat) (W0 W:World) (I:Nat) (pl:Int) (_hpl:(zM ts i).place=pl) (hG:zN P v ts i W0 W) (hP0:∀ {n:Nat},W0.heap.size<=n->v.ownBlock≠some n/\P≠n) (hI:W0.heap.size<=I) (hB:xZ 103 I W (zJ 0 [] [] (qN) zV zV pl)) (hE:yQ ts) (hi:i<ts.length) (hl:ts.length<=2000000) (j1:Nat) (j2:Nat) (p2:vZ) (j3:Nat) (j4:Nat) (h1:yX ts [111,117,116] i=(some (),j1)) (h2:xP ts j1=(some p2,j2)) (h3:yX ts [45,62] j2=(some (),j3)) (h4:wY ts j3=(none,j4)):
 Calls Tryz.prog 141 #[(qP P),(qP I)] W (wX P v ts W0 I (rX ts i)):=by
 have HM:rX ts i=(none,j4):=by unfold rX;rw[h1,zO,h2,zO,h3,zO,h4,yS]
 rw[HM];show Calls _ _ _ _ (fun e w'=>e=.panicked zH/\zN P v ts j4 W0 w'/\j4<ts.length)
 clear HM _hpl;have HBK:Hid (v.ownBlock≠some I/\P≠I):=hP0 hI;have HI:=zY hI;have G0:=zY hG;have B0:=zY hB;clear hG hB hP0 hI;have H1:Hid (∀ w1,yH P v ts i w1->Calls Tryz.prog 83 #[(qP P),.string ⟨#[111,117,116]⟩] w1 fun e w'=>e=.returned (.tuple #[])/\zN P v ts j1 w1 w'):=(zS h1 hE hi hl (by decide) P v).2;have hj1:j1<ts.length:=(zS h1 hE hi hl (by decide) P v).1;have H2:Hid (∀ w1,yH P v ts j1 w1->Calls Tryz.prog 165 #[(qP P)] w1 fun e w'=>e=.returned (.agg #[.string (zW p2.name),.int .i64 p2.port,.int .i64 p2.place])/\zN P v ts j2 w1 w'):=(yF h2 hE hj1 hl P v).2;have hj2:j2<ts.length:=(yF h2 hE hj1 hl P v).1;have H3:Hid (∀ w1,yH P v ts j2 w1->Calls Tryz.prog 83 #[(qP P),.string ⟨#[45,62]⟩] w1 fun e w'=>e=.returned (.tuple #[])/\zN P v ts j3 w1 w'):=(zS h3 hE hj2 hl (by decide) P v).2;have hj3:j3<ts.length:=(zS h3 hE hj2 hl (by decide) P v).1;have H4:Hid (∀ w1,yH P v ts j3 w1->Calls Tryz.prog 84 #[(qP P)] w1 fun e w'=>e=.panicked zH/\zN P v ts j4 w1 w'):=(uU h4 hj3 hl P v).2;have hj4:j4<ts.length:=(uU h4 hj3 hl P v).1;clear h1 h2 h3 h4
 go_enter Tryz.func141,Tryz.ntmps141
 go_wp2_with (first
  |(go_at_call 84;(with_reducible refine (H4.out _ G3.out.par).mono ?_);rintro e w4 ⟨rfl,hg⟩;have G4:=zY (G3.out.trans hg);clear hg)
  |(go_at_call 83;(with_reducible refine (H3.out _ G2.out.par).mono ?_);rintro e w3 ⟨rfl,hg⟩;have Bk:=(B2.out.grown hg.grown (fun e=>HBK.out.2 (Option.some.inj e).symm));have G3:=zY (G2.out.trans hg);have B3:Hid (xZ 103 I w3 (zJ 4 [] [] (qN) p2 zV pl)):=Bk;clear hg Bk)
  |(go_at_call 165;(with_reducible refine (H2.out _ G1.out.par).mono ?_);rintro e w2 ⟨rfl,hg⟩;have Bk:=(B1.out.grown hg.grown (fun e=>HBK.out.2 (Option.some.inj e).symm));have c2_4:=Bk.cell (k:=4) rfl;have f2_4:=Bk.frozen 4;have c2_5:=Bk.cell (k:=5) rfl;have f2_5:=Bk.frozen 5;have c2_6:=Bk.cell (k:=6) rfl;have f2_6:=Bk.frozen 6;have G2:=zY ((((G1.out.trans hg).put (k:=4) HBK.out HI.out (.string (zW p2.name))).put (k:=5) HBK.out HI.out (.int .i64 p2.port)).put (k:=6) HBK.out HI.out (.int .i64 p2.place));have B2:Hid (xZ 103 I (((w2.setCell ⟨I,4,none⟩ (.string (zW p2.name))).setCell ⟨I,5,none⟩ (.int .i64 p2.port)).setCell ⟨I,6,none⟩ (.int .i64 p2.place)) (zJ 4 [] [] (qN) p2 zV pl)):=(((Bk.set 4 (.string (zW p2.name))).set 5 (.int .i64 p2.port)).set 6 (.int .i64 p2.place));clear hg Bk)
  |(go_at_call 83;(with_reducible refine (H1.out _ G0.out.par).mono ?_);rintro e w1 ⟨rfl,hg⟩;have Bk:=(B0.out.grown hg.grown (fun e=>HBK.out.2 (Option.some.inj e).symm));have c1_0:=Bk.cell (k:=0) rfl;have f1_0:=Bk.frozen 0;have G1:=zY ((G0.out.trans hg).put (k:=0) HBK.out HI.out (.int .u8 4));have B1:Hid (xZ 103 I (w1.setCell ⟨I,0,none⟩ (.int .u8 4)) (zJ 4 [] [] (qN) zV zV pl)):=(Bk.set 0 (.int .u8 4));clear hg Bk))
 exact ⟨rfl,rfl,G4.out,hj4⟩
theorem EU (P:Nat) (v:Value) (ts:List yJ) (i:Nat) (W0 W:World) (I:Nat) (pl:Int) (hpl:(zM ts i).place=pl) (hG:zN P v ts i W0 W) (hP0:∀ {n:Nat},W0.heap.size<=n->v.ownBlock≠some n/\P≠n) (hI:W0.heap.size<=I) (hB:xZ 103 I W (zJ 0 [] [] (qN) zV zV pl)) (hE:yQ ts) (hi:i<ts.length) (hl:ts.length<=2000000) (j1:Nat) (j2:Nat) (p2:vZ) (j3:Nat) (j4:Nat) (n4:List UInt8) (h1:yX ts [111,117,116] i=(some (),j1)) (h2:xP ts j1=(some p2,j2)) (h3:yX ts [45,62] j2=(some (),j3)) (h4:wY ts j3=(some n4,j4)):
 Calls Tryz.prog 141 #[(qP P),(qP I)] W (wX P v ts W0 I (rX ts i)):=by
 have HM:rX ts i=(some ⟨4,n4,[],[],p2,zV,pl⟩,j4):=by unfold rX;rw[h1,zO,h2,zO,h3,zO,h4,zO,hpl]
 rw[HM];show Calls _ _ _ _ (fun e w'=>e=.returned (.tuple #[])/\(∃ ns,xZ 103 I w' (zJ 4 n4 [] ns p2 zV pl)/\yZ W0.heap.size w' ns [])/\zN P v ts j4 W0 w'/\j4<ts.length)
 clear HM hpl;have HBK:Hid (v.ownBlock≠some I/\P≠I):=hP0 hI;have HI:=zY hI;have G0:=zY hG;have B0:=zY hB;clear hG hB hP0 hI;have H1:Hid (∀ w1,yH P v ts i w1->Calls Tryz.prog 83 #[(qP P),.string ⟨#[111,117,116]⟩] w1 fun e w'=>e=.returned (.tuple #[])/\zN P v ts j1 w1 w'):=(zS h1 hE hi hl (by decide) P v).2;have hj1:j1<ts.length:=(zS h1 hE hi hl (by decide) P v).1;have H2:Hid (∀ w1,yH P v ts j1 w1->Calls Tryz.prog 165 #[(qP P)] w1 fun e w'=>e=.returned (.agg #[.string (zW p2.name),.int .i64 p2.port,.int .i64 p2.place])/\zN P v ts j2 w1 w'):=(yF h2 hE hj1 hl P v).2;have hj2:j2<ts.length:=(yF h2 hE hj1 hl P v).1;have H3:Hid (∀ w1,yH P v ts j2 w1->Calls Tryz.prog 83 #[(qP P),.string ⟨#[45,62]⟩] w1 fun e w'=>e=.returned (.tuple #[])/\zN P v ts j3 w1 w'):=(zS h3 hE hj2 hl (by decide) P v).2;have hj3:j3<ts.length:=(zS h3 hE hj2 hl (by decide) P v).1;have H4:Hid (∀ w1,yH P v ts j3 w1->Calls Tryz.prog 84 #[(qP P)] w1 fun e w'=>e=.returned (.string (zW n4))/\zN P v ts j4 w1 w'):=(xN h4 hE hj3 hl P v).2;have hj4:j4<ts.length:=(xN h4 hE hj3 hl P v).1;clear h1 h2 h3 h4
 go_enter Tryz.func141,Tryz.ntmps141
 go_wp2_with (first
  |(go_at_call 84;(with_reducible refine (H4.out _ G3.out.par).mono ?_);rintro e w4 ⟨rfl,hg⟩;have Bk:=(B3.out.grown hg.grown (fun e=>HBK.out.2 (Option.some.inj e).symm));have c4_1:=Bk.cell (k:=1) rfl;have f4_1:=Bk.frozen 1;have G4:=zY ((G3.out.trans hg).put (k:=1) HBK.out HI.out (.string (zW n4)));have B4:Hid (xZ 103 I (w4.setCell ⟨I,1,none⟩ (.string (zW n4))) (zJ 4 n4 [] (qN) p2 zV pl)):=(Bk.set 1 (.string (zW n4)));clear hg Bk)
  |(go_at_call 83;(with_reducible refine (H3.out _ G2.out.par).mono ?_);rintro e w3 ⟨rfl,hg⟩;have Bk:=(B2.out.grown hg.grown (fun e=>HBK.out.2 (Option.some.inj e).symm));have G3:=zY (G2.out.trans hg);have B3:Hid (xZ 103 I w3 (zJ 4 [] [] (qN) p2 zV pl)):=Bk;clear hg Bk)
  |(go_at_call 165;(with_reducible refine (H2.out _ G1.out.par).mono ?_);rintro e w2 ⟨rfl,hg⟩;have Bk:=(B1.out.grown hg.grown (fun e=>HBK.out.2 (Option.some.inj e).symm));have c2_4:=Bk.cell (k:=4) rfl;have f2_4:=Bk.frozen 4;have c2_5:=Bk.cell (k:=5) rfl;have f2_5:=Bk.frozen 5;have c2_6:=Bk.cell (k:=6) rfl;have f2_6:=Bk.frozen 6;have G2:=zY ((((G1.out.trans hg).put (k:=4) HBK.out HI.out (.string (zW p2.name))).put (k:=5) HBK.out HI.out (.int .i64 p2.port)).put (k:=6) HBK.out HI.out (.int .i64 p2.place));have B2:Hid (xZ 103 I (((w2.setCell ⟨I,4,none⟩ (.string (zW p2.name))).setCell ⟨I,5,none⟩ (.int .i64 p2.port)).setCell ⟨I,6,none⟩ (.int .i64 p2.place)) (zJ 4 [] [] (qN) p2 zV pl)):=(((Bk.set 4 (.string (zW p2.name))).set 5 (.int .i64 p2.port)).set 6 (.int .i64 p2.place));clear hg Bk)
  |(go_at_call 83;(with_reducible refine (H1.out _ G0.out.par).mono ?_);rintro e w1 ⟨rfl,hg⟩;have Bk:=(B0.out.grown hg.grown (fun e=>HBK.out.2 (Option.some.inj e).symm));have c1_0:=Bk.cell (k:=0) rfl;have f1_0:=Bk.frozen 0;have G1:=zY ((G0.out.trans hg).put (k:=0) HBK.out HI.out (.int .u8 4));have B1:Hid (xZ 103 I (w1.setCell ⟨I,0,none⟩ (.int .u8 4)) (zJ 4 [] [] (qN) zV zV pl)):=(Bk.set 0 (.int .u8 4));clear hg Bk))
 go_end0
 exact ⟨rfl,⟨_,B4.out,World.ownsRow_nil _ _ _ _⟩,G4.out,hj4⟩
theorem XS (P:Nat) (v:Value) (ts:List yJ) (i:Nat) (W0 W:World) (I:Nat) (pl:Int) (hpl:(zM ts i).place=pl) (hG:zN P v ts i W0 W) (hP0:∀ {n:Nat},W0.heap.size<=n->v.ownBlock≠some n/\P≠n) (hI:W0.heap.size<=I) (hB:xZ 103 I W (zJ 0 [] [] (qN) zV zV pl)) (hE:yQ ts) (hi:i<ts.length) (hl:ts.length<=2000000):
 Calls Tryz.prog 141 #[(qP P),(qP I)] W (wX P v ts W0 I (rX ts i)):=by
 rcases h1:yX ts [111,117,116] i with ⟨_|⟨⟩,j1⟩
 ·exact EY P v ts i W0 W I pl hpl hG hP0 hI hB hE hi hl j1 h1
 rcases h2:xP ts j1 with ⟨_|p2,j2⟩
 ·exact EX P v ts i W0 W I pl hpl hG hP0 hI hB hE hi hl j1 j2 h1 h2
 rcases h3:yX ts [45,62] j2 with ⟨_|⟨⟩,j3⟩
 ·exact EW P v ts i W0 W I pl hpl hG hP0 hI hB hE hi hl j1 j2 p2 j3 h1 h2 h3
 rcases h4:wY ts j3 with ⟨_|n4,j4⟩
 ·exact EV P v ts i W0 W I pl hpl hG hP0 hI hB hE hi hl j1 j2 p2 j3 j4 h1 h2 h3 h4
 exact EU P v ts i W0 W I pl hpl hG hP0 hI hB hE hi hl j1 j2 p2 j3 j4 n4 h1 h2 h3 h4
theorem SN {w w':World} (h:w.grownBy w' none):Below w.heap.size w w':=⟨h.os,h.tape,h.output,h.size,fun k hk=>h.block k hk (fun e=>by cases e)⟩
theorem NW (base:Nat) (w:World) (b:Nat) (x:Int) (hc:w.cell? ⟨b,0,none⟩=some (.int .i64 x)) (hb:base<=w.heap.size):
 ∃r' w',(Builtin.append_ #[60,60] 60 #[qN,.slice (some ⟨b,0,none⟩) 1 1]).run Tryz.prog w=.ok r' w'/\yZ base w' r' [x]/\Below w.heap.size w w':=by
 obtain ⟨i0,hi,hz0,hz1,hz2⟩:=info_parts Tryz.info3'
 obtain ⟨r',w',hr,ho,hg,-⟩:=run_append_own (P:=Tryz.prog) (w:=w) base 60 60 3 i0 (.int .i64 0) 1 8 Tryz.underlying60 hi hz0 hz1 hz2 rfl (by decide) (qN) 0 [] (World.ownsRow_nil _ _ _ _) ⟨b,0,none⟩ 1 1 [.int .i64 x] rfl (fun j u hu=>by
  match j,hu with
  |0,hu=>simp at hu;subst hu;simpa [Addr.add] using hc) (QB _) (by decide) (by decide) hb
 exact ⟨r',w',hr,ho,SN hg⟩
theorem VY (base base2:Nat) (w:World) (r q:Value) (ns ms:List Int) (h:yZ base w r ns) (h2:yZ base2 w q ms) (hb:base<=w.heap.size) (hl:ns.length+ms.length<=4000000):
 ∃r' w',(Builtin.append_ #[60,60] 60 #[r,q]).run Tryz.prog w=.ok r' w'/\yZ base w' r' (ns++ms)/\w.grownBy w' r.ownBlock:=by
 obtain ⟨i0,hi,hz0,hz1,hz2⟩:=info_parts Tryz.info3'
 rcases h2.2 with ⟨rfl,h0⟩|⟨g,cap,cur,rfl,-⟩
 ·have e:ms=[]:=List.eq_nil_of_length_eq_zero h0
  subst e;refine ⟨r,w,run_append_owned_none (P:=Tryz.prog) (w:=w) base 60 60 3 i0 1 Tryz.underlying60 hi r _ _ h,by rw[List.append_nil];exact h,rfl,rfl,rfl,Nat.le_refl _,fun _ _ _=>rfl⟩
 obtain ⟨r',w',hr,ho,hg,-⟩:=run_append_own (P:=Tryz.prog) (w:=w) base 60 60 3 i0 (.int .i64 0) 1 8 Tryz.underlying60 hi hz0 hz1 hz2 rfl (by decide) r _ _ h ⟨g,0,none⟩ ms.length cap (ms.map (Value.int .i64)) (by simp) (fun j u hu=>World.ownsRow.cells h2 (g:=g) rfl j u hu) (by
  intro u hu;obtain ⟨y,-,rfl⟩:=List.mem_map.1 hu
  rfl) (by unfold maxLen;omega) (by omega) hb
 refine ⟨r',w',hr,?_,hg⟩
 unfold yZ;rw[List.length_append,List.map_append];exact ho
theorem nW {base:Nat} {w:World} {e:TypeId} {size n:Nat} {v:Value} {xs:List Value} (h:w.ownsRow base e size v n xs):∀k,v.ownBlock=some k->k<w.heap.size:=fun k hk=>by
 rcases h.2 with ⟨rfl,-⟩|⟨g,c,cur,rfl,hg,hh,-⟩
 ·cases hk
 cases hk
 exact (Array.getElem?_eq_some_iff.1 hh).1
theorem yZ.kept {base w w' r ns} {row:Option Nat} (h:yZ base w r ns) (hg:w.grownBy w' row) (hr:∀k,row=some k->k<base):yZ base w' r ns:=by
 refine World.ownsRow.kept h hg ?_
 by_cases e:r.ownBlock=none
 ·exact Or.inl e
 refine Or.inr (fun e2=>?_)
 cases hk:r.ownBlock with
 |none=>exact e hk
 |some k=>
  have h1:=hr k (by rw[<- e2,hk]);exact fZ h h1 hk
theorem KP (P:Nat) (v:Value) (ts:List yJ) (i:Nat) (W0 W:World) (I:Nat) (pl:Int) (_hpl:(zM ts i).place=pl) (hG:zN P v ts i W0 W) (hP0:∀ {n:Nat},W0.heap.size<=n->v.ownBlock≠some n/\P≠n) (hI:W0.heap.size<=I) (hB:xZ 103 I W (zJ 0 [] [] (qN) zV zV pl)) (hE:yQ ts) (hi:i<ts.length) (hl:ts.length<=2000000) (j1:Nat) (j2:Nat) (h1:yX ts [101,100,103,101] i=(some (),j1)) (h2:xP ts j1=(none,j2)):
 Calls Tryz.prog 139 #[(qP P),(qP I)] W (wX P v ts W0 I (vF ts i)):=by
 have HM:vF ts i=(none,j2):=by unfold vF;rw[h1,zO,h2,yS]
 rw[HM];show Calls _ _ _ _ (fun e w'=>e=.panicked zH/\zN P v ts j2 W0 w'/\j2<ts.length)
 clear HM _hpl;have HBK:Hid (v.ownBlock≠some I/\P≠I):=hP0 hI;have HI:=zY hI;have G0:=zY hG;have B0:=zY hB;clear hG hB hP0 hI;have H1:Hid (∀ w1,yH P v ts i w1->Calls Tryz.prog 83 #[(qP P),.string ⟨#[101,100,103,101]⟩] w1 fun e w'=>e=.returned (.tuple #[])/\zN P v ts j1 w1 w'):=(zS h1 hE hi hl (by decide) P v).2;have hj1:j1<ts.length:=(zS h1 hE hi hl (by decide) P v).1;have H2:Hid (∀ w1,yH P v ts j1 w1->Calls Tryz.prog 165 #[(qP P)] w1 fun e w'=>e=.panicked zH/\zN P v ts j2 w1 w'):=(uE h2 hE hj1 hl P v).2;have hj2:j2<ts.length:=(uE h2 hE hj1 hl P v).1;clear h1 h2
 go_enter Tryz.func139,Tryz.ntmps139
 go_wp2_with (first
  |(go_at_call 165;(with_reducible refine (H2.out _ G1.out.par).mono ?_);rintro e w2 ⟨rfl,hg⟩;have G2:=zY (G1.out.trans hg);clear hg)
  |(go_at_call 83;(with_reducible refine (H1.out _ G0.out.par).mono ?_);rintro e w1 ⟨rfl,hg⟩;have Bk:=(B0.out.grown hg.grown (fun e=>HBK.out.2 (Option.some.inj e).symm));have c1_0:=Bk.cell (k:=0) rfl;have f1_0:=Bk.frozen 0;have G1:=zY ((G0.out.trans hg).put (k:=0) HBK.out HI.out (.int .u8 2));have B1:Hid (xZ 103 I (w1.setCell ⟨I,0,none⟩ (.int .u8 2)) (zJ 2 [] [] (qN) zV zV pl)):=(Bk.set 0 (.int .u8 2));clear hg Bk))
 exact ⟨rfl,rfl,G2.out,hj2⟩
theorem KN (P:Nat) (v:Value) (ts:List yJ) (i:Nat) (W0 W:World) (I:Nat) (pl:Int) (_hpl:(zM ts i).place=pl) (hG:zN P v ts i W0 W) (hP0:∀ {n:Nat},W0.heap.size<=n->v.ownBlock≠some n/\P≠n) (hI:W0.heap.size<=I) (hB:xZ 103 I W (zJ 0 [] [] (qN) zV zV pl)) (hE:yQ ts) (hi:i<ts.length) (hl:ts.length<=2000000) (j1:Nat) (j2:Nat) (p2:vZ) (j3:Nat) (h1:yX ts [101,100,103,101] i=(some (),j1)) (h2:xP ts j1=(some p2,j2)) (h3:yX ts [45,62] j2=(none,j3)):
 Calls Tryz.prog 139 #[(qP P),(qP I)] W (wX P v ts W0 I (vF ts i)):=by
 have HM:vF ts i=(none,j3):=by unfold vF;rw[h1,zO,h2,zO,h3,yS]
 rw[HM];show Calls _ _ _ _ (fun e w'=>e=.panicked zH/\zN P v ts j3 W0 w'/\j3<ts.length)
 clear HM _hpl;have HBK:Hid (v.ownBlock≠some I/\P≠I):=hP0 hI;have HI:=zY hI;have G0:=zY hG;have B0:=zY hB;clear hG hB hP0 hI;have H1:Hid (∀ w1,yH P v ts i w1->Calls Tryz.prog 83 #[(qP P),.string ⟨#[101,100,103,101]⟩] w1 fun e w'=>e=.returned (.tuple #[])/\zN P v ts j1 w1 w'):=(zS h1 hE hi hl (by decide) P v).2;have hj1:j1<ts.length:=(zS h1 hE hi hl (by decide) P v).1;have H2:Hid (∀ w1,yH P v ts j1 w1->Calls Tryz.prog 165 #[(qP P)] w1 fun e w'=>e=.returned (.agg #[.string (zW p2.name),.int .i64 p2.port,.int .i64 p2.place])/\zN P v ts j2 w1 w'):=(yF h2 hE hj1 hl P v).2;have hj2:j2<ts.length:=(yF h2 hE hj1 hl P v).1;have H3:Hid (∀ w1,yH P v ts j2 w1->Calls Tryz.prog 83 #[(qP P),.string ⟨#[45,62]⟩] w1 fun e w'=>e=.panicked zH/\zN P v ts j3 w1 w'):=(yG h3 hj2 hl P v).2;have hj3:j3<ts.length:=(yG h3 hj2 hl P v).1;clear h1 h2 h3
 go_enter Tryz.func139,Tryz.ntmps139
 go_wp2_with (first
  |(go_at_call 83;(with_reducible refine (H3.out _ G2.out.par).mono ?_);rintro e w3 ⟨rfl,hg⟩;have G3:=zY (G2.out.trans hg);clear hg)
  |(go_at_call 165;(with_reducible refine (H2.out _ G1.out.par).mono ?_);rintro e w2 ⟨rfl,hg⟩;have Bk:=(B1.out.grown hg.grown (fun e=>HBK.out.2 (Option.some.inj e).symm));have c2_4:=Bk.cell (k:=4) rfl;have f2_4:=Bk.frozen 4;have c2_5:=Bk.cell (k:=5) rfl;have f2_5:=Bk.frozen 5;have c2_6:=Bk.cell (k:=6) rfl;have f2_6:=Bk.frozen 6;have G2:=zY ((((G1.out.trans hg).put (k:=4) HBK.out HI.out (.string (zW p2.name))).put (k:=5) HBK.out HI.out (.int .i64 p2.port)).put (k:=6) HBK.out HI.out (.int .i64 p2.place));have B2:Hid (xZ 103 I (((w2.setCell ⟨I,4,none⟩ (.string (zW p2.name))).setCell ⟨I,5,none⟩ (.int .i64 p2.port)).setCell ⟨I,6,none⟩ (.int .i64 p2.place)) (zJ 2 [] [] (qN) p2 zV pl)):=(((Bk.set 4 (.string (zW p2.name))).set 5 (.int .i64 p2.port)).set 6 (.int .i64 p2.place));clear hg Bk)
  |(go_at_call 83;(with_reducible refine (H1.out _ G0.out.par).mono ?_);rintro e w1 ⟨rfl,hg⟩;have Bk:=(B0.out.grown hg.grown (fun e=>HBK.out.2 (Option.some.inj e).symm));have c1_0:=Bk.cell (k:=0) rfl;have f1_0:=Bk.frozen 0;have G1:=zY ((G0.out.trans hg).put (k:=0) HBK.out HI.out (.int .u8 2));have B1:Hid (xZ 103 I (w1.setCell ⟨I,0,none⟩ (.int .u8 2)) (zJ 2 [] [] (qN) zV zV pl)):=(Bk.set 0 (.int .u8 2));clear hg Bk))
 exact ⟨rfl,rfl,G3.out,hj3⟩
theorem KM (P:Nat) (v:Value) (ts:List yJ) (i:Nat) (W0 W:World) (I:Nat) (pl:Int) (_hpl:(zM ts i).place=pl) (hG:zN P v ts i W0 W) (hP0:∀ {n:Nat},W0.heap.size<=n->v.ownBlock≠some n/\P≠n) (hI:W0.heap.size<=I) (hB:xZ 103 I W (zJ 0 [] [] (qN) zV zV pl)) (hE:yQ ts) (hi:i<ts.length) (hl:ts.length<=2000000) (j1:Nat) (j2:Nat) (p2:vZ) (j3:Nat) (j4:Nat) (h1:yX ts [101,100,103,101] i=(some (),j1)) (h2:xP ts j1=(some p2,j2)) (h3:yX ts [45,62] j2=(some (),j3)) (h4:xP ts j3=(none,j4)):
 Calls Tryz.prog 139 #[(qP P),(qP I)] W (wX P v ts W0 I (vF ts i)):=by
 have HM:vF ts i=(none,j4):=by unfold vF;rw[h1,zO,h2,zO,h3,zO,h4,yS]
 rw[HM];show Calls _ _ _ _ (fun e w'=>e=.panicked zH/\zN P v ts j4 W0 w'/\j4<ts.length)
 clear HM _hpl;have HBK:Hid (v.ownBlock≠some I/\P≠I):=hP0 hI;have HI:=zY hI;have G0:=zY hG;have B0:=zY hB;clear hG hB hP0 hI;have H1:Hid (∀ w1,yH P v ts i w1->Calls Tryz.prog 83 #[(qP P),.string ⟨#[101,100,103,101]⟩] w1 fun e w'=>e=.returned (.tuple #[])/\zN P v ts j1 w1 w'):=(zS h1 hE hi hl (by decide) P v).2;have hj1:j1<ts.length:=(zS h1 hE hi hl (by decide) P v).1;have H2:Hid (∀ w1,yH P v ts j1 w1->Calls Tryz.prog 165 #[(qP P)] w1 fun e w'=>e=.returned (.agg #[.string (zW p2.name),.int .i64 p2.port,.int .i64 p2.place])/\zN P v ts j2 w1 w'):=(yF h2 hE hj1 hl P v).2;have hj2:j2<ts.length:=(yF h2 hE hj1 hl P v).1;have H3:Hid (∀ w1,yH P v ts j2 w1->Calls Tryz.prog 83 #[(qP P),.string ⟨#[45,62]⟩] w1 fun e w'=>e=.returned (.tuple #[])/\zN P v ts j3 w1 w'):=(zS h3 hE hj2 hl (by decide) P v).2;have hj3:j3<ts.length:=(zS h3 hE hj2 hl (by decide) P v).1;have H4:Hid (∀ w1,yH P v ts j3 w1->Calls Tryz.prog 165 #[(qP P)] w1 fun e w'=>e=.panicked zH/\zN P v ts j4 w1 w'):=(uE h4 hE hj3 hl P v).2;have hj4:j4<ts.length:=(uE h4 hE hj3 hl P v).1;clear h1 h2 h3 h4
 go_enter Tryz.func139,Tryz.ntmps139
 go_wp2_with (first
  |(go_at_call 165;(with_reducible refine (H4.out _ G3.out.par).mono ?_);rintro e w4 ⟨rfl,hg⟩;have G4:=zY (G3.out.trans hg);clear hg)
  |(go_at_call 83;(with_reducible refine (H3.out _ G2.out.par).mono ?_);rintro e w3 ⟨rfl,hg⟩;have Bk:=(B2.out.grown hg.grown (fun e=>HBK.out.2 (Option.some.inj e).symm));have G3:=zY (G2.out.trans hg);have B3:Hid (xZ 103 I w3 (zJ 2 [] [] (qN) p2 zV pl)):=Bk;clear hg Bk)
  |(go_at_call 165;(with_reducible refine (H2.out _ G1.out.par).mono ?_);rintro e w2 ⟨rfl,hg⟩;have Bk:=(B1.out.grown hg.grown (fun e=>HBK.out.2 (Option.some.inj e).symm));have c2_4:=Bk.cell (k:=4) rfl;have f2_4:=Bk.frozen 4;have c2_5:=Bk.cell (k:=5) rfl;have f2_5:=Bk.frozen 5;have c2_6:=Bk.cell (k:=6) rfl;have f2_6:=Bk.frozen 6;have G2:=zY ((((G1.out.trans hg).put (k:=4) HBK.out HI.out (.string (zW p2.name))).put (k:=5) HBK.out HI.out (.int .i64 p2.port)).put (k:=6) HBK.out HI.out (.int .i64 p2.place));have B2:Hid (xZ 103 I (((w2.setCell ⟨I,4,none⟩ (.string (zW p2.name))).setCell ⟨I,5,none⟩ (.int .i64 p2.port)).setCell ⟨I,6,none⟩ (.int .i64 p2.place)) (zJ 2 [] [] (qN) p2 zV pl)):=(((Bk.set 4 (.string (zW p2.name))).set 5 (.int .i64 p2.port)).set 6 (.int .i64 p2.place));clear hg Bk)
  |(go_at_call 83;(with_reducible refine (H1.out _ G0.out.par).mono ?_);rintro e w1 ⟨rfl,hg⟩;have Bk:=(B0.out.grown hg.grown (fun e=>HBK.out.2 (Option.some.inj e).symm));have c1_0:=Bk.cell (k:=0) rfl;have f1_0:=Bk.frozen 0;have G1:=zY ((G0.out.trans hg).put (k:=0) HBK.out HI.out (.int .u8 2));have B1:Hid (xZ 103 I (w1.setCell ⟨I,0,none⟩ (.int .u8 2)) (zJ 2 [] [] (qN) zV zV pl)):=(Bk.set 0 (.int .u8 2));clear hg Bk))
 exact ⟨rfl,rfl,G4.out,hj4⟩
theorem SL (P:Nat) (v:Value) (ts:List yJ) (i:Nat) (W0 W:World) (I:Nat) (pl:Int) (hpl:(zM ts i).place=pl) (hG:zN P v ts i W0 W) (hP0:∀ {n:Nat},W0.heap.size<=n->v.ownBlock≠some n/\P≠n) (hI:W0.heap.size<=I) (hB:xZ 103 I W (zJ 0 [] [] (qN) zV zV pl)) (hE:yQ ts) (hi:i<ts.length) (hl:ts.length<=2000000) (j1:Nat) (j2:Nat) (p2:vZ) (j3:Nat) (j4:Nat) (p4:vZ) (h1:yX ts [101,100,103,101] i=(some (),j1)) (h2:xP ts j1=(some p2,j2)) (h3:yX ts [45,62] j2=(some (),j3)) (h4:xP ts j3=(some p4,j4)) (hw:(zM ts j4).text≠[119,105,116,104]):
 Calls Tryz.prog 139 #[(qP P),(qP I)] W (wX P v ts W0 I (vF ts i)):=by
 have HM:vF ts i=(some ⟨2,[],[],[],p2,p4,pl⟩,j4):=by unfold vF mE;rw[h1,zO,h2,zO,h3,zO,h4,zO,if_neg hw,zO,hpl]
 rw[HM];show Calls _ _ _ _ (fun e w'=>e=.returned (.tuple #[])/\(∃ ns,xZ 103 I w' (zJ 2 [] [] ns p2 p4 pl)/\yZ W0.heap.size w' ns [])/\zN P v ts j4 W0 w'/\j4<ts.length)
 clear HM hpl;have HBK:Hid (v.ownBlock≠some I/\P≠I):=hP0 hI;have HI:=zY hI;have G0:=zY hG;have B0:=zY hB;clear hG hB hP0 hI;have H1:Hid (∀ w1,yH P v ts i w1->Calls Tryz.prog 83 #[(qP P),.string ⟨#[101,100,103,101]⟩] w1 fun e w'=>e=.returned (.tuple #[])/\zN P v ts j1 w1 w'):=(zS h1 hE hi hl (by decide) P v).2;have hj1:j1<ts.length:=(zS h1 hE hi hl (by decide) P v).1;have H2:Hid (∀ w1,yH P v ts j1 w1->Calls Tryz.prog 165 #[(qP P)] w1 fun e w'=>e=.returned (.agg #[.string (zW p2.name),.int .i64 p2.port,.int .i64 p2.place])/\zN P v ts j2 w1 w'):=(yF h2 hE hj1 hl P v).2;have hj2:j2<ts.length:=(yF h2 hE hj1 hl P v).1;have H3:Hid (∀ w1,yH P v ts j2 w1->Calls Tryz.prog 83 #[(qP P),.string ⟨#[45,62]⟩] w1 fun e w'=>e=.returned (.tuple #[])/\zN P v ts j3 w1 w'):=(zS h3 hE hj2 hl (by decide) P v).2;have hj3:j3<ts.length:=(zS h3 hE hj2 hl (by decide) P v).1;have H4:Hid (∀ w1,yH P v ts j3 w1->Calls Tryz.prog 165 #[(qP P)] w1 fun e w'=>e=.returned (.agg #[.string (zW p4.name),.int .i64 p4.port,.int .i64 p4.place])/\zN P v ts j4 w1 w'):=(yF h4 hE hj3 hl P v).2;have hj4:j4<ts.length:=(yF h4 hE hj3 hl P v).1
 have HSY:Hid (∀ w1,yH P v ts j4 w1->Calls Tryz.prog 85 #[(qP P),.string ⟨#[119,105,116,104]⟩] w1 fun e w'=>e=.returned (.bool false)/\Below w1.heap.size w1 w'):=fun w1 q=>by
  have:=yA P v ts j4 w1 q hj4 hl [119,105,116,104];rw[decide_eq_false hw]at this;exact this
 clear hw;clear h1 h2 h3 h4
 go_enter Tryz.func139,Tryz.ntmps139
 go_wp2_with (first
  |(go_at_call 85;(with_reducible refine (HSY.out _ G4.out.par).mono ?_);rintro e w5 ⟨rfl,hb⟩;have G5:=zY (G4.out.later hb);have B5:=zY (B4.out.below hb);clear hb)
  |(go_at_call 165;(with_reducible refine (H4.out _ G3.out.par).mono ?_);rintro e w4 ⟨rfl,hg⟩;have Bk:=(B3.out.grown hg.grown (fun e=>HBK.out.2 (Option.some.inj e).symm));have c4_7:=Bk.cell (k:=7) rfl;have f4_7:=Bk.frozen 7;have c4_8:=Bk.cell (k:=8) rfl;have f4_8:=Bk.frozen 8;have c4_9:=Bk.cell (k:=9) rfl;have f4_9:=Bk.frozen 9;have G4:=zY ((((G3.out.trans hg).put (k:=7) HBK.out HI.out (.string (zW p4.name))).put (k:=8) HBK.out HI.out (.int .i64 p4.port)).put (k:=9) HBK.out HI.out (.int .i64 p4.place));have B4:Hid (xZ 103 I (((w4.setCell ⟨I,7,none⟩ (.string (zW p4.name))).setCell ⟨I,8,none⟩ (.int .i64 p4.port)).setCell ⟨I,9,none⟩ (.int .i64 p4.place)) (zJ 2 [] [] (qN) p2 p4 pl)):=(((Bk.set 7 (.string (zW p4.name))).set 8 (.int .i64 p4.port)).set 9 (.int .i64 p4.place));clear hg Bk)
  |(go_at_call 83;(with_reducible refine (H3.out _ G2.out.par).mono ?_);rintro e w3 ⟨rfl,hg⟩;have Bk:=(B2.out.grown hg.grown (fun e=>HBK.out.2 (Option.some.inj e).symm));have G3:=zY (G2.out.trans hg);have B3:Hid (xZ 103 I w3 (zJ 2 [] [] (qN) p2 zV pl)):=Bk;clear hg Bk)
  |(go_at_call 165;(with_reducible refine (H2.out _ G1.out.par).mono ?_);rintro e w2 ⟨rfl,hg⟩;have Bk:=(B1.out.grown hg.grown (fun e=>HBK.out.2 (Option.some.inj e).symm));have c2_4:=Bk.cell (k:=4) rfl;have f2_4:=Bk.frozen 4;have c2_5:=Bk.cell (k:=5) rfl;have f2_5:=Bk.frozen 5;have c2_6:=Bk.cell (k:=6) rfl;have f2_6:=Bk.frozen 6;have G2:=zY ((((G1.out.trans hg).put (k:=4) HBK.out HI.out (.string (zW p2.name))).put (k:=5) HBK.out HI.out (.int .i64 p2.port)).put (k:=6) HBK.out HI.out (.int .i64 p2.place));have B2:Hid (xZ 103 I (((w2.setCell ⟨I,4,none⟩ (.string (zW p2.name))).setCell ⟨I,5,none⟩ (.int .i64 p2.port)).setCell ⟨I,6,none⟩ (.int .i64 p2.place)) (zJ 2 [] [] (qN) p2 zV pl)):=(((Bk.set 4 (.string (zW p2.name))).set 5 (.int .i64 p2.port)).set 6 (.int .i64 p2.place));clear hg Bk)
  |(go_at_call 83;(with_reducible refine (H1.out _ G0.out.par).mono ?_);rintro e w1 ⟨rfl,hg⟩;have Bk:=(B0.out.grown hg.grown (fun e=>HBK.out.2 (Option.some.inj e).symm));have c1_0:=Bk.cell (k:=0) rfl;have f1_0:=Bk.frozen 0;have G1:=zY ((G0.out.trans hg).put (k:=0) HBK.out HI.out (.int .u8 2));have B1:Hid (xZ 103 I (w1.setCell ⟨I,0,none⟩ (.int .u8 2)) (zJ 2 [] [] (qN) zV zV pl)):=(Bk.set 0 (.int .u8 2));clear hg Bk))
 go_end0
 exact ⟨rfl,⟨_,B5.out,World.ownsRow_nil _ _ _ _⟩,G5.out,hj4⟩
theorem SK (P:Nat) (v:Value) (ts:List yJ) (i:Nat) (W0 W:World) (I:Nat) (pl:Int) (_hpl:(zM ts i).place=pl) (hG:zN P v ts i W0 W) (hP0:∀ {n:Nat},W0.heap.size<=n->v.ownBlock≠some n/\P≠n) (hI:W0.heap.size<=I) (hB:xZ 103 I W (zJ 0 [] [] (qN) zV zV pl)) (hE:yQ ts) (hi:i<ts.length) (hl:ts.length<=2000000) (j1:Nat) (j2:Nat) (p2:vZ) (j3:Nat) (j4:Nat) (p4:vZ) (j6:Nat) (h1:yX ts [101,100,103,101] i=(some (),j1)) (h2:xP ts j1=(some p2,j2)) (h3:yX ts [45,62] j2=(some (),j3)) (h4:xP ts j3=(some p4,j4)) (hw:(zM ts j4).text=[119,105,116,104]) (hx:nX ts (j4+1)=(none,j6)):
 Calls Tryz.prog 139 #[(qP P),(qP I)] W (wX P v ts W0 I (vF ts i)):=by
 have HM:vF ts i=(none,j6):=by unfold vF mE;rw[h1,zO,h2,zO,h3,zO,h4,zO,if_pos hw,hx,yS,yS]
 rw[HM];show Calls _ _ _ _ (fun e w'=>e=.panicked zH/\zN P v ts j6 W0 w'/\j6<ts.length)
 clear HM _hpl;have HBK:Hid (v.ownBlock≠some I/\P≠I):=hP0 hI;have HI:=zY hI;have G0:=zY hG;have B0:=zY hB;clear hG hB hP0 hI;have H1:Hid (∀ w1,yH P v ts i w1->Calls Tryz.prog 83 #[(qP P),.string ⟨#[101,100,103,101]⟩] w1 fun e w'=>e=.returned (.tuple #[])/\zN P v ts j1 w1 w'):=(zS h1 hE hi hl (by decide) P v).2;have hj1:j1<ts.length:=(zS h1 hE hi hl (by decide) P v).1;have H2:Hid (∀ w1,yH P v ts j1 w1->Calls Tryz.prog 165 #[(qP P)] w1 fun e w'=>e=.returned (.agg #[.string (zW p2.name),.int .i64 p2.port,.int .i64 p2.place])/\zN P v ts j2 w1 w'):=(yF h2 hE hj1 hl P v).2;have hj2:j2<ts.length:=(yF h2 hE hj1 hl P v).1;have H3:Hid (∀ w1,yH P v ts j2 w1->Calls Tryz.prog 83 #[(qP P),.string ⟨#[45,62]⟩] w1 fun e w'=>e=.returned (.tuple #[])/\zN P v ts j3 w1 w'):=(zS h3 hE hj2 hl (by decide) P v).2;have hj3:j3<ts.length:=(zS h3 hE hj2 hl (by decide) P v).1;have H4:Hid (∀ w1,yH P v ts j3 w1->Calls Tryz.prog 165 #[(qP P)] w1 fun e w'=>e=.returned (.agg #[.string (zW p4.name),.int .i64 p4.port,.int .i64 p4.place])/\zN P v ts j4 w1 w'):=(yF h4 hE hj3 hl P v).2;have hj4:j4<ts.length:=(yF h4 hE hj3 hl P v).1
 have HSY:Hid (∀ w1,yH P v ts j4 w1->Calls Tryz.prog 85 #[(qP P),.string ⟨#[119,105,116,104]⟩] w1 fun e w'=>e=.returned (.bool true)/\Below w1.heap.size w1 w'):=fun w1 q=>by
  have:=yA P v ts j4 w1 q hj4 hl [119,105,116,104];rw[decide_eq_true hw]at this;exact this
 have hj5:j4+1<ts.length:=hE.text_lt hj4 (by decide) hw
 have HPA:Hid (∀ w1,yH P v ts j4 w1->Calls Tryz.prog 142 #[(qP P)] w1 fun e w'=>e=.returned (xH (zM ts j4))/\zN P v ts (j4+1) w1 w'):=fun w1 q=>XU P v ts j4 w1 q hj4 hl
 have hj6:=(eV hx hj5 hl P v).1;have H6:=(eV hx hj5 hl P v).2;have x:Int:=0;clear hw hx;clear h1 h2 h3 h4
 go_enter Tryz.func139,Tryz.ntmps139
 go_wp2_with (first
  |(go_at_call 142;(with_reducible refine (HPA.out _ G5.out.par).mono ?_);rintro e w6 ⟨rfl,hg⟩;have G6:=zY (G5.out.trans hg);have B6:=zY (B5.out.grown hg.grown (fun e=>HBK.out.2 (Option.some.inj e).symm));clear hg)
  |(go_at_call 85;(with_reducible refine (HSY.out _ G4.out.par).mono ?_);rintro e w5 ⟨rfl,hb⟩;have G5:=zY (G4.out.later hb);have B5:=zY (B4.out.below hb);clear hb)
  |(go_at_call 165;(with_reducible refine (H4.out _ G3.out.par).mono ?_);rintro e w4 ⟨rfl,hg⟩;have Bk:=(B3.out.grown hg.grown (fun e=>HBK.out.2 (Option.some.inj e).symm));have c4_7:=Bk.cell (k:=7) rfl;have f4_7:=Bk.frozen 7;have c4_8:=Bk.cell (k:=8) rfl;have f4_8:=Bk.frozen 8;have c4_9:=Bk.cell (k:=9) rfl;have f4_9:=Bk.frozen 9;have G4:=zY ((((G3.out.trans hg).put (k:=7) HBK.out HI.out (.string (zW p4.name))).put (k:=8) HBK.out HI.out (.int .i64 p4.port)).put (k:=9) HBK.out HI.out (.int .i64 p4.place));have B4:Hid (xZ 103 I (((w4.setCell ⟨I,7,none⟩ (.string (zW p4.name))).setCell ⟨I,8,none⟩ (.int .i64 p4.port)).setCell ⟨I,9,none⟩ (.int .i64 p4.place)) (zJ 2 [] [] (qN) p2 p4 pl)):=(((Bk.set 7 (.string (zW p4.name))).set 8 (.int .i64 p4.port)).set 9 (.int .i64 p4.place));clear hg Bk)
  |(go_at_call 83;(with_reducible refine (H3.out _ G2.out.par).mono ?_);rintro e w3 ⟨rfl,hg⟩;have Bk:=(B2.out.grown hg.grown (fun e=>HBK.out.2 (Option.some.inj e).symm));have G3:=zY (G2.out.trans hg);have B3:Hid (xZ 103 I w3 (zJ 2 [] [] (qN) p2 zV pl)):=Bk;clear hg Bk)
  |(go_at_call 165;(with_reducible refine (H2.out _ G1.out.par).mono ?_);rintro e w2 ⟨rfl,hg⟩;have Bk:=(B1.out.grown hg.grown (fun e=>HBK.out.2 (Option.some.inj e).symm));have c2_4:=Bk.cell (k:=4) rfl;have f2_4:=Bk.frozen 4;have c2_5:=Bk.cell (k:=5) rfl;have f2_5:=Bk.frozen 5;have c2_6:=Bk.cell (k:=6) rfl;have f2_6:=Bk.frozen 6;have G2:=zY ((((G1.out.trans hg).put (k:=4) HBK.out HI.out (.string (zW p2.name))).put (k:=5) HBK.out HI.out (.int .i64 p2.port)).put (k:=6) HBK.out HI.out (.int .i64 p2.place));have B2:Hid (xZ 103 I (((w2.setCell ⟨I,4,none⟩ (.string (zW p2.name))).setCell ⟨I,5,none⟩ (.int .i64 p2.port)).setCell ⟨I,6,none⟩ (.int .i64 p2.place)) (zJ 2 [] [] (qN) p2 zV pl)):=(((Bk.set 4 (.string (zW p2.name))).set 5 (.int .i64 p2.port)).set 6 (.int .i64 p2.place));clear hg Bk)
  |(go_at_call 83;(with_reducible refine (H1.out _ G0.out.par).mono ?_);rintro e w1 ⟨rfl,hg⟩;have Bk:=(B0.out.grown hg.grown (fun e=>HBK.out.2 (Option.some.inj e).symm));have c1_0:=Bk.cell (k:=0) rfl;have f1_0:=Bk.frozen 0;have G1:=zY ((G0.out.trans hg).put (k:=0) HBK.out HI.out (.int .u8 2));have B1:Hid (xZ 103 I (w1.setCell ⟨I,0,none⟩ (.int .u8 2)) (zJ 2 [] [] (qN) zV zV pl)):=(Bk.set 0 (.int .u8 2));clear hg Bk))
 refine tP [6,11] (fun d i u z=>match i with
  |0=>z=(qP I)
  |1=>z=(qP I)
  |2=>z=(qP I)
  |3=>z=.pointer (some ⟨I,3,none⟩)
  |4=>z=qN
  |5=>z=(qP P)
  |6=>False
  |7=>False
  |8=>False
  |9=>False
  |10=>False
  |11=>True
  |_=>True) (fun d u=>(d 6=true->zN P v ts j6 W0 u)/\(d 6=false->zN P v ts (j4+1) W0 u)/\(d 11=true->∃ns,xZ 103 I u (zJ 2 [] [] ns p2 p4 pl)/\yZ w6.heap.size u ns [x])/\(d 11=false->xZ 103 I u (zJ 2 [] [] (qN) p2 p4 pl))/\w6.heap.size<=u.heap.size) (Z:=fun c u=>c=zH/\zN P v ts j6 W0 u) ?_ (by kernel_rfl) (by kernel_rfl) (by kernel_rfl) ?_ ?_ ?_ ?_ ?_ ?_ (by kernel_rfl)
 ·rintro c a' w' hd ⟨rfl,hz⟩
  exact ⟨hd,rfl,hz,hj6⟩
 ·intro d i w v w' h hb
  match i,h with
  |0,h=>exact h
  |1,h=>exact h
  |2,h=>exact h
  |3,h=>exact h
  |4,h=>exact h
  |5,h=>exact h
  |6,h=>exact h
  |7,h=>exact h
  |8,h=>exact h
  |9,h=>exact h
  |10,h=>exact h
  |11,h=>exact h
  |_+12,_=>trivial
 ·intro d u u' h hb
  exact ⟨fun h1=>(h.1 h1).later hb,fun h1=>(h.2.1 h1).later hb,fun h1=>by { obtain ⟨ns,q1,q2⟩:=h.2.2.1 h1;exact ⟨ns,q1.below hb,q2.below hb⟩ },fun h1=>(h.2.2.2.1 h1).below hb,Nat.le_trans h.2.2.2.2 hb.size⟩
 ·exact ⟨fun h=>qD h,fun _=>G6.out,fun h=>qD h,fun _=>B6.out,Nat.le_refl _⟩
 ·intro d i o ρ w' hm ho hf hg hC hcs hfs hfr zX
  match i,hm,ho,hf,hg,hfr,zX with
  |0,_,ho,hf,hg,hfr,zX=>
   simp only[qS]at ho;subst ho;refine ⟨fun _=>?_,qF⟩
   have ts: ρ (.tmp 1)=(qP I):=(qR hfr 1);simp[go_sem,ts];exact qB
  |1,_,ho,hf,hg,hfr,zX=>
   simp only[qS]at ho;subst ho;refine ⟨fun _=>?_,qF⟩
   have ts: ρ (.tmp 1)=(qP I):=(qR hfr 1);simp[go_sem,ts];exact qB
  |2,_,ho,hf,hg,hfr,zX=>
   simp only[qS]at ho;subst ho;refine ⟨fun _=>?_,qF⟩
   have d0: ρ (.tmp 30)=(qP I):=(qH zX 1 30);simp[go_sem,d0];exact qB
  |3,_,ho,hf,hg,hfr,zX=>
   simp only[qS]at ho;subst ho;refine ⟨fun _=>?_,qF⟩
   have d0: ρ (.tmp 31)=(qP I):=(qH zX 2 31);simp[go_sem,d0];exact qB
  |4,_,ho,hf,hg,hfr,zX=>
   simp only[qS]at ho;subst ho;refine ⟨fun _=>?_,qF⟩
   have Bk:=hC.2.2.2.1 (hf 11 (by decide) (by kernel_rfl));have c3:w'.cell? ⟨I,3,none⟩=some (qN):=Bk.cell (k:=3) rfl;have d0: ρ (.tmp 32)=.pointer (some ⟨I,3,none⟩):=(qH zX 3 32);simp[go_sem,d0,c3];exact qB
  |5,_,ho,hf,hg,hfr,zX=>
   simp only[qS]at ho;subst ho;refine ⟨fun _=>?_,qF⟩
   have ts: ρ (.tmp 0)=(qP P):=(qR hfr 0);simp[go_sem,ts];exact qB
  |6,hm,_,_,_,_,_=>exact qD hm
  |7,_,ho,hf,hg,hfr,zX=>
   simp only[qS]at ho;subst ho;refine ⟨fun _=>?_,qF⟩
   exact ((qH zX 6 35)).elim
  |8,_,ho,hf,hg,hfr,zX=>
   simp only[qS]at ho;subst ho;refine ⟨fun _=>?_,qF⟩
   exact ((qH zX 7 36)).elim
  |9,_,ho,hf,hg,hfr,zX=>
   simp only[qS]at ho;subst ho;refine ⟨fun _=>?_,qF⟩
   exact ((qH zX 8 37)).elim
  |10,_,ho,hf,hg,hfr,zX=>
   simp only[qS]at ho;subst ho;refine ⟨fun _=>?_,qF⟩
   exact ((qH zX 9 38)).elim
  |11,hm,_,_,_,_,_=>exact qD hm
  |n+12,_,ho,_,_,_,_=>simp at ho
 ·intro d i o ρ w' hm ho h0 hf hg hC hcs hfs hfr zX
  match i,hm,ho,h0,hf,hg,hfr,zX with
  |0,hm,_,_,_,_,_,_=>exact qD hm
  |1,hm,_,_,_,_,_,_=>exact qD hm
  |2,hm,_,_,_,_,_,_=>exact qD hm
  |3,hm,_,_,_,_,_,_=>exact qD hm
  |4,hm,_,_,_,_,_,_=>exact qD hm
  |5,hm,_,_,_,_,_,_=>exact qD hm
  |6,_,ho,h0,hf,hg,hfr,zX=>
   simp only[qS]at ho;subst ho;refine ⟨rfl,?_⟩
   have ts: ρ (.tmp 34)=(qP P):=(qH zX 5 34);simp[go_sem,ts,hfs];refine ⟨rfl,(H6.out _ (hC.2.1 h0).par).mono ?_⟩
   rintro e u ⟨rfl,hg⟩
   exact Or.inr ⟨_,rfl,rfl,(hC.2.1 h0).trans hg⟩
  |7,hm,_,_,_,_,_,_=>exact qD hm
  |8,hm,_,_,_,_,_,_=>exact qD hm
  |9,hm,_,_,_,_,_,_=>exact qD hm
  |10,hm,_,_,_,_,_,_=>exact qD hm
  |11,_,ho,h0,hf,hg,hfr,zX=>
   simp only[qS]at ho;subst ho;exact ((qH zX 8 37):False).elim
  |n+12,_,ho,_,_,_,_,_=>simp at ho
 intro V w9 hC9 hS;exact (hS 6 (by decide) (by intro h;cases h)).elim
theorem KL (P:Nat) (v:Value) (ts:List yJ) (i:Nat) (W0 W:World) (I:Nat) (pl:Int) (hpl:(zM ts i).place=pl) (hG:zN P v ts i W0 W) (hP0:∀ {n:Nat},W0.heap.size<=n->v.ownBlock≠some n/\P≠n) (hI:W0.heap.size<=I) (hB:xZ 103 I W (zJ 0 [] [] (qN) zV zV pl)) (hE:yQ ts) (hi:i<ts.length) (hl:ts.length<=2000000) (j1:Nat) (j2:Nat) (p2:vZ) (j3:Nat) (j4:Nat) (p4:vZ) (x:Int) (j6:Nat) (h1:yX ts [101,100,103,101] i=(some (),j1)) (h2:xP ts j1=(some p2,j2)) (h3:yX ts [45,62] j2=(some (),j3)) (h4:xP ts j3=(some p4,j4)) (hw:(zM ts j4).text=[119,105,116,104]) (hx:nX ts (j4+1)=(some x,j6)) (h0:yH P v ts i W0):
 Calls Tryz.prog 139 #[(qP P),(qP I)] W (wX P v ts W0 I (vF ts i)):=by
 have HM:vF ts i=(some ⟨2,[],[],x::yM ts j6,p2,p4,pl⟩,j6+(yM ts j6).length):=by unfold vF mE;rw[h1,zO,h2,zO,h3,zO,h4,zO,if_pos hw,hx,zO,zO,hpl]
 rw[HM];show Calls _ _ _ _ (fun e w'=>e=.returned (.tuple #[])/\(∃ ns,xZ 103 I w' (zJ 2 [] [] ns p2 p4 pl)/\yZ W0.heap.size w' ns (x::yM ts j6))/\zN P v ts (j6+(yM ts j6).length) W0 w'/\j6+(yM ts j6).length<ts.length)
 have HP0:=zY h0;clear h0;clear HM hpl;have HBK:Hid (v.ownBlock≠some I/\P≠I):=hP0 hI;have HI:=zY hI;have G0:=zY hG;have B0:=zY hB;clear hG hB hP0 hI;have H1:Hid (∀ w1,yH P v ts i w1->Calls Tryz.prog 83 #[(qP P),.string ⟨#[101,100,103,101]⟩] w1 fun e w'=>e=.returned (.tuple #[])/\zN P v ts j1 w1 w'):=(zS h1 hE hi hl (by decide) P v).2;have hj1:j1<ts.length:=(zS h1 hE hi hl (by decide) P v).1;have H2:Hid (∀ w1,yH P v ts j1 w1->Calls Tryz.prog 165 #[(qP P)] w1 fun e w'=>e=.returned (.agg #[.string (zW p2.name),.int .i64 p2.port,.int .i64 p2.place])/\zN P v ts j2 w1 w'):=(yF h2 hE hj1 hl P v).2;have hj2:j2<ts.length:=(yF h2 hE hj1 hl P v).1;have H3:Hid (∀ w1,yH P v ts j2 w1->Calls Tryz.prog 83 #[(qP P),.string ⟨#[45,62]⟩] w1 fun e w'=>e=.returned (.tuple #[])/\zN P v ts j3 w1 w'):=(zS h3 hE hj2 hl (by decide) P v).2;have hj3:j3<ts.length:=(zS h3 hE hj2 hl (by decide) P v).1;have H4:Hid (∀ w1,yH P v ts j3 w1->Calls Tryz.prog 165 #[(qP P)] w1 fun e w'=>e=.returned (.agg #[.string (zW p4.name),.int .i64 p4.port,.int .i64 p4.place])/\zN P v ts j4 w1 w'):=(yF h4 hE hj3 hl P v).2;have hj4:j4<ts.length:=(yF h4 hE hj3 hl P v).1
 have HSY:Hid (∀ w1,yH P v ts j4 w1->Calls Tryz.prog 85 #[(qP P),.string ⟨#[119,105,116,104]⟩] w1 fun e w'=>e=.returned (.bool true)/\Below w1.heap.size w1 w'):=fun w1 q=>by
  have:=yA P v ts j4 w1 q hj4 hl [119,105,116,104];rw[decide_eq_true hw]at this;exact this
 have hj5:j4+1<ts.length:=hE.text_lt hj4 (by decide) hw
 have HPA:Hid (∀ w1,yH P v ts j4 w1->Calls Tryz.prog 142 #[(qP P)] w1 fun e w'=>e=.returned (xH (zM ts j4))/\zN P v ts (j4+1) w1 w'):=fun w1 q=>XU P v ts j4 w1 q hj4 hl
 have hj6:=(eW hx hE hj5 hl P v).1;have H6:=(eW hx hE hj5 hl P v).2;have HJL:=zY (XW hE ts.length j6 (by omega) hj6)
 have HLN:Hid ((yM ts j6).length<=2000000):=by have:=HJL.out;show _<=_;omega
 have H8:Hid (∀ w1,yH P v ts j6 w1->Calls Tryz.prog 164 #[(qP P)] w1 fun e w'=>∃a c,e=.returned (.slice a (yM ts j6).length c)/\yZ w1.heap.size w' (.slice a (yM ts j6).length c) (yM ts j6)/\zN P v ts (j6+(yM ts j6).length) w1 w'):=fun w1 q=>(cR P v ts j6 w1 q hE hj6 hl).mono fun _ _ ⟨r,he,hn,hr,_⟩=>by { obtain ⟨a,c,rfl⟩:=hn.shape;exact ⟨a,c,he,hn,hr⟩ }
 clear hw hx;clear h1 h2 h3 h4
 go_enter Tryz.func139,Tryz.ntmps139
 go_wp2_with (first
  |(go_at_call 142;(with_reducible refine (HPA.out _ G5.out.par).mono ?_);rintro e w6 ⟨rfl,hg⟩;have G6:=zY (G5.out.trans hg);have B6:=zY (B5.out.grown hg.grown (fun e=>HBK.out.2 (Option.some.inj e).symm));clear hg)
  |(go_at_call 85;(with_reducible refine (HSY.out _ G4.out.par).mono ?_);rintro e w5 ⟨rfl,hb⟩;have G5:=zY (G4.out.later hb);have B5:=zY (B4.out.below hb);clear hb)
  |(go_at_call 165;(with_reducible refine (H4.out _ G3.out.par).mono ?_);rintro e w4 ⟨rfl,hg⟩;have Bk:=(B3.out.grown hg.grown (fun e=>HBK.out.2 (Option.some.inj e).symm));have c4_7:=Bk.cell (k:=7) rfl;have f4_7:=Bk.frozen 7;have c4_8:=Bk.cell (k:=8) rfl;have f4_8:=Bk.frozen 8;have c4_9:=Bk.cell (k:=9) rfl;have f4_9:=Bk.frozen 9;have G4:=zY ((((G3.out.trans hg).put (k:=7) HBK.out HI.out (.string (zW p4.name))).put (k:=8) HBK.out HI.out (.int .i64 p4.port)).put (k:=9) HBK.out HI.out (.int .i64 p4.place));have B4:Hid (xZ 103 I (((w4.setCell ⟨I,7,none⟩ (.string (zW p4.name))).setCell ⟨I,8,none⟩ (.int .i64 p4.port)).setCell ⟨I,9,none⟩ (.int .i64 p4.place)) (zJ 2 [] [] (qN) p2 p4 pl)):=(((Bk.set 7 (.string (zW p4.name))).set 8 (.int .i64 p4.port)).set 9 (.int .i64 p4.place));clear hg Bk)
  |(go_at_call 83;(with_reducible refine (H3.out _ G2.out.par).mono ?_);rintro e w3 ⟨rfl,hg⟩;have Bk:=(B2.out.grown hg.grown (fun e=>HBK.out.2 (Option.some.inj e).symm));have G3:=zY (G2.out.trans hg);have B3:Hid (xZ 103 I w3 (zJ 2 [] [] (qN) p2 zV pl)):=Bk;clear hg Bk)
  |(go_at_call 165;(with_reducible refine (H2.out _ G1.out.par).mono ?_);rintro e w2 ⟨rfl,hg⟩;have Bk:=(B1.out.grown hg.grown (fun e=>HBK.out.2 (Option.some.inj e).symm));have c2_4:=Bk.cell (k:=4) rfl;have f2_4:=Bk.frozen 4;have c2_5:=Bk.cell (k:=5) rfl;have f2_5:=Bk.frozen 5;have c2_6:=Bk.cell (k:=6) rfl;have f2_6:=Bk.frozen 6;have G2:=zY ((((G1.out.trans hg).put (k:=4) HBK.out HI.out (.string (zW p2.name))).put (k:=5) HBK.out HI.out (.int .i64 p2.port)).put (k:=6) HBK.out HI.out (.int .i64 p2.place));have B2:Hid (xZ 103 I (((w2.setCell ⟨I,4,none⟩ (.string (zW p2.name))).setCell ⟨I,5,none⟩ (.int .i64 p2.port)).setCell ⟨I,6,none⟩ (.int .i64 p2.place)) (zJ 2 [] [] (qN) p2 zV pl)):=(((Bk.set 4 (.string (zW p2.name))).set 5 (.int .i64 p2.port)).set 6 (.int .i64 p2.place));clear hg Bk)
  |(go_at_call 83;(with_reducible refine (H1.out _ G0.out.par).mono ?_);rintro e w1 ⟨rfl,hg⟩;have Bk:=(B0.out.grown hg.grown (fun e=>HBK.out.2 (Option.some.inj e).symm));have c1_0:=Bk.cell (k:=0) rfl;have f1_0:=Bk.frozen 0;have G1:=zY ((G0.out.trans hg).put (k:=0) HBK.out HI.out (.int .u8 2));have B1:Hid (xZ 103 I (w1.setCell ⟨I,0,none⟩ (.int .u8 2)) (zJ 2 [] [] (qN) zV zV pl)):=(Bk.set 0 (.int .u8 2));clear hg Bk))
 have HPS:Hid (P<w6.heap.size):=G6.out.par.lt;have HIS:Hid (I<w6.heap.size):=B6.out.lt
 refine tP [6,11] (fun d i u z=>match i with
  |0=>z=(qP I)
  |1=>z=(qP I)
  |2=>z=(qP I)
  |3=>z=.pointer (some ⟨I,3,none⟩)
  |4=>z=qN
  |5=>z=(qP P)
  |6=>z=.int .i64 x
  |7=>∃b,z=.slice (some ⟨b,0,none⟩) 1 1/\w6.heap.size<=b/\u.cell? ⟨b,0,none⟩=some (.int .i64 x)/\b<u.heap.size
  |8=>∃a c,z=.slice a 1 c/\yZ w6.heap.size u (.slice a 1 c) [x]
  |9=>z=(qP I)
  |10=>z=.pointer (some ⟨I,3,none⟩)
  |11=>True
  |_=>True) (fun d u=>(d 6=true->zN P v ts j6 W0 u)/\(d 6=false->zN P v ts (j4+1) W0 u)/\(d 11=true->∃ns,xZ 103 I u (zJ 2 [] [] ns p2 p4 pl)/\yZ w6.heap.size u ns [x])/\(d 11=false->xZ 103 I u (zJ 2 [] [] (qN) p2 p4 pl))/\w6.heap.size<=u.heap.size) (Z:=fun _ _=>False) ?_ (by kernel_rfl) (by kernel_rfl) (by kernel_rfl) ?_ ?_ ?_ ?_ ?_ ?_ (by kernel_rfl)
 ·intro c a' w' _ h
  cases h
 ·intro d i w v w' h hb
  match i,h with
  |0,h=>exact h
  |1,h=>exact h
  |2,h=>exact h
  |3,h=>exact h
  |4,h=>exact h
  |5,h=>exact h
  |6,h=>exact h
  |7,h=>obtain ⟨b,q1,q2,q3,q4⟩:=h;exact ⟨b,q1,q2,(hb.cell (p:=⟨b,0,none⟩) q4).trans q3,Nat.lt_of_lt_of_le q4 hb.size⟩
  |8,h=>obtain ⟨a,c,q1,q2⟩:=h;exact ⟨a,c,q1,q2.below hb⟩
  |9,h=>exact h
  |10,h=>exact h
  |11,h=>exact h
  |_+12,_=>trivial
 ·intro d u u' h hb
  exact ⟨fun h1=>(h.1 h1).later hb,fun h1=>(h.2.1 h1).later hb,fun h1=>by { obtain ⟨ns,q1,q2⟩:=h.2.2.1 h1;exact ⟨ns,q1.below hb,q2.below hb⟩ },fun h1=>(h.2.2.2.1 h1).below hb,Nat.le_trans h.2.2.2.2 hb.size⟩
 ·exact ⟨fun h=>qD h,fun _=>G6.out,fun h=>qD h,fun _=>B6.out,Nat.le_refl _⟩
 ·intro d i o ρ w' hm ho hf hg hC hcs hfs hfr zX
  match i,hm,ho,hf,hg,hfr,zX with
  |0,_,ho,hf,hg,hfr,zX=>
   simp only[qS]at ho;subst ho;refine ⟨fun _=>?_,qF⟩
   have ts: ρ (.tmp 1)=(qP I):=(qR hfr 1);simp[go_sem,ts];exact qB
  |1,_,ho,hf,hg,hfr,zX=>
   simp only[qS]at ho;subst ho;refine ⟨fun _=>?_,qF⟩
   have ts: ρ (.tmp 1)=(qP I):=(qR hfr 1);simp[go_sem,ts];exact qB
  |2,_,ho,hf,hg,hfr,zX=>
   simp only[qS]at ho;subst ho;refine ⟨fun _=>?_,qF⟩
   have d0: ρ (.tmp 30)=(qP I):=(qH zX 1 30);simp[go_sem,d0];exact qB
  |3,_,ho,hf,hg,hfr,zX=>
   simp only[qS]at ho;subst ho;refine ⟨fun _=>?_,qF⟩
   have d0: ρ (.tmp 31)=(qP I):=(qH zX 2 31);simp[go_sem,d0];exact qB
  |4,_,ho,hf,hg,hfr,zX=>
   simp only[qS]at ho;subst ho;refine ⟨fun _=>?_,qF⟩
   have Bk:=hC.2.2.2.1 (hf 11 (by decide) (by kernel_rfl));have c3:w'.cell? ⟨I,3,none⟩=some (qN):=Bk.cell (k:=3) rfl;have d0: ρ (.tmp 32)=.pointer (some ⟨I,3,none⟩):=(qH zX 3 32);simp[go_sem,d0,c3];exact qB
  |5,_,ho,hf,hg,hfr,zX=>
   simp only[qS]at ho;subst ho;refine ⟨fun _=>?_,qF⟩
   have ts: ρ (.tmp 0)=(qP P):=(qR hfr 0);simp[go_sem,ts];exact qB
  |6,hm,_,_,_,_,_=>exact qD hm
  |7,_,ho,hf,hg,hfr,zX=>
   simp only[qS]at ho;subst ho;refine ⟨fun _=>?_,qF⟩
   have ts: ρ (.tmp 35)=.int .i64 x:=(qH zX 6 35);simp[go_sem,ts];exact ⟨(Below.refl _ _).alloc (Nat.le_refl _) _,_,rfl,hC.2.2.2.2,by simp,by simp⟩
  |8,_,ho,hf,hg,hfr,zX=>
   simp only[qS]at ho;subst ho;refine ⟨fun _=>?_,qF⟩
   obtain ⟨b,e7,q2,q3,q4⟩:∃b,ρ (.tmp 36)=.slice (some ⟨b,0,none⟩) 1 1/\w6.heap.size<=b/\w'.cell? ⟨b,0,none⟩=some (.int .i64 x)/\b<w'.heap.size:=(qH zX 7 36);have ts: ρ (.tmp 33)=qN:=(qH zX 4 33);obtain ⟨r',w'',hr,ho,hg⟩:=NW w6.heap.size w' b x q3 hC.2.2.2.2;unfold execOp;simp only[resolve,invoke,builtin,Sem.run_bind,Sem.run_pure,Result.andThen_ok,List.map_toArray,List.map_cons,List.map_nil,ts,e7,hr];obtain ⟨a,c,rfl⟩:=ho.shape;exact ⟨hg,a,c,rfl,ho⟩
  |9,_,ho,hf,hg,hfr,zX=>
   simp only[qS]at ho;subst ho;refine ⟨fun _=>?_,qF⟩
   have d0: ρ (.tmp 29)=(qP I):=(qH zX 0 29);simp[go_sem,d0];exact qB
  |10,_,ho,hf,hg,hfr,zX=>
   simp only[qS]at ho;subst ho;refine ⟨fun _=>?_,qF⟩
   have d0: ρ (.tmp 38)=(qP I):=(qH zX 9 38);simp[go_sem,d0];exact qB
  |11,hm,_,_,_,_,_=>exact qD hm
  |n+12,_,ho,_,_,_,_=>simp at ho
 ·intro d i o ρ w' hm ho h0 hf hg hC hcs hfs hfr zX
  match i,hm,ho,h0,hf,hg,hfr,zX with
  |0,hm,_,_,_,_,_,_=>exact qD hm
  |1,hm,_,_,_,_,_,_=>exact qD hm
  |2,hm,_,_,_,_,_,_=>exact qD hm
  |3,hm,_,_,_,_,_,_=>exact qD hm
  |4,hm,_,_,_,_,_,_=>exact qD hm
  |5,hm,_,_,_,_,_,_=>exact qD hm
  |6,_,ho,h0,hf,hg,hfr,zX=>
   simp only[qS]at ho;subst ho;refine ⟨rfl,?_⟩
   have ts: ρ (.tmp 34)=(qP P):=(qH zX 5 34);simp[go_sem,ts,hfs];refine ⟨rfl,(H6.out _ (hC.2.1 h0).par).mono ?_⟩
   rintro e u ⟨rfl,hg⟩
   refine Or.inl ⟨_,rfl,⟨fun _=>(hC.2.1 h0).trans hg,fun h=>absurd h (by simp[zA]),fun h=>?_,fun h=>?_,Nat.le_trans hC.2.2.2.2 hg.grown.size⟩,rfl,?_⟩
   ·obtain ⟨ns,q1,q2⟩:=hC.2.2.1 (by simpa [zA] using h)
    exact ⟨ns,q1.grown hg.grown (fun e=>HBK.out.2 (Option.some.inj e).symm),q2.grown hg.grown HPS.out⟩
   ·exact (hC.2.2.2.1 (by simpa [zA] using h)).grown hg.grown (fun e=>HBK.out.2 (Option.some.inj e).symm)
   intro j t _ hs
   match j,hs with
   |0,hs=>exact hs
   |1,hs=>exact hs
   |2,hs=>exact hs
   |3,hs=>exact hs
   |4,hs=>exact hs
   |5,hs=>exact hs
   |6,hs=>exact hs
   |7,hs=>obtain ⟨b,q1,q2,q3,q4⟩:=hs;exact ⟨b,q1,q2,hg.grown.cell q3 (fun e=>by have:=Option.some.inj e;have:=HPS.out;simp at *;omega),Nat.lt_of_lt_of_le q4 hg.grown.size⟩
   |8,hs=>obtain ⟨a,c,q1,q2⟩:=hs;exact ⟨a,c,q1,q2.grown hg.grown HPS.out⟩
   |9,hs=>exact hs
   |10,hs=>exact hs
   |11,hs=>exact hs
   |_+12,_=>trivial
  |7,hm,_,_,_,_,_,_=>exact qD hm
  |8,hm,_,_,_,_,_,_=>exact qD hm
  |9,hm,_,_,_,_,_,_=>exact qD hm
  |10,hm,_,_,_,_,_,_=>exact qD hm
  |11,_,ho,h0,hf,hg,hfr,zX=>
   simp only[qS]at ho;subst ho;refine ⟨rfl,?_⟩
   have t1: ρ (.tmp 39)=.pointer (some ⟨I,3,none⟩):=(qH zX 10 39);obtain ⟨a8,c8,e8,hn8⟩:∃a c,ρ (.tmp 37)=.slice a 1 c/\yZ w6.heap.size w' (.slice a 1 c) [x]:=(qH zX 8 37);have Bk:=hC.2.2.2.1 h0;have c3:=Bk.cell (k:=3) rfl;have f3:=Bk.frozen 3;simp[go_sem,t1,e8,c3,f3];refine ⟨⟨fun h=>(hC.1 (by simpa [zA] using h)).put HBK.out HI.out _,fun h=>(hC.2.1 (by simpa [zA] using h)).put HBK.out HI.out _,fun _=>⟨_,Bk.set 3 _,hn8.put HIS.out⟩,fun h=>absurd h (by simp[zA]),by rw[World.size_setCell];exact hC.2.2.2.2⟩,?_⟩
   intro j t _ hs
   match j,hs with
   |0,hs=>exact hs
   |1,hs=>exact hs
   |2,hs=>exact hs
   |3,hs=>exact hs
   |4,hs=>exact hs
   |5,hs=>exact hs
   |6,hs=>exact hs
   |7,hs=>obtain ⟨b,q1,q2,q3,q4⟩:=hs;exact ⟨b,q1,q2,by rw[World.cell?_setCell_other _ _ _ _ (fun e=>by have h1:=congrArg Addr.block e;have h2:=HIS.out;dsimp only at h1;omega)];exact q3,by rw[World.size_setCell];exact q4⟩
   |8,hs=>obtain ⟨a,c,q1,q2⟩:=hs;exact ⟨a,c,q1,q2.put HIS.out⟩
   |9,hs=>exact hs
   |10,hs=>exact hs
   |11,hs=>exact hs
   |_+12,_=>trivial
  |n+12,_,ho,_,_,_,_,_=>simp at ho
 intro V w9 hC9 hS;simp only[xA,uH];simp only[Act.put,qU];clear hS;have G9:=zY (hC9.1 rfl);obtain ⟨ns,hB9,hN9⟩:=hC9.2.2.1 rfl;obtain ⟨a7,c7,rfl⟩:=hN9.shape;have B9:Hid (xZ 103 I w9 (zJ 2 [] [] (.slice a7 1 c7) p2 p4 pl)):=hB9;have N9:Hid (yZ w6.heap.size w9 (.slice a7 1 c7) [x]):=hN9;have H69:Hid (w6.heap.size<=w9.heap.size):=hC9.2.2.2.2;have HW6:Hid (W0.heap.size<=w6.heap.size):=G6.out.grown.size;have HP9:Hid (P<w9.heap.size):=Nat.lt_of_lt_of_le HPS.out H69.out;have HI9:Hid (I<w9.heap.size):=Nat.lt_of_lt_of_le HIS.out H69.out;clear hC9 hB9 hN9
 go_wp2
 refine tP [6,7,10] (fun d i u z=>match i with
  |0=>z=(qP I)
  |1=>z=(qP I)
  |2=>z=(qP I)
  |3=>z=.pointer (some ⟨I,3,none⟩)
  |4=>z=.slice a7 1 c7
  |5=>z=(qP P)
  |6=>∃a c,z=.slice a (yM ts j6).length c/\yZ w9.heap.size u (.slice a (yM ts j6).length c) (yM ts j6)
  |7=>d 7=true/\∃a c,z=.slice a (x::yM ts j6).length c/\yZ w6.heap.size u (.slice a (x::yM ts j6).length c) (x::yM ts j6)
  |8=>z=(qP I)
  |9=>z=.pointer (some ⟨I,3,none⟩)
  |10=>True
  |_=>True) (fun d u=>(d 6=true->zN P v ts (j6+(yM ts j6).length) W0 u)/\(d 6=false->zN P v ts j6 W0 u)/\(d 7=false->yZ w6.heap.size u (.slice a7 1 c7) [x])/\(d 10=true->∃ns,xZ 103 I u (zJ 2 [] [] ns p2 p4 pl)/\yZ w6.heap.size u ns (x::yM ts j6))/\(d 10=false->xZ 103 I u (zJ 2 [] [] (.slice a7 1 c7) p2 p4 pl))/\w9.heap.size<=u.heap.size) (Z:=fun _ _=>False) ?_ (by kernel_rfl) (by kernel_rfl) (by kernel_rfl) ?_ ?_ ?_ ?_ ?_ ?_ (by kernel_rfl)
 ·intro c a' w' _ h
  cases h
 ·intro d i w v w' h hb
  match i,h with
  |0,h=>exact h
  |1,h=>exact h
  |2,h=>exact h
  |3,h=>exact h
  |4,h=>exact h
  |5,h=>exact h
  |6,h=>obtain ⟨a,c,q1,q2⟩:=h;exact ⟨a,c,q1,q2.below hb⟩
  |7,h=>obtain ⟨q0,a,c,q1,q2⟩:=h;exact ⟨q0,a,c,q1,q2.below hb⟩
  |8,h=>exact h
  |9,h=>exact h
  |10,h=>exact h
  |_+11,_=>trivial
 ·intro d u u' h hb
  exact ⟨fun h1=>(h.1 h1).later hb,fun h1=>(h.2.1 h1).later hb,fun h1=>(h.2.2.1 h1).below hb,fun h1=>by { obtain ⟨ns,q1,q2⟩:=h.2.2.2.1 h1;exact ⟨ns,q1.below hb,q2.below hb⟩ },fun h1=>(h.2.2.2.2.1 h1).below hb,Nat.le_trans h.2.2.2.2.2 hb.size⟩
 ·exact ⟨fun h=>qD h,fun _=>G9.out,fun _=>N9.out,fun h=>qD h,fun _=>B9.out,Nat.le_refl _⟩
 ·intro d i o ρ w' hm ho hf hg hC hcs hfs hfr zX
  match i,hm,ho,hf,hg,hfr,zX with
  |0,_,ho,hf,hg,hfr,zX=>
   simp only[qS]at ho;subst ho;refine ⟨fun _=>?_,qF⟩
   have ts: ρ (.tmp 1)=(qP I):=(qR hfr 1);simp[go_sem,ts];exact qB
  |1,_,ho,hf,hg,hfr,zX=>
   simp only[qS]at ho;subst ho;refine ⟨fun _=>?_,qF⟩
   have ts: ρ (.tmp 1)=(qP I):=(qR hfr 1);simp[go_sem,ts];exact qB
  |2,_,ho,hf,hg,hfr,zX=>
   simp only[qS]at ho;subst ho;refine ⟨fun _=>?_,qF⟩
   have d0: ρ (.tmp 41)=(qP I):=(qH zX 1 41);simp[go_sem,d0];exact qB
  |3,_,ho,hf,hg,hfr,zX=>
   simp only[qS]at ho;subst ho;refine ⟨fun _=>?_,qF⟩
   have d0: ρ (.tmp 42)=(qP I):=(qH zX 2 42);simp[go_sem,d0];exact qB
  |4,_,ho,hf,hg,hfr,zX=>
   simp only[qS]at ho;subst ho;refine ⟨fun _=>?_,qF⟩
   have Bk:=hC.2.2.2.2.1 (hf 10 (by decide) (by kernel_rfl));have c3:w'.cell? ⟨I,3,none⟩=some (.slice a7 1 c7):=Bk.cell (k:=3) rfl;have d0: ρ (.tmp 43)=.pointer (some ⟨I,3,none⟩):=(qH zX 3 43);simp[go_sem,d0,c3];exact qB
  |5,_,ho,hf,hg,hfr,zX=>
   simp only[qS]at ho;subst ho;refine ⟨fun _=>?_,qF⟩
   have ts: ρ (.tmp 0)=(qP P):=(qR hfr 0);simp[go_sem,ts];exact qB
  |6,hm,_,_,_,_,_=>exact qD hm
  |7,hm,_,_,_,_,_=>exact qD hm
  |8,_,ho,hf,hg,hfr,zX=>
   simp only[qS]at ho;subst ho;refine ⟨fun _=>?_,qF⟩
   have d0: ρ (.tmp 40)=(qP I):=(qH zX 0 40);simp[go_sem,d0];exact qB
  |9,_,ho,hf,hg,hfr,zX=>
   simp only[qS]at ho;subst ho;refine ⟨fun _=>?_,qF⟩
   have d0: ρ (.tmp 48)=(qP I):=(qH zX 8 48);simp[go_sem,d0];exact qB
  |10,hm,_,_,_,_,_=>exact qD hm
  |n+11,_,ho,_,_,_,_=>simp at ho
 ·intro d i o ρ w' hm ho h0 hf hg hC hcs hfs hfr zX
  match i,hm,ho,h0,hf,hg,hfr,zX with
  |0,hm,_,_,_,_,_,_=>exact qD hm
  |1,hm,_,_,_,_,_,_=>exact qD hm
  |2,hm,_,_,_,_,_,_=>exact qD hm
  |3,hm,_,_,_,_,_,_=>exact qD hm
  |4,hm,_,_,_,_,_,_=>exact qD hm
  |5,hm,_,_,_,_,_,_=>exact qD hm
  |6,_,ho,h0,hf,hg,hfr,zX=>
   simp only[qS]at ho;subst ho;refine ⟨rfl,?_⟩
   have ts: ρ (.tmp 45)=(qP P):=(qH zX 5 45);simp[go_sem,ts,hfs];refine ⟨rfl,(H8.out _ (hC.2.1 h0).par).mono ?_⟩
   rintro e u ⟨a,c,rfl,hin,hg⟩
   refine Or.inl ⟨_,rfl,⟨fun _=>(hC.2.1 h0).trans hg,fun h=>absurd h (by simp[zA]),fun h=>(hC.2.2.1 (by simpa [zA] using h)).grown hg.grown HPS.out,fun h=>?_,fun h=>?_,Nat.le_trans hC.2.2.2.2.2 hg.grown.size⟩,⟨a,c,rfl,hin.mono hC.2.2.2.2.2⟩,?_⟩
   ·obtain ⟨ns,q1,q2⟩:=hC.2.2.2.1 (by simpa [zA] using h)
    exact ⟨ns,q1.grown hg.grown (fun e=>HBK.out.2 (Option.some.inj e).symm),q2.grown hg.grown HPS.out⟩
   ·exact (hC.2.2.2.2.1 (by simpa [zA] using h)).grown hg.grown (fun e=>HBK.out.2 (Option.some.inj e).symm)
   intro j t _ hs
   match j,hs with
   |0,hs=>exact hs
   |1,hs=>exact hs
   |2,hs=>exact hs
   |3,hs=>exact hs
   |4,hs=>exact hs
   |5,hs=>exact hs
   |6,hs=>obtain ⟨a,c,q1,q2⟩:=hs;exact ⟨a,c,q1,q2.grown hg.grown HP9.out⟩
   |7,hs=>obtain ⟨q0,a,c,q1,q2⟩:=hs;exact ⟨by simpa [zA] using q0,a,c,q1,q2.grown hg.grown HPS.out⟩
   |8,hs=>exact hs
   |9,hs=>exact hs
   |10,hs=>exact hs
   |_+11,_=>trivial
  |7,_,ho,h0,hf,hg,hfr,zX=>
   simp only[qS]at ho;subst ho;refine ⟨rfl,?_⟩
   obtain ⟨a,c,e6,hn6⟩:∃a c,ρ (.tmp 46)=.slice a (yM ts j6).length c/\yZ w9.heap.size w' (.slice a (yM ts j6).length c) (yM ts j6):=(qH zX 6 46);have tq: ρ (.tmp 44)=.slice a7 1 c7:=(qH zX 4 44);have hN:=hC.2.2.1 h0;obtain ⟨r',w'',hr,ho,hg⟩:=VY w6.heap.size w9.heap.size w' (.slice a7 1 c7) (.slice a (yM ts j6).length c) [x] (yM ts j6) hN hn6 (Nat.le_trans H69.out hC.2.2.2.2.2) (by have:=HLN.out;simp;omega);unfold execOp;simp only[resolve,invoke,builtin,Sem.run_bind,Sem.run_pure,Result.andThen_ok,List.map_toArray,List.map_cons,List.map_nil,tq,e6,hr];obtain ⟨a2,c2,rfl⟩:=ho.shape;have hrow:∀k,(Value.slice a7 1 c7).ownBlock=some k->w6.heap.size<=k:=kM hN;have hlow:∀k,(Value.slice a7 1 c7).ownBlock=some k->k<w9.heap.size:=nW N9.out;have hd10:=hf 10 (by decide) (by kernel_rfl);refine ⟨⟨fun h=>(hC.1 (by simpa [zA] using h)).own HP0.out hg (fun k e=>Nat.le_trans HW6.out (hrow k e)),fun h=>(hC.2.1 (by simpa [zA] using h)).own HP0.out hg (fun k e=>Nat.le_trans HW6.out (hrow k e)),fun h=>absurd h (by simp[zA]),fun h=>absurd (hd10.symm.trans (by simpa [zA] using h)) (by decide),fun _=>(hC.2.2.2.2.1 hd10).grown hg (fun e=>by have:=hrow I e.symm;have:=HIS.out;omega),Nat.le_trans hC.2.2.2.2.2 hg.size⟩,fun _=>⟨by simp[zA],a2,c2,rfl,ho⟩,?_⟩
   intro j t _ hs
   match j,hs with
   |0,hs=>exact hs
   |1,hs=>exact hs
   |2,hs=>exact hs
   |3,hs=>exact hs
   |4,hs=>exact hs
   |5,hs=>exact hs
   |6,hs=>obtain ⟨a,c,q1,q2⟩:=hs;exact ⟨a,c,q1,q2.kept hg hlow⟩
   |7,hs=>exact absurd (h0.symm.trans hs.1) (by decide)
   |8,hs=>exact hs
   |9,hs=>exact hs
   |10,hs=>exact hs
   |_+11,_=>trivial
  |8,hm,_,_,_,_,_,_=>exact qD hm
  |9,hm,_,_,_,_,_,_=>exact qD hm
  |10,_,ho,h0,hf,hg,hfr,zX=>
   simp only[qS]at ho;subst ho;refine ⟨rfl,?_⟩
   have t1: ρ (.tmp 49)=.pointer (some ⟨I,3,none⟩):=(qH zX 9 49);obtain ⟨hd7,a8,c8,e8,hn8⟩:d 7=true/\∃a c,ρ (.tmp 47)=.slice a (x::yM ts j6).length c/\yZ w6.heap.size w' (.slice a (x::yM ts j6).length c) (x::yM ts j6):=(qH zX 7 47);have Bk:=hC.2.2.2.2.1 h0;have c3:=Bk.cell (k:=3) rfl;have f3:=Bk.frozen 3;generalize (x::yM ts j6).length=LX at *;simp[go_sem,t1,e8,c3,f3];refine ⟨⟨fun h=>(hC.1 (by simpa [zA] using h)).put HBK.out HI.out _,fun h=>(hC.2.1 (by simpa [zA] using h)).put HBK.out HI.out _,fun h=>absurd (hd7.symm.trans (by simpa [zA] using h)) (by decide),fun _=>⟨_,Bk.set 3 _,hn8.put HIS.out⟩,fun h=>absurd h (by simp[zA]),by rw[World.size_setCell];exact hC.2.2.2.2.2⟩,?_⟩
   intro j t _ hs
   match j,hs with
   |0,hs=>exact hs
   |1,hs=>exact hs
   |2,hs=>exact hs
   |3,hs=>exact hs
   |4,hs=>exact hs
   |5,hs=>exact hs
   |6,hs=>obtain ⟨a,c,q1,q2⟩:=hs;exact ⟨a,c,q1,q2.put HI9.out⟩
   |7,hs=>obtain ⟨q0,a,c,q1,q2⟩:=hs;exact ⟨by simpa [zA] using q0,a,c,q1,q2.put HIS.out⟩
   |8,hs=>exact hs
   |9,hs=>exact hs
   |10,hs=>exact hs
   |_+11,_=>trivial
  |n+11,_,ho,_,_,_,_,_=>simp at ho
 intro V wx hC9 hS;simp only[xA,uH];simp only[Act.put,qU];clear hS;obtain ⟨ns,hB,hN⟩:=hC9.2.2.2.1 rfl
 go_end0
 exact ⟨rfl,⟨ns,hB,hN.mono HW6.out⟩,hC9.1 rfl,HJL.out⟩
end Go.Proofs.YtdcjdnkdeamigaaGreatDoor
