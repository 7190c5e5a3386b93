/- Texts of one chain. -/
import Derived.Test.YtdcjdnkdeamigaaGreatDoorPartQ
import Derived.Test.YtdcjdnkdeamigaaGreatDoorPartSourceWhere40
import Derived.Test.YtdcjdnkdeamigaaGreatDoorPartSourceWhere39
import Derived.Test.YtdcjdnkdeamigaaGreatDoorPartSourceWhere28
import Derived.Test.YtdcjdnkdeamigaaGreatDoorPartSourceWhere23
import Derived.Test.YtdcjdnkdeamigaaGreatDoorPartSourceWhere37
set_option maxRecDepth 100000
set_option maxHeartbeats 32000000
namespace Go.Proofs.YtdcjdnkdeamigaaGreatDoor
open Go.ChangeShapes Go.WideShapes Go.ChangeAt Go.RowKit
def TQ (l:List UInt8):List wJ:=(mS l).2.1.map OZ
def jB (l:List UInt8):Int × Int:=if (mS l).2.2.1≠0 then (mS l).2.2 else (vS (mS l).1 (TQ l)).2
def rC (l:List UInt8):GG:=if (mS l).2.2.1≠0 then IA else bG (mS l).1 (TQ l)
def QT (cd pl:Int):Value:=if cd=0 then .nilIface else .iface 33 (.agg #[.int .i64 cd,.int .i64 pl])
def TP (w:World) (G:GG) (cd pl:Int) (e:Ending) (w':World):Prop:=∃x1 x2 x3 x4 d1 d2 d3 d4 As Es,e=.returned (.tuple #[.agg #[.string (zW G.name),.slice x1 G.A.length d1,.slice x2 G.E.length d2,.slice x3 G.ins.length d3,.slice x4 G.outs.length d4],QT cd pl])/\BO w.heap.size w' G x1 x2 x3 x4 d1 d2 d3 d4 As Es/\Below w.heap.size w w'
theorem OV {w w':World} {cd pl:Int} (h:cd≠0) (hb:Below w.heap.size w w'):TP w IA cd pl (.returned (.tuple #[.agg #[qE,qN,qN,qN,qN],.iface 33 (.agg #[.int .i64 cd,.int .i64 pl])])) w':=by
 refine ⟨none,none,none,none,0,0,0,0,[],[],?_,⟨TS,rfl,rfl,fun p hp=>by (cases hp),fun p hp=>by (cases hp)⟩,hb⟩
 unfold QT;rw[if_neg h];rfl
def SkE (w:World) (nm:List UInt8) (K:List wJ) (cd pl:Int) (e:Ending) (w':World):Prop:=∃a n c M,e=.returned (.tuple #[.agg #[.string (zW nm),.slice a n c],.agg #[.int .i64 cd,.int .i64 pl]])/\(cd=0->pl=0/\M.map Prod.fst=K/\M.length=n/\n<=2000000/\YQ w' a M/\LR w' M)/\Below w.heap.size w w'
theorem II {l:List UInt8} {w w':World} {e:Ending} (h:rL w l e w'):SkE w (mS l).1 (TQ l) (mS l).2.2.1 (mS l).2.2.2 e w':=by
 obtain ⟨h,hb⟩:=h;unfold TQ mS
 rcases h with ⟨h0,rfl⟩|⟨h0,j,hs,rfl⟩|⟨h0,s,j,a,c,L,hs,rfl,hL,hI⟩
 ·rw [if_pos h0]
  exact ⟨none,0,0,[],rfl,fun e=>absurd e h0,hb⟩
 ·rw [if_neg (fun x=>x h0),hs]
  exact ⟨none,0,0,[],rfl,fun e=>absurd (show (50:Int)=0 from e) (by decide),hb⟩
 rw[if_neg (fun x=>x h0),hs];obtain ⟨h1,h2,h3,h4⟩:=IJ h0 hs hL hI;exact ⟨a,s.items.length,c,OY L,rfl,fun _=>⟨rfl,by rw[BE,<-hL],h3,h4,h1,h2⟩,hb⟩
theorem mI (l:List UInt8) (w:World) (hE:sE w):Calls Tryz.prog 9 #[.string (zW l)] w (TP w (rC l) (jB l).1 (jB l).2):=by
 have ba:=(Below.refl w.heap.size w).alloc (Nat.le_refl _) (.cells #[qE,qN,qN,qN,qN] 26);have rb:=zL 26 w #[qE,qN,qN,qN,qN]
 have SP:Hid (Calls Tryz.prog 22 #[.string (zW l)] (w.alloc (.cells #[qE,qN,qN,qN,qN] 26)) (SkE (w.alloc (.cells #[qE,qN,qN,qN,qN] 26)) (mS l).1 (TQ l) (mS l).2.2.1 (mS l).2.2.2)):=(ZK l _ (hE.below ba)).mono fun e w' hh=>II hh
 obtain ⟨RE,hRE⟩:∃R,TP w (rC l) (jB l).1 (jB l).2=R:=⟨_,rfl⟩;rw[hRE];have HRE:=zZ hRE;unfold rC jB at HRE;obtain ⟨nm,hnm⟩:∃q,(mS l).1=q:=⟨_,rfl⟩;obtain ⟨K,hK⟩:∃q,TQ l=q:=⟨_,rfl⟩;obtain ⟨cd,pl,hcp⟩:∃cd pl,(mS l).2.2=(cd,pl):=⟨_,_,rfl⟩;rw[hnm,hK,hcp]at SP HRE;unfold SkE at SP;simp only at SP HRE;have BA:=zZ ba;have RB:=zZ rb;clear ba rb hRE hnm hK hcp hE
 go_enter Tryz.func9,Tryz.ntmps9
 go_upto_region 1 with fail
 generalize w.alloc (.cells #[qE,qN,qN,qN,qN] 26)=W0 at *
 go_upto_region 2 with (go_at_call 22;(with_reducible refine SP.out.mono ?_);rintro e u1 ⟨a,n,c,M,rfl,hM,b1⟩;have HM:=zZ hM;have B1:=zZ (BA.out.trans (b1.mono BA.out.size));have R1:=zZ (RB.out.below b1);clear hM b1)
 clear SP BA RB;have c1:=(Below.refl u1.heap.size u1).alloc (Nat.le_refl _) (.cells #[.string (zW nm),.slice a n c] 52);have c2:=(Below.refl _ _).alloc (Nat.le_refl _) (.cells #[.int .i64 cd,.int .i64 pl] 33) (w:=u1.alloc (.cells #[.string (zW nm),.slice a n c] 52));have cc:=c1.trans (c2.mono c1.size);have X2:=zZ ((zL 52 u1 #[.string (zW nm),.slice a n c]).below c2)
 have F2:Hid (zD 33 (u1.heap.size+1) ((u1.alloc (.cells #[.string (zW nm),.slice a n c] 52)).alloc (.cells #[.int .i64 cd,.int .i64 pl] 33)) #[.int .i64 cd,.int .i64 pl]):=by
  have r:=zL 33 (u1.alloc (.cells #[.string (zW nm),.slice a n c] 52)) #[.int .i64 cd,.int .i64 pl];rw[World.size_alloc]at r;exact r
 have B2:=zZ (B1.out.trans (cc.mono B1.out.size));have R2:=zZ (R1.out.below cc)
 have M2:Hid (cd=0->pl=0/\M.map Prod.fst=K/\M.length=n/\n<=2000000/\YQ ((u1.alloc (.cells #[.string (zW nm),.slice a n c] 52)).alloc (.cells #[.int .i64 cd,.int .i64 pl] 33)) a M/\LR ((u1.alloc (.cells #[.string (zW nm),.slice a n c] 52)).alloc (.cells #[.int .i64 cd,.int .i64 pl] 33)) M):=fun e=>by
  obtain ⟨h0,h1,h2,h3,h4,h5⟩:=HM.out e;exact ⟨h0,h1,h2,h3,h4.below cc,h5.below cc⟩
 have SZ:Hid (w.heap.size<u1.heap.size):=R1.out.lt;clear c1 c2 cc B1 R1 HM;obtain ⟨sb,hsb⟩:∃q,u1.heap.size=q:=⟨_,rfl⟩;rw[hsb]at X2 F2 SZ ⊢;clear hsb;obtain ⟨fb,hfb⟩:∃q,sb+1=q:=⟨_,rfl⟩;have HFB:=zZ hfb;rw[hfb]at F2 ⊢;clear hfb
 have HNE:Hid (fb≠w.heap.size):=by show ¬_;have:=SZ.out;have:=HFB.out;omega
 generalize (u1.alloc (.cells #[.string (zW nm),.slice a n c] 52)).alloc (.cells #[.int .i64 cd,.int .i64 pl] 33)=w2 at *;have y0:w2.cell? ⟨fb,0,none⟩=some (.int .i64 cd):=F2.out.cell rfl;have y1:w2.cell? ⟨fb,1,none⟩=some (.int .i64 pl):=F2.out.cell rfl
 have IF:Hid (∀ (c p:Int) U,Calls Tryz.prog 24 #[.agg #[.int .i64 c,.int .i64 p]] U fun e w'=>e=.returned (.bool (c !=0||p !=0))/\Below U.heap.size U w'):=fun c p U=>TR c p U
 have Y:(cd !=0||pl !=0)=(cd !=0)\/cd=0/\pl≠0:=by
  by_cases h1:cd=0
  ·by_cases h2:pl=0
   ·left;simp[h1,h2]
   right;exact ⟨h1,h2⟩
  left;simp[h1]
 by_cases hc0:cd=0
 ·obtain ⟨hp0,hM1,hM2,hM3,hM4,hM5⟩:=M2.out hc0
  subst hc0 hp0;clear Y;obtain ⟨c2,p2,hB⟩:∃c2 p2,(vS nm K).2=(c2,p2):=⟨_,_,rfl⟩
  have BD:Hid (∀ U,Below w2.heap.size w2 U->Calls Tryz.prog 23 #[.agg #[.string (zW nm),.slice a n c]] U (IL U (bG nm K) c2 p2)):=fun U hU=>PC nm a n c M U hM2 (hM4.below hU) (hM5.below hU) hM3 hM1 hB
  have HZ:Hid (c2=0->p2=0):=fun e=>by
   have z:=mJ (nm:=nm) (K:=K) (by rw[hB];exact e);rw[z.1]at hB
   cases hB
   rfl
  have EG:Hid (c2≠0->bG nm K=IA):=fun e=>by
   unfold bG;rw[if_neg (by rw[hB];exact e)]
  have HB2:=zZ hB;obtain ⟨G,hG⟩:∃G,bG nm K=G:=⟨_,rfl⟩;rw[hG]at BD EG;have HG:=zZ hG;unfold IL at BD;clear hG hB hM1 hM2 hM3 hM4 hM5 M2
  have IZ:Hid (∀ U,Calls Tryz.prog 24 #[.agg #[.int .i64 0,.int .i64 0]] U fun e w'=>e=.returned (.bool false)/\Below U.heap.size U w'):=fun U=>IF.out 0 0 U
  go_upto_region 4 with (go_at_call 24;(with_reducible refine (IZ.out _).mono ?_);rintro e w3 ⟨rfl,b3⟩;have F3:=zZ (F2.out.below b3);have R3:=zZ (R2.out.below b3);have X3:=zZ (X2.out.below b3);have B3:=zZ (B2.out.trans (b3.mono B2.out.size));have D3:=zZ b3;clear b3 y0 y1)
  clear F2 R2 X2 B2;have y0:w3.cell? ⟨sb,0,none⟩=some (.string (zW nm)):=X3.out.cell rfl;have y1:w3.cell? ⟨sb,1,none⟩=some (.slice a n c):=X3.out.cell rfl
  go_upto_region 5 with (first
   |(go_at_call 23;(with_reducible refine (BD.out w3 D3.out).mono ?_);rintro e u4 ⟨x1,x2,x3,x4,d1,d2,d3,d4,As,Es,rfl,hO,b4⟩;have O4:=zZ hO;have D4:=zZ b4;have F4:Hid (zD 33 fb (u4.alloc (.cells #[.string (zW G.name),.slice x1 G.A.length d1,.slice x2 G.E.length d2,.slice x3 G.ins.length d3,.slice x4 G.outs.length d4] 26)) #[.int .i64 0,.int .i64 0]):=(F3.out.below b4).below ((Below.refl _ _).alloc (Nat.le_refl _) _);clear hO b4 y0 y1)
   |(refine xI _ rfl 33 (.tmp 5) (.tmp 21) rfl rfl fb 33 _ _ rfl rfl F4.out MF rfl rfl ?_;intro w5 hN hU;have N5:=zZ hN;have U5:=zZ hU;clear hN hU))
  have FL:Hid (fb<w3.heap.size):=F3.out.lt;have bv:=(Below.refl u4.heap.size u4).alloc (Nat.le_refl _) (.cells #[.string (zW G.name),.slice x1 G.A.length d1,.slice x2 G.E.length d2,.slice x3 G.ins.length d3,.slice x4 G.outs.length d4] 26);have bt:=D4.out.trans (bv.mono D4.out.size);have G5:Hid (zD 26 u4.heap.size w5 #[.string (zW G.name),.slice x1 G.A.length d1,.slice x2 G.E.length d2,.slice x3 G.ins.length d3,.slice x4 G.outs.length d4]):=(zL 26 u4 #[.string (zW G.name),.slice x1 G.A.length d1,.slice x2 G.E.length d2,.slice x3 G.ins.length d3,.slice x4 G.outs.length d4]).keep (U5.out.block _ (zL 26 u4 #[.string (zW G.name),.slice x1 G.A.length d1,.slice x2 G.E.length d2,.slice x3 G.ins.length d3,.slice x4 G.outs.length d4]).lt (by have:=FL.out;have:=D4.out.size;omega));have R5:Hid (zD 26 w.heap.size w5 #[qE,qN,qN,qN,qN]):=(R3.out.below bt).keep (U5.out.block _ (R3.out.below bt).lt HNE.out.symm)
  have O5:Hid (BO w3.heap.size w5 G x1 x2 x3 x4 d1 d2 d3 d4 As Es):=by
   have q:=O4.out.later bv;exact ⟨q.own.keep fun k hk hk2=>U5.out.block k hk2 (by have:=FL.out;omega),q.a,q.e,q.na,q.ne⟩
  have B5:Hid (Below w.heap.size w w5):=(B3.out.trans (bt.mono B3.out.size)).trans (U5.out.below (by have:=SZ.out;have:=HFB.out;omega) (Nat.le_trans B3.out.size bt.size));have Z5:Hid (w.heap.size<=w3.heap.size):=B3.out.size;have Z6:Hid (w.heap.size<w3.heap.size):=R3.out.lt;clear bv bt F3 R3 X3 B3 D3 BD O4 D4 F4 U5 FL;generalize u4.heap.size=gb at *;have y0:w5.cell? ⟨fb,0,none⟩=some (.int .i64 c2):=N5.out.cell rfl;have y1:w5.cell? ⟨fb,1,none⟩=some (.int .i64 p2):=N5.out.cell rfl
  by_cases hc2:c2=0
  ·have hp2:=HZ.out hc2
   subst hc2 hp2
   go_upto_region 7 with (go_at_call 24;(with_reducible refine (IZ.out _).mono ?_);rintro e w6 ⟨rfl,b6⟩;have R6:=zZ (R5.out.below b6);have G6:=zZ (G5.out.below b6);have O6:=zZ (O5.out.later b6);have B6:=zZ (B5.out.trans (b6.mono B5.out.size));clear b6 y0 y1)
   clear R5 G5 O5 B5 N5;obtain ⟨g0,g1,g2,g3,g4⟩:=qC5 G6.out
   go_wp2_with (refine xI _ rfl 26 (.tmp 2) (.tmp 27) rfl rfl w.heap.size 26 _ _ rfl rfl R6.out MG rfl rfl ?_;intro w8 hN hU;have N8:=zZ hN;have U8:=zZ hU;clear hN hU)
   obtain ⟨t0,t1,t2,t3,t4⟩:=qC5 N8.out;refine bodyPost_ret (v:=.tuple #[.agg #[.string (zW G.name),.slice x1 G.A.length d1,.slice x2 G.E.length d2,.slice x3 G.ins.length d3,.slice x4 G.outs.length d4],.nilIface]) (by simp[results,Tryz.results9,go_sem,t0,t1,t2,t3,t4]) rfl ?_
   rw[<- HRE.out,if_neg (fun x=>x rfl),if_neg (fun x=>x rfl),HB2.out,HG.out];have q:=O6.out;exact ⟨x1,x2,x3,x4,d1,d2,d3,d4,As,Es,rfl,⟨(q.own.keep fun k hk hk2=>U8.out.block k hk2 (by have:=Z5.out;have:=Z6.out;omega)).mono Z5.out,q.a,q.e,q.na,q.ne⟩,B6.out.trans (U8.out.below (Nat.le_refl _) B6.out.size)⟩
  have IT:Hid (∀ U,Calls Tryz.prog 24 #[.agg #[.int .i64 c2,.int .i64 p2]] U fun e w'=>e=.returned (.bool true)/\Below U.heap.size U w'):=fun U=>(IF.out c2 p2 U).mono fun e w' hh=>⟨by rw[hh.1];simp[hc2],hh.2⟩
  go_upto_region 6 with (go_at_call 24;(with_reducible refine (IT.out _).mono ?_);rintro e w6 ⟨rfl,b6⟩;have K5:=zZ (N5.out.below b6);have K6:=zZ (R5.out.below b6);have K7:=zZ (B5.out.trans (b6.mono B5.out.size));clear b6 y0 y1)
  clear R5 G5 O5 B5 N5 IT IZ IF;have HC2:=zZ hc2;clear hc2
  refine yP [3] (fun d i u z=>match i with
   |0=>z=.agg #[qE,qN,qN,qN,qN]
   |1=>z=.agg #[.int .i64 c2,.int .i64 p2]
   |2=>z=.iface 33 (.agg #[.int .i64 c2,.int .i64 p2])
   |3=>True
   |4=>z=.iface 33 (.agg #[.int .i64 c2,.int .i64 p2])
   |_=>True) (fun d u=>zD 33 fb u #[.int .i64 c2,.int .i64 p2]/\zD 26 w.heap.size u #[qE,qN,qN,qN,qN]/\Below w.heap.size w u) (by kernel_rfl) (by kernel_rfl) (by kernel_rfl) ?_ ?_ ?_ ?_ ?_ ?_ (by kernel_rfl)
  ·intro d i w v w' h hb
   match i,h with
   |0,h=>exact h
   |1,h=>exact h
   |2,h=>exact h
   |3,h=>exact h
   |4,h=>exact h
   |_+5,_=>trivial
  ·intro d u u' h hb
   exact ⟨h.1.below hb,h.2.1.below hb,h.2.2.trans (hb.mono h.2.2.size)⟩
  ·exact ⟨K5.out,K6.out,K7.out⟩
  ·intro d i o ρ w' hm ho hf hg hC hcs hfs hfr zX
   match i,hm,ho,hf,hg,hfr,zX with
   |0,_,ho,hf,hg,hfr,zX=>
    simp only[qS]at ho;subst ho;refine ⟨fun _=>?_,qF⟩
    simp[go_sem];exact qB
   |1,_,ho,hf,hg,hfr,zX=>
    simp only[qS]at ho;subst ho;refine ⟨fun _=>?_,qF⟩
    have ts: ρ (.tmp 5)=(qP fb):=(qR hfr 5);have k0:w'.cell? ⟨fb,0,none⟩=some (.int .i64 c2):=hC.1.cell rfl;have k1:w'.cell? ⟨fb,1,none⟩=some (.int .i64 p2):=hC.1.cell rfl;simp[go_sem,ts,k0,k1];exact qB
   |2,_,ho,hf,hg,hfr,zX=>
    simp only[qS]at ho;subst ho;refine ⟨fun _=>?_,qF⟩
    have ts: ρ (.tmp 25)=.agg #[.int .i64 c2,.int .i64 p2]:=(qH zX 1 25);simp[go_sem,ts];exact qB
   |3,hm,_,_,_,_,_=>exact qD hm
   |4,_,ho,hf,hg,hfr,zX=>
    simp only[qS]at ho;subst ho;refine ⟨fun _=>?_,qF⟩
    have ts: ρ (.tmp 26)=.iface 33 (.agg #[.int .i64 c2,.int .i64 p2]):=(qH zX 2 26);simp[go_sem,ts];exact qB
   |n+5,_,ho,_,_,_,_=>simp at ho
  ·intro d i o ρ w' hm ho h0 hf hg hC hcs hfs hfr zX
   match i,hm,ho,h0,hf,hg,hfr,zX with
   |0,hm,_,_,_,_,_,_=>exact qD hm
   |1,hm,_,_,_,_,_,_=>exact qD hm
   |2,hm,_,_,_,_,_,_=>exact qD hm
   |3,_,ho,h0,hf,hg,hfr,zX=>
    simp only[qS]at ho;subst ho;have t0: ρ (.tmp 24)=.agg #[qE,qN,qN,qN,qN]:=(qH zX 0 24);have ts: ρ (.tmp 2)=(qP w.heap.size):=(qR hfr 2);have b8:=hC.2.1;obtain ⟨z0,z1,z2,z3,z4⟩:=qC5 b8;have f0:=b8.frozen 0;have f1:=b8.frozen 1;have f2:=b8.frozen 2;have f3:=b8.frozen 3;have f4:=b8.frozen 4;have hB:zD 26 w.heap.size (((((w'.setCell ⟨w.heap.size,0,none⟩ (qE)).setCell ⟨w.heap.size,1,none⟩ (qN)).setCell ⟨w.heap.size,2,none⟩ (qN)).setCell ⟨w.heap.size,3,none⟩ (qN)).setCell ⟨w.heap.size,4,none⟩ (qN)) #[qE,qN,qN,qN,qN]:=(((((b8.set 0 (qE)).set 1 (qN)).set 2 (qN)).set 3 (qN)).set 4 (qN));have hbt:=((((tD.set w' w.heap.size 0 (qE)).trans (tD.set _ w.heap.size 1 (qN))).trans (tD.set _ w.heap.size 2 (qN))).trans (tD.set _ w.heap.size 3 (qN))).trans (tD.set _ w.heap.size 4 (qN));refine ⟨rfl,tQ (w':=(((((w'.setCell ⟨w.heap.size,0,none⟩ (qE)).setCell ⟨w.heap.size,1,none⟩ (qN)).setCell ⟨w.heap.size,2,none⟩ (qN)).setCell ⟨w.heap.size,3,none⟩ (qN)).setCell ⟨w.heap.size,4,none⟩ (qN))) (by simp[go_sem,ts,t0,z0,z1,z2,z3,z4,f0,f1,f2,f3,f4]) ?_⟩
    refine ⟨⟨hC.1.keep (hbt.block _ hC.1.lt HNE.out),hB,hC.2.2.trans (hbt.below (Nat.le_refl _) hC.2.2.size)⟩,fun h=>absurd rfl h,?_⟩
    intro j t hj hs
    match j,hs with
    |0,hs=>exact hs
    |1,hs=>exact hs
    |2,hs=>exact hs
    |3,_=>trivial
    |4,hs=>exact hs
    |_+5,_=>trivial
   |4,hm,_,_,_,_,_,_=>exact qD hm
   |n+5,_,ho,_,_,_,_,_=>simp at ho
  intro V w9 hC9 hS;have e4:V 4=.iface 33 (.agg #[.int .i64 c2,.int .i64 p2]):=hS 4 (by decide) (by intro h;cases h);simp only[xA,uH,e4];simp only[Act.put,qU];clear hS e4;have N8:Hid (zD 26 w.heap.size w9 #[qE,qN,qN,qN,qN]):=hC9.2.1;have B9:Hid (Below w.heap.size w w9):=hC9.2.2;clear hC9
  go_wp2
  obtain ⟨t0,t1,t2,t3,t4⟩:=qC5 N8.out;refine bodyPost_ret (v:=.tuple #[.agg #[qE,qN,qN,qN,qN],.iface 33 (.agg #[.int .i64 c2,.int .i64 p2])]) (by simp[results,Tryz.results9,go_sem,t0,t1,t2,t3,t4]) rfl ?_
  rw[<- HRE.out,if_neg (fun x=>x rfl),if_neg (fun x=>x rfl),HB2.out,HG.out,EG.out HC2.out];exact OV HC2.out B9.out
 have IT:Hid (∀ U,Calls Tryz.prog 24 #[.agg #[.int .i64 cd,.int .i64 pl]] U fun e w'=>e=.returned (.bool true)/\Below U.heap.size U w'):=fun U=>(IF.out cd pl U).mono fun e w' hh=>⟨by rw[hh.1];simp[hc0],hh.2⟩
 go_upto_region 3 with (go_at_call 24;(with_reducible refine (IT.out _).mono ?_);rintro e w3 ⟨rfl,b3⟩;have K5:=zZ (F2.out.below b3);have K6:=zZ (R2.out.below b3);have K7:=zZ (B2.out.trans (b3.mono B2.out.size));clear b3 y0 y1)
 clear F2 R2 X2 B2 M2 Y IT IF;have HC0:=zZ hc0;clear hc0
 refine yP [3] (fun d i u z=>match i with
  |0=>z=.agg #[qE,qN,qN,qN,qN]
  |1=>z=.agg #[.int .i64 cd,.int .i64 pl]
  |2=>z=.iface 33 (.agg #[.int .i64 cd,.int .i64 pl])
  |3=>True
  |4=>z=.iface 33 (.agg #[.int .i64 cd,.int .i64 pl])
  |_=>True) (fun d u=>zD 33 fb u #[.int .i64 cd,.int .i64 pl]/\zD 26 w.heap.size u #[qE,qN,qN,qN,qN]/\Below w.heap.size w u) (by kernel_rfl) (by kernel_rfl) (by kernel_rfl) ?_ ?_ ?_ ?_ ?_ ?_ (by kernel_rfl)
 ·intro d i w v w' h hb
  match i,h with
  |0,h=>exact h
  |1,h=>exact h
  |2,h=>exact h
  |3,h=>exact h
  |4,h=>exact h
  |_+5,_=>trivial
 ·intro d u u' h hb
  exact ⟨h.1.below hb,h.2.1.below hb,h.2.2.trans (hb.mono h.2.2.size)⟩
 ·exact ⟨K5.out,K6.out,K7.out⟩
 ·intro d i o ρ w' hm ho hf hg hC hcs hfs hfr zX
  match i,hm,ho,hf,hg,hfr,zX with
  |0,_,ho,hf,hg,hfr,zX=>
   simp only[qS]at ho;subst ho;refine ⟨fun _=>?_,qF⟩
   simp[go_sem];exact qB
  |1,_,ho,hf,hg,hfr,zX=>
   simp only[qS]at ho;subst ho;refine ⟨fun _=>?_,qF⟩
   have ts: ρ (.tmp 5)=(qP fb):=(qR hfr 5);have k0:w'.cell? ⟨fb,0,none⟩=some (.int .i64 cd):=hC.1.cell rfl;have k1:w'.cell? ⟨fb,1,none⟩=some (.int .i64 pl):=hC.1.cell rfl;simp[go_sem,ts,k0,k1];exact qB
  |2,_,ho,hf,hg,hfr,zX=>
   simp only[qS]at ho;subst ho;refine ⟨fun _=>?_,qF⟩
   have ts: ρ (.tmp 15)=.agg #[.int .i64 cd,.int .i64 pl]:=(qH zX 1 15);simp[go_sem,ts];exact qB
  |3,hm,_,_,_,_,_=>exact qD hm
  |4,_,ho,hf,hg,hfr,zX=>
   simp only[qS]at ho;subst ho;refine ⟨fun _=>?_,qF⟩
   have ts: ρ (.tmp 16)=.iface 33 (.agg #[.int .i64 cd,.int .i64 pl]):=(qH zX 2 16);simp[go_sem,ts];exact qB
  |n+5,_,ho,_,_,_,_=>simp at ho
 ·intro d i o ρ w' hm ho h0 hf hg hC hcs hfs hfr zX
  match i,hm,ho,h0,hf,hg,hfr,zX with
  |0,hm,_,_,_,_,_,_=>exact qD hm
  |1,hm,_,_,_,_,_,_=>exact qD hm
  |2,hm,_,_,_,_,_,_=>exact qD hm
  |3,_,ho,h0,hf,hg,hfr,zX=>
   simp only[qS]at ho;subst ho;have t0: ρ (.tmp 14)=.agg #[qE,qN,qN,qN,qN]:=(qH zX 0 14);have ts: ρ (.tmp 2)=(qP w.heap.size):=(qR hfr 2);have b8:=hC.2.1;obtain ⟨z0,z1,z2,z3,z4⟩:=qC5 b8;have f0:=b8.frozen 0;have f1:=b8.frozen 1;have f2:=b8.frozen 2;have f3:=b8.frozen 3;have f4:=b8.frozen 4;have hB:zD 26 w.heap.size (((((w'.setCell ⟨w.heap.size,0,none⟩ (qE)).setCell ⟨w.heap.size,1,none⟩ (qN)).setCell ⟨w.heap.size,2,none⟩ (qN)).setCell ⟨w.heap.size,3,none⟩ (qN)).setCell ⟨w.heap.size,4,none⟩ (qN)) #[qE,qN,qN,qN,qN]:=(((((b8.set 0 (qE)).set 1 (qN)).set 2 (qN)).set 3 (qN)).set 4 (qN));have hbt:=((((tD.set w' w.heap.size 0 (qE)).trans (tD.set _ w.heap.size 1 (qN))).trans (tD.set _ w.heap.size 2 (qN))).trans (tD.set _ w.heap.size 3 (qN))).trans (tD.set _ w.heap.size 4 (qN));refine ⟨rfl,tQ (w':=(((((w'.setCell ⟨w.heap.size,0,none⟩ (qE)).setCell ⟨w.heap.size,1,none⟩ (qN)).setCell ⟨w.heap.size,2,none⟩ (qN)).setCell ⟨w.heap.size,3,none⟩ (qN)).setCell ⟨w.heap.size,4,none⟩ (qN))) (by simp[go_sem,ts,t0,z0,z1,z2,z3,z4,f0,f1,f2,f3,f4]) ?_⟩
   refine ⟨⟨hC.1.keep (hbt.block _ hC.1.lt HNE.out),hB,hC.2.2.trans (hbt.below (Nat.le_refl _) hC.2.2.size)⟩,fun h=>absurd rfl h,?_⟩
   intro j t hj hs
   match j,hs with
   |0,hs=>exact hs
   |1,hs=>exact hs
   |2,hs=>exact hs
   |3,_=>trivial
   |4,hs=>exact hs
   |_+5,_=>trivial
  |4,hm,_,_,_,_,_,_=>exact qD hm
  |n+5,_,ho,_,_,_,_,_=>simp at ho
 intro V w9 hC9 hS;have e4:V 4=.iface 33 (.agg #[.int .i64 cd,.int .i64 pl]):=hS 4 (by decide) (by intro h;cases h);simp only[xA,uH,e4];simp only[Act.put,qU];clear hS e4;have N8:Hid (zD 26 w.heap.size w9 #[qE,qN,qN,qN,qN]):=hC9.2.1;have B9:Hid (Below w.heap.size w w9):=hC9.2.2;clear hC9
 go_wp2
 obtain ⟨t0,t1,t2,t3,t4⟩:=qC5 N8.out;refine bodyPost_ret (v:=.tuple #[.agg #[qE,qN,qN,qN,qN],.iface 33 (.agg #[.int .i64 cd,.int .i64 pl])]) (by simp[results,Tryz.results9,go_sem,t0,t1,t2,t3,t4]) rfl ?_
 rw[<- HRE.out,if_pos HC0.out,if_pos HC0.out];exact OV HC0.out B9.out
def bkP:EA->vZ
 |⟨n,p,q⟩=>⟨n,p,q⟩
def LH:wJ->zF
 |⟨k,n,t,ns,f,g,p⟩=>⟨k,n,t,ns,bkP f,bkP g,p⟩
def IH (L:List (wJ × Value)):List (zF × Value):=L.map fun p=>(LH p.1,p.2)
theorem AY (p:wJ × Value):tL (LH p.1,p.2)=lW p:=by
 obtain ⟨⟨k,n,t,ns,⟨f1,f2,f3⟩,⟨g1,g2,g3⟩,q⟩,v⟩:=p;rfl
theorem DN (x:wJ):(LH x).nums=x.nums:=by
 obtain ⟨k,n,t,ns,f,g,q⟩:=x;rfl
theorem AX (L:List (wJ × Value)):(IH L).map Prod.fst=(L.map Prod.fst).map LH:=by
 unfold IH;rw[List.map_map,List.map_map];rfl
theorem AV {base:Nat} {w:World} {v:Value} {L:List (wJ × Value)} (h:iY base w v L):vY base w v (IH L):=by
 refine ⟨?_,fun p hp=>?_,fun p hp=>?_,?_⟩
 ·have e:(IH L).flatMap tL=L.flatMap lW:=by
   unfold IH;rw[List.flatMap_map];exact congrArg (fun f=>L.flatMap f) (funext AY)
  rw[e]
  have el:(IH L).length=L.length:=by simp[IH]
  rw[el];exact h.row
 ·obtain ⟨q,hq,rfl⟩:=List.mem_map.1 hp
  show yZ base w q.2 (LH q.1).nums;rw[DN];exact h.nums q hq
 ·obtain ⟨q,hq,rfl⟩:=List.mem_map.1 hp
  exact h.off q hq
 unfold IH;rw[List.pairwise_map];exact h.pair
theorem QS (f:Nat->Nat):∀(n k:Nat),k<n->f k<=ML f n
 |0,_,h=>absurd h (Nat.not_lt_zero _)
 |n+1,k,h=>by
  show f k<=ML f n+f n
  by_cases e:k=n
  ·subst e;omega
  have:=QS f n k (by omega);omega
theorem OU {g:GG} (h:fP g) {k:Nat} (hk:k<g.A.length):lE g k<=112:=by
 have h1:=QS (lE g) _ k hk;have h2:=JJ h;have h3:=mO h.head;omega
theorem TO {g:GG} (h:fP g) {k:Nat} (hk:k<g.A.length):rD g k<=112:=by
 have h1:=QS (rD g) _ k hk;have h2:=MK h;have h3:=mO h.head;omega
theorem gO {ns:List Int} (h:vE ns):(∀ n ∈ ns,tK n)/\ns.length<=17592186044416:=by
 refine ⟨fun n hn=>nU ?_,by have:=h.2;omega⟩
 obtain ⟨k,hk,rfl⟩:=List.getElem_of_mem hn;have q:=h.1 k;rw[wF,List.getD_eq_getElem?_getD,List.getElem?_eq_getElem hk]at q;exact q
theorem mH {p:Int} (h0:0<=p) {n:Nat} (h1:p<(n:Int)) (hn:n<=112):tK p:=nU (by omega)
theorem mG:tK 0:=nU (by decide)
theorem dN {k:Int} {n t:List UInt8} {ns:List Int} {f g:EA} {p:Int} (h1:tK f.port) (h2:tK g.port) (h3:vE ns):aS (LH ⟨k,n,t,ns,f,g,p⟩):=by
 obtain ⟨f1,f2,f3⟩:=f;obtain ⟨g1,g2,g3⟩:=g;exact ⟨h1,h2,(gO h3).1,(gO h3).2⟩
theorem LW {g:GG} (hS:fP g) (hA:∀a ∈ g.A,vE a.params) (hE:∀e ∈ g.E,vE e.start):∀x ∈ eJ g,aS (LH x):=by
 intro x hx;unfold eJ at hx;simp only[List.mem_append,List.mem_map]at hx;have n0:vE []:=⟨inR0,by decide⟩
 rcases hx with ⟨a,ha,rfl⟩|⟨e,he,rfl⟩|⟨p,hp,rfl⟩|⟨p,hp,rfl⟩
 ·exact dN mG mG (hA a ha)
 ·obtain ⟨k,hk,rfl⟩:=CE he
  have h1:=(dR (hS.E k hk)).1;exact dN (mH h1.fp0 h1.fp1 (TO hS (by have:=h1.f0;have:=h1.f1;omega))) (mH h1.tp0 h1.tp1 (OU hS (by have:=h1.t0;have:=h1.t1;omega))) (hE _ he)
 ·obtain ⟨k,hk,rfl⟩:=memP hp
  obtain ⟨-,-,⟨h0,h1,h2,h3⟩,-⟩:=JK (hS.ins k hk);exact dN mG (mH h2 h3 (OU hS (by omega))) n0
 obtain ⟨k,hk,rfl⟩:=memP hp;obtain ⟨-,-,⟨h0,h1,h2,h3⟩,-⟩:=RI (hS.outs k hk);exact dN (mH h2 h3 (TO hS (by omega))) mG n0
def TN (g:GG):List UInt8 × Int:=if (yD g).code≠0 then ([],(yD g).code) else lJ g.name ((eJ g).map LH)
def AU (cd:Int):Value:=if cd=0 then .nilIface else .iface 31 (.int .i64 cd)
theorem QR (nm:List UInt8) (xs:List zF):(lJ nm xs).2≠0->(lJ nm xs).1=[]:=by
 unfold lJ
 split
 ·split
  ·intro _;rfl
  intro h;exact absurd rfl h
 intro _;rfl
theorem WT (g:GG) (a1 a2 a3 a4:Option Addr) (c1 c2 c3 c4:Nat) (w:World) (h:UH w a1 a2 a3 a4 g) (hT:XO w.heap.size w):
 Calls Tryz.prog 17 #[.agg #[.string (zW g.name),.slice a1 g.A.length c1,.slice a2 g.E.length c2,.slice a3 g.ins.length c3,.slice a4 g.outs.length c4]] w fun e w'=>e=.returned (.tuple #[.string (zW (TN g).1),AU (TN g).2])/\Below w.heap.size w w':=by
 have ba:=(Below.refl w.heap.size w).alloc (Nat.le_refl _) (.cells #[.string (zW g.name),.slice a1 g.A.length c1,.slice a2 g.E.length c2,.slice a3 g.ins.length c3,.slice a4 g.outs.length c4] 26);have xb:=zL 26 w #[.string (zW g.name),.slice a1 g.A.length c1,.slice a2 g.E.length c2,.slice a3 g.ins.length c3,.slice a4 g.outs.length c4];obtain ⟨cd,hcd⟩:∃q,(yD g).code=q:=⟨_,rfl⟩;obtain ⟨nm,hnm⟩:∃q,dNm g=q:=⟨_,rfl⟩;obtain ⟨n,hn⟩:∃q,(TH g).length=q:=⟨_,rfl⟩
 have hnl:n<=160:=by rw[<- hn];exact DP g
 have DR:=zZ ((JF g a1 a2 a3 a4 c1 c2 c3 c4 _ (h.below ba)).mono fun _ _ hh=>TT hh hn hnm hcd)
 have FT:Hid (∀ x ∈ TH g,aS (LH x)):=by
  intro x hx;unfold TH at hx
  by_cases h0:(yD g).code=0
  ·rw [if_pos h0]at hx
   exact LW ((nL g).1 h0) (fun a ha=>(h.nums.1 a ha).2) (fun e he=>h.nums.2 e he) x hx
  rw[if_neg h0]at hx
  cases hx
 have SP:Hid (cd=0->TN g=lJ nm ((TH g).map LH)):=fun e=>by
  have e0:(yD g).code=0:=hcd.trans e;unfold TN;rw[if_neg (fun x=>x e0),<-hnm];unfold dNm TH;rw[if_pos e0,if_pos e0]
 have SQ:Hid (cd≠0->TN g=([],cd)):=fun e=>by
  unfold TN;rw[hcd,if_pos e]
 have BA:=zZ ba;have HT:=zZ hT;have y0:=xb.cell (k:=0) rfl;have y1:=xb.cell (k:=1) rfl;have y2:=xb.cell (k:=2) rfl;have y3:=xb.cell (k:=3) rfl;have y4:=xb.cell (k:=4) rfl;simp only[List.getElem_toArray,List.getElem_cons_zero,List.getElem_cons_succ]at y0 y1 y2 y3 y4;clear ba xb h hT hcd hnm hn
 go_enter Tryz.func17,Tryz.ntmps17
 go_upto_region 1 with fail
 generalize w.alloc (.cells #[.string (zW g.name),.slice a1 g.A.length c1,.slice a2 g.E.length c2,.slice a3 g.ins.length c3,.slice a4 g.outs.length c4] 26)=W0 at *
 go_upto_region 2 with (go_at_call 38;(with_reducible refine DR.out.mono ?_);rintro e u1 ⟨a,c,M,rfl,hM,hl,hi,b1⟩;have HM:=zZ hM;have HL:=zZ hl;have HI:=zZ hi;have B1:=zZ (BA.out.trans (b1.mono BA.out.size));clear hM hl hi b1 y0 y1 y2 y3 y4)
 clear DR BA;have bv:=(Below.refl u1.heap.size u1).alloc (Nat.le_refl _) (.cells #[.string (zW nm),.slice a n c] 52);have X2:=zZ (zL 52 u1 #[.string (zW nm),.slice a n c]);have B2:=zZ (B1.out.trans (bv.mono B1.out.size));have I2:=zZ (HI.out.below bv);clear bv B1 HI;generalize u1.heap.size=sb at *;generalize u1.alloc (.cells #[.string (zW nm),.slice a n c] 52)=w2 at *;have y0:w2.cell? ⟨sb,0,none⟩=some (.string (zW nm)):=X2.out.cell rfl;have y1:w2.cell? ⟨sb,1,none⟩=some (.slice a n c):=X2.out.cell rfl
 by_cases hc:cd=0
 ·have ES:=SP.out hc
  subst hc;obtain ⟨tx,pc,hp⟩:∃tx pc,lJ nm ((TH g).map LH)=(tx,pc):=⟨_,_,rfl⟩
  have PR:Hid (Calls Tryz.prog 39 #[.agg #[.string (zW nm),.slice a n c]] w2 fun e w'=>e=.returned (.tuple #[.string (zW tx),.int .i64 pc])/\Below w2.heap.size w2 w'):=by
   have el:(IH M).length=n:=by rw[<- HL.out];simp[IH]
   have q:=ND nm a n c (IH M) w2 el (vY.at5 (c:=c) (by rw[el];exact AV I2.out)) (by omega) (fun p hp=>by
    obtain ⟨q,hq,rfl⟩:=List.mem_map.1 hp
    exact FT.out _ (by rw[<- HM.out];exact List.mem_map_of_mem hq)) (HT.out.on5 B2.out)
   rw[VD,AX,HM.out,hp]at q;exact q
  have HS:Hid (TN g=(tx,pc)):=ES.trans hp
  have HX:Hid (pc≠0->tx=[]):=fun e=>by
   have q:=QR nm ((TH g).map LH);rw[hp]at q;exact q e
  clear ES hp SP SQ FT HM HL I2
  by_cases hpc:pc=0
  ·subst hpc
   go_wp2_with (go_at_call 39;(with_reducible refine PR.out.mono ?_);rintro e w3 ⟨rfl,b3⟩;have B3:=zZ (B2.out.trans (b3.mono B2.out.size));clear b3 y0 y1)
   refine bodyPost_ret (v:=.tuple #[.string (zW tx),.nilIface]) (by simp[results,Tryz.results17,go_sem]) rfl ?_
   exact ⟨by rw[HS.out];rfl,B3.out⟩
  have n1:(pc !=0)=true:=by simp[hpc]
  have n2:(pc==0)=false:=by simp[hpc]
  go_wp2_with (go_at_call 39;(with_reducible refine PR.out.mono ?_);rintro e w3 ⟨rfl,b3⟩;have B3:=zZ (B2.out.trans (b3.mono B2.out.size));clear b3 y0 y1)
  refine bodyPost_ret (v:=.tuple #[qE,.iface 31 (.int .i64 pc)]) (by simp[results,Tryz.results17,go_sem]) rfl ?_
  exact ⟨by rw[HS.out,HX.out hpc];unfold AU;rw[if_neg hpc];rfl,B3.out⟩
 have ES:=zZ (SQ.out hc)
 have n1:(cd !=0)=true:=by simp[hc]
 have n2:(cd==0)=false:=by simp[hc]
 clear SP SQ FT
 go_wp2
 refine bodyPost_ret (v:=.tuple #[qE,.iface 31 (.int .i64 cd)]) (by simp[results,Tryz.results17,go_sem]) rfl ?_
 exact ⟨by rw[ES.out];unfold AU;rw[if_neg hc];rfl,B2.out⟩
theorem TM (l:List UInt8):(rC l).A.length<=32/\(rC l).E.length<=96/\(rC l).ins.length<=16/\(rC l).outs.length<=16:=by
 unfold rC
 split
 ·exact ⟨Nat.zero_le _,Nat.zero_le _,Nat.zero_le _,Nat.zero_le _⟩
 exact BN _ _
def TL:List UInt8:=[103,114,97,112,104,32,103,32,123,32,105,110,32,120,32,45,62,32,97,46,48,59,32,111,117,116,32,97,46,48,32,45,62,32,121,59,32,97,99,116,111,114,32,97,32,61,32,117,112,32,50,32,59,32,125]
def w9b:List UInt8:=[103,114,97,112,104,32,103,32,123,32,97,99,116,111,114,32,97,32,61,32,117,112,32,48,59,32,125]
def w9c:List UInt8:=[103,114,97,112,104,32,103,32,123,10,32,32,97,99,116,111,114,32,97,32,61,32,117,112,32,50,59,10,32,32,105,110,32,120,32,45,62,32,97,46,48,59,10,32,32,111,117,116,32,97,46,48,32,45,62,32,121,59,10,125,10]
theorem AR:jB TL=(0,0):=by kernel_rfl
theorem AQ:TN (rC TL)=(w9c,0):=by kernel_rfl
theorem IG:jB w9b=(61,10):=by kernel_rfl
theorem AP (w:World) (hE:sE w) (hTb:XO w.heap.size w) (hT:gP w):Calls Tryz.prog 13 #[] w fun e w'=>e=.returned (.bool true)/\Below w.heap.size w w':=by
 obtain ⟨l1,l2,l3,l4⟩:=TM TL
 have PA:Hid (Calls Tryz.prog 9 #[.string ⟨#[103,114,97,112,104,32,103,32,123,32,105,110,32,120,32,45,62,32,97,46,48,59,32,111,117,116,32,97,46,48,32,45,62,32,121,59,32,97,99,116,111,114,32,97,32,61,32,117,112,32,50,32,59,32,125]⟩] w (TP w (rC TL) 0 0)):=by
  have q:=mI TL w hE;rw[AR]at q;exact q
 have PR:Hid (∀ U,Below w.heap.size w U->∀a1 a2 a3 a4 c1 c2 c3 c4,UH U a1 a2 a3 a4 (rC TL)->Calls Tryz.prog 17 #[.agg #[.string (zW (rC TL).name),.slice a1 (rC TL).A.length c1,.slice a2 (rC TL).E.length c2,.slice a3 (rC TL).ins.length c3,.slice a4 (rC TL).outs.length c4]] U fun e w'=>e=.returned (.tuple #[.string ⟨#[103,114,97,112,104,32,103,32,123,10,32,32,97,99,116,111,114,32,97,32,61,32,117,112,32,50,59,10,32,32,105,110,32,120,32,45,62,32,97,46,48,59,10,32,32,111,117,116,32,97,46,48,32,45,62,32,121,59,10,125,10]⟩,.nilIface])/\Below U.heap.size U w'):=fun U hU a1 a2 a3 a4 c1 c2 c3 c4 hg=>by
  have q:=WT (rC TL) a1 a2 a3 a4 c1 c2 c3 c4 U hg (hTb.on5 hU);rw[AQ]at q;exact q
 have PB:Hid (∀ U,Below w.heap.size w U->Calls Tryz.prog 9 #[.string ⟨#[103,114,97,112,104,32,103,32,123,32,97,99,116,111,114,32,97,32,61,32,117,112,32,48,59,32,125]⟩] U (TP U (rC w9b) 61 10)):=fun U hU=>by
  have q:=mI w9b U (hE.below hU);rw[IG]at q;exact q
 have FA:Hid (∀ U,Below w.heap.size w U->Calls Tryz.prog 11 #[.iface 33 (.agg #[.int .i64 61,.int .i64 10])] U fun e w'=>e=.returned (.tuple #[.agg #[.int .i64 61,.int .i64 10],.bool true])/\Below U.heap.size U w'):=fun U hU=>eI 61 10 U (hT.below hU)
 have LL:=zZ (show (rC TL).A.length<=32/\(rC TL).E.length<=96/\(rC TL).ins.length<=16/\(rC TL).outs.length<=16 from ⟨l1,l2,l3,l4⟩);generalize rC TL=G at *;generalize rC w9b=G2 at *;unfold TP QT at PA PB;rw[if_pos rfl]at PA;simp only[show ¬(61:Int)=0 by decide,if_false]at PB;clear l1 l2 l3 l4 hE hTb hT
 go_enter Tryz.func13,Tryz.ntmps13
 go_upto_region 2 with (go_at_call 9;(with_reducible refine PA.out.mono ?_);rintro e u1 ⟨x1,x2,x3,x4,d1,d2,d3,d4,As,Es,rfl,hO,b1⟩;have O1:=zZ hO;have B1:=zZ b1;clear hO b1)
 have bv:=(Below.refl u1.heap.size u1).alloc (Nat.le_refl _) (.cells #[.string (zW G.name),.slice x1 G.A.length d1,.slice x2 G.E.length d2,.slice x3 G.ins.length d3,.slice x4 G.outs.length d4] 26);have X1:=zZ (zL 26 u1 #[.string (zW G.name),.slice x1 G.A.length d1,.slice x2 G.E.length d2,.slice x3 G.ins.length d3,.slice x4 G.outs.length d4]);have B2:=zZ (B1.out.trans (bv.mono B1.out.size));have GR:=zZ ((O1.out.later bv).gr LL.out.1 LL.out.2.1 LL.out.2.2.1 LL.out.2.2.2);clear bv O1 B1 PA LL;generalize u1.heap.size=gb at *;generalize u1.alloc (.cells #[.string (zW G.name),.slice x1 G.A.length d1,.slice x2 G.E.length d2,.slice x3 G.ins.length d3,.slice x4 G.outs.length d4] 26)=w2 at *;obtain ⟨y0,y1,y2,y3,y4⟩:=qC5 X1.out
 go_upto_region 3 with (go_at_call 17;(with_reducible refine (PR.out w2 B2.out _ _ _ _ _ _ _ _ GR.out).mono ?_);rintro e w3 ⟨rfl,b3⟩;have B3:=zZ (B2.out.trans (b3.mono B2.out.size));clear b3 y0 y1 y2 y3 y4)
 clear PR GR X1 B2
 go_upto_region 4 with (go_at_call 9;(with_reducible refine (PB.out w3 B3.out).mono ?_);rintro e u4 ⟨z1,z2,z3,z4,f1,f2,f3,f4,Bs,Fs,rfl,-,b4⟩;have B4:=zZ (B3.out.trans (b4.mono B3.out.size));clear b4)
 have bv:=(Below.refl u4.heap.size u4).alloc (Nat.le_refl _) (.cells #[.string (zW G2.name),.slice z1 G2.A.length f1,.slice z2 G2.E.length f2,.slice z3 G2.ins.length f3,.slice z4 G2.outs.length f4] 26);have B5:=zZ (B4.out.trans (bv.mono B4.out.size));clear bv B4 B3 PB;generalize u4.heap.size=hb at *;generalize u4.alloc (.cells #[.string (zW G2.name),.slice z1 G2.A.length f1,.slice z2 G2.E.length f2,.slice z3 G2.ins.length f3,.slice z4 G2.outs.length f4] 26)=w5 at *
 go_upto_region 5 with (go_at_call 11;(with_reducible refine (FA.out w5 B5.out).mono ?_);rintro e w6 ⟨rfl,b6⟩;have B6:=zZ (B5.out.trans (b6.mono B5.out.size));clear b6)
 have bv:=(Below.refl w6.heap.size w6).alloc (Nat.le_refl _) (.cells #[.int .i64 61,.int .i64 10] 33);have X7:=zZ (zL 33 w6 #[.int .i64 61,.int .i64 10]);have B7:=zZ (B6.out.trans (bv.mono B6.out.size));clear bv B6 B5 FA;generalize w6.heap.size=fb at *;generalize w6.alloc (.cells #[.int .i64 61,.int .i64 10] 33)=w7 at *;have y0:w7.cell? ⟨fb,0,none⟩=some (.int .i64 61):=X7.out.cell rfl;have y1:w7.cell? ⟨fb,1,none⟩=some (.int .i64 10):=X7.out.cell rfl
 go_wp2
 go_ret
 exact ⟨rfl,B7.out⟩
def QQ (l:List UInt8) (p:Int):Prop:=0<=p/\p<=(l.length:Int)
theorem tE (l:List UInt8):QQ l 0:=⟨Int.le_refl _,by omega⟩
theorem rB {l s:List UInt8} {p:Int} (h:rJ l s p):QQ l p:=by
 obtain ⟨q,rfl,h1,-⟩:=h;exact ⟨by omega,by omega⟩
def In3 (l:List UInt8) (x:wJ):Prop:=QQ l x.place/\QQ l x.frm.place/\QQ l x.tgt.place
theorem DM {l:List UInt8} {p:Int} {x:zF} (h:XK l p x):In3 l (OZ x):=by
 obtain ⟨k,n,t,ns,⟨f1,f2,f3⟩,⟨g1,g2,g3⟩,q⟩:=x;unfold XK at h;simp only at h;obtain ⟨-,h⟩:=h;show QQ l q/\QQ l f3/\QQ l g3
 rcases h with ⟨-,h1,h2,h3⟩|⟨-,h1,-,-,h2,h3⟩|⟨-,h1,h2,-,h3⟩|⟨-,h1,-,h2,h3⟩
 ·exact ⟨rB h1,by rw[h2];exact tE l,by rw[h3];exact tE l⟩
 ·exact ⟨rB h1,rB h2,rB h3⟩
 ·exact ⟨rB h1,by rw[h2];exact tE l,rB h3⟩
 exact ⟨rB h1,rB h2,by rw[h3];exact tE l⟩
theorem YI {l:List UInt8} :∀(xs:List zF) (p:Int),iB l p xs->∀x ∈ xs.map OZ,In3 l x
 |[],_,_,x,hx=>by cases hx
 |y::r,p,h,x,hx=>by
  rcases List.mem_cons.1 hx with rfl|hx
  ·exact DM h.1
  exact YI r _ h.2 x hx
theorem fJ {l:List UInt8} :∀(L:List wJ) (n:Nat) (f:FL),(∀ x ∈ L,In3 l x)->QQ l (tU L n f)
 |[],_,_,_=>tE l
 |x::r,n,f,h=>by
  have hx:=h x (List.mem_cons_self ..)
  have hr:∀y ∈ r,In3 l y:=fun y hy=>h y (List.mem_cons_of_mem _ hy)
  show QQ l (if x.kind=(f.kind:Int) then (if n=f.number then mM x f.stop else tU r (n+1) f) else tU r n f)
  split
  ·split
   ·unfold mM
    split
    ·exact hx.2.1
    split
    ·exact hx.2.2
    exact hx.1
   exact fJ r _ f hr
  exact fJ r _ f hr
theorem IE {l:List UInt8} (nm:List UInt8) (L:List wJ) (h:∀x ∈ L,In3 l x):QQ l (vS nm L).2.2:=by
 unfold vS
 split
 ·show QQ l (L.getD (pR L 0).toNat PJ).place
  rw[List.getD_eq_getElem?_getD]
  by_cases hk:(pR L 0).toNat<L.length
  ·rw [List.getElem?_eq_getElem hk]
   exact (h _ (List.getElem_mem hk)).1
  rw[List.getElem?_eq_none (by omega)];exact tE l
 split
 ·exact fJ L 0 _ h
 exact tE l
theorem OT (l:List UInt8):QQ l (yE l).place/\∀j,QQ l (zM (yE l).toks j).place:=by
 unfold yE
 split
 ·rename_i h
  exact ⟨⟨by decide,by show (1048576:Int)<=_;omega⟩,fun j=>tE l⟩
 constructor
 ·by_cases h0:(vH 0 l).err=0
  ·have h1:(yE l).place=0:=ZP (l:=l) (by unfold yE;rw[if_neg (by assumption)];exact h0)
   unfold yE at h1;rw[if_neg (by assumption)]at h1;rw[h1];exact tE l
  have q:=(fC l.length 0 l (Nat.le_refl _) h0).2;exact ⟨by omega,by omega⟩
 intro j
 by_cases hj:j<(vH 0 l).toks.length
 ·have q:=dG l.length 0 l (Nat.le_refl _) (zM (vH 0 l).toks j) (by unfold zM;rw[List.getD_eq_getElem?_getD,List.getElem?_eq_getElem hj];exact List.getElem_mem hj)
  exact ⟨by omega,by omega⟩
 have e:zM (vH 0 l).toks j=wM:=by unfold zM;rw[List.getD_eq_getElem?_getD,List.getElem?_eq_none (by omega)];rfl
 rw[e];exact tE l
theorem DL (l:List UInt8):QQ l (jB l).2:=by
 unfold jB
 split
 ·rename_i h
  unfold mS at h ⊢
  by_cases h0:(yE l).err≠0
  ·rw [if_pos h0]
   exact (OT l).1
  rw[if_neg h0]at h ⊢
  rcases hs:yB (yE l).toks with ⟨_|s,j⟩
  ·exact (OT l).2 j
  rw[hs]at h;exact absurd rfl h
 refine IE _ _ ?_
 unfold TQ mS
 by_cases h0:(yE l).err≠0
 ·rw [if_pos h0]
  intro x hx
  cases hx
 rw[if_neg h0]
 have h0':(yE l).err=0:=Classical.byContradiction fun x=>h0 x
 rcases hs:yB (yE l).toks with ⟨_|s,j⟩
 ·intro x hx
  cases hx
 obtain ⟨hl,hL⟩:=fT h0';exact YI _ _ (aR hL (pD h0') (kI _ _ hL (pD h0')) hs)
theorem LV {l:List UInt8} (h:(jB l).1=0):(jB l).2=0:=by
 unfold jB at h ⊢
 split
 ·rename_i h1
  rw[if_pos h1]at h;exact absurd h h1
 rename_i h1
 rw[if_neg h1]at h;rw[(mJ h).1]
theorem LT (cd pl:Int) (h:cd=0->pl=0) (w:World) (hT:gP w):Calls Tryz.prog 11 #[QT cd pl] w fun e w'=>e=.returned (.tuple #[.agg #[.int .i64 cd,.int .i64 pl],.bool true])/\Below w.heap.size w w':=by
 unfold QT
 by_cases h0:cd=0
 ·have h1:=h h0
  subst h0 h1;rw[if_pos rfl];exact QU w
 rw[if_neg h0]
 refine (eI cd pl w hT).mono fun e w' hh=>⟨?_,hh.2⟩
 rw[hh.1]
 have e0:(cd !=0)=true:=by simp[h0]
 rw[e0]
theorem ID {U:World} {G:GG} {B B2:Nat} {x1 x2 x3 x4 z1 z2 z3 z4:Option Addr} {d1 d2 d3 d4 f1 f2 f3 f4:Nat} {As Bs:List (GA × Value)} {Es Fs:List (GE × Value)} (h1:BO B U G x1 x2 x3 x4 d1 d2 d3 d4 As Es) (h2:BO B2 U G z1 z2 z3 z4 f1 f2 f3 f4 Bs Fs) (l:G.A.length<=32/\G.E.length<=96/\G.ins.length<=16/\G.outs.length<=16):
 Calls Tryz.prog 12 #[.agg #[.string (zW G.name),.slice x1 G.A.length d1,.slice x2 G.E.length d2,.slice x3 G.ins.length d3,.slice x4 G.outs.length d4],.agg #[.string (zW G.name),.slice z1 G.A.length f1,.slice z2 G.E.length f2,.slice z3 G.ins.length f3,.slice z4 G.outs.length f4]] U fun e w'=>e=.returned (.bool true)/\Below U.heap.size U w':=by
 have g:=h1.gr l.1 l.2.1 l.2.2.1 l.2.2.2;have g2:=h2.gr l.1 l.2.1 l.2.2.1 l.2.2.2;have q:=DQ g2;exact aF G x1 x2 x3 x4 z1 z2 z3 z4 d1 d2 d3 d4 f1 f2 f3 f4 U g.A.at g.E.at g.I g.O g2.A.at g2.E.at g2.I g2.O g.l1 g.l2 g.l3 g.l4 q.1 q.2
theorem fI (l:List UInt8) (w:World) (hE:sE w) (hTb:XO w.heap.size w) (hT:gP w):Calls Tryz.prog 7 #[.string (zW l)] w fun e w'=>e=.returned (.bool true)/\Below w.heap.size w w':=by
 obtain ⟨cd,pl,hcp⟩:∃cd pl,jB l=(cd,pl):=⟨_,_,rfl⟩;obtain ⟨c1,p1,hc1⟩:∃c1 p1,(mS l).2.2=(c1,p1):=⟨_,_,rfl⟩;obtain ⟨nm,hnm⟩:∃q,(mS l).1=q:=⟨_,rfl⟩;obtain ⟨K,hK⟩:∃q,TQ l=q:=⟨_,rfl⟩;obtain ⟨G,hG⟩:∃q,rC l=q:=⟨_,rfl⟩;have hin:=DL l
 have hz:cd=0->pl=0:=fun e=>by
  have q:=LV (l:=l) (by rw[hcp];exact e);rw[hcp]at q;exact q
 rw[hcp]at hin;have hlo:0<=pl:=hin.1;have hhi:pl<=(l.length:Int):=hin.2
 have SP:Hid (Calls Tryz.prog 9 #[.string (zW l)] w (TP w G cd pl)):=by
  have q:=mI l w hE;rw[hcp,hG]at q;exact q
 have SKP:Hid (∀ U,Below w.heap.size w U->Calls Tryz.prog 22 #[.string (zW l)] U (SkE U nm K c1 p1)):=fun U hU=>(ZK l U (hE.below hU)).mono fun e w' hh=>by
  have q:=II hh;rw[hnm,hK,hc1]at q;exact q
 have FA:Hid (∀ U,Below w.heap.size w U->Calls Tryz.prog 11 #[QT cd pl] U fun e w'=>e=.returned (.tuple #[.agg #[.int .i64 cd,.int .i64 pl],.bool true])/\Below U.heap.size U w'):=fun U hU=>LT cd pl hz U (hT.below hU)
 have AW:Hid (∀ U,Below w.heap.size w U->Calls Tryz.prog 13 #[] U fun e w'=>e=.returned (.bool true)/\Below U.heap.size U w'):=fun U hU=>AP U (hE.below hU) (hTb.on5 hU) (hT.below hU)
 have LL:=zZ (TM l)
 have CA:Hid (c1≠0->cd=c1/\pl=p1):=fun e=>by
  unfold jB at hcp;rw[hc1,if_pos e]at hcp
  cases hcp
  exact ⟨rfl,rfl⟩
 have CB:Hid (c1=0->(vS nm K).2=(cd,pl)/\bG nm K=G):=fun e=>by
  unfold jB at hcp;unfold rC at hG;rw[hc1,if_neg (fun x=>x e),hnm,hK]at hcp hG;exact ⟨hcp,hG⟩
 rw[hG]at LL;obtain ⟨ev,hev⟩:∃q,QT cd pl=q:=⟨_,rfl⟩;unfold TP at SP;rw[hev]at SP FA;unfold SkE at SKP;clear hcp hc1 hnm hK hG hin hz hev hE hTb hT
 go_enter Tryz.func7,Tryz.ntmps7
 go_upto_region 2 with (go_at_call 9;(with_reducible refine SP.out.mono ?_);rintro e u1 ⟨x1,x2,x3,x4,d1,d2,d3,d4,As,Es,rfl,hO,b1⟩;have O1:=zZ hO;have B1:=zZ b1;clear hO b1)
 have bv:=(Below.refl u1.heap.size u1).alloc (Nat.le_refl _) (.cells #[.string (zW G.name),.slice x1 G.A.length d1,.slice x2 G.E.length d2,.slice x3 G.ins.length d3,.slice x4 G.outs.length d4] 26);have X1:=zZ (zL 26 u1 #[.string (zW G.name),.slice x1 G.A.length d1,.slice x2 G.E.length d2,.slice x3 G.ins.length d3,.slice x4 G.outs.length d4]);have B2:=zZ (B1.out.trans (bv.mono B1.out.size));have O2:=zZ (O1.out.later bv);clear bv O1 B1 SP;generalize u1.heap.size=gb at *;generalize u1.alloc (.cells #[.string (zW G.name),.slice x1 G.A.length d1,.slice x2 G.E.length d2,.slice x3 G.ins.length d3,.slice x4 G.outs.length d4] 26)=w2 at *
 go_upto_region 3 with (go_at_call 22;(with_reducible refine (SKP.out w2 B2.out).mono ?_);rintro e u3 ⟨a,n,c,M,rfl,hM,b3⟩;have HM:=zZ hM;have D3:=zZ b3;clear hM b3)
 have e1:=(Below.refl u3.heap.size u3).alloc (Nat.le_refl _) (.cells #[.string (zW nm),.slice a n c] 52);have e2:=(Below.refl _ _).alloc (Nat.le_refl _) (.cells #[.int .i64 c1,.int .i64 p1] 33) (w:=u3.alloc (.cells #[.string (zW nm),.slice a n c] 52));have bv:=e1.trans (e2.mono e1.size);have S4:=zZ ((zL 52 u3 #[.string (zW nm),.slice a n c]).below e2)
 have F4:Hid (zD 33 (u3.heap.size+1) ((u3.alloc (.cells #[.string (zW nm),.slice a n c] 52)).alloc (.cells #[.int .i64 c1,.int .i64 p1] 33)) #[.int .i64 c1,.int .i64 p1]):=by
  have r:=zL 33 (u3.alloc (.cells #[.string (zW nm),.slice a n c] 52)) #[.int .i64 c1,.int .i64 p1];rw[World.size_alloc]at r;exact r
 have bt:=D3.out.trans (bv.mono D3.out.size);have B4:=zZ (B2.out.trans (bt.mono B2.out.size));have O4:=zZ (O2.out.later bt);have X4:=zZ (X1.out.below bt)
 have M4:Hid (c1=0->p1=0/\M.map Prod.fst=K/\M.length=n/\n<=2000000/\YQ ((u3.alloc (.cells #[.string (zW nm),.slice a n c] 52)).alloc (.cells #[.int .i64 c1,.int .i64 p1] 33)) a M/\LR ((u3.alloc (.cells #[.string (zW nm),.slice a n c] 52)).alloc (.cells #[.int .i64 c1,.int .i64 p1] 33)) M):=fun e=>by
  obtain ⟨h0,h1,h2,h3,h4,h5⟩:=HM.out e;exact ⟨h0,h1,h2,h3,h4.below bv,h5.below bv⟩
 clear e1 e2 bv bt B2 O2 X1 HM D3 SKP;generalize u3.heap.size=sb at *;generalize (u3.alloc (.cells #[.string (zW nm),.slice a n c] 52)).alloc (.cells #[.int .i64 c1,.int .i64 p1] 33)=w4 at *
 go_upto_region 4 with (go_at_call 11;(with_reducible refine (FA.out w4 B4.out).mono ?_);rintro e w5 ⟨rfl,b5⟩;have D5:=zZ b5;clear b5)
 have bv:=(Below.refl w5.heap.size w5).alloc (Nat.le_refl _) (.cells #[.int .i64 cd,.int .i64 pl] 33);have X6:=zZ (zL 33 w5 #[.int .i64 cd,.int .i64 pl]);have bt:=D5.out.trans (bv.mono D5.out.size);have B6:=zZ (B4.out.trans (bt.mono B4.out.size));have O6:=zZ (O4.out.later bt);have G6:=zZ (X4.out.below bt);have S6:=zZ (S4.out.below bt);have F6:=zZ (F4.out.below bt)
 have M6:Hid (c1=0->p1=0/\M.map Prod.fst=K/\M.length=n/\n<=2000000/\YQ (w5.alloc (.cells #[.int .i64 cd,.int .i64 pl] 33)) a M/\LR (w5.alloc (.cells #[.int .i64 cd,.int .i64 pl] 33)) M):=fun e=>by
  obtain ⟨h0,h1,h2,h3,h4,h5⟩:=M4.out e;exact ⟨h0,h1,h2,h3,h4.below bt,h5.below bt⟩
 clear bv bt B4 O4 X4 S4 F4 M4 D5 FA;generalize w5.heap.size=xb at *;generalize w5.alloc (.cells #[.int .i64 cd,.int .i64 pl] 33)=w6 at *
 have n1:¬pl<0:=by omega
 have n2:¬(l.length:Int)<pl:=by omega
 have i0:w6.cell? ⟨xb,0,none⟩=some (.int .i64 cd):=X6.out.cell rfl;have i1:w6.cell? ⟨xb,1,none⟩=some (.int .i64 pl):=X6.out.cell rfl
 go_upto_region 6 with fail
 have j0:w6.cell? ⟨sb+1,0,none⟩=some (.int .i64 c1):=F6.out.cell rfl;have j1:w6.cell? ⟨sb+1,1,none⟩=some (.int .i64 p1):=F6.out.cell rfl
 by_cases hc:c1=0
 ·obtain ⟨hp0,hM1,hM2,hM3,hM4,hM5⟩:=M6.out hc
  obtain ⟨hB,hG⟩:=CB.out hc;subst hc hp0
  have BD:Hid (Calls Tryz.prog 23 #[.agg #[.string (zW nm),.slice a n c]] w6 (IL w6 G cd pl)):=by
   rw[<- hG];exact PC nm a n c M w6 hM2 hM4 hM5 hM3 hM1 hB
  unfold IL at BD;clear hB hG hM1 hM2 hM3 hM4 hM5 M6 CA CB
  go_upto_region 8 with fail
  clear i0 i1 j0 j1;have y0:w6.cell? ⟨sb,0,none⟩=some (.string (zW nm)):=S6.out.cell rfl;have y1:w6.cell? ⟨sb,1,none⟩=some (.slice a n c):=S6.out.cell rfl
  go_upto_region 9 with (go_at_call 23;(with_reducible refine BD.out.mono ?_);rintro e u7 ⟨z1,z2,z3,z4,f1,f2,f3,f4,Bs,Fs,rfl,hO,b7⟩;have O7:=zZ hO;have D7:=zZ b7;clear hO b7 y0 y1)
  have e1:=(Below.refl u7.heap.size u7).alloc (Nat.le_refl _) (.cells #[.string (zW G.name),.slice z1 G.A.length f1,.slice z2 G.E.length f2,.slice z3 G.ins.length f3,.slice z4 G.outs.length f4] 26);have e2:=(Below.refl _ _).alloc (Nat.le_refl _) (.cells #[.int .i64 cd,.int .i64 pl] 33) (w:=u7.alloc (.cells #[.string (zW G.name),.slice z1 G.A.length f1,.slice z2 G.E.length f2,.slice z3 G.ins.length f3,.slice z4 G.outs.length f4] 26));have bv:=e1.trans (e2.mono e1.size);have H8:=zZ ((zL 26 u7 #[.string (zW G.name),.slice z1 G.A.length f1,.slice z2 G.E.length f2,.slice z3 G.ins.length f3,.slice z4 G.outs.length f4]).below e2)
  have E8:Hid (zD 33 (u7.heap.size+1) ((u7.alloc (.cells #[.string (zW G.name),.slice z1 G.A.length f1,.slice z2 G.E.length f2,.slice z3 G.ins.length f3,.slice z4 G.outs.length f4] 26)).alloc (.cells #[.int .i64 cd,.int .i64 pl] 33)) #[.int .i64 cd,.int .i64 pl]):=by
   have r:=zL 33 (u7.alloc (.cells #[.string (zW G.name),.slice z1 G.A.length f1,.slice z2 G.E.length f2,.slice z3 G.ins.length f3,.slice z4 G.outs.length f4] 26)) #[.int .i64 cd,.int .i64 pl];rw[World.size_alloc]at r;exact r
  have bt:=D7.out.trans (bv.mono D7.out.size);have B8:=zZ (B6.out.trans (bt.mono B6.out.size));have X8:=zZ (X6.out.below bt);have G8:=zZ (G6.out.below bt);have O8:=zZ (O6.out.later bt);have P8:=zZ (O7.out.later bv);clear e1 e2 bv bt B6 X6 G6 S6 F6 O6 O7 D7 BD;generalize u7.heap.size=hb at *;generalize (u7.alloc (.cells #[.string (zW G.name),.slice z1 G.A.length f1,.slice z2 G.E.length f2,.slice z3 G.ins.length f3,.slice z4 G.outs.length f4] 26)).alloc (.cells #[.int .i64 cd,.int .i64 pl] 33)=w8 at *
  have SM:Hid (∀ U,Below w8.heap.size w8 U->Calls Tryz.prog 12 #[.agg #[.string (zW G.name),.slice x1 G.A.length d1,.slice x2 G.E.length d2,.slice x3 G.ins.length d3,.slice x4 G.outs.length d4],.agg #[.string (zW G.name),.slice z1 G.A.length f1,.slice z2 G.E.length f2,.slice z3 G.ins.length f3,.slice z4 G.outs.length f4]] U fun e w'=>e=.returned (.bool true)/\Below U.heap.size U w'):=fun U hU=>ID (O8.out.later hU) (P8.out.later hU) LL.out
  clear O8 P8 LL
  have nc1:(cd !=cd)=false:=by simp
  have nc2:(cd==cd)=true:=by simp
  have np1:(pl !=pl)=false:=by simp
  have np2:(pl==pl)=true:=by simp
  go_wp2_with (first
   |(go_at_call 13;(with_reducible refine (AW.out w8 B8.out).mono ?_);rintro e w9 ⟨rfl,b9⟩;have N9:=zZ b9;clear b9;have i0:w9.cell? ⟨xb,0,none⟩=some (.int .i64 cd):=(X8.out.below N9.out).cell rfl;have i1:w9.cell? ⟨xb,1,none⟩=some (.int .i64 pl):=(X8.out.below N9.out).cell rfl;have j0:w9.cell? ⟨hb+1,0,none⟩=some (.int .i64 cd):=(E8.out.below N9.out).cell rfl;have j1:w9.cell? ⟨hb+1,1,none⟩=some (.int .i64 pl):=(E8.out.below N9.out).cell rfl;obtain ⟨g0,g1,g2,g3,g4⟩:=qC5 (G8.out.below N9.out);obtain ⟨h0,h1,h2,h3,h4⟩:=qC5 (H8.out.below N9.out))
   |(go_at_call 12;(with_reducible refine (SM.out _ N9.out).mono ?_);rintro e w10 ⟨rfl,b10⟩;have N10:=zZ (N9.out.trans (b10.mono N9.out.size));clear b10;clear i0 i1 j0 j1 g0 g1 g2 g3 g4 h0 h1 h2 h3 h4))
  go_ret
  exact ⟨rfl,B8.out.trans (N10.out.mono B8.out.size)⟩
 obtain ⟨ha,hb⟩:=CA.out hc;subst ha hb
 have n3:(cd==0)=false:=by simp[hc]
 have n4:(cd !=0)=true:=by simp[hc]
 have nc2:(cd==cd)=true:=by simp
 have np2:(pl==pl)=true:=by simp
 clear M6 CA CB
 go_wp2_with (go_at_call 13;(with_reducible refine (AW.out w6 B6.out).mono ?_);rintro e w9 ⟨rfl,b9⟩;have N9:=zZ b9;clear b9 i0 i1 j0 j1;have i0:w9.cell? ⟨xb,0,none⟩=some (.int .i64 cd):=(X6.out.below N9.out).cell rfl;have i1:w9.cell? ⟨xb,1,none⟩=some (.int .i64 pl):=(X6.out.below N9.out).cell rfl;have j0:w9.cell? ⟨sb+1,0,none⟩=some (.int .i64 cd):=(F6.out.below N9.out).cell rfl;have j1:w9.cell? ⟨sb+1,1,none⟩=some (.int .i64 pl):=(F6.out.below N9.out).cell rfl)
 go_ret
 exact ⟨rfl,B6.out.trans (N9.out.mono B6.out.size)⟩
end Go.Proofs.YtdcjdnkdeamigaaGreatDoor
