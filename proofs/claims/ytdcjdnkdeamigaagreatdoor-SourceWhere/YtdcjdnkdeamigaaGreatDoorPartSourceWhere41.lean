/- Texts of one chain. -/
import Derived.Test.YtdcjdnkdeamigaaGreatDoorPartQ
import Derived.Test.YtdcjdnkdeamigaaGreatDoorPartSourceWhere40
import Derived.Test.YtdcjdnkdeamigaaGreatDoorPartSourceWhere39
import Derived.Test.YtdcjdnkdeamigaaGreatDoorPartSourceWhere28
import Derived.Test.YtdcjdnkdeamigaaGreatDoorPartSourceWhere23
import Derived.Test.YtdcjdnkdeamigaaGreatDoorPartSourceWhere37
set_option maxRecDepth 100000
set_option maxHeartbeats 32000000
namespace Go.Proofs.YtdcjdnkdeamigaaGreatDoor
open Go.ChangeShapes Go.WideShapes Go.ChangeAt Go.RowKit
def TR (l:List UInt8):List wJ:=(mT l).2.1.map PC
def jC (l:List UInt8):Int × Int:=if (mT l).2.2.1≠0 then (mT l).2.2 else (vS (mT l).1 (TR l)).2
def rD (l:List UInt8):GG:=if (mT l).2.2.1≠0 then IB else bG (mT l).1 (TR l)
def QU (cd pl:Int):Value:=if cd=0 then .nilIface else .iface 33 (.agg #[.int .i64 cd,.int .i64 pl])
def TQ (w:World) (G:GG) (cd pl:Int) (e:Ending) (w':World):Prop:=∃x1 x2 x3 x4 d1 d2 d3 d4 As Es,e=.returned (.tuple #[.agg #[.string (zW G.name),.slice x1 G.A.length d1,.slice x2 G.E.length d2,.slice x3 G.ins.length d3,.slice x4 G.outs.length d4],QU cd pl])/\BO w.heap.size w' G x1 x2 x3 x4 d1 d2 d3 d4 As Es/\Below w.heap.size w w'
theorem OX {w w':World} {cd pl:Int} (h:cd≠0) (hb:Below w.heap.size w w'):TQ w IB cd pl (.returned (.tuple #[.agg #[qE,qN,qN,qN,qN],.iface 33 (.agg #[.int .i64 cd,.int .i64 pl])])) w':=by
 refine ⟨none,none,none,none,0,0,0,0,[],[],?_,⟨TT,rfl,rfl,fun p hp=>by (cases hp),fun p hp=>by (cases hp)⟩,hb⟩
 unfold QU;rw[if_neg h];rfl
def SkE (w:World) (nm:List UInt8) (K:List wJ) (cd pl:Int) (e:Ending) (w':World):Prop:=∃a n c M,e=.returned (.tuple #[.agg #[.string (zW nm),.slice a n c],.agg #[.int .i64 cd,.int .i64 pl]])/\(cd=0->pl=0/\M.map Prod.fst=K/\M.length=n/\n<=2000000/\YR w' a M/\LT w' M)/\Below w.heap.size w w'
theorem IJ {l:List UInt8} {w w':World} {e:Ending} (h:rM w l e w'):SkE w (mT l).1 (TR l) (mT l).2.2.1 (mT l).2.2.2 e w':=by
 obtain ⟨h,hb⟩:=h;unfold TR mT
 rcases h with ⟨h0,rfl⟩|⟨h0,j,hs,rfl⟩|⟨h0,s,j,a,c,L,hs,rfl,hL,hI⟩
 ·rw [if_pos h0]
  exact ⟨none,0,0,[],rfl,fun e=>absurd e h0,hb⟩
 ·rw [if_neg (fun x=>x h0),hs]
  exact ⟨none,0,0,[],rfl,fun e=>absurd (show (50:Int)=0 from e) (by decide),hb⟩
 rw[if_neg (fun x=>x h0),hs];obtain ⟨h1,h2,h3,h4⟩:=IK h0 hs hL hI;exact ⟨a,s.items.length,c,OZ L,rfl,fun _=>⟨rfl,by rw[BF,<-hL],h3,h4,h1,h2⟩,hb⟩
theorem mJ (l:List UInt8) (w:World) (hE:sF w):Calls Tryz.prog 9 #[.string (zW l)] w (TQ w (rD l) (jC l).1 (jC l).2):=by
 have ba:=(Below.refl w.heap.size w).alloc (Nat.le_refl _) (.cells #[qE,qN,qN,qN,qN] 26);have rb:=zL 26 w #[qE,qN,qN,qN,qN]
 have SP:Hid (Calls Tryz.prog 22 #[.string (zW l)] (w.alloc (.cells #[qE,qN,qN,qN,qN] 26)) (SkE (w.alloc (.cells #[qE,qN,qN,qN,qN] 26)) (mT l).1 (TR l) (mT l).2.2.1 (mT l).2.2.2)):=(ZL l _ (hE.below ba)).mono fun e w' hh=>IJ hh
 obtain ⟨RE,hRE⟩:∃R,TQ w (rD l) (jC l).1 (jC l).2=R:=⟨_,rfl⟩;rw[hRE];have HRE:=zZ hRE;unfold rD jC at HRE;obtain ⟨nm,hnm⟩:∃q,(mT l).1=q:=⟨_,rfl⟩;obtain ⟨K,hK⟩:∃q,TR l=q:=⟨_,rfl⟩;obtain ⟨cd,pl,hcp⟩:∃cd pl,(mT l).2.2=(cd,pl):=⟨_,_,rfl⟩;rw[hnm,hK,hcp]at SP HRE;unfold SkE at SP;simp only at SP HRE;have BA:=zZ ba;have RB:=zZ rb;clear ba rb hRE hnm hK hcp hE
 go_enter Tryz.func9,Tryz.ntmps9
 go_upto_region 1 with fail
 generalize w.alloc (.cells #[qE,qN,qN,qN,qN] 26)=W0 at *
 go_upto_region 2 with (go_at_call 22;(with_reducible refine SP.out.mono ?_);rintro e u1 ⟨a,n,c,M,rfl,hM,b1⟩;have HM:=zZ hM;have B1:=zZ (BA.out.trans (b1.mono BA.out.size));have R1:=zZ (RB.out.below b1);clear hM b1)
 clear SP BA RB;have c1:=(Below.refl u1.heap.size u1).alloc (Nat.le_refl _) (.cells #[.string (zW nm),.slice a n c] 52);have c2:=(Below.refl _ _).alloc (Nat.le_refl _) (.cells #[.int .i64 cd,.int .i64 pl] 33) (w:=u1.alloc (.cells #[.string (zW nm),.slice a n c] 52));have cc:=c1.trans (c2.mono c1.size);have X2:=zZ ((zL 52 u1 #[.string (zW nm),.slice a n c]).below c2)
 have F2:Hid (zD 33 (u1.heap.size+1) ((u1.alloc (.cells #[.string (zW nm),.slice a n c] 52)).alloc (.cells #[.int .i64 cd,.int .i64 pl] 33)) #[.int .i64 cd,.int .i64 pl]):=by
  have r:=zL 33 (u1.alloc (.cells #[.string (zW nm),.slice a n c] 52)) #[.int .i64 cd,.int .i64 pl];rw[World.size_alloc]at r;exact r
 have B2:=zZ (B1.out.trans (cc.mono B1.out.size));have R2:=zZ (R1.out.below cc)
 have M2:Hid (cd=0->pl=0/\M.map Prod.fst=K/\M.length=n/\n<=2000000/\YR ((u1.alloc (.cells #[.string (zW nm),.slice a n c] 52)).alloc (.cells #[.int .i64 cd,.int .i64 pl] 33)) a M/\LT ((u1.alloc (.cells #[.string (zW nm),.slice a n c] 52)).alloc (.cells #[.int .i64 cd,.int .i64 pl] 33)) M):=fun e=>by
  obtain ⟨h0,h1,h2,h3,h4,h5⟩:=HM.out e;exact ⟨h0,h1,h2,h3,h4.below cc,h5.below cc⟩
 have SZ:Hid (w.heap.size<u1.heap.size):=R1.out.lt;clear c1 c2 cc B1 R1 HM;obtain ⟨sb,hsb⟩:∃q,u1.heap.size=q:=⟨_,rfl⟩;rw[hsb]at X2 F2 SZ ⊢;clear hsb;obtain ⟨fb,hfb⟩:∃q,sb+1=q:=⟨_,rfl⟩;have HFB:=zZ hfb;rw[hfb]at F2 ⊢;clear hfb
 have HNE:Hid (fb≠w.heap.size):=by show ¬_;have:=SZ.out;have:=HFB.out;omega
 generalize (u1.alloc (.cells #[.string (zW nm),.slice a n c] 52)).alloc (.cells #[.int .i64 cd,.int .i64 pl] 33)=w2 at *;have y0:w2.cell? ⟨fb,0,none⟩=some (.int .i64 cd):=F2.out.cell rfl;have y1:w2.cell? ⟨fb,1,none⟩=some (.int .i64 pl):=F2.out.cell rfl
 have IF:Hid (∀ (c p:Int) U,Calls Tryz.prog 24 #[.agg #[.int .i64 c,.int .i64 p]] U fun e w'=>e=.returned (.bool (c !=0||p !=0))/\Below U.heap.size U w'):=fun c p U=>TS c p U
 have Y:(cd !=0||pl !=0)=(cd !=0)\/cd=0/\pl≠0:=by
  by_cases h1:cd=0
  ·by_cases h2:pl=0
   ·left;simp[h1,h2]
   right;exact ⟨h1,h2⟩
  left;simp[h1]
 by_cases hc0:cd=0
 ·obtain ⟨hp0,hM1,hM2,hM3,hM4,hM5⟩:=M2.out hc0
  subst hc0 hp0;clear Y;obtain ⟨c2,p2,hB⟩:∃c2 p2,(vS nm K).2=(c2,p2):=⟨_,_,rfl⟩
  have BD:Hid (∀ U,Below w2.heap.size w2 U->Calls Tryz.prog 23 #[.agg #[.string (zW nm),.slice a n c]] U (IM U (bG nm K) c2 p2)):=fun U hU=>PD nm a n c M U hM2 (hM4.below hU) (hM5.below hU) hM3 hM1 hB
  have HZ:Hid (c2=0->p2=0):=fun e=>by
   have z:=mK (nm:=nm) (K:=K) (by rw[hB];exact e);rw[z.1]at hB
   cases hB
   rfl
  have EG:Hid (c2≠0->bG nm K=IB):=fun e=>by
   unfold bG;rw[if_neg (by rw[hB];exact e)]
  have HB2:=zZ hB;obtain ⟨G,hG⟩:∃G,bG nm K=G:=⟨_,rfl⟩;rw[hG]at BD EG;have HG:=zZ hG;unfold IM at BD;clear hG hB hM1 hM2 hM3 hM4 hM5 M2
  have IZ:Hid (∀ U,Calls Tryz.prog 24 #[.agg #[.int .i64 0,.int .i64 0]] U fun e w'=>e=.returned (.bool false)/\Below U.heap.size U w'):=fun U=>IF.out 0 0 U
  go_upto_region 4 with (go_at_call 24;(with_reducible refine (IZ.out _).mono ?_);rintro e w3 ⟨rfl,b3⟩;have F3:=zZ (F2.out.below b3);have R3:=zZ (R2.out.below b3);have X3:=zZ (X2.out.below b3);have B3:=zZ (B2.out.trans (b3.mono B2.out.size));have D3:=zZ b3;clear b3 y0 y1)
  clear F2 R2 X2 B2;have y0:w3.cell? ⟨sb,0,none⟩=some (.string (zW nm)):=X3.out.cell rfl;have y1:w3.cell? ⟨sb,1,none⟩=some (.slice a n c):=X3.out.cell rfl
  go_upto_region 5 with (first
   |(go_at_call 23;(with_reducible refine (BD.out w3 D3.out).mono ?_);rintro e u4 ⟨x1,x2,x3,x4,d1,d2,d3,d4,As,Es,rfl,hO,b4⟩;have O4:=zZ hO;have D4:=zZ b4;have F4:Hid (zD 33 fb (u4.alloc (.cells #[.string (zW G.name),.slice x1 G.A.length d1,.slice x2 G.E.length d2,.slice x3 G.ins.length d3,.slice x4 G.outs.length d4] 26)) #[.int .i64 0,.int .i64 0]):=(F3.out.below b4).below ((Below.refl _ _).alloc (Nat.le_refl _) _);clear hO b4 y0 y1)
   |(refine xI _ rfl 33 (.tmp 5) (.tmp 21) rfl rfl fb 33 _ _ rfl rfl F4.out MG rfl rfl ?_;intro w5 hN hU;have N5:=zZ hN;have U5:=zZ hU;clear hN hU))
  have FL:Hid (fb<w3.heap.size):=F3.out.lt;have bv:=(Below.refl u4.heap.size u4).alloc (Nat.le_refl _) (.cells #[.string (zW G.name),.slice x1 G.A.length d1,.slice x2 G.E.length d2,.slice x3 G.ins.length d3,.slice x4 G.outs.length d4] 26);have bt:=D4.out.trans (bv.mono D4.out.size);have G5:Hid (zD 26 u4.heap.size w5 #[.string (zW G.name),.slice x1 G.A.length d1,.slice x2 G.E.length d2,.slice x3 G.ins.length d3,.slice x4 G.outs.length d4]):=(zL 26 u4 #[.string (zW G.name),.slice x1 G.A.length d1,.slice x2 G.E.length d2,.slice x3 G.ins.length d3,.slice x4 G.outs.length d4]).keep (U5.out.block _ (zL 26 u4 #[.string (zW G.name),.slice x1 G.A.length d1,.slice x2 G.E.length d2,.slice x3 G.ins.length d3,.slice x4 G.outs.length d4]).lt (by have:=FL.out;have:=D4.out.size;omega));have R5:Hid (zD 26 w.heap.size w5 #[qE,qN,qN,qN,qN]):=(R3.out.below bt).keep (U5.out.block _ (R3.out.below bt).lt HNE.out.symm)
  have O5:Hid (BO w3.heap.size w5 G x1 x2 x3 x4 d1 d2 d3 d4 As Es):=by
   have q:=O4.out.later bv;exact ⟨q.own.keep fun k hk hk2=>U5.out.block k hk2 (by have:=FL.out;omega),q.a,q.e,q.na,q.ne⟩
  have B5:Hid (Below w.heap.size w w5):=(B3.out.trans (bt.mono B3.out.size)).trans (U5.out.below (by have:=SZ.out;have:=HFB.out;omega) (Nat.le_trans B3.out.size bt.size));have Z5:Hid (w.heap.size<=w3.heap.size):=B3.out.size;have Z6:Hid (w.heap.size<w3.heap.size):=R3.out.lt;clear bv bt F3 R3 X3 B3 D3 BD O4 D4 F4 U5 FL;generalize u4.heap.size=gb at *;have y0:w5.cell? ⟨fb,0,none⟩=some (.int .i64 c2):=N5.out.cell rfl;have y1:w5.cell? ⟨fb,1,none⟩=some (.int .i64 p2):=N5.out.cell rfl
  by_cases hc2:c2=0
  ·have hp2:=HZ.out hc2
   subst hc2 hp2
   go_upto_region 7 with (go_at_call 24;(with_reducible refine (IZ.out _).mono ?_);rintro e w6 ⟨rfl,b6⟩;have R6:=zZ (R5.out.below b6);have G6:=zZ (G5.out.below b6);have O6:=zZ (O5.out.later b6);have B6:=zZ (B5.out.trans (b6.mono B5.out.size));clear b6 y0 y1)
   clear R5 G5 O5 B5 N5;obtain ⟨g0,g1,g2,g3,g4⟩:=qC5 G6.out
   go_wp2_with (refine xI _ rfl 26 (.tmp 2) (.tmp 27) rfl rfl w.heap.size 26 _ _ rfl rfl R6.out MH rfl rfl ?_;intro w8 hN hU;have N8:=zZ hN;have U8:=zZ hU;clear hN hU)
   obtain ⟨t0,t1,t2,t3,t4⟩:=qC5 N8.out;refine bodyPost_ret (v:=.tuple #[.agg #[.string (zW G.name),.slice x1 G.A.length d1,.slice x2 G.E.length d2,.slice x3 G.ins.length d3,.slice x4 G.outs.length d4],.nilIface]) (by simp[results,Tryz.results9,go_sem,t0,t1,t2,t3,t4]) rfl ?_
   rw[<- HRE.out,if_neg (fun x=>x rfl),if_neg (fun x=>x rfl),HB2.out,HG.out];have q:=O6.out;exact ⟨x1,x2,x3,x4,d1,d2,d3,d4,As,Es,rfl,⟨(q.own.keep fun k hk hk2=>U8.out.block k hk2 (by have:=Z5.out;have:=Z6.out;omega)).mono Z5.out,q.a,q.e,q.na,q.ne⟩,B6.out.trans (U8.out.below (Nat.le_refl _) B6.out.size)⟩
  have IT:Hid (∀ U,Calls Tryz.prog 24 #[.agg #[.int .i64 c2,.int .i64 p2]] U fun e w'=>e=.returned (.bool true)/\Below U.heap.size U w'):=fun U=>(IF.out c2 p2 U).mono fun e w' hh=>⟨by rw[hh.1];simp[hc2],hh.2⟩
  go_upto_region 6 with (go_at_call 24;(with_reducible refine (IT.out _).mono ?_);rintro e w6 ⟨rfl,b6⟩;have K5:=zZ (N5.out.below b6);have K6:=zZ (R5.out.below b6);have K7:=zZ (B5.out.trans (b6.mono B5.out.size));clear b6 y0 y1)
  clear R5 G5 O5 B5 N5 IT IZ IF;have HC2:=zZ hc2;clear hc2
  refine yP [3] (fun d i u z=>match i with
   |0=>z=.agg #[qE,qN,qN,qN,qN]
   |1=>z=.agg #[.int .i64 c2,.int .i64 p2]
   |2=>z=.iface 33 (.agg #[.int .i64 c2,.int .i64 p2])
   |3=>True
   |4=>z=.iface 33 (.agg #[.int .i64 c2,.int .i64 p2])
   |_=>True) (fun d u=>zD 33 fb u #[.int .i64 c2,.int .i64 p2]/\zD 26 w.heap.size u #[qE,qN,qN,qN,qN]/\Below w.heap.size w u) (by kernel_rfl) (by kernel_rfl) (by kernel_rfl) ?_ ?_ ?_ ?_ ?_ ?_ (by kernel_rfl)
  ·intro d i w v w' h hb
   match i,h with
   |0,h=>exact h
   |1,h=>exact h
   |2,h=>exact h
   |3,h=>exact h
   |4,h=>exact h
   |_+5,_=>trivial
  ·intro d u u' h hb
   exact ⟨h.1.below hb,h.2.1.below hb,h.2.2.trans (hb.mono h.2.2.size)⟩
  ·exact ⟨K5.out,K6.out,K7.out⟩
  ·intro d i o ρ w' hm ho hf hg hC hcs hfs hfr zX
   match i,hm,ho,hf,hg,hfr,zX with
   |0,_,ho,hf,hg,hfr,zX=>
    simp only[qS]at ho;subst ho;refine ⟨fun _=>?_,qF⟩
    simp[go_sem];exact qB
   |1,_,ho,hf,hg,hfr,zX=>
    simp only[qS]at ho;subst ho;refine ⟨fun _=>?_,qF⟩
    have ts: ρ (.tmp 5)=(qP fb):=(qR hfr 5);have k0:w'.cell? ⟨fb,0,none⟩=some (.int .i64 c2):=hC.1.cell rfl;have k1:w'.cell? ⟨fb,1,none⟩=some (.int .i64 p2):=hC.1.cell rfl;simp[go_sem,ts,k0,k1];exact qB
   |2,_,ho,hf,hg,hfr,zX=>
    simp only[qS]at ho;subst ho;refine ⟨fun _=>?_,qF⟩
    have ts: ρ (.tmp 25)=.agg #[.int .i64 c2,.int .i64 p2]:=(qH zX 1 25);simp[go_sem,ts];exact qB
   |3,hm,_,_,_,_,_=>exact qD hm
   |4,_,ho,hf,hg,hfr,zX=>
    simp only[qS]at ho;subst ho;refine ⟨fun _=>?_,qF⟩
    have ts: ρ (.tmp 26)=.iface 33 (.agg #[.int .i64 c2,.int .i64 p2]):=(qH zX 2 26);simp[go_sem,ts];exact qB
   |n+5,_,ho,_,_,_,_=>simp at ho
  ·intro d i o ρ w' hm ho h0 hf hg hC hcs hfs hfr zX
   match i,hm,ho,h0,hf,hg,hfr,zX with
   |0,hm,_,_,_,_,_,_=>exact qD hm
   |1,hm,_,_,_,_,_,_=>exact qD hm
   |2,hm,_,_,_,_,_,_=>exact qD hm
   |3,_,ho,h0,hf,hg,hfr,zX=>
    simp only[qS]at ho;subst ho;have t0: ρ (.tmp 24)=.agg #[qE,qN,qN,qN,qN]:=(qH zX 0 24);have ts: ρ (.tmp 2)=(qP w.heap.size):=(qR hfr 2);have b8:=hC.2.1;obtain ⟨z0,z1,z2,z3,z4⟩:=qC5 b8;have f0:=b8.frozen 0;have f1:=b8.frozen 1;have f2:=b8.frozen 2;have f3:=b8.frozen 3;have f4:=b8.frozen 4;have hB:zD 26 w.heap.size (((((w'.setCell ⟨w.heap.size,0,none⟩ (qE)).setCell ⟨w.heap.size,1,none⟩ (qN)).setCell ⟨w.heap.size,2,none⟩ (qN)).setCell ⟨w.heap.size,3,none⟩ (qN)).setCell ⟨w.heap.size,4,none⟩ (qN)) #[qE,qN,qN,qN,qN]:=(((((b8.set 0 (qE)).set 1 (qN)).set 2 (qN)).set 3 (qN)).set 4 (qN));have hbt:=((((tE.set w' w.heap.size 0 (qE)).trans (tE.set _ w.heap.size 1 (qN))).trans (tE.set _ w.heap.size 2 (qN))).trans (tE.set _ w.heap.size 3 (qN))).trans (tE.set _ w.heap.size 4 (qN));refine ⟨rfl,tQ (w':=(((((w'.setCell ⟨w.heap.size,0,none⟩ (qE)).setCell ⟨w.heap.size,1,none⟩ (qN)).setCell ⟨w.heap.size,2,none⟩ (qN)).setCell ⟨w.heap.size,3,none⟩ (qN)).setCell ⟨w.heap.size,4,none⟩ (qN))) (by simp[go_sem,ts,t0,z0,z1,z2,z3,z4,f0,f1,f2,f3,f4]) ?_⟩
    refine ⟨⟨hC.1.keep (hbt.block _ hC.1.lt HNE.out),hB,hC.2.2.trans (hbt.below (Nat.le_refl _) hC.2.2.size)⟩,fun h=>absurd rfl h,?_⟩
    intro j t hj hs
    match j,hs with
    |0,hs=>exact hs
    |1,hs=>exact hs
    |2,hs=>exact hs
    |3,_=>trivial
    |4,hs=>exact hs
    |_+5,_=>trivial
   |4,hm,_,_,_,_,_,_=>exact qD hm
   |n+5,_,ho,_,_,_,_,_=>simp at ho
  intro V w9 hC9 hS;have e4:V 4=.iface 33 (.agg #[.int .i64 c2,.int .i64 p2]):=hS 4 (by decide) (by intro h;cases h);simp only[xA,uH,e4];simp only[Act.put,qU];clear hS e4;have N8:Hid (zD 26 w.heap.size w9 #[qE,qN,qN,qN,qN]):=hC9.2.1;have B9:Hid (Below w.heap.size w w9):=hC9.2.2;clear hC9
  go_wp2
  obtain ⟨t0,t1,t2,t3,t4⟩:=qC5 N8.out;refine bodyPost_ret (v:=.tuple #[.agg #[qE,qN,qN,qN,qN],.iface 33 (.agg #[.int .i64 c2,.int .i64 p2])]) (by simp[results,Tryz.results9,go_sem,t0,t1,t2,t3,t4]) rfl ?_
  rw[<- HRE.out,if_neg (fun x=>x rfl),if_neg (fun x=>x rfl),HB2.out,HG.out,EG.out HC2.out];exact OX HC2.out B9.out
 have IT:Hid (∀ U,Calls Tryz.prog 24 #[.agg #[.int .i64 cd,.int .i64 pl]] U fun e w'=>e=.returned (.bool true)/\Below U.heap.size U w'):=fun U=>(IF.out cd pl U).mono fun e w' hh=>⟨by rw[hh.1];simp[hc0],hh.2⟩
 go_upto_region 3 with (go_at_call 24;(with_reducible refine (IT.out _).mono ?_);rintro e w3 ⟨rfl,b3⟩;have K5:=zZ (F2.out.below b3);have K6:=zZ (R2.out.below b3);have K7:=zZ (B2.out.trans (b3.mono B2.out.size));clear b3 y0 y1)
 clear F2 R2 X2 B2 M2 Y IT IF;have HC0:=zZ hc0;clear hc0
 refine yP [3] (fun d i u z=>match i with
  |0=>z=.agg #[qE,qN,qN,qN,qN]
  |1=>z=.agg #[.int .i64 cd,.int .i64 pl]
  |2=>z=.iface 33 (.agg #[.int .i64 cd,.int .i64 pl])
  |3=>True
  |4=>z=.iface 33 (.agg #[.int .i64 cd,.int .i64 pl])
  |_=>True) (fun d u=>zD 33 fb u #[.int .i64 cd,.int .i64 pl]/\zD 26 w.heap.size u #[qE,qN,qN,qN,qN]/\Below w.heap.size w u) (by kernel_rfl) (by kernel_rfl) (by kernel_rfl) ?_ ?_ ?_ ?_ ?_ ?_ (by kernel_rfl)
 ·intro d i w v w' h hb
  match i,h with
  |0,h=>exact h
  |1,h=>exact h
  |2,h=>exact h
  |3,h=>exact h
  |4,h=>exact h
  |_+5,_=>trivial
 ·intro d u u' h hb
  exact ⟨h.1.below hb,h.2.1.below hb,h.2.2.trans (hb.mono h.2.2.size)⟩
 ·exact ⟨K5.out,K6.out,K7.out⟩
 ·intro d i o ρ w' hm ho hf hg hC hcs hfs hfr zX
  match i,hm,ho,hf,hg,hfr,zX with
  |0,_,ho,hf,hg,hfr,zX=>
   simp only[qS]at ho;subst ho;refine ⟨fun _=>?_,qF⟩
   simp[go_sem];exact qB
  |1,_,ho,hf,hg,hfr,zX=>
   simp only[qS]at ho;subst ho;refine ⟨fun _=>?_,qF⟩
   have ts: ρ (.tmp 5)=(qP fb):=(qR hfr 5);have k0:w'.cell? ⟨fb,0,none⟩=some (.int .i64 cd):=hC.1.cell rfl;have k1:w'.cell? ⟨fb,1,none⟩=some (.int .i64 pl):=hC.1.cell rfl;simp[go_sem,ts,k0,k1];exact qB
  |2,_,ho,hf,hg,hfr,zX=>
   simp only[qS]at ho;subst ho;refine ⟨fun _=>?_,qF⟩
   have ts: ρ (.tmp 15)=.agg #[.int .i64 cd,.int .i64 pl]:=(qH zX 1 15);simp[go_sem,ts];exact qB
  |3,hm,_,_,_,_,_=>exact qD hm
  |4,_,ho,hf,hg,hfr,zX=>
   simp only[qS]at ho;subst ho;refine ⟨fun _=>?_,qF⟩
   have ts: ρ (.tmp 16)=.iface 33 (.agg #[.int .i64 cd,.int .i64 pl]):=(qH zX 2 16);simp[go_sem,ts];exact qB
  |n+5,_,ho,_,_,_,_=>simp at ho
 ·intro d i o ρ w' hm ho h0 hf hg hC hcs hfs hfr zX
  match i,hm,ho,h0,hf,hg,hfr,zX with
  |0,hm,_,_,_,_,_,_=>exact qD hm
  |1,hm,_,_,_,_,_,_=>exact qD hm
  |2,hm,_,_,_,_,_,_=>exact qD hm
  |3,_,ho,h0,hf,hg,hfr,zX=>
   simp only[qS]at ho;subst ho;have t0: ρ (.tmp 14)=.agg #[qE,qN,qN,qN,qN]:=(qH zX 0 14);have ts: ρ (.tmp 2)=(qP w.heap.size):=(qR hfr 2);have b8:=hC.2.1;obtain ⟨z0,z1,z2,z3,z4⟩:=qC5 b8;have f0:=b8.frozen 0;have f1:=b8.frozen 1;have f2:=b8.frozen 2;have f3:=b8.frozen 3;have f4:=b8.frozen 4;have hB:zD 26 w.heap.size (((((w'.setCell ⟨w.heap.size,0,none⟩ (qE)).setCell ⟨w.heap.size,1,none⟩ (qN)).setCell ⟨w.heap.size,2,none⟩ (qN)).setCell ⟨w.heap.size,3,none⟩ (qN)).setCell ⟨w.heap.size,4,none⟩ (qN)) #[qE,qN,qN,qN,qN]:=(((((b8.set 0 (qE)).set 1 (qN)).set 2 (qN)).set 3 (qN)).set 4 (qN));have hbt:=((((tE.set w' w.heap.size 0 (qE)).trans (tE.set _ w.heap.size 1 (qN))).trans (tE.set _ w.heap.size 2 (qN))).trans (tE.set _ w.heap.size 3 (qN))).trans (tE.set _ w.heap.size 4 (qN));refine ⟨rfl,tQ (w':=(((((w'.setCell ⟨w.heap.size,0,none⟩ (qE)).setCell ⟨w.heap.size,1,none⟩ (qN)).setCell ⟨w.heap.size,2,none⟩ (qN)).setCell ⟨w.heap.size,3,none⟩ (qN)).setCell ⟨w.heap.size,4,none⟩ (qN))) (by simp[go_sem,ts,t0,z0,z1,z2,z3,z4,f0,f1,f2,f3,f4]) ?_⟩
   refine ⟨⟨hC.1.keep (hbt.block _ hC.1.lt HNE.out),hB,hC.2.2.trans (hbt.below (Nat.le_refl _) hC.2.2.size)⟩,fun h=>absurd rfl h,?_⟩
   intro j t hj hs
   match j,hs with
   |0,hs=>exact hs
   |1,hs=>exact hs
   |2,hs=>exact hs
   |3,_=>trivial
   |4,hs=>exact hs
   |_+5,_=>trivial
  |4,hm,_,_,_,_,_,_=>exact qD hm
  |n+5,_,ho,_,_,_,_,_=>simp at ho
 intro V w9 hC9 hS;have e4:V 4=.iface 33 (.agg #[.int .i64 cd,.int .i64 pl]):=hS 4 (by decide) (by intro h;cases h);simp only[xA,uH,e4];simp only[Act.put,qU];clear hS e4;have N8:Hid (zD 26 w.heap.size w9 #[qE,qN,qN,qN,qN]):=hC9.2.1;have B9:Hid (Below w.heap.size w w9):=hC9.2.2;clear hC9
 go_wp2
 obtain ⟨t0,t1,t2,t3,t4⟩:=qC5 N8.out;refine bodyPost_ret (v:=.tuple #[.agg #[qE,qN,qN,qN,qN],.iface 33 (.agg #[.int .i64 cd,.int .i64 pl])]) (by simp[results,Tryz.results9,go_sem,t0,t1,t2,t3,t4]) rfl ?_
 rw[<- HRE.out,if_pos HC0.out,if_pos HC0.out];exact OX HC0.out B9.out
def bkP:EB->vZ
 |⟨n,p,q⟩=>⟨n,p,q⟩
def LI:wJ->zF
 |⟨k,n,t,ns,f,g,p⟩=>⟨k,n,t,ns,bkP f,bkP g,p⟩
def II (L:List (wJ × Value)):List (zF × Value):=L.map fun p=>(LI p.1,p.2)
theorem AZ (p:wJ × Value):tM (LI p.1,p.2)=lX p:=by
 obtain ⟨⟨k,n,t,ns,⟨f1,f2,f3⟩,⟨g1,g2,g3⟩,q⟩,v⟩:=p;rfl
theorem DO (x:wJ):(LI x).nums=x.nums:=by
 obtain ⟨k,n,t,ns,f,g,q⟩:=x;rfl
theorem AY (L:List (wJ × Value)):(II L).map Prod.fst=(L.map Prod.fst).map LI:=by
 unfold II;rw[List.map_map,List.map_map];rfl
theorem AX {base:Nat} {w:World} {v:Value} {L:List (wJ × Value)} (h:iZ base w v L):vY base w v (II L):=by
 refine ⟨?_,fun p hp=>?_,fun p hp=>?_,?_⟩
 ·have e:(II L).flatMap tM=L.flatMap lX:=by
   unfold II;rw[List.flatMap_map];exact congrArg (fun f=>L.flatMap f) (funext AZ)
  rw[e]
  have el:(II L).length=L.length:=by simp[II]
  rw[el];exact h.row
 ·obtain ⟨q,hq,rfl⟩:=List.mem_map.1 hp
  show yZ base w q.2 (LI q.1).nums;rw[DO];exact h.nums q hq
 ·obtain ⟨q,hq,rfl⟩:=List.mem_map.1 hp
  exact h.off q hq
 unfold II;rw[List.pairwise_map];exact h.pair
theorem QT (f:Nat->Nat):∀(n k:Nat),k<n->f k<=MN f n
 |0,_,h=>absurd h (Nat.not_lt_zero _)
 |n+1,k,h=>by
  show f k<=MN f n+f n
  by_cases e:k=n
  ·subst e;omega
  have:=QT f n k (by omega);omega
theorem OV {g:GG} (h:fQ g) {k:Nat} (hk:k<g.A.length):lF g k<=112:=by
 have h1:=QT (lF g) _ k hk;have h2:=JK h;have h3:=mP h.head;omega
theorem TP {g:GG} (h:fQ g) {k:Nat} (hk:k<g.A.length):rE g k<=112:=by
 have h1:=QT (rE g) _ k hk;have h2:=ML h;have h3:=mP h.head;omega
theorem gP {ns:List Int} (h:vE ns):(∀ n ∈ ns,tL n)/\ns.length<=17592186044416:=by
 refine ⟨fun n hn=>nV ?_,by have:=h.2;omega⟩
 obtain ⟨k,hk,rfl⟩:=List.getElem_of_mem hn;have q:=h.1 k;rw[wF,List.getD_eq_getElem?_getD,List.getElem?_eq_getElem hk]at q;exact q
theorem mI {p:Int} (h0:0<=p) {n:Nat} (h1:p<(n:Int)) (hn:n<=112):tL p:=nV (by omega)
theorem mH:tL 0:=nV (by decide)
theorem dO {k:Int} {n t:List UInt8} {ns:List Int} {f g:EB} {p:Int} (h1:tL f.port) (h2:tL g.port) (h3:vE ns):aT (LI ⟨k,n,t,ns,f,g,p⟩):=by
 obtain ⟨f1,f2,f3⟩:=f;obtain ⟨g1,g2,g3⟩:=g;exact ⟨h1,h2,(gP h3).1,(gP h3).2⟩
theorem LY {g:GG} (hS:fQ g) (hA:∀a ∈ g.A,vE a.params) (hE:∀e ∈ g.E,vE e.start):∀x ∈ eK g,aT (LI x):=by
 intro x hx;unfold eK at hx;simp only[List.mem_append,List.mem_map]at hx;have n0:vE []:=⟨inR0,by decide⟩
 rcases hx with ⟨a,ha,rfl⟩|⟨e,he,rfl⟩|⟨p,hp,rfl⟩|⟨p,hp,rfl⟩
 ·exact dO mH mH (hA a ha)
 ·obtain ⟨k,hk,rfl⟩:=CF he
  have h1:=(dS (hS.E k hk)).1;exact dO (mI h1.fp0 h1.fp1 (TP hS (by have:=h1.f0;have:=h1.f1;omega))) (mI h1.tp0 h1.tp1 (OV hS (by have:=h1.t0;have:=h1.t1;omega))) (hE _ he)
 ·obtain ⟨k,hk,rfl⟩:=memP hp
  obtain ⟨-,-,⟨h0,h1,h2,h3⟩,-⟩:=JL (hS.ins k hk);exact dO mH (mI h2 h3 (OV hS (by omega))) n0
 obtain ⟨k,hk,rfl⟩:=memP hp;obtain ⟨-,-,⟨h0,h1,h2,h3⟩,-⟩:=RJ (hS.outs k hk);exact dO (mI h2 h3 (TP hS (by omega))) mH n0
def TO (g:GG):List UInt8 × Int:=if (yD g).code≠0 then ([],(yD g).code) else lK g.name ((eK g).map LI)
def AV (cd:Int):Value:=if cd=0 then .nilIface else .iface 31 (.int .i64 cd)
theorem QS (nm:List UInt8) (xs:List zF):(lK nm xs).2≠0->(lK nm xs).1=[]:=by
 unfold lK
 split
 ·split
  ·intro _;rfl
  intro h;exact absurd rfl h
 intro _;rfl
theorem WU (g:GG) (a1 a2 a3 a4:Option Addr) (c1 c2 c3 c4:Nat) (w:World) (h:UI w a1 a2 a3 a4 g) (hT:XP w.heap.size w):
 Calls Tryz.prog 17 #[.agg #[.string (zW g.name),.slice a1 g.A.length c1,.slice a2 g.E.length c2,.slice a3 g.ins.length c3,.slice a4 g.outs.length c4]] w fun e w'=>e=.returned (.tuple #[.string (zW (TO g).1),AV (TO g).2])/\Below w.heap.size w w':=by
 have ba:=(Below.refl w.heap.size w).alloc (Nat.le_refl _) (.cells #[.string (zW g.name),.slice a1 g.A.length c1,.slice a2 g.E.length c2,.slice a3 g.ins.length c3,.slice a4 g.outs.length c4] 26);have xb:=zL 26 w #[.string (zW g.name),.slice a1 g.A.length c1,.slice a2 g.E.length c2,.slice a3 g.ins.length c3,.slice a4 g.outs.length c4];obtain ⟨cd,hcd⟩:∃q,(yD g).code=q:=⟨_,rfl⟩;obtain ⟨nm,hnm⟩:∃q,dNm g=q:=⟨_,rfl⟩;obtain ⟨n,hn⟩:∃q,(TI g).length=q:=⟨_,rfl⟩
 have hnl:n<=160:=by rw[<- hn];exact DQ g
 have DR:=zZ ((JG g a1 a2 a3 a4 c1 c2 c3 c4 _ (h.below ba)).mono fun _ _ hh=>TU hh hn hnm hcd)
 have FT:Hid (∀ x ∈ TI g,aT (LI x)):=by
  intro x hx;unfold TI at hx
  by_cases h0:(yD g).code=0
  ·rw [if_pos h0]at hx
   exact LY ((nM g).1 h0) (fun a ha=>(h.nums.1 a ha).2) (fun e he=>h.nums.2 e he) x hx
  rw[if_neg h0]at hx
  cases hx
 have SP:Hid (cd=0->TO g=lK nm ((TI g).map LI)):=fun e=>by
  have e0:(yD g).code=0:=hcd.trans e;unfold TO;rw[if_neg (fun x=>x e0),<-hnm];unfold dNm TI;rw[if_pos e0,if_pos e0]
 have SQ:Hid (cd≠0->TO g=([],cd)):=fun e=>by
  unfold TO;rw[hcd,if_pos e]
 have BA:=zZ ba;have HT:=zZ hT;have y0:=xb.cell (k:=0) rfl;have y1:=xb.cell (k:=1) rfl;have y2:=xb.cell (k:=2) rfl;have y3:=xb.cell (k:=3) rfl;have y4:=xb.cell (k:=4) rfl;simp only[List.getElem_toArray,List.getElem_cons_zero,List.getElem_cons_succ]at y0 y1 y2 y3 y4;clear ba xb h hT hcd hnm hn
 go_enter Tryz.func17,Tryz.ntmps17
 go_upto_region 1 with fail
 generalize w.alloc (.cells #[.string (zW g.name),.slice a1 g.A.length c1,.slice a2 g.E.length c2,.slice a3 g.ins.length c3,.slice a4 g.outs.length c4] 26)=W0 at *
 go_upto_region 2 with (go_at_call 38;(with_reducible refine DR.out.mono ?_);rintro e u1 ⟨a,c,M,rfl,hM,hl,hi,b1⟩;have HM:=zZ hM;have HL:=zZ hl;have HI:=zZ hi;have B1:=zZ (BA.out.trans (b1.mono BA.out.size));clear hM hl hi b1 y0 y1 y2 y3 y4)
 clear DR BA;have bv:=(Below.refl u1.heap.size u1).alloc (Nat.le_refl _) (.cells #[.string (zW nm),.slice a n c] 52);have X2:=zZ (zL 52 u1 #[.string (zW nm),.slice a n c]);have B2:=zZ (B1.out.trans (bv.mono B1.out.size));have I2:=zZ (HI.out.below bv);clear bv B1 HI;generalize u1.heap.size=sb at *;generalize u1.alloc (.cells #[.string (zW nm),.slice a n c] 52)=w2 at *;have y0:w2.cell? ⟨sb,0,none⟩=some (.string (zW nm)):=X2.out.cell rfl;have y1:w2.cell? ⟨sb,1,none⟩=some (.slice a n c):=X2.out.cell rfl
 by_cases hc:cd=0
 ·have ES:=SP.out hc
  subst hc;obtain ⟨tx,pc,hp⟩:∃tx pc,lK nm ((TI g).map LI)=(tx,pc):=⟨_,_,rfl⟩
  have PR:Hid (Calls Tryz.prog 39 #[.agg #[.string (zW nm),.slice a n c]] w2 fun e w'=>e=.returned (.tuple #[.string (zW tx),.int .i64 pc])/\Below w2.heap.size w2 w'):=by
   have el:(II M).length=n:=by rw[<- HL.out];simp[II]
   have q:=NG nm a n c (II M) w2 el (vY.at5 (c:=c) (by rw[el];exact AX I2.out)) (by omega) (fun p hp=>by
    obtain ⟨q,hq,rfl⟩:=List.mem_map.1 hp
    exact FT.out _ (by rw[<- HM.out];exact List.mem_map_of_mem hq)) (HT.out.on5 B2.out)
   rw[VE,AY,HM.out,hp]at q;exact q
  have HS:Hid (TO g=(tx,pc)):=ES.trans hp
  have HX:Hid (pc≠0->tx=[]):=fun e=>by
   have q:=QS nm ((TI g).map LI);rw[hp]at q;exact q e
  clear ES hp SP SQ FT HM HL I2
  by_cases hpc:pc=0
  ·subst hpc
   go_wp2_with (go_at_call 39;(with_reducible refine PR.out.mono ?_);rintro e w3 ⟨rfl,b3⟩;have B3:=zZ (B2.out.trans (b3.mono B2.out.size));clear b3 y0 y1)
   refine bodyPost_ret (v:=.tuple #[.string (zW tx),.nilIface]) (by simp[results,Tryz.results17,go_sem]) rfl ?_
   exact ⟨by rw[HS.out];rfl,B3.out⟩
  have n1:(pc !=0)=true:=by simp[hpc]
  have n2:(pc==0)=false:=by simp[hpc]
  go_wp2_with (go_at_call 39;(with_reducible refine PR.out.mono ?_);rintro e w3 ⟨rfl,b3⟩;have B3:=zZ (B2.out.trans (b3.mono B2.out.size));clear b3 y0 y1)
  refine bodyPost_ret (v:=.tuple #[qE,.iface 31 (.int .i64 pc)]) (by simp[results,Tryz.results17,go_sem]) rfl ?_
  exact ⟨by rw[HS.out,HX.out hpc];unfold AV;rw[if_neg hpc];rfl,B3.out⟩
 have ES:=zZ (SQ.out hc)
 have n1:(cd !=0)=true:=by simp[hc]
 have n2:(cd==0)=false:=by simp[hc]
 clear SP SQ FT
 go_wp2
 refine bodyPost_ret (v:=.tuple #[qE,.iface 31 (.int .i64 cd)]) (by simp[results,Tryz.results17,go_sem]) rfl ?_
 exact ⟨by rw[ES.out];unfold AV;rw[if_neg hc];rfl,B2.out⟩
theorem TN (l:List UInt8):(rD l).A.length<=32/\(rD l).E.length<=96/\(rD l).ins.length<=16/\(rD l).outs.length<=16:=by
 unfold rD
 split
 ·exact ⟨Nat.zero_le _,Nat.zero_le _,Nat.zero_le _,Nat.zero_le _⟩
 exact BP _ _
def TM:List UInt8:=[103,114,97,112,104,32,103,32,123,32,105,110,32,120,32,45,62,32,97,46,48,59,32,111,117,116,32,97,46,48,32,45,62,32,121,59,32,97,99,116,111,114,32,97,32,61,32,117,112,32,50,32,59,32,125]
def w9b:List UInt8:=[103,114,97,112,104,32,103,32,123,32,97,99,116,111,114,32,97,32,61,32,117,112,32,48,59,32,125]
def w9c:List UInt8:=[103,114,97,112,104,32,103,32,123,10,32,32,97,99,116,111,114,32,97,32,61,32,117,112,32,50,59,10,32,32,105,110,32,120,32,45,62,32,97,46,48,59,10,32,32,111,117,116,32,97,46,48,32,45,62,32,121,59,10,125,10]
theorem AU:jC TM=(0,0):=by kernel_rfl
theorem AR:TO (rD TM)=(w9c,0):=by kernel_rfl
theorem IH:jC w9b=(61,10):=by kernel_rfl
theorem AQ (w:World) (hE:sF w) (hTb:XP w.heap.size w) (hT:gQ w):Calls Tryz.prog 13 #[] w fun e w'=>e=.returned (.bool true)/\Below w.heap.size w w':=by
 obtain ⟨l1,l2,l3,l4⟩:=TN TM
 have PA:Hid (Calls Tryz.prog 9 #[.string ⟨#[103,114,97,112,104,32,103,32,123,32,105,110,32,120,32,45,62,32,97,46,48,59,32,111,117,116,32,97,46,48,32,45,62,32,121,59,32,97,99,116,111,114,32,97,32,61,32,117,112,32,50,32,59,32,125]⟩] w (TQ w (rD TM) 0 0)):=by
  have q:=mJ TM w hE;rw[AU]at q;exact q
 have PR:Hid (∀ U,Below w.heap.size w U->∀a1 a2 a3 a4 c1 c2 c3 c4,UI U a1 a2 a3 a4 (rD TM)->Calls Tryz.prog 17 #[.agg #[.string (zW (rD TM).name),.slice a1 (rD TM).A.length c1,.slice a2 (rD TM).E.length c2,.slice a3 (rD TM).ins.length c3,.slice a4 (rD TM).outs.length c4]] U fun e w'=>e=.returned (.tuple #[.string ⟨#[103,114,97,112,104,32,103,32,123,10,32,32,97,99,116,111,114,32,97,32,61,32,117,112,32,50,59,10,32,32,105,110,32,120,32,45,62,32,97,46,48,59,10,32,32,111,117,116,32,97,46,48,32,45,62,32,121,59,10,125,10]⟩,.nilIface])/\Below U.heap.size U w'):=fun U hU a1 a2 a3 a4 c1 c2 c3 c4 hg=>by
  have q:=WU (rD TM) a1 a2 a3 a4 c1 c2 c3 c4 U hg (hTb.on5 hU);rw[AR]at q;exact q
 have PB:Hid (∀ U,Below w.heap.size w U->Calls Tryz.prog 9 #[.string ⟨#[103,114,97,112,104,32,103,32,123,32,97,99,116,111,114,32,97,32,61,32,117,112,32,48,59,32,125]⟩] U (TQ U (rD w9b) 61 10)):=fun U hU=>by
  have q:=mJ w9b U (hE.below hU);rw[IH]at q;exact q
 have FA:Hid (∀ U,Below w.heap.size w U->Calls Tryz.prog 11 #[.iface 33 (.agg #[.int .i64 61,.int .i64 10])] U fun e w'=>e=.returned (.tuple #[.agg #[.int .i64 61,.int .i64 10],.bool true])/\Below U.heap.size U w'):=fun U hU=>eJ 61 10 U (hT.below hU)
 have LL:=zZ (show (rD TM).A.length<=32/\(rD TM).E.length<=96/\(rD TM).ins.length<=16/\(rD TM).outs.length<=16 from ⟨l1,l2,l3,l4⟩);generalize rD TM=G at *;generalize rD w9b=G2 at *;unfold TQ QU at PA PB;rw[if_pos rfl]at PA;simp only[show ¬(61:Int)=0 by decide,if_false]at PB;clear l1 l2 l3 l4 hE hTb hT
 go_enter Tryz.func13,Tryz.ntmps13
 go_upto_region 2 with (go_at_call 9;(with_reducible refine PA.out.mono ?_);rintro e u1 ⟨x1,x2,x3,x4,d1,d2,d3,d4,As,Es,rfl,hO,b1⟩;have O1:=zZ hO;have B1:=zZ b1;clear hO b1)
 have bv:=(Below.refl u1.heap.size u1).alloc (Nat.le_refl _) (.cells #[.string (zW G.name),.slice x1 G.A.length d1,.slice x2 G.E.length d2,.slice x3 G.ins.length d3,.slice x4 G.outs.length d4] 26);have X1:=zZ (zL 26 u1 #[.string (zW G.name),.slice x1 G.A.length d1,.slice x2 G.E.length d2,.slice x3 G.ins.length d3,.slice x4 G.outs.length d4]);have B2:=zZ (B1.out.trans (bv.mono B1.out.size));have GR:=zZ ((O1.out.later bv).gr LL.out.1 LL.out.2.1 LL.out.2.2.1 LL.out.2.2.2);clear bv O1 B1 PA LL;generalize u1.heap.size=gb at *;generalize u1.alloc (.cells #[.string (zW G.name),.slice x1 G.A.length d1,.slice x2 G.E.length d2,.slice x3 G.ins.length d3,.slice x4 G.outs.length d4] 26)=w2 at *;obtain ⟨y0,y1,y2,y3,y4⟩:=qC5 X1.out
 go_upto_region 3 with (go_at_call 17;(with_reducible refine (PR.out w2 B2.out _ _ _ _ _ _ _ _ GR.out).mono ?_);rintro e w3 ⟨rfl,b3⟩;have B3:=zZ (B2.out.trans (b3.mono B2.out.size));clear b3 y0 y1 y2 y3 y4)
 clear PR GR X1 B2
 go_upto_region 4 with (go_at_call 9;(with_reducible refine (PB.out w3 B3.out).mono ?_);rintro e u4 ⟨z1,z2,z3,z4,f1,f2,f3,f4,Bs,Fs,rfl,-,b4⟩;have B4:=zZ (B3.out.trans (b4.mono B3.out.size));clear b4)
 have bv:=(Below.refl u4.heap.size u4).alloc (Nat.le_refl _) (.cells #[.string (zW G2.name),.slice z1 G2.A.length f1,.slice z2 G2.E.length f2,.slice z3 G2.ins.length f3,.slice z4 G2.outs.length f4] 26);have B5:=zZ (B4.out.trans (bv.mono B4.out.size));clear bv B4 B3 PB;generalize u4.heap.size=hb at *;generalize u4.alloc (.cells #[.string (zW G2.name),.slice z1 G2.A.length f1,.slice z2 G2.E.length f2,.slice z3 G2.ins.length f3,.slice z4 G2.outs.length f4] 26)=w5 at *
 go_upto_region 5 with (go_at_call 11;(with_reducible refine (FA.out w5 B5.out).mono ?_);rintro e w6 ⟨rfl,b6⟩;have B6:=zZ (B5.out.trans (b6.mono B5.out.size));clear b6)
 have bv:=(Below.refl w6.heap.size w6).alloc (Nat.le_refl _) (.cells #[.int .i64 61,.int .i64 10] 33);have X7:=zZ (zL 33 w6 #[.int .i64 61,.int .i64 10]);have B7:=zZ (B6.out.trans (bv.mono B6.out.size));clear bv B6 B5 FA;generalize w6.heap.size=fb at *;generalize w6.alloc (.cells #[.int .i64 61,.int .i64 10] 33)=w7 at *;have y0:w7.cell? ⟨fb,0,none⟩=some (.int .i64 61):=X7.out.cell rfl;have y1:w7.cell? ⟨fb,1,none⟩=some (.int .i64 10):=X7.out.cell rfl
 go_wp2
 go_ret
 exact ⟨rfl,B7.out⟩
def QR (l:List UInt8) (p:Int):Prop:=0<=p/\p<=(l.length:Int)
theorem tG (l:List UInt8):QR l 0:=⟨Int.le_refl _,by omega⟩
theorem rC {l s:List UInt8} {p:Int} (h:rK l s p):QR l p:=by
 obtain ⟨q,rfl,h1,-⟩:=h;exact ⟨by omega,by omega⟩
def In3 (l:List UInt8) (x:wJ):Prop:=QR l x.place/\QR l x.frm.place/\QR l x.tgt.place
theorem DN {l:List UInt8} {p:Int} {x:zF} (h:XL l p x):In3 l (PC x):=by
 obtain ⟨k,n,t,ns,⟨f1,f2,f3⟩,⟨g1,g2,g3⟩,q⟩:=x;unfold XL at h;simp only at h;obtain ⟨-,h⟩:=h;show QR l q/\QR l f3/\QR l g3
 rcases h with ⟨-,h1,h2,h3⟩|⟨-,h1,-,-,h2,h3⟩|⟨-,h1,h2,-,h3⟩|⟨-,h1,-,h2,h3⟩
 ·exact ⟨rC h1,by rw[h2];exact tG l,by rw[h3];exact tG l⟩
 ·exact ⟨rC h1,rC h2,rC h3⟩
 ·exact ⟨rC h1,by rw[h2];exact tG l,rC h3⟩
 exact ⟨rC h1,rC h2,by rw[h3];exact tG l⟩
theorem YJ {l:List UInt8} :∀(xs:List zF) (p:Int),iC l p xs->∀x ∈ xs.map PC,In3 l x
 |[],_,_,x,hx=>by cases hx
 |y::r,p,h,x,hx=>by
  rcases List.mem_cons.1 hx with rfl|hx
  ·exact DN h.1
  exact YJ r _ h.2 x hx
theorem fK {l:List UInt8} :∀(L:List wJ) (n:Nat) (f:FL),(∀ x ∈ L,In3 l x)->QR l (tU L n f)
 |[],_,_,_=>tG l
 |x::r,n,f,h=>by
  have hx:=h x (List.mem_cons_self ..)
  have hr:∀y ∈ r,In3 l y:=fun y hy=>h y (List.mem_cons_of_mem _ hy)
  show QR l (if x.kind=(f.kind:Int) then (if n=f.number then mN x f.stop else tU r (n+1) f) else tU r n f)
  split
  ·split
   ·unfold mN
    split
    ·exact hx.2.1
    split
    ·exact hx.2.2
    exact hx.1
   exact fK r _ f hr
  exact fK r _ f hr
theorem IG {l:List UInt8} (nm:List UInt8) (L:List wJ) (h:∀x ∈ L,In3 l x):QR l (vS nm L).2.2:=by
 unfold vS
 split
 ·show QR l (L.getD (pS L 0).toNat PK).place
  rw[List.getD_eq_getElem?_getD]
  by_cases hk:(pS L 0).toNat<L.length
  ·rw [List.getElem?_eq_getElem hk]
   exact (h _ (List.getElem_mem hk)).1
  rw[List.getElem?_eq_none (by omega)];exact tG l
 split
 ·exact fK L 0 _ h
 exact tG l
theorem OU (l:List UInt8):QR l (yE l).place/\∀j,QR l (zM (yE l).toks j).place:=by
 unfold yE
 split
 ·rename_i h
  exact ⟨⟨by decide,by show (1048576:Int)<=_;omega⟩,fun j=>tG l⟩
 constructor
 ·by_cases h0:(vH 0 l).err=0
  ·have h1:(yE l).place=0:=ZQ (l:=l) (by unfold yE;rw[if_neg (by assumption)];exact h0)
   unfold yE at h1;rw[if_neg (by assumption)]at h1;rw[h1];exact tG l
  have q:=(fD l.length 0 l (Nat.le_refl _) h0).2;exact ⟨by omega,by omega⟩
 intro j
 by_cases hj:j<(vH 0 l).toks.length
 ·have q:=dH l.length 0 l (Nat.le_refl _) (zM (vH 0 l).toks j) (by unfold zM;rw[List.getD_eq_getElem?_getD,List.getElem?_eq_getElem hj];exact List.getElem_mem hj)
  exact ⟨by omega,by omega⟩
 have e:zM (vH 0 l).toks j=wM:=by unfold zM;rw[List.getD_eq_getElem?_getD,List.getElem?_eq_none (by omega)];rfl
 rw[e];exact tG l
theorem DM (l:List UInt8):QR l (jC l).2:=by
 unfold jC
 split
 ·rename_i h
  unfold mT at h ⊢
  by_cases h0:(yE l).err≠0
  ·rw [if_pos h0]
   exact (OU l).1
  rw[if_neg h0]at h ⊢
  rcases hs:yB (yE l).toks with ⟨_|s,j⟩
  ·exact (OU l).2 j
  rw[hs]at h;exact absurd rfl h
 refine IG _ _ ?_
 unfold TR mT
 by_cases h0:(yE l).err≠0
 ·rw [if_pos h0]
  intro x hx
  cases hx
 rw[if_neg h0]
 have h0':(yE l).err=0:=Classical.byContradiction fun x=>h0 x
 rcases hs:yB (yE l).toks with ⟨_|s,j⟩
 ·intro x hx
  cases hx
 obtain ⟨hl,hL⟩:=fU h0';exact YJ _ _ (aS hL (pE h0') (kJ _ _ hL (pE h0')) hs)
theorem LW {l:List UInt8} (h:(jC l).1=0):(jC l).2=0:=by
 unfold jC at h ⊢
 split
 ·rename_i h1
  rw[if_pos h1]at h;exact absurd h h1
 rename_i h1
 rw[if_neg h1]at h;rw[(mK h).1]
theorem LV (cd pl:Int) (h:cd=0->pl=0) (w:World) (hT:gQ w):Calls Tryz.prog 11 #[QU cd pl] w fun e w'=>e=.returned (.tuple #[.agg #[.int .i64 cd,.int .i64 pl],.bool true])/\Below w.heap.size w w':=by
 unfold QU
 by_cases h0:cd=0
 ·have h1:=h h0
  subst h0 h1;rw[if_pos rfl];exact QV w
 rw[if_neg h0]
 refine (eJ cd pl w hT).mono fun e w' hh=>⟨?_,hh.2⟩
 rw[hh.1]
 have e0:(cd !=0)=true:=by simp[h0]
 rw[e0]
theorem IE {U:World} {G:GG} {B B2:Nat} {x1 x2 x3 x4 z1 z2 z3 z4:Option Addr} {d1 d2 d3 d4 f1 f2 f3 f4:Nat} {As Bs:List (GA × Value)} {Es Fs:List (GE × Value)} (h1:BO B U G x1 x2 x3 x4 d1 d2 d3 d4 As Es) (h2:BO B2 U G z1 z2 z3 z4 f1 f2 f3 f4 Bs Fs) (l:G.A.length<=32/\G.E.length<=96/\G.ins.length<=16/\G.outs.length<=16):
 Calls Tryz.prog 12 #[.agg #[.string (zW G.name),.slice x1 G.A.length d1,.slice x2 G.E.length d2,.slice x3 G.ins.length d3,.slice x4 G.outs.length d4],.agg #[.string (zW G.name),.slice z1 G.A.length f1,.slice z2 G.E.length f2,.slice z3 G.ins.length f3,.slice z4 G.outs.length f4]] U fun e w'=>e=.returned (.bool true)/\Below U.heap.size U w':=by
 have g:=h1.gr l.1 l.2.1 l.2.2.1 l.2.2.2;have g2:=h2.gr l.1 l.2.1 l.2.2.1 l.2.2.2;have q:=DS g2;exact aG G x1 x2 x3 x4 z1 z2 z3 z4 d1 d2 d3 d4 f1 f2 f3 f4 U g.A.at g.E.at g.I g.O g2.A.at g2.E.at g2.I g2.O g.l1 g.l2 g.l3 g.l4 q.1 q.2
theorem fJ (l:List UInt8) (w:World) (hE:sF w) (hTb:XP w.heap.size w) (hT:gQ w):Calls Tryz.prog 7 #[.string (zW l)] w fun e w'=>e=.returned (.bool true)/\Below w.heap.size w w':=by
 obtain ⟨cd,pl,hcp⟩:∃cd pl,jC l=(cd,pl):=⟨_,_,rfl⟩;obtain ⟨c1,p1,hc1⟩:∃c1 p1,(mT l).2.2=(c1,p1):=⟨_,_,rfl⟩;obtain ⟨nm,hnm⟩:∃q,(mT l).1=q:=⟨_,rfl⟩;obtain ⟨K,hK⟩:∃q,TR l=q:=⟨_,rfl⟩;obtain ⟨G,hG⟩:∃q,rD l=q:=⟨_,rfl⟩;have hin:=DM l
 have hz:cd=0->pl=0:=fun e=>by
  have q:=LW (l:=l) (by rw[hcp];exact e);rw[hcp]at q;exact q
 rw[hcp]at hin;have hlo:0<=pl:=hin.1;have hhi:pl<=(l.length:Int):=hin.2
 have SP:Hid (Calls Tryz.prog 9 #[.string (zW l)] w (TQ w G cd pl)):=by
  have q:=mJ l w hE;rw[hcp,hG]at q;exact q
 have SKP:Hid (∀ U,Below w.heap.size w U->Calls Tryz.prog 22 #[.string (zW l)] U (SkE U nm K c1 p1)):=fun U hU=>(ZL l U (hE.below hU)).mono fun e w' hh=>by
  have q:=IJ hh;rw[hnm,hK,hc1]at q;exact q
 have FA:Hid (∀ U,Below w.heap.size w U->Calls Tryz.prog 11 #[QU cd pl] U fun e w'=>e=.returned (.tuple #[.agg #[.int .i64 cd,.int .i64 pl],.bool true])/\Below U.heap.size U w'):=fun U hU=>LV cd pl hz U (hT.below hU)
 have AW:Hid (∀ U,Below w.heap.size w U->Calls Tryz.prog 13 #[] U fun e w'=>e=.returned (.bool true)/\Below U.heap.size U w'):=fun U hU=>AQ U (hE.below hU) (hTb.on5 hU) (hT.below hU)
 have LL:=zZ (TN l)
 have CA:Hid (c1≠0->cd=c1/\pl=p1):=fun e=>by
  unfold jC at hcp;rw[hc1,if_pos e]at hcp
  cases hcp
  exact ⟨rfl,rfl⟩
 have CB:Hid (c1=0->(vS nm K).2=(cd,pl)/\bG nm K=G):=fun e=>by
  unfold jC at hcp;unfold rD at hG;rw[hc1,if_neg (fun x=>x e),hnm,hK]at hcp hG;exact ⟨hcp,hG⟩
 rw[hG]at LL;obtain ⟨ev,hev⟩:∃q,QU cd pl=q:=⟨_,rfl⟩;unfold TQ at SP;rw[hev]at SP FA;unfold SkE at SKP;clear hcp hc1 hnm hK hG hin hz hev hE hTb hT
 go_enter Tryz.func7,Tryz.ntmps7
 go_upto_region 2 with (go_at_call 9;(with_reducible refine SP.out.mono ?_);rintro e u1 ⟨x1,x2,x3,x4,d1,d2,d3,d4,As,Es,rfl,hO,b1⟩;have O1:=zZ hO;have B1:=zZ b1;clear hO b1)
 have bv:=(Below.refl u1.heap.size u1).alloc (Nat.le_refl _) (.cells #[.string (zW G.name),.slice x1 G.A.length d1,.slice x2 G.E.length d2,.slice x3 G.ins.length d3,.slice x4 G.outs.length d4] 26);have X1:=zZ (zL 26 u1 #[.string (zW G.name),.slice x1 G.A.length d1,.slice x2 G.E.length d2,.slice x3 G.ins.length d3,.slice x4 G.outs.length d4]);have B2:=zZ (B1.out.trans (bv.mono B1.out.size));have O2:=zZ (O1.out.later bv);clear bv O1 B1 SP;generalize u1.heap.size=gb at *;generalize u1.alloc (.cells #[.string (zW G.name),.slice x1 G.A.length d1,.slice x2 G.E.length d2,.slice x3 G.ins.length d3,.slice x4 G.outs.length d4] 26)=w2 at *
 go_upto_region 3 with (go_at_call 22;(with_reducible refine (SKP.out w2 B2.out).mono ?_);rintro e u3 ⟨a,n,c,M,rfl,hM,b3⟩;have HM:=zZ hM;have D3:=zZ b3;clear hM b3)
 have e1:=(Below.refl u3.heap.size u3).alloc (Nat.le_refl _) (.cells #[.string (zW nm),.slice a n c] 52);have e2:=(Below.refl _ _).alloc (Nat.le_refl _) (.cells #[.int .i64 c1,.int .i64 p1] 33) (w:=u3.alloc (.cells #[.string (zW nm),.slice a n c] 52));have bv:=e1.trans (e2.mono e1.size);have S4:=zZ ((zL 52 u3 #[.string (zW nm),.slice a n c]).below e2)
 have F4:Hid (zD 33 (u3.heap.size+1) ((u3.alloc (.cells #[.string (zW nm),.slice a n c] 52)).alloc (.cells #[.int .i64 c1,.int .i64 p1] 33)) #[.int .i64 c1,.int .i64 p1]):=by
  have r:=zL 33 (u3.alloc (.cells #[.string (zW nm),.slice a n c] 52)) #[.int .i64 c1,.int .i64 p1];rw[World.size_alloc]at r;exact r
 have bt:=D3.out.trans (bv.mono D3.out.size);have B4:=zZ (B2.out.trans (bt.mono B2.out.size));have O4:=zZ (O2.out.later bt);have X4:=zZ (X1.out.below bt)
 have M4:Hid (c1=0->p1=0/\M.map Prod.fst=K/\M.length=n/\n<=2000000/\YR ((u3.alloc (.cells #[.string (zW nm),.slice a n c] 52)).alloc (.cells #[.int .i64 c1,.int .i64 p1] 33)) a M/\LT ((u3.alloc (.cells #[.string (zW nm),.slice a n c] 52)).alloc (.cells #[.int .i64 c1,.int .i64 p1] 33)) M):=fun e=>by
  obtain ⟨h0,h1,h2,h3,h4,h5⟩:=HM.out e;exact ⟨h0,h1,h2,h3,h4.below bv,h5.below bv⟩
 clear e1 e2 bv bt B2 O2 X1 HM D3 SKP;generalize u3.heap.size=sb at *;generalize (u3.alloc (.cells #[.string (zW nm),.slice a n c] 52)).alloc (.cells #[.int .i64 c1,.int .i64 p1] 33)=w4 at *
 go_upto_region 4 with (go_at_call 11;(with_reducible refine (FA.out w4 B4.out).mono ?_);rintro e w5 ⟨rfl,b5⟩;have D5:=zZ b5;clear b5)
 have bv:=(Below.refl w5.heap.size w5).alloc (Nat.le_refl _) (.cells #[.int .i64 cd,.int .i64 pl] 33);have X6:=zZ (zL 33 w5 #[.int .i64 cd,.int .i64 pl]);have bt:=D5.out.trans (bv.mono D5.out.size);have B6:=zZ (B4.out.trans (bt.mono B4.out.size));have O6:=zZ (O4.out.later bt);have G6:=zZ (X4.out.below bt);have S6:=zZ (S4.out.below bt);have F6:=zZ (F4.out.below bt)
 have M6:Hid (c1=0->p1=0/\M.map Prod.fst=K/\M.length=n/\n<=2000000/\YR (w5.alloc (.cells #[.int .i64 cd,.int .i64 pl] 33)) a M/\LT (w5.alloc (.cells #[.int .i64 cd,.int .i64 pl] 33)) M):=fun e=>by
  obtain ⟨h0,h1,h2,h3,h4,h5⟩:=M4.out e;exact ⟨h0,h1,h2,h3,h4.below bt,h5.below bt⟩
 clear bv bt B4 O4 X4 S4 F4 M4 D5 FA;generalize w5.heap.size=xb at *;generalize w5.alloc (.cells #[.int .i64 cd,.int .i64 pl] 33)=w6 at *
 have n1:¬pl<0:=by omega
 have n2:¬(l.length:Int)<pl:=by omega
 have i0:w6.cell? ⟨xb,0,none⟩=some (.int .i64 cd):=X6.out.cell rfl;have i1:w6.cell? ⟨xb,1,none⟩=some (.int .i64 pl):=X6.out.cell rfl
 go_upto_region 6 with fail
 have j0:w6.cell? ⟨sb+1,0,none⟩=some (.int .i64 c1):=F6.out.cell rfl;have j1:w6.cell? ⟨sb+1,1,none⟩=some (.int .i64 p1):=F6.out.cell rfl
 by_cases hc:c1=0
 ·obtain ⟨hp0,hM1,hM2,hM3,hM4,hM5⟩:=M6.out hc
  obtain ⟨hB,hG⟩:=CB.out hc;subst hc hp0
  have BD:Hid (Calls Tryz.prog 23 #[.agg #[.string (zW nm),.slice a n c]] w6 (IM w6 G cd pl)):=by
   rw[<- hG];exact PD nm a n c M w6 hM2 hM4 hM5 hM3 hM1 hB
  unfold IM at BD;clear hB hG hM1 hM2 hM3 hM4 hM5 M6 CA CB
  go_upto_region 8 with fail
  clear i0 i1 j0 j1;have y0:w6.cell? ⟨sb,0,none⟩=some (.string (zW nm)):=S6.out.cell rfl;have y1:w6.cell? ⟨sb,1,none⟩=some (.slice a n c):=S6.out.cell rfl
  go_upto_region 9 with (go_at_call 23;(with_reducible refine BD.out.mono ?_);rintro e u7 ⟨z1,z2,z3,z4,f1,f2,f3,f4,Bs,Fs,rfl,hO,b7⟩;have O7:=zZ hO;have D7:=zZ b7;clear hO b7 y0 y1)
  have e1:=(Below.refl u7.heap.size u7).alloc (Nat.le_refl _) (.cells #[.string (zW G.name),.slice z1 G.A.length f1,.slice z2 G.E.length f2,.slice z3 G.ins.length f3,.slice z4 G.outs.length f4] 26);have e2:=(Below.refl _ _).alloc (Nat.le_refl _) (.cells #[.int .i64 cd,.int .i64 pl] 33) (w:=u7.alloc (.cells #[.string (zW G.name),.slice z1 G.A.length f1,.slice z2 G.E.length f2,.slice z3 G.ins.length f3,.slice z4 G.outs.length f4] 26));have bv:=e1.trans (e2.mono e1.size);have H8:=zZ ((zL 26 u7 #[.string (zW G.name),.slice z1 G.A.length f1,.slice z2 G.E.length f2,.slice z3 G.ins.length f3,.slice z4 G.outs.length f4]).below e2)
  have E8:Hid (zD 33 (u7.heap.size+1) ((u7.alloc (.cells #[.string (zW G.name),.slice z1 G.A.length f1,.slice z2 G.E.length f2,.slice z3 G.ins.length f3,.slice z4 G.outs.length f4] 26)).alloc (.cells #[.int .i64 cd,.int .i64 pl] 33)) #[.int .i64 cd,.int .i64 pl]):=by
   have r:=zL 33 (u7.alloc (.cells #[.string (zW G.name),.slice z1 G.A.length f1,.slice z2 G.E.length f2,.slice z3 G.ins.length f3,.slice z4 G.outs.length f4] 26)) #[.int .i64 cd,.int .i64 pl];rw[World.size_alloc]at r;exact r
  have bt:=D7.out.trans (bv.mono D7.out.size);have B8:=zZ (B6.out.trans (bt.mono B6.out.size));have X8:=zZ (X6.out.below bt);have G8:=zZ (G6.out.below bt);have O8:=zZ (O6.out.later bt);have P8:=zZ (O7.out.later bv);clear e1 e2 bv bt B6 X6 G6 S6 F6 O6 O7 D7 BD;generalize u7.heap.size=hb at *;generalize (u7.alloc (.cells #[.string (zW G.name),.slice z1 G.A.length f1,.slice z2 G.E.length f2,.slice z3 G.ins.length f3,.slice z4 G.outs.length f4] 26)).alloc (.cells #[.int .i64 cd,.int .i64 pl] 33)=w8 at *
  have SM:Hid (∀ U,Below w8.heap.size w8 U->Calls Tryz.prog 12 #[.agg #[.string (zW G.name),.slice x1 G.A.length d1,.slice x2 G.E.length d2,.slice x3 G.ins.length d3,.slice x4 G.outs.length d4],.agg #[.string (zW G.name),.slice z1 G.A.length f1,.slice z2 G.E.length f2,.slice z3 G.ins.length f3,.slice z4 G.outs.length f4]] U fun e w'=>e=.returned (.bool true)/\Below U.heap.size U w'):=fun U hU=>IE (O8.out.later hU) (P8.out.later hU) LL.out
  clear O8 P8 LL
  have nc1:(cd !=cd)=false:=by simp
  have nc2:(cd==cd)=true:=by simp
  have np1:(pl !=pl)=false:=by simp
  have np2:(pl==pl)=true:=by simp
  go_wp2_with (first
   |(go_at_call 13;(with_reducible refine (AW.out w8 B8.out).mono ?_);rintro e w9 ⟨rfl,b9⟩;have N9:=zZ b9;clear b9;have i0:w9.cell? ⟨xb,0,none⟩=some (.int .i64 cd):=(X8.out.below N9.out).cell rfl;have i1:w9.cell? ⟨xb,1,none⟩=some (.int .i64 pl):=(X8.out.below N9.out).cell rfl;have j0:w9.cell? ⟨hb+1,0,none⟩=some (.int .i64 cd):=(E8.out.below N9.out).cell rfl;have j1:w9.cell? ⟨hb+1,1,none⟩=some (.int .i64 pl):=(E8.out.below N9.out).cell rfl;obtain ⟨g0,g1,g2,g3,g4⟩:=qC5 (G8.out.below N9.out);obtain ⟨h0,h1,h2,h3,h4⟩:=qC5 (H8.out.below N9.out))
   |(go_at_call 12;(with_reducible refine (SM.out _ N9.out).mono ?_);rintro e w10 ⟨rfl,b10⟩;have N10:=zZ (N9.out.trans (b10.mono N9.out.size));clear b10;clear i0 i1 j0 j1 g0 g1 g2 g3 g4 h0 h1 h2 h3 h4))
  go_ret
  exact ⟨rfl,B8.out.trans (N10.out.mono B8.out.size)⟩
 obtain ⟨ha,hb⟩:=CA.out hc;subst ha hb
 have n3:(cd==0)=false:=by simp[hc]
 have n4:(cd !=0)=true:=by simp[hc]
 have nc2:(cd==cd)=true:=by simp
 have np2:(pl==pl)=true:=by simp
 clear M6 CA CB
 go_wp2_with (go_at_call 13;(with_reducible refine (AW.out w6 B6.out).mono ?_);rintro e w9 ⟨rfl,b9⟩;have N9:=zZ b9;clear b9 i0 i1 j0 j1;have i0:w9.cell? ⟨xb,0,none⟩=some (.int .i64 cd):=(X6.out.below N9.out).cell rfl;have i1:w9.cell? ⟨xb,1,none⟩=some (.int .i64 pl):=(X6.out.below N9.out).cell rfl;have j0:w9.cell? ⟨sb+1,0,none⟩=some (.int .i64 cd):=(F6.out.below N9.out).cell rfl;have j1:w9.cell? ⟨sb+1,1,none⟩=some (.int .i64 pl):=(F6.out.below N9.out).cell rfl)
 go_ret
 exact ⟨rfl,B6.out.trans (N9.out.mono B6.out.size)⟩
end Go.Proofs.YtdcjdnkdeamigaaGreatDoor
