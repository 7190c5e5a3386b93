/- Texts of one chain. -/
import Derived.Test.YtpohmekkdjdhmaaGreatPartQ
import Derived.Test.YtpohmekkdjdhmaaGreatPartTopPeriods49
namespace Go.Proofs.YtpohmekkdjdhmaaGreat
open Go.ChangeShapes Go.WideShapes Go.ChangeAt Go.RowKit
def FrT (F:List Int) (N:Nat) (u:World) (z:Value):Prop:=∃ac cc,z=.slice ac N cc/\At u ac F
set_option maxRecDepth 100000 in
set_option maxHeartbeats 16000000 in
theorem zPJ (g:GG) (a1 a2 a3 a4:Option Addr) (c1 c2 c3 c4:Nat) (ap:Option Addr) (lp cp:Nat) (P:List Int) (aq:Option Addr) (lq cq:Nat) (Q:List Int) (w:World) (h:UA w a1 a2 a3 a4 c3 c4 g) (hp:ZL w ap lp cp P) (hq:ZL w aq lq cq Q) (hc:(yH g).code=0) (n:NN) (N:Nat) (hn:kG g=n) (hN:n.nodes=(N:Int)) (hk:zN n=0) (R:List Int) (hR:yV n.nodes.toNat (kM n)=R) (hb:kF n=false) (hf:jB n.arcs (kM n)=none):Calls Tryz.prog 3 #[.agg #[.string (yG g.name),.slice a1 g.A.length c1,.slice a2 g.E.length c2,.slice a3 g.ins.length c3,.slice a4 g.outs.length c4],.slice ap lp cp,.slice aq lq cq] w fun e w'=>e=.returned (.bool true)/\Below w.heap.size w w':=by
 have e1:=hp.size;have e2:=hq.size;subst e1;subst e2
 have hP1:P.length<=4611686018427387904:=by have:=hp.reach;omega
 have hQ1:Q.length<=4611686018427387904:=by have:=hq.reach;omega
 have HO:Hid (YQ n R=true):=by have:=(zTT hk hb hf).1;rw[hR]at this;exact this
 have hnn:=wJ (zB hk)
 have hNt:n.nodes.toNat=N:=by omega
 have HNt:=zZ hNt
 have hN1:1<=N/\N<=32:=by omega
 have HRl:Hid (R.length=N):=by show _=_;rw[<- hR,yY];omega
 have SO:Hid (∀ U d c,jE U d c n->Calls Tryz.prog 6 #[.agg #[.int .i64 (N:Int),.slice d n.arcs.length c]] U fun e w'=>∃d1 c1 d2 c2,e=.returned (.tuple #[.agg #[.int .u8 1,.slice d1 N c1,.slice d2 0 c2],.int .i64 0])/\zO U.heap.size w' d1 c1 R/\Below U.heap.size U w'):=fun U d c hA=>by
  have q:=IY hk hb hf d c U hA.lies (by have:=hA.room;omega);rw[hR,hNt,hN]at q;exact q
 obtain ⟨x,hx⟩:∃x,vE n R P=x:=⟨_,rfl⟩;have HX:=zZ hx;obtain ⟨LI,hLI⟩:∃x,rD n R P=x:=⟨_,rfl⟩;obtain ⟨ST,hST⟩:∃x,nK n R P=x:=⟨_,rfl⟩;have HLI:=zZ hLI;have HST:=zZ hST;obtain ⟨l1,hl1⟩:∃x,LI.length=x:=⟨_,rfl⟩;obtain ⟨l2,hl2⟩:∃x,ST.length=x:=⟨_,rfl⟩;have HL1:=zZ hl1;have HL2:=zZ hl2
 have RU:Hid (∀ U d c rb rc,jE U d c n->At U (some ⟨rb,0,none⟩) R->Below w.heap.size w U->Calls Tryz.prog 8 #[.agg #[.int .i64 (N:Int),.slice d n.arcs.length c],.slice (some ⟨rb,0,none⟩) N rc,.slice ap P.length cp] U fun e w'=>∃e1 k1 e2 k2,e=.returned (.tuple #[.agg #[.slice e1 l1 k1,.slice e2 l2 k2],.int .i64 x])/\At w' e1 LI/\AZ w' e2 ST/\Below U.heap.size U w'):=fun U d c rb rc hA hr hU=>by
  have q:=ZM n d c R (some ⟨rb,0,none⟩) rc P ap cp U hA.lies (by have:=hA.room;omega) hA.none hr (by rw[HRl.out];omega) (fun e=>by cases e) (hp.lies.below hU) hP1;rw[HRl.out,hN]at q;refine q.mono ?_
  rintro e w' ⟨d1,c1,d2,c2,q1,q2,q3,q4⟩
  rw[hx,hLI,hST,hl1,hl2]at q1;rw[hLI]at q2;rw[hST]at q3;exact ⟨d1,c1,d2,c2,q1,q2.at,q3.at,q4⟩
 have NW:Hid (∀ U d c,jE U d c n->Calls Tryz.prog 9 #[.agg #[.int .i64 (N:Int),.slice d n.arcs.length c]] U fun e w'=>∃K E,e=.returned (.tuple #[(qP K),.int .i64 0])/\tB U.heap.size E w' K n (zH n) (List.replicate n.nodes.toNat 0)/\Below U.heap.size U w'):=fun U d c hA=>by
  have q:=zUW n d c U hA hk U (Below.refl _ _);rw[hN]at q;rw[hN];exact q
 have FDa:Hid (∀ (B E K:Nat) (W:World) (T F:List Int),tB B E W K n T F->F.length=N->Calls Tryz.prog 10 #[(qP K)] W fun e w'=>∃a cap,e=.returned (.slice a N cap)/\zO W.heap.size w' a cap F/\Below W.heap.size W w'):=fun B E K W T F hs hF=>by
  have q:=XM W K n T F hs;unfold lA at q;rw[hF]at q;exact q
 have HQ0:=zZ hq.lies;have HK:=zZ hk;have HNN:=zZ hN;obtain ⟨len,hlen⟩:∃q,Q.length=q:=⟨_,rfl⟩;have HQL:=zZ hlen;rw[hlen]at hQ1 ⊢;have AW:=zZ TI;have b0:=(Below.refl w.heap.size w).alloc (Nat.le_refl _) (.cells #[.string (yG g.name),.slice a1 g.A.length c1,.slice a2 g.E.length c2,.slice a3 g.ins.length c3,.slice a4 g.outs.length c4] 26);have X0:=zZ (zV 26 w #[.string (yG g.name),.slice a1 g.A.length c1,.slice a2 g.E.length c2,.slice a3 g.ins.length c3,.slice a4 g.outs.length c4]);have B0:=zZ b0
 have OF:Hid (∀ U,Below w.heap.size w U->Calls Tryz.prog 4 #[.agg #[.string (yG g.name),.slice a1 g.A.length c1,.slice a2 g.E.length c2,.slice a3 g.ins.length c3,.slice a4 g.outs.length c4]] U fun e w'=>∃d c,e=.returned (.tuple #[.agg #[.int .i64 (N:Int),.slice d n.arcs.length c],.int .i64 0])/\jE w' d c n/\Below U.heap.size U w'):=fun U hb=>IM hc hn hN a1 a2 a3 a4 c1 c2 c3 c4 U (h.gr.below hb)
 have y0:=X0.out.cell (k:=0) rfl;have y1:=X0.out.cell (k:=1) rfl;have y2:=X0.out.cell (k:=2) rfl;have y3:=X0.out.cell (k:=3) rfl;have y4:=X0.out.cell (k:=4) rfl;simp only[List.getElem_toArray,List.getElem_cons_zero,List.getElem_cons_succ]at y0 y1 y2 y3 y4;clear b0 h hn hp hq hx hLI hST hl1 hl2 hb hf hnn hNt hk hR hlen
 go_enter Tryz.func3,Tryz.ntmps3
 go_upto_region 1 with fail
 generalize (w.alloc (.cells #[.string (yG g.name),.slice a1 g.A.length c1,.slice a2 g.E.length c2,.slice a3 g.ins.length c3,.slice a4 g.outs.length c4] 26))=W0 at *
 go_upto_region 2 with (go_at_call 4;(with_reducible refine (OF.out W0 B0.out).mono ?_);rintro e W1 ⟨d,c,rfl,q1,b1⟩;have A1:=zZ q1;have L1:=zZ (B0.out.trans (b1.mono B0.out.size));clear q1 b1)
 clear y0 y1 y2 y3 y4 OF X0 B0;have bb:=(Below.refl W1.heap.size W1).alloc (Nat.le_refl _) (.cells #[.int .i64 (N:Int),.slice d n.arcs.length c] 30);have XN2:=zZ (zV 30 W1 #[.int .i64 (N:Int),.slice d n.arcs.length c]);have A2:=zZ (A1.out.below bb);have L2:=zZ (L1.out.trans (bb.mono L1.out.size));obtain ⟨xn,hxn⟩:∃q,W1.heap.size=q:=⟨_,rfl⟩;rw[hxn]at XN2 ⊢;clear bb hxn L1 A1;generalize W1.alloc (.cells #[.int .i64 (N:Int),.slice d n.arcs.length c] 30)=W2 at *;have y0:=XN2.out.cell (k:=0) rfl;have y1:=XN2.out.cell (k:=1) rfl;simp only[List.getElem_toArray,List.getElem_cons_zero,List.getElem_cons_succ]at y0 y1
 go_upto_region 4 with fail
 go_upto_region 5 with (go_at_call 6;(with_reducible refine (SO.out W2 d c A2.out).mono ?_);rintro e W3 ⟨d1,cr,d2,k3,rfl,q3,b3⟩;have C3:=zZ q3;have XN3:=zZ (XN2.out.below b3);have A3:=zZ (A2.out.below b3);have L3:=zZ (L2.out.trans (b3.mono L2.out.size));clear b3 q3)
 obtain ⟨rb,ea,-,-⟩:=C3.out.there (by rw[HRl.out];omega);subst ea;clear y0 y1 SO XN2 A2;have bb:=(Below.refl W3.heap.size W3).alloc (Nat.le_refl _) (.cells #[.int .u8 1,.slice (some ⟨rb,0,none⟩) N cr,.slice d2 0 k3] 38);have XZ4:=zZ (zV 38 W3 #[.int .u8 1,.slice (some ⟨rb,0,none⟩) N cr,.slice d2 0 k3]);have XN4:=zZ (XN3.out.below bb);have A4:=zZ (A3.out.below bb);have C4:=zZ (C3.out.later bb);have L4:=zZ (L3.out.trans (bb.mono L3.out.size));obtain ⟨xz,hxz⟩:∃q,W3.heap.size=q:=⟨_,rfl⟩;rw[hxz]at XZ4 ⊢;clear bb hxz L3 XN3 A3 C3;generalize W3.alloc (.cells #[.int .u8 1,.slice (some ⟨rb,0,none⟩) N cr,.slice d2 0 k3] 38)=W4 at *;have y0:=XN4.out.cell (k:=0) rfl;have y1:=XN4.out.cell (k:=1) rfl;have z0:=XZ4.out.cell (k:=0) rfl;have z1:=XZ4.out.cell (k:=1) rfl;simp only[List.getElem_toArray,List.getElem_cons_zero,List.getElem_cons_succ]at y0 y1 z0 z1
 go_upto_region 11 with fail
 go_upto_region 12 with (go_at_call 8;(with_reducible refine (RU.out W4 d c rb cr A4.out C4.out.at L4.out).mono ?_);rintro e W5 ⟨e1,k1,e2,k2,rfl,q5,q6,b5⟩;have LI5:=zZ q5;have ST5:=zZ q6;have C5:=zZ (C4.out.at.below b5);have XN5:=zZ (XN4.out.below b5);have XZ5:=zZ (XZ4.out.below b5);have A5:=zZ (A4.out.below b5);have L5:=zZ (L4.out.trans (b5.mono L4.out.size));clear b5 q5 q6)
 clear y0 y1 z0 z1 RU XN4 XZ4 A4 C4 L4;have bb:=(Below.refl W5.heap.size W5).alloc (Nat.le_refl _) (.cells #[.slice e1 l1 k1,.slice e2 l2 k2] 44);have XP7:=zZ (zV 44 W5 #[.slice e1 l1 k1,.slice e2 l2 k2]);have XN7:=zZ (XN5.out.below bb);have XZ7:=zZ (XZ5.out.below bb);have A7:=zZ (A5.out.below bb);have C7:=zZ (C5.out.below bb);have LI7:=zZ (LI5.out.below bb);have ST7:=zZ (ST5.out.below bb);have L7:=zZ (L5.out.trans (bb.mono L5.out.size));obtain ⟨xp,hxp⟩:∃q,W5.heap.size=q:=⟨_,rfl⟩;rw[hxp]at XP7 ⊢;clear bb hxp L5 XN5 XZ5 A5 C5 LI5 ST5;generalize W5.alloc (.cells #[.slice e1 l1 k1,.slice e2 l2 k2] 44)=W7 at *;have y0:=XN7.out.cell (k:=0) rfl;have y1:=XN7.out.cell (k:=1) rfl;have z0:=XZ7.out.cell (k:=0) rfl;have z1:=XZ7.out.cell (k:=1) rfl;have p0:=XP7.out.cell (k:=0) rfl;have p1:=XP7.out.cell (k:=1) rfl;simp only[List.getElem_toArray,List.getElem_cons_zero,List.getElem_cons_succ]at y0 y1 z0 z1 p0 p1
 by_cases he:x=0
 ·subst he
  have TK7:Hid (IL w n N R Q LI ST d c rb cr e1 l1 k1 e2 l2 k2 xn xz xp aq W7):=⟨y0,y1,z1,p0,p1,A7.out,C7.out,LI7.out,ST7.out,HQ0.out.below L7.out,L7.out⟩;have hf:=eO HX.out;have hg:=hf.good;have hS:=hf.sound;have h48:=hf.few;have IN0:=zZ (InU.start hg);have HS:=zZ hS;have HF:=zZ hf;clear hf hg hS
  go_upto_region 14 with fail
  go_upto_region 15 with (go_at_call 9;(with_reducible refine (NW.out W7 d c A7.out).mono ?_);rintro e W8 ⟨K,E,rfl,s8,b8⟩;have S8:=zZ s8;have B8:=zZ b8;clear s8 b8)
  have TK8:=zZ (TK7.out.below B8.out);have z0:=(XZ7.out.below B8.out).cell (k:=0) rfl;simp only[List.getElem_toArray,List.getElem_cons_zero]at z0;have y0:=TK8.out.n0;have z1:=TK8.out.z1;obtain ⟨B,hB⟩:∃q,W7.heap.size=q:=⟨_,rfl⟩;rw[hB]at S8 B8
  have KP:Hid (∀ W,Below B W7 W->IL w n N R Q LI ST d c rb cr e1 l1 k1 e2 l2 k2 xn xz xp aq W):=fun W hW=>TK7.out.below (by rw[hB];exact hW)
  have hxn:xn<B:=by rw[<- hB];exact block_lt_of_cell TK7.out.n0
  have hxz:xz<B:=by rw[<- hB];exact block_lt_of_cell TK7.out.z1
  have hxp:xp<B:=by rw[<- hB];exact block_lt_of_cell TK7.out.p0
  have hrb:rb<B:=by
   rcases TK7.out.rr with e|⟨b1,o1,ea,hcr⟩
   ·have:=HRl.out;rw[e]at this;simp at this;omega
   cases ea;rw[<- hB];exact block_lt_of_cell (hcr 0 (by rw[HRl.out];omega))
  have HLt:Hid (LI≠[]->∀y,e1=some y->y.block<B):=fun hne y hy=>by rw[<- hB];exact QN TK7.out.li hne hy
  have hNe:((N:Int)!=(N:Int))=false:=by simp
  clear hB p0 p1 y1 XN7 XZ7 XP7 A7 C7 LI7 ST7 L7 TK7
  go_upto_region 18 with fail
  clear z0 z1 y0 hNe
  go_loopg [15] len (fun gk u wr=>∃(k:Nat) (T1 F1:List Int) (m1:Int),k<=len/\gk=len-k/\u=.int .i64 (k:Int)/\tB B E wr K n T1 F1/\InU n R (List.replicate n.nodes.toNat 0) T1 F1 m1/\Below B W7 wr)
  case atStart=>exact ⟨0,_,_,0,Nat.zero_le _,rfl,rfl,S8.out,IN0.out,B8.out⟩
  case round=>
   clear TK8;obtain ⟨k,T1,F1,m1,hk,rfl,rfl,hst,hin,hbw⟩:=hrel;have S0:=zZ hst;have I1:=zZ hin;have B0:=zZ hbw;have hBr:=hst.low.1;clear hst hin hbw
   by_cases hlt:k<len
   ·have hkQ:k<Q.length:=by rw[HQL.out];exact hlt
    have hkN:k<len:=hlt
    have hkI:(k:Int)<(len:Int):=by omega
    have hFl:=I1.out.eq.lF;rw[HNt.out]at hFl;have FD:=zZ (FDa.out B E K wr T1 F1 S0.out hFl)
    rcases HQ0.out with e|⟨qb,qo,eq2,hcq⟩
    ·rw [e]at hkQ;exact absurd hkQ (Nat.not_lt_zero _)
    subst eq2;have hqb:qb<w.heap.size:=block_lt_of_cell (hcq k hkQ)
    go_upto_region 21 with (go_at_call 10;(with_reducible refine FD.out.mono ?_);rintro e W1 ⟨aF,cF,rfl,hf1,b1⟩;have FF:=zZ hf1;have BB:=zZ b1;clear hf1 b1)
    obtain ⟨gF,ea,hg1,hg2⟩:=FF.out.there (by rw[hFl];omega);subst ea;have S1:=zZ (S0.out.below BB.out);have B1:=zZ (B0.out.trans (BB.out.mono hBr));have hB1:B<=W1.heap.size:=Nat.le_trans hBr BB.out.size;have K1:=zZ (KP.out W1 B1.out);have c0:=zF (K1.out.bw.block _ hqb) (hcq k hkQ);have y0:=K1.out.n0;have z1:=K1.out.z1;clear FD S0 B0 BB hcq;obtain ⟨z,hz⟩:∃z,zS Q k=z:=⟨_,rfl⟩;rw[hz]at c0;clear hz
    have hNb:((N:Int)==(N:Int))=true:=by simp
    by_cases hz:z<0
    ·have hz':¬(0<=z):=by omega
     go_quiet (fail)
     have hC9:=gX (Below.refl W1.heap.size W1) nq;generalize W1.drewN nq=w9 at *;have S9:=zZ (S1.out.below hC9);have B9:=zZ (B1.out.trans (hC9.mono hB1));clear hC9
     go_wp2
     go_roundg (len-(k+1))
     case measure=>omega
     case rel=>exact ⟨k+1,T1,F1,m1,by omega,rfl,by go_num,S9.out,I1.out,B9.out⟩
    obtain ⟨zn,rfl⟩:∃zn:Nat,z=(zn:Int):=⟨z.toNat,by omega⟩
    by_cases hzN:zn<N
    ·rcases FF.out.at with e|⟨fb,fo,ef,hcf⟩
     ·rw [e]at hFl;simp at hFl;omega
     cases ef
     have c1:=hcf zn (by rw[hFl];exact hzN);rw[Nat.zero_add]at c1
     rcases K1.out.rr with e|⟨b9,o9,eR,hcr⟩
     ·have:=HRl.out;rw[e]at this;simp at this;omega
     cases eR
     have c2:=hcr zn (by rw[HRl.out];exact hzN);rw[Nat.zero_add]at c2;clear hcf hcr
     by_cases hxy:zS F1 zn<zS R zn
     ·have FIa:=zZ (fun (W:World) (hW:Below W1.heap.size W1 W)=>kZ (W.alloc (.cells #[.int .i64 (zn:Int)] 3)) K n T1 F1 ((S1.out.below hW).below ((Below.refl W.heap.size W).alloc (Nat.le_refl _) _)) (some ⟨W.heap.size,0,none⟩) 1 [(zn:Int)] (tT W (zn:Int)) (by simp) (fun y hy _=>by cases hy;exact .inr (Nat.le_trans S1.out.low.2 hW.size)))
      have IS:=zZ (fun hm=>I1.out.step HS.out (by rw[HRl.out,HNt.out]) h48 (v:=(zn:Int)) hm (by rw[Int.toNat_natCast];exact hxy))
      have FI:Hid (∀ (W:World),Below W1.heap.size W1 W->Calls Tryz.prog 11 #[(qP K),.slice (some ⟨W.heap.size,0,none⟩) 1 1] (W.alloc (.cells #[.int .i64 (zn:Int)] 3)) fun e w'=>∃(r:Int) (T2 F2:List Int) (m2:Int),e=.returned (.int .i64 r)/\tB B E w' K n T2 F2/\InU n R (List.replicate n.nodes.toNat 0) T2 F2 m2/\uA B E (W.alloc (.cells #[.int .i64 (zn:Int)] 3)) w'):=fun W hW=>by
       have hh:=FIa.out W hW;rw[lN]at hh
       cases hm:wI n T1 (zn:Int) with
       |true=>
        rw[hm,if_pos rfl]at hh;refine Calls.mono hh ?_
        rintro e w' ⟨q1,q2,q3⟩
        exact ⟨_,_,_,_,q1,q2,IS.out hm,q3⟩
       |false=>
        rw[hm,if_neg (by decide)]at hh;refine Calls.mono hh ?_
        rintro e w' ⟨q1,q2,q3⟩
        exact ⟨_,_,_,_,q1,q2,I1.out,q3⟩
      clear FIa IS;generalize zS F1 zn=x at *;generalize zS R zn=y at *
      go_quiet (fail)
      have hC9:=gX (Below.refl W1.heap.size W1) nq;generalize W1.drewN nq=w9 at *;have c9:=zW hC9 c0;have b9:=(Below.refl w9.heap.size w9).alloc (Nat.le_refl _) (.cells #[.int .i64 (zn:Int)] 3);have B9:=zZ (B1.out.trans ((hC9.trans (b9.mono hC9.size)).mono hB1));have F9:=zZ (FI.out w9 hC9);have hB9:B<=(w9.alloc (.cells #[.int .i64 (zn:Int)] 3)).heap.size:=Nat.le_trans hB1 (Nat.le_trans hC9.size b9.size);clear hC9 b9 FI
      go_wp2_with (go_at_call 11;(with_reducible refine F9.out.mono ?_);rintro e wA ⟨r,T2,F2,m2,rfl,q1,q2,q3⟩;have SA:=zZ q1;have IA:=zZ q2;have BA:=zZ (B9.out.trans (q3.below hB9));clear q1 q2 q3)
      go_roundg (len-(k+1))
      case measure=>omega
      case rel=>exact ⟨k+1,T2,F2,m2,by omega,rfl,by go_num,SA.out,IA.out,BA.out⟩
     have hyx:zS R zn<=zS F1 zn:=by omega
     generalize zS F1 zn=x at *;generalize zS R zn=y at *
     go_quiet (fail)
     have hC9:=gX (Below.refl W1.heap.size W1) nq;generalize W1.drewN nq=w9 at *;have S9:=zZ (S1.out.below hC9);have B9:=zZ (B1.out.trans (hC9.mono hB1));clear hC9
     go_wp2
     go_roundg (len-(k+1))
     case measure=>omega
     case rel=>exact ⟨k+1,T1,F1,m1,by omega,rfl,by go_num,S9.out,I1.out,B9.out⟩
    ·
     go_quiet (fail)
     have hC9:=gX (Below.refl W1.heap.size W1) nq;generalize W1.drewN nq=w9 at *;have S9:=zZ (S1.out.below hC9);have B9:=zZ (B1.out.trans (hC9.mono hB1));clear hC9
     go_wp2
     go_roundg (len-(k+1))
     case measure=>omega
     case rel=>exact ⟨k+1,T1,F1,m1,by omega,rfl,by go_num,S9.out,I1.out,B9.out⟩
   have ek:k=len:=by omega
   subst ek;clear IN0 S8 B8
   go_upto_region 24 with fail
   go_loopg [17] 2049 (fun gk u7 wr=>∃(q:Nat) (T1 F1:List Int) (m1:Int),q<=2049/\gk=2049-q/\u7=.int .i64 (q:Int)/\tB B E wr K n T1 F1/\InU n R (List.replicate n.nodes.toNat 0) T1 F1 m1/\(q:Int)<=m1/\Below B W7 wr)
   case atStart=>exact ⟨0,T1,F1,m1,by decide,rfl,rfl,S0.out,I1.out,by have:=I1.out.eq.fs 0 (by have:=HNt.out;omega);omega,B0.out⟩
   case round=>
    clear S0 I1 B0 hBr;obtain ⟨q,Ts,Fs,ms,hq,rfl,rfl,hSt,hIn,hqm,hbw⟩:=hrel;have hmR:=hIn.few (by rw[HRl.out,HNt.out])
    have hq48:(q:Int)<=2048:=by omega
    have SS:=zZ hSt;have IS:=zZ hIn;have BS:=zZ hbw;have hFl:=hIn.eq.lF;rw[HNt.out]at hFl;have FD:=zZ (FDa.out B E K wr Ts Fs hSt hFl);have hBr0:B<=wr.heap.size:=hSt.low.1;clear hSt hIn hbw
    go_upto_region 27 with (go_at_call 10;(with_reducible refine FD.out.mono ?_);rintro e w1 ⟨aF,cF,rfl,hf1,b1⟩;have F1:=zZ hf1;have B1:=zZ b1;clear hf1 b1)
    obtain ⟨gF,ea,hg1,hg2⟩:=F1.out.there (by rw[hFl];omega);subst ea;have S1:=zZ (SS.out.below B1.out);have C1:=zZ (F1.out.mono SS.out.low.2);have BT:=zZ (BS.out.trans (B1.out.mono hBr0));clear FD F1 SS B1 BS
    go_upto_region 29 with fail
    have RN:Hid (RdU n R (List.replicate n.nodes.toNat 0) Ts Fs 0 false Ts Fs ms):=⟨IS.out,fun _ _ _=>rfl,fun _=>⟨rfl,rfl,fun u hu=>absurd hu (Nat.not_lt_zero _)⟩,fun e=>(by cases e)⟩
    go_loopg [19,20] N (fun gk u9 u10 wr=>∃(v:Nat) (b:Bool) (T1 F1:List Int) (m1:Int),v<=N/\gk=N-v/\u9=.bool b/\u10=.int .i64 (v:Int)/\tB B E wr K n T1 F1/\zO E wr (some ⟨gF,0,none⟩) cF Fs/\Below B W7 wr/\RdU n R (List.replicate n.nodes.toNat 0) Ts Fs v b T1 F1 m1)
    case atStart=>exact ⟨0,false,Ts,Fs,ms,Nat.zero_le _,rfl,rfl,rfl,S1.out,C1.out,BT.out,RN.out⟩
    case round=>
     clear S1 C1 BT RN;obtain ⟨vn,b,T1,F1,m1,hv,rfl,rfl,rfl,hst,hcp,hbw,hrd⟩:=hrel;have S1:=zZ hst;have C1:=zZ hcp;have B1:=zZ hbw;have R1:=zZ hrd;have hBr:B<=wr.heap.size:=hst.low.1;have hEr:E<=wr.heap.size:=hst.low.2;have K1:=zZ (KP.out wr hbw);have y0:=K1.out.n0
     have hNb:((N:Int)==(N:Int))=true:=by simp
     clear hst hcp hbw hrd
     by_cases hlt:vn<N
     ·have hvN:vn<N:=hlt
      have hvI:(vn:Int)<(N:Int):=by omega
      have hvT:vn<n.nodes.toNat:=by rw[HNt.out];exact hlt
      rcases C1.out.at with e|⟨fb,fo,ef,hcf⟩
      ·rw [e]at hFl;simp at hFl;omega
      cases ef
      have c0:=hcf vn (by rw[hFl];exact hlt);rw[Nat.zero_add]at c0
      rcases K1.out.rr with e|⟨b9,o9,eR,hcr⟩
      ·have:=HRl.out;rw[e]at this;simp at this;omega
      cases eR
      have c1:=hcr vn (by rw[HRl.out];exact hlt);rw[Nat.zero_add]at c1;have c2:=K1.out.z1;have hlc0:=block_lt_of_cell c0;have hlc1:=block_lt_of_cell c1;have hlc2:=block_lt_of_cell c2;have hnc0:gF<B\/E<=gF:=.inr (C1.out.lt _ rfl).1;have hnc1:rb<B\/E<=rb:=.inl hrb;have hnc2:xz<B\/E<=xz:=.inl hxz;clear hcf hcr
      go_upto_region 31 with fail
      by_cases hxy:zS Fs vn<zS R vn
      ·have FIa:=zZ (fun (W:World) (hW:Below wr.heap.size wr W) (g:Nat) (hg:E<=g) (hA:At W (some ⟨g,0,none⟩) [(vn:Int)])=>kZ W K n T1 F1 (S1.out.below hW) (some ⟨g,0,none⟩) 1 [(vn:Int)] hA (by simp) (fun y hy _=>by cases hy;exact .inr hg))
       cases hm:wI n T1 (vn:Int) with
       |true=>
        have RND:=zZ (R1.out.fire HS.out (by rw[HRl.out,HNt.out]) h48 hvT hm hxy)
        have FI:Hid (∀ (W:World),Below wr.heap.size wr W->∀g,E<=g->At W (some ⟨g,0,none⟩) [(vn:Int)]->Calls Tryz.prog 11 #[(qP K),.slice (some ⟨g,0,none⟩) 1 1] W fun e w'=>e=.returned (.int .i64 1)/\tB B E w' K n (wN n T1 (vn:Int)) (xS F1 (vn:Int))/\uA B E W w'):=fun W hW g hg hA=>by
         have:=FIa.out W hW g hg hA;rw[lN,if_pos hm]at this;exact this
        clear FIa hm;generalize wN n T1 (vn:Int)=T2 at *;generalize xS F1 (vn:Int)=F2 at *;generalize zS Fs vn=x at *;generalize zS R vn=y at *
        refine zM [14] (fun d i u z=>match i with
         |0=>z=.slice (some ⟨gF,0,none⟩) N cF
         |1=>z=.int .i64 (vn:Int)
         |2=>z=.pointer (some ⟨gF,vn,none⟩)
         |3=>z=.int .i64 x
         |4=>z=.pointer (some ⟨xz,1,none⟩)
         |5=>z=.slice (some ⟨rb,0,none⟩) N cr
         |6=>z=.int .i64 (vn:Int)
         |7=>z=.pointer (some ⟨rb,vn,none⟩)
         |8=>z=.int .i64 y
         |9=>z=.bool true
         |10=>z=.bool true
         |11=>z=(qP K)
         |12=>z=.int .i64 (vn:Int)
         |13=>(d 14=false->∃g,z=.slice (some ⟨g,0,none⟩) 1 1/\E<=g/\At u (some ⟨g,0,none⟩) [(vn:Int)])
         |14=>(d 14=true/\z=.int .i64 1)
         |15=>(d 14=true/\z=.bool true)
         |16=>(d 14=true/\z=.bool true)
         |_=>True) (fun d u=>(d 14=false->Below wr.heap.size wr u)/\(d 14=true->tB B E u K n T2 F2/\uA B E wr u)/\uA B E wr u) (by kernel_rfl) (by kernel_rfl) (by kernel_rfl) ?_ ?_ ?_ ?_ ?_ ?_ (by kernel_rfl)
        ·intro d i w v w' h hb
         match i,h with
         |0,h=>exact h
         |1,h=>exact h
         |2,h=>exact h
         |3,h=>exact h
         |4,h=>exact h
         |5,h=>exact h
         |6,h=>exact h
         |7,h=>exact h
         |8,h=>exact h
         |9,h=>exact h
         |10,h=>exact h
         |11,h=>exact h
         |12,h=>exact h
         |13,h=>exact fun e=>by obtain ⟨g,h1,h2,h3⟩:=h e;exact ⟨g,h1,h2,h3.below hb⟩
         |14,h=>exact h
         |15,h=>exact h
         |16,h=>exact h
         |_+17,_=>trivial
        ·intro d u u' h hb
         exact ⟨fun e=>(h.1 e).trans (hb.mono (h.1 e).size),fun e=>⟨(h.2.1 e).1.below hb,(h.2.1 e).2.trans (uA.of_below hb)⟩,h.2.2.trans (uA.of_below hb)⟩
        ·exact ⟨fun _=>Below.refl _ _,fun e=>absurd e (by decide),uA.refl _ _ _⟩
        ·intro d i o ρ w' hm ho hf hg hC hcs hfs hfr zX
         match i,hm,ho,hf,hg,hfr,zX with
         |0,_,ho,hf,hg,hfr,zX=>
          simp only[qS]at ho;subst ho;refine ⟨fun _=>?_,qF⟩
          have ts: ρ (.tmp 18)=.slice (some ⟨gF,0,none⟩) N cF:=(qR hfr 18);simp[go_sem,ts];exact qB
         |1,_,ho,hf,hg,hfr,zX=>
          simp only[qS]at ho;subst ho;refine ⟨fun _=>?_,qF⟩
          have ts: ρ (.tmp 20)=.int .i64 (vn:Int):=(qR hfr 20);simp[go_sem,ts];exact qB
         |2,_,ho,hf,hg,hfr,zX=>
          simp only[qS]at ho;subst ho;refine ⟨fun _=>?_,qF⟩
          have d0: ρ (.tmp 193)=.slice (some ⟨gF,0,none⟩) N cF:=(qH zX 0 193);have d1: ρ (.tmp 194)=.int .i64 (vn:Int):=(qH zX 1 194);simp[go_sem,d0,d1,hvN];exact qB
         |3,_,ho,hf,hg,hfr,zX=>
          simp only[qS]at ho;subst ho;refine ⟨fun _=>?_,qF⟩
          have cc:=zF (hC.2.2.block _ hlc0 hnc0) c0;have d0: ρ (.tmp 195)=.pointer (some ⟨gF,vn,none⟩):=(qH zX 2 195);simp[go_sem,d0,cc];exact qB
         |4,_,ho,hf,hg,hfr,zX=>
          simp only[qS]at ho;subst ho;refine ⟨fun _=>?_,qF⟩
          have ts: ρ (.tmp 9)=(qP xz):=(qR hfr 9);simp[go_sem,ts];exact qB
         |5,_,ho,hf,hg,hfr,zX=>
          simp only[qS]at ho;subst ho;refine ⟨fun _=>?_,qF⟩
          have cc:=zF (hC.2.2.block _ hlc2 hnc2) c2;have d0: ρ (.tmp 197)=.pointer (some ⟨xz,1,none⟩):=(qH zX 4 197);simp[go_sem,d0,cc];exact qB
         |6,_,ho,hf,hg,hfr,zX=>
          simp only[qS]at ho;subst ho;refine ⟨fun _=>?_,qF⟩
          have ts: ρ (.tmp 20)=.int .i64 (vn:Int):=(qR hfr 20);simp[go_sem,ts];exact qB
         |7,_,ho,hf,hg,hfr,zX=>
          simp only[qS]at ho;subst ho;refine ⟨fun _=>?_,qF⟩
          have d0: ρ (.tmp 198)=.slice (some ⟨rb,0,none⟩) N cr:=(qH zX 5 198);have d1: ρ (.tmp 199)=.int .i64 (vn:Int):=(qH zX 6 199);simp[go_sem,d0,d1,hvN];exact qB
         |8,_,ho,hf,hg,hfr,zX=>
          simp only[qS]at ho;subst ho;refine ⟨fun _=>?_,qF⟩
          have cc:=zF (hC.2.2.block _ hlc1 hnc1) c1;have d0: ρ (.tmp 200)=.pointer (some ⟨rb,vn,none⟩):=(qH zX 7 200);simp[go_sem,d0,cc];exact qB
         |9,_,ho,hf,hg,hfr,zX=>
          simp only[qS]at ho;subst ho;refine ⟨fun _=>?_,qF⟩
          have d0: ρ (.tmp 196)=.int .i64 x:=(qH zX 3 196);have d1: ρ (.tmp 201)=.int .i64 y:=(qH zX 8 201);simp[go_sem,d0,d1,hxy];exact qB
         |10,_,ho,hf,hg,hfr,zX=>
          simp only[qS]at ho;subst ho;refine ⟨fun _=>?_,qF⟩
          have d0: ρ (.tmp 202)=.bool true:=(qH zX 9 202);simp[go_sem,d0];exact qB
         |11,_,ho,hf,hg,hfr,zX=>
          simp only[qS]at ho;subst ho;have gd: ρ (.tmp 203)=.bool true:=(qH zX 10 203);refine ⟨fun _=>?_,fun hw=>absurd (show (match ρ (.tmp 203) with|.bool c=>c==true|_=>false)=false from hw) (by rw[gd];decide)⟩
          clear gd;have ts: ρ (.tmp 13)=(qP K):=(qR hfr 13);simp[go_sem,ts];exact qB
         |12,_,ho,hf,hg,hfr,zX=>
          simp only[qS]at ho;subst ho;have gd: ρ (.tmp 203)=.bool true:=(qH zX 10 203);refine ⟨fun _=>?_,fun hw=>absurd (show (match ρ (.tmp 203) with|.bool c=>c==true|_=>false)=false from hw) (by rw[gd];decide)⟩
          clear gd;have ts: ρ (.tmp 20)=.int .i64 (vn:Int):=(qR hfr 20);simp[go_sem,ts];exact qB
         |13,_,ho,hf,hg,hfr,zX=>
          simp only[qS]at ho;subst ho;have gd: ρ (.tmp 203)=.bool true:=(qH zX 10 203);refine ⟨fun _=>?_,fun hw=>absurd (show (match ρ (.tmp 203) with|.bool c=>c==true|_=>false)=false from hw) (by rw[gd];decide)⟩
          clear gd;have t0: ρ (.tmp 205)=.int .i64 (vn:Int):=(qH zX 12 205);simp[go_sem,t0];exact ⟨(Below.refl _ _).alloc (Nat.le_refl _) _,fun _=>⟨w'.heap.size,rfl,Nat.le_trans hEr hC.2.2.size,tT w' (vn:Int)⟩⟩
         |14,hm,_,_,_,_,_=>exact qD hm
         |15,_,ho,hf,hg,hfr,zX=>
          simp only[qS]at ho;subst ho;have gd: ρ (.tmp 203)=.bool true:=(qH zX 10 203);refine ⟨fun _=>?_,fun hw=>absurd (show (match ρ (.tmp 203) with|.bool c=>c==true|_=>false)=false from hw) (by rw[gd];decide)⟩
          clear gd;obtain ⟨qd,t0⟩:d 14=true/\ ρ (.tmp 207)=.int .i64 1:=(qH zX 14 207);simp[go_sem,t0,hcs];exact ⟨Below.refl _ _,qd,rfl⟩
         |16,_,ho,hf,hg,hfr,zX=>
          simp only[qS]at ho;subst ho;refine ⟨fun _=>?_,qF⟩
          have t0: ρ (.tmp 203)=.bool true:=(qH zX 10 203);obtain ⟨qd,t1⟩:d 14=true/\ ρ (.tmp 208)=.bool true:=(qH zX 15 208);simp[go_sem,t0,t1];exact ⟨Below.refl _ _,qd,rfl⟩
         |n+17,_,ho,_,_,_,_=>simp at ho
        ·intro d i o ρ w' hm ho h0 hf hg hC hcs hfs hfr zX
         match i,hm,ho,h0,hf,hg,hfr,zX with
         |0,hm,_,_,_,_,_,_=>exact qD hm
         |1,hm,_,_,_,_,_,_=>exact qD hm
         |2,hm,_,_,_,_,_,_=>exact qD hm
         |3,hm,_,_,_,_,_,_=>exact qD hm
         |4,hm,_,_,_,_,_,_=>exact qD hm
         |5,hm,_,_,_,_,_,_=>exact qD hm
         |6,hm,_,_,_,_,_,_=>exact qD hm
         |7,hm,_,_,_,_,_,_=>exact qD hm
         |8,hm,_,_,_,_,_,_=>exact qD hm
         |9,hm,_,_,_,_,_,_=>exact qD hm
         |10,hm,_,_,_,_,_,_=>exact qD hm
         |11,hm,_,_,_,_,_,_=>exact qD hm
         |12,hm,_,_,_,_,_,_=>exact qD hm
         |13,hm,_,_,_,_,_,_=>exact qD hm
         |14,_,ho,h0,hf,hg,hfr,zX=>
          simp only[qS]at ho;subst ho;have gd: ρ (.tmp 203)=.bool true:=(qH zX 10 203);have t0: ρ (.tmp 204)=(qP K):=(qH zX 11 204);obtain ⟨g,t1,hg,ht⟩:∃g,ρ (.tmp 206)=.slice (some ⟨g,0,none⟩) 1 1/\E<=g/\At w' (some ⟨g,0,none⟩) [(vn:Int)]:=(qH zX 13 206) h0;have FIw:=FI.out w' (hC.1 h0) g hg ht;refine ⟨?_,?_⟩
          ·show (match ρ (.tmp 203) with|.bool c=>c==true|_=>false)=true
           rw[gd];rfl
          simp[go_sem,zC,t0,t1,hfs];refine FIw.mono ?_
          rintro e w'' ⟨rfl,q1,q2⟩
          refine ⟨_,rfl,⟨fun e=>absurd e (by rw[zL];decide),fun _=>⟨q1,(uA.of_below (hC.1 h0)).trans q2⟩,(uA.of_below (hC.1 h0)).trans q2⟩,⟨zL _ _,rfl⟩,?_⟩
          intro i t hi hs
          match i,hi,hs with
          |0,_,hs=>exact hs
          |1,_,hs=>exact hs
          |2,_,hs=>exact hs
          |3,_,hs=>exact hs
          |4,_,hs=>exact hs
          |5,_,hs=>exact hs
          |6,_,hs=>exact hs
          |7,_,hs=>exact hs
          |8,_,hs=>exact hs
          |9,_,hs=>exact hs
          |10,_,hs=>exact hs
          |11,_,hs=>exact hs
          |12,_,hs=>exact hs
          |13,_,hs=>exact fun e=>absurd e (by rw[zL];decide)
          |14,_,hs=>exact absurd hs.1 (by rw[h0];decide)
          |15,_,hs=>exact absurd hs.1 (by rw[h0];decide)
          |16,_,hs=>exact absurd hs.1 (by rw[h0];decide)
          |_+17,_,_=>trivial
         |15,hm,_,_,_,_,_,_=>exact qD hm
         |16,hm,_,_,_,_,_,_=>exact qD hm
         |n+17,_,ho,_,_,_,_,_=>simp at ho
        intro U2 W2 hC2 hS;have e16:U2 16=.bool true:=(hS 16 (by decide) (by intro h;cases h)).2;simp only[yP,e16];simp only[Act.put,qU];clear hS e16;obtain ⟨s2,m2⟩:=hC2.2.1 rfl;have S9:=zZ s2;have B9:=zZ (B1.out.trans (m2.below hBr));have C9:=zZ (C1.out.keep fun y hy=>m2.block _ (C1.out.lt y hy).2 (.inr (C1.out.lt y hy).1));clear hC2 s2 m2
        go_wp2
        go_roundg (N-(vn+1))
        case measure=>omega
        case rel=>exact ⟨vn+1,true,_,_,m1+1,by omega,rfl,rfl,by go_num,S9.out,C9.out,B9.out,RND.out⟩
       |false=>
        have RND:=zZ (R1.out.skip hvT (fun _=>hm))
        have FI:Hid (∀ (W:World),Below wr.heap.size wr W->∀g,E<=g->At W (some ⟨g,0,none⟩) [(vn:Int)]->Calls Tryz.prog 11 #[(qP K),.slice (some ⟨g,0,none⟩) 1 1] W fun e w'=>e=.returned (.int .i64 0)/\tB B E w' K n T1 F1/\uA B E W w'):=fun W hW g hg hA=>by
         have:=FIa.out W hW g hg hA;rw[lN,if_neg (by rw[hm];decide)]at this;exact this
        clear FIa hm;generalize zS Fs vn=x at *;generalize zS R vn=y at *
        refine zM [14] (fun d i u z=>match i with
         |0=>z=.slice (some ⟨gF,0,none⟩) N cF
         |1=>z=.int .i64 (vn:Int)
         |2=>z=.pointer (some ⟨gF,vn,none⟩)
         |3=>z=.int .i64 x
         |4=>z=.pointer (some ⟨xz,1,none⟩)
         |5=>z=.slice (some ⟨rb,0,none⟩) N cr
         |6=>z=.int .i64 (vn:Int)
         |7=>z=.pointer (some ⟨rb,vn,none⟩)
         |8=>z=.int .i64 y
         |9=>z=.bool true
         |10=>z=.bool true
         |11=>z=(qP K)
         |12=>z=.int .i64 (vn:Int)
         |13=>(d 14=false->∃g,z=.slice (some ⟨g,0,none⟩) 1 1/\E<=g/\At u (some ⟨g,0,none⟩) [(vn:Int)])
         |14=>(d 14=true/\z=.int .i64 0)
         |15=>(d 14=true/\z=.bool false)
         |16=>(d 14=true/\z=.bool false)
         |_=>True) (fun d u=>(d 14=false->Below wr.heap.size wr u)/\(d 14=true->tB B E u K n T1 F1/\uA B E wr u)/\uA B E wr u) (by kernel_rfl) (by kernel_rfl) (by kernel_rfl) ?_ ?_ ?_ ?_ ?_ ?_ (by kernel_rfl)
        ·intro d i w v w' h hb
         match i,h with
         |0,h=>exact h
         |1,h=>exact h
         |2,h=>exact h
         |3,h=>exact h
         |4,h=>exact h
         |5,h=>exact h
         |6,h=>exact h
         |7,h=>exact h
         |8,h=>exact h
         |9,h=>exact h
         |10,h=>exact h
         |11,h=>exact h
         |12,h=>exact h
         |13,h=>exact fun e=>by obtain ⟨g,h1,h2,h3⟩:=h e;exact ⟨g,h1,h2,h3.below hb⟩
         |14,h=>exact h
         |15,h=>exact h
         |16,h=>exact h
         |_+17,_=>trivial
        ·intro d u u' h hb
         exact ⟨fun e=>(h.1 e).trans (hb.mono (h.1 e).size),fun e=>⟨(h.2.1 e).1.below hb,(h.2.1 e).2.trans (uA.of_below hb)⟩,h.2.2.trans (uA.of_below hb)⟩
        ·exact ⟨fun _=>Below.refl _ _,fun e=>absurd e (by decide),uA.refl _ _ _⟩
        ·intro d i o ρ w' hm ho hf hg hC hcs hfs hfr zX
         match i,hm,ho,hf,hg,hfr,zX with
         |0,_,ho,hf,hg,hfr,zX=>
          simp only[qS]at ho;subst ho;refine ⟨fun _=>?_,qF⟩
          have ts: ρ (.tmp 18)=.slice (some ⟨gF,0,none⟩) N cF:=(qR hfr 18);simp[go_sem,ts];exact qB
         |1,_,ho,hf,hg,hfr,zX=>
          simp only[qS]at ho;subst ho;refine ⟨fun _=>?_,qF⟩
          have ts: ρ (.tmp 20)=.int .i64 (vn:Int):=(qR hfr 20);simp[go_sem,ts];exact qB
         |2,_,ho,hf,hg,hfr,zX=>
          simp only[qS]at ho;subst ho;refine ⟨fun _=>?_,qF⟩
          have d0: ρ (.tmp 193)=.slice (some ⟨gF,0,none⟩) N cF:=(qH zX 0 193);have d1: ρ (.tmp 194)=.int .i64 (vn:Int):=(qH zX 1 194);simp[go_sem,d0,d1,hvN];exact qB
         |3,_,ho,hf,hg,hfr,zX=>
          simp only[qS]at ho;subst ho;refine ⟨fun _=>?_,qF⟩
          have cc:=zF (hC.2.2.block _ hlc0 hnc0) c0;have d0: ρ (.tmp 195)=.pointer (some ⟨gF,vn,none⟩):=(qH zX 2 195);simp[go_sem,d0,cc];exact qB
         |4,_,ho,hf,hg,hfr,zX=>
          simp only[qS]at ho;subst ho;refine ⟨fun _=>?_,qF⟩
          have ts: ρ (.tmp 9)=(qP xz):=(qR hfr 9);simp[go_sem,ts];exact qB
         |5,_,ho,hf,hg,hfr,zX=>
          simp only[qS]at ho;subst ho;refine ⟨fun _=>?_,qF⟩
          have cc:=zF (hC.2.2.block _ hlc2 hnc2) c2;have d0: ρ (.tmp 197)=.pointer (some ⟨xz,1,none⟩):=(qH zX 4 197);simp[go_sem,d0,cc];exact qB
         |6,_,ho,hf,hg,hfr,zX=>
          simp only[qS]at ho;subst ho;refine ⟨fun _=>?_,qF⟩
          have ts: ρ (.tmp 20)=.int .i64 (vn:Int):=(qR hfr 20);simp[go_sem,ts];exact qB
         |7,_,ho,hf,hg,hfr,zX=>
          simp only[qS]at ho;subst ho;refine ⟨fun _=>?_,qF⟩
          have d0: ρ (.tmp 198)=.slice (some ⟨rb,0,none⟩) N cr:=(qH zX 5 198);have d1: ρ (.tmp 199)=.int .i64 (vn:Int):=(qH zX 6 199);simp[go_sem,d0,d1,hvN];exact qB
         |8,_,ho,hf,hg,hfr,zX=>
          simp only[qS]at ho;subst ho;refine ⟨fun _=>?_,qF⟩
          have cc:=zF (hC.2.2.block _ hlc1 hnc1) c1;have d0: ρ (.tmp 200)=.pointer (some ⟨rb,vn,none⟩):=(qH zX 7 200);simp[go_sem,d0,cc];exact qB
         |9,_,ho,hf,hg,hfr,zX=>
          simp only[qS]at ho;subst ho;refine ⟨fun _=>?_,qF⟩
          have d0: ρ (.tmp 196)=.int .i64 x:=(qH zX 3 196);have d1: ρ (.tmp 201)=.int .i64 y:=(qH zX 8 201);simp[go_sem,d0,d1,hxy];exact qB
         |10,_,ho,hf,hg,hfr,zX=>
          simp only[qS]at ho;subst ho;refine ⟨fun _=>?_,qF⟩
          have d0: ρ (.tmp 202)=.bool true:=(qH zX 9 202);simp[go_sem,d0];exact qB
         |11,_,ho,hf,hg,hfr,zX=>
          simp only[qS]at ho;subst ho;have gd: ρ (.tmp 203)=.bool true:=(qH zX 10 203);refine ⟨fun _=>?_,fun hw=>absurd (show (match ρ (.tmp 203) with|.bool c=>c==true|_=>false)=false from hw) (by rw[gd];decide)⟩
          clear gd;have ts: ρ (.tmp 13)=(qP K):=(qR hfr 13);simp[go_sem,ts];exact qB
         |12,_,ho,hf,hg,hfr,zX=>
          simp only[qS]at ho;subst ho;have gd: ρ (.tmp 203)=.bool true:=(qH zX 10 203);refine ⟨fun _=>?_,fun hw=>absurd (show (match ρ (.tmp 203) with|.bool c=>c==true|_=>false)=false from hw) (by rw[gd];decide)⟩
          clear gd;have ts: ρ (.tmp 20)=.int .i64 (vn:Int):=(qR hfr 20);simp[go_sem,ts];exact qB
         |13,_,ho,hf,hg,hfr,zX=>
          simp only[qS]at ho;subst ho;have gd: ρ (.tmp 203)=.bool true:=(qH zX 10 203);refine ⟨fun _=>?_,fun hw=>absurd (show (match ρ (.tmp 203) with|.bool c=>c==true|_=>false)=false from hw) (by rw[gd];decide)⟩
          clear gd;have t0: ρ (.tmp 205)=.int .i64 (vn:Int):=(qH zX 12 205);simp[go_sem,t0];exact ⟨(Below.refl _ _).alloc (Nat.le_refl _) _,fun _=>⟨w'.heap.size,rfl,Nat.le_trans hEr hC.2.2.size,tT w' (vn:Int)⟩⟩
         |14,hm,_,_,_,_,_=>exact qD hm
         |15,_,ho,hf,hg,hfr,zX=>
          simp only[qS]at ho;subst ho;have gd: ρ (.tmp 203)=.bool true:=(qH zX 10 203);refine ⟨fun _=>?_,fun hw=>absurd (show (match ρ (.tmp 203) with|.bool c=>c==true|_=>false)=false from hw) (by rw[gd];decide)⟩
          clear gd;obtain ⟨qd,t0⟩:d 14=true/\ ρ (.tmp 207)=.int .i64 0:=(qH zX 14 207);simp[go_sem,t0,hcs];exact ⟨Below.refl _ _,qd,rfl⟩
         |16,_,ho,hf,hg,hfr,zX=>
          simp only[qS]at ho;subst ho;refine ⟨fun _=>?_,qF⟩
          have t0: ρ (.tmp 203)=.bool true:=(qH zX 10 203);obtain ⟨qd,t1⟩:d 14=true/\ ρ (.tmp 208)=.bool false:=(qH zX 15 208);simp[go_sem,t0,t1];exact ⟨Below.refl _ _,qd,rfl⟩
         |n+17,_,ho,_,_,_,_=>simp at ho
        ·intro d i o ρ w' hm ho h0 hf hg hC hcs hfs hfr zX
         match i,hm,ho,h0,hf,hg,hfr,zX with
         |0,hm,_,_,_,_,_,_=>exact qD hm
         |1,hm,_,_,_,_,_,_=>exact qD hm
         |2,hm,_,_,_,_,_,_=>exact qD hm
         |3,hm,_,_,_,_,_,_=>exact qD hm
         |4,hm,_,_,_,_,_,_=>exact qD hm
         |5,hm,_,_,_,_,_,_=>exact qD hm
         |6,hm,_,_,_,_,_,_=>exact qD hm
         |7,hm,_,_,_,_,_,_=>exact qD hm
         |8,hm,_,_,_,_,_,_=>exact qD hm
         |9,hm,_,_,_,_,_,_=>exact qD hm
         |10,hm,_,_,_,_,_,_=>exact qD hm
         |11,hm,_,_,_,_,_,_=>exact qD hm
         |12,hm,_,_,_,_,_,_=>exact qD hm
         |13,hm,_,_,_,_,_,_=>exact qD hm
         |14,_,ho,h0,hf,hg,hfr,zX=>
          simp only[qS]at ho;subst ho;have gd: ρ (.tmp 203)=.bool true:=(qH zX 10 203);have t0: ρ (.tmp 204)=(qP K):=(qH zX 11 204);obtain ⟨g,t1,hg,ht⟩:∃g,ρ (.tmp 206)=.slice (some ⟨g,0,none⟩) 1 1/\E<=g/\At w' (some ⟨g,0,none⟩) [(vn:Int)]:=(qH zX 13 206) h0;have FIw:=FI.out w' (hC.1 h0) g hg ht;refine ⟨?_,?_⟩
          ·show (match ρ (.tmp 203) with|.bool c=>c==true|_=>false)=true
           rw[gd];rfl
          simp[go_sem,zC,t0,t1,hfs];refine FIw.mono ?_
          rintro e w'' ⟨rfl,q1,q2⟩
          refine ⟨_,rfl,⟨fun e=>absurd e (by rw[zL];decide),fun _=>⟨q1,(uA.of_below (hC.1 h0)).trans q2⟩,(uA.of_below (hC.1 h0)).trans q2⟩,⟨zL _ _,rfl⟩,?_⟩
          intro i t hi hs
          match i,hi,hs with
          |0,_,hs=>exact hs
          |1,_,hs=>exact hs
          |2,_,hs=>exact hs
          |3,_,hs=>exact hs
          |4,_,hs=>exact hs
          |5,_,hs=>exact hs
          |6,_,hs=>exact hs
          |7,_,hs=>exact hs
          |8,_,hs=>exact hs
          |9,_,hs=>exact hs
          |10,_,hs=>exact hs
          |11,_,hs=>exact hs
          |12,_,hs=>exact hs
          |13,_,hs=>exact fun e=>absurd e (by rw[zL];decide)
          |14,_,hs=>exact absurd hs.1 (by rw[h0];decide)
          |15,_,hs=>exact absurd hs.1 (by rw[h0];decide)
          |16,_,hs=>exact absurd hs.1 (by rw[h0];decide)
          |_+17,_,_=>trivial
         |15,hm,_,_,_,_,_,_=>exact qD hm
         |16,hm,_,_,_,_,_,_=>exact qD hm
         |n+17,_,ho,_,_,_,_,_=>simp at ho
        intro U2 W2 hC2 hS;have e16:U2 16=.bool false:=(hS 16 (by decide) (by intro h;cases h)).2;simp only[yP,e16];simp only[Act.put,qU];clear hS e16;obtain ⟨s2,m2⟩:=hC2.2.1 rfl;have S9:=zZ s2;have B9:=zZ (B1.out.trans (m2.below hBr));have C9:=zZ (C1.out.keep fun y hy=>m2.block _ (C1.out.lt y hy).2 (.inr (C1.out.lt y hy).1));clear hC2 s2 m2
        go_wp2
        go_roundg (N-(vn+1))
        case measure=>omega
        case rel=>exact ⟨vn+1,b,_,_,m1,by omega,rfl,rfl,by go_num,S9.out,C9.out,B9.out,RND.out⟩
      have RND:=zZ (R1.out.skip hvT (fun hl=>absurd hl hxy));generalize zS Fs vn=x at *;generalize zS R vn=y at *
      have hyx:y<=x:=by omega
      refine zM [] (fun d i u z=>match i with
       |0=>z=.slice (some ⟨gF,0,none⟩) N cF
       |1=>z=.int .i64 (vn:Int)
       |2=>z=.pointer (some ⟨gF,vn,none⟩)
       |3=>z=.int .i64 x
       |4=>z=.pointer (some ⟨xz,1,none⟩)
       |5=>z=.slice (some ⟨rb,0,none⟩) N cr
       |6=>z=.int .i64 (vn:Int)
       |7=>z=.pointer (some ⟨rb,vn,none⟩)
       |8=>z=.int .i64 y
       |9=>z=.bool false
       |10=>z=.bool false
       |11=>z=undef
       |12=>z=undef
       |13=>z=undef
       |14=>z=undef
       |15=>z=undef
       |16=>z=.bool false
       |_=>True) (fun d u=>Below wr.heap.size wr u) (by kernel_rfl) (by kernel_rfl) (by kernel_rfl) ?_ ?_ ?_ ?_ ?_ ?_ (by kernel_rfl)
      ·intro d i w v w' h hb
       match i,h with
       |0,h=>exact h
       |1,h=>exact h
       |2,h=>exact h
       |3,h=>exact h
       |4,h=>exact h
       |5,h=>exact h
       |6,h=>exact h
       |7,h=>exact h
       |8,h=>exact h
       |9,h=>exact h
       |10,h=>exact h
       |11,h=>exact h
       |12,h=>exact h
       |13,h=>exact h
       |14,h=>exact h
       |15,h=>exact h
       |16,h=>exact h
       |_+17,_=>trivial
      ·intro d u u' h hb
       exact h.trans (hb.mono h.size)
      ·exact Below.refl _ _
      ·intro d i o ρ w' hm ho hf hg hC hcs hfs hfr zX
       match i,hm,ho,hf,hg,hfr,zX with
       |0,_,ho,hf,hg,hfr,zX=>
        simp only[qS]at ho;subst ho;refine ⟨fun _=>?_,qF⟩
        have ts: ρ (.tmp 18)=.slice (some ⟨gF,0,none⟩) N cF:=(qR hfr 18);simp[go_sem,ts];exact qB
       |1,_,ho,hf,hg,hfr,zX=>
        simp only[qS]at ho;subst ho;refine ⟨fun _=>?_,qF⟩
        have ts: ρ (.tmp 20)=.int .i64 (vn:Int):=(qR hfr 20);simp[go_sem,ts];exact qB
       |2,_,ho,hf,hg,hfr,zX=>
        simp only[qS]at ho;subst ho;refine ⟨fun _=>?_,qF⟩
        have d0: ρ (.tmp 193)=.slice (some ⟨gF,0,none⟩) N cF:=(qH zX 0 193);have d1: ρ (.tmp 194)=.int .i64 (vn:Int):=(qH zX 1 194);simp[go_sem,d0,d1,hvN];exact qB
       |3,_,ho,hf,hg,hfr,zX=>
        simp only[qS]at ho;subst ho;refine ⟨fun _=>?_,qF⟩
        have cc:=zW hC c0;have d0: ρ (.tmp 195)=.pointer (some ⟨gF,vn,none⟩):=(qH zX 2 195);simp[go_sem,d0,cc];exact qB
       |4,_,ho,hf,hg,hfr,zX=>
        simp only[qS]at ho;subst ho;refine ⟨fun _=>?_,qF⟩
        have ts: ρ (.tmp 9)=(qP xz):=(qR hfr 9);simp[go_sem,ts];exact qB
       |5,_,ho,hf,hg,hfr,zX=>
        simp only[qS]at ho;subst ho;refine ⟨fun _=>?_,qF⟩
        have cc:=zW hC c2;have d0: ρ (.tmp 197)=.pointer (some ⟨xz,1,none⟩):=(qH zX 4 197);simp[go_sem,d0,cc];exact qB
       |6,_,ho,hf,hg,hfr,zX=>
        simp only[qS]at ho;subst ho;refine ⟨fun _=>?_,qF⟩
        have ts: ρ (.tmp 20)=.int .i64 (vn:Int):=(qR hfr 20);simp[go_sem,ts];exact qB
       |7,_,ho,hf,hg,hfr,zX=>
        simp only[qS]at ho;subst ho;refine ⟨fun _=>?_,qF⟩
        have d0: ρ (.tmp 198)=.slice (some ⟨rb,0,none⟩) N cr:=(qH zX 5 198);have d1: ρ (.tmp 199)=.int .i64 (vn:Int):=(qH zX 6 199);simp[go_sem,d0,d1,hvN];exact qB
       |8,_,ho,hf,hg,hfr,zX=>
        simp only[qS]at ho;subst ho;refine ⟨fun _=>?_,qF⟩
        have cc:=zW hC c1;have d0: ρ (.tmp 200)=.pointer (some ⟨rb,vn,none⟩):=(qH zX 7 200);simp[go_sem,d0,cc];exact qB
       |9,_,ho,hf,hg,hfr,zX=>
        simp only[qS]at ho;subst ho;refine ⟨fun _=>?_,qF⟩
        have d0: ρ (.tmp 196)=.int .i64 x:=(qH zX 3 196);have d1: ρ (.tmp 201)=.int .i64 y:=(qH zX 8 201);simp[go_sem,d0,d1,hxy];exact qB
       |10,_,ho,hf,hg,hfr,zX=>
        simp only[qS]at ho;subst ho;refine ⟨fun _=>?_,qF⟩
        have d0: ρ (.tmp 202)=.bool false:=(qH zX 9 202);simp[go_sem,d0];exact qB
       |11,_,ho,hf,hg,hfr,zX=>
        simp only[qS]at ho;subst ho;have gd: ρ (.tmp 203)=.bool false:=(qH zX 10 203);exact ⟨fun hw=>absurd (show (match ρ (.tmp 203) with|.bool c=>c==true|_=>false)=true from hw) (by rw[gd];decide),fun _=>rfl⟩
       |12,_,ho,hf,hg,hfr,zX=>
        simp only[qS]at ho;subst ho;have gd: ρ (.tmp 203)=.bool false:=(qH zX 10 203);exact ⟨fun hw=>absurd (show (match ρ (.tmp 203) with|.bool c=>c==true|_=>false)=true from hw) (by rw[gd];decide),fun _=>rfl⟩
       |13,_,ho,hf,hg,hfr,zX=>
        simp only[qS]at ho;subst ho;have gd: ρ (.tmp 203)=.bool false:=(qH zX 10 203);exact ⟨fun hw=>absurd (show (match ρ (.tmp 203) with|.bool c=>c==true|_=>false)=true from hw) (by rw[gd];decide),fun _=>rfl⟩
       |14,_,ho,hf,hg,hfr,zX=>
        simp only[qS]at ho;subst ho;have gd: ρ (.tmp 203)=.bool false:=(qH zX 10 203);exact ⟨fun hw=>absurd (show (match ρ (.tmp 203) with|.bool c=>c==true|_=>false)=true from hw) (by rw[gd];decide),fun _=>rfl⟩
       |15,_,ho,hf,hg,hfr,zX=>
        simp only[qS]at ho;subst ho;have gd: ρ (.tmp 203)=.bool false:=(qH zX 10 203);exact ⟨fun hw=>absurd (show (match ρ (.tmp 203) with|.bool c=>c==true|_=>false)=true from hw) (by rw[gd];decide),fun _=>rfl⟩
       |16,_,ho,hf,hg,hfr,zX=>
        simp only[qS]at ho;subst ho;refine ⟨fun _=>?_,qF⟩
        have d0: ρ (.tmp 203)=.bool false:=(qH zX 10 203);simp[go_sem,d0,hcs];exact qB
       |n+17,_,ho,_,_,_,_=>simp at ho
      ·intro d i o ρ w' hm ho h0 hf hg hC hcs hfs hfr zX
       exact absurd hm (by simp)
      intro V w9 hC9 hS;have e16:V 16=.bool false:=hS 16 (by decide) (by intro h;cases h);simp only[yP,e16];simp only[Act.put,qU];clear hS e16;have S9:=zZ (S1.out.below hC9);have B9:=zZ (B1.out.trans (hC9.mono hBr));have C9:=zZ (C1.out.later hC9);clear hC9
      go_wp2
      go_roundg (N-(vn+1))
      case measure=>omega
      case rel=>exact ⟨vn+1,b,T1,F1,m1,by omega,rfl,rfl,by go_num,S9.out,C9.out,B9.out,RND.out⟩
     have ek:N=vn:=by omega
     subst ek
     cases b with
     |false=>
      obtain ⟨rfl,rfl,hno⟩:=R1.out.no rfl
      have HE:Hid (VD n R T1 F1):=fun v hvb hl=>by
       have hn:=vH hvb
       have e:v=((v.toNat:Nat):Int):=by omega
       rw[e];exact hno v.toNat (by have:=HNt.out;omega) hl
      have EN:=zZ (zTP HX.out R1.out.inn HE.out);clear hno R1 HE IS C1;have c2:=K1.out.z1;have RRw:=zZ K1.out.rr
      go_upto_region 34 with fail
      have OR:=zMQ HX.out;rw[HLI.out,HST.out]at OR
      rcases OR with ⟨o1,o2,o3⟩|⟨o1,o2,o3,o4⟩
      ·have h0:l1=0:=by rw[<- HL1.out,o1];rfl
       subst h0
       have hl2:0<l2:=by rw[<- HL2.out];exact List.length_pos_iff.2 o2
       have hl2I:(0:Int)<(l2:Int):=by omega
       have hl2g:(l2:Int)>0:=hl2I
       have hl2m:l2<=32:=by have:=HL2.out;rw[o3]at this;have h2:=bN n R (wS n R P).2.1 (wS n R P).2.2 n.nodes.toNat;unfold rE at this;have:=HNt.out;omega
       have hFR:F1≠R:=fun e=>o2 (by rw[o3];exact (kJ HF.out).2 (EN.out.1.symm.trans e))
       have FD:Hid (∀ W,tB B E W K n T1 F1->Calls Tryz.prog 10 #[(qP K)] W fun e w'=>∃a cap,e=.returned (.slice a N cap)/\At w' a F1/\Below W.heap.size W w'):=fun W hs=>(FDa.out B E K W T1 F1 hs hFl).mono (by rintro e w' ⟨a',cap,q1,q2,q3⟩;exact ⟨a',cap,q1,q2.at,q3⟩)
       have SI:Hid (∀ W ac cc,At W ac F1->At W (some ⟨rb,0,none⟩) R->Calls Tryz.prog 12 #[.slice ac N cc,.slice (some ⟨rb,0,none⟩) N cr] W fun e w'=>e=.returned (.bool false)/\Below W.heap.size W w'):=fun W ac cc h1 h2=>by
        have q:=eM W F1 R ac (some ⟨rb,0,none⟩) cc cr N hFl HRl.out hN1.1 (by omega) h1 h2;rw[decide_eq_false hFR]at q;exact q
       have CF:Hid (∀ U,IL w n N R Q LI ST d c rb cr e1 0 k1 e2 l2 k2 xn xz xp aq U->Calls Tryz.prog 13 #[.agg #[.int .i64 (N:Int),.slice d n.arcs.length c],.slice e2 l2 k2] U (zQY U 0)):=fun U hU=>by
        have hK:=zSE HK.out HF.out.good.bal HF.out.eq HF.out.fin (fun k hk=>(HF.out.good.win k (by rw[HF.out.good.len];exact hk)).2) (by rw[o3]at o2;exact o2);have q:=UT n d c ST e2 l2 k2 U hU.an.lies (by have:=hU.an.room;omega) HL2.out (by omega) hU.st (by rw[o3];exact zMP HF.out);rw[o3,show jJ n (rE n R P)=0 from hK,HNN.out]at q;exact q
       unfold zQY at CF;have SE:=zZ S1.out;clear o1 o2 o3 EN hFR S1 NW
       refine zM [] (fun d i u z=>match i with
        |0=>z=(qP K)
        |1=>(FrT F1 N u z)
        |2=>z=.pointer (some ⟨xz,1,none⟩)
        |3=>z=.slice (some ⟨rb,0,none⟩) N cr
        |4=>z=.bool false
        |5=>z=.bool false
        |_=>True) (fun d u=>Below wr.heap.size wr u) (by kernel_rfl) (by kernel_rfl) (by kernel_rfl) ?_ ?_ ?_ ?_ ?_ ?_ (by kernel_rfl)
       ·intro d i w v w' h hb
        match i,h with
        |0,h=>exact h
        |1,h=>exact by obtain ⟨ac,cc,h1,h2⟩:=h;exact ⟨ac,cc,h1,h2.below hb⟩
        |2,h=>exact h
        |3,h=>exact h
        |4,h=>exact h
        |5,h=>exact h
        |_+6,_=>trivial
       ·intro d u u' h hb
        exact h.trans (hb.mono h.size)
       ·exact Below.refl _ _
       ·intro d i o ρ w' hm ho hf hg hC hcs hfs hfr zX
        match i,hm,ho,hf,hg,hfr,zX with
        |0,_,ho,hf,hg,hfr,zX=>
         simp only[qS]at ho;subst ho;refine ⟨fun _=>?_,qF⟩
         have ts: ρ (.tmp 13)=(qP K):=(qR hfr 13);simp[go_sem,ts];exact qB
        |1,_,ho,hf,hg,hfr,zX=>
         simp only[qS]at ho;subst ho;refine ⟨fun _=>?_,qF⟩
         have t0: ρ (.tmp 212)=(qP K):=(qH zX 0 212);have FDw:=FD.out w' (SE.out.below hC);simp[go_sem,t0,hfs];exact ⟨rfl,FDw.mono fun e w'' hh=>by obtain ⟨ac,cc,h1,h2,h3⟩:=hh;exact ⟨_,h1,h3,ac,cc,rfl,h2⟩⟩
        |2,_,ho,hf,hg,hfr,zX=>
         simp only[qS]at ho;subst ho;refine ⟨fun _=>?_,qF⟩
         have ts: ρ (.tmp 9)=(qP xz):=(qR hfr 9);simp[go_sem,ts];exact qB
        |3,_,ho,hf,hg,hfr,zX=>
         simp only[qS]at ho;subst ho;refine ⟨fun _=>?_,qF⟩
         have cc:=zW hC c2;have d0: ρ (.tmp 214)=.pointer (some ⟨xz,1,none⟩):=(qH zX 2 214);simp[go_sem,d0,cc];exact qB
        |4,_,ho,hf,hg,hfr,zX=>
         simp only[qS]at ho;subst ho;refine ⟨fun _=>?_,qF⟩
         obtain ⟨ac,cc,t0,ht⟩:FrT F1 N w' (ρ (.tmp 213)):=(qH zX 1 213);have t1: ρ (.tmp 215)=.slice (some ⟨rb,0,none⟩) N cr:=(qH zX 3 215);have SIw:=SI.out w' ac cc ht (RRw.out.below hC);simp[go_sem,t0,t1,hfs];exact ⟨rfl,SIw.mono fun e w'' hh=>⟨_,hh.1,hh.2,rfl⟩⟩
        |5,_,ho,hf,hg,hfr,zX=>
         simp only[qS]at ho;subst ho;refine ⟨fun _=>?_,qF⟩
         have d0: ρ (.tmp 216)=.bool false:=(qH zX 4 216);simp[go_sem,d0];exact qB
        |n+6,_,ho,_,_,_,_=>simp at ho
       ·intro d i o ρ w' hm ho h0 hf hg hC hcs hfs hfr zX
        exact absurd hm (by simp)
       intro V w9 hC9 hS;have e5:V 5=.bool false:=hS 5 (by decide) (by intro h;cases h);simp only[yP,e5];simp only[Act.put,qU];clear hS e5;have K9:=zZ (K1.out.below hC9);have y0:=K9.out.n0;have y1:=K9.out.n1;have p0:=K9.out.p0;have p1:=K9.out.p1;have L9:=zZ K9.out.bw;have CF9:=zZ (CF.out w9 K9.out);clear hC9 c2 CF
       go_wp2_with (first
        |(go_at_call 13;(with_reducible refine CF9.out.mono ?_);rintro e W10 ⟨rfl,b10⟩;have L10:=zZ (L9.out.trans (b10.mono L9.out.size));clear b10)
        |(go_at_call 5;(with_reducible refine (AW.out _).mono ?_);rintro e W11 ⟨rfl,bw⟩;have L11:=zZ (L10.out.trans (bw.mono L10.out.size));clear bw))
       go_ret
       exact ⟨by first|rfl|simp,L11.out⟩
      have h0:l2=0:=by rw[<- HL2.out,o2];rfl
      subst h0
      have hl1:0<l1:=by rw[<- HL1.out];exact List.length_pos_iff.2 o1
      have hFR:F1=R:=EN.out.1.trans ((kJ HF.out).1 o3);have hTS:T1=zH n:=EN.out.2.trans (zTR HF.out o3)
      have hlm:l1<=2048:=by
       have e1:=HF.out.sum;have e2:=(kJ HF.out).1 o3;rw[e2]at e1;have:=HF.out.few;rw[<- HL1.out,o4];omega
      have FD:Hid (∀ W,tB B E W K n T1 F1->Calls Tryz.prog 10 #[(qP K)] W fun e w'=>∃a cap,e=.returned (.slice a N cap)/\At w' a F1/\Below W.heap.size W w'):=fun W hs=>(FDa.out B E K W T1 F1 hs hFl).mono (by rintro e w' ⟨a',cap,q1,q2,q3⟩;exact ⟨a',cap,q1,q2.at,q3⟩)
      have SI:Hid (∀ W ac cc,At W ac F1->At W (some ⟨rb,0,none⟩) R->Calls Tryz.prog 12 #[.slice ac N cc,.slice (some ⟨rb,0,none⟩) N cr] W fun e w'=>e=.returned (.bool true)/\Below W.heap.size W w'):=fun W ac cc h1 h2=>by
       have q:=eM W F1 R ac (some ⟨rb,0,none⟩) cc cr N hFl HRl.out hN1.1 (by omega) h1 h2;rw[decide_eq_true hFR]at q;exact q
      have SIR:Hid (∀ W ac cc,At W ac R->At W (some ⟨rb,0,none⟩) R->Calls Tryz.prog 12 #[.slice ac N cc,.slice (some ⟨rb,0,none⟩) N cr] W fun e w'=>e=.returned (.bool true)/\Below W.heap.size W w'):=fun W ac cc h1 h2=>by
       have q:=eM W R R ac (some ⟨rb,0,none⟩) cc cr N HRl.out HRl.out hN1.1 (by omega) h1 h2;rw[decide_eq_true (show R=R from rfl)]at q;exact q
      have TA:Hid (∀ U,At U e1 LI->Calls Tryz.prog 14 #[.int .i64 (N:Int),.slice e1 l1 k1] U fun e w'=>∃(g c:Nat),e=.returned (.tuple #[.slice (some ⟨g,0,none⟩) N c,.bool true])/\zO U.heap.size w' (some ⟨g,0,none⟩) c R/\Below U.heap.size U w'):=fun U hU=>by
       have q:=IQ n N HNN.out hN1.1 hN1.2 e1 LI k1 U hU (by rw[HL1.out];omega);rw[HL1.out]at q;refine q.mono ?_
       rintro e w' ⟨g,c,Y,h1,h2,h3,h4,h5⟩
       have hln:uY n LI=true:=by rw[<- HLI.out];exact zYK
       rw[hln]at h1 h4;have h6:=h4 rfl;rw[o4,<-HNt.out,zYL HF.out,(kJ HF.out).1 o3]at h6;rw[h6]at h2;exact ⟨g,c,h1,h2,h5⟩
      obtain ⟨lT,hlT⟩:∃q,(zH n).length=q:=⟨_,rfl⟩
      have hlTm:lT<=96:=by rw[<- hlT];unfold zH;rw[List.length_map];exact HS.out.most
      have CNa:Hid (∀ B E K U F,tB B E U K n (zH n) F->Calls Tryz.prog 15 #[(qP K)] U fun e w'=>∃(a:Option Addr) (cap:Nat),e=.returned (.slice a lT cap)/\zO U.heap.size w' a cap (zH n)/\Below U.heap.size U w'):=fun B E K U F hs=>by
       have q:=KU U K n (zH n) F hs;unfold lA at q;rw[hlT]at q;exact q
      have HFI:Hid (∀ F,(xZ n LI (zH n) F).1=l1/\(xZ n LI (zH n) F).2.1=zH n):=fun F=>by
       have:=IO HF.out o3 F;rw[<- o4,HL1.out]at this;exact this
      have SI0:Hid (∀ (U:World) (p q:Option Addr) (k1 k2:Nat),At U p (zH n)->At U q (zH n)->Calls Tryz.prog 12 #[.slice p lT k1,.slice q lT k2] U fun e w'=>e=.returned (.bool true)/\Below U.heap.size U w'):=fun U p q k1 k2 h1 h2=>by
       have q:=zOS U p q (zH n) k1 k2 (by rw[hlT];omega) h1 h2;rw[hlT]at q;exact q
      have SE:=zZ S1.out;have SB:=zZ S1.out;rw[hTS]at SB;have HLt2:=zZ (HLt.out o1);clear o1 o2 o3 o4 EN hFR hTS S1 HLt hlT
      refine zM [] (fun d i u z=>match i with
       |0=>z=(qP K)
       |1=>(FrT F1 N u z)
       |2=>z=.pointer (some ⟨xz,1,none⟩)
       |3=>z=.slice (some ⟨rb,0,none⟩) N cr
       |4=>z=.bool true
       |5=>z=.bool true
       |_=>True) (fun d u=>Below wr.heap.size wr u) (by kernel_rfl) (by kernel_rfl) (by kernel_rfl) ?_ ?_ ?_ ?_ ?_ ?_ (by kernel_rfl)
      ·intro d i w v w' h hb
       match i,h with
       |0,h=>exact h
       |1,h=>exact by obtain ⟨ac,cc,h1,h2⟩:=h;exact ⟨ac,cc,h1,h2.below hb⟩
       |2,h=>exact h
       |3,h=>exact h
       |4,h=>exact h
       |5,h=>exact h
       |_+6,_=>trivial
      ·intro d u u' h hb
       exact h.trans (hb.mono h.size)
      ·exact Below.refl _ _
      ·intro d i o ρ w' hm ho hf hg hC hcs hfs hfr zX
       match i,hm,ho,hf,hg,hfr,zX with
       |0,_,ho,hf,hg,hfr,zX=>
        simp only[qS]at ho;subst ho;refine ⟨fun _=>?_,qF⟩
        have ts: ρ (.tmp 13)=(qP K):=(qR hfr 13);simp[go_sem,ts];exact qB
       |1,_,ho,hf,hg,hfr,zX=>
        simp only[qS]at ho;subst ho;refine ⟨fun _=>?_,qF⟩
        have t0: ρ (.tmp 212)=(qP K):=(qH zX 0 212);have FDw:=FD.out w' (SE.out.below hC);simp[go_sem,t0,hfs];exact ⟨rfl,FDw.mono fun e w'' hh=>by obtain ⟨ac,cc,h1,h2,h3⟩:=hh;exact ⟨_,h1,h3,ac,cc,rfl,h2⟩⟩
       |2,_,ho,hf,hg,hfr,zX=>
        simp only[qS]at ho;subst ho;refine ⟨fun _=>?_,qF⟩
        have ts: ρ (.tmp 9)=(qP xz):=(qR hfr 9);simp[go_sem,ts];exact qB
       |3,_,ho,hf,hg,hfr,zX=>
        simp only[qS]at ho;subst ho;refine ⟨fun _=>?_,qF⟩
        have cc:=zW hC c2;have d0: ρ (.tmp 214)=.pointer (some ⟨xz,1,none⟩):=(qH zX 2 214);simp[go_sem,d0,cc];exact qB
       |4,_,ho,hf,hg,hfr,zX=>
        simp only[qS]at ho;subst ho;refine ⟨fun _=>?_,qF⟩
        obtain ⟨ac,cc,t0,ht⟩:FrT F1 N w' (ρ (.tmp 213)):=(qH zX 1 213);have t1: ρ (.tmp 215)=.slice (some ⟨rb,0,none⟩) N cr:=(qH zX 3 215);have SIw:=SI.out w' ac cc ht (RRw.out.below hC);simp[go_sem,t0,t1,hfs];exact ⟨rfl,SIw.mono fun e w'' hh=>⟨_,hh.1,hh.2,rfl⟩⟩
       |5,_,ho,hf,hg,hfr,zX=>
        simp only[qS]at ho;subst ho;refine ⟨fun _=>?_,qF⟩
        have d0: ρ (.tmp 216)=.bool true:=(qH zX 4 216);simp[go_sem,d0];exact qB
       |n+6,_,ho,_,_,_,_=>simp at ho
      ·intro d i o ρ w' hm ho h0 hf hg hC hcs hfs hfr zX
       exact absurd hm (by simp)
      intro V w9 hC9 hS;have e5:V 5=.bool true:=hS 5 (by decide) (by intro h;cases h);simp only[yP,e5];simp only[Act.put,qU];clear hS e5;have K9:=zZ (K1.out.below hC9);have S9:=zZ (SB.out.below hC9);have y0:=K9.out.n0;have p0:=K9.out.p0;have p1:=K9.out.p1;clear hC9 c2 SE SB FD SI K1
      go_upto_region 37 with fail
      go_upto_region 38 with (go_at_call 14;(with_reducible refine (TA.out w9 K9.out.li).mono ?_);rintro e W10 ⟨gt,ct,rfl,ht,b10⟩;have TT:=zZ ht;have K10:=zZ (K9.out.below b10);have S10:=zZ (S9.out.below b10);clear ht b10)
      clear y0 p0 p1 K9 S9 TA;have y0:=K10.out.n0;have y1:=K10.out.n1
      go_upto_region 39 with (go_at_call 9;(with_reducible refine (NW.out W10 d c K10.out.an).mono ?_);rintro e W11 ⟨K2,E2,rfl,s11,b11⟩;have U11:=zZ s11;have X11:=zZ b11;clear s11 b11)
      have S11:=zZ (S10.out.below X11.out);have T11:=zZ (TT.out.later X11.out);have K11:=zZ (K10.out.below X11.out);have hE2:E<=W10.heap.size:=S10.out.low.2;obtain ⟨B2,hB2⟩:∃q,W10.heap.size=q:=⟨_,rfl⟩
      have KQ:Hid (∀ W,Below B2 W10 W->IL w n N R Q LI ST d c rb cr e1 l1 k1 e2 0 k2 xn xz xp aq W):=fun W hW=>K10.out.below (by rw[hB2];exact hW)
      have hxp2:xp<B2:=by rw[<- hB2];exact block_lt_of_cell K10.out.p0
      have HLt3:Hid (∀ y,e1=some y->y.block<B2):=fun y hy=>by have h1:=HLt2.out y hy;have h2:=S10.out.low.1;rw[hB2]at h2;omega
      rw[hB2]at U11 X11 hE2;have z1:=K11.out.z1;have R11:=zZ (SIR.out W11 (some ⟨gt,0,none⟩) ct T11.out.at K11.out.rr);clear y0 y1 hB2 TT K10 S10 NW
      go_upto_region 41 with (go_at_call 12;(with_reducible refine R11.out.mono ?_);rintro e W12 ⟨rfl,b12⟩;have U12:=zZ (U11.out.below b12);have S12:=zZ (S11.out.below b12);have X12:=zZ (X11.out.trans (b12.mono U11.out.low.1));clear b12)
      clear z1 R11 U11 S11 T11 K11 X11;have hE12:=U12.out.low.2;have hB12:=U12.out.low.1
      go_upto_region 42 with (go_at_call 15;(with_reducible refine (CNa.out B2 E2 K2 W12 _ U12.out).mono ?_);rintro e W13 ⟨aS,cS,rfl,q13,b13⟩;have STr:=zZ (q13.mono hE12);have U13:=zZ (U12.out.below b13);have S13:=zZ (S12.out.below b13);have X13:=zZ (X12.out.trans (b13.mono hB12));clear b13 q13)
      clear U12 S12 X12
      have SI:Hid (∀ (W:World) (p:Option Addr) (k1:Nat),At W p (zH n)->At W aS (zH n)->Calls Tryz.prog 12 #[.slice p lT k1,.slice aS lT cS] W fun e w'=>e=.returned (.bool true)/\Below W.heap.size W w'):=fun W p k1 h1 h2=>SI0.out W p aS k1 cS h1 h2
      have CN:Hid (∀ U F,tB B2 E2 U K2 n (zH n) F->Calls Tryz.prog 15 #[(qP K2)] U fun e w'=>∃(a:Option Addr) (cap:Nat),e=.returned (.slice a lT cap)/\At w' a (zH n)/\Below U.heap.size U w'):=fun U F hs=>(CNa.out B2 E2 K2 U F hs).mono (by rintro e w' ⟨a',cap,q1,q2,q3⟩;exact ⟨a',cap,q1,q2.at,q3⟩)
      have FIb:Hid (∀ (V:World) (F:List Int),tB B2 E2 V K2 n (zH n) F->Below B2 W10 V->∀(W:World),Below V.heap.size V W->Calls Tryz.prog 11 #[(qP K2),.slice e1 l1 k1] W fun e w'=>∃F2,e=.returned (.int .i64 (l1:Int))/\tB B2 E2 w' K2 n (zH n) F2/\uA B2 E2 W w'):=fun V F hs hV W hW=>by
       have q:=kZ W K2 n (zH n) F (hs.below hW) e1 k1 LI ((KQ.out V hV).li.below hW) (by rw[HL1.out];omega) (fun y hy _=>.inl (HLt3.out y hy));rw[HL1.out,(HFI.out F).1,(HFI.out F).2]at q;refine q.mono ?_
       rintro e w' ⟨q1,q2,q3⟩
       exact ⟨_,q1,q2,q3⟩
      have FI:=zZ (FIb.out W13 _ U13.out X13.out);have p0:=(KQ.out W13 X13.out).p0;have hlx:=block_lt_of_cell p0;have hnx:xp<B2\/E2<=xp:=.inl hxp2
      refine zM [3] (fun d i u z=>match i with
       |0=>z=(qP K2)
       |1=>z=(qP xp)
       |2=>z=.slice e1 l1 k1
       |3=>(d 3=true/\z=.int .i64 (l1:Int))
       |4=>z=(qP xp)
       |5=>z=.slice e1 l1 k1
       |6=>z=.int .i64 (l1:Int)
       |7=>(d 3=true/\z=.bool true)
       |8=>(d 3=true/\z=.bool true)
       |9=>z=(qP K2)
       |10=>(d 3=true/\CnU n lT u z)
       |11=>z=.slice aS lT cS
       |12=>(d 3=true/\z=.bool true)
       |13=>(d 3=true/\z=.bool true)
       |14=>(d 3=true/\z=.bool true)
       |_=>True) (fun d u=>(d 3=false->Below W13.heap.size W13 u)/\(d 3=true->∃F2,tB B2 E2 u K2 n (zH n) F2)/\uA B2 E2 W13 u) (by kernel_rfl) (by kernel_rfl) (by kernel_rfl) ?_ ?_ ?_ ?_ ?_ ?_ (by kernel_rfl)
      ·intro d i w v w' h hb
       match i,h with
       |0,h=>exact h
       |1,h=>exact h
       |2,h=>exact h
       |3,h=>exact h
       |4,h=>exact h
       |5,h=>exact h
       |6,h=>exact h
       |7,h=>exact h
       |8,h=>exact h
       |9,h=>exact h
       |10,h=>exact ⟨h.1,by obtain ⟨ac,cc,h1,h2⟩:=h.2;exact ⟨ac,cc,h1,h2.below hb⟩⟩
       |11,h=>exact h
       |12,h=>exact h
       |13,h=>exact h
       |14,h=>exact h
       |_+15,_=>trivial
      ·intro d u u' h hb
       exact ⟨fun e=>(h.1 e).trans (hb.mono (h.1 e).size),fun e=>by obtain ⟨F2,h1⟩:=h.2.1 e;exact ⟨F2,h1.below hb⟩,h.2.2.trans (uA.of_below hb)⟩
      ·exact ⟨fun _=>Below.refl _ _,fun e=>absurd e (by decide),uA.refl _ _ _⟩
      ·intro d i o ρ w' hm ho hf hg hC hcs hfs hfr zX
       match i,hm,ho,hf,hg,hfr,zX with
       |0,_,ho,hf,hg,hfr,zX=>
        simp only[qS]at ho;subst ho;refine ⟨fun _=>?_,qF⟩
        have ts: ρ (.tmp 24)=(qP K2):=(qR hfr 24);simp[go_sem,ts];exact qB
       |1,_,ho,hf,hg,hfr,zX=>
        simp only[qS]at ho;subst ho;refine ⟨fun _=>?_,qF⟩
        have ts: ρ (.tmp 11)=(qP xp):=(qR hfr 11);simp[go_sem,ts];exact qB
       |2,_,ho,hf,hg,hfr,zX=>
        simp only[qS]at ho;subst ho;refine ⟨fun _=>?_,qF⟩
        have cc:=zF (hC.2.2.block _ hlx hnx) p0;have d0: ρ (.tmp 276)=(qP xp):=(qH zX 1 276);simp[go_sem,d0,cc];exact qB
       |3,hm,_,_,_,_,_=>exact qD hm
       |4,_,ho,hf,hg,hfr,zX=>
        simp only[qS]at ho;subst ho;refine ⟨fun _=>?_,qF⟩
        have ts: ρ (.tmp 11)=(qP xp):=(qR hfr 11);simp[go_sem,ts];exact qB
       |5,_,ho,hf,hg,hfr,zX=>
        simp only[qS]at ho;subst ho;refine ⟨fun _=>?_,qF⟩
        have cc:=zF (hC.2.2.block _ hlx hnx) p0;have d0: ρ (.tmp 279)=(qP xp):=(qH zX 4 279);simp[go_sem,d0,cc];exact qB
       |6,_,ho,hf,hg,hfr,zX=>
        simp only[qS]at ho;subst ho;refine ⟨fun _=>?_,qF⟩
        have d0: ρ (.tmp 280)=.slice e1 l1 k1:=(qH zX 5 280);simp[go_sem,d0];exact qB
       |7,_,ho,hf,hg,hfr,zX=>
        simp only[qS]at ho;subst ho;refine ⟨fun _=>?_,qF⟩
        obtain ⟨qd,t0⟩:d 3=true/\ ρ (.tmp 278)=.int .i64 (l1:Int):=(qH zX 3 278);have t1: ρ (.tmp 281)=.int .i64 (l1:Int):=(qH zX 6 281);simp[go_sem,t0,t1];exact ⟨Below.refl _ _,qd,rfl⟩
       |8,_,ho,hf,hg,hfr,zX=>
        simp only[qS]at ho;subst ho;refine ⟨fun _=>?_,qF⟩
        obtain ⟨qd,t0⟩:d 3=true/\ ρ (.tmp 282)=.bool true:=(qH zX 7 282);simp[go_sem,t0];exact ⟨Below.refl _ _,qd,rfl⟩
       |9,_,ho,hf,hg,hfr,zX=>
        simp only[qS]at ho;subst ho;have gd: ρ (.tmp 283)=.bool true:=((qH zX 8 283)).2;refine ⟨fun _=>?_,fun hw=>absurd (show (match ρ (.tmp 283) with|.bool c=>c==true|_=>false)=false from hw) (by rw[gd];decide)⟩
        clear gd;have ts: ρ (.tmp 24)=(qP K2):=(qR hfr 24);simp[go_sem,ts];exact qB
       |10,_,ho,hf,hg,hfr,zX=>
        simp only[qS]at ho;subst ho;have gd: ρ (.tmp 283)=.bool true:=((qH zX 8 283)).2;refine ⟨fun _=>?_,fun hw=>absurd (show (match ρ (.tmp 283) with|.bool c=>c==true|_=>false)=false from hw) (by rw[gd];decide)⟩
        clear gd;have qd:d 3=true:=((qH zX 8 283)).1;have t0: ρ (.tmp 284)=(qP K2):=(qH zX 9 284);obtain ⟨F2,hs2⟩:=hC.2.1 qd;have CNw:=CN.out w' F2 hs2;simp[go_sem,t0,hfs];exact ⟨rfl,CNw.mono fun e w'' hh=>by obtain ⟨ac,cc,h1,h2,h3⟩:=hh;exact ⟨_,h1,h3,qd,ac,cc,rfl,h2⟩⟩
       |11,_,ho,hf,hg,hfr,zX=>
        simp only[qS]at ho;subst ho;have gd: ρ (.tmp 283)=.bool true:=((qH zX 8 283)).2;refine ⟨fun _=>?_,fun hw=>absurd (show (match ρ (.tmp 283) with|.bool c=>c==true|_=>false)=false from hw) (by rw[gd];decide)⟩
        clear gd;have ts: ρ (.tmp 26)=.slice aS lT cS:=(qR hfr 26);simp[go_sem,ts];exact qB
       |12,_,ho,hf,hg,hfr,zX=>
        simp only[qS]at ho;subst ho;have gd: ρ (.tmp 283)=.bool true:=((qH zX 8 283)).2;refine ⟨fun _=>?_,fun hw=>absurd (show (match ρ (.tmp 283) with|.bool c=>c==true|_=>false)=false from hw) (by rw[gd];decide)⟩
        clear gd;obtain ⟨qd,ac,cc,t0,ht⟩:d 3=true/\CnU n lT w' (ρ (.tmp 285)):=(qH zX 10 285);have t1: ρ (.tmp 286)=.slice aS lT cS:=(qH zX 11 286);have SIw:=SI.out w' ac cc ht (STr.out.keep fun y hy=>hC.2.2.block _ (STr.out.lt y hy).2 (.inr (STr.out.lt y hy).1)).at;simp[go_sem,t0,t1,hfs];exact ⟨rfl,SIw.mono fun e w'' hh=>⟨_,hh.1,hh.2,qd,rfl⟩⟩
       |13,_,ho,hf,hg,hfr,zX=>
        simp only[qS]at ho;subst ho;refine ⟨fun _=>?_,qF⟩
        obtain ⟨-,t0⟩:d 3=true/\ ρ (.tmp 283)=.bool true:=(qH zX 8 283);obtain ⟨qd,t1⟩:d 3=true/\ ρ (.tmp 287)=.bool true:=(qH zX 12 287);simp[go_sem,t0,t1];exact ⟨Below.refl _ _,qd,rfl⟩
       |14,_,ho,hf,hg,hfr,zX=>
        simp only[qS]at ho;subst ho;refine ⟨fun _=>?_,qF⟩
        obtain ⟨qd,t0⟩:d 3=true/\ ρ (.tmp 288)=.bool true:=(qH zX 13 288);simp[go_sem,t0];exact ⟨Below.refl _ _,qd,rfl⟩
       |n+15,_,ho,_,_,_,_=>simp at ho
      ·intro d i o ρ w' hm ho h0 hf hg hC hcs hfs hfr zX
       match i,hm,ho,h0,hf,hg,hfr,zX with
       |0,hm,_,_,_,_,_,_=>exact qD hm
       |1,hm,_,_,_,_,_,_=>exact qD hm
       |2,hm,_,_,_,_,_,_=>exact qD hm
       |3,_,ho,h0,hf,hg,hfr,zX=>
        simp only[qS]at ho;subst ho;have t0: ρ (.tmp 275)=(qP K2):=(qH zX 0 275);have t1: ρ (.tmp 277)=.slice e1 l1 k1:=(qH zX 2 277);have FIw:=FI.out w' (hC.1 h0);refine ⟨rfl,?_⟩
        simp[go_sem,zC,t0,t1,hfs];refine FIw.mono ?_
        rintro e w'' ⟨F2,rfl,q1,q2⟩
        refine ⟨_,rfl,⟨fun e=>absurd e (by rw[zL];decide),fun _=>⟨F2,q1⟩,(uA.of_below (hC.1 h0)).trans q2⟩,⟨zL _ _,rfl⟩,?_⟩
        intro i t hi hs
        match i,hi,hs with
        |0,_,hs=>exact hs
        |1,_,hs=>exact hs
        |2,_,hs=>exact hs
        |3,_,hs=>exact absurd hs.1 (by rw[h0];decide)
        |4,_,hs=>exact hs
        |5,_,hs=>exact hs
        |6,_,hs=>exact hs
        |7,_,hs=>exact absurd hs.1 (by rw[h0];decide)
        |8,_,hs=>exact absurd hs.1 (by rw[h0];decide)
        |9,_,hs=>exact hs
        |10,_,hs=>exact absurd hs.1 (by rw[h0];decide)
        |11,_,hs=>exact hs
        |12,_,hs=>exact absurd hs.1 (by rw[h0];decide)
        |13,_,hs=>exact absurd hs.1 (by rw[h0];decide)
        |14,_,hs=>exact absurd hs.1 (by rw[h0];decide)
        |_+15,_,_=>trivial
       |4,hm,_,_,_,_,_,_=>exact qD hm
       |5,hm,_,_,_,_,_,_=>exact qD hm
       |6,hm,_,_,_,_,_,_=>exact qD hm
       |7,hm,_,_,_,_,_,_=>exact qD hm
       |8,hm,_,_,_,_,_,_=>exact qD hm
       |9,hm,_,_,_,_,_,_=>exact qD hm
       |10,hm,_,_,_,_,_,_=>exact qD hm
       |11,hm,_,_,_,_,_,_=>exact qD hm
       |12,hm,_,_,_,_,_,_=>exact qD hm
       |13,hm,_,_,_,_,_,_=>exact qD hm
       |14,hm,_,_,_,_,_,_=>exact qD hm
       |n+15,_,ho,_,_,_,_,_=>simp at ho
      intro U2 W9 hC9 hS;have e14:U2 14=.bool true:=(hS 14 (by decide) (by intro h;cases h)).2;simp only[yP,e14];simp only[Act.put,qU];clear hS e14;obtain ⟨F2,s9⟩:=hC9.2.1 rfl;have U14:=zZ s9;have M14:=zZ hC9.2.2;clear s9 hC9 FI p0 hlx;have S14:=zZ (S13.out.mid M14.out (.inl hE2));have X14:=zZ (X13.out.trans (M14.out.below U13.out.low.1));have STs:=zZ (STr.out.keep fun y hy=>M14.out.block _ (STr.out.lt y hy).2 (.inr (STr.out.lt y hy).1));clear STr S13 X13 U13 M14;have STr:=zZ STs.out;have FI:=zZ (FIb.out W9 _ U14.out X14.out);have p0:=(KQ.out W9 X14.out).p0;have hlx:=block_lt_of_cell p0
      go_upto_region 43 with fail
      refine zM [3] (fun d i u z=>match i with
       |0=>z=(qP K2)
       |1=>z=(qP xp)
       |2=>z=.slice e1 l1 k1
       |3=>(d 3=true/\z=.int .i64 (l1:Int))
       |4=>z=(qP xp)
       |5=>z=.slice e1 l1 k1
       |6=>z=.int .i64 (l1:Int)
       |7=>(d 3=true/\z=.bool true)
       |8=>(d 3=true/\z=.bool true)
       |9=>z=(qP K2)
       |10=>(d 3=true/\CnU n lT u z)
       |11=>z=.slice aS lT cS
       |12=>(d 3=true/\z=.bool true)
       |13=>(d 3=true/\z=.bool true)
       |14=>(d 3=true/\z=.bool true)
       |_=>True) (fun d u=>(d 3=false->Below W9.heap.size W9 u)/\(d 3=true->∃F2,tB B2 E2 u K2 n (zH n) F2)/\uA B2 E2 W9 u) (by kernel_rfl) (by kernel_rfl) (by kernel_rfl) ?_ ?_ ?_ ?_ ?_ ?_ (by kernel_rfl)
      ·intro d i w v w' h hb
       match i,h with
       |0,h=>exact h
       |1,h=>exact h
       |2,h=>exact h
       |3,h=>exact h
       |4,h=>exact h
       |5,h=>exact h
       |6,h=>exact h
       |7,h=>exact h
       |8,h=>exact h
       |9,h=>exact h
       |10,h=>exact ⟨h.1,by obtain ⟨ac,cc,h1,h2⟩:=h.2;exact ⟨ac,cc,h1,h2.below hb⟩⟩
       |11,h=>exact h
       |12,h=>exact h
       |13,h=>exact h
       |14,h=>exact h
       |_+15,_=>trivial
      ·intro d u u' h hb
       exact ⟨fun e=>(h.1 e).trans (hb.mono (h.1 e).size),fun e=>by obtain ⟨F2,h1⟩:=h.2.1 e;exact ⟨F2,h1.below hb⟩,h.2.2.trans (uA.of_below hb)⟩
      ·exact ⟨fun _=>Below.refl _ _,fun e=>absurd e (by decide),uA.refl _ _ _⟩
      ·intro d i o ρ w' hm ho hf hg hC hcs hfs hfr zX
       match i,hm,ho,hf,hg,hfr,zX with
       |0,_,ho,hf,hg,hfr,zX=>
        simp only[qS]at ho;subst ho;refine ⟨fun _=>?_,qF⟩
        have ts: ρ (.tmp 24)=(qP K2):=(qR hfr 24);simp[go_sem,ts];exact qB
       |1,_,ho,hf,hg,hfr,zX=>
        simp only[qS]at ho;subst ho;refine ⟨fun _=>?_,qF⟩
        have ts: ρ (.tmp 11)=(qP xp):=(qR hfr 11);simp[go_sem,ts];exact qB
       |2,_,ho,hf,hg,hfr,zX=>
        simp only[qS]at ho;subst ho;refine ⟨fun _=>?_,qF⟩
        have cc:=zF (hC.2.2.block _ hlx hnx) p0;have d0: ρ (.tmp 290)=(qP xp):=(qH zX 1 290);simp[go_sem,d0,cc];exact qB
       |3,hm,_,_,_,_,_=>exact qD hm
       |4,_,ho,hf,hg,hfr,zX=>
        simp only[qS]at ho;subst ho;refine ⟨fun _=>?_,qF⟩
        have ts: ρ (.tmp 11)=(qP xp):=(qR hfr 11);simp[go_sem,ts];exact qB
       |5,_,ho,hf,hg,hfr,zX=>
        simp only[qS]at ho;subst ho;refine ⟨fun _=>?_,qF⟩
        have cc:=zF (hC.2.2.block _ hlx hnx) p0;have d0: ρ (.tmp 293)=(qP xp):=(qH zX 4 293);simp[go_sem,d0,cc];exact qB
       |6,_,ho,hf,hg,hfr,zX=>
        simp only[qS]at ho;subst ho;refine ⟨fun _=>?_,qF⟩
        have d0: ρ (.tmp 294)=.slice e1 l1 k1:=(qH zX 5 294);simp[go_sem,d0];exact qB
       |7,_,ho,hf,hg,hfr,zX=>
        simp only[qS]at ho;subst ho;refine ⟨fun _=>?_,qF⟩
        obtain ⟨qd,t0⟩:d 3=true/\ ρ (.tmp 292)=.int .i64 (l1:Int):=(qH zX 3 292);have t1: ρ (.tmp 295)=.int .i64 (l1:Int):=(qH zX 6 295);simp[go_sem,t0,t1];exact ⟨Below.refl _ _,qd,rfl⟩
       |8,_,ho,hf,hg,hfr,zX=>
        simp only[qS]at ho;subst ho;refine ⟨fun _=>?_,qF⟩
        obtain ⟨qd,t0⟩:d 3=true/\ ρ (.tmp 296)=.bool true:=(qH zX 7 296);simp[go_sem,t0];exact ⟨Below.refl _ _,qd,rfl⟩
       |9,_,ho,hf,hg,hfr,zX=>
        simp only[qS]at ho;subst ho;have gd: ρ (.tmp 297)=.bool true:=((qH zX 8 297)).2;refine ⟨fun _=>?_,fun hw=>absurd (show (match ρ (.tmp 297) with|.bool c=>c==true|_=>false)=false from hw) (by rw[gd];decide)⟩
        clear gd;have ts: ρ (.tmp 24)=(qP K2):=(qR hfr 24);simp[go_sem,ts];exact qB
       |10,_,ho,hf,hg,hfr,zX=>
        simp only[qS]at ho;subst ho;have gd: ρ (.tmp 297)=.bool true:=((qH zX 8 297)).2;refine ⟨fun _=>?_,fun hw=>absurd (show (match ρ (.tmp 297) with|.bool c=>c==true|_=>false)=false from hw) (by rw[gd];decide)⟩
        clear gd;have qd:d 3=true:=((qH zX 8 297)).1;have t0: ρ (.tmp 298)=(qP K2):=(qH zX 9 298);obtain ⟨F2,hs2⟩:=hC.2.1 qd;have CNw:=CN.out w' F2 hs2;simp[go_sem,t0,hfs];exact ⟨rfl,CNw.mono fun e w'' hh=>by obtain ⟨ac,cc,h1,h2,h3⟩:=hh;exact ⟨_,h1,h3,qd,ac,cc,rfl,h2⟩⟩
       |11,_,ho,hf,hg,hfr,zX=>
        simp only[qS]at ho;subst ho;have gd: ρ (.tmp 297)=.bool true:=((qH zX 8 297)).2;refine ⟨fun _=>?_,fun hw=>absurd (show (match ρ (.tmp 297) with|.bool c=>c==true|_=>false)=false from hw) (by rw[gd];decide)⟩
        clear gd;have ts: ρ (.tmp 26)=.slice aS lT cS:=(qR hfr 26);simp[go_sem,ts];exact qB
       |12,_,ho,hf,hg,hfr,zX=>
        simp only[qS]at ho;subst ho;have gd: ρ (.tmp 297)=.bool true:=((qH zX 8 297)).2;refine ⟨fun _=>?_,fun hw=>absurd (show (match ρ (.tmp 297) with|.bool c=>c==true|_=>false)=false from hw) (by rw[gd];decide)⟩
        clear gd;obtain ⟨qd,ac,cc,t0,ht⟩:d 3=true/\CnU n lT w' (ρ (.tmp 299)):=(qH zX 10 299);have t1: ρ (.tmp 300)=.slice aS lT cS:=(qH zX 11 300);have SIw:=SI.out w' ac cc ht (STr.out.keep fun y hy=>hC.2.2.block _ (STr.out.lt y hy).2 (.inr (STr.out.lt y hy).1)).at;simp[go_sem,t0,t1,hfs];exact ⟨rfl,SIw.mono fun e w'' hh=>⟨_,hh.1,hh.2,qd,rfl⟩⟩
       |13,_,ho,hf,hg,hfr,zX=>
        simp only[qS]at ho;subst ho;refine ⟨fun _=>?_,qF⟩
        obtain ⟨-,t0⟩:d 3=true/\ ρ (.tmp 297)=.bool true:=(qH zX 8 297);obtain ⟨qd,t1⟩:d 3=true/\ ρ (.tmp 301)=.bool true:=(qH zX 12 301);simp[go_sem,t0,t1];exact ⟨Below.refl _ _,qd,rfl⟩
       |14,_,ho,hf,hg,hfr,zX=>
        simp only[qS]at ho;subst ho;refine ⟨fun _=>?_,qF⟩
        obtain ⟨qd,t0⟩:d 3=true/\ ρ (.tmp 302)=.bool true:=(qH zX 13 302);simp[go_sem,t0];exact ⟨Below.refl _ _,qd,rfl⟩
       |n+15,_,ho,_,_,_,_=>simp at ho
      ·intro d i o ρ w' hm ho h0 hf hg hC hcs hfs hfr zX
       match i,hm,ho,h0,hf,hg,hfr,zX with
       |0,hm,_,_,_,_,_,_=>exact qD hm
       |1,hm,_,_,_,_,_,_=>exact qD hm
       |2,hm,_,_,_,_,_,_=>exact qD hm
       |3,_,ho,h0,hf,hg,hfr,zX=>
        simp only[qS]at ho;subst ho;have t0: ρ (.tmp 289)=(qP K2):=(qH zX 0 289);have t1: ρ (.tmp 291)=.slice e1 l1 k1:=(qH zX 2 291);have FIw:=FI.out w' (hC.1 h0);refine ⟨rfl,?_⟩
        simp[go_sem,zC,t0,t1,hfs];refine FIw.mono ?_
        rintro e w'' ⟨F2,rfl,q1,q2⟩
        refine ⟨_,rfl,⟨fun e=>absurd e (by rw[zL];decide),fun _=>⟨F2,q1⟩,(uA.of_below (hC.1 h0)).trans q2⟩,⟨zL _ _,rfl⟩,?_⟩
        intro i t hi hs
        match i,hi,hs with
        |0,_,hs=>exact hs
        |1,_,hs=>exact hs
        |2,_,hs=>exact hs
        |3,_,hs=>exact absurd hs.1 (by rw[h0];decide)
        |4,_,hs=>exact hs
        |5,_,hs=>exact hs
        |6,_,hs=>exact hs
        |7,_,hs=>exact absurd hs.1 (by rw[h0];decide)
        |8,_,hs=>exact absurd hs.1 (by rw[h0];decide)
        |9,_,hs=>exact hs
        |10,_,hs=>exact absurd hs.1 (by rw[h0];decide)
        |11,_,hs=>exact hs
        |12,_,hs=>exact absurd hs.1 (by rw[h0];decide)
        |13,_,hs=>exact absurd hs.1 (by rw[h0];decide)
        |14,_,hs=>exact absurd hs.1 (by rw[h0];decide)
        |_+15,_,_=>trivial
       |4,hm,_,_,_,_,_,_=>exact qD hm
       |5,hm,_,_,_,_,_,_=>exact qD hm
       |6,hm,_,_,_,_,_,_=>exact qD hm
       |7,hm,_,_,_,_,_,_=>exact qD hm
       |8,hm,_,_,_,_,_,_=>exact qD hm
       |9,hm,_,_,_,_,_,_=>exact qD hm
       |10,hm,_,_,_,_,_,_=>exact qD hm
       |11,hm,_,_,_,_,_,_=>exact qD hm
       |12,hm,_,_,_,_,_,_=>exact qD hm
       |13,hm,_,_,_,_,_,_=>exact qD hm
       |14,hm,_,_,_,_,_,_=>exact qD hm
       |n+15,_,ho,_,_,_,_,_=>simp at ho
      intro U2 W15 hC9 hS;have e14:U2 14=.bool true:=(hS 14 (by decide) (by intro h;cases h)).2;simp only[yP,e14];simp only[Act.put,qU];clear hS e14;obtain ⟨F3,s9⟩:=hC9.2.1 rfl;have M15:=zZ hC9.2.2;clear s9 hC9 FI p0 hlx;have S15:=zZ (S14.out.mid M15.out (.inl hE2));have X15:=zZ (X14.out.trans (M15.out.below U14.out.low.1));have STt:=zZ (STr.out.keep fun y hy=>M15.out.block _ (STr.out.lt y hy).2 (.inr (STr.out.lt y hy).1));have L15:=zZ (KQ.out W15 X15.out).bw;have C15:=zZ (CNa.out B E K W15 _ S15.out);clear STr S14 X14 U14 M15 STs CN FIb KQ
      go_wp2_with (first
       |(go_at_call 15;(with_reducible refine C15.out.mono ?_);rintro e W16 ⟨aC,cC,rfl,q16,b16⟩;have L16:=zZ (L15.out.trans (b16.mono L15.out.size));have S16:=zZ (SI.out W16 aC cC q16.at (STt.out.at.below b16));clear q16 b16)
       |(go_at_call 12;(with_reducible refine S16.out.mono ?_);rintro e W17 ⟨rfl,b17⟩;have L17:=zZ (L16.out.trans (b17.mono L16.out.size));clear b17)
       |(go_at_call 5;(with_reducible refine (AW.out _).mono ?_);rintro e W18 ⟨rfl,bw⟩;have L18:=zZ (L17.out.trans (bw.mono L17.out.size));clear bw))
      go_ret
      exact ⟨by first|rfl|simp,L18.out⟩
     |true=>
      have hy:=R1.out.yes rfl;have I2:=zZ R1.out.inn;have hsm:=IS.out.sum;clear R1
      go_wp2
      go_roundg (2049-(q+1))
      case measure=>omega
      case rel=>exact ⟨q+1,T1,F1,m1,by omega,rfl,by go_num,S1.out,I2.out,by push_cast;omega,B1.out⟩
 have hl0:l1=0:=by rw[<- HL1.out,<-HLI.out];unfold rD;rw[if_neg (by rw[HX.out];exact he)];rfl
 have hl9:l2=0:=by rw[<- HL2.out,<-HST.out];unfold nK;rw[if_neg (by rw[HX.out];exact he)];rfl
 subst hl0;subst hl9
 rcases zYI P HO.out with e3|e3|e3
 ·exact absurd (HX.out.symm.trans e3) he
 ·rw [HX.out]at e3
  subst e3;clear NW FDa
  go_wp2_with (go_at_call 5;(with_reducible refine (AW.out _).mono ?_);rintro e W8 ⟨rfl,bw⟩;have L8:=zZ (L7.out.trans (bw.mono L7.out.size));clear bw)
  go_ret
  exact ⟨by first|rfl|simp,L8.out⟩
 rw[HX.out]at e3;subst e3;clear NW FDa
 go_wp2_with (go_at_call 5;(with_reducible refine (AW.out _).mono ?_);rintro e W8 ⟨rfl,bw⟩;have L8:=zZ (L7.out.trans (bw.mono L7.out.size));clear bw)
 go_ret
 exact ⟨by first|rfl|simp,L8.out⟩
end Go.Proofs.YtpohmekkdjdhmaaGreat
