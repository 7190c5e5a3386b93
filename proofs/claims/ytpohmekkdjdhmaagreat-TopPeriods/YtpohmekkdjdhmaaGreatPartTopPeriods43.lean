/- Texts of one chain. -/
import Derived.Test.YtpohmekkdjdhmaaGreatPartQ
import Derived.Test.YtpohmekkdjdhmaaGreatPartTopPeriods41
set_option maxRecDepth 100000
set_option maxHeartbeats 8000000
namespace Go.Proofs.YtpohmekkdjdhmaaGreat
open Go.ChangeShapes Go.WideShapes Go.ChangeAt Go.RowKit
def arV (p:NA):Value:=.agg #[.int .i64 p.f,.int .i64 p.t,.int .i64 p.g,.int .i64 p.k,.int .i64 p.s]
theorem EJ {A:List NA} {x:Int × Bool} :LM A x=true↔0<=x.1/\x.1<(A.length:Int):=by unfold LM;simp
theorem EI:(Tryz.prog.info? 61).map (·.size)=some 5:=by kernel_rfl
theorem eU (A:List NA) (x:Int × Bool) (m:Int) (a:Option Addr) (c:Nat) (w:World) (ha:vN w a A) (hx:LM A x=true):
 Calls Tryz.prog 50 #[.agg #[.int .i64 m,.slice a A.length c],.agg #[.int .i64 x.1,.bool x.2]] w fun e w'=>e=.returned (arV (oE A x))/\Below w.heap.size w w':=by
 obtain ⟨z,b⟩:=x;obtain ⟨h0,h1⟩:=EJ.1 hx;simp only at h0 h1;obtain ⟨j,rfl⟩:∃j:Nat,z=(j:Int):=⟨z.toNat,by omega⟩
 have hj:j<A.length:=by omega
 clear hx h0 h1;have b0:=(Below.refl w.heap.size w).alloc (Nat.le_refl _) (.cells #[.int .i64 m,.slice a A.length c] 30);have b1:=b0.alloc b0.size (.cells #[.int .i64 (j:Int),.bool b] 122);have b2:=b1.alloc b1.size (.cells #[.int .i64 0,.int .i64 0,.int .i64 0,.int .i64 0,.int .i64 0] 61);have hs1:(w.alloc (.cells #[.int .i64 m,.slice a A.length c] 30)).heap.size=w.heap.size+1:=World.size_alloc _ _
 have hs2:((w.alloc (.cells #[.int .i64 m,.slice a A.length c] 30)).alloc (.cells #[.int .i64 (j:Int),.bool b] 122)).heap.size=w.heap.size+2:=by rw[World.size_alloc,hs1]
 have X0:=zZ (((zV 30 w #[.int .i64 m,.slice a A.length c]).below ((Below.refl _ _).alloc (Nat.le_refl _) (.cells #[.int .i64 (j:Int),.bool b] 122))).below ((Below.refl _ _).alloc (Nat.le_refl _) (.cells #[.int .i64 0,.int .i64 0,.int .i64 0,.int .i64 0,.int .i64 0] 61)));have xz:=(zV 122 (w.alloc (.cells #[.int .i64 m,.slice a A.length c] 30)) #[.int .i64 (j:Int),.bool b]).below ((Below.refl _ _).alloc (Nat.le_refl _) (.cells #[.int .i64 0,.int .i64 0,.int .i64 0,.int .i64 0,.int .i64 0] 61));rw[hs1]at xz;have XS:=zZ xz;have xr:=zV 61 ((w.alloc (.cells #[.int .i64 m,.slice a A.length c] 30)).alloc (.cells #[.int .i64 (j:Int),.bool b] 122)) #[.int .i64 0,.int .i64 0,.int .i64 0,.int .i64 0,.int .i64 0];rw[hs2]at xr;have XR:=zZ xr;have B1:=zZ b2;obtain ⟨nb1,no1,en,-,hcn⟩:=TZ (ha.below b2) j hj;obtain ⟨a0,a1,a2,a3,a4⟩:=hcn j hj;have hT:oE A ((j:Int),b)=if b=true then ⟨(zU A j).t,(zU A j).f,(zU A j).k,(zU A j).g,(zU A j).s⟩ else zU A j:=rfl;rw[hT];clear b0 b1 b2 hs1 hs2 xz xr ha hcn hT;generalize zU A j=E at *;obtain ⟨f,t,g,k,s⟩:=E;simp only at a0 a1 a2 a3 a4 ⊢
 have hjI:(j:Int)<(A.length:Int):=by omega
 subst en;have y1:=X0.out.cell (k:=1) rfl;have s0:=XS.out.cell (k:=0) rfl;have s1:=XS.out.cell (k:=1) rfl;simp only[List.getElem_toArray,List.getElem_cons_zero,List.getElem_cons_succ]at y1 s0 s1;unfold arV
 cases b with
 |false=>
  simp only[Bool.false_eq_true,if_false]
  go_enter Tryz.func50,Tryz.ntmps50
  go_upto_region 1 with fail
  generalize ((w.alloc (.cells #[.int .i64 m,.slice (some ⟨nb1,no1,none⟩) A.length c] 30)).alloc (.cells #[.int .i64 (j:Int),.bool false] 122)).alloc (.cells #[.int .i64 0,.int .i64 0,.int .i64 0,.int .i64 0,.int .i64 0] 61)=W0 at *
  go_upto_region 2 with fail
  have bb:=(Below.refl W0.heap.size W0).alloc (Nat.le_refl _) (.cells #[.int .i64 f,.int .i64 t,.int .i64 g,.int .i64 k,.int .i64 s] 61);have XA:=zZ (zV 61 W0 #[.int .i64 f,.int .i64 t,.int .i64 g,.int .i64 k,.int .i64 s]);have L1:=zZ (B1.out.trans (bb.mono B1.out.size));have s1':=zW bb s1;have R1:=zZ (XR.out.below bb);obtain ⟨xb,hxb⟩:∃q,W0.heap.size=q:=⟨_,rfl⟩
  have hxw:w.heap.size+2<xb:=by rw[<- hxb];exact XR.out.lt
  rw[hxb]at XA ⊢;generalize W0.alloc (.cells #[.int .i64 f,.int .i64 t,.int .i64 g,.int .i64 k,.int .i64 s] 61)=W1 at *;have x0:=XA.out.cell (k:=0) rfl;have x1:=XA.out.cell (k:=1) rfl;have x2:=XA.out.cell (k:=2) rfl;have x3:=XA.out.cell (k:=3) rfl;have x4:=XA.out.cell (k:=4) rfl;simp only[List.getElem_toArray,List.getElem_cons_zero,List.getElem_cons_succ]at x0 x1 x2 x3 x4;clear bb hxb a0 a1 a2 a3 a4 y1 s0 s1 X0 XS XR B1
  go_upto_region 4 with fail
  go_wp2_with (refine xD _ rfl 61 (.tmp 4) (.tmp 26) rfl rfl (w.heap.size+2) 61 _ _ rfl rfl R1.out EI rfl rfl ?_;intro w8 hN hU;have N8:=zZ hN;have U8:=zZ hU;clear hN hU)
  have r0:=N8.out.cell (k:=0) rfl;have r1:=N8.out.cell (k:=1) rfl;have r2:=N8.out.cell (k:=2) rfl;have r3:=N8.out.cell (k:=3) rfl;have r4:=N8.out.cell (k:=4) rfl;simp only[List.getElem_toArray,List.getElem_cons_zero,List.getElem_cons_succ]at r0 r1 r2 r3 r4;refine bodyPost_ret (v:=.agg #[.int .i64 f,.int .i64 t,.int .i64 g,.int .i64 k,.int .i64 s]) (by simp[results,Tryz.results50,go_sem,r0,r1,r2,r3,r4]) rfl ?_
  exact ⟨rfl,L1.out.trans (U8.out.below (Nat.le_add_right _ 2) L1.out.size)⟩
 |true=>
  simp only[if_true]
  go_enter Tryz.func50,Tryz.ntmps50
  go_upto_region 1 with fail
  generalize ((w.alloc (.cells #[.int .i64 m,.slice (some ⟨nb1,no1,none⟩) A.length c] 30)).alloc (.cells #[.int .i64 (j:Int),.bool true] 122)).alloc (.cells #[.int .i64 0,.int .i64 0,.int .i64 0,.int .i64 0,.int .i64 0] 61)=W0 at *
  go_upto_region 2 with fail
  have bb:=(Below.refl W0.heap.size W0).alloc (Nat.le_refl _) (.cells #[.int .i64 f,.int .i64 t,.int .i64 g,.int .i64 k,.int .i64 s] 61);have XA:=zZ (zV 61 W0 #[.int .i64 f,.int .i64 t,.int .i64 g,.int .i64 k,.int .i64 s]);have L1:=zZ (B1.out.trans (bb.mono B1.out.size));have s1':=zW bb s1;have R1:=zZ (XR.out.below bb);obtain ⟨xb,hxb⟩:∃q,W0.heap.size=q:=⟨_,rfl⟩
  have hxw:w.heap.size+2<xb:=by rw[<- hxb];exact XR.out.lt
  rw[hxb]at XA ⊢;generalize W0.alloc (.cells #[.int .i64 f,.int .i64 t,.int .i64 g,.int .i64 k,.int .i64 s] 61)=W1 at *;have x0:=XA.out.cell (k:=0) rfl;have x1:=XA.out.cell (k:=1) rfl;have x2:=XA.out.cell (k:=2) rfl;have x3:=XA.out.cell (k:=3) rfl;have x4:=XA.out.cell (k:=4) rfl;simp only[List.getElem_toArray,List.getElem_cons_zero,List.getElem_cons_succ]at x0 x1 x2 x3 x4;clear bb hxb a0 a1 a2 a3 a4 y1 s0 s1 X0 XS XR B1
  go_upto_region 3 with fail
  have fz0:=XA.out.frozen 0;have fz1:=XA.out.frozen 1;have fz2:=XA.out.frozen 2;have fz3:=XA.out.frozen 3
  go_upto_region 4 with fail
  have q1:=(((XA.out.set 0 (.int .i64 t)).set 1 (.int .i64 f)).set 2 (.int .i64 k)).set 3 (.int .i64 g);simp only[List.setIfInBounds_toArray,List.set_cons_zero,List.set_cons_succ]at q1;have q2:=(((xX.set W1 xb 0 (.int .i64 t)).trans (xX.set _ xb 1 (.int .i64 f))).trans (xX.set _ xb 2 (.int .i64 k))).trans (xX.set _ xb 3 (.int .i64 g));have q3:=R1.out.keep (q2.block _ R1.out.lt (by omega));have q4:=L1.out.trans (q2.below (show w.heap.size<=xb by omega) L1.out.size);generalize (((W1.setCell ⟨xb,0,none⟩ (.int .i64 t)).setCell ⟨xb,1,none⟩ (.int .i64 f)).setCell ⟨xb,2,none⟩ (.int .i64 k)).setCell ⟨xb,3,none⟩ (.int .i64 g)=W2 at *;clear R1 L1 XA x0 x1 x2 x3 x4 fz0 fz1 fz2 fz3 q2;have R1:=zZ q3;have L1:=zZ q4;have x0:=q1.cell (k:=0) rfl;have x1:=q1.cell (k:=1) rfl;have x2:=q1.cell (k:=2) rfl;have x3:=q1.cell (k:=3) rfl;have x4:=q1.cell (k:=4) rfl;simp only[List.getElem_toArray,List.getElem_cons_zero,List.getElem_cons_succ]at x0 x1 x2 x3 x4;clear q1 q3 q4
  go_wp2_with (refine xD _ rfl 61 (.tmp 4) (.tmp 26) rfl rfl (w.heap.size+2) 61 _ _ rfl rfl R1.out EI rfl rfl ?_;intro w8 hN hU;have N8:=zZ hN;have U8:=zZ hU;clear hN hU)
  have r0:=N8.out.cell (k:=0) rfl;have r1:=N8.out.cell (k:=1) rfl;have r2:=N8.out.cell (k:=2) rfl;have r3:=N8.out.cell (k:=3) rfl;have r4:=N8.out.cell (k:=4) rfl;simp only[List.getElem_toArray,List.getElem_cons_zero,List.getElem_cons_succ]at r0 r1 r2 r3 r4;refine bodyPost_ret (v:=.agg #[.int .i64 t,.int .i64 f,.int .i64 k,.int .i64 g,.int .i64 s]) (by simp[results,Tryz.results50,go_sem,r0,r1,r2,r3,r4]) rfl ?_
  exact ⟨rfl,L1.out.trans (U8.out.below (Nat.le_add_right _ 2) L1.out.size)⟩
theorem TV (A:List NA) (m:Int) (a:Option Addr) (c:Nat) (L:List (Int × Bool)) (la:Option Addr) (lc:Nat) (w:World) (ha:vN w a A) (hl:JI w la L) (hN:L.length<=4611686018427387904):
 Calls Tryz.prog 47 #[.agg #[.int .i64 m,.slice a A.length c],.slice la L.length lc] w fun e w'=>e=.returned (.bool (LJ A L))/\Below w.heap.size w w':=by
 obtain ⟨N,hLN⟩:∃N,L.length=N:=⟨_,rfl⟩;have HLN:=zZ hLN;rw[hLN]at hN ⊢;have b0:=(Below.refl w.heap.size w).alloc (Nat.le_refl _) (.cells #[.int .i64 m,.slice a A.length c] 30);have X0:=zZ (zV 30 w #[.int .i64 m,.slice a A.length c]);have B0:=zZ b0;have HA:=zZ (ha.below b0);have HL:=zZ (hl.below b0);clear b0 ha hl hLN
 go_enter Tryz.func47,Tryz.ntmps47
 go_upto_region 1 with fail
 generalize w.alloc (.cells #[.int .i64 m,.slice a A.length c] 30)=W0 at *
 go_wp2
 go_loopg [9] N (fun gk v wr=>∃k:Nat,k<=N/\gk=N-k/\v=.int .i64 (k:Int)/\Below W0.heap.size W0 wr/\∀i,i<k->LM A (xY L i)=true)
 case atStart=>exact ⟨0,Nat.zero_le _,rfl,rfl,Below.refl _ _,fun i hi=>absurd hi (Nat.not_lt_zero _)⟩
 case round=>
  obtain ⟨k,hkN,rfl,rfl,hBr,hI⟩:=hrel;have BR:=zZ hBr;have HI:=zZ hI;clear hBr hI
  by_cases hlt:k<N
  ·have hki:(k:Int)<(N:Int):=by omega
   have HT:=HLN.out
   rcases HL.out.below BR.out with e|⟨lb,lo,el,hcl⟩
   ·rw [e]at HT;simp at HT;omega
   obtain ⟨c0,c1⟩:=hcl k (by omega);subst el;have HX:Hid (xY L k=xY L k):=rfl
   revert HX
   generalize hx:xY L k=x at c0 c1;have HX:=zZ hx;clear hx hcl HT;intro _;obtain ⟨z,b⟩:=x;simp only at c0 c1
   go_upto_region 4 with fail
   have bs:=(Below.refl wr.heap.size wr).alloc (Nat.le_refl _) (.cells #[.int .i64 z,.bool b] 122);have XS:=zZ (zV 122 wr #[.int .i64 z,.bool b]);have BS:=zZ (BR.out.trans (bs.mono BR.out.size));obtain ⟨sb,hsb⟩:∃q,wr.heap.size=q:=⟨_,rfl⟩;rw[hsb]at XS ⊢;generalize wr.alloc (.cells #[.int .i64 z,.bool b] 122)=V1 at *;clear bs hsb c0 c1;have s0:=XS.out.cell (k:=0) rfl;have s1:=XS.out.cell (k:=1) rfl;have XN:=zZ (X0.out.below BS.out);have y0:=XN.out.cell (k:=0) rfl;have y1:=XN.out.cell (k:=1) rfl;simp only[List.getElem_toArray,List.getElem_cons_zero,List.getElem_cons_succ]at s0 s1 y0 y1
   by_cases h0:z<0
   ·have HF:Hid (LJ A L=false):=by
     refine rV (i:=k) (by rw[HLN.out];exact hlt) ?_
     rw[HX.out];unfold LM;simp;omega
    go_wp2
    go_ret
    exact ⟨by rw[HF.out];rfl,B0.out.trans (BS.out.mono B0.out.size)⟩
   by_cases h1:(A.length:Int)<=z
   ·have HF:Hid (LJ A L=false):=by
     refine rV (i:=k) (by rw[HLN.out];exact hlt) ?_
     rw[HX.out];unfold LM;simp;omega
    go_wp2
    go_ret
    exact ⟨by rw[HF.out];rfl,B0.out.trans (BS.out.mono B0.out.size)⟩
   go_wp2
   go_roundg (N-(k+1))
   case measure=>omega
   case rel=>
    refine ⟨k+1,by omega,rfl,by go_num,BS.out,fun i hi=>?_⟩
    by_cases e:i=k
    ·rw [e,HX.out]
     unfold LM;simp;omega
    exact HI.out i (by omega)
  have ek:k=N:=by omega
  subst ek
  have hki:¬(k:Int)<(k:Int):=by omega
  have HF:Hid (LJ A L=true):=wK.2 fun i hi=>HI.out i (by rw[HLN.out]at hi;exact hi)
  go_wp2
  go_ret
  exact ⟨by rw[HF.out];rfl,B0.out.trans (BR.out.mono B0.out.size)⟩
theorem TU (A:List NA) (m:Int) (a:Option Addr) (c:Nat) (L:List (Int × Bool)) (la:Option Addr) (lc:Nat) (w:World) (ha:vN w a A) (hl:JI w la L) (hN:L.length<=4611686018427387904) (h0:0<L.length) (hm:LJ A L=true):
 Calls Tryz.prog 48 #[.agg #[.int .i64 m,.slice a A.length c],.slice la L.length lc] w fun e w'=>e=.returned (.bool (hmW A L))/\Below w.heap.size w w':=by
 have HM:=zZ hm;obtain ⟨K,hK⟩:∃K,L.length=K+1:=⟨L.length-1,by omega⟩
 rcases hl with e|⟨lb,lo,el,hcl⟩
 ·rw [e]at h0;exact absurd h0 (Nat.not_lt_zero _)
 subst el;have hl:JI w (some ⟨lb,lo,none⟩) L:=.inr ⟨lb,lo,rfl,hcl⟩;clear hcl hm h0;obtain ⟨N,hLN⟩:∃N,L.length=N:=⟨_,rfl⟩;have HLN:=zZ hLN;rw[hLN]at hN ⊢;have b0:=(Below.refl w.heap.size w).alloc (Nat.le_refl _) (.cells #[.int .i64 m,.slice a A.length c] 30);have X0:=zZ (zV 30 w #[.int .i64 m,.slice a A.length c]);have B0:=zZ b0;have HA:=zZ (ha.below b0);have HL:=zZ (hl.below b0);clear b0 ha hl hLN
 have hNK:N=K+1:=by rw[<- HLN.out];exact hK
 have hKN:K<N:=by omega
 have hwK:IntKind.i64.wrap ((N:Int)-1)=(K:Int):=by rw[IntKind.wrap_i64];omega
 clear hK;have HNK:=zZ hNK;clear hNK
 go_enter Tryz.func48,Tryz.ntmps48
 go_upto_region 1 with fail
 generalize w.alloc (.cells #[.int .i64 m,.slice a A.length c] 30)=W0 at *
 have HTK:Hid (∀ x U,x ∈ L->Below W0.heap.size W0 U->Calls Tryz.prog 50 #[.agg #[.int .i64 m,.slice a A.length c],.agg #[.int .i64 x.1,.bool x.2]] U fun e w'=>e=.returned (arV (oE A x))/\Below U.heap.size U w'):=fun x U hx hU=>eU A x m a c U (HA.out.below hU) (mF.1 HM.out x hx)
 have y0:=X0.out.cell (k:=0) rfl;have y1:=X0.out.cell (k:=1) rfl;simp only[List.getElem_toArray,List.getElem_cons_zero,List.getElem_cons_succ]at y0 y1
 obtain ⟨c0,c1⟩:W0.cell? ⟨lb,lo+K*2,none⟩=some (.int .i64 (xY L K).1)/\W0.cell? ⟨lb,lo+K*2+1,none⟩=some (.bool (xY L K).2):=by
  rcases HL.out with e|⟨lb',lo',el,hcl⟩
  ·have:=HLN.out;rw[e]at this;simp at this;omega
  cases el;exact hcl K (by rw[HLN.out];exact hKN)
 have HQ:Hid (jV A (xY L (UY N 0))=(oE A (xY L K)).t):=by
  show _=_
  have:UY N 0=K:=by unfold UY;rw[if_pos rfl];have:=HNK.out;omega
  rw[this];rfl
 have TKK:=zZ (fun U hU=>HTK.out (xY L K) U (by rw[wR (by rw[HLN.out];exact hKN)];exact List.getElem_mem _) hU);unfold arV at TKK;obtain ⟨xx,hxx⟩:∃x,xY L K=x:=⟨_,rfl⟩;rw[hxx]at TKK c0 c1 HQ;obtain ⟨z,b⟩:=xx;simp only at c0 c1 TKK;generalize oE A (z,b)=Q0 at TKK HQ;obtain ⟨qf,qt,qg,qk,qs⟩:=Q0;simp only at TKK HQ;clear hxx
 refine zM [] (fun d_ i u_ z_=>match i with
  |0=>z_=.agg #[.int .i64 m,.slice a A.length c]
  |1=>z_=.slice (some ⟨lb,lo,none⟩) N lc
  |2=>z_=.slice (some ⟨lb,lo,none⟩) N lc
  |3=>z_=.int .i64 (N:Int)
  |4=>z_=.int .i64 (K:Int)
  |5=>z_=.pointer (some ⟨lb,lo+K*2,none⟩)
  |6=>z_=.agg #[.int .i64 z,.bool b]
  |7=>z_=.agg #[.int .i64 qf,.int .i64 qt,.int .i64 qg,.int .i64 qk,.int .i64 qs]
  |8=>z_=.int .i64 qt
  |9=>z_=.int .i64 qt
  |_=>True) (fun d_ u_=>Below W0.heap.size W0 u_) (by kernel_rfl) (by kernel_rfl) (by kernel_rfl) ?_ ?_ ?_ ?_ ?_ ?_ (by kernel_rfl)
 ·intro d_ i w_ v_ w' h hb
  match i,h with
  |0,h=>exact h
  |1,h=>exact h
  |2,h=>exact h
  |3,h=>exact h
  |4,h=>exact h
  |5,h=>exact h
  |6,h=>exact h
  |7,h=>exact h
  |8,h=>exact h
  |9,h=>exact h
  |_+10,_=>trivial
 ·intro d_ u_ u' h hb
  exact h.trans (hb.mono h.size)
 ·exact Below.refl _ _
 ·intro d_ i o ρ w' hm ho hf hg hC hcs hfs hfr zX
  match i,hm,ho,hf,hg,hfr,zX with
  |0,_,ho,hf,hg,hfr,zX=>
   simp only[qS]at ho;subst ho;refine ⟨fun _=>?_,qF⟩
   have ts: ρ (.tmp 2)=(qP w.heap.size):=(qR hfr 2);have k0:=zW hC y0;have k1:=zW hC y1;simp[go_sem,ts,k0,k1];exact qB
  |1,_,ho,hf,hg,hfr,zX=>
   simp only[qS]at ho;subst ho;refine ⟨fun _=>?_,qF⟩
   have ts: ρ (.tmp 1)=.slice (some ⟨lb,lo,none⟩) N lc:=(qR hfr 1);simp[go_sem,ts];exact qB
  |2,_,ho,hf,hg,hfr,zX=>
   simp only[qS]at ho;subst ho;refine ⟨fun _=>?_,qF⟩
   have ts: ρ (.tmp 1)=.slice (some ⟨lb,lo,none⟩) N lc:=(qR hfr 1);simp[go_sem,ts];exact qB
  |3,_,ho,hf,hg,hfr,zX=>
   simp only[qS]at ho;subst ho;refine ⟨fun _=>?_,qF⟩
   have d0: ρ (.tmp 11)=.slice (some ⟨lb,lo,none⟩) N lc:=(qH zX 2 11);simp[go_sem,d0];exact qB
  |4,_,ho,hf,hg,hfr,zX=>
   simp only[qS]at ho;subst ho;refine ⟨fun _=>?_,qF⟩
   have d0: ρ (.tmp 12)=.int .i64 (N:Int):=(qH zX 3 12);simp[go_sem,d0,hwK,hcs];exact qB
  |5,_,ho,hf,hg,hfr,zX=>
   simp only[qS]at ho;subst ho;refine ⟨fun _=>?_,qF⟩
   have d0: ρ (.tmp 10)=.slice (some ⟨lb,lo,none⟩) N lc:=(qH zX 1 10);have d1: ρ (.tmp 13)=.int .i64 (K:Int):=(qH zX 4 13);simp[go_sem,d0,d1,hKN];exact qB
  |6,_,ho,hf,hg,hfr,zX=>
   simp only[qS]at ho;subst ho;refine ⟨fun _=>?_,qF⟩
   have k0:=zW hC c0;have k1:=zW hC c1;have d0: ρ (.tmp 14)=.pointer (some ⟨lb,lo+K*2,none⟩):=(qH zX 5 14);simp[go_sem,d0,k0,k1];exact qB
  |7,_,ho,hf,hg,hfr,zX=>
   simp only[qS]at ho;subst ho;refine ⟨fun _=>?_,qF⟩
   have t0: ρ (.tmp 9)=.agg #[.int .i64 m,.slice a A.length c]:=(qH zX 0 9);have t1: ρ (.tmp 15)=.agg #[.int .i64 z,.bool b]:=(qH zX 6 15);simp[go_sem,t0,t1,hfs];exact ⟨rfl,(TKK.out w' hC).mono fun e' w'' hh=>⟨_,hh.1,hh.2,rfl⟩⟩
  |8,_,ho,hf,hg,hfr,zX=>
   simp only[qS]at ho;subst ho;refine ⟨fun _=>?_,qF⟩
   have d0: ρ (.tmp 16)=.agg #[.int .i64 qf,.int .i64 qt,.int .i64 qg,.int .i64 qk,.int .i64 qs]:=(qH zX 7 16);simp[go_sem,d0];exact qB
  |9,_,ho,hf,hg,hfr,zX=>
   simp only[qS]at ho;subst ho;refine ⟨fun _=>?_,qF⟩
   have d0: ρ (.tmp 17)=.int .i64 qt:=(qH zX 8 17);simp[go_sem,d0];exact qB
  |n+10,_,ho,_,_,_,_=>simp at ho
 ·intro d_ i o ρ w' hm ho h0 hf hg hC hcs hfs hfr zX
  exact absurd hm (by simp)
 intro U1 W1 hC1 hS;have e0:U1 0=.agg #[.int .i64 m,.slice a A.length c]:=hS 0 (by decide) (by intro h;cases h);have e1:U1 1=.slice (some ⟨lb,lo,none⟩) N lc:=hS 1 (by decide) (by intro h;cases h);have e2:U1 2=.slice (some ⟨lb,lo,none⟩) N lc:=hS 2 (by decide) (by intro h;cases h);have e3:U1 3=.int .i64 (N:Int):=hS 3 (by decide) (by intro h;cases h);have e4:U1 4=.int .i64 (K:Int):=hS 4 (by decide) (by intro h;cases h);have e5:U1 5=.pointer (some ⟨lb,lo+K*2,none⟩):=hS 5 (by decide) (by intro h;cases h);have e6:U1 6=.agg #[.int .i64 z,.bool b]:=hS 6 (by decide) (by intro h;cases h);have e7:U1 7=.agg #[.int .i64 qf,.int .i64 qt,.int .i64 qg,.int .i64 qk,.int .i64 qs]:=hS 7 (by decide) (by intro h;cases h);have e8:U1 8=.int .i64 qt:=hS 8 (by decide) (by intro h;cases h);have e9:U1 9=.int .i64 qt:=hS 9 (by decide) (by intro h;cases h);simp only[yP,e0,e1,e2,e3,e4,e5,e6,e7,e8,e9];simp only[Act.put,qU];clear hS e0 e1 e2 e3 e4 e5 e6 e7 e8 e9;clear U1 TKK c0 c1
 go_wp2
 go_loopg [5,20] N (fun gk u5 u20 wr=>∃k:Nat,k<=N/\gk=N-k/\u5=.int .i64 (jV A (xY L (UY N k)))/\u20=.int .i64 (k:Int)/\Below W0.heap.size W0 wr/\∀i,i<k->lkW A L i=true)
 case atStart=>exact ⟨0,Nat.zero_le _,rfl,by rw[HQ.out],rfl,hC1,fun i hi=>absurd hi (Nat.not_lt_zero _)⟩
 case round=>
  obtain ⟨k,hkN,rfl,rfl,rfl,hBr,hI⟩:=hrel;have BR:=zZ hBr;have HI:=zZ hI;clear hBr hI HQ y0 y1
  by_cases hlt:k<N
  ·have hki:(k:Int)<(N:Int):=by omega
   have hkL:k<L.length:=by rw[HLN.out];exact hlt
   obtain ⟨c0,c1⟩:wr.cell? ⟨lb,lo+k*2,none⟩=some (.int .i64 (xY L k).1)/\wr.cell? ⟨lb,lo+k*2+1,none⟩=some (.bool (xY L k).2):=by
    rcases HL.out.below BR.out with e|⟨lb',lo',el,hcl⟩
    ·have:=HLN.out;rw[e]at this;simp at this;omega
    cases el;exact hcl k hkL
   have TK:=zZ (fun U hU=>HTK.out (xY L k) U (by rw[wR hkL];exact List.getElem_mem _) hU);unfold arV at TK
   have HLK:Hid (lkW A L k=decide ((oE A (xY L k)).f=jV A (xY L (UY N k)))):=by show _=_;unfold lkW;rw[HLN.out];rfl
   have HEN:Hid (jV A (xY L (UY N (k+1)))=(oE A (xY L k)).t):=rfl;obtain ⟨xx,hxx⟩:∃x,xY L k=x:=⟨_,rfl⟩;rw[hxx]at TK c0 c1 HLK HEN;obtain ⟨z,b⟩:=xx;simp only at c0 c1 TK;generalize oE A (z,b)=Q0 at TK HLK HEN;obtain ⟨qf,qt,qg,qk,qs⟩:=Q0;simp only at TK HLK HEN;generalize jV A (xY L (UY N k))=at0 at *;clear hxx
   go_upto_region 5 with fail
   have bs:=(Below.refl wr.heap.size wr).alloc (Nat.le_refl _) (.cells #[.int .i64 z,.bool b] 122);have XS:=zZ (zV 122 wr #[.int .i64 z,.bool b]);have BS:=zZ (BR.out.trans (bs.mono BR.out.size));obtain ⟨sb,hsb⟩:∃q,wr.heap.size=q:=⟨_,rfl⟩;rw[hsb]at XS ⊢;generalize wr.alloc (.cells #[.int .i64 z,.bool b] 122)=V1 at *;clear bs hsb c0 c1;have s0:=XS.out.cell (k:=0) rfl;have s1:=XS.out.cell (k:=1) rfl;have XN:=zZ (X0.out.below BS.out);have y0:=XN.out.cell (k:=0) rfl;have y1:=XN.out.cell (k:=1) rfl;simp only[List.getElem_toArray,List.getElem_cons_zero,List.getElem_cons_succ]at s0 s1 y0 y1
   go_upto_region 6 with (go_at_call 50;(with_reducible refine (TK.out _ BS.out).mono ?_);rintro e V2 ⟨rfl,b2⟩;have BT:=zZ (BS.out.trans (b2.mono BS.out.size));clear b2)
   have bt:=(Below.refl V2.heap.size V2).alloc (Nat.le_refl _) (.cells #[.int .i64 qf,.int .i64 qt,.int .i64 qg,.int .i64 qk,.int .i64 qs] 61);have XT:=zZ (zV 61 V2 #[.int .i64 qf,.int .i64 qt,.int .i64 qg,.int .i64 qk,.int .i64 qs]);have BU:=zZ (BT.out.trans (bt.mono BT.out.size));obtain ⟨tb,htb⟩:∃q,V2.heap.size=q:=⟨_,rfl⟩;rw[htb]at XT ⊢;generalize V2.alloc (.cells #[.int .i64 qf,.int .i64 qt,.int .i64 qg,.int .i64 qk,.int .i64 qs] 61)=V3 at *;clear bt htb BT;have x0:=XT.out.cell (k:=0) rfl;have x1:=XT.out.cell (k:=1) rfl;simp only[List.getElem_toArray,List.getElem_cons_zero,List.getElem_cons_succ]at x0 x1
   by_cases he:qf=at0
   ·subst he
    have hne:(qf !=qf)=false:=by simp
    go_wp2
    go_roundg (N-(k+1))
    case measure=>omega
    case rel=>
     refine ⟨k+1,by omega,rfl,by rw[HEN.out],by go_num,BU.out,fun i hi=>?_⟩
     by_cases e:i=k
     ·rw [e,HLK.out];simp
     exact HI.out i (by omega)
   have hne:(qf !=at0)=true:=by simpa using he
   have HF:Hid (hmW A L=false):=rV (i:=k) hkL (by rw[HLK.out];exact decide_eq_false he)
   go_wp2
   go_ret
   exact ⟨by rw[HF.out];rfl,B0.out.trans (BU.out.mono B0.out.size)⟩
  have ek:k=N:=by omega
  subst ek
  have hki:¬(k:Int)<(k:Int):=by omega
  have HF:Hid (hmW A L=true):=wK.2 fun i hi=>HI.out i (by rw[HLN.out]at hi;exact hi)
  go_wp2
  go_ret
  exact ⟨by rw[HF.out];rfl,B0.out.trans (BR.out.mono B0.out.size)⟩
end Go.Proofs.YtpohmekkdjdhmaaGreat
