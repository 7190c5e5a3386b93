/- Texts of one chain. -/
import Derived.Test.YtpohmekkdjdhmaaGreatPartQ
import Derived.Test.YtpohmekkdjdhmaaGreatPartTopPeriods43
import Derived.WalkMore
import Derived.Test.YtpohmekkdjdhmaaGreatPartTopPeriods39
import Derived.Test.YtpohmekkdjdhmaaGreatPartTopPeriods41
import Derived.Test.YtpohmekkdjdhmaaGreatPartTopPeriods40
set_option maxRecDepth 100000
set_option maxHeartbeats 32000000
namespace Go.Proofs.YtpohmekkdjdhmaaGreat
open Go.ChangeShapes Go.WideShapes Go.ChangeAt Go.RowKit
theorem TQ (A:List NA) (m:Int) (a:Option Addr) (c:Nat) (L:List (Int × Bool)) (la:Option Addr) (lc:Nat) (w:World) (ha:vN w a A) (hl:JI w la L) (hN:L.length<=4611686018427387904) (hcap:L.length<=lc) (hm:LJ A L=true):
 Calls Tryz.prog 49 #[.agg #[.int .i64 m,.slice a A.length c],.slice la L.length lc] w fun e w'=>e=.returned (.bool (twW A L))/\Below w.heap.size w w':=by
 have HM:=zZ hm;obtain ⟨N,hLN⟩:∃N,L.length=N:=⟨_,rfl⟩;have HLN:=zZ hLN;rw[hLN]at hN hcap ⊢;have b0:=(Below.refl w.heap.size w).alloc (Nat.le_refl _) (.cells #[.int .i64 m,.slice a A.length c] 30);have X0:=zZ (zV 30 w #[.int .i64 m,.slice a A.length c]);have B0:=zZ b0;have HA:=zZ (ha.below b0);have HL:=zZ (hl.below b0);clear b0 ha hl hLN hm
 go_enter Tryz.func49,Tryz.ntmps49
 go_wp2
 go_step3
 generalize w.alloc (.cells #[.int .i64 m,.slice a A.length c] 30)=W0 at *
 have HTK:Hid (∀ x U,x ∈ L->Below W0.heap.size W0 U->Calls Tryz.prog 50 #[.agg #[.int .i64 m,.slice a A.length c],.agg #[.int .i64 x.1,.bool x.2]] U fun e w'=>e=.returned (arV (oE A x))/\Below U.heap.size U w'):=fun x U hx hU=>eU A x m a c U (HA.out.below hU) (mF.1 HM.out x hx)
 go_wp2
 go_step3
 go_wp2
 go_loopg [5,12] N (fun gk u5 u12 wr=>∃k:Nat,k<=N/\gk=N-k/\u5=.bool false/\u12=.int .i64 (k:Int)/\Below W0.heap.size W0 wr/\∀i,i<k->frW A L i=true)
 case atStart=>exact ⟨0,Nat.zero_le _,rfl,rfl,rfl,Below.refl _ _,fun i hi=>absurd hi (Nat.not_lt_zero _)⟩
 case round=>
  obtain ⟨k,hkN,rfl,rfl,rfl,hBr,hI⟩:=hrel;have BR:=zZ hBr;have HI:=zZ hI;clear hBr hI
  by_cases hlt:k<N
  ·have hki:(k:Int)<(N:Int):=by omega
   have hkL:k<L.length:=by rw[HLN.out];exact hlt
   have HT:=HLN.out
   rcases HL.out.below BR.out with e|⟨lb,lo,el,hcl⟩
   ·rw [e]at HT;simp at HT;omega
   obtain ⟨c0,c1⟩:=hcl k hkL;have HLX:=zZ HL.out;rw[el]at HLX;subst el;clear hcl HT;have TK1:=zZ (fun U hU=>HTK.out (xY L k) U (by rw[wR hkL];exact List.getElem_mem _) hU);unfold arV at TK1;have HS1:Hid (jC A (xY L k)=(oE A (xY L k)).f):=rfl;obtain ⟨xx,hxx⟩:∃x,xY L k=x:=⟨_,rfl⟩;have HX1:=zZ hxx;rw[hxx]at TK1 c0 c1 HS1;obtain ⟨z,b⟩:=xx;simp only at c0 c1 TK1;generalize oE A (z,b)=Q0 at TK1 HS1;obtain ⟨qf,qt,qg,qk,qs⟩:=Q0;simp only at TK1 HS1;clear hxx
   go_upto_region 5 with fail
   have bs:=(Below.refl wr.heap.size wr).alloc (Nat.le_refl _) (.cells #[.int .i64 z,.bool b] 122);have XS:=zZ (zV 122 wr #[.int .i64 z,.bool b]);have BS:=zZ (BR.out.trans (bs.mono BR.out.size));obtain ⟨sb,hsb⟩:∃q,wr.heap.size=q:=⟨_,rfl⟩;rw[hsb]at XS ⊢;generalize wr.alloc (.cells #[.int .i64 z,.bool b] 122)=V1 at *;clear bs hsb c0 c1
   have hkc:k<=lc:=by omega
   go_wp2
   go_loopg [5,21] k (fun gk u5 u21 wr=>∃j:Nat,j<=k/\gk=k-j/\u5=.bool false/\u21=.int .i64 (j:Int)/\Below V1.heap.size V1 wr/\∀i,i<j->paW A (xY L k) (xY L i)=false)
   case atStart=>exact ⟨0,Nat.zero_le _,rfl,rfl,rfl,Below.refl _ _,fun i hi=>absurd hi (Nat.not_lt_zero _)⟩
   case round=>
    obtain ⟨j,hjk,rfl,rfl,rfl,hBr,hJ⟩:=hrel;have BJ:=zZ hBr;have HJ:=zZ hJ;clear hBr hJ
    by_cases hltj:j<k
    ·have hji:(j:Int)<(k:Int):=by omega
     have hjL:j<L.length:=by omega
     have B2:=zZ (BS.out.trans (BJ.out.mono BS.out.size))
     obtain ⟨c0,c1⟩:wr.cell? ⟨lb,lo+j*2,none⟩=some (.int .i64 (xY L j).1)/\wr.cell? ⟨lb,lo+j*2+1,none⟩=some (.bool (xY L j).2):=by
      rcases HL.out.below B2.out with e|⟨lb',lo',el,hcl⟩
      ·have:=HLN.out;rw[e]at this;simp at this;omega
      cases el;exact hcl j hjL
     have TK2':=zZ (fun U hU=>HTK.out (xY L j) U (by rw[wR hjL];exact List.getElem_mem _) hU);unfold arV at TK2';have HS2:Hid (jC A (xY L j)=(oE A (xY L j)).f):=rfl;obtain ⟨xx,hxx⟩:∃x,xY L j=x:=⟨_,rfl⟩;have HX2:=zZ hxx;rw[hxx]at TK2' c0 c1 HS2;obtain ⟨z2,b2⟩:=xx;simp only at c0 c1 TK2';generalize oE A (z2,b2)=Q0 at TK2' HS2;obtain ⟨rf,rt,rg,rk,rs⟩:=Q0;simp only at TK2' HS2;clear hxx
     go_upto_region 8 with fail
     have bs:=(Below.refl wr.heap.size wr).alloc (Nat.le_refl _) (.cells #[.int .i64 z2,.bool b2] 122);have XU:=zZ (zV 122 wr #[.int .i64 z2,.bool b2]);have B3:=zZ (B2.out.trans (bs.mono B2.out.size));have BJ3:=zZ (BJ.out.trans (bs.mono BJ.out.size));obtain ⟨ub,hub⟩:∃q,wr.heap.size=q:=⟨_,rfl⟩;rw[hub]at XU ⊢;generalize wr.alloc (.cells #[.int .i64 z2,.bool b2] 122)=V3 at *;clear bs hub c0 c1;have XN:=zZ (X0.out.below B3.out);have XZ:=zZ (XS.out.below BJ3.out);have s0:=XZ.out.cell (k:=0) rfl;have s1:=XZ.out.cell (k:=1) rfl;have v0:=XU.out.cell (k:=0) rfl;have v1:=XU.out.cell (k:=1) rfl;have y0:=XN.out.cell (k:=0) rfl;have y1:=XN.out.cell (k:=1) rfl;simp only[List.getElem_toArray,List.getElem_cons_zero,List.getElem_cons_succ]at s0 s1 v0 v1 y0 y1
     have TK2:Hid (∀ U,Below V3.heap.size V3 U->_):=fun U hU=>TK2'.out U (B3.out.trans (hU.mono B3.out.size))
     have TK1':Hid (∀ U,Below V3.heap.size V3 U->_):=fun U hU=>TK1.out U (B3.out.trans (hU.mono B3.out.size))
     have HPA:Hid (paW A (xY L k) (xY L j)=(decide (z=z2)||decide (qf=rf))):=by
      show _=_;unfold paW;rw[HX1.out,HX2.out,HS1.out,HS2.out]
     by_cases hz:z=z2
     ·have hzz:(z==z2)=true:=by simpa using hz
      refine zM [] (fun d_ i u_ z_=>match i with
       |0=>z_=(qP sb)
       |1=>z_=.int .i64 z
       |2=>z_=(qP ub)
       |3=>z_=.int .i64 z2
       |4=>z_=.bool true
       |5=>z_=.bool true
       |6=>z_=undef
       |7=>z_=undef
       |8=>z_=undef
       |9=>z_=undef
       |10=>z_=undef
       |11=>z_=undef
       |12=>z_=undef
       |13=>z_=undef
       |14=>z_=undef
       |15=>z_=.bool true
       |_=>True) (fun d_ u_=>Below V3.heap.size V3 u_) (by kernel_rfl) (by kernel_rfl) (by kernel_rfl) ?_ ?_ ?_ ?_ ?_ ?_ (by kernel_rfl)
      ·intro d_ i w_ v_ w' h hb
       match i,h with
       |0,h=>exact h
       |1,h=>exact h
       |2,h=>exact h
       |3,h=>exact h
       |4,h=>exact h
       |5,h=>exact h
       |6,h=>exact h
       |7,h=>exact h
       |8,h=>exact h
       |9,h=>exact h
       |10,h=>exact h
       |11,h=>exact h
       |12,h=>exact h
       |13,h=>exact h
       |14,h=>exact h
       |15,h=>exact h
       |_+16,_=>trivial
      ·intro d_ u_ u' h hb
       exact h.trans (hb.mono h.size)
      ·exact Below.refl _ _
      ·intro d_ i o ρ w' hm ho hf hg hC hcs hfs hfr zX
       match i,hm,ho,hf,hg,hfr,zX with
       |0,_,ho,hf,hg,hfr,zX=>
        simp only[qS]at ho;subst ho;refine ⟨fun _=>?_,qF⟩
        have ts: ρ (.tmp 7)=(qP sb):=(qR hfr 7);simp[go_sem,ts];exact qB
       |1,_,ho,hf,hg,hfr,zX=>
        simp only[qS]at ho;subst ho;refine ⟨fun _=>?_,qF⟩
        have k0:=zW hC s0;have d0: ρ (.tmp 25)=(qP sb):=(qH zX 0 25);simp[go_sem,d0,k0];exact qB
       |2,_,ho,hf,hg,hfr,zX=>
        simp only[qS]at ho;subst ho;refine ⟨fun _=>?_,qF⟩
        have ts: ρ (.tmp 9)=(qP ub):=(qR hfr 9);simp[go_sem,ts];exact qB
       |3,_,ho,hf,hg,hfr,zX=>
        simp only[qS]at ho;subst ho;refine ⟨fun _=>?_,qF⟩
        have k0:=zW hC v0;have d0: ρ (.tmp 27)=(qP ub):=(qH zX 2 27);simp[go_sem,d0,k0];exact qB
       |4,_,ho,hf,hg,hfr,zX=>
        simp only[qS]at ho;subst ho;refine ⟨fun _=>?_,qF⟩
        have d0: ρ (.tmp 26)=.int .i64 z:=(qH zX 1 26);have d1: ρ (.tmp 28)=.int .i64 z2:=(qH zX 3 28);simp[go_sem,d0,d1,hzz];exact qB
       |5,_,ho,hf,hg,hfr,zX=>
        simp only[qS]at ho;subst ho;refine ⟨fun _=>?_,qF⟩
        have d0: ρ (.tmp 29)=.bool true:=(qH zX 4 29);simp[go_sem,d0];exact qB
       |6,_,ho,hf,hg,hfr,zX=>
        simp only[qS]at ho;subst ho;have gd: ρ (.tmp 30)=.bool true:=(qH zX 5 30);exact ⟨fun hw=>absurd (show (match ρ (.tmp 30) with|.bool c=>c==false|_=>false)=true from hw) (by rw[gd];decide),fun _=>rfl⟩
       |7,_,ho,hf,hg,hfr,zX=>
        simp only[qS]at ho;subst ho;have gd: ρ (.tmp 30)=.bool true:=(qH zX 5 30);exact ⟨fun hw=>absurd (show (match ρ (.tmp 30) with|.bool c=>c==false|_=>false)=true from hw) (by rw[gd];decide),fun _=>rfl⟩
       |8,_,ho,hf,hg,hfr,zX=>
        simp only[qS]at ho;subst ho;have gd: ρ (.tmp 30)=.bool true:=(qH zX 5 30);exact ⟨fun hw=>absurd (show (match ρ (.tmp 30) with|.bool c=>c==false|_=>false)=true from hw) (by rw[gd];decide),fun _=>rfl⟩
       |9,_,ho,hf,hg,hfr,zX=>
        simp only[qS]at ho;subst ho;have gd: ρ (.tmp 30)=.bool true:=(qH zX 5 30);exact ⟨fun hw=>absurd (show (match ρ (.tmp 30) with|.bool c=>c==false|_=>false)=true from hw) (by rw[gd];decide),fun _=>rfl⟩
       |10,_,ho,hf,hg,hfr,zX=>
        simp only[qS]at ho;subst ho;have gd: ρ (.tmp 30)=.bool true:=(qH zX 5 30);exact ⟨fun hw=>absurd (show (match ρ (.tmp 30) with|.bool c=>c==false|_=>false)=true from hw) (by rw[gd];decide),fun _=>rfl⟩
       |11,_,ho,hf,hg,hfr,zX=>
        simp only[qS]at ho;subst ho;have gd: ρ (.tmp 30)=.bool true:=(qH zX 5 30);exact ⟨fun hw=>absurd (show (match ρ (.tmp 30) with|.bool c=>c==false|_=>false)=true from hw) (by rw[gd];decide),fun _=>rfl⟩
       |12,_,ho,hf,hg,hfr,zX=>
        simp only[qS]at ho;subst ho;have gd: ρ (.tmp 30)=.bool true:=(qH zX 5 30);exact ⟨fun hw=>absurd (show (match ρ (.tmp 30) with|.bool c=>c==false|_=>false)=true from hw) (by rw[gd];decide),fun _=>rfl⟩
       |13,_,ho,hf,hg,hfr,zX=>
        simp only[qS]at ho;subst ho;have gd: ρ (.tmp 30)=.bool true:=(qH zX 5 30);exact ⟨fun hw=>absurd (show (match ρ (.tmp 30) with|.bool c=>c==false|_=>false)=true from hw) (by rw[gd];decide),fun _=>rfl⟩
       |14,_,ho,hf,hg,hfr,zX=>
        simp only[qS]at ho;subst ho;have gd: ρ (.tmp 30)=.bool true:=(qH zX 5 30);exact ⟨fun hw=>absurd (show (match ρ (.tmp 30) with|.bool c=>c==false|_=>false)=true from hw) (by rw[gd];decide),fun _=>rfl⟩
       |15,_,ho,hf,hg,hfr,zX=>
        simp only[qS]at ho;subst ho;refine ⟨fun _=>?_,qF⟩
        have t0: ρ (.tmp 30)=.bool true:=(qH zX 5 30);simp[go_sem,t0,hcs];exact qB
       |n+16,_,ho,_,_,_,_=>simp at ho
      ·intro d_ i o ρ w' hm ho h0 hf hg hC hcs hfs hfr zX
       exact absurd hm (by simp)
      intro U4 V4 hC4 hS;have e0:U4 0=(qP sb):=hS 0 (by decide) (by intro h;cases h);have e1:U4 1=.int .i64 z:=hS 1 (by decide) (by intro h;cases h);have e2:U4 2=(qP ub):=hS 2 (by decide) (by intro h;cases h);have e3:U4 3=.int .i64 z2:=hS 3 (by decide) (by intro h;cases h);have e4:U4 4=.bool true:=hS 4 (by decide) (by intro h;cases h);have e5:U4 5=.bool true:=hS 5 (by decide) (by intro h;cases h);have e6:U4 6=undef:=hS 6 (by decide) (by intro h;cases h);have e7:U4 7=undef:=hS 7 (by decide) (by intro h;cases h);have e8:U4 8=undef:=hS 8 (by decide) (by intro h;cases h);have e9:U4 9=undef:=hS 9 (by decide) (by intro h;cases h);have e10:U4 10=undef:=hS 10 (by decide) (by intro h;cases h);have e11:U4 11=undef:=hS 11 (by decide) (by intro h;cases h);have e12:U4 12=undef:=hS 12 (by decide) (by intro h;cases h);have e13:U4 13=undef:=hS 13 (by decide) (by intro h;cases h);have e14:U4 14=undef:=hS 14 (by decide) (by intro h;cases h);have e15:U4 15=.bool true:=hS 15 (by decide) (by intro h;cases h);simp only[yP,e0,e1,e2,e3,e4,e5,e6,e7,e8,e9,e10,e11,e12,e13,e14,e15];simp only[Act.put,qU];clear hS e0 e1 e2 e3 e4 e5 e6 e7 e8 e9 e10 e11 e12 e13 e14 e15;have L4:=zZ (B3.out.trans (hC4.mono B3.out.size))
      have HF:Hid (twW A L=true):=by
       show _=_;unfold twW;rw[rV (i:=k) hkL (rV (i:=j) hltj (by rw[HPA.out,decide_eq_true hz];rfl))];rfl
      go_wp2
      try rw[Exit.noGoto_ret]
      go_ret
      exact ⟨by rw[HF.out];rfl,B0.out.trans (L4.out.mono B0.out.size)⟩
     have hzz:(z==z2)=false:=by simpa using hz
     clear TK1;have TK1:=zZ TK1'.out
     refine zM [] (fun d_ i u_ z_=>match i with
      |0=>z_=(qP sb)
      |1=>z_=.int .i64 z
      |2=>z_=(qP ub)
      |3=>z_=.int .i64 z2
      |4=>z_=.bool false
      |5=>z_=.bool false
      |6=>z_=.agg #[.int .i64 m,.slice a A.length c]
      |7=>z_=.agg #[.int .i64 z,.bool b]
      |8=>z_=.agg #[.int .i64 qf,.int .i64 qt,.int .i64 qg,.int .i64 qk,.int .i64 qs]
      |9=>z_=.int .i64 qf
      |10=>z_=.agg #[.int .i64 m,.slice a A.length c]
      |11=>z_=.agg #[.int .i64 z2,.bool b2]
      |12=>z_=.agg #[.int .i64 rf,.int .i64 rt,.int .i64 rg,.int .i64 rk,.int .i64 rs]
      |13=>z_=.int .i64 rf
      |14=>z_=.bool (qf==rf)
      |15=>z_=.bool (qf==rf)
      |_=>True) (fun d_ u_=>Below V3.heap.size V3 u_) (by kernel_rfl) (by kernel_rfl) (by kernel_rfl) ?_ ?_ ?_ ?_ ?_ ?_ (by kernel_rfl)
     ·intro d_ i w_ v_ w' h hb
      match i,h with
      |0,h=>exact h
      |1,h=>exact h
      |2,h=>exact h
      |3,h=>exact h
      |4,h=>exact h
      |5,h=>exact h
      |6,h=>exact h
      |7,h=>exact h
      |8,h=>exact h
      |9,h=>exact h
      |10,h=>exact h
      |11,h=>exact h
      |12,h=>exact h
      |13,h=>exact h
      |14,h=>exact h
      |15,h=>exact h
      |_+16,_=>trivial
     ·intro d_ u_ u' h hb
      exact h.trans (hb.mono h.size)
     ·exact Below.refl _ _
     ·intro d_ i o ρ w' hm ho hf hg hC hcs hfs hfr zX
      match i,hm,ho,hf,hg,hfr,zX with
      |0,_,ho,hf,hg,hfr,zX=>
       simp only[qS]at ho;subst ho;refine ⟨fun _=>?_,qF⟩
       have ts: ρ (.tmp 7)=(qP sb):=(qR hfr 7);simp[go_sem,ts];exact qB
      |1,_,ho,hf,hg,hfr,zX=>
       simp only[qS]at ho;subst ho;refine ⟨fun _=>?_,qF⟩
       have k0:=zW hC s0;have d0: ρ (.tmp 25)=(qP sb):=(qH zX 0 25);simp[go_sem,d0,k0];exact qB
      |2,_,ho,hf,hg,hfr,zX=>
       simp only[qS]at ho;subst ho;refine ⟨fun _=>?_,qF⟩
       have ts: ρ (.tmp 9)=(qP ub):=(qR hfr 9);simp[go_sem,ts];exact qB
      |3,_,ho,hf,hg,hfr,zX=>
       simp only[qS]at ho;subst ho;refine ⟨fun _=>?_,qF⟩
       have k0:=zW hC v0;have d0: ρ (.tmp 27)=(qP ub):=(qH zX 2 27);simp[go_sem,d0,k0];exact qB
      |4,_,ho,hf,hg,hfr,zX=>
       simp only[qS]at ho;subst ho;refine ⟨fun _=>?_,qF⟩
       have d0: ρ (.tmp 26)=.int .i64 z:=(qH zX 1 26);have d1: ρ (.tmp 28)=.int .i64 z2:=(qH zX 3 28);simp[go_sem,d0,d1,hzz];exact qB
      |5,_,ho,hf,hg,hfr,zX=>
       simp only[qS]at ho;subst ho;refine ⟨fun _=>?_,qF⟩
       have d0: ρ (.tmp 29)=.bool false:=(qH zX 4 29);simp[go_sem,d0];exact qB
      |6,_,ho,hf,hg,hfr,zX=>
       simp only[qS]at ho;subst ho;have gd: ρ (.tmp 30)=.bool false:=(qH zX 5 30);refine ⟨fun _=>?_,fun hw=>absurd (show (match ρ (.tmp 30) with|.bool c=>c==false|_=>false)=false from hw) (by rw[gd];decide)⟩
       clear gd;have ts: ρ (.tmp 2)=(qP w.heap.size):=(qR hfr 2);have k0:=zW hC y0;have k1:=zW hC y1;simp[go_sem,ts,k0,k1];exact qB
      |7,_,ho,hf,hg,hfr,zX=>
       simp only[qS]at ho;subst ho;have gd: ρ (.tmp 30)=.bool false:=(qH zX 5 30);refine ⟨fun _=>?_,fun hw=>absurd (show (match ρ (.tmp 30) with|.bool c=>c==false|_=>false)=false from hw) (by rw[gd];decide)⟩
       clear gd;have ts: ρ (.tmp 7)=(qP sb):=(qR hfr 7);have k0:=zW hC s0;have k1:=zW hC s1;simp[go_sem,ts,k0,k1];exact qB
      |8,_,ho,hf,hg,hfr,zX=>
       simp only[qS]at ho;subst ho;have gd: ρ (.tmp 30)=.bool false:=(qH zX 5 30);refine ⟨fun _=>?_,fun hw=>absurd (show (match ρ (.tmp 30) with|.bool c=>c==false|_=>false)=false from hw) (by rw[gd];decide)⟩
       clear gd;have t0: ρ (.tmp 31)=.agg #[.int .i64 m,.slice a A.length c]:=(qH zX 6 31);have t1: ρ (.tmp 32)=.agg #[.int .i64 z,.bool b]:=(qH zX 7 32);simp[go_sem,t0,t1,hfs];exact ⟨rfl,(TK1.out w' hC).mono fun e' w'' hh=>⟨_,hh.1,hh.2,rfl⟩⟩
      |9,_,ho,hf,hg,hfr,zX=>
       simp only[qS]at ho;subst ho;have gd: ρ (.tmp 30)=.bool false:=(qH zX 5 30);refine ⟨fun _=>?_,fun hw=>absurd (show (match ρ (.tmp 30) with|.bool c=>c==false|_=>false)=false from hw) (by rw[gd];decide)⟩
       clear gd;have d0: ρ (.tmp 33)=.agg #[.int .i64 qf,.int .i64 qt,.int .i64 qg,.int .i64 qk,.int .i64 qs]:=(qH zX 8 33);simp[go_sem,d0];exact qB
      |10,_,ho,hf,hg,hfr,zX=>
       simp only[qS]at ho;subst ho;have gd: ρ (.tmp 30)=.bool false:=(qH zX 5 30);refine ⟨fun _=>?_,fun hw=>absurd (show (match ρ (.tmp 30) with|.bool c=>c==false|_=>false)=false from hw) (by rw[gd];decide)⟩
       clear gd;have ts: ρ (.tmp 2)=(qP w.heap.size):=(qR hfr 2);have k0:=zW hC y0;have k1:=zW hC y1;simp[go_sem,ts,k0,k1];exact qB
      |11,_,ho,hf,hg,hfr,zX=>
       simp only[qS]at ho;subst ho;have gd: ρ (.tmp 30)=.bool false:=(qH zX 5 30);refine ⟨fun _=>?_,fun hw=>absurd (show (match ρ (.tmp 30) with|.bool c=>c==false|_=>false)=false from hw) (by rw[gd];decide)⟩
       clear gd;have ts: ρ (.tmp 9)=(qP ub):=(qR hfr 9);have k0:=zW hC v0;have k1:=zW hC v1;simp[go_sem,ts,k0,k1];exact qB
      |12,_,ho,hf,hg,hfr,zX=>
       simp only[qS]at ho;subst ho;have gd: ρ (.tmp 30)=.bool false:=(qH zX 5 30);refine ⟨fun _=>?_,fun hw=>absurd (show (match ρ (.tmp 30) with|.bool c=>c==false|_=>false)=false from hw) (by rw[gd];decide)⟩
       clear gd;have t0: ρ (.tmp 35)=.agg #[.int .i64 m,.slice a A.length c]:=(qH zX 10 35);have t1: ρ (.tmp 36)=.agg #[.int .i64 z2,.bool b2]:=(qH zX 11 36);simp[go_sem,t0,t1,hfs];exact ⟨rfl,(TK2.out w' hC).mono fun e' w'' hh=>⟨_,hh.1,hh.2,rfl⟩⟩
      |13,_,ho,hf,hg,hfr,zX=>
       simp only[qS]at ho;subst ho;have gd: ρ (.tmp 30)=.bool false:=(qH zX 5 30);refine ⟨fun _=>?_,fun hw=>absurd (show (match ρ (.tmp 30) with|.bool c=>c==false|_=>false)=false from hw) (by rw[gd];decide)⟩
       clear gd;have d0: ρ (.tmp 37)=.agg #[.int .i64 rf,.int .i64 rt,.int .i64 rg,.int .i64 rk,.int .i64 rs]:=(qH zX 12 37);simp[go_sem,d0];exact qB
      |14,_,ho,hf,hg,hfr,zX=>
       simp only[qS]at ho;subst ho;have gd: ρ (.tmp 30)=.bool false:=(qH zX 5 30);refine ⟨fun _=>?_,fun hw=>absurd (show (match ρ (.tmp 30) with|.bool c=>c==false|_=>false)=false from hw) (by rw[gd];decide)⟩
       clear gd;have d0: ρ (.tmp 34)=.int .i64 qf:=(qH zX 9 34);have d1: ρ (.tmp 38)=.int .i64 rf:=(qH zX 13 38);simp[go_sem,d0,d1];exact qB
      |15,_,ho,hf,hg,hfr,zX=>
       simp only[qS]at ho;subst ho;refine ⟨fun _=>?_,qF⟩
       have t0: ρ (.tmp 30)=.bool false:=(qH zX 5 30);have t1: ρ (.tmp 39)=.bool (qf==rf):=(qH zX 14 39);simp[go_sem,t0,t1];exact qB
      |n+16,_,ho,_,_,_,_=>simp at ho
     ·intro d_ i o ρ w' hm ho h0 hf hg hC hcs hfs hfr zX
      exact absurd hm (by simp)
     intro U4 V4 hC4 hS;have e0:U4 0=(qP sb):=hS 0 (by decide) (by intro h;cases h);have e1:U4 1=.int .i64 z:=hS 1 (by decide) (by intro h;cases h);have e2:U4 2=(qP ub):=hS 2 (by decide) (by intro h;cases h);have e3:U4 3=.int .i64 z2:=hS 3 (by decide) (by intro h;cases h);have e4:U4 4=.bool false:=hS 4 (by decide) (by intro h;cases h);have e5:U4 5=.bool false:=hS 5 (by decide) (by intro h;cases h);have e6:U4 6=.agg #[.int .i64 m,.slice a A.length c]:=hS 6 (by decide) (by intro h;cases h);have e7:U4 7=.agg #[.int .i64 z,.bool b]:=hS 7 (by decide) (by intro h;cases h);have e8:U4 8=.agg #[.int .i64 qf,.int .i64 qt,.int .i64 qg,.int .i64 qk,.int .i64 qs]:=hS 8 (by decide) (by intro h;cases h);have e9:U4 9=.int .i64 qf:=hS 9 (by decide) (by intro h;cases h);have e10:U4 10=.agg #[.int .i64 m,.slice a A.length c]:=hS 10 (by decide) (by intro h;cases h);have e11:U4 11=.agg #[.int .i64 z2,.bool b2]:=hS 11 (by decide) (by intro h;cases h);have e12:U4 12=.agg #[.int .i64 rf,.int .i64 rt,.int .i64 rg,.int .i64 rk,.int .i64 rs]:=hS 12 (by decide) (by intro h;cases h);have e13:U4 13=.int .i64 rf:=hS 13 (by decide) (by intro h;cases h);have e14:U4 14=.bool (qf==rf):=hS 14 (by decide) (by intro h;cases h);have e15:U4 15=.bool (qf==rf):=hS 15 (by decide) (by intro h;cases h);simp only[yP,e0,e1,e2,e3,e4,e5,e6,e7,e8,e9,e10,e11,e12,e13,e14,e15];simp only[Act.put,qU];clear hS e0 e1 e2 e3 e4 e5 e6 e7 e8 e9 e10 e11 e12 e13 e14 e15;have L4:=zZ (B3.out.trans (hC4.mono B3.out.size))
     by_cases hq:qf=rf
     ·have hqq:(qf==rf)=true:=by simpa using hq
      rw[hqq]
      have HF:Hid (twW A L=true):=by
       show _=_;unfold twW;rw[rV (i:=k) hkL (rV (i:=j) hltj (by rw[HPA.out,decide_eq_true hq,Bool.or_true];rfl))];rfl
      go_wp2
      try rw[Exit.noGoto_ret]
      go_ret
      exact ⟨by rw[HF.out];rfl,B0.out.trans (L4.out.mono B0.out.size)⟩
     have hqq:(qf==rf)=false:=by simpa using hq
     rw[hqq]
     go_wp2
     go_roundg (k-(j+1))
     case measure=>omega
     case rel=>
      refine ⟨j+1,by omega,rfl,rfl,by go_num,BJ3.out.trans (hC4.mono BJ3.out.size),fun i hi=>?_⟩
      by_cases e:i=j
      ·rw [e,HPA.out,decide_eq_false hz,decide_eq_false hq];rfl
      exact HJ.out i (by omega)
    have ej:j=k:=by omega
    subst ej
    have hji:¬(j:Int)<(j:Int):=by omega
    go_wp2
    go_roundg (N-(j+1))
    case measure=>omega
    case rel=>
     refine ⟨j+1,by omega,rfl,rfl,by go_num,BS.out.trans (BJ.out.mono BS.out.size),fun i hi=>?_⟩
     by_cases e:i=j
     ·rw [e]
      exact wK.2 fun i' hi'=>by rw[HJ.out i' hi'];rfl
     exact HI.out i (by omega)
  have ek:k=N:=by omega
  subst ek
  have hki:¬(k:Int)<(k:Int):=by omega
  have HF:Hid (twW A L=false):=by
   show _=_;unfold twW;rw[wK.2 (fun i hi=>HI.out i (by rw[HLN.out]at hi;exact hi))];rfl
  have L4:=BR
  go_wp2
  try rw[Exit.noGoto_ret]
  go_ret
  exact ⟨by rw[HF.out];rfl,B0.out.trans (L4.out.mono B0.out.size)⟩
theorem lX {w:World} {ops:Array Oper} {rest:List Oper} {o:Oper} {a:Act} {Q:Exit->Act->World->Prop} (hgd:o.guard=none) (s x:Operand) (ho:o.op=.call { callee:=.builtin .append,args:=#[s,x],argTypes:=#[27,27] })
 (B:Nat) (d0:Option Addr) (c0:Nat) (zs:List Int) (hs:a.eval s=.slice d0 zs.length c0) (hown:zO B w d0 c0 zs) (g:Nat) (i:Int) (hx:a.eval x=.slice (some ⟨g,0,none⟩) 1 1) (hc:w.cell? ⟨g,0,none⟩=some (.int .i64 i)) (hn:zs.length<=1000000) (hB:B<=w.heap.size)
 (h:∀d c' w',oL B w d0 (zs++[i]) w' d c'->wpList Tryz.prog ops Q rest (a.put o.dst (.slice d (zs.length+1) c')) w'):wpList Tryz.prog ops Q (o::rest) a w:=by
 obtain ⟨i1,hi1,hy0,hy1,hy2⟩:=info_parts Tryz.info3
 refine sC (P:=Tryz.prog) w hgd s x 27 ho B 3 i1 (.int .i64 0) 1 8 Tryz.underlying27 hi1 hy0 hy1 hy2 rfl (by decide) (.slice d0 zs.length c0) zs.length _ hs hown ⟨g,0,none⟩ 1 1 (by decide) [.int .i64 i] hx rfl (fun j u hu=>by
  match j,hu with
  |0,hu=>
   simp at hu;subst hu
   simpa [Addr.add] using hc) (fun u hu=>by simp at hu;subst hu;rfl) (by unfold maxLen;omega) (by omega) hB ?_
 intro v' w' h2 h3
 have h2':w'.ownsRow B 3 1 v' (zs++[i]).length ((zs++[i]).map (Value.int .i64)):=by simpa using h2
 rcases h3 with ⟨g1,cap,e1,rfl,hg⟩|⟨cap,rfl,hg⟩
 ·cases e1
  refine h _ _ w' ⟨by unfold zO;simpa using h2',fun k hk hne=>?_,fun z hz=>.inl hz,hg.size,hg.os,hg.tape,hg.output⟩
  exact hg.block k hk (fun e=>by cases e;exact hne _ rfl rfl)
 refine h _ _ w' ⟨by unfold zO;simpa using h2',fun k hk hne=>?_,fun z hz=>by cases hz;exact .inr (Nat.le_refl _),hg.size,hg.os,hg.tape,hg.output⟩
 exact hg.block k hk (fun e=>by cases e)
theorem oL.below {B Q:Nat} {V u:World} {d0:Option Addr} {L:List Int} {d:Option Addr} {c:Nat} (h:oL B V d0 L u d c) (hQ:Q<=V.heap.size) (h0:∀y,d0=some y->Q<=y.block):Below Q V u:=
 ⟨h.os,h.tape,h.output,h.size,fun k hk=>h.keep k (by omega) (fun y hy=>by have:=h0 y hy;omega)⟩
structure EH (B : Nat) (w : World) (d1 : Option Addr) (c1 : Nat) (xs : List Int) (d2 : Option Addr) (c2 : Nat) (ys : List Int) : Prop where
 r1:zO B w d1 c1 xs
 r2:zO B w d2 c2 ys
 ne:∀x y,d1=some x->d2=some y->x.block≠y.block
theorem EH.nil (B:Nat) (w:World):EH B w none 0 [] none 0 []:=⟨zO.nil _ _,zO.nil _ _,fun x y h=>by cases h⟩
theorem EH.later {B:Nat} {w w':World} {d1:Option Addr} {c1:Nat} {xs:List Int} {d2:Option Addr} {c2:Nat} {ys:List Int} (h:EH B w d1 c1 xs d2 c2 ys) (hb:Below w.heap.size w w'):EH B w' d1 c1 xs d2 c2 ys:=⟨h.r1.later hb,h.r2.later hb,h.ne⟩
theorem EH.swap {B:Nat} {w:World} {d1:Option Addr} {c1:Nat} {xs:List Int} {d2:Option Addr} {c2:Nat} {ys:List Int} (h:EH B w d1 c1 xs d2 c2 ys):EH B w d2 c2 ys d1 c1 xs:=⟨h.r2,h.r1,fun x y hx hy e=>h.ne y x hy hx e.symm⟩
theorem EH.grow {B:Nat} {w w':World} {d1:Option Addr} {c1:Nat} {xs:List Int} {d2:Option Addr} {c2:Nat} {ys zs:List Int} {d:Option Addr} {c:Nat} (h:EH B w d1 c1 xs d2 c2 ys) (hg:oL B w d1 zs w' d c):EH B w' d c zs d2 c2 ys:=by
 refine ⟨hg.own,h.r2.keep fun x hx=>hg.keep _ (h.r2.lt x hx).2 (fun y hy=>h.ne y x hy hx),fun x y hx hy=>?_⟩
 rcases hg.new x hx with e|e
 ·exact h.ne x y e hy
 have:=(h.r2.lt y hy).2;omega
def zQA (w:World) (xs ys:List Int) (e:Ending) (w':World):Prop:=∃d1 c1 d2 c2,e=.returned (.tuple #[.slice d1 xs.length c1,.slice d2 ys.length c2])/\EH w.heap.size w' d1 c1 xs d2 c2 ys/\Below w.heap.size w w'
theorem zPZ {A:List NA} {L:List (Int × Bool)} {k:Nat} (h:k<L.length):jH A (L.take (k+1))=jH A (L.take k)++[(oE A (xY L k)).g]/\mG A (L.take (k+1))=mG A (L.take k)++[(oE A (xY L k)).k]:=by
 unfold jH mG;rw[List.take_add_one,List.getElem?_eq_getElem h,wR h,List.map_append,List.map_append];exact ⟨rfl,rfl⟩
theorem JH (A:List NA) (L:List (Int × Bool)):(jH A L).length=L.length:=by unfold jH;simp
theorem JG (A:List NA) (L:List (Int × Bool)):(mG A L).length=L.length:=by unfold mG;simp
theorem JF (A:List NA) (m:Int) (a:Option Addr) (c:Nat) (L:List (Int × Bool)) (la:Option Addr) (lc:Nat) (w:World) (ha:vN w a A) (hl:JI w la L) (hN:L.length<=1000) (hm:LJ A L=true):
 Calls Tryz.prog 24 #[.agg #[.int .i64 m,.slice a A.length c],.slice la L.length lc] w (zQA w (jH A L) (mG A L)):=by
 have HM:=zZ hm;obtain ⟨RE,hRE⟩:∃R,zQA w (jH A L) (mG A L)=R:=⟨_,rfl⟩;rw[hRE];have HRE:=zZ hRE;obtain ⟨N,hLN⟩:∃N,L.length=N:=⟨_,rfl⟩;have HLN:=zZ hLN;rw[hLN]at hN ⊢;have b0:=(Below.refl w.heap.size w).alloc (Nat.le_refl _) (.cells #[.int .i64 m,.slice a A.length c] 30);have X0:=zZ (zV 30 w #[.int .i64 m,.slice a A.length c]);have B0:=zZ b0;have HA:=zZ (ha.below b0);have HL:=zZ (hl.below b0);clear b0 ha hl hLN hm hRE
 go_enter Tryz.func24,Tryz.ntmps24
 go_upto_region 1 with fail
 generalize w.alloc (.cells #[.int .i64 m,.slice a A.length c] 30)=W0 at *;obtain ⟨B,hB⟩:∃B,W0.heap.size=B:=⟨_,rfl⟩;have HB:=zZ hB;clear hB
 have HTK:Hid (∀ x U,x ∈ L->Below B W0 U->Calls Tryz.prog 50 #[.agg #[.int .i64 m,.slice a A.length c],.agg #[.int .i64 x.1,.bool x.2]] U fun e w'=>e=.returned (arV (oE A x))/\Below U.heap.size U w'):=fun x U hx hU=>eU A x m a c U (HA.out.below (by rw[HB.out];exact hU)) (mF.1 HM.out x hx)
 go_wp2
 go_loopg [4,5,11] N (fun gk u4 u5 u11 wr=>∃(k:Nat) (d1:Option Addr) (c1:Nat) (d2:Option Addr) (c2:Nat),k<=N/\gk=N-k/\u4=.slice d1 (jH A (L.take k)).length c1/\u5=.slice d2 (mG A (L.take k)).length c2/\u11=.int .i64 (k:Int)/\EH B wr d1 c1 (jH A (L.take k)) d2 c2 (mG A (L.take k))/\Below B W0 wr)
 case atStart=>exact ⟨0,none,0,none,0,Nat.zero_le _,rfl,rfl,rfl,rfl,EH.nil _ _,Below.refl _ _⟩
 case round=>
  obtain ⟨k,d1,c1,d2,c2,hkN,rfl,rfl,rfl,rfl,hT,hBr⟩:=hrel;have BR:=zZ hBr;have T0:=zZ hT;clear hBr hT
  by_cases hlt:k<N
  ·have hki:(k:Int)<(N:Int):=by omega
   have hkL:k<L.length:=by rw[HLN.out];exact hlt
   have HT:=HLN.out
   have hBw:B<=wr.heap.size:=by have:=BR.out.size;have:=HB.out;omega
   rcases HL.out.below (by rw[HB.out];exact BR.out) with e|⟨lb,lo,el,hcl⟩
   ·rw [e]at HT;simp at HT;omega
   obtain ⟨c0',c1'⟩:=hcl k hkL;subst el;clear hcl HT;have TK:=zZ (fun U hU=>HTK.out (xY L k) U (by rw[wR hkL];exact List.getElem_mem _) hU);unfold arV at TK;have GT:=zZ (zPZ (A:=A) hkL);obtain ⟨xx,hxx⟩:∃x,xY L k=x:=⟨_,rfl⟩;rw[hxx]at TK c0' c1' GT;obtain ⟨z,b⟩:=xx;simp only at c0' c1' TK;generalize oE A (z,b)=Q0 at TK GT;obtain ⟨qf,qt,qg,qk,qs⟩:=Q0;simp only at TK GT;clear hxx
   have hl1:(jH A (L.take k)).length<=1000:=by rw[JH,List.length_take];omega
   have hl2:(mG A (L.take k)).length<=1000:=by rw[JG,List.length_take];omega
   have GT1:=zZ GT.out.1;have GT2:=zZ GT.out.2;clear GT;generalize jH A (L.take k)=xs at *;generalize mG A (L.take k)=ys at *
   go_upto_region 4 with fail
   have bs:=(Below.refl wr.heap.size wr).alloc (Nat.le_refl _) (.cells #[.int .i64 z,.bool b] 122);have XS:=zZ (zV 122 wr #[.int .i64 z,.bool b]);have BS:=zZ (BR.out.trans (bs.mono hBw));have T1:=zZ (T0.out.later bs);obtain ⟨sb,hsb⟩:∃q,wr.heap.size=q:=⟨_,rfl⟩;rw[hsb]at XS ⊢;generalize wr.alloc (.cells #[.int .i64 z,.bool b] 122)=V1 at *;clear bs hsb c0' c1' T0;have s0:=XS.out.cell (k:=0) rfl;have s1:=XS.out.cell (k:=1) rfl;have XN:=zZ (X0.out.below (by rw[HB.out];exact BS.out));have y0:=XN.out.cell (k:=0) rfl;have y1:=XN.out.cell (k:=1) rfl;simp only[List.getElem_toArray,List.getElem_cons_zero,List.getElem_cons_succ]at s0 s1 y0 y1
   have hB1:B<=V1.heap.size:=by have:=BS.out.size;have:=HB.out;omega
   go_upto_region 5 with (go_at_call 50;(with_reducible refine (TK.out _ BS.out).mono ?_);rintro e V2 ⟨rfl,b2⟩;have BT:=zZ (BS.out.trans (b2.mono hB1));have T2:=zZ (T1.out.later b2);clear b2)
   have hB2:B<=V2.heap.size:=by have:=BT.out.size;have:=HB.out;omega
   have bt:=(Below.refl V2.heap.size V2).alloc (Nat.le_refl _) (.cells #[.int .i64 qf,.int .i64 qt,.int .i64 qg,.int .i64 qk,.int .i64 qs] 61);have XT:=zZ (zV 61 V2 #[.int .i64 qf,.int .i64 qt,.int .i64 qg,.int .i64 qk,.int .i64 qs]);have BU:=zZ (BT.out.trans (bt.mono hB2));have T3:=zZ (T2.out.later bt);obtain ⟨tb,htb⟩:∃q,V2.heap.size=q:=⟨_,rfl⟩;rw[htb]at XT ⊢
   have NE1:Hid (∀ y,d1=some y->y.block≠tb):=fun y hy=>by have:=(T2.out.r1.lt y hy).2;omega
   have NE2:Hid (∀ y,d2=some y->y.block≠tb):=fun y hy=>by have:=(T2.out.r2.lt y hy).2;omega
   generalize V2.alloc (.cells #[.int .i64 qf,.int .i64 qt,.int .i64 qg,.int .i64 qk,.int .i64 qs] 61)=V3 at *
   have hB3:B<=V3.heap.size:=by have:=BU.out.size;have:=HB.out;omega
   clear bt htb BT T1 T2 s0 s1 y0 y1;have x2:=XT.out.cell (k:=2) rfl;simp only[List.getElem_toArray,List.getElem_cons_zero,List.getElem_cons_succ]at x2;have bx:=(Below.refl V3.heap.size V3).alloc (Nat.le_refl _) (.cells #[.int .i64 qg] 3);have CY:=zZ ((zV 3 V3 #[.int .i64 qg]).cell (k:=0) rfl);have CX:=zZ (T3.out.later bx);have hsX:B<=(V3.alloc (.cells #[.int .i64 qg] 3)).heap.size:=Nat.le_trans hB3 bx.size;have BX:=zZ (BU.out.trans (bx.mono hB3));have XTX:=zZ (XT.out.below bx);clear bx T3 BU
   go_upto_region 6 with (at_builtin;refine lX rfl _ _ rfl B d1 c1 xs rfl CX.out.r1 V3.heap.size qg rfl CY.out (by omega) hsX ?_;intro d9 c9 V4 hG;have GR:=zZ hG;clear hG)
   have T4:=zZ (CX.out.grow GR.out);have B4:=zZ (BX.out.trans (GR.out.below hsX (fun y hy=>(CX.out.r1.lt y hy).1)));have XT4:=zZ (XTX.out.keep (GR.out.keep tb XTX.out.lt NE1.out))
   have hB4:B<=V4.heap.size:=by have:=B4.out.size;have:=HB.out;omega
   clear GR CX CY BX XTX hsX;have x3:=XT4.out.cell (k:=3) rfl;simp only[List.getElem_toArray,List.getElem_cons_zero,List.getElem_cons_succ]at x3;have bx:=(Below.refl V4.heap.size V4).alloc (Nat.le_refl _) (.cells #[.int .i64 qk] 3);have CY:=zZ ((zV 3 V4 #[.int .i64 qk]).cell (k:=0) rfl);have CX:=zZ (T4.out.later bx).swap;have hsX:B<=(V4.alloc (.cells #[.int .i64 qk] 3)).heap.size:=Nat.le_trans hB4 bx.size;have BX:=zZ (B4.out.trans (bx.mono hB4));clear bx T4
   go_upto_region 7 with (at_builtin;refine lX rfl _ _ rfl B d2 c2 ys rfl CX.out.r1 V4.heap.size qk rfl CY.out (by omega) hsX ?_;intro d8 c8 V5 hG;have GR:=zZ hG;clear hG)
   have T5:=zZ (CX.out.grow GR.out).swap;have B5:=zZ (BX.out.trans (GR.out.below hsX (fun y hy=>(CX.out.r1.lt y hy).1)));clear GR CX CY BX hsX
   go_wp2
   go_roundg (N-(k+1))
   case measure=>omega
   case rel=>exact ⟨k+1,d9,c9,d8,c8,by omega,rfl,by rw[GT1.out,List.length_append];rfl,by rw[GT2.out,List.length_append];rfl,by go_num,by rw[GT1.out,GT2.out];exact T5.out,B5.out⟩
  have ek:k=N:=by omega
  subst ek
  have hki:¬(k:Int)<(k:Int):=by omega
  have eL:L.take k=L:=by rw[<- HLN.out,List.take_length]
  rw[eL]at T0 ⊢
  go_wp2
  rw[<- HRE.out];exact ⟨d1,c1,d2,c2,rfl,⟨T0.out.r1.mono (by have:=B0.out.size;have:=HB.out;omega),T0.out.r2.mono (by have:=B0.out.size;have:=HB.out;omega),T0.out.ne⟩,B0.out.trans (BR.out.mono (by have:=B0.out.size;have:=HB.out;omega))⟩
def frV (x:Int × Int):List Value:=[.int .i64 x.1,.int .i64 x.2]
def rK:List (Int × Int)->List Value
 |[]=>[]
 |x::L=>frV x++rK L
def zPY (L:List (Int × Int)) (k:Nat):Int × Int:=L.getD k (0,0)
def celX (x:Int × Int) (j:Nat):Value:=if j=0 then .int .i64 x.1 else .int .i64 x.2
theorem WG:∀(L:List (Int × Int)),(rK L).length=L.length*2
 |[]=>rfl
 |x::L=>by show (frV x++rK L).length=_;rw[List.length_append,WG L,List.length_cons];show 2+_=_;omega
theorem gK:∀(L M:List (Int × Int)),rK (L++M)=rK L++rK M
 |[],_=>rfl
 |x::L,M=>by show frV x++rK (L++M)=frV x++rK L++rK M;rw[gK L M,List.append_assoc]
theorem eT:∀ {L:List (Int × Int)} {k j:Nat},k<L.length->j<2->(rK L)[k*2+j]? =some (celX (zPY L k) j)
 |[],k,j,hk,_=>absurd hk (Nat.not_lt_zero _)
 |a::L,0,j,_,hj=>by
  show (frV a++rK L)[0*2+j]? =_;rw[Nat.zero_mul,Nat.zero_add,List.getElem?_append_left (by show j<2;exact hj)]
  match j,hj with
  |0,_=>rfl
  |1,_=>rfl
 |a::L,k+1,j,hk,hj=>by
  show (frV a++rK L)[(k+1)*2+j]? =_;rw[List.getElem?_append_right (by show 2<=_;omega)]
  have e:(k+1)*2+j-(frV a).length=k*2+j:=by show (k+1)*2+j-2=_;omega
  rw[e];exact eT (Nat.lt_of_succ_lt_succ hk) hj
def AtX (w:World) (a:Option Addr) (L:List (Int × Int)):Prop:=L=[]\/∃b off,a=some ⟨b,off,none⟩/\∀k,k<L.length->w.cell? ⟨b,off+k*2,none⟩=some (.int .i64 (zPY L k).1)/\w.cell? ⟨b,off+k*2+1,none⟩=some (.int .i64 (zPY L k).2)
theorem AtX.below {w w':World} {a:Option Addr} {L:List (Int × Int)} (h:AtX w a L) (hb:Below w.heap.size w w'):AtX w' a L:=by
 rcases h with h|⟨b,off,e,hc⟩
 ·exact .inl h
 exact .inr ⟨b,off,e,fun k hk=>⟨zW hb (hc k hk).1,zW hb (hc k hk).2⟩⟩
theorem AtX.flat {w:World} {ad:Addr} {L:List (Int × Int)} (h:AtX w (some ad) L):∀j u,(rK L)[j]? =some u->w.cell? (ad.add j)=some u:=by
 intro j u hu
 have hj:j<L.length*2:=by rw[<- WG];exact (List.getElem?_eq_some_iff.1 hu).1
 rcases h with e|⟨b,off,e,hc⟩
 ·subst e;simp at hj
 cases e
 have hk:j / 2<L.length:=by omega
 have e1:j=j / 2*2+j % 2:=by omega
 have hr:j % 2<2:=Nat.mod_lt _ (by decide);have h1:=eT (L:=L) hk hr;rw[<- e1,hu]at h1
 cases h1
 obtain ⟨c0,c1⟩:=hc (j / 2) hk
 have ea:(⟨b,off,none⟩:Addr).add j=⟨b,off+j / 2*2+j % 2,none⟩:=by
  have e2:off+j / 2*2+j % 2=off+j:=by omega
  rw[e2];simp[Addr.add]
 rw[ea];clear ea e1;generalize j / 2=k at *;generalize j % 2=r at *
 match r,hr with
 |0,_=>exact c0
 |1,_=>exact c1
def sQ (B:Nat) (w:World) (a:Option Addr) (c:Nat) (L:List (Int × Int)):Prop:=w.ownsRow B 117 2 (.slice a L.length c) L.length (rK L)
theorem sQ.nil (B:Nat) (w:World):sQ B w none 0 []:=World.ownsRow_nil _ _ _ _
theorem sQ.at {B:Nat} {w:World} {a:Option Addr} {c:Nat} {L:List (Int × Int)} (h:sQ B w a c L):AtX w a L:=by
 unfold sQ at h
 rcases h.2 with ⟨hv,hn⟩|⟨g,cap,cur,hv,hg,hh,hc,hm,hs,ht⟩
 ·exact .inl (List.eq_nil_of_length_eq_zero hn)
 cases hv
 refine .inr ⟨g,0,rfl,fun k hk=>?_⟩
 have key:∀j,j<2->w.cell? ⟨g,k*2+j,none⟩=some (celX (zPY L k) j):=fun j hj=>by
  rw[h.cellAt (k*2+j) (by omega),eT hk hj]
 rw[Nat.zero_add];exact ⟨key 0 (by decide),key 1 (by decide)⟩
theorem sQ.lt {B:Nat} {w:World} {a:Option Addr} {c:Nat} {L:List (Int × Int)} (h:sQ B w a c L):∀x,a=some x->B<=x.block/\x.block<w.heap.size:=by
 intro x hx
 rcases h.2 with ⟨hv,hn⟩|⟨g,cap,cur,hv,hg,hh,hc,hm,hs,ht⟩
 ·simp at hv;rw[hv.1]at hx;cases hx
 cases hv
 cases hx
 exact ⟨hg,(Array.getElem?_eq_some_iff.1 hh).1⟩
theorem sQ.none {B:Nat} {w:World} {a:Option Addr} {c:Nat} {L:List (Int × Int)} (h:sQ B w a c L):a=Option.none->L.length=0/\c=0:=by
 intro e
 rcases h.2 with ⟨hv,hn⟩|⟨g,cap,cur,hv,hg,hh,hc,hm,hs,ht⟩
 ·simp at hv;exact ⟨hn,hv.2.2⟩
 subst e;cases hv
theorem sQ.keep {B:Nat} {w w':World} {a:Option Addr} {c:Nat} {L:List (Int × Int)} (h:sQ B w a c L) (hk:∀x,a=some x->w'.heap[x.block]? =w.heap[x.block]?):sQ B w' a c L:=by
 refine ⟨h.1,?_⟩
 rcases h.2 with h2|⟨g,cap,cur,hv,hg,hh,r⟩
 ·exact .inl h2
 refine .inr ⟨g,cap,cur,hv,hg,?_,r⟩
 cases hv
 rw[hk _ rfl];exact hh
theorem sQ.later {B:Nat} {w w':World} {a:Option Addr} {c:Nat} {L:List (Int × Int)} (h:sQ B w a c L) (hb:Below w.heap.size w w'):sQ B w' a c L:=h.keep fun x hx=>hb.block _ (h.lt x hx).2
theorem sQ.mono {B B':Nat} {w:World} {a:Option Addr} {c:Nat} {L:List (Int × Int)} (h:sQ B w a c L) (hB:B'<=B):sQ B' w a c L:=by
 refine ⟨h.1,?_⟩
 rcases h.2 with h2|⟨g,cap,cur,hv,hg,r⟩
 ·exact .inl h2
 exact .inr ⟨g,cap,cur,hv,Nat.le_trans hB hg,r⟩
theorem AtX.atP {w:World} {a:Option Addr} {L:List (Int × Int)} (h:AtX w a L):SJ w a L:=h
structure zPX (B : Nat) (V : World) (d0 : Option Addr) (L : List (Int × Int)) (u : World) (d : Option Addr) (c : Nat) : Prop where
 own:sQ B u d c L
 keep:∀k,k<V.heap.size->(∀ y,d0=some y->y.block≠k)->u.heap[k]? =V.heap[k]?
 new:∀z,d=some z->d0=some z\/V.heap.size<=z.block
 size:V.heap.size<=u.heap.size
 os:u.os=V.os
 tape:u.tape=V.tape
 output:u.output=V.output
theorem zPX.below {B Q:Nat} {V u:World} {d0:Option Addr} {L:List (Int × Int)} {d:Option Addr} {c:Nat} (h:zPX B V d0 L u d c) (hQ:Q<=V.heap.size) (h0:∀y,d0=some y->Q<=y.block):Below Q V u:=
 ⟨h.os,h.tape,h.output,h.size,fun k hk=>h.keep k (by omega) (fun y hy=>by have:=h0 y hy;omega)⟩
theorem OK {w:World} {ops:Array Oper} {rest:List Oper} {o:Oper} {a:Act} {Q:Exit->Act->World->Prop} (hgd:o.guard=none) (s x:Operand) (ho:o.op=.call { callee:=.builtin .append,args:=#[s,x],argTypes:=#[111,111] })
 (B:Nat) (d0:Option Addr) (c0:Nat) (zs:List (Int × Int)) (hs:a.eval s=.slice d0 zs.length c0) (hown:sQ B w d0 c0 zs) (g:Nat) (i:Int × Int) (hx:a.eval x=.slice (some ⟨g,0,none⟩) 1 1) (hc:w.cell? ⟨g,0,none⟩=some (.int .i64 i.1)) (hc2:w.cell? ⟨g,1,none⟩=some (.int .i64 i.2)) (hn:zs.length<=1000000) (hB:B<=w.heap.size)
 (h:∀d c' w',zPX B w d0 (zs++[i]) w' d c'->wpList Tryz.prog ops Q rest (a.put o.dst (.slice d (zs.length+1) c')) w'):wpList Tryz.prog ops Q (o::rest) a w:=by
 obtain ⟨i1,hi1,hy0,hy1,hy2⟩:=info_parts Tryz.infoFr
 refine sC (P:=Tryz.prog) w hgd s x 111 ho B 117 i1 (.agg #[.int .i64 0,.int .i64 0]) 2 16 Tryz.underlying111 hi1 hy0 hy1 hy2 rfl (by decide) (.slice d0 zs.length c0) zs.length _ hs hown ⟨g,0,none⟩ 1 1 (by decide) [.int .i64 i.1,.int .i64 i.2] hx rfl (fun j u hu=>by
  match j,hu with
  |0,hu=>
   simp at hu;subst hu
   simpa [Addr.add] using hc
  |1,hu=>
   simp at hu;subst hu
   simpa [Addr.add] using hc2) (fun u hu=>by simp at hu;rcases hu with rfl|rfl<;>rfl) (by unfold maxLen;omega) (by omega) hB ?_
 intro v' w' h2 h3
 have h2':w'.ownsRow B 117 2 v' (zs++[i]).length (rK (zs++[i])):=by
  rw[gK,List.length_append];exact h2
 rcases h3 with ⟨g1,cap,e1,rfl,hg⟩|⟨cap,rfl,hg⟩
 ·cases e1
  refine h _ _ w' ⟨by unfold sQ;simpa using h2',fun k hk hne=>?_,fun z hz=>.inl hz,hg.size,hg.os,hg.tape,hg.output⟩
  exact hg.block k hk (fun e=>by cases e;exact hne _ rfl rfl)
 refine h _ _ w' ⟨by unfold sQ;simpa using h2',fun k hk hne=>?_,fun z hz=>by cases hz;exact .inr (Nat.le_refl _),hg.size,hg.os,hg.tape,hg.output⟩
 exact hg.block k hk (fun e=>by cases e)
structure TwX (B : Nat) (w : World) (d1 : Option Addr) (c1 : Nat) (xs : List Int) (d2 : Option Addr) (c2 : Nat) (ys : List (Int × Int)) : Prop where
 r1:zO B w d1 c1 xs
 r2:sQ B w d2 c2 ys
 ne:∀x y,d1=some x->d2=some y->x.block≠y.block
theorem TwX.nil (B:Nat) (w:World):TwX B w none 0 [] none 0 []:=⟨zO.nil _ _,sQ.nil _ _,fun x y h=>by cases h⟩
theorem TwX.later {B:Nat} {w w':World} {d1:Option Addr} {c1:Nat} {xs:List Int} {d2:Option Addr} {c2:Nat} {ys:List (Int × Int)} (h:TwX B w d1 c1 xs d2 c2 ys) (hb:Below w.heap.size w w'):TwX B w' d1 c1 xs d2 c2 ys:=⟨h.r1.later hb,h.r2.later hb,h.ne⟩
theorem TwX.grow1 {B:Nat} {w w':World} {d1:Option Addr} {c1:Nat} {xs zs:List Int} {d2:Option Addr} {c2:Nat} {ys:List (Int × Int)} {d:Option Addr} {c:Nat} (h:TwX B w d1 c1 xs d2 c2 ys) (hg:oL B w d1 zs w' d c):TwX B w' d c zs d2 c2 ys:=by
 refine ⟨hg.own,h.r2.keep fun x hx=>hg.keep _ (h.r2.lt x hx).2 (fun y hy=>h.ne y x hy hx),fun x y hx hy=>?_⟩
 rcases hg.new x hx with e|e
 ·exact h.ne x y e hy
 have:=(h.r2.lt y hy).2;omega
theorem TwX.grow2 {B:Nat} {w w':World} {d1:Option Addr} {c1:Nat} {xs:List Int} {d2:Option Addr} {c2:Nat} {ys zs:List (Int × Int)} {d:Option Addr} {c:Nat} (h:TwX B w d1 c1 xs d2 c2 ys) (hg:zPX B w d2 zs w' d c):TwX B w' d1 c1 xs d c zs:=by
 refine ⟨h.r1.keep fun x hx=>hg.keep _ (h.r1.lt x hx).2 (fun y hy e=>h.ne x y hx hy e.symm),hg.own,fun x y hx hy=>?_⟩
 rcases hg.new y hy with e|e
 ·exact h.ne x y hx e
 have:=(h.r1.lt x hx).2;omega
theorem zYW (H:Nat->Nat) (i h:Nat):xJ H (i+1) h=if H i=h then xJ H i h++[i] else xJ H i h:=by
 unfold xJ;rw[List.range_succ,List.filter_append]
 by_cases e:H i=h
 ·rw [if_pos e]
  simp[e]
 rw[if_neg e];simp[e]
theorem zUB (H:Nat->Nat) (h:Nat):∀i,(xJ H i h).length<=i:=fun i=>by
 unfold xJ;have:=List.length_filter_le (fun v=>H v==h) (List.range i)
 simpa using this
theorem OJ (c:Nat->Nat) (h:Nat) (M:List Nat):(xG c h M).length=M.length:=by unfold xG;simp
theorem zPW {fs:List (Int × Int)} (h:∀x,x ∈ fs->yK x.1=true/\yK x.2=true):iS fs:=by
 intro k;unfold uD uV;rw[List.getD_eq_getElem?_getD]
 by_cases hk:k<fs.length
 ·rw [List.getElem?_eq_getElem hk]
  have:=h _ (List.getElem_mem hk);exact ⟨xC.1 this.1,xC.1 this.2⟩
 rw[List.getElem?_eq_none (by omega)]
 decide
theorem jD {N:Nat} {f g:Nat->Nat} (h:∀v,v<N->f v=g v):yV N f=yV N g:=by
 unfold yV
 exact List.map_congr_left fun v hv=>by rw[h v (List.mem_range.1 hv)]
theorem VJ.atB {base:Nat} {w:World} {a:Option Addr} {n cap:Nat} {zs:List Int} (h:VJ base w a n cap zs):At w a zs:=by
 rcases h.2 with ⟨rfl,rfl,rfl⟩|⟨g,rfl,hg,rfl,hr⟩
 ·exact .inl (List.eq_nil_of_length_eq_zero h.1)
 exact VM h.1 hr
def SetE (w:World) (g B N:Nat) (c H f:Nat->Nat) (h:Nat) (E:Int) (e:Ending) (w':World):Prop:=
 ∃ok:Bool,e=.returned (.bool ok)/\xX g w w'/\((ok=true/\E=0/\zO B w' (some ⟨g,0,none⟩) N (yV N (fun v=>if H v=h then c v else f v)))\/(ok=false/\E=4/\YR c N))
structure OI (B g N : Nat) (wr : World) (c f : Nat -> Nat) (M : List Nat) (i : Nat) : Prop where
 ex:∃F,zO B wr (some ⟨g,0,none⟩) N (yV N F)/\(∀ v,v ∈ M.take i->F v=c v)/\∀v,v ∉ M.take i->F v=f v
theorem OI.step {B g N:Nat} {wr:World} {c f:Nat->Nat} {M:List Nat} {i:Nat} (h:OI B g N wr c f M i) (hi:i<M.length):OI B g N (wr.setCell ⟨g,M[i],none⟩ (.int .i64 (c M[i]:Int))) c f M (i+1):=by
 obtain ⟨F,h1,h2,h3⟩:=h.ex;refine ⟨iN F M[i] (c M[i]),by rw[<- bR];exact h1.setAt _,fun v hv=>?_,fun v hv=>?_⟩
 ·rw [List.take_add_one,List.getElem?_eq_getElem hi]at hv
  unfold iN
  by_cases e:v=M[i]
  ·rw [if_pos e,e]
  rw[if_neg e]
  rcases List.mem_append.1 hv with q|q
  ·exact h2 v q
  exact absurd (by simpa using q) e
 rw[List.take_add_one,List.getElem?_eq_getElem hi]at hv
 have e:¬v=M[i]:=fun e=>hv (List.mem_append_right _ (by simp[e]))
 unfold iN;rw[if_neg e];exact h3 v (fun q=>hv (List.mem_append_left _ q))
theorem OI.fin {B g N:Nat} {wr:World} {c f H:Nat->Nat} {h i:Nat} (q:OI B g N wr c f (xJ H N h) i) (hi:(xJ H N h).length<=i):zO B wr (some ⟨g,0,none⟩) N (yV N (fun v=>if H v=h then c v else f v)):=by
 obtain ⟨F,h1,h2,h3⟩:=q.ex;rw[List.take_of_length_le hi]at h2 h3;rw[jD (g:=F)]
 ·exact h1
 intro v hv
 by_cases e:H v=h
 ·rw [if_pos e,h2 v (pX.2 ⟨hv,e⟩)]
 rw[if_neg e,h3 v (fun q=>e (pX.1 q).2)]
theorem ZS {N sb g B h tl:Nat} {E:Int} {ta ha:Option Addr} {tc hac:Nat} {c H f:Nat->Nat} (hN:N<=1000) (w:World) (hsh:uN w sb N (fun v=>yQ (c v) (c (H v)))) (hft:∀v,v<N->yK (yQ (c v) (c (H v))).1=true/\yK (yQ (c v) (c (H v))).2=true) (hr:zO B w (some ⟨g,0,none⟩) N (yV N f)) (hho:At w ha (yV N H))
 (hsc:(E=0/\TF (xG c h (xJ H N h))=0/\scR (xG c h (xJ H N h))=(xJ H N h).map fun v=>(c v:Int))\/(E=4/\TF (xG c h (xJ H N h))=4/\YR c N)):
 Calls Tryz.prog 41 #[.slice (some ⟨g,0,none⟩) N N,.slice (some ⟨sb,0,none⟩) N N,.agg #[.slice ta tl tc,.slice ha N hac],.int .i64 (h:Int)] w (SetE w g B N c H f h E):=by
 have b0:=(Below.refl w.heap.size w).alloc (Nat.le_refl _) (.cells #[.slice ta tl tc,.slice ha N hac] 69);have X0:=zZ (zV 69 w #[.slice ta tl tc,.slice ha N hac]);have B0:=zZ b0;have S0:=zZ (hsh.below b0);have R0:=zZ (hr.later b0);have O0:=zZ (hho.below b0);have HFT:=zZ hft;have HSC:=zZ hsc;have hgl:=(hr.lt _ rfl).2;have y1:=X0.out.cell (k:=1) rfl;simp only[List.getElem_toArray,List.getElem_cons_zero,List.getElem_cons_succ]at y1;clear b0 hsh hr hho hft hsc X0;simp only at hgl;obtain ⟨RE,hRE⟩:∃R,SetE w g B N c H f h E=R:=⟨_,rfl⟩;rw[hRE];have HRE:=zZ hRE;clear hRE
 go_enter Tryz.func41,Tryz.ntmps41
 go_upto_region 1 with fail
 generalize w.alloc (.cells #[.slice ta tl tc,.slice ha N hac] 69)=W0 at *;obtain ⟨Z,hZ⟩:∃q,W0.heap.size=q:=⟨_,rfl⟩;have HZ:=zZ hZ
 have hgZ:g<Z:=by have:=B0.out.size;omega
 clear hZ
 go_wp2
 go_loopg [9,10,21] N (fun gk u9 u10 u21 wr=>∃(i:Nat) (d1:Option Addr) (c1:Nat) (d2:Option Addr) (c2:Nat),i<=N/\gk=N-i/\u9=.slice d1 (yC (xJ H i h)).length c1/\u10=.slice d2 (xG c h (xJ H i h)).length c2/\u21=.int .i64 (i:Int)/\TwX Z wr d1 c1 (yC (xJ H i h)) d2 c2 (xG c h (xJ H i h))/\Below Z W0 wr)
 case atStart=>exact ⟨0,none,0,none,0,Nat.zero_le _,rfl,rfl,rfl,rfl,TwX.nil _ _,Below.refl _ _⟩
 case round=>
  obtain ⟨i,d1,c1,d2,c2,hiN,rfl,rfl,rfl,rfl,hT,hBr⟩:=hrel;have BR:=zZ hBr;have T0:=zZ hT;clear hBr hT y1
  have hBw:Z<=wr.heap.size:=by have:=BR.out.size;have:=HZ.out;omega
  have hml:(xJ H i h).length<=1000:=by have:=zUB H h i;omega
  have hl1:(yC (xJ H i h)).length<=1000:=by rw[wM];exact hml
  have hl2:(xG c h (xJ H i h)).length<=1000:=by rw[OJ];exact hml
  by_cases hlt:i<N
  ·have hki:(i:Int)<(N:Int):=by omega
   rcases O0.out.below (by rw[HZ.out];exact BR.out) with e|⟨hb1,ho1,eh,hch⟩
   ·have:=yY N H
    rw[e]at this;simp at this;omega
   have c0:=hch i (by rw[yY];exact hlt);rw[vS hlt]at c0;subst eh;clear hch;have MN:=zZ (zYW H i h)
   by_cases hh:H i=h
   ·rw [if_pos hh]at MN
    have I1:Hid (yC (xJ H (i+1) h)=yC (xJ H i h)++[(i:Int)]):=by show _=_;rw[MN.out,jK]
    have I2:Hid (xG c h (xJ H (i+1) h)=xG c h (xJ H i h)++[yQ (c i) (c (H i))]):=by
     show _=_;rw[MN.out,hh];unfold xG;rw[List.map_append];rfl
    have SC0:Hid (∀ U,Below Z W0 U->U.cell? ⟨sb,i*2,none⟩=some (.int .i64 (yQ (c i) (c (H i))).1)/\U.cell? ⟨sb,i*2+1,none⟩=some (.int .i64 (yQ (c i) (c (H i))).2)):=fun U hU=>(S0.out.below (by rw[HZ.out];exact hU)).cell hlt
    have hbe:((H i:Int)==(h:Int))=true:=by simp;omega
    clear MN hh;generalize yC (xJ H i h)=xs at *;generalize xG c h (xJ H i h)=ys at *;obtain ⟨sx,hsx⟩:∃x,yQ (c i) (c (H i))=x:=⟨_,rfl⟩;rw[hsx]at I2 SC0;clear hsx;generalize H i=hi' at *
    go_upto_region 7 with fail
    clear c0;have bx:=(Below.refl wr.heap.size wr).alloc (Nat.le_refl _) (.cells #[.int .i64 (i:Int)] 3);have CY:=zZ ((zV 3 wr #[.int .i64 (i:Int)]).cell (k:=0) rfl);have CX:=zZ (T0.out.later bx);have hsX:Z<=(wr.alloc (.cells #[.int .i64 (i:Int)] 3)).heap.size:=Nat.le_trans hBw bx.size;have BX:=zZ (BR.out.trans (bx.mono hBw));clear bx T0
    go_upto_region 8 with (at_builtin;refine lX rfl _ _ rfl Z d1 c1 xs rfl CX.out.r1 wr.heap.size (i:Int) rfl CY.out (by omega) hsX ?_;intro d9 c9 V4 hG;have GR:=zZ hG;clear hG)
    have T4:=zZ (CX.out.grow1 GR.out);have B4:=zZ (BX.out.trans (GR.out.below hsX (fun y hy=>(CX.out.r1.lt y hy).1)))
    have hB4:Z<=V4.heap.size:=by have:=B4.out.size;have:=HZ.out;omega
    obtain ⟨s0,s1⟩:=SC0.out V4 B4.out;clear GR CX CY BX hsX SC0;obtain ⟨sp,sq⟩:=sx;simp only at s0 s1;have bx:=(Below.refl V4.heap.size V4).alloc (Nat.le_refl _) (.cells #[.int .i64 sp,.int .i64 sq] 117);have CY:=zZ ((zV 117 V4 #[.int .i64 sp,.int .i64 sq]).cell (k:=0) rfl);have CZ:=zZ ((zV 117 V4 #[.int .i64 sp,.int .i64 sq]).cell (k:=1) rfl);have CX:=zZ (T4.out.later bx);have hsX:Z<=(V4.alloc (.cells #[.int .i64 sp,.int .i64 sq] 117)).heap.size:=Nat.le_trans hB4 bx.size;have BX:=zZ (B4.out.trans (bx.mono hB4));clear bx T4
    go_upto_region 9 with (at_builtin;refine OK rfl _ _ rfl Z d2 c2 ys rfl CX.out.r2 V4.heap.size (sp,sq) rfl CY.out CZ.out (by omega) hsX ?_;intro d8 c8 V5 hG;have GR:=zZ hG;clear hG)
    have T5:=zZ (CX.out.grow2 GR.out);have B5:=zZ (BX.out.trans (GR.out.below hsX (fun y hy=>(CX.out.r2.lt y hy).1)));clear GR CX CY CZ BX hsX s0 s1
    go_wp2
    go_roundg (N-(i+1))
    case measure=>omega
    case rel=>exact ⟨i+1,d9,c9,d8,c8,by omega,rfl,by rw[I1.out,List.length_append];rfl,by rw[I2.out,List.length_append];rfl,by go_num,by rw[I1.out,I2.out];exact T5.out,B5.out⟩
   rw[if_neg hh]at MN
   have hbe:((H i:Int)==(h:Int))=false:=by simp;omega
   clear hh;generalize H i=hi' at *
   go_wp2
   go_roundg (N-(i+1))
   case measure=>omega
   case rel=>exact ⟨i+1,d1,c1,d2,c2,by omega,rfl,by rw[MN.out],by rw[MN.out],by go_num,by rw[MN.out];exact T0.out,BR.out⟩
  have ei:i=N:=by omega
  have hki:¬(i:Int)<(N:Int):=by omega
  have IR:Hid (iS (xG c h (xJ H i h))):=zPW fun x hx=>by
   unfold xG at hx;obtain ⟨v,hv,rfl⟩:=List.mem_map.1 hx;obtain ⟨q1,q2⟩:=pX.1 hv;rw[<- q2];exact HFT.out v (by omega)
  have SF:=zZ (MF d2 (xG c h (xJ H i h)) _ c2 wr rfl (by omega) IR.out T0.out.r2.at.atP);unfold RZ at SF;have T1:=zZ T0.out.r1
  have ML:Hid (∀ v,v ∈ xJ H i h->v<N):=fun v hv=>by have:=(pX.1 hv).1;omega
  have FIN:Hid (∀ U,OI B g N U c f (xJ H i h) (xJ H i h).length->zO B U (some ⟨g,0,none⟩) N (yV N (fun v=>if H v=h then c v else f v))):=fun U q=>by
   rw[ei]at q;exact q.fin (Nat.le_refl _)
  have HSC:Hid ((E=0/\TF (xG c h (xJ H i h))=0/\scR (xG c h (xJ H i h))=(xJ H i h).map fun v=>(c v:Int))\/(E=4/\TF (xG c h (xJ H i h))=4/\YR c N)):=by show _\/_;rw[ei];exact HSC.out
  have RW:Hid (∀ U,Below Z W0 U->OI B g N U c f (xJ H i h) 0):=fun U hU=>⟨f,R0.out.keep (fun x hx=>by cases hx;exact hU.block _ hgZ),(fun v hv=>by simp at hv),fun v _=>rfl⟩
  rw[wM];clear T0 IR hl1 ei
  rcases HSC.out with ⟨z0,z1,z2⟩|⟨z0,z1,z2⟩
  ·rw [z1,z2]at SF
   have Z0:=zZ z0;clear HSC z0 z1 z2 S0 HFT;generalize xJ H i h=M at *;have hsl:=OJ c h M;obtain ⟨yl,hyl⟩:∃q,(xG c h M).length=q:=⟨_,rfl⟩;generalize scK (xG c h M)=sk at *;rw[hyl]at SF ⊢;clear hyl hl2 hsl
   go_upto_region 11 with (go_at_call 75;(with_reducible refine SF.out.mono ?_);rintro e' W5 ⟨b5,a5,n5,cap5,rfl,ow⟩;have B5:=zZ b5;have O5:=zZ ow;clear b5 ow)
   have T5:=zZ (T1.out.later B5.out);have BW:=zZ (BR.out.trans (B5.out.mono hBw))
   have n5e:n5=M.length:=by have:=O5.out.1;simp at this;omega
   subst n5e;have A5:=zZ O5.out.atB
   have NE5:Hid (∀ x,a5=some x->x.block≠g):=fun x hx=>by
    rcases O5.out.2 with ⟨rfl,-,-⟩|⟨g5,rfl,hg5,-,-⟩
    ·cases hx
    cases hx
    show g5≠g;omega
   have NE1:Hid (∀ x,d1=some x->x.block≠g):=fun x hx=>by have:=(T5.out.lt x hx).1;omega
   have M5:=zZ T5.out.at;have RR:=zZ (RW.out W5 BW.out);clear SF T1 T5 RW O5 R0 O0
   go_wp2
   go_loopg [51] M.length (fun gk u w2=>∃j:Nat,j<=M.length/\gk=M.length-j/\u=.int .i64 (j:Int)/\OI B g N w2 c f M j/\xX g W5 w2)
   case atStart=>exact ⟨0,Nat.zero_le _,rfl,rfl,RR.out,xX.of_below (Below.refl _ _)⟩
   case round=>
    obtain ⟨j,hjM,rfl,rfl,hW,hBt⟩:=hrel;have WQ:=zZ hW;have BQ:=zZ hBt;clear hW hBt
    by_cases hjl:j<M.length
    ·have hji:(j:Int)<(M.length:Int):=by omega
     rcases M5.out with e|⟨mb,mo,em,hcm⟩
     ·have:=wM M
      rw[e]at this;simp at this;omega
     rcases A5.out with e|⟨wb,wo,ew,hcw⟩
     ·simp at e
      rw[e]at hjl;exact absurd hjl (Nat.not_lt_zero _)
     have m0:=hcm j (by rw[wM];exact hjl);have w0:=hcw j (by simp;exact hjl);rw[XY hjl]at m0
     have hnw:zS (M.map fun v=>(c v:Int)) j=(c M[j]:Int):=by
      unfold zS;rw[List.getD_eq_getElem?_getD,List.getElem?_map,List.getElem?_eq_getElem hjl];rfl
     rw[hnw]at w0
     replace m0:=xL BQ.out (NE1.out _ em) m0
     replace w0:=xL BQ.out (NE5.out _ ew) w0
     have hxN:=ML.out _ (List.getElem_mem hjl);have WS:=zZ (WQ.out.step hjl);obtain ⟨F,r1,-,-⟩:=WQ.out.ex;have q0:=r1.nthCell (k:=M[j]) (by rw[yY];exact hxN);have q1:=r1.fz M[j];subst em;subst ew;clear hcm hcw hnw r1 WQ ML;obtain ⟨x,hx⟩:∃x,M[j]=x:=⟨_,rfl⟩;rw[hx]at m0 w0 hxN WS q0 q1;clear hx
     have hxI:(x:Int)<(N:Int):=by omega
     generalize zS (yV N F) x=old at *;have BS:=zZ (BQ.out.trans (xX.set wr g x (.int .i64 (c x:Int))));generalize c x=cx at *
     go_wp2
     go_roundg (M.length-(j+1))
     case measure=>omega
     case rel=>exact ⟨j+1,by omega,rfl,by go_num,WS.out,BS.out⟩
    have ej:j=M.length:=by omega
    have hji:¬(j:Int)<(M.length:Int):=by omega
    have FF:=zZ (FIN.out wr (by rw[<- ej];exact WQ.out));clear FIN RR
    go_wp2
    rw[<- HRE.out];refine ⟨true,rfl,?_,.inl ⟨rfl,Z0.out,FF.out⟩⟩
    have q1:Below w.heap.size w W5:=B0.out.trans (BW.out.mono (by have:=B0.out.size;have:=HZ.out;omega));exact (xX.of_below q1).trans BQ.out
  rw[z1]at SF;have BG:=zZ z2;have Z0:=zZ z0;clear HSC z0 z1 z2 S0 HFT FIN RW ML;generalize scR (xG c h (xJ H i h))=rr at *;generalize scK (xG c h (xJ H i h))=sk at *
  go_wp2_with (go_at_call 75;(with_reducible refine SF.out.mono ?_);rintro e' W5 ⟨b5,a5,n5,cap5,rfl,ow⟩;have B5:=zZ b5;clear b5 ow)
  rw[<- HRE.out];have q1:Below w.heap.size w W5:=B0.out.trans ((BR.out.trans (B5.out.mono hBw)).mono (by have:=B0.out.size;have:=HZ.out;omega));exact ⟨false,rfl,xX.of_below q1,.inr ⟨rfl,Z0.out,BG.out⟩⟩
theorem TY.rat {A:List NA} {N:Nat} (h:TY A N):LT A A.length:=fun j hj=>by
 obtain ⟨-,-,-,-,-,-,h1,-,h2,-⟩:=h.ends j hj;exact ⟨h1,h2⟩
theorem TY.arc {A:List NA} {N:Nat} (h:TY A N):∀j,j<A.length->fN A j<N/\tN A j<N:=fun j hj=>by
 obtain ⟨-,-,-,-,h1,h2,-⟩:=h.ends j hj;exact ⟨h1,h2⟩
theorem JE {N sb g B h tl:Nat} {ta ha:Option Addr} {tc hac:Nat} {c H f:Nat->Nat} (hN:N<=1000) (w:World) (hsh:uN w sb N (fun v=>yQ (c v) (c (H v)))) (hft:∀v,v<N->yK (yQ (c v) (c (H v))).1=true/\yK (yQ (c v) (c (H v))).2=true) (hr:zO B w (some ⟨g,0,none⟩) N (yV N f)) (hho:At w ha (yV N H))
 (h1:TF (xG c h (xJ H N h))=0) (h2:scR (xG c h (xJ H N h))=(xJ H N h).map fun v=>(c v:Int)):
 Calls Tryz.prog 41 #[.slice (some ⟨g,0,none⟩) N N,.slice (some ⟨sb,0,none⟩) N N,.agg #[.slice ta tl tc,.slice ha N hac],.int .i64 (h:Int)] w fun e w'=>e=.returned (.bool true)/\xX g w w'/\zO B w' (some ⟨g,0,none⟩) N (yV N (fun v=>if H v=h then c v else f v)):=
 (ZS (E:=0) hN w hsh hft hr hho (.inl ⟨rfl,h1,h2⟩)).mono fun e w' q=>by
  obtain ⟨ok,rfl,hb,⟨rfl,-,h3⟩|⟨-,h3,-⟩⟩:=q
  ·exact ⟨rfl,hb,h3⟩
  exact absurd h3 (by decide)
theorem zYV {N sb g B h tl:Nat} {ta ha:Option Addr} {tc hac:Nat} {c H f:Nat->Nat} (hN:N<=1000) (w:World) (hsh:uN w sb N (fun v=>yQ (c v) (c (H v)))) (hft:∀v,v<N->yK (yQ (c v) (c (H v))).1=true/\yK (yQ (c v) (c (H v))).2=true) (hr:zO B w (some ⟨g,0,none⟩) N (yV N f)) (hho:At w ha (yV N H))
 (h1:TF (xG c h (xJ H N h))=4) (h2:YR c N):
 Calls Tryz.prog 41 #[.slice (some ⟨g,0,none⟩) N N,.slice (some ⟨sb,0,none⟩) N N,.agg #[.slice ta tl tc,.slice ha N hac],.int .i64 (h:Int)] w fun e w'=>e=.returned (.bool false)/\xX g w w':=
 (ZS (E:=4) hN w hsh hft hr hho (.inr ⟨rfl,h1,h2⟩)).mono fun e w' q=>by
  obtain ⟨ok,rfl,hb,⟨-,h3,-⟩|⟨rfl,-,-⟩⟩:=q
  ·exact absurd h3 (by decide)
  exact ⟨rfl,hb⟩
theorem OH (N:Nat) (H c:Nat->Nat):List.replicate N (0:Int)=yV N (fun v=>if H v<0 then c v else 0):=by
 unfold yV
 apply List.ext_getElem
 ·simp
 intro i h1 h2;simp
theorem zYU (N i:Nat) (H c:Nat->Nat):yV N (fun v=>if H v=i then c v else (if H v<i then c v else 0))=yV N (fun v=>if H v<i+1 then c v else 0):=by
 apply jD
 intro v _
 by_cases h1:H v=i
 ·rw [if_pos h1,if_pos (by omega)]
 rw[if_neg h1]
 by_cases h2:H v<i
 ·rw [if_pos h2,if_pos (by omega)]
 rw[if_neg h2,if_neg (by omega)]
theorem JD {N:Nat} {H c:Nat->Nat} (h:∀v,H v<=v):yV N (fun v=>if H v<N then c v else 0)=yV N c:=by
 apply jD
 intro v hv;rw[if_pos (Nat.lt_of_le_of_lt (h v) hv)]
def gJ (c:Nat->Nat) (N:Nat):Bool:=(List.range N).any fun v=>decide (4096<c v)
theorem zUA {c:Nat->Nat} {N v:Nat} (hv:v<N) (h:4096<c v):gJ c N=true:=by
 unfold gJ;rw[List.any_eq_true];exact ⟨v,List.mem_range.2 hv,decide_eq_true h⟩
theorem TP {c:Nat->Nat} {N:Nat} :gJ c N=false↔∀v,v<N->c v<=4096:=by
 unfold gJ;rw[List.any_eq_false]
 constructor
 ·intro h v hv
  have:=h v (List.mem_range.2 hv);simp at this;exact this
 intro h v hv;have:=h v (List.mem_range.1 hv);simp;exact this
theorem YR.big {c:Nat->Nat} {N:Nat} (h:YR c N):gJ c N=true:=by
 obtain ⟨u,h1,h2⟩:=h;exact zUA h1 (by omega)
theorem EG {c:Nat->Nat} {N:Nat} (hc:∀v,1<=c v):rL (yV N c)= !gJ c N:=by
 cases hb:gJ c N with
 |false=>
  show _=true;rw[oH];intro k hk;rw[yY]at hk;rw[vS hk];have:=TP.1 hb k hk;have:=hc k;omega
 |true=>
  show _=false
  cases hw:rL (yV N c) with
  |false=>rfl
  |true=>
   rw[oH]at hw
   have:gJ c N=false:=TP.2 fun v hv=>by
    have:=hw v (by rw[yY];exact hv);rw[vS hv]at this;omega
   rw[this]at hb
   cases hb
def FcE (w:World) (N:Nat) (c:Nat->Nat) (e:Ending) (w':World):Prop:=
 ∃(d:Option Addr) (n cap:Nat),e=.returned (.tuple #[.slice d n cap,.bool (!gJ c N)])/\Below w.heap.size w w'/\(gJ c N=false->n=N/\zO w.heap.size w' d cap (yV N c))
theorem eS {N:Nat} {A:List NA} {aa ta ha:Option Addr} {ac tc hac:Nat} (hS:TY A N) (hN:N<=1000) (hAl:A.length<=1000) (w:World) (h1:vN w aa A) (h2:At w ta (yC (yJ A A.length))) (h3:At w ha (yV N (zQ A A.length))):
 Calls Tryz.prog 19 #[.agg #[.int .i64 (N:Int),.slice aa A.length ac],.agg #[.slice ta (yJ A A.length).length tc,.slice ha N hac]] w (FcE w N (wX A A.length)):=by
 obtain ⟨i0,hi,hz0,hz1,hz2⟩:=info_parts Tryz.info3
 have hc:∀v,1<=wX A A.length v:=fun v=>mK hS.rat (Nat.le_refl _) v
 have SCA:Hid (∀ i,i<N->(TF (xG (wX A A.length) i (xJ (zQ A A.length) N i))=0/\scR (xG (wX A A.length) i (xJ (zQ A A.length) N i))=(xJ (zQ A A.length) N i).map fun v=>(wX A A.length v:Int))\/(TF (xG (wX A A.length) i (xJ (zQ A A.length) N i))=4/\YR (wX A A.length) N)):=fun i hiN=>by
  by_cases hh:zQ A A.length i=i
  ·rcases QT (c:=wX A A.length) (h:=i) (M:=xJ (zQ A A.length) N i) hc (pX.2 ⟨hiN,hh⟩) (fun d hd=>zRF hS.rat hS.arc hiN hh hd) with ⟨-,q1,q2⟩|⟨q1,v,hv,q2⟩
   ·exact .inl ⟨q1,q2⟩
   exact .inr ⟨q1,v,(pX.1 hv).1,q2⟩
  have e:xJ (zQ A A.length) N i=[]:=by
   rw[List.eq_nil_iff_forall_not_mem];intro v hv;have q:=(pX.1 hv).2;exact hh (by rw[<- q,oV])
  rw[e];exact .inl ⟨rfl,rfl⟩
 have CAR:=zZ (fun (W:World) (g1:vN W aa A) (g2:At W ta (yC (yJ A A.length))) (g3:At W ha (yV N (zQ A A.length)))=>ON (ac:=ac) (tc:=tc) (hac:=hac) hS hN (fun j hj=>uX hj) (Nat.le_trans iM hAl) hc (fun j hj=>oR hj) (fun j hj=>XX hj) (fun v=>tR) (fun U q1 q2=>zRG q1 q2) W g1 g2 g3)
 have HL:Hid (∀ v,zQ A A.length v<=v):=fun v=>tR
 have WR:=zZ (EG (N:=N) hc);generalize wX A A.length=c at *;generalize zQ A A.length=H at *;generalize yJ A A.length=T at *;have b0:=(Below.refl w.heap.size w).alloc (Nat.le_refl _) (.cells #[.int .i64 (N:Int),.slice aa A.length ac] 30);have b1:=(Below.refl (w.alloc (.cells #[.int .i64 (N:Int),.slice aa A.length ac] 30)).heap.size (w.alloc (.cells #[.int .i64 (N:Int),.slice aa A.length ac] 30))).alloc (Nat.le_refl _) (.cells #[.slice ta T.length tc,.slice ha N hac] 69);have hs0:(w.alloc (.cells #[.int .i64 (N:Int),.slice aa A.length ac] 30)).heap.size=w.heap.size+1:=World.size_alloc _ _;have b2:=b0.trans (b1.mono b0.size);have XN:=zZ ((zV 30 w #[.int .i64 (N:Int),.slice aa A.length ac]).below b1);have XF:=zZ (zV 69 (w.alloc (.cells #[.int .i64 (N:Int),.slice aa A.length ac] 30)) #[.slice ta T.length tc,.slice ha N hac]);have L0:=zZ b2;have KA:=zZ (h1.below b2);have KT:=zZ (h2.below b2);have KH:=zZ (h3.below b2);rw[hs0]at XF;clear b0 b1 b2 hs0 h1 h2 h3 hc;obtain ⟨RE,hRE⟩:∃R,FcE w N c=R:=⟨_,rfl⟩;rw[hRE];have HRE:=zZ hRE;clear hRE
 go_enter Tryz.func19,Tryz.ntmps19
 go_upto_region 1 with fail
 generalize (w.alloc (.cells #[.int .i64 (N:Int),.slice aa A.length ac] 30)).alloc (.cells #[.slice ta T.length tc,.slice ha N hac] 69)=W0 at *;obtain ⟨nb,hnb⟩:∃q,w.heap.size=q:=⟨_,rfl⟩;have HNB:=zZ hnb;rw[hnb]at XN XF L0 ⊢;clear hnb;have y0:=XN.out.cell (k:=0) rfl;have y1:=XN.out.cell (k:=1) rfl;have z0:=XF.out.cell (k:=0) rfl;have z1:=XF.out.cell (k:=1) rfl;simp only[List.getElem_toArray,List.getElem_cons_zero,List.getElem_cons_succ]at y0 y1 z0 z1;have CL:=zZ (CAR.out W0 KA.out KT.out KH.out);unfold zNF at CL
 go_upto_region 2 with (go_at_call 40;(with_reducible refine CL.out.mono ?_);rintro e' W1 ⟨x,d,n',rfl,b1,h1⟩;have B1:=zZ b1;have H1:=zZ h1;clear b1 h1)
 clear CL CAR y0 y1 z0 z1
 rcases H1.out with ⟨rfl,rfl,sb,rfl,hsb,sha,fit⟩|⟨rfl,big⟩
 ·have SH:=zZ sha
  have FT:=zZ fit;have X1:=zZ (XN.out.below B1.out);have F1:=zZ (XF.out.below B1.out);have K1:=zZ (KH.out.below B1.out);have L1:=zZ (L0.out.trans (B1.out.mono (by have:=L0.out.size;have:=HNB.out;omega)));clear H1 sha fit KA KT KH XN XF hsb B1 L0;have y0:=X1.out.cell (k:=0) rfl;simp only[List.getElem_toArray,List.getElem_cons_zero]at y0
  have hB1:nb<=W1.heap.size:=by have:=L1.out.size;have:=HNB.out;omega
  go_upto_region 5 with (at_make;refine wpList_make_full _ rfl _ _ 27 rfl nb 3 i0 (.int .i64 0) 1 Tryz.underlying27 hi hz0 hz1 _ _ _ _ n' rfl rfl rfl rfl (by rw[hz2];omega) (by unfold maxLen;omega) hB1 ?_;intro w1 hown0 hgrow0;have C0:=zZ (ZX hown0);have B1:=zZ ((Below.refl W1.heap.size W1).grown hgrow0 (Nat.le_refl _) (fun k h=>by cases h));clear hown0 hgrow0)
  have L2:=zZ (L1.out.trans (B1.out.mono hB1));have X2:=zZ (X1.out.below B1.out);have F2:=zZ (F1.out.below B1.out);have K2:=zZ (K1.out.below B1.out);have S2:=zZ (SH.out.below B1.out);have gl:Hid (sb<W1.heap.size/\nb<W1.heap.size/\nb+1<W1.heap.size):=⟨SH.out.lt,X1.out.lt,F1.out.lt⟩
  have KB:Hid (∀ x,ha=some x->yV n' H≠[]->x.block<W1.heap.size):=fun x hx hne=>QN K1.out hne hx
  rw[OH n' H c]at C0;obtain ⟨g,hg⟩:∃q,W1.heap.size=q:=⟨_,rfl⟩;rw[hg]at C0 gl KB ⊢;clear y0 X1 F1 K1 SH L1 B1 hg hi hz0 hz1 hz2 hB1;have y0:=X2.out.cell (k:=0) rfl;simp only[List.getElem_toArray,List.getElem_cons_zero]at y0
  go_wp2
  go_loopg [23] n' (fun gk u wr=>∃i:Nat,i<=n'/\gk=n'-i/\u=.int .i64 (i:Int)/\zO nb wr (some ⟨g,0,none⟩) n' (yV n' (fun v=>if H v<i then c v else 0))/\xX g w1 wr)
  case atStart=>exact ⟨0,Nat.zero_le _,rfl,rfl,C0.out,xX.of_below (Below.refl _ _)⟩
  case round=>
   obtain ⟨i,hiN,rfl,rfl,hC,hBt⟩:=hrel;have CQ:=zZ hC;have BQ:=zZ hBt;clear hC hBt y0;have LQ:Hid (Below nb w wr):=L2.out.trans (BQ.out.below (by have:=gl.out;omega) (by have:=L2.out.size;have:=HNB.out;omega))
   by_cases hlt:i<n'
   ·have hki:(i:Int)<(n':Int):=by omega
    have FQ:=zZ (F2.out.keep (BQ.out.block _ F2.out.lt (by have:=gl.out;omega)));have SQ:=zZ (S2.out.keep (BQ.out.block _ S2.out.lt (by have:=gl.out;omega)))
    have KQ:Hid (At wr ha (yV n' H)):=by
     show At wr ha (yV n' H)
     rcases K2.out with e|⟨b,off,e,hcc⟩
     ·exact .inl e
     refine .inr ⟨b,off,e,fun k hk=>xL BQ.out ?_ (hcc k hk)⟩
     have:=KB.out _ e (fun q=>by rw[q]at hk;exact absurd hk (Nat.not_lt_zero _));simp only at this;omega
    have z0:=FQ.out.cell (k:=0) rfl;have z1:=FQ.out.cell (k:=1) rfl;simp only[List.getElem_toArray,List.getElem_cons_zero,List.getElem_cons_succ]at z0 z1
    rcases SCA.out i hlt with ⟨q1,q2⟩|⟨q1,q2⟩
    ·have ST:=zZ (JE (ta:=ta) (tl:=T.length) (tc:=tc) (hac:=hac) hN wr SQ.out FT.out CQ.out KQ.out q1 q2)
     rw[zYU]at ST;clear q1 q2
     go_wp2_with (go_at_call 41;(with_reducible refine ST.out.mono ?_);rintro e' W3 ⟨rfl,bt,cr⟩;have BN:=zZ (BQ.out.trans bt);have CN:=zZ cr;clear bt cr)
     go_roundg (n'-(i+1))
     case measure=>omega
     case rel=>exact ⟨i+1,by omega,rfl,by go_num,CN.out,BN.out⟩
    have ST:=zZ (zYV (ta:=ta) (tl:=T.length) (tc:=tc) (hac:=hac) hN wr SQ.out FT.out CQ.out KQ.out q1 q2);have BG:=zZ q2.big;clear q1 q2
    go_wp2_with (go_at_call 41;(with_reducible refine ST.out.mono ?_);rintro e' W3 ⟨rfl,bt⟩;have BN:=zZ bt;clear bt)
    rw[<- HRE.out];refine ⟨none,0,0,by rw[BG.out];rfl,?_,fun h=>by rw[BG.out]at h;cases h⟩
    rw[HNB.out];exact LQ.out.trans (BN.out.below (by have:=gl.out;omega) (by have:=LQ.out.size;have:=HNB.out;omega))
   have ei:i=n':=by omega
   have hki:¬(i:Int)<(n':Int):=by omega
   rw[ei,JD HL.out]at CQ;have AW:=zZ (jR (some ⟨g,0,none⟩) (yV n' c) n' n' wr (yY _ _) (by omega) CQ.out.at);rw[WR.out]at AW;clear ei
   go_wp2_with (go_at_call 42;(with_reducible refine AW.out.mono ?_);rintro e' W3 ⟨rfl,eW⟩;have EW:=zZ eW;clear eW)
   rw[<- HRE.out];refine ⟨some ⟨g,0,none⟩,n',n',rfl,?_,fun _=>⟨rfl,?_⟩⟩
   ·rw [HNB.out,<-EW.out];exact LQ.out
   rw[HNB.out,<-EW.out];exact CQ.out
 have BG:=zZ big.big;clear H1 big
 go_wp2
 rw[<- HRE.out];refine ⟨none,0,0,by rw[BG.out];rfl,?_,fun h=>by rw[BG.out]at h;cases h⟩
 rw[HNB.out];exact L0.out.trans (B1.out.mono (by have:=L0.out.size;have:=HNB.out;omega))
def rJ (n:NN) (i:Nat):List (Nat × Bool):=(i,false)::(oJ n (zU n.arcs i).t (zU n.arcs i).f).1
def zNC (n:NN) (i:Nat) (w:World) (e:Ending) (w':World):Prop:=∃d cc,e=.returned (.slice d (rJ n i).length cc)/\wT w.heap.size w' d cc (rJ n i)/\Below w.heap.size w w'
theorem OG (n:NN) (a:Option Addr) (c i:Nat) (w:World) (h:vN w a n.arcs) (hl:n.arcs.length<=1000) (hi:i<n.arcs.length):
 Calls Tryz.prog 21 #[.agg #[.int .i64 n.nodes,.slice a n.arcs.length c],.int .i64 (i:Int)] w (zNC n i w):=by
 have b0:=(Below.refl w.heap.size w).alloc (Nat.le_refl _) (.cells #[.int .i64 n.nodes,.slice a n.arcs.length c] 30);have X0:=zZ (zV 30 w #[.int .i64 n.nodes,.slice a n.arcs.length c]);have B0:=zZ b0;have HA:=zZ (h.below b0);have PA:=zZ (fun U (hU:vN U a n.arcs)=>zUK n a c (zU n.arcs i).t (zU n.arcs i).f U hU (by omega));have PL:=WJ n (zU n.arcs i).t (zU n.arcs i).f
 have CE:Hid (∀ P,(oJ n (zU n.arcs i).t (zU n.arcs i).f).1=P->rJ n i=[(i,false)]++P):=fun P hP=>by unfold rJ;rw[hP];rfl
 have CE:=zZ (CE.out _ rfl)
 rcases h with e|⟨nb,no,en,hcn⟩
 ·rw [e]at hi;exact absurd hi (Nat.not_lt_zero _)
 obtain ⟨a0,a1,a2,a3,a4⟩:=hcn i hi
 replace a0:=zW b0 a0
 replace a1:=zW b0 a1
 replace a2:=zW b0 a2
 replace a3:=zW b0 a3
 replace a4:=zW b0 a4
 subst en;clear hcn b0;obtain ⟨RE,hRE⟩:∃R,zNC n i w=R:=⟨_,rfl⟩;rw[hRE];have HRE:=zZ hRE;clear hRE;unfold zUL at PA;generalize (oJ n (zU n.arcs i).t (zU n.arcs i).f).1=P at *;generalize (oJ n (zU n.arcs i).t (zU n.arcs i).f).2=pe at *;generalize zU n.arcs i=x at *
 have hiI:(i:Int)<(n.arcs.length:Int):=by omega
 have y1:=X0.out.cell (k:=1) rfl;simp only[List.getElem_toArray,List.getElem_cons_zero,List.getElem_cons_succ]at y1
 go_enter Tryz.func21,Tryz.ntmps21
 go_upto_region 1 with fail
 generalize w.alloc (.cells #[.int .i64 n.nodes,.slice (some ⟨nb,no,none⟩) n.arcs.length c] 30)=W0 at *
 go_upto_region 2 with fail
 have b1:=(Below.refl W0.heap.size W0).alloc (Nat.le_refl _) (.cells #[.int .i64 x.f,.int .i64 x.t,.int .i64 x.g,.int .i64 x.k,.int .i64 x.s] 61);have X1:=zZ (X0.out.below b1);have XA:=zZ (zV 61 W0 #[.int .i64 x.f,.int .i64 x.t,.int .i64 x.g,.int .i64 x.k,.int .i64 x.s]);have L1:=zZ (B0.out.trans (b1.mono B0.out.size));have H1:=zZ (HA.out.below b1);obtain ⟨ab,hab⟩:∃q,W0.heap.size=q:=⟨_,rfl⟩;rw[hab]at XA ⊢;clear hab b1 a0 a1 a2 a3 a4 y1 HA X0;generalize W0.alloc (.cells #[.int .i64 x.f,.int .i64 x.t,.int .i64 x.g,.int .i64 x.k,.int .i64 x.s] 61)=W1 at *;have y0:=X1.out.cell (k:=0) rfl;have y1:=X1.out.cell (k:=1) rfl;have x0:=XA.out.cell (k:=0) rfl;have x1:=XA.out.cell (k:=1) rfl;simp only[List.getElem_toArray,List.getElem_cons_zero,List.getElem_cons_succ]at y0 y1 x0 x1
 go_upto_region 3 with (go_at_call 44;(with_reducible refine (PA.out _ H1.out).mono ?_);rintro e W2 ⟨d2,c2,rfl,q1,q2⟩;have C2:=zZ (q1.mono L1.out.size);have L2:=zZ (L1.out.trans (q2.mono L1.out.size));clear q1 q2)
 clear y0 y1 x0 x1 X1 XA H1 PA L1;have b3:=(Below.refl W2.heap.size W2).alloc (Nat.le_refl _) (.cells #[.int .i64 (i:Int),.bool false] 122);have CL:Hid (wT w.heap.size (W2.alloc (.cells #[.int .i64 (i:Int),.bool false] 122)) (some ⟨W2.heap.size,0,none⟩) 1 [(i,false)]):=World.ownsRow_lit W2 #[.int .i64 (i:Int),.bool false] 1 L2.out.size (by decide) rfl;have C3:=zZ (C2.out.later b3);have L3:=zZ (L2.out.trans (b3.mono L2.out.size));clear b3 C2
 go_wp2_with (at_builtin;refine dT rfl _ _ rfl w.heap.size (some ⟨W2.heap.size,0,none⟩) 1 [(i,false)] rfl CL.out d2 c2 P rfl C3.out.none C3.out.at (by simp;omega) L3.out.size (rJ n i).length (rJ n i) (by rw[CE.out,List.length_append]) CE.out.symm ?_;intro d4 c4 W4 hd4 b4;have D4:=zZ hd4;have L4:=zZ (L3.out.trans b4);clear hd4 b4)
 rw[<- HRE.out];exact ⟨d4,c4,rfl,D4.out,L4.out⟩
def kM (n:NN):Nat->Nat:=wX n.arcs n.arcs.length
def kF (n:NN):Bool:=gJ (kM n) n.nodes.toNat
def vdB (n:NN):Int:=if zN n=0 then (if kF n then 3 else match jB n.arcs (kM n) with|some _=>2|none=>1) else 0
def rpB (n:NN):List Int:=if zN n=0 then (if kF n then [] else match jB n.arcs (kM n) with|some _=>[]|none=>yV n.nodes.toNat (kM n)) else []
def cyB (n:NN):List (Nat × Bool):=if zN n=0 then (if kF n then [] else match jB n.arcs (kM n) with|some i=>rJ n i|none=>[]) else []
theorem zPV {n:NN} (h:¬zN n=0):vdB n=0/\rpB n=[]/\cyB n=[]:=by unfold vdB rpB cyB;rw[if_neg h,if_neg h,if_neg h];exact ⟨rfl,rfl,rfl⟩
theorem EE {n:NN} (h:zN n=0) (hb:kF n=true):vdB n=3/\rpB n=[]/\cyB n=[]:=by unfold vdB rpB cyB;rw[if_pos h,if_pos h,if_pos h,hb];exact ⟨rfl,rfl,rfl⟩
theorem ED {n:NN} {i:Nat} (h:zN n=0) (hb:kF n=false) (hf:jB n.arcs (kM n)=some i):vdB n=2/\rpB n=[]/\cyB n=rJ n i:=by unfold vdB rpB cyB;rw[if_pos h,if_pos h,if_pos h,hb,hf];exact ⟨rfl,rfl,rfl⟩
theorem OD {n:NN} (h:zN n=0) (hb:kF n=false) (hf:jB n.arcs (kM n)=none):vdB n=1/\rpB n=yV n.nodes.toNat (kM n)/\cyB n=[]:=by unfold vdB rpB cyB;rw[if_pos h,if_pos h,if_pos h,hb,hf];exact ⟨rfl,rfl,rfl⟩
def SolE (n:NN) (w:World) (e:Ending) (w':World):Prop:=∃d1 c1 d2 c2,e=.returned (.tuple #[.agg #[.int .u8 (vdB n),.slice d1 (rpB n).length c1,.slice d2 (cyB n).length c2],.int .i64 (zN n)])/\zO w.heap.size w' d1 c1 (rpB n)/\wT w.heap.size w' d2 c2 (cyB n)/\Below w.heap.size w w'
theorem kL (n:NN) (a:Option Addr) (c:Nat) (w:World) (h:vN w a n.arcs) (hl:n.arcs.length<=4611686018427387904):Calls Tryz.prog 6 #[.agg #[.int .i64 n.nodes,.slice a n.arcs.length c]] w (SolE n w):=by
 have b0:=(Below.refl w.heap.size w).alloc (Nat.le_refl _) (.cells #[.int .i64 n.nodes,.slice a n.arcs.length c] 30);have b1:=(Below.refl (w.alloc (.cells #[.int .i64 n.nodes,.slice a n.arcs.length c] 30)).heap.size (w.alloc (.cells #[.int .i64 n.nodes,.slice a n.arcs.length c] 30))).alloc (Nat.le_refl _) (.cells #[.int .u8 0,qN,qN] 38);have hs0:(w.alloc (.cells #[.int .i64 n.nodes,.slice a n.arcs.length c] 30)).heap.size=w.heap.size+1:=World.size_alloc _ _;have b2:=b0.trans (b1.mono b0.size);have XN:=zZ ((zV 30 w #[.int .i64 n.nodes,.slice a n.arcs.length c]).below b1);have XB:=zZ (zV 38 (w.alloc (.cells #[.int .i64 n.nodes,.slice a n.arcs.length c] 30)) #[.int .u8 0,qN,qN]);rw[hs0]at XB;have L0:=zZ b2;have HA:=zZ (h.below b2);have OF:=zZ (EM n a c _ (h.below b2) hl);unfold zZN at OF;clear b0 b1 b2 hs0 h;obtain ⟨RE,hRE⟩:∃R,SolE n w=R:=⟨_,rfl⟩;rw[hRE];have HRE:=zZ hRE;clear hRE;obtain ⟨nb,hnb⟩:∃q,w.heap.size=q:=⟨_,rfl⟩;have HNB:=zZ hnb
 by_cases hc:zN n=0
 ·simp only[if_pos hc]at OF
  have hS:=zB hc;have SB:=zZ hS.souB;have hN:=hS.nodes;have hM:=hS.most;have CK:=zZ hc;have V3:=zZ (fun hb=>EE hc hb);have V2:=zZ (fun i hb hf=>ED (i:=i) hc hb hf);have V1:=zZ (fun hb hf=>OD hc hb hf);clear hS hc;have CB:=zZ (fun (i:Nat) U (hU:vN U a n.arcs) (hi:i<n.arcs.length)=>OG n a c i U hU (by omega) hi)
  have HC:Hid (∀ v,1<=kM n v):=fun v=>mK SB.out.rat (Nat.le_refl _) v
  have hN1:n.nodes.toNat<=1000:=by omega
  have hM1:n.arcs.length<=1000:=by omega
  have FC:=zZ (fun (U:World) (d1 d2:Option Addr) (c1 c2:Nat) (g1:vN U a n.arcs) (g2:At U d1 (yC (yJ n.arcs n.arcs.length))) (g3:At U d2 (yV n.nodes.toNat (zQ n.arcs n.arcs.length)))=>eS (aa:=a) (ac:=c) (ta:=d1) (tc:=c1) (ha:=d2) (hac:=c2) SB.out hN1 hM1 U g1 g2 g3);unfold FcE at FC;have FU:=zZ (fun (U:World) (r:Option Addr) (rc:Nat) (g1:∀v,v<n.nodes.toNat->1<=kM n v/\kM n v<=9223372036854775807) (g2:vN U a n.arcs) (g3:At U r (yV n.nodes.toNat (kM n)))=>nE n.arcs n.nodes.toNat (kM n) n.nodes a r c rc U SB.out hM1 g1 g2 g3);have EB:Hid (gJ (wX n.arcs n.arcs.length) n.nodes.toNat=kF n):=rfl;have ER:Hid (yV n.nodes.toNat (wX n.arcs n.arcs.length)=yV n.nodes.toNat (kM n)):=rfl;rw[EB.out,ER.out]at FC;obtain ⟨N,hNN⟩:∃N:Nat,n.nodes=(N:Int):=⟨n.nodes.toNat,by omega⟩
  have eN:n.nodes.toNat=N:=by omega
  rw[eN]at FC FU OF V1;rw[hNN]at FU;have NN0:=zZ hNN;rw[hnb]at XN XB L0
  have GOAL:Hid (∀ (v:Int) (d1:Option Addr) (n1 c1:Nat) (d2:Option Addr) (n2 c2:Nat) (W:World),vdB n=v->n1=(rpB n).length->n2=(cyB n).length->zO nb W d1 c1 (rpB n)->wT nb W d2 c2 (cyB n)->Below nb w W->RE (.returned (.tuple #[.agg #[.int .u8 v,.slice d1 n1 c1,.slice d2 n2 c2],.int .i64 0])) W):=fun v d1 n1 c1 d2 n2 c2 W e1 e2 e3 g1 g2 g3=>by
   rw[<- HRE.out];subst e1;subst e2;subst e3;refine ⟨d1,c1,d2,c2,by rw[CK.out],?_,?_,?_⟩
   ·rw [HNB.out];exact g1
   ·rw [HNB.out];exact g2
   rw[HNB.out];exact g3
  clear HRE eN hnb hNN
  go_enter Tryz.func6,Tryz.ntmps6
  go_upto_region 1 with fail
  generalize (w.alloc (.cells #[.int .i64 n.nodes,.slice a n.arcs.length c] 30)).alloc (.cells #[.int .u8 0,qN,qN] 38)=W0 at *;rw[HNB.out];have y0:=XN.out.cell (k:=0) rfl;have y1:=XN.out.cell (k:=1) rfl;simp only[List.getElem_toArray,List.getElem_cons_zero,List.getElem_cons_succ]at y0 y1
  go_upto_region 2 with (go_at_call 18;(with_reducible refine OF.out.mono ?_);rintro e W1 ⟨d1,c1,d2,c2,rfl,q1,q2,-,b1⟩;have T1:=zZ q1.at;have H1:=zZ q2.at;have B1:=zZ b1;clear q1 q2 b1)
  have L1:=zZ (L0.out.trans (B1.out.mono (by have:=L0.out.size;have:=HNB.out;omega)));have N1:=zZ (XN.out.below B1.out);have Y1:=zZ (XB.out.below B1.out);have A1:=zZ (HA.out.below B1.out);clear OF XN XB L0 HA B1 y0 y1
  have hnb1:nb<=W1.heap.size:=by have:=L1.out.size;have:=HNB.out;omega
  have b2:=(Below.refl W1.heap.size W1).alloc (Nat.le_refl _) (.cells #[.slice d1 (yC (yJ n.arcs n.arcs.length)).length c1,.slice d2 (yV N (zQ n.arcs n.arcs.length)).length c2] 69);have F2:=zZ (zV 69 W1 #[.slice d1 (yC (yJ n.arcs n.arcs.length)).length c1,.slice d2 (yV N (zQ n.arcs n.arcs.length)).length c2]);have L2:=zZ (L1.out.trans (b2.mono hnb1));have N2:=zZ (N1.out.below b2);have Y2:=zZ (Y1.out.below b2);have A2:=zZ (A1.out.below b2);have T2:=zZ (T1.out.below b2);have H2:=zZ (H1.out.below b2);obtain ⟨fb,hfb⟩:∃q,W1.heap.size=q:=⟨_,rfl⟩;rw[hfb]at F2 ⊢;rw[wM,yY]at F2 ⊢;rw[wM,yY]at L2 N2 Y2 A2 T2 H2;clear b2 hfb T1 H1 N1 Y1 A1 L1 hnb1;generalize W1.alloc (.cells #[.slice d1 (yJ n.arcs n.arcs.length).length c1,.slice d2 N c2] 69)=W2 at *
  have hnb2:nb<=W2.heap.size:=by have:=L2.out.size;have:=HNB.out;omega
  have CL:=zZ (FC.out W2 d1 d2 c1 c2 A2.out T2.out H2.out);have y0:=N2.out.cell (k:=0) rfl;have y1:=N2.out.cell (k:=1) rfl;have z0:=F2.out.cell (k:=0) rfl;have z1:=F2.out.cell (k:=1) rfl;simp only[List.getElem_toArray,List.getElem_cons_zero,List.getElem_cons_succ]at y0 y1 z0 z1;rw[NN0.out]at y0 ⊢;clear FC
  go_upto_region 5 with (go_at_call 19;(with_reducible refine CL.out.mono ?_);rintro e W3 ⟨d3,n3,c3,rfl,b3,h3⟩;have B3:=zZ b3;have H3:=zZ h3;clear b3 h3)
  have L3:=zZ (L2.out.trans (B3.out.mono hnb2));have N3:=zZ (N2.out.below B3.out);have Y3:=zZ (Y2.out.below B3.out);have A3:=zZ (A2.out.below B3.out);have Y2L:Hid (nb+1<W2.heap.size):=Y2.out.lt;clear CL y0 y1 z0 z1 T2 H2 F2 N2 Y2 A2
  have hnb3:nb<=W3.heap.size:=by have:=L3.out.size;have:=HNB.out;omega
  cases hb:kF n with
  |true=>
   have V:=zZ (V3.out hb);have z0:=Y3.out.cell (k:=0) rfl;have z1:=Y3.out.cell (k:=1) rfl;have z2:=Y3.out.cell (k:=2) rfl;simp only[List.getElem_toArray,List.getElem_cons_zero,List.getElem_cons_succ]at z0 z1 z2;have f0:=Y3.out.frozen 0;have f1:=Y3.out.frozen 1;have f2:=Y3.out.frozen 2;clear hb V1 V2 V3 CB FU H3 HC EB ER
   go_wp2
   refine bodyPost_ret (v:=.tuple #[.agg #[.int .u8 3,qN,qN],.int .i64 0]) (by simp[results,Tryz.results6,go_sem,z0,z1,z2]) rfl ?_
   exact GOAL.out 3 none 0 0 none 0 0 _ V.out.1 (by rw[V.out.2.1];rfl) (by rw[V.out.2.2];rfl) (by rw[V.out.2.1];exact zO.nil _ _) (by rw[V.out.2.2];exact wT.nil _ _) (((L3.out.setCell (by show nb<=nb+1;omega) _).setCell (by show nb<=nb+1;omega) _).setCell (by show nb<=nb+1;omega) _)
  |false=>
   obtain ⟨rfl,r3⟩:=H3.out hb;have hY2:=Y2L.out
   have R3N:Hid (∀ x,d3=some x->x.block≠nb+1):=fun x hx=>by have:=(r3.lt x hx).1;omega
   have R3:=zZ (r3.mono hnb2);have BU:=zZ (TP.1 (show gJ (kM n) n.nodes.toNat=false from hb));have HB:=zZ hb;clear H3 r3 hb V3 EB ER;have FU2:=zZ (FU.out W3 d3 c3 (fun v hv=>⟨HC.out v,by have:=BU.out v (by have:=NN0.out;omega);omega⟩) A3.out R3.out.at);have y0:=N3.out.cell (k:=0) rfl;have y1:=N3.out.cell (k:=1) rfl;simp only[List.getElem_toArray,List.getElem_cons_zero,List.getElem_cons_succ]at y0 y1;rw[NN0.out]at y0
   cases hf:jB n.arcs (kM n) with
   |none=>
    have EF:Hid (fuI n.arcs (kM n)= -1):=by show _=_;unfold fuI;rw[hf]
    have V:=zZ (V1.out HB.out hf);rw[EF.out]at FU2;clear hf V1 V2 CB FU EF
    go_wp2_with (go_at_call 20;(with_reducible refine FU2.out.mono ?_);rintro e W4 ⟨rfl,b4⟩;have B4:=zZ b4;have Y4:=zZ (Y3.out.below b4);have L4:=zZ (L3.out.trans (b4.mono hnb3));have z0:=Y4.out.cell (k:=0) rfl;have z1:=Y4.out.cell (k:=1) rfl;have z2:=Y4.out.cell (k:=2) rfl;simp only[List.getElem_toArray,List.getElem_cons_zero,List.getElem_cons_succ]at z0 z1 z2;have f0:=Y4.out.frozen 0;have f1:=Y4.out.frozen 1;have f2:=Y4.out.frozen 2;clear b4)
    have BU4:=zZ ((((xX.set W4 (nb+1) 0 (.int .u8 1)).trans (xX.set _ (nb+1) 1 (.slice d3 n3 c3))).trans (xX.set _ (nb+1) 2 (qN))));refine bodyPost_ret (v:=.tuple #[.agg #[.int .u8 1,.slice d3 n3 c3,qN],.int .i64 0]) (by simp[results,Tryz.results6,go_sem,z0,z1,z2]) rfl ?_
    exact GOAL.out 1 d3 n3 c3 none 0 0 _ V.out.1 (by rw[V.out.2.1,yY]) (by rw[V.out.2.2];rfl) (by rw[V.out.2.1];exact (R3.out.later B4.out).keep (fun x hx=>BU4.out.block _ ((R3.out.later B4.out).lt x hx).2 (R3N.out x hx))) (by rw[V.out.2.2];exact wT.nil _ _) (((L4.out.setCell (by show nb<=nb+1;omega) _).setCell (by show nb<=nb+1;omega) _).setCell (by show nb<=nb+1;omega) _)
   |some i=>
    obtain ⟨hi,-,-⟩:=OQ hf
    have EF:Hid (fuI n.arcs (kM n)=(i:Int)):=by show _=_;unfold fuI;rw[hf]
    have V:=zZ (V2.out i HB.out hf);rw[EF.out]at FU2;have CB2:=zZ (fun U hU=>CB.out i U hU hi);unfold zNC at CB2;rw[NN0.out]at CB2
    have hne:((i:Int)!= -1)=true:=by simp
    clear hf V1 V2 CB FU EF
    go_wp2_with (first
     |(go_at_call 20;(with_reducible refine FU2.out.mono ?_);rintro e W4 ⟨rfl,b4⟩;have B4:=zZ b4;have Y4:=zZ (Y3.out.below b4);have N4:=zZ (N3.out.below b4);have A4:=zZ (A3.out.below b4);have L4:=zZ (L3.out.trans (b4.mono hnb3));have y0:=N4.out.cell (k:=0) rfl;have y1:=N4.out.cell (k:=1) rfl;simp only[List.getElem_toArray,List.getElem_cons_zero,List.getElem_cons_succ]at y0 y1;rw[NN0.out]at y0;clear b4)
     |(go_at_call 21;(with_reducible refine (CB2.out _ A4.out).mono ?_);rintro e W5 ⟨d5,c5,rfl,q5,b5⟩;have C5:=zZ q5;have Y5:=zZ (Y4.out.below b5);have L5:=zZ (L4.out.trans (b5.mono (Nat.le_trans hnb3 B4.out.size)));have z0:=Y5.out.cell (k:=0) rfl;have z1:=Y5.out.cell (k:=1) rfl;have z2:=Y5.out.cell (k:=2) rfl;simp only[List.getElem_toArray,List.getElem_cons_zero,List.getElem_cons_succ]at z0 z1 z2;have f0:=Y5.out.frozen 0;have f1:=Y5.out.frozen 1;have f2:=Y5.out.frozen 2;clear q5 b5))
    have hW4:nb+1<W4.heap.size:=Y4.out.lt;have BU5:=zZ ((((xX.set W5 (nb+1) 0 (.int .u8 2)).trans (xX.set _ (nb+1) 1 (qN))).trans (xX.set _ (nb+1) 2 (.slice d5 (rJ n i).length c5))));have K5:=zZ (C5.out.keep (fun x hx=>BU5.out.block _ (C5.out.lt x hx).2 (by have:=(C5.out.lt x hx).1;omega)));refine bodyPost_ret (v:=.tuple #[.agg #[.int .u8 2,qN,.slice d5 (rJ n i).length c5],.int .i64 0]) (by simp[results,Tryz.results6,go_sem,z0,z1,z2]) rfl ?_
    exact GOAL.out 2 none 0 0 d5 _ c5 _ V.out.1 (by rw[V.out.2.1];rfl) (by rw[V.out.2.2]) (by rw[V.out.2.1];exact zO.nil _ _) (by rw[V.out.2.2];exact K5.out.mono (by omega)) (((L5.out.setCell (by show nb<=nb+1;omega) _).setCell (by show nb<=nb+1;omega) _).setCell (by show nb<=nb+1;omega) _)
 simp only[if_neg hc]at OF;have V:=zZ (zPV hc)
 have hcb:(zN n !=0)=true:=by simpa using hc
 clear hc
 have GOAL:Hid (∀ W,Below nb w W->RE (.returned (.tuple #[.agg #[.int .u8 0,qN,qN],.int .i64 (zN n)])) W):=fun W g3=>by
  rw[<- HRE.out];refine ⟨none,0,none,0,by rw[V.out.1,V.out.2.1,V.out.2.2];rfl,?_,?_,by rw[HNB.out];exact g3⟩
  ·rw [V.out.2.1];exact zO.nil _ _
  rw[V.out.2.2];exact wT.nil _ _
 rw[hnb]at XN XB L0;clear HRE hnb;generalize zN n=cd at *
 go_enter Tryz.func6,Tryz.ntmps6
 go_upto_region 1 with fail
 generalize (w.alloc (.cells #[.int .i64 n.nodes,.slice a n.arcs.length c] 30)).alloc (.cells #[.int .u8 0,qN,qN] 38)=W0 at *;rw[HNB.out];have y0:=XN.out.cell (k:=0) rfl;have y1:=XN.out.cell (k:=1) rfl;simp only[List.getElem_toArray,List.getElem_cons_zero,List.getElem_cons_succ]at y0 y1
 go_wp2_with (go_at_call 18;(with_reducible refine OF.out.mono ?_);rintro e W1 ⟨rfl,b1⟩;have q1:=b1.alloc b1.size (.cells #[qN,qN] 69);have L1:=zZ (L0.out.trans (q1.mono (by have:=L0.out.size;have:=HNB.out;omega)));have Y1:=zZ (XB.out.below q1);have z0:=Y1.out.cell (k:=0) rfl;have z1:=Y1.out.cell (k:=1) rfl;have z2:=Y1.out.cell (k:=2) rfl;simp only[List.getElem_toArray,List.getElem_cons_zero,List.getElem_cons_succ]at z0 z1 z2;have f0:=Y1.out.frozen 0;have f1:=Y1.out.frozen 1;have f2:=Y1.out.frozen 2;clear b1 q1)
 refine bodyPost_ret (v:=.tuple #[.agg #[.int .u8 0,qN,qN],.int .i64 cd]) (by simp[results,Tryz.results6,go_sem,z0,z1,z2]) rfl ?_
 exact GOAL.out _ (((L1.out.setCell (by show nb<=nb+1;omega) _).setCell (by show nb<=nb+1;omega) _).setCell (by show nb<=nb+1;omega) _)
def oG (R:List Int):Nat->Nat:=fun v=>(zS R v).toNat
def YQ (n:NN) (R:List Int):Bool:=decide (zN n=0)&&(decide ((R.length:Int)=n.nodes)&&(rL R&&(jB n.arcs (oG R)).isNone))
def WF (n:NN) (R:List Int):Int:=if zN n=0 then (if (R.length:Int)=n.nodes then 0 else 1) else zN n
theorem zPU {R:List Int} (h:rL R=true):yV R.length (oG R)=R:=by
 have hw:=oH.1 h
 apply List.ext_getElem
 ·rw [yY]
 intro k h1 h2;have h3:=hw k h2;have e1:=vS (n:=R.length) (f:=oG R) (k:=k) h2;unfold zS at e1;rw[List.getD_eq_getElem?_getD,List.getElem?_eq_getElem h1]at e1
 have e2:zS R k=R[k]:=by unfold zS;rw[List.getD_eq_getElem?_getD,List.getElem?_eq_getElem h2];rfl
 simp only[Option.getD_some]at e1;rw[e1];unfold oG;rw[e2]at h3 ⊢;omega
theorem zNB {n:NN} {R:List Int} (h:¬zN n=0):YQ n R=false/\WF n R=zN n:=by unfold YQ WF;rw[if_neg h,decide_eq_false h];exact ⟨rfl,rfl⟩
theorem zNA {n:NN} {R:List Int} (h:zN n=0) (hl:¬(R.length:Int)=n.nodes):YQ n R=false/\WF n R=1:=by unfold YQ WF;rw[if_pos h,if_neg hl,decide_eq_true h,decide_eq_false hl];exact ⟨rfl,rfl⟩
theorem zMZ {n:NN} {R:List Int} (h:zN n=0) (hl:(R.length:Int)=n.nodes) (hw:rL R=false):YQ n R=false/\WF n R=0:=by unfold YQ WF;rw[if_pos h,if_pos hl,decide_eq_true h,decide_eq_true hl,hw];exact ⟨rfl,rfl⟩
theorem zOQ {n:NN} {R:List Int} (h:zN n=0) (hl:(R.length:Int)=n.nodes) (hw:rL R=true):YQ n R=(jB n.arcs (oG R)).isNone/\WF n R=0:=by unfold YQ WF;rw[if_pos h,if_pos hl,decide_eq_true h,decide_eq_true hl,hw];exact ⟨rfl,rfl⟩
theorem zYR (n:NN) (a:Option Addr) (c:Nat) (R:List Int) (r:Option Addr) (rc:Nat) (w:World) (h:vN w a n.arcs) (hl:n.arcs.length<=4611686018427387904) (hr:At w r R) (hR:R.length<=4611686018427387904):
 Calls Tryz.prog 53 #[.agg #[.int .i64 n.nodes,.slice a n.arcs.length c],.slice r R.length rc] w fun e w'=>e=.returned (.tuple #[.bool (YQ n R),.int .i64 (WF n R)])/\Below w.heap.size w w':=by
 have b0:=(Below.refl w.heap.size w).alloc (Nat.le_refl _) (.cells #[.int .i64 n.nodes,.slice a n.arcs.length c] 30);have X0:=zZ (zV 30 w #[.int .i64 n.nodes,.slice a n.arcs.length c]);have B0:=zZ b0;have HA:=zZ (h.below b0);have HR:=zZ (hr.below b0);have CH:=zZ (rS n a c _ (h.below b0) hl);have AL:=zZ (fun (U:World) (hU:At U r R)=>jR r R R.length rc U rfl hR hU);clear b0 h hr;have y0:=X0.out.cell (k:=0) rfl;have y1:=X0.out.cell (k:=1) rfl;simp only[List.getElem_toArray,List.getElem_cons_zero,List.getElem_cons_succ]at y0 y1;obtain ⟨RE,hRE⟩:∃Q,(fun (e:Ending) (w':World)=>e=.returned (.tuple #[.bool (YQ n R),.int .i64 (WF n R)])/\Below w.heap.size w w')=Q:=⟨_,rfl⟩;rw[hRE];have HRE:=zZ hRE;clear hRE
 by_cases hc:zN n=0
 ·have hS:=zB hc
  have SB:=zZ hS.souB;have hN:=hS.nodes;have hM:=hS.most;rw[hc]at CH
  by_cases hle:(R.length:Int)=n.nodes
  ·have hlb:((R.length:Int)!=n.nodes)=false:=by simpa using hle
   cases hw:rL R with
   |false=>
    have V:=zZ (zMZ hc hle hw);rw[hw]at AL;clear hc hS hle hw
    go_enter Tryz.func53,Tryz.ntmps53
    go_upto_region 1 with fail
    generalize w.alloc (.cells #[.int .i64 n.nodes,.slice a n.arcs.length c] 30)=W0 at *
    go_wp2_with (first
     |(go_at_call 42;(with_reducible refine (AL.out W1 (HR.out.below B1.out)).mono ?_);rintro e W2 ⟨rfl,eW⟩;have EW:=zZ eW;clear eW)
     |(go_at_call 22;(with_reducible refine CH.out.mono ?_);rintro e W1 ⟨rfl,b1⟩;have B1:=zZ b1;have N1:=zZ (X0.out.below b1);have L1:=zZ (B0.out.trans (b1.mono B0.out.size));have y0:=N1.out.cell (k:=0) rfl;have y1:=N1.out.cell (k:=1) rfl;simp only[List.getElem_toArray,List.getElem_cons_zero,List.getElem_cons_succ]at y0 y1;clear b1))
    rw[<- HRE.out];exact ⟨by rw[V.out.1,V.out.2];rfl,by rw[<- EW.out];exact L1.out⟩
   |true=>
    have V:=zZ (zOQ hc hle hw)
    have hM1:n.arcs.length<=1000:=by omega
    have eN:n.nodes.toNat=R.length:=by omega
    have HW:=zZ (oH.1 hw)
    have FU:=zZ (fun (U:World) (g2:vN U a n.arcs) (g3:At U r (yV R.length (oG R)))=>nE n.arcs R.length (oG R) n.nodes a r c rc U (by rw[<- eN];exact SB.out) hM1 (fun v hv=>by
     have:=HW.out v hv;unfold oG
     omega) g2 g3)
    rw[zPU hw]at FU;rw[hw]at AL
    have FI:Hid (fuI n.arcs (oG R)= -1/\(jB n.arcs (oG R)).isNone=true\/(∃ i:Nat,fuI n.arcs (oG R)=(i:Int))/\(jB n.arcs (oG R)).isNone=false):=by
     show _\/_;unfold fuI
     cases jB n.arcs (oG R) with
     |none=>exact .inl ⟨rfl,rfl⟩
     |some i=>exact .inr ⟨⟨i,rfl⟩,rfl⟩
    clear hc hS hle hw eN HW
    rcases FI.out with ⟨q1,q2⟩|⟨⟨i,q1⟩,q2⟩
    ·rw [q1]at FU
     rw[q2]at V;clear q1 q2 FI
     go_enter Tryz.func53,Tryz.ntmps53
     go_upto_region 1 with fail
     generalize w.alloc (.cells #[.int .i64 n.nodes,.slice a n.arcs.length c] 30)=W0 at *
     go_wp2_with (first
      |(go_at_call 20;(with_reducible refine (FU.out _ (HA.out.below (by rw[<- EW.out];exact B1.out)) (HR.out.below (by rw[<- EW.out];exact B1.out))).mono ?_);rintro e W3 ⟨rfl,b3⟩;have L3:=zZ (L1.out.trans ((show Below W1.heap.size W1 W3 by have:=b3;rw[<- EW.out]at this;exact this).mono L1.out.size));clear b3)
      |(go_at_call 42;(with_reducible refine (AL.out W1 (HR.out.below B1.out)).mono ?_);rintro e W2 ⟨rfl,eW⟩;have EW:=zZ eW;have y0:W2.cell? ⟨w.heap.size,0,none⟩=_:=(congrArg (fun q=>World.cell? q ⟨w.heap.size,0,none⟩) eW).symm.trans y0;have y1:W2.cell? ⟨w.heap.size,1,none⟩=_:=(congrArg (fun q=>World.cell? q ⟨w.heap.size,1,none⟩) eW).symm.trans y1;clear eW)
      |(go_at_call 22;(with_reducible refine CH.out.mono ?_);rintro e W1 ⟨rfl,b1⟩;have B1:=zZ b1;have N1:=zZ (X0.out.below b1);have L1:=zZ (B0.out.trans (b1.mono B0.out.size));have y0:=N1.out.cell (k:=0) rfl;have y1:=N1.out.cell (k:=1) rfl;simp only[List.getElem_toArray,List.getElem_cons_zero,List.getElem_cons_succ]at y0 y1;clear b1))
     rw[<- HRE.out];exact ⟨by rw[V.out.1,V.out.2];rfl,L3.out⟩
    rw[q1]at FU;rw[q2]at V
    have hne:((i:Int)== -1)=false:=by simp
    clear q1 q2 FI
    go_enter Tryz.func53,Tryz.ntmps53
    go_upto_region 1 with fail
    generalize w.alloc (.cells #[.int .i64 n.nodes,.slice a n.arcs.length c] 30)=W0 at *
    go_wp2_with (first
     |(go_at_call 20;(with_reducible refine (FU.out _ (HA.out.below (by rw[<- EW.out];exact B1.out)) (HR.out.below (by rw[<- EW.out];exact B1.out))).mono ?_);rintro e W3 ⟨rfl,b3⟩;have L3:=zZ (L1.out.trans ((show Below W1.heap.size W1 W3 by have:=b3;rw[<- EW.out]at this;exact this).mono L1.out.size));clear b3)
     |(go_at_call 42;(with_reducible refine (AL.out W1 (HR.out.below B1.out)).mono ?_);rintro e W2 ⟨rfl,eW⟩;have EW:=zZ eW;have y0:W2.cell? ⟨w.heap.size,0,none⟩=_:=(congrArg (fun q=>World.cell? q ⟨w.heap.size,0,none⟩) eW).symm.trans y0;have y1:W2.cell? ⟨w.heap.size,1,none⟩=_:=(congrArg (fun q=>World.cell? q ⟨w.heap.size,1,none⟩) eW).symm.trans y1;clear eW)
     |(go_at_call 22;(with_reducible refine CH.out.mono ?_);rintro e W1 ⟨rfl,b1⟩;have B1:=zZ b1;have N1:=zZ (X0.out.below b1);have L1:=zZ (B0.out.trans (b1.mono B0.out.size));have y0:=N1.out.cell (k:=0) rfl;have y1:=N1.out.cell (k:=1) rfl;simp only[List.getElem_toArray,List.getElem_cons_zero,List.getElem_cons_succ]at y0 y1;clear b1))
    rw[<- HRE.out];exact ⟨by rw[V.out.1,V.out.2];rfl,L3.out⟩
  have hlb:((R.length:Int)!=n.nodes)=true:=by simpa using hle
  have V:=zZ (zNA hc hle);clear hc hS hle
  go_enter Tryz.func53,Tryz.ntmps53
  go_upto_region 1 with fail
  generalize w.alloc (.cells #[.int .i64 n.nodes,.slice a n.arcs.length c] 30)=W0 at *
  go_wp2_with (go_at_call 22;(with_reducible refine CH.out.mono ?_);rintro e W1 ⟨rfl,b1⟩;have B1:=zZ b1;have N1:=zZ (X0.out.below b1);have L1:=zZ (B0.out.trans (b1.mono B0.out.size));have y0:=N1.out.cell (k:=0) rfl;have y1:=N1.out.cell (k:=1) rfl;simp only[List.getElem_toArray,List.getElem_cons_zero,List.getElem_cons_succ]at y0 y1;clear b1)
  rw[<- HRE.out];exact ⟨by rw[V.out.1,V.out.2];rfl,L1.out⟩
 have V:=zZ (zNB (R:=R) hc)
 have hcb:(zN n !=0)=true:=by simpa using hc
 clear hc;generalize zN n=cd at *
 go_enter Tryz.func53,Tryz.ntmps53
 go_upto_region 1 with fail
 generalize w.alloc (.cells #[.int .i64 n.nodes,.slice a n.arcs.length c] 30)=W0 at *
 go_wp2_with (go_at_call 22;(with_reducible refine CH.out.mono ?_);rintro e W1 ⟨rfl,b1⟩;have L1:=zZ (B0.out.trans (b1.mono B0.out.size));clear b1)
 rw[<- HRE.out];exact ⟨by rw[V.out.1,V.out.2];rfl,L1.out⟩
end Go.Proofs.YtpohmekkdjdhmaaGreat
