/- Texts of one chain. -/
import Derived.Test.YtpohmekkdjdhmaaGreatPartQ
import Derived.Test.YtpohmekkdjdhmaaGreatPartTopPeriods29
set_option maxRecDepth 100000
set_option maxHeartbeats 4000000
namespace Go.Proofs.YtpohmekkdjdhmaaGreat
open Go.ChangeShapes Go.WideShapes Go.ChangeAt Go.RowKit
theorem JX (F:Nat->Prop) (w0 w:World) (b:Nat) (s:LS) (a:Option Addr) (Es:List GP) (cap:Nat) (h:kH F w b s) (hA:aQ w0 a Es) (hw:Below w0.heap.size w0 w) (hF:∀k,F k->w0.heap.size<=k) (hn:Es.length<=16) (hns:s.ns.length<=100) (hI:yS s.I) (hO:yS s.O):
 Calls Tryz.prog 66 #[(qP b),.slice a Es.length cap] w (QB F w b (nR Es 0 s)):=by
 have HA:=zY hA;have HW:=zY hw;have HF:=zY hF;have sw:=hw.size;have ba:=(Below.refl w.heap.size w).alloc (Nat.le_refl _) (.cells #[.int .i64 0,.int .u8 0,.int .i64 0,.int .u8 0] 104);have BA:=zY ba;have HL:=zY (h.below ba);have HLO:=zY h.low;have HI0:=zY hI;have HO0:=zY hO;have NR:=zY (zV 104 w #[.int .i64 0,.int .u8 0,.int .i64 0,.int .u8 0])
 have hsz:(w.alloc (.cells #[.int .i64 0,.int .u8 0,.int .i64 0,.int .u8 0] 104)).heap.size=w.heap.size+1:=by simp
 have hnI:(Es.length:Int)<=16:=by omega
 clear h hA hw hF ba hI hO
 go_enter Tryz.func66,Tryz.ntmps66
 go_upto_region 1 with fail
 generalize w.alloc (.cells #[.int .i64 0,.int .u8 0,.int .i64 0,.int .u8 0] 104)=W0 at *
 go_wp2
 go_loopg [11] Es.length (fun gk v wr=>∃(i:Nat) (s':LS),i<=Es.length/\gk=Es.length-i/\v=.int .i64 (i:Int)/\nR Es 0 s=nR (Es.drop i) i s'/\kH F wr b s'/\xP F W0 wr/\s'.ns.length<=s.ns.length+i/\yS s'.I/\yS s'.O)
 case atStart=>exact ⟨0,s,Nat.zero_le _,rfl,rfl,rfl,HL.out,xP.of_below (Below.refl _ _),Nat.le_refl _,HI0.out,HO0.out⟩
 case round=>
  obtain ⟨i,s',hi,rfl,rfl,hEq,hLed,hChg,q1,hI',hO'⟩:=hrel;have HEQ:=zY hEq;have HLED:=zY hLed;have HC:=zY hChg;have HI':=zY hI';have HO':=zY hO';have swr:=hChg.size
  have HNR:Hid (¬ F w.heap.size):=fun e=>by have:=HLO.out _ e;omega
  have NRW:=zY (NR.out.keep (hChg.block _ (by omega) HNR.out))
  have BW:Hid (Below w0.heap.size w0 wr):=by
   have p1:=HW.out.trans (BA.out.mono sw);exact p1.trans (hChg.below HF.out p1.size)
  clear hEq hLed hChg hI' hO'
  by_cases hlt:i<Es.length
  ·have hii:(i:Int)<(Es.length:Int):=by omega
   rcases HA.out with h0|⟨ab,ao,rfl,hc⟩
   ·rw [h0]at hlt;simp at hlt
   obtain ⟨a0',a1',a2'⟩:=hc i hlt;have a0:=xH BW.out a0';have a1:=xH BW.out a1';have a2:=xH BW.out a2';have HDR:=zY (UO hlt);generalize uG Es i=E at *;obtain ⟨nm,pa,pp⟩:=E;clear hc a0' a1' a2';obtain ⟨ce,hce⟩:∃q,(zK s'.ns nm).1=q:=⟨_,rfl⟩;have HCE:=zY hce;have q4:=oO s'.ns nm;clear hce
   by_cases h1:ce=0
   ·subst h1
    obtain ⟨co,hco⟩:∃q,zJ s'.I pa pp=q:=⟨_,rfl⟩;have HCO:=zY hco;clear hco
    go_upto_region 7 with (first
     |(refine tQ _ rfl (.tmp 6) (.tmp 15) rfl rfl wr.heap.size _ _ _ _ _ _ rfl rfl (zV 67 wr #[qE,.int .i64 0,.int .i64 0]) ?_;intro w1 hNA hUA;have X1:=zY hNA;have b1:=((Below.refl wr.heap.size wr).alloc (Nat.le_refl _) (.cells #[qE,.int .i64 0,.int .i64 0] 67)).trans (hUA.below (Nat.le_refl _) (by simp));have B1:=zY b1;have L1:=zY (HLED.out.below b1);have R1:=zY (NRW.out.below b1);have y0:w1.cell? ⟨wr.heap.size,0,none⟩=some (.string (yG nm)):=hNA.cell rfl;clear hNA hUA b1)
     |(go_at_call 85;(with_reducible refine (tU F w1 b s' nm L1.out (by omega)).mono ?_);rintro e w2 ⟨rfl,hL2,hG2⟩;have L2:=zY hL2;have G2:=zY hG2;have X2:=zY (X1.out.keep (hG2.block _ X1.out.lt (fun e=>by have:=HLED.out.low _ e;omega)));have R2:=zY (R1.out.keep (hG2.block _ R1.out.lt HNR.out));rw[HCE.out];clear hL2 hG2 y0))
    obtain ⟨m',u1,u2,E1,E2,hQ0⟩:=id L2.out;obtain ⟨wx,wc,hw1⟩:=hQ0.ins.slice;subst hw1;have LQ:=zY hQ0;clear hQ0
    refine zM [8] (fun d i u z=>match i with
     |0=>z=(qP b)
     |1=>z=(qP b)
     |2=>z=.pointer (some ⟨b,1,none⟩)
     |3=>z=.slice wx s'.I.length wc
     |4=>z=.pointer (some ⟨wr.heap.size,1,none⟩)
     |5=>z=.int .i64 pa
     |6=>z=.pointer (some ⟨wr.heap.size,2,none⟩)
     |7=>z=.int .i64 pp
     |8=>z=.int .i64 (zJ s'.I pa pp)
     |9=>z=.int .i64 (zJ s'.I pa pp)
     |_=>True) (fun d u=>(d 8=false->Below w2.heap.size w2 u)/\(d 8=true->aO F w2 b ⟨(zK s'.ns nm).2,yL s'.I pa pp,s'.O⟩ u)) (by kernel_rfl) (by kernel_rfl) (by kernel_rfl) ?_ ?_ ?_ ?_ ?_ ?_ (by kernel_rfl)
    ·intro d i w v w' h hb
     match i,h with
     |0,h=>exact h
     |1,h=>exact h
     |2,h=>exact h
     |3,h=>exact h
     |4,h=>exact h
     |5,h=>exact h
     |6,h=>exact h
     |7,h=>exact h
     |8,h=>exact h
     |9,h=>exact h
     |_+10,_=>trivial
    ·intro d u u' h hb
     exact ⟨fun e=>(h.1 e).trans (hb.mono (h.1 e).size),fun e=>(h.2 e).later hb⟩
    ·exact ⟨fun _=>Below.refl _ _,fun e=>absurd e (by decide)⟩
    ·intro d i o ρ w' hm ho hf hg hC hcs hfs hfr zX
     match i,hm,ho,hf,hg,hfr,zX with
     |0,_,ho,hf,hg,hfr,zX=>
      simp only[qS]at ho;subst ho;refine ⟨fun _=>?_,qF⟩
      have ts: ρ (.tmp 0)=(qP b):=(qR hfr 0);simp[go_sem,ts];exact qB
     |1,_,ho,hf,hg,hfr,zX=>
      simp only[qS]at ho;subst ho;refine ⟨fun _=>?_,qF⟩
      have d0: ρ (.tmp 25)=(qP b):=(qH zX 0 25);simp[go_sem,d0];exact qB
     |2,_,ho,hf,hg,hfr,zX=>
      simp only[qS]at ho;subst ho;refine ⟨fun _=>?_,qF⟩
      have d0: ρ (.tmp 26)=(qP b):=(qH zX 1 26);simp[go_sem,d0];exact qB
     |3,_,ho,hf,hg,hfr,zX=>
      simp only[qS]at ho;subst ho;refine ⟨fun _=>?_,qF⟩
      have cc:w'.cell? ⟨b,1,none⟩=some (.slice wx s'.I.length wc):=(LQ.out.blk.below (hC.1 (hf 8 (by decide) (by kernel_rfl)))).cell rfl;have d0: ρ (.tmp 27)=.pointer (some ⟨b,1,none⟩):=(qH zX 2 27);simp[go_sem,d0,cc];exact qB
     |4,_,ho,hf,hg,hfr,zX=>
      simp only[qS]at ho;subst ho;refine ⟨fun _=>?_,qF⟩
      have tq: ρ (.tmp 6)=(qP wr.heap.size):=(qR hfr 6);simp[go_sem,tq];exact qB
     |5,_,ho,hf,hg,hfr,zX=>
      simp only[qS]at ho;subst ho;refine ⟨fun _=>?_,qF⟩
      have cc:w'.cell? ⟨wr.heap.size,1,none⟩=some (.int .i64 pa):=(X2.out.below (hC.1 (hf 8 (by decide) (by kernel_rfl)))).cell rfl;have d0: ρ (.tmp 29)=.pointer (some ⟨wr.heap.size,1,none⟩):=(qH zX 4 29);simp[go_sem,d0,cc];exact qB
     |6,_,ho,hf,hg,hfr,zX=>
      simp only[qS]at ho;subst ho;refine ⟨fun _=>?_,qF⟩
      have tq: ρ (.tmp 6)=(qP wr.heap.size):=(qR hfr 6);simp[go_sem,tq];exact qB
     |7,_,ho,hf,hg,hfr,zX=>
      simp only[qS]at ho;subst ho;refine ⟨fun _=>?_,qF⟩
      have cc:w'.cell? ⟨wr.heap.size,2,none⟩=some (.int .i64 pp):=(X2.out.below (hC.1 (hf 8 (by decide) (by kernel_rfl)))).cell rfl;have d0: ρ (.tmp 31)=.pointer (some ⟨wr.heap.size,2,none⟩):=(qH zX 6 31);simp[go_sem,d0,cc];exact qB
     |8,hm,_,_,_,_,_=>exact qD hm
     |9,_,ho,hf,hg,hfr,zX=>
      simp only[qS]at ho;subst ho;refine ⟨fun _=>?_,qF⟩
      have d0: ρ (.tmp 33)=.int .i64 (zJ s'.I pa pp):=(qH zX 8 33);simp[go_sem,d0];exact qB
     |n+10,_,ho,_,_,_,_=>simp at ho
    ·intro d i o ρ w' hm ho h0 hf hg hC hcs hfs hfr zX
     match i,hm,ho,h0,hf,hg,hfr,zX with
     |0,hm,_,_,_,_,_,_=>exact qD hm
     |1,hm,_,_,_,_,_,_=>exact qD hm
     |2,hm,_,_,_,_,_,_=>exact qD hm
     |3,hm,_,_,_,_,_,_=>exact qD hm
     |4,hm,_,_,_,_,_,_=>exact qD hm
     |5,hm,_,_,_,_,_,_=>exact qD hm
     |6,hm,_,_,_,_,_,_=>exact qD hm
     |7,hm,_,_,_,_,_,_=>exact qD hm
     |8,_,ho,h0,hf,hg,hfr,zX=>
      simp only[qS]at ho;subst ho;have t3: ρ (.tmp 28)=.slice wx s'.I.length wc:=(qH zX 3 28);have t5: ρ (.tmp 30)=.int .i64 pa:=(qH zX 5 30);have t7: ρ (.tmp 32)=.int .i64 pp:=(qH zX 7 32);refine ⟨rfl,?_⟩
      simp[go_sem,t3,t5,t7,hfs,zC];refine (XD (LQ.out.below (hC.1 h0)) HI'.out _ _).mono ?_
      rintro e u9 ⟨rfl,hL9,hC9'⟩
      exact ⟨rfl,fun e=>absurd e (by simp[zA]),fun _=>⟨hL9,(xP.of_below (hC.1 h0)).trans' hC9'⟩⟩
     |9,hm,_,_,_,_,_,_=>exact qD hm
     |n+10,_,ho,_,_,_,_,_=>simp at ho
    intro V w3 hC3 hS;have e9:V 9=.int .i64 (zJ s'.I pa pp):=hS 9 (by decide) (by intro h;cases h);simp only[yP,e9];simp only[Act.put,qU];clear hS e9;obtain ⟨hL3,hG3⟩:=hC3.2 rfl;have L3:=zY hL3;have G3:=zY hG3;have R3:=zY (R2.out.keep (G3.out.block _ R2.out.lt HNR.out));clear hC3 hL3 hG3 LQ;rw[HCO.out]
    by_cases h2:co=0
    ·subst h2
     go_wp2
     go_roundg (Es.length-(i+1))
     case measure=>omega
     case rel=>
      refine ⟨i+1,_,by omega,rfl,by go_num,?_,L3.out,((HC.out.trans' (xP.of_below B1.out)).trans' G2.out).trans' G3.out,by show (zK s'.ns nm).2.length<=_;omega,vP HI'.out _ _,HO'.out⟩
      rw[HEQ.out,HDR.out];show (if _ then _ else _)=_
      rw[if_pos HCE.out,if_pos HCO.out]
    have e2:(co !=0)=true:=by simpa using h2
    go_wp2_with (refine zT _ rfl (.tmp 4) (.tmp 38) rfl rfl w.heap.size _ _ _ _ _ _ _ _ rfl rfl R3.out ?_;intro w9 hNF hUF;have NF:=zY hNF;have UF:=zY hUF;clear hNF hUF)
    have z0:w9.cell? ⟨w.heap.size,0,none⟩=some (.int .i64 co):=NF.out.cell rfl;have z1:w9.cell? ⟨w.heap.size,1,none⟩=some (.int .u8 3):=NF.out.cell rfl;have z2:w9.cell? ⟨w.heap.size,2,none⟩=some (.int .i64 (i:Int)):=NF.out.cell rfl;have z3:w9.cell? ⟨w.heap.size,3,none⟩=some (.int .u8 2):=NF.out.cell rfl;refine bodyPost_ret (v:=.agg #[.int .i64 co,.int .u8 3,.int .i64 (i:Int),.int .u8 2]) (by simp[results,Tryz.results66,go_sem,z0,z1,z2,z3]) rfl ?_
    refine ⟨?_,?_,?_⟩
    ·rw [HEQ.out,HDR.out]
     show _=Ending.returned (NK (if _ then _ else _:FL × LS).1);rw[if_pos HCE.out,if_neg (by rw[HCO.out];exact h2),HCO.out];rfl
    ·rw [HEQ.out,HDR.out]
     show ((if _ then _ else _:FL × LS).1).code=0->_;rw[if_pos HCE.out,if_neg (by rw[HCO.out];exact h2),HCO.out]
     exact fun e=>absurd e h2
    exact (((((xP.of_below BA.out).trans' HC.out).trans' (xP.of_below B1.out)).trans' G2.out).trans' G3.out).trans (UF.out.chg (F:=fun k=>k=w.heap.size) rfl) fun k hk=>.inr (by omega)
   have e2:(ce !=0)=true:=by simpa using h1
   go_wp2_with (first
    |(refine zT _ rfl (.tmp 4) (.tmp 24) rfl rfl w.heap.size _ _ _ _ _ _ _ _ rfl rfl R2.out ?_;intro w9 hNF hUF;have NF:=zY hNF;have UF:=zY hUF;clear hNF hUF)
    |(refine tQ _ rfl (.tmp 6) (.tmp 15) rfl rfl wr.heap.size _ _ _ _ _ _ rfl rfl (zV 67 wr #[qE,.int .i64 0,.int .i64 0]) ?_;intro w1 hNA hUA;have X1:=zY hNA;have b1:=((Below.refl wr.heap.size wr).alloc (Nat.le_refl _) (.cells #[qE,.int .i64 0,.int .i64 0] 67)).trans (hUA.below (Nat.le_refl _) (by simp));have B1:=zY b1;have L1:=zY (HLED.out.below b1);have R1:=zY (NRW.out.below b1);have y0:w1.cell? ⟨wr.heap.size,0,none⟩=some (.string (yG nm)):=hNA.cell rfl;clear hNA hUA b1)
    |(go_at_call 85;(with_reducible refine (tU F w1 b s' nm L1.out (by omega)).mono ?_);rintro e w2 ⟨rfl,hL2,hG2⟩;have L2:=zY hL2;have G2:=zY hG2;have X2:=zY (X1.out.keep (hG2.block _ X1.out.lt (fun e=>by have:=HLED.out.low _ e;omega)));have R2:=zY (R1.out.keep (hG2.block _ R1.out.lt HNR.out));rw[HCE.out];clear hL2 hG2 y0))
   have z0:w9.cell? ⟨w.heap.size,0,none⟩=some (.int .i64 ce):=NF.out.cell rfl;have z1:w9.cell? ⟨w.heap.size,1,none⟩=some (.int .u8 3):=NF.out.cell rfl;have z2:w9.cell? ⟨w.heap.size,2,none⟩=some (.int .i64 (i:Int)):=NF.out.cell rfl;have z3:w9.cell? ⟨w.heap.size,3,none⟩=some (.int .u8 0):=NF.out.cell rfl;refine bodyPost_ret (v:=.agg #[.int .i64 ce,.int .u8 3,.int .i64 (i:Int),.int .u8 0]) (by simp[results,Tryz.results66,go_sem,z0,z1,z2,z3]) rfl ?_
   refine ⟨?_,?_,?_⟩
   ·rw [HEQ.out,HDR.out]
    show _=Ending.returned (NK (if _ then _ else _:FL × LS).1);rw[if_neg (by rw[HCE.out];exact h1),HCE.out];rfl
   ·rw [HEQ.out,HDR.out]
    show ((if _ then _ else _:FL × LS).1).code=0->_;rw[if_neg (by rw[HCE.out];exact h1),HCE.out]
    exact fun e=>absurd e h1
   exact ((((xP.of_below BA.out).trans' HC.out).trans' (xP.of_below B1.out)).trans' G2.out).trans (UF.out.chg (F:=fun k=>k=w.heap.size) rfl) fun k hk=>.inr (by omega)
  have hii:¬(i:Int)<(Es.length:Int):=by omega
  have ei:i=Es.length:=by omega
  go_wp2_with (refine zT _ rfl (.tmp 4) (.tmp 40) rfl rfl w.heap.size _ _ _ _ _ _ _ _ rfl rfl NRW.out ?_;intro w9 hNF hUF;have NF:=zY hNF;have UF:=zY hUF;clear hNF hUF)
  have z0:w9.cell? ⟨w.heap.size,0,none⟩=some (.int .i64 0):=NF.out.cell rfl;have z1:w9.cell? ⟨w.heap.size,1,none⟩=some (.int .u8 0):=NF.out.cell rfl;have z2:w9.cell? ⟨w.heap.size,2,none⟩=some (.int .i64 0):=NF.out.cell rfl;have z3:w9.cell? ⟨w.heap.size,3,none⟩=some (.int .u8 0):=NF.out.cell rfl;refine bodyPost_ret (v:=.agg #[.int .i64 0,.int .u8 0,.int .i64 0,.int .u8 0]) (by simp[results,Tryz.results66,go_sem,z0,z1,z2,z3]) rfl ?_
  refine ⟨?_,?_,?_⟩
  ·rw [HEQ.out,ei,List.drop_length]
   rfl
  ·rw [HEQ.out,ei,List.drop_length]
   exact fun _=>⟨F,HLED.out.keep (fun k hk=>UF.out.block k (HLED.out.low k hk) (fun e=>HNR.out (e ▸ hk))) UF.out.size,fun k hk=>.inl hk⟩
  exact ((xP.of_below BA.out).trans' HC.out).trans (UF.out.chg (F:=fun k=>k=w.heap.size) rfl) fun k hk=>.inr (by omega)
theorem QA (F:Nat->Prop) (w0 w:World) (b:Nat) (s:LS) (a:Option Addr) (Es:List GP) (cap:Nat) (h:kH F w b s) (hA:aQ w0 a Es) (hw:Below w0.heap.size w0 w) (hF:∀k,F k->w0.heap.size<=k) (hn:Es.length<=16) (hns:s.ns.length<=100) (hI:yS s.I) (hO:yS s.O):
 Calls Tryz.prog 67 #[(qP b),.slice a Es.length cap] w (QB F w b (tE Es 0 s)):=by
 have HA:=zY hA;have HW:=zY hw;have HF:=zY hF;have sw:=hw.size;have ba:=(Below.refl w.heap.size w).alloc (Nat.le_refl _) (.cells #[.int .i64 0,.int .u8 0,.int .i64 0,.int .u8 0] 104);have BA:=zY ba;have HL:=zY (h.below ba);have HLO:=zY h.low;have HI0:=zY hI;have HO0:=zY hO;have NR:=zY (zV 104 w #[.int .i64 0,.int .u8 0,.int .i64 0,.int .u8 0])
 have hsz:(w.alloc (.cells #[.int .i64 0,.int .u8 0,.int .i64 0,.int .u8 0] 104)).heap.size=w.heap.size+1:=by simp
 have hnI:(Es.length:Int)<=16:=by omega
 clear h hA hw hF ba hI hO
 go_enter Tryz.func67,Tryz.ntmps67
 go_upto_region 1 with fail
 generalize w.alloc (.cells #[.int .i64 0,.int .u8 0,.int .i64 0,.int .u8 0] 104)=W0 at *
 go_wp2
 go_loopg [11] Es.length (fun gk v wr=>∃(i:Nat) (s':LS),i<=Es.length/\gk=Es.length-i/\v=.int .i64 (i:Int)/\tE Es 0 s=tE (Es.drop i) i s'/\kH F wr b s'/\xP F W0 wr/\s'.ns.length<=s.ns.length+i/\yS s'.I/\yS s'.O)
 case atStart=>exact ⟨0,s,Nat.zero_le _,rfl,rfl,rfl,HL.out,xP.of_below (Below.refl _ _),Nat.le_refl _,HI0.out,HO0.out⟩
 case round=>
  obtain ⟨i,s',hi,rfl,rfl,hEq,hLed,hChg,q1,hI',hO'⟩:=hrel;have HEQ:=zY hEq;have HLED:=zY hLed;have HC:=zY hChg;have HI':=zY hI';have HO':=zY hO';have swr:=hChg.size
  have HNR:Hid (¬ F w.heap.size):=fun e=>by have:=HLO.out _ e;omega
  have NRW:=zY (NR.out.keep (hChg.block _ (by omega) HNR.out))
  have BW:Hid (Below w0.heap.size w0 wr):=by
   have p1:=HW.out.trans (BA.out.mono sw);exact p1.trans (hChg.below HF.out p1.size)
  clear hEq hLed hChg hI' hO'
  by_cases hlt:i<Es.length
  ·have hii:(i:Int)<(Es.length:Int):=by omega
   rcases HA.out with h0|⟨ab,ao,rfl,hc⟩
   ·rw [h0]at hlt;simp at hlt
   obtain ⟨a0',a1',a2'⟩:=hc i hlt;have a0:=xH BW.out a0';have a1:=xH BW.out a1';have a2:=xH BW.out a2';have HDR:=zY (UO hlt);generalize uG Es i=E at *;obtain ⟨nm,pa,pp⟩:=E;clear hc a0' a1' a2';obtain ⟨ce,hce⟩:∃q,(zK s'.ns nm).1=q:=⟨_,rfl⟩;have HCE:=zY hce;have q4:=oO s'.ns nm;clear hce
   by_cases h1:ce=0
   ·subst h1
    obtain ⟨co,hco⟩:∃q,zJ s'.O pa pp=q:=⟨_,rfl⟩;have HCO:=zY hco;clear hco
    go_upto_region 7 with (first
     |(refine tQ _ rfl (.tmp 6) (.tmp 15) rfl rfl wr.heap.size _ _ _ _ _ _ rfl rfl (zV 67 wr #[qE,.int .i64 0,.int .i64 0]) ?_;intro w1 hNA hUA;have X1:=zY hNA;have b1:=((Below.refl wr.heap.size wr).alloc (Nat.le_refl _) (.cells #[qE,.int .i64 0,.int .i64 0] 67)).trans (hUA.below (Nat.le_refl _) (by simp));have B1:=zY b1;have L1:=zY (HLED.out.below b1);have R1:=zY (NRW.out.below b1);have y0:w1.cell? ⟨wr.heap.size,0,none⟩=some (.string (yG nm)):=hNA.cell rfl;clear hNA hUA b1)
     |(go_at_call 85;(with_reducible refine (tU F w1 b s' nm L1.out (by omega)).mono ?_);rintro e w2 ⟨rfl,hL2,hG2⟩;have L2:=zY hL2;have G2:=zY hG2;have X2:=zY (X1.out.keep (hG2.block _ X1.out.lt (fun e=>by have:=HLED.out.low _ e;omega)));have R2:=zY (R1.out.keep (hG2.block _ R1.out.lt HNR.out));rw[HCE.out];clear hL2 hG2 y0))
    obtain ⟨m',u1,u2,E1,E2,hQ0⟩:=id L2.out;obtain ⟨wx,wc,hw1⟩:=hQ0.outs.slice;subst hw1;have LQ:=zY hQ0;clear hQ0
    refine zM [8] (fun d i u z=>match i with
     |0=>z=(qP b)
     |1=>z=(qP b)
     |2=>z=.pointer (some ⟨b,2,none⟩)
     |3=>z=.slice wx s'.O.length wc
     |4=>z=.pointer (some ⟨wr.heap.size,1,none⟩)
     |5=>z=.int .i64 pa
     |6=>z=.pointer (some ⟨wr.heap.size,2,none⟩)
     |7=>z=.int .i64 pp
     |8=>z=.int .i64 (zJ s'.O pa pp)
     |9=>z=.int .i64 (zJ s'.O pa pp)
     |_=>True) (fun d u=>(d 8=false->Below w2.heap.size w2 u)/\(d 8=true->aO F w2 b ⟨(zK s'.ns nm).2,s'.I,yL s'.O pa pp⟩ u)) (by kernel_rfl) (by kernel_rfl) (by kernel_rfl) ?_ ?_ ?_ ?_ ?_ ?_ (by kernel_rfl)
    ·intro d i w v w' h hb
     match i,h with
     |0,h=>exact h
     |1,h=>exact h
     |2,h=>exact h
     |3,h=>exact h
     |4,h=>exact h
     |5,h=>exact h
     |6,h=>exact h
     |7,h=>exact h
     |8,h=>exact h
     |9,h=>exact h
     |_+10,_=>trivial
    ·intro d u u' h hb
     exact ⟨fun e=>(h.1 e).trans (hb.mono (h.1 e).size),fun e=>(h.2 e).later hb⟩
    ·exact ⟨fun _=>Below.refl _ _,fun e=>absurd e (by decide)⟩
    ·intro d i o ρ w' hm ho hf hg hC hcs hfs hfr zX
     match i,hm,ho,hf,hg,hfr,zX with
     |0,_,ho,hf,hg,hfr,zX=>
      simp only[qS]at ho;subst ho;refine ⟨fun _=>?_,qF⟩
      have ts: ρ (.tmp 0)=(qP b):=(qR hfr 0);simp[go_sem,ts];exact qB
     |1,_,ho,hf,hg,hfr,zX=>
      simp only[qS]at ho;subst ho;refine ⟨fun _=>?_,qF⟩
      have d0: ρ (.tmp 25)=(qP b):=(qH zX 0 25);simp[go_sem,d0];exact qB
     |2,_,ho,hf,hg,hfr,zX=>
      simp only[qS]at ho;subst ho;refine ⟨fun _=>?_,qF⟩
      have d0: ρ (.tmp 26)=(qP b):=(qH zX 1 26);simp[go_sem,d0];exact qB
     |3,_,ho,hf,hg,hfr,zX=>
      simp only[qS]at ho;subst ho;refine ⟨fun _=>?_,qF⟩
      have cc:w'.cell? ⟨b,2,none⟩=some (.slice wx s'.O.length wc):=(LQ.out.blk.below (hC.1 (hf 8 (by decide) (by kernel_rfl)))).cell rfl;have d0: ρ (.tmp 27)=.pointer (some ⟨b,2,none⟩):=(qH zX 2 27);simp[go_sem,d0,cc];exact qB
     |4,_,ho,hf,hg,hfr,zX=>
      simp only[qS]at ho;subst ho;refine ⟨fun _=>?_,qF⟩
      have tq: ρ (.tmp 6)=(qP wr.heap.size):=(qR hfr 6);simp[go_sem,tq];exact qB
     |5,_,ho,hf,hg,hfr,zX=>
      simp only[qS]at ho;subst ho;refine ⟨fun _=>?_,qF⟩
      have cc:w'.cell? ⟨wr.heap.size,1,none⟩=some (.int .i64 pa):=(X2.out.below (hC.1 (hf 8 (by decide) (by kernel_rfl)))).cell rfl;have d0: ρ (.tmp 29)=.pointer (some ⟨wr.heap.size,1,none⟩):=(qH zX 4 29);simp[go_sem,d0,cc];exact qB
     |6,_,ho,hf,hg,hfr,zX=>
      simp only[qS]at ho;subst ho;refine ⟨fun _=>?_,qF⟩
      have tq: ρ (.tmp 6)=(qP wr.heap.size):=(qR hfr 6);simp[go_sem,tq];exact qB
     |7,_,ho,hf,hg,hfr,zX=>
      simp only[qS]at ho;subst ho;refine ⟨fun _=>?_,qF⟩
      have cc:w'.cell? ⟨wr.heap.size,2,none⟩=some (.int .i64 pp):=(X2.out.below (hC.1 (hf 8 (by decide) (by kernel_rfl)))).cell rfl;have d0: ρ (.tmp 31)=.pointer (some ⟨wr.heap.size,2,none⟩):=(qH zX 6 31);simp[go_sem,d0,cc];exact qB
     |8,hm,_,_,_,_,_=>exact qD hm
     |9,_,ho,hf,hg,hfr,zX=>
      simp only[qS]at ho;subst ho;refine ⟨fun _=>?_,qF⟩
      have d0: ρ (.tmp 33)=.int .i64 (zJ s'.O pa pp):=(qH zX 8 33);simp[go_sem,d0];exact qB
     |n+10,_,ho,_,_,_,_=>simp at ho
    ·intro d i o ρ w' hm ho h0 hf hg hC hcs hfs hfr zX
     match i,hm,ho,h0,hf,hg,hfr,zX with
     |0,hm,_,_,_,_,_,_=>exact qD hm
     |1,hm,_,_,_,_,_,_=>exact qD hm
     |2,hm,_,_,_,_,_,_=>exact qD hm
     |3,hm,_,_,_,_,_,_=>exact qD hm
     |4,hm,_,_,_,_,_,_=>exact qD hm
     |5,hm,_,_,_,_,_,_=>exact qD hm
     |6,hm,_,_,_,_,_,_=>exact qD hm
     |7,hm,_,_,_,_,_,_=>exact qD hm
     |8,_,ho,h0,hf,hg,hfr,zX=>
      simp only[qS]at ho;subst ho;have t3: ρ (.tmp 28)=.slice wx s'.O.length wc:=(qH zX 3 28);have t5: ρ (.tmp 30)=.int .i64 pa:=(qH zX 5 30);have t7: ρ (.tmp 32)=.int .i64 pp:=(qH zX 7 32);refine ⟨rfl,?_⟩
      simp[go_sem,t3,t5,t7,hfs,zC];refine (XC (LQ.out.below (hC.1 h0)) HO'.out _ _).mono ?_
      rintro e u9 ⟨rfl,hL9,hC9'⟩
      exact ⟨rfl,fun e=>absurd e (by simp[zA]),fun _=>⟨hL9,(xP.of_below (hC.1 h0)).trans' hC9'⟩⟩
     |9,hm,_,_,_,_,_,_=>exact qD hm
     |n+10,_,ho,_,_,_,_,_=>simp at ho
    intro V w3 hC3 hS;have e9:V 9=.int .i64 (zJ s'.O pa pp):=hS 9 (by decide) (by intro h;cases h);simp only[yP,e9];simp only[Act.put,qU];clear hS e9;obtain ⟨hL3,hG3⟩:=hC3.2 rfl;have L3:=zY hL3;have G3:=zY hG3;have R3:=zY (R2.out.keep (G3.out.block _ R2.out.lt HNR.out));clear hC3 hL3 hG3 LQ;rw[HCO.out]
    by_cases h2:co=0
    ·subst h2
     go_wp2
     go_roundg (Es.length-(i+1))
     case measure=>omega
     case rel=>
      refine ⟨i+1,_,by omega,rfl,by go_num,?_,L3.out,((HC.out.trans' (xP.of_below B1.out)).trans' G2.out).trans' G3.out,by show (zK s'.ns nm).2.length<=_;omega,HI'.out,vP HO'.out _ _⟩
      rw[HEQ.out,HDR.out];show (if _ then _ else _)=_
      rw[if_pos HCE.out,if_pos HCO.out]
    have e2:(co !=0)=true:=by simpa using h2
    go_wp2_with (refine zT _ rfl (.tmp 4) (.tmp 38) rfl rfl w.heap.size _ _ _ _ _ _ _ _ rfl rfl R3.out ?_;intro w9 hNF hUF;have NF:=zY hNF;have UF:=zY hUF;clear hNF hUF)
    have z0:w9.cell? ⟨w.heap.size,0,none⟩=some (.int .i64 co):=NF.out.cell rfl;have z1:w9.cell? ⟨w.heap.size,1,none⟩=some (.int .u8 4):=NF.out.cell rfl;have z2:w9.cell? ⟨w.heap.size,2,none⟩=some (.int .i64 (i:Int)):=NF.out.cell rfl;have z3:w9.cell? ⟨w.heap.size,3,none⟩=some (.int .u8 1):=NF.out.cell rfl;refine bodyPost_ret (v:=.agg #[.int .i64 co,.int .u8 4,.int .i64 (i:Int),.int .u8 1]) (by simp[results,Tryz.results67,go_sem,z0,z1,z2,z3]) rfl ?_
    refine ⟨?_,?_,?_⟩
    ·rw [HEQ.out,HDR.out]
     show _=Ending.returned (NK (if _ then _ else _:FL × LS).1);rw[if_pos HCE.out,if_neg (by rw[HCO.out];exact h2),HCO.out];rfl
    ·rw [HEQ.out,HDR.out]
     show ((if _ then _ else _:FL × LS).1).code=0->_;rw[if_pos HCE.out,if_neg (by rw[HCO.out];exact h2),HCO.out]
     exact fun e=>absurd e h2
    exact (((((xP.of_below BA.out).trans' HC.out).trans' (xP.of_below B1.out)).trans' G2.out).trans' G3.out).trans (UF.out.chg (F:=fun k=>k=w.heap.size) rfl) fun k hk=>.inr (by omega)
   have e2:(ce !=0)=true:=by simpa using h1
   go_wp2_with (first
    |(refine zT _ rfl (.tmp 4) (.tmp 24) rfl rfl w.heap.size _ _ _ _ _ _ _ _ rfl rfl R2.out ?_;intro w9 hNF hUF;have NF:=zY hNF;have UF:=zY hUF;clear hNF hUF)
    |(refine tQ _ rfl (.tmp 6) (.tmp 15) rfl rfl wr.heap.size _ _ _ _ _ _ rfl rfl (zV 67 wr #[qE,.int .i64 0,.int .i64 0]) ?_;intro w1 hNA hUA;have X1:=zY hNA;have b1:=((Below.refl wr.heap.size wr).alloc (Nat.le_refl _) (.cells #[qE,.int .i64 0,.int .i64 0] 67)).trans (hUA.below (Nat.le_refl _) (by simp));have B1:=zY b1;have L1:=zY (HLED.out.below b1);have R1:=zY (NRW.out.below b1);have y0:w1.cell? ⟨wr.heap.size,0,none⟩=some (.string (yG nm)):=hNA.cell rfl;clear hNA hUA b1)
    |(go_at_call 85;(with_reducible refine (tU F w1 b s' nm L1.out (by omega)).mono ?_);rintro e w2 ⟨rfl,hL2,hG2⟩;have L2:=zY hL2;have G2:=zY hG2;have X2:=zY (X1.out.keep (hG2.block _ X1.out.lt (fun e=>by have:=HLED.out.low _ e;omega)));have R2:=zY (R1.out.keep (hG2.block _ R1.out.lt HNR.out));rw[HCE.out];clear hL2 hG2 y0))
   have z0:w9.cell? ⟨w.heap.size,0,none⟩=some (.int .i64 ce):=NF.out.cell rfl;have z1:w9.cell? ⟨w.heap.size,1,none⟩=some (.int .u8 4):=NF.out.cell rfl;have z2:w9.cell? ⟨w.heap.size,2,none⟩=some (.int .i64 (i:Int)):=NF.out.cell rfl;have z3:w9.cell? ⟨w.heap.size,3,none⟩=some (.int .u8 0):=NF.out.cell rfl;refine bodyPost_ret (v:=.agg #[.int .i64 ce,.int .u8 4,.int .i64 (i:Int),.int .u8 0]) (by simp[results,Tryz.results67,go_sem,z0,z1,z2,z3]) rfl ?_
   refine ⟨?_,?_,?_⟩
   ·rw [HEQ.out,HDR.out]
    show _=Ending.returned (NK (if _ then _ else _:FL × LS).1);rw[if_neg (by rw[HCE.out];exact h1),HCE.out];rfl
   ·rw [HEQ.out,HDR.out]
    show ((if _ then _ else _:FL × LS).1).code=0->_;rw[if_neg (by rw[HCE.out];exact h1),HCE.out]
    exact fun e=>absurd e h1
   exact ((((xP.of_below BA.out).trans' HC.out).trans' (xP.of_below B1.out)).trans' G2.out).trans (UF.out.chg (F:=fun k=>k=w.heap.size) rfl) fun k hk=>.inr (by omega)
  have hii:¬(i:Int)<(Es.length:Int):=by omega
  have ei:i=Es.length:=by omega
  go_wp2_with (refine zT _ rfl (.tmp 4) (.tmp 40) rfl rfl w.heap.size _ _ _ _ _ _ _ _ rfl rfl NRW.out ?_;intro w9 hNF hUF;have NF:=zY hNF;have UF:=zY hUF;clear hNF hUF)
  have z0:w9.cell? ⟨w.heap.size,0,none⟩=some (.int .i64 0):=NF.out.cell rfl;have z1:w9.cell? ⟨w.heap.size,1,none⟩=some (.int .u8 0):=NF.out.cell rfl;have z2:w9.cell? ⟨w.heap.size,2,none⟩=some (.int .i64 0):=NF.out.cell rfl;have z3:w9.cell? ⟨w.heap.size,3,none⟩=some (.int .u8 0):=NF.out.cell rfl;refine bodyPost_ret (v:=.agg #[.int .i64 0,.int .u8 0,.int .i64 0,.int .u8 0]) (by simp[results,Tryz.results67,go_sem,z0,z1,z2,z3]) rfl ?_
  refine ⟨?_,?_,?_⟩
  ·rw [HEQ.out,ei,List.drop_length]
   rfl
  ·rw [HEQ.out,ei,List.drop_length]
   exact fun _=>⟨F,HLED.out.keep (fun k hk=>UF.out.block k (HLED.out.low k hk) (fun e=>HNR.out (e ▸ hk))) UF.out.size,fun k hk=>.inl hk⟩
  exact ((xP.of_below BA.out).trans' HC.out).trans (UF.out.chg (F:=fun k=>k=w.heap.size) rfl) fun k hk=>.inr (by omega)
theorem UL (F:Nat->Prop) (w:World) (b:Nat) (s:LS) (a:Option Addr) (n cap:Nat) (h:kH F w b s) (hI:yS s.I) (hO:yS s.O) (h1:n<=s.I.length) (h2:n<=s.O.length):
 Calls Tryz.prog 68 #[(qP b),.slice a n cap] w fun e w'=>e=.returned (NK (mC s.I s.O n 0))/\Below w.heap.size w w':=by
 have ba:=(Below.refl w.heap.size w).alloc (Nat.le_refl _) (.cells #[.int .i64 0,.int .u8 0,.int .i64 0,.int .u8 0] 104);have BA:=zY ba;have NR:=zY (zV 104 w #[.int .i64 0,.int .u8 0,.int .i64 0,.int .u8 0]);obtain ⟨m,v1,v2,F1,F2,hP⟩:=h.below ba;obtain ⟨vx,vc,rfl⟩:=hP.ins.slice;obtain ⟨wx,wc,rfl⟩:=hP.outs.slice
 have GI:Hid (∀ i,i<n->Calls Tryz.prog 88 #[.slice vx s.I.length vc,.int .i64 (i:Int)] (w.alloc (.cells #[.int .i64 0,.int .u8 0,.int .i64 0,.int .u8 0] 104)) fun e w'=>e=.returned (.bool (iC s.I i))/\w'=w.alloc (.cells #[.int .i64 0,.int .u8 0,.int .i64 0,.int .u8 0] 104)):=fun i hi=>FK F1 _ _ s.I i hP.ins (by omega) (by have:=hI.1;omega) (fun j=>by have:=hI.2 j;omega)
 have GO:Hid (∀ i,i<n->Calls Tryz.prog 88 #[.slice wx s.O.length wc,.int .i64 (i:Int)] (w.alloc (.cells #[.int .i64 0,.int .u8 0,.int .i64 0,.int .u8 0] 104)) fun e w'=>e=.returned (.bool (iC s.O i))/\w'=w.alloc (.cells #[.int .i64 0,.int .u8 0,.int .i64 0,.int .u8 0] 104)):=fun i hi=>FK F2 _ _ s.O i hP.outs (by omega) (by have:=hO.1;omega) (fun j=>by have:=hO.2 j;omega)
 have y1:=hP.blk.cell (k:=1) rfl;have y2:=hP.blk.cell (k:=2) rfl
 have hnn:(n:Int)<=200:=by have:=hI.1;omega
 clear h hP hI hO ba h1 h2
 go_enter Tryz.func68,Tryz.ntmps68
 go_upto_region 1 with fail
 generalize w.alloc (.cells #[.int .i64 0,.int .u8 0,.int .i64 0,.int .u8 0] 104)=W0 at *
 go_wp2
 go_loopg [8] n (fun gk v wr=>∃i:Nat,i<=n/\gk=n-i/\v=.int .i64 (i:Int)/\wr=W0/\mC s.I s.O n 0=mC s.I s.O (n-i) i)
 case atStart=>exact ⟨0,Nat.zero_le _,rfl,rfl,rfl,rfl⟩
 case round=>
  obtain ⟨i,hi,rfl,rfl,rfl,hEq⟩:=hrel;have HEQ:=zY hEq;clear hEq
  by_cases hlt:i<n
  ·have hii:(i:Int)<(n:Int):=by omega
   have HGI:=zY (GI.out i hlt);have HGO:=zY (GO.out i hlt)
   have HU:Hid (mC s.I s.O (n-i) i=if iC s.I i=true\/iC s.O i=true then ⟨87,1,i,0⟩ else mC s.I s.O (n-(i+1)) (i+1)):=by
    show _=_;obtain ⟨q,hq⟩:∃q,n-i=q+1:=⟨n-i-1,by omega⟩;rw[hq,show n-(i+1)=q by omega];rfl
   generalize iC s.I i=p1 at *;generalize iC s.O i=p2 at *
   cases p1
   ·cases p2
    ·go_wp2_with (first
      |(go_at_call 88;(with_reducible refine HGI.out.mono ?_);rintro e w' ⟨rfl,rfl⟩)
      |(go_at_call 88;(with_reducible refine HGO.out.mono ?_);rintro e w' ⟨rfl,rfl⟩))
     go_roundg (n-(i+1))
     case measure=>omega
     case rel=>exact ⟨i+1,by omega,rfl,by go_num,rfl,by rw[HEQ.out,HU.out];rfl⟩
    go_wp2_with (first
     |(refine zT _ rfl (.tmp 4) (.tmp 26) rfl rfl w.heap.size _ _ _ _ _ _ _ _ rfl rfl NR.out ?_;intro w9 hNF hUF;have NF:=zY hNF;have UF:=zY hUF;clear hNF hUF)
     |(go_at_call 88;(with_reducible refine HGI.out.mono ?_);rintro e w' ⟨rfl,rfl⟩)
     |(go_at_call 88;(with_reducible refine HGO.out.mono ?_);rintro e w' ⟨rfl,rfl⟩))
    have z0:w9.cell? ⟨w.heap.size,0,none⟩=some (.int .i64 87):=NF.out.cell rfl;have z1:w9.cell? ⟨w.heap.size,1,none⟩=some (.int .u8 1):=NF.out.cell rfl;have z2:w9.cell? ⟨w.heap.size,2,none⟩=some (.int .i64 (i:Int)):=NF.out.cell rfl;have z3:w9.cell? ⟨w.heap.size,3,none⟩=some (.int .u8 0):=NF.out.cell rfl;refine bodyPost_ret (v:=.agg #[.int .i64 87,.int .u8 1,.int .i64 (i:Int),.int .u8 0]) (by simp[results,Tryz.results68,go_sem,z0,z1,z2,z3]) rfl ?_
    exact ⟨by rw[HEQ.out,HU.out];rfl,BA.out.trans (UF.out.below (Nat.le_refl _) BA.out.size)⟩
   go_wp2_with (first
    |(refine zT _ rfl (.tmp 4) (.tmp 26) rfl rfl w.heap.size _ _ _ _ _ _ _ _ rfl rfl NR.out ?_;intro w9 hNF hUF;have NF:=zY hNF;have UF:=zY hUF;clear hNF hUF)
    |(go_at_call 88;(with_reducible refine HGI.out.mono ?_);rintro e w' ⟨rfl,rfl⟩))
   have z0:w9.cell? ⟨w.heap.size,0,none⟩=some (.int .i64 87):=NF.out.cell rfl;have z1:w9.cell? ⟨w.heap.size,1,none⟩=some (.int .u8 1):=NF.out.cell rfl;have z2:w9.cell? ⟨w.heap.size,2,none⟩=some (.int .i64 (i:Int)):=NF.out.cell rfl;have z3:w9.cell? ⟨w.heap.size,3,none⟩=some (.int .u8 0):=NF.out.cell rfl;refine bodyPost_ret (v:=.agg #[.int .i64 87,.int .u8 1,.int .i64 (i:Int),.int .u8 0]) (by simp[results,Tryz.results68,go_sem,z0,z1,z2,z3]) rfl ?_
   exact ⟨by rw[HEQ.out,HU.out,if_pos (by simp)];rfl,BA.out.trans (UF.out.below (Nat.le_refl _) BA.out.size)⟩
  have hii:¬(i:Int)<(n:Int):=by omega
  have ei:n-i=0:=by omega
  go_wp2_with (refine zT _ rfl (.tmp 4) (.tmp 28) rfl rfl w.heap.size _ _ _ _ _ _ _ _ rfl rfl NR.out ?_;intro w9 hNF hUF;have NF:=zY hNF;have UF:=zY hUF;clear hNF hUF)
  have z0:w9.cell? ⟨w.heap.size,0,none⟩=some (.int .i64 0):=NF.out.cell rfl;have z1:w9.cell? ⟨w.heap.size,1,none⟩=some (.int .u8 0):=NF.out.cell rfl;have z2:w9.cell? ⟨w.heap.size,2,none⟩=some (.int .i64 0):=NF.out.cell rfl;have z3:w9.cell? ⟨w.heap.size,3,none⟩=some (.int .u8 0):=NF.out.cell rfl;refine bodyPost_ret (v:=.agg #[.int .i64 0,.int .u8 0,.int .i64 0,.int .u8 0]) (by simp[results,Tryz.results68,go_sem,z0,z1,z2,z3]) rfl ?_
  exact ⟨by rw[HEQ.out,ei];rfl,BA.out.trans (UF.out.below (Nat.le_refl _) BA.out.size)⟩
def SurE (w:World) (k:Int) (n:Int) (e:Ending) (w':World):Prop:=e=.returned (.agg #[.int .i64 81,.int .u8 k,.int .i64 n,.int .u8 0])/\Below w.heap.size w w'
theorem pS (k n:Int) (w:World):Calls Tryz.prog 84 #[.int .u8 k,.int .i64 n] w (SurE w k n):=by
 have BA:=zY ((Below.refl w.heap.size w).alloc (Nat.le_refl _) (.cells #[.int .i64 0,.int .u8 0,.int .i64 0,.int .u8 0] 104));have NR:=zY (zV 104 w #[.int .i64 0,.int .u8 0,.int .i64 0,.int .u8 0])
 go_enter Tryz.func84,Tryz.ntmps84
 go_upto_region 1 with fail
 generalize w.alloc (.cells #[.int .i64 0,.int .u8 0,.int .i64 0,.int .u8 0] 104)=W0 at *
 go_wp2_with (refine zT _ rfl (.tmp 4) (.tmp 7) rfl rfl w.heap.size _ _ _ _ _ _ _ _ rfl rfl NR.out ?_;intro w9 hNF hUF;have NF:=zY hNF;have UF:=zY hUF;clear hNF hUF)
 have z0:w9.cell? ⟨w.heap.size,0,none⟩=some (.int .i64 81):=NF.out.cell rfl;have z1:w9.cell? ⟨w.heap.size,1,none⟩=some (.int .u8 k):=NF.out.cell rfl;have z2:w9.cell? ⟨w.heap.size,2,none⟩=some (.int .i64 n):=NF.out.cell rfl;have z3:w9.cell? ⟨w.heap.size,3,none⟩=some (.int .u8 0):=NF.out.cell rfl;refine bodyPost_ret (v:=.agg #[.int .i64 81,.int .u8 k,.int .i64 n,.int .u8 0]) (by simp[results,Tryz.results84,go_sem,z0,z1,z2,z3]) rfl ?_
 exact ⟨rfl,BA.out.trans (UF.out.below (Nat.le_refl _) BA.out.size)⟩
theorem UK (g:GG) (a1 a2 a3 a4:Option Addr) (c1 c2 c3 c4:Nat) (w:World) (l1:g.A.length<=1000000000000000) (l2:g.E.length<=1000000000000000) (l3:g.ins.length<=1000000000000000) (l4:g.outs.length<=1000000000000000):
 Calls Tryz.prog 63 #[.agg #[.string (yG g.name),.slice a1 g.A.length c1,.slice a2 g.E.length c2,.slice a3 g.ins.length c3,.slice a4 g.outs.length c4]] w fun e w'=>e=.returned (NK (rP g))/\Below w.heap.size w w':=by
 have ba:=((Below.refl w.heap.size w).alloc (Nat.le_refl _) (.cells #[.string (yG g.name),.slice a1 g.A.length c1,.slice a2 g.E.length c2,.slice a3 g.ins.length c3,.slice a4 g.outs.length c4] 26)).alloc (by simp) (.cells #[.int .i64 0,.int .u8 0,.int .i64 0,.int .u8 0] 104);have BA:=zY ba;have gg:=(zV 26 w #[.string (yG g.name),.slice a1 g.A.length c1,.slice a2 g.E.length c2,.slice a3 g.ins.length c3,.slice a4 g.outs.length c4]).below ((Below.refl _ _).alloc (Nat.le_refl _) (.cells #[.int .i64 0,.int .u8 0,.int .i64 0,.int .u8 0] 104))
 have nr:zE 104 (w.heap.size+1) ((w.alloc (.cells #[.string (yG g.name),.slice a1 g.A.length c1,.slice a2 g.E.length c2,.slice a3 g.ins.length c3,.slice a4 g.outs.length c4] 26)).alloc (.cells #[.int .i64 0,.int .u8 0,.int .i64 0,.int .u8 0] 104)) #[.int .i64 0,.int .u8 0,.int .i64 0,.int .u8 0]:=by
  have h3:=zV 104 (w.alloc (.cells #[.string (yG g.name),.slice a1 g.A.length c1,.slice a2 g.E.length c2,.slice a3 g.ins.length c3,.slice a4 g.outs.length c4] 26)) #[.int .i64 0,.int .u8 0,.int .i64 0,.int .u8 0];rw[World.size_alloc]at h3;exact h3
 have HG:=zY gg;have NR:=zY nr;have NM:=zY (QH g.name);have y0:=gg.cell (k:=0) rfl;clear ba gg nr;obtain ⟨n1,h1⟩:∃q,g.A.length=q:=⟨_,rfl⟩;obtain ⟨n2,h2⟩:∃q,g.E.length=q:=⟨_,rfl⟩;obtain ⟨n3,h3⟩:∃q,g.ins.length=q:=⟨_,rfl⟩;obtain ⟨n4,h4⟩:∃q,g.outs.length=q:=⟨_,rfl⟩;obtain ⟨nb,hnb⟩:∃q,vQ g.name=q:=⟨_,rfl⟩
 have hd:rP g=if nb=false then ⟨82,0,0,0⟩ else if n1=0 then ⟨80,0,0,0⟩ else if 32<n1 then ⟨81,1,32,0⟩ else if 96<n2 then ⟨81,2,96,0⟩ else if 16<n3 then ⟨81,3,16,0⟩ else if 16<n4 then ⟨81,4,16,0⟩ else fl0:=by
  unfold rP;rw[h1,h2,h3,h4,hnb]
 have HD:=zY hd;rw[hnb]at NM;rw[h1,h2,h3,h4]at BA HG NR y0;rw[h1]at l1;rw[h2]at l2;rw[h3]at l3;rw[h4]at l4;rw[h1,h2,h3,h4];clear hd h1 h2 h3 h4 hnb
 cases nb
 ·go_enter Tryz.func63,Tryz.ntmps63
  go_upto_region 1 with fail
  generalize (w.alloc (.cells #[.string (yG g.name),.slice a1 n1 c1,.slice a2 n2 c2,.slice a3 n3 c3,.slice a4 n4 c4] 26)).alloc (.cells #[.int .i64 0,.int .u8 0,.int .i64 0,.int .u8 0] 104)=W0 at *
  go_wp2_with (first|(refine zT _ rfl (.tmp 2) (.tmp 8) rfl rfl (w.heap.size+1) _ _ _ _ _ _ _ _ rfl rfl N1.out ?_;intro w9 hNF hUF;have NF:=zY hNF;have UF:=zY hUF;clear hNF hUF)|(go_at_call 83;(with_reducible refine (NM.out W0).mono ?_);rintro e w1 ⟨rfl,b1⟩;have G1:=HG.out.below b1;have N1:=zY (NR.out.below b1);have B1:=zY b1;obtain ⟨-,x1,x2,x3,x4⟩:=qC5 G1;clear G1 b1 y0))
  have z0:w9.cell? ⟨w.heap.size+1,0,none⟩=some (.int .i64 82):=NF.out.cell rfl;have z1:w9.cell? ⟨w.heap.size+1,1,none⟩=some (.int .u8 0):=NF.out.cell rfl;have z2:w9.cell? ⟨w.heap.size+1,2,none⟩=some (.int .i64 0):=NF.out.cell rfl;have z3:w9.cell? ⟨w.heap.size+1,3,none⟩=some (.int .u8 0):=NF.out.cell rfl;refine bodyPost_ret (v:=.agg #[.int .i64 82,.int .u8 0,.int .i64 0,.int .u8 0]) (by simp[results,Tryz.results63,go_sem,z0,z1,z2,z3]) rfl ?_
  have p1:=BA.out.trans (B1.out.mono BA.out.size);exact ⟨by rw[HD.out,if_pos (by simp)];rfl,p1.trans (UF.out.below (Nat.le_succ _) p1.size)⟩
 skip
 by_cases k0:n1=0
 ·have i0:(n1:Int)=0:=by omega
  have j0:((n1:Int)==0)=true:=by simpa using i0
  have K0:=zY k0;clear i0 k0
  go_enter Tryz.func63,Tryz.ntmps63
  go_upto_region 1 with fail
  generalize (w.alloc (.cells #[.string (yG g.name),.slice a1 n1 c1,.slice a2 n2 c2,.slice a3 n3 c3,.slice a4 n4 c4] 26)).alloc (.cells #[.int .i64 0,.int .u8 0,.int .i64 0,.int .u8 0] 104)=W0 at *
  go_wp2_with (first|(refine zT _ rfl (.tmp 2) (.tmp 14) rfl rfl (w.heap.size+1) _ _ _ _ _ _ _ _ rfl rfl N1.out ?_;intro w9 hNF hUF;have NF:=zY hNF;have UF:=zY hUF;clear hNF hUF)|(go_at_call 83;(with_reducible refine (NM.out W0).mono ?_);rintro e w1 ⟨rfl,b1⟩;have G1:=HG.out.below b1;have N1:=zY (NR.out.below b1);have B1:=zY b1;obtain ⟨-,x1,x2,x3,x4⟩:=qC5 G1;clear G1 b1 y0))
  have z0:w9.cell? ⟨w.heap.size+1,0,none⟩=some (.int .i64 80):=NF.out.cell rfl;have z1:w9.cell? ⟨w.heap.size+1,1,none⟩=some (.int .u8 0):=NF.out.cell rfl;have z2:w9.cell? ⟨w.heap.size+1,2,none⟩=some (.int .i64 0):=NF.out.cell rfl;have z3:w9.cell? ⟨w.heap.size+1,3,none⟩=some (.int .u8 0):=NF.out.cell rfl;refine bodyPost_ret (v:=.agg #[.int .i64 80,.int .u8 0,.int .i64 0,.int .u8 0]) (by simp[results,Tryz.results63,go_sem,z0,z1,z2,z3]) rfl ?_
  have p1:=BA.out.trans (B1.out.mono BA.out.size);exact ⟨by rw[HD.out,if_neg (by simp),if_pos K0.out];rfl,p1.trans (UF.out.below (Nat.le_succ _) p1.size)⟩
 have i0:¬(n1:Int)=0:=by omega
 have j0:((n1:Int)==0)=false:=by simpa using i0
 by_cases k1:32<n1
 ·have i1:(32:Int)<(n1:Int):=by omega
  go_enter Tryz.func63,Tryz.ntmps63
  go_upto_region 1 with fail
  generalize (w.alloc (.cells #[.string (yG g.name),.slice a1 n1 c1,.slice a2 n2 c2,.slice a3 n3 c3,.slice a4 n4 c4] 26)).alloc (.cells #[.int .i64 0,.int .u8 0,.int .i64 0,.int .u8 0] 104)=W0 at *
  go_wp2_with (first|(refine zT _ rfl (.tmp 2) (.tmp 20) rfl rfl (w.heap.size+1) _ _ _ _ _ _ _ _ rfl rfl N2.out ?_;intro w9 hNF hUF;have NF:=zY hNF;have UF:=zY hUF;clear hNF hUF)|(go_at_call 83;(with_reducible refine (NM.out W0).mono ?_);rintro e w1 ⟨rfl,b1⟩;have G1:=HG.out.below b1;have N1:=zY (NR.out.below b1);have B1:=zY b1;obtain ⟨-,x1,x2,x3,x4⟩:=qC5 G1;clear G1 b1 y0)|(go_at_call 84;(with_reducible refine (pS 1 32 w1).mono ?_);rintro e w2 ⟨rfl,b2⟩;have B2:=zY b2;have N2:=zY (N1.out.below b2);clear b2))
  have z0:w9.cell? ⟨w.heap.size+1,0,none⟩=some (.int .i64 81):=NF.out.cell rfl;have z1:w9.cell? ⟨w.heap.size+1,1,none⟩=some (.int .u8 1):=NF.out.cell rfl;have z2:w9.cell? ⟨w.heap.size+1,2,none⟩=some (.int .i64 32):=NF.out.cell rfl;have z3:w9.cell? ⟨w.heap.size+1,3,none⟩=some (.int .u8 0):=NF.out.cell rfl;refine bodyPost_ret (v:=.agg #[.int .i64 81,.int .u8 1,.int .i64 32,.int .u8 0]) (by simp[results,Tryz.results63,go_sem,z0,z1,z2,z3]) rfl ?_
  have p1:=BA.out.trans (B1.out.mono BA.out.size);have p2:=p1.trans (B2.out.mono p1.size);exact ⟨by rw[HD.out,if_neg (by simp),if_neg k0,if_pos k1];rfl,p2.trans (UF.out.below (Nat.le_succ _) p2.size)⟩
 have i1:¬(32:Int)<(n1:Int):=by omega
 by_cases k2:96<n2
 ·have i2:(96:Int)<(n2:Int):=by omega
  go_enter Tryz.func63,Tryz.ntmps63
  go_upto_region 1 with fail
  generalize (w.alloc (.cells #[.string (yG g.name),.slice a1 n1 c1,.slice a2 n2 c2,.slice a3 n3 c3,.slice a4 n4 c4] 26)).alloc (.cells #[.int .i64 0,.int .u8 0,.int .i64 0,.int .u8 0] 104)=W0 at *
  go_wp2_with (first|(refine zT _ rfl (.tmp 2) (.tmp 26) rfl rfl (w.heap.size+1) _ _ _ _ _ _ _ _ rfl rfl N2.out ?_;intro w9 hNF hUF;have NF:=zY hNF;have UF:=zY hUF;clear hNF hUF)|(go_at_call 83;(with_reducible refine (NM.out W0).mono ?_);rintro e w1 ⟨rfl,b1⟩;have G1:=HG.out.below b1;have N1:=zY (NR.out.below b1);have B1:=zY b1;obtain ⟨-,x1,x2,x3,x4⟩:=qC5 G1;clear G1 b1 y0)|(go_at_call 84;(with_reducible refine (pS 2 96 w1).mono ?_);rintro e w2 ⟨rfl,b2⟩;have B2:=zY b2;have N2:=zY (N1.out.below b2);clear b2))
  have z0:w9.cell? ⟨w.heap.size+1,0,none⟩=some (.int .i64 81):=NF.out.cell rfl;have z1:w9.cell? ⟨w.heap.size+1,1,none⟩=some (.int .u8 2):=NF.out.cell rfl;have z2:w9.cell? ⟨w.heap.size+1,2,none⟩=some (.int .i64 96):=NF.out.cell rfl;have z3:w9.cell? ⟨w.heap.size+1,3,none⟩=some (.int .u8 0):=NF.out.cell rfl;refine bodyPost_ret (v:=.agg #[.int .i64 81,.int .u8 2,.int .i64 96,.int .u8 0]) (by simp[results,Tryz.results63,go_sem,z0,z1,z2,z3]) rfl ?_
  have p1:=BA.out.trans (B1.out.mono BA.out.size);have p2:=p1.trans (B2.out.mono p1.size);exact ⟨by rw[HD.out,if_neg (by simp),if_neg k0,if_neg k1,if_pos k2];rfl,p2.trans (UF.out.below (Nat.le_succ _) p2.size)⟩
 have i2:¬(96:Int)<(n2:Int):=by omega
 by_cases k3:16<n3
 ·have i3:(16:Int)<(n3:Int):=by omega
  go_enter Tryz.func63,Tryz.ntmps63
  go_upto_region 1 with fail
  generalize (w.alloc (.cells #[.string (yG g.name),.slice a1 n1 c1,.slice a2 n2 c2,.slice a3 n3 c3,.slice a4 n4 c4] 26)).alloc (.cells #[.int .i64 0,.int .u8 0,.int .i64 0,.int .u8 0] 104)=W0 at *
  go_wp2_with (first|(refine zT _ rfl (.tmp 2) (.tmp 32) rfl rfl (w.heap.size+1) _ _ _ _ _ _ _ _ rfl rfl N2.out ?_;intro w9 hNF hUF;have NF:=zY hNF;have UF:=zY hUF;clear hNF hUF)|(go_at_call 83;(with_reducible refine (NM.out W0).mono ?_);rintro e w1 ⟨rfl,b1⟩;have G1:=HG.out.below b1;have N1:=zY (NR.out.below b1);have B1:=zY b1;obtain ⟨-,x1,x2,x3,x4⟩:=qC5 G1;clear G1 b1 y0)|(go_at_call 84;(with_reducible refine (pS 3 16 w1).mono ?_);rintro e w2 ⟨rfl,b2⟩;have B2:=zY b2;have N2:=zY (N1.out.below b2);clear b2))
  have z0:w9.cell? ⟨w.heap.size+1,0,none⟩=some (.int .i64 81):=NF.out.cell rfl;have z1:w9.cell? ⟨w.heap.size+1,1,none⟩=some (.int .u8 3):=NF.out.cell rfl;have z2:w9.cell? ⟨w.heap.size+1,2,none⟩=some (.int .i64 16):=NF.out.cell rfl;have z3:w9.cell? ⟨w.heap.size+1,3,none⟩=some (.int .u8 0):=NF.out.cell rfl;refine bodyPost_ret (v:=.agg #[.int .i64 81,.int .u8 3,.int .i64 16,.int .u8 0]) (by simp[results,Tryz.results63,go_sem,z0,z1,z2,z3]) rfl ?_
  have p1:=BA.out.trans (B1.out.mono BA.out.size);have p2:=p1.trans (B2.out.mono p1.size);exact ⟨by rw[HD.out,if_neg (by simp),if_neg k0,if_neg k1,if_neg k2,if_pos k3];rfl,p2.trans (UF.out.below (Nat.le_succ _) p2.size)⟩
 have i3:¬(16:Int)<(n3:Int):=by omega
 by_cases k4:16<n4
 ·have i4:(16:Int)<(n4:Int):=by omega
  go_enter Tryz.func63,Tryz.ntmps63
  go_upto_region 1 with fail
  generalize (w.alloc (.cells #[.string (yG g.name),.slice a1 n1 c1,.slice a2 n2 c2,.slice a3 n3 c3,.slice a4 n4 c4] 26)).alloc (.cells #[.int .i64 0,.int .u8 0,.int .i64 0,.int .u8 0] 104)=W0 at *
  go_wp2_with (first|(refine zT _ rfl (.tmp 2) (.tmp 38) rfl rfl (w.heap.size+1) _ _ _ _ _ _ _ _ rfl rfl N2.out ?_;intro w9 hNF hUF;have NF:=zY hNF;have UF:=zY hUF;clear hNF hUF)|(go_at_call 83;(with_reducible refine (NM.out W0).mono ?_);rintro e w1 ⟨rfl,b1⟩;have G1:=HG.out.below b1;have N1:=zY (NR.out.below b1);have B1:=zY b1;obtain ⟨-,x1,x2,x3,x4⟩:=qC5 G1;clear G1 b1 y0)|(go_at_call 84;(with_reducible refine (pS 4 16 w1).mono ?_);rintro e w2 ⟨rfl,b2⟩;have B2:=zY b2;have N2:=zY (N1.out.below b2);clear b2))
  have z0:w9.cell? ⟨w.heap.size+1,0,none⟩=some (.int .i64 81):=NF.out.cell rfl;have z1:w9.cell? ⟨w.heap.size+1,1,none⟩=some (.int .u8 4):=NF.out.cell rfl;have z2:w9.cell? ⟨w.heap.size+1,2,none⟩=some (.int .i64 16):=NF.out.cell rfl;have z3:w9.cell? ⟨w.heap.size+1,3,none⟩=some (.int .u8 0):=NF.out.cell rfl;refine bodyPost_ret (v:=.agg #[.int .i64 81,.int .u8 4,.int .i64 16,.int .u8 0]) (by simp[results,Tryz.results63,go_sem,z0,z1,z2,z3]) rfl ?_
  have p1:=BA.out.trans (B1.out.mono BA.out.size);have p2:=p1.trans (B2.out.mono p1.size);exact ⟨by rw[HD.out,if_neg (by simp),if_neg k0,if_neg k1,if_neg k2,if_neg k3,if_pos k4];rfl,p2.trans (UF.out.below (Nat.le_succ _) p2.size)⟩
 have i4:¬(16:Int)<(n4:Int):=by omega
 go_enter Tryz.func63,Tryz.ntmps63
 go_upto_region 1 with fail
 generalize (w.alloc (.cells #[.string (yG g.name),.slice a1 n1 c1,.slice a2 n2 c2,.slice a3 n3 c3,.slice a4 n4 c4] 26)).alloc (.cells #[.int .i64 0,.int .u8 0,.int .i64 0,.int .u8 0] 104)=W0 at *
 go_wp2_with (first|(refine zT _ rfl (.tmp 2) (.tmp 39) rfl rfl (w.heap.size+1) _ _ _ _ _ _ _ _ rfl rfl N1.out ?_;intro w9 hNF hUF;have NF:=zY hNF;have UF:=zY hUF;clear hNF hUF)|(go_at_call 83;(with_reducible refine (NM.out W0).mono ?_);rintro e w1 ⟨rfl,b1⟩;have G1:=HG.out.below b1;have N1:=zY (NR.out.below b1);have B1:=zY b1;obtain ⟨-,x1,x2,x3,x4⟩:=qC5 G1;clear G1 b1 y0))
 have z0:w9.cell? ⟨w.heap.size+1,0,none⟩=some (.int .i64 0):=NF.out.cell rfl;have z1:w9.cell? ⟨w.heap.size+1,1,none⟩=some (.int .u8 0):=NF.out.cell rfl;have z2:w9.cell? ⟨w.heap.size+1,2,none⟩=some (.int .i64 0):=NF.out.cell rfl;have z3:w9.cell? ⟨w.heap.size+1,3,none⟩=some (.int .u8 0):=NF.out.cell rfl;refine bodyPost_ret (v:=.agg #[.int .i64 0,.int .u8 0,.int .i64 0,.int .u8 0]) (by simp[results,Tryz.results63,go_sem,z0,z1,z2,z3]) rfl ?_
 have p1:=BA.out.trans (B1.out.mono BA.out.size);exact ⟨by rw[HD.out,if_neg (by simp),if_neg k0,if_neg k1,if_neg k2,if_neg k3,if_neg k4];rfl,p1.trans (UF.out.below (Nat.le_succ _) p1.size)⟩
def tP (R:List (List Bool)):Prop:=∀j,(xM R j).length<=1024
theorem PZ {R:List (List Bool)} {n:Nat} (h:tP R) (hn:n<=1024):tP (R++[List.replicate n false]):=fun j=>by
 by_cases h1:j<R.length
 ·rw [sJ h1];exact h j
 by_cases h2:j=R.length
 ·subst h2;rw[oP,List.length_replicate];exact hn
 unfold xM;rw[List.getD_eq_getElem?_getD,List.getElem?_eq_none (by simp;omega)];exact Nat.zero_le _
theorem AD {s:LS} {t:Nat} {zs:List Int} (h:(xI s t zs).1=0) (hI:tP s.I) (hO:tP s.O):(xI s t zs).2.ns=s.ns/\(xI s t zs).2.I.length=s.I.length+1/\(xI s t zs).2.O.length=s.O.length+1/\tP (xI s t zs).2.I/\tP (xI s t zs).2.O:=by
 have hs:=QF t zs;unfold xI at h ⊢
 by_cases h0:(nU t zs).2.2=0
 ·rw [if_pos h0]
  exact ⟨rfl,by simp,by simp,PZ hI hs.1,PZ hO hs.2⟩
 rw[if_neg h0]at h;exact absurd h h0
theorem dW:∀(As:List GA) (i:Nat) (s:LS),tP s.I->tP s.O->(xF As i s).1.code=0->(xF As i s).2.I.length=s.I.length+As.length/\(xF As i s).2.O.length=s.O.length+As.length/\tP (xF As i s).2.I/\tP (xF As i s).2.O/\(xF As i s).2.ns.length<=s.ns.length+As.length
 |[],i,s,hI,hO,_=>⟨rfl,rfl,hI,hO,Nat.le_refl _⟩
 |a::r,i,s,hI,hO,h=>by
  have e:xF (a::r) i s=if (zK s.ns a.name).1=0 then (if (xI ⟨(zK s.ns a.name).2,s.I,s.O⟩ a.tag a.params).1=0 then xF r (i+1) (xI ⟨(zK s.ns a.name).2,s.I,s.O⟩ a.tag a.params).2 else (⟨(xI ⟨(zK s.ns a.name).2,s.I,s.O⟩ a.tag a.params).1,1,i,0⟩,s)) else (⟨(zK s.ns a.name).1,1,i,0⟩,s):=rfl;rw[e]at h ⊢
  by_cases h1:(zK s.ns a.name).1=0
  ·rw [if_pos h1]at h ⊢
   by_cases h2:(xI ⟨(zK s.ns a.name).2,s.I,s.O⟩ a.tag a.params).1=0
   ·rw [if_pos h2]at h ⊢
    have g:=AD (s:=⟨(zK s.ns a.name).2,s.I,s.O⟩) h2 hI hO;have q:=dW r (i+1) _ g.2.2.2.1 g.2.2.2.2 h;have l:=oO s.ns a.name;have g1:(xI ⟨(zK s.ns a.name).2,s.I,s.O⟩ a.tag a.params).2.ns=(zK s.ns a.name).2:=g.1;have g2:(xI ⟨(zK s.ns a.name).2,s.I,s.O⟩ a.tag a.params).2.I.length=s.I.length+1:=g.2.1;have g3:(xI ⟨(zK s.ns a.name).2,s.I,s.O⟩ a.tag a.params).2.O.length=s.O.length+1:=g.2.2.1;rw[g1,g2,g3]at q;rw[List.length_cons];exact ⟨by omega,by omega,q.2.2.1,q.2.2.2.1,by omega⟩
   rw[if_neg h2]at h;exact absurd h h2
  rw[if_neg h1]at h;exact absurd h h1
theorem tC (R:List (List Bool)) (a p:Int):(yL R a p).length=R.length:=by
 unfold yL;split
 ·exact tD _ _ _
 rfl
theorem aN:∀(Es:List GE) (i:Nat) (s:LS),yS s.I->yS s.O->(vX Es i s).2.I.length=s.I.length/\(vX Es i s).2.O.length=s.O.length/\yS (vX Es i s).2.I/\yS (vX Es i s).2.O/\(vX Es i s).2.ns=s.ns
 |[],i,s,hI,hO=>⟨rfl,rfl,hI,hO,rfl⟩
 |e::r,i,s,hI,hO=>by
  have u:vX (e::r) i s=if zJ s.O e.f e.fp=0 then (if zJ s.I e.t e.tp=0 then (if 256<e.start.length then (⟨88,2,i,0⟩,s) else vX r (i+1) ⟨s.ns,yL s.I e.t e.tp,yL s.O e.f e.fp⟩) else (⟨zJ s.I e.t e.tp,2,i,2⟩,s)) else (⟨zJ s.O e.f e.fp,2,i,1⟩,s):=rfl;rw[u]
  by_cases h1:zJ s.O e.f e.fp=0
  ·rw [if_pos h1]
   by_cases h2:zJ s.I e.t e.tp=0
   ·rw [if_pos h2]
    by_cases h3:256<e.start.length
    ·rw [if_pos h3];exact ⟨rfl,rfl,hI,hO,rfl⟩
    rw[if_neg h3];have q:=aN r (i+1) ⟨s.ns,yL s.I e.t e.tp,yL s.O e.f e.fp⟩ (vP hI _ _) (vP hO _ _);exact ⟨q.1.trans (tC _ _ _),q.2.1.trans (tC _ _ _),q.2.2.1,q.2.2.2.1,q.2.2.2.2⟩
   rw[if_neg h2];exact ⟨rfl,rfl,hI,hO,rfl⟩
  rw[if_neg h1];exact ⟨rfl,rfl,hI,hO,rfl⟩
theorem PW:∀(Ps:List GP) (i:Nat) (s:LS),yS s.I->yS s.O->(nR Ps i s).2.I.length=s.I.length/\(nR Ps i s).2.O.length=s.O.length/\yS (nR Ps i s).2.I/\yS (nR Ps i s).2.O/\(nR Ps i s).2.ns.length<=s.ns.length+Ps.length
 |[],i,s,hI,hO=>⟨rfl,rfl,hI,hO,Nat.le_refl _⟩
 |p::r,i,s,hI,hO=>by
  have u:nR (p::r) i s=if (zK s.ns p.name).1=0 then (if zJ s.I p.actor p.port=0 then nR r (i+1) ⟨(zK s.ns p.name).2,yL s.I p.actor p.port,s.O⟩ else (⟨zJ s.I p.actor p.port,3,i,2⟩,s)) else (⟨(zK s.ns p.name).1,3,i,0⟩,s):=rfl;rw[u]
  by_cases h1:(zK s.ns p.name).1=0
  ·rw [if_pos h1]
   by_cases h2:zJ s.I p.actor p.port=0
   ·rw [if_pos h2]
    have q:=PW r (i+1) ⟨(zK s.ns p.name).2,yL s.I p.actor p.port,s.O⟩ (vP hI _ _) hO;have l:=oO s.ns p.name;have q5:(nR r (i+1) ⟨(zK s.ns p.name).2,yL s.I p.actor p.port,s.O⟩).2.ns.length<=(zK s.ns p.name).2.length+r.length:=q.2.2.2.2;exact ⟨q.1.trans (tC _ _ _),q.2.1,q.2.2.1,q.2.2.2.1,by rw[List.length_cons];omega⟩
   rw[if_neg h2];exact ⟨rfl,rfl,hI,hO,Nat.le_add_right _ _⟩
  rw[if_neg h1];exact ⟨rfl,rfl,hI,hO,Nat.le_add_right _ _⟩
theorem WZ:∀(Ps:List GP) (i:Nat) (s:LS),yS s.I->yS s.O->(tE Ps i s).2.I.length=s.I.length/\(tE Ps i s).2.O.length=s.O.length/\yS (tE Ps i s).2.I/\yS (tE Ps i s).2.O
 |[],i,s,hI,hO=>⟨rfl,rfl,hI,hO⟩
 |p::r,i,s,hI,hO=>by
  have u:tE (p::r) i s=if (zK s.ns p.name).1=0 then (if zJ s.O p.actor p.port=0 then tE r (i+1) ⟨(zK s.ns p.name).2,s.I,yL s.O p.actor p.port⟩ else (⟨zJ s.O p.actor p.port,4,i,1⟩,s)) else (⟨(zK s.ns p.name).1,4,i,0⟩,s):=rfl;rw[u]
  by_cases h1:(zK s.ns p.name).1=0
  ·rw [if_pos h1]
   by_cases h2:zJ s.O p.actor p.port=0
   ·rw [if_pos h2]
    have q:=WZ r (i+1) ⟨(zK s.ns p.name).2,s.I,yL s.O p.actor p.port⟩ hI (vP hO _ _);exact ⟨q.1,q.2.1.trans (tC _ _ _),q.2.2.1,q.2.2.2⟩
   rw[if_neg h2];exact ⟨rfl,rfl,hI,hO⟩
  rw[if_neg h1];exact ⟨rfl,rfl,hI,hO⟩
def dI (g:GG) (i:Nat):Nat:=(nU (yX g.A i).tag (yX g.A i).params).1.length
def nG (g:GG) (i:Nat):Nat:=(nU (yX g.A i).tag (yX g.A i).params).2.1.length
def wW (g:GG) (na ni no:Nat) (x:List UInt8):Bool:=(g.A.take na).any (fun a=>a.name==x)||((g.ins.take ni).any (fun p=>p.name==x)||(g.outs.take no).any (fun p=>p.name==x))
def oN (g:GG) (ne no:Nat) (a p:Int):Bool:=(g.E.take ne).any (fun e=>e.f==a&&e.fp==p)||(g.outs.take no).any (fun q=>q.actor==a&&q.port==p)
def fH (g:GG) (ne ni:Nat) (a p:Int):Bool:=(g.E.take ne).any (fun e=>e.t==a&&e.tp==p)||(g.ins.take ni).any (fun q=>q.actor==a&&q.port==p)
def PV (g:GG) (a p:Int) (n:Nat) (taken:Bool):Int:=if a<0\/(g.A.length:Int)<=a then 84 else if p<0\/(n:Int)<=p then 85 else if taken=true then 86 else 0
def wG (g:GG) (i:Nat):Int:=if vQ (yX g.A i).name=false then 82 else if wW g i 0 0 (yX g.A i).name=true then 83 else (nU (yX g.A i).tag (yX g.A i).params).2.2
def fG (g:GG) (ne no:Nat) (a p:Int):Int:=PV g a p (nG g a.toNat) (oN g ne no a p)
def WY (g:GG) (ne ni:Nat) (a p:Int):Int:=PV g a p (dI g a.toNat) (fH g ne ni a p)
def uR (g:GG) (i:Nat):Int × Nat:=
 if fG g i 0 (yD g.E i).f (yD g.E i).fp≠0 then (fG g i 0 (yD g.E i).f (yD g.E i).fp,1)
 else if WY g i 0 (yD g.E i).t (yD g.E i).tp≠0 then (WY g i 0 (yD g.E i).t (yD g.E i).tp,2)
 else if 256<(yD g.E i).start.length then (88,0) else (0,0)
def FH (g:GG) (i:Nat):Int × Nat:=if vQ (uG g.ins i).name=false then (82,0) else if wW g g.A.length i 0 (uG g.ins i).name=true then (83,0) else (WY g g.E.length i (uG g.ins i).actor (uG g.ins i).port,2)
def gZ (g:GG) (i:Nat):Int × Nat:=if vQ (uG g.outs i).name=false then (82,0) else if wW g g.A.length g.ins.length i (uG g.outs i).name=true then (83,0) else (fG g g.E.length i (uG g.outs i).actor (uG g.outs i).port,1)
def PS (g:GG) (i:Nat):Bool:=(List.range (dI g i)).any (fun p=> !fH g g.E.length g.ins.length (i:Int) (p:Int))||(List.range (nG g i)).any (fun p=> !oN g g.E.length g.outs.length (i:Int) (p:Int))
def mA (g:GG) (i:Nat):Int × Nat:=(if PS g i=true then 87 else 0,0)
def xV:Nat->Nat->(Nat->Int × Nat)->Nat->FL
 |0,_,_,_=>fl0
 |n+1,i,f,k=>if (f i).1≠0 then ⟨(f i).1,k,i,(f i).2⟩ else xV n (i+1) f k
def zVJ (g:GG):FL:=
 if (rP g).code≠0 then rP g else
 if (xV g.A.length 0 (fun i=>(wG g i,0)) 1).code≠0 then xV g.A.length 0 (fun i=>(wG g i,0)) 1 else
 if (xV g.E.length 0 (uR g) 2).code≠0 then xV g.E.length 0 (uR g) 2 else
 if (xV g.ins.length 0 (FH g) 3).code≠0 then xV g.ins.length 0 (FH g) 3 else
 if (xV g.outs.length 0 (gZ g) 4).code≠0 then xV g.outs.length 0 (gZ g) 4 else
 xV g.A.length 0 (mA g) 1
structure nF (g : GG) (s : LS) (na ne ni no : Nat) : Prop where
 ns:∀x,(0<s.ns.count x)=(wW g na ni no x=true)
 lI:s.I.length=na
 lO:s.O.length=na
 rI:∀a,a<na->(xM s.I a).length=dI g a
 rO:∀a,a<na->(xM s.O a).length=nG g a
 bI:∀a p:Nat,a<na->p<dI g a->nS s.I a p=fH g ne ni (a:Int) (p:Int)
 bO:∀a p:Nat,a<na->p<nG g a->nS s.O a p=oN g ne no (a:Int) (p:Int)
theorem PQ (g:GG):nF g ⟨[],[],[]⟩ 0 0 0 0:=
 ⟨fun x=>by simp[wW],rfl,rfl,fun a h=>absurd h (Nat.not_lt_zero _),fun a h=>absurd h (Nat.not_lt_zero _),fun a p h=>absurd h (Nat.not_lt_zero _),fun a p h=>absurd h (Nat.not_lt_zero _)⟩
theorem zNT {As:List GA} {i:Nat} (h:i<As.length):As.take (i+1)=As.take i++[yX As i]:=by
 rw[List.take_add_one,List.getElem?_eq_getElem h];unfold yX;rw[List.getD_eq_getElem?_getD,List.getElem?_eq_getElem h];rfl
theorem zVI {As:List GE} {i:Nat} (h:i<As.length):As.take (i+1)=As.take i++[yD As i]:=by
 rw[List.take_add_one,List.getElem?_eq_getElem h];unfold yD;rw[List.getD_eq_getElem?_getD,List.getElem?_eq_getElem h];rfl
theorem UI {As:List GP} {i:Nat} (h:i<As.length):As.take (i+1)=As.take i++[uG As i]:=by
 rw[List.take_add_one,List.getElem?_eq_getElem h];unfold uG;rw[List.getD_eq_getElem?_getD,List.getElem?_eq_getElem h];rfl
theorem zQR {g:GG} {i ni no:Nat} (h:i<g.A.length) (x:List UInt8):(wW g (i+1) ni no x=true)=(wW g i ni no x=true\/(yX g.A i).name=x):=by
 unfold wW;rw[zNT h,List.any_append];simp only[List.any_cons,List.any_nil,Bool.or_false,Bool.or_eq_true,beq_iff_eq,eq_iff_iff]
 constructor
 ·rintro ((h|h)|h)
  ·exact .inl (.inl h)
  ·exact .inr h
  exact .inl (.inr h)
 rintro ((h|h)|h)
 ·exact .inl (.inl h)
 ·exact .inr h
 exact .inl (.inr h)
theorem zQQ {g:GG} {i na no:Nat} (h:i<g.ins.length) (x:List UInt8):(wW g na (i+1) no x=true)=(wW g na i no x=true\/(uG g.ins i).name=x):=by
 unfold wW;rw[UI h,List.any_append];simp only[List.any_cons,List.any_nil,Bool.or_false,Bool.or_eq_true,beq_iff_eq,eq_iff_iff]
 constructor
 ·rintro (h|((h|h)|h))
  ·exact .inl (.inl h)
  ·exact .inl (.inr (.inl h))
  ·exact .inr h
  exact .inl (.inr (.inr h))
 rintro ((h|(h|h))|h)
 ·exact .inl h
 ·exact .inr (.inl (.inl h))
 ·exact .inr (.inr h)
 exact .inr (.inl (.inr h))
theorem zQP {g:GG} {i na ni:Nat} (h:i<g.outs.length) (x:List UInt8):(wW g na ni (i+1) x=true)=(wW g na ni i x=true\/(uG g.outs i).name=x):=by
 unfold wW;rw[UI h,List.any_append];simp only[List.any_cons,List.any_nil,Bool.or_false,Bool.or_eq_true,beq_iff_eq,eq_iff_iff]
 constructor
 ·rintro (h|(h|(h|h)))
  ·exact .inl (.inl h)
  ·exact .inl (.inr (.inl h))
  ·exact .inl (.inr (.inr h))
  exact .inr h
 rintro ((h|(h|h))|h)
 ·exact .inl h
 ·exact .inr (.inl h)
 ·exact .inr (.inr (.inl h))
 exact .inr (.inr (.inr h))
theorem zQO {g:GG} {i no:Nat} (h:i<g.E.length) (a p:Int):oN g (i+1) no a p=(oN g i no a p||((yD g.E i).f==a&&(yD g.E i).fp==p)):=by
 unfold oN;rw[zVI h,List.any_append];simp only[List.any_cons,List.any_nil,Bool.or_false];generalize (g.E.take i).any _=x;generalize (g.outs.take no).any _=y;generalize (_&&_)=z
 cases x<;>cases y<;>cases z<;>rfl
theorem zNS {g:GG} {i no:Nat} (h:i<g.E.length) (a p:Int):fH g (i+1) no a p=(fH g i no a p||((yD g.E i).t==a&&(yD g.E i).tp==p)):=by
 unfold fH;rw[zVI h,List.any_append];simp only[List.any_cons,List.any_nil,Bool.or_false];generalize (g.E.take i).any _=x;generalize (g.ins.take no).any _=y;generalize (_&&_)=z
 cases x<;>cases y<;>cases z<;>rfl
theorem zQN {g:GG} {i ne:Nat} (h:i<g.outs.length) (a p:Int):oN g ne (i+1) a p=(oN g ne i a p||((uG g.outs i).actor==a&&(uG g.outs i).port==p)):=by
 unfold oN;rw[UI h,List.any_append];simp only[List.any_cons,List.any_nil,Bool.or_false,Bool.or_assoc]
theorem zNR {g:GG} {i ne:Nat} (h:i<g.ins.length) (a p:Int):fH g ne (i+1) a p=(fH g ne i a p||((uG g.ins i).actor==a&&(uG g.ins i).port==p)):=by
 unfold fH;rw[UI h,List.any_append];simp only[List.any_cons,List.any_nil,Bool.or_false,Bool.or_assoc]
theorem zQM {R:List (List Bool)} {a p:Nat} (ha:a<R.length) (hp:p<(xM R a).length) (b q:Nat):nS (aU R a p) b q=(nS R b q||(decide (a=b)&&decide (p=q))):=by
 unfold nS;rw[mB b ha]
 by_cases e:b=a
 ·subst e
  rw[if_pos rfl,decide_eq_true rfl,Bool.true_and]
  by_cases e2:q=p
  ·subst e2
   rw[List.getD_eq_getElem?_getD,List.getElem?_set_self hp,decide_eq_true rfl,Bool.or_true];rfl
  rw[List.getD_eq_getElem?_getD,List.getElem?_set_ne (Ne.symm e2),decide_eq_false (Ne.symm e2),Bool.or_false,List.getD_eq_getElem?_getD]
 rw[if_neg e,decide_eq_false (Ne.symm e),Bool.false_and,Bool.or_false]
theorem zVH {R:List (List Bool)} {a p:Nat} (ha:a<R.length) (b:Nat):(xM (aU R a p) b).length=(xM R b).length:=by
 rw[mB b ha]
 by_cases e:b=a
 ·subst e;rw[if_pos rfl,List.length_set]
 rw[if_neg e]
theorem FG {R:List (List Bool)} {n b q:Nat} (hb:b<R.length+1):nS (R++[List.replicate n false]) b q=if b<R.length then nS R b q else false:=by
 unfold nS
 by_cases h:b<R.length
 ·rw [if_pos h,sJ h]
 rw[if_neg h,show b=R.length by omega,oP,List.getD_eq_getElem?_getD]
 by_cases h2:q<n
 ·rw [List.getElem?_replicate,if_pos h2];rfl
 rw[List.getElem?_replicate,if_neg h2];rfl
theorem FE (g:GG) (a p:Int):fH g 0 0 a p=false/\oN g 0 0 a p=false:=by
 unfold fH oN;simp
theorem dV (g:GG):∀(n i:Nat) (s:LS),n+i=g.A.length->nF g s i 0 0 0->
 (xF (g.A.drop i) i s).1=xV n i (fun i=>(wG g i,0)) 1/\((xF (g.A.drop i) i s).1.code=0->nF g (xF (g.A.drop i) i s).2 g.A.length 0 0 0)
 |0,i,s,hn,hm=>by
  have e:g.A.drop i=[]:=List.drop_eq_nil_of_le (by omega);rw[e]
  have e2:i=g.A.length:=by omega
  subst e2;exact ⟨rfl,fun _=>hm⟩
 |n+1,i,s,hn,hm=>by
  have hi:i<g.A.length:=by omega
  rw[zVM hi];have e:xF (yX g.A i::g.A.drop (i+1)) i s=if (zK s.ns (yX g.A i).name).1=0 then (if (xI ⟨(zK s.ns (yX g.A i).name).2,s.I,s.O⟩ (yX g.A i).tag (yX g.A i).params).1=0 then xF (g.A.drop (i+1)) (i+1) (xI ⟨(zK s.ns (yX g.A i).name).2,s.I,s.O⟩ (yX g.A i).tag (yX g.A i).params).2 else (⟨(xI ⟨(zK s.ns (yX g.A i).name).2,s.I,s.O⟩ (yX g.A i).tag (yX g.A i).params).1,1,i,0⟩,s)) else (⟨(zK s.ns (yX g.A i).name).1,1,i,0⟩,s):=rfl;have l:xV (n+1) i (fun i=>(wG g i,0)) 1=if wG g i≠0 then ⟨wG g i,1,i,0⟩ else xV n (i+1) (fun i=>(wG g i,0)) 1:=rfl;have ht:(nU (yX g.A i).tag (yX g.A i).params).1.length=dI g i:=rfl;have ht2:(nU (yX g.A i).tag (yX g.A i).params).2.1.length=nG g i:=rfl;rw[e,l]
  by_cases h1:vQ (yX g.A i).name=true
  ·have hns:=hm.ns (yX g.A i).name
   by_cases h2:0<s.ns.count (yX g.A i).name
   ·have h3:wW g i 0 0 (yX g.A i).name=true:=by rw[<- hns];exact h2
    have ae:zK s.ns (yX g.A i).name=(83,(yX g.A i).name::s.ns):=by unfold zK;rw[if_pos h1,if_pos h2]
    have ac:wG g i=83:=by unfold wG;rw[if_neg (by rw[h1];decide),if_pos h3]
    rw[ae,ac];exact ⟨rfl,fun h=>absurd h (by show ¬(83:Int)=0;decide)⟩
   have h3:¬wW g i 0 0 (yX g.A i).name=true:=by rw[<- hns];exact h2
   have ae:zK s.ns (yX g.A i).name=(0,(yX g.A i).name::s.ns):=by unfold zK;rw[if_pos h1,if_neg h2]
   have ac:wG g i=(nU (yX g.A i).tag (yX g.A i).params).2.2:=by unfold wG;rw[if_neg (by rw[h1];decide),if_neg h3]
   rw[ae,ac,if_pos rfl]
   by_cases h4:(nU (yX g.A i).tag (yX g.A i).params).2.2=0
   ·have ao:xI ⟨(yX g.A i).name::s.ns,s.I,s.O⟩ (yX g.A i).tag (yX g.A i).params=(0,⟨(yX g.A i).name::s.ns,s.I++[List.replicate (dI g i) false],s.O++[List.replicate (nG g i) false]⟩):=by unfold xI;rw[if_pos h4];rfl
    rw[ao,if_pos rfl,h4,if_neg (by decide)];refine dV g n (i+1) _ (by omega) ⟨fun x=>?_,?_,?_,fun a ha=>?_,fun a ha=>?_,fun a p ha hp=>?_,fun a p ha hp=>?_⟩
    ·rw [zQR hi,<-hm.ns x,List.count_cons]
     by_cases e:(yX g.A i).name=x
     ·simp [e]
     simp[e]
    ·simp [hm.lI]
    ·simp [hm.lO]
    ·by_cases h:a<i
     ·rw [sJ (by rw[hm.lI];exact h)];exact hm.rI a h
     have e:a=s.I.length:=by rw[hm.lI];omega
     rw[e,oP,List.length_replicate,<-hm.lI]
    ·by_cases h:a<i
     ·rw [sJ (by rw[hm.lO];exact h)];exact hm.rO a h
     have e:a=s.O.length:=by rw[hm.lO];omega
     rw[e,oP,List.length_replicate,<-hm.lO]
    ·rw [FG (by rw[hm.lI];exact ha),hm.lI]
     by_cases h:a<i
     ·rw [if_pos h];exact hm.bI a p h hp
     rw[if_neg h,(FE g _ _).1]
    rw[FG (by rw[hm.lO];exact ha),hm.lO]
    by_cases h:a<i
    ·rw [if_pos h];exact hm.bO a p h hp
    rw[if_neg h,(FE g _ _).2]
   have ao:xI ⟨(yX g.A i).name::s.ns,s.I,s.O⟩ (yX g.A i).tag (yX g.A i).params=((nU (yX g.A i).tag (yX g.A i).params).2.2,⟨(yX g.A i).name::s.ns,s.I,s.O⟩):=by unfold xI;rw[if_neg h4]
   rw[ao,if_neg h4,if_pos h4];exact ⟨rfl,fun h=>absurd h h4⟩
  have h1':vQ (yX g.A i).name=false:=by simpa using h1
  have ae:zK s.ns (yX g.A i).name=(82,s.ns):=by unfold zK;rw[if_neg h1]
  have ac:wG g i=82:=by unfold wG;rw[if_pos h1']
  rw[ae,ac];exact ⟨rfl,fun h=>absurd h (by show ¬(82:Int)=0;decide)⟩
theorem PO {g:GG} {s:LS} {ne ni no:Nat} (h:nF g s g.A.length ne ni no) (a p:Int):zJ s.O a p=fG g ne no a p:=by
 unfold zJ fG PV;rw[h.lO]
 by_cases h1:a<0\/(g.A.length:Int)<=a
 ·rw [if_pos h1,if_pos h1]
 rw[if_neg h1,if_neg h1,h.rO a.toNat (by omega)]
 by_cases h2:p<0\/(nG g a.toNat:Int)<=p
 ·rw [if_pos h2,if_pos h2]
 rw[if_neg h2,if_neg h2,h.bO a.toNat p.toNat (by omega) (by omega),Int.toNat_of_nonneg (by omega),Int.toNat_of_nonneg (by omega)]
theorem FB {g:GG} {s:LS} {ne ni no:Nat} (h:nF g s g.A.length ne ni no) (a p:Int):zJ s.I a p=WY g ne ni a p:=by
 unfold zJ WY PV;rw[h.lI]
 by_cases h1:a<0\/(g.A.length:Int)<=a
 ·rw [if_pos h1,if_pos h1]
 rw[if_neg h1,if_neg h1,h.rI a.toNat (by omega)]
 by_cases h2:p<0\/(dI g a.toNat:Int)<=p
 ·rw [if_pos h2,if_pos h2]
 rw[if_neg h2,if_neg h2,h.bI a.toNat p.toNat (by omega) (by omega),Int.toNat_of_nonneg (by omega),Int.toNat_of_nonneg (by omega)]
theorem zVG {g:GG} {a p:Int} {n:Nat} {t:Bool} (h:PV g a p n t=0):0<=a/\a<(g.A.length:Int)/\0<=p/\p<(n:Int)/\t=false:=by
 unfold PV at h
 by_cases h1:a<0\/(g.A.length:Int)<=a
 ·rw [if_pos h1]at h;exact qD h
 rw[if_neg h1]at h
 by_cases h2:p<0\/(n:Int)<=p
 ·rw [if_pos h2]at h;exact qD h
 rw[if_neg h2]at h
 cases t
 ·exact ⟨by omega,by omega,by omega,by omega,rfl⟩
 rw[if_pos rfl]at h;exact qD h
theorem zVF {a:Int} {b:Nat} (h:0<=a):decide (a.toNat=b)=(a==(b:Int)):=by
 by_cases e:a=(b:Int)
 ·subst e;simp
 have h2:¬a.toNat=b:=by omega
 simp[e,h2]
theorem kV {R:List (List Bool)} {a p:Int} (h:zJ R a p=0) (b q:Nat):nS (yL R a p) b q=(nS R b q||(a==(b:Int)&&p==(q:Int))):=by
 unfold yL;rw[if_pos h];unfold zJ at h
 by_cases h1:a<0\/(R.length:Int)<=a
 ·rw [if_pos h1]at h;exact qD h
 rw[if_neg h1]at h
 by_cases h2:p<0\/((xM R a.toNat).length:Int)<=p
 ·rw [if_pos h2]at h;exact qD h
 rw[zQM (by omega) (by omega),zVF (by omega),zVF (by omega)]
theorem kU {R:List (List Bool)} {a p:Int} (h:zJ R a p=0) (b:Nat):(xM (yL R a p) b).length=(xM R b).length:=by
 unfold yL;rw[if_pos h];unfold zJ at h
 by_cases h1:a<0\/(R.length:Int)<=a
 ·rw [if_pos h1]at h;exact qD h
 exact zVH (by omega) b
theorem aM (g:GG):∀(n i:Nat) (s:LS),n+i=g.E.length->nF g s g.A.length i 0 0->
 (vX (g.E.drop i) i s).1=xV n i (uR g) 2/\((vX (g.E.drop i) i s).1.code=0->nF g (vX (g.E.drop i) i s).2 g.A.length g.E.length 0 0)
 |0,i,s,hn,hm=>by
  have e:g.E.drop i=[]:=List.drop_eq_nil_of_le (by omega);rw[e]
  have e2:i=g.E.length:=by omega
  subst e2;exact ⟨rfl,fun _=>hm⟩
 |n+1,i,s,hn,hm=>by
  have hi:i<g.E.length:=by omega
  rw[zVL hi];obtain ⟨x,hx⟩:∃x,yD g.E i=x:=⟨_,rfl⟩
  have e:vX (yD g.E i::g.E.drop (i+1)) i s=if zJ s.O x.f x.fp=0 then (if zJ s.I x.t x.tp=0 then (if 256<x.start.length then (⟨88,2,i,0⟩,s) else vX (g.E.drop (i+1)) (i+1) ⟨s.ns,yL s.I x.t x.tp,yL s.O x.f x.fp⟩) else (⟨zJ s.I x.t x.tp,2,i,2⟩,s)) else (⟨zJ s.O x.f x.fp,2,i,1⟩,s):=by subst hx;rfl
  have l:xV (n+1) i (uR g) 2=if (uR g i).1≠0 then ⟨(uR g i).1,2,i,(uR g i).2⟩ else xV n (i+1) (uR g) 2:=rfl;have q1:=PO hm x.f x.fp;have q2:=FB hm x.t x.tp
  have le:uR g i=if zJ s.O x.f x.fp≠0 then (zJ s.O x.f x.fp,1) else if zJ s.I x.t x.tp≠0 then (zJ s.I x.t x.tp,2) else if 256<x.start.length then (88,0) else (0,0):=by
   unfold uR;rw[hx,q1,q2]
  rw[e,l]
  by_cases h1:zJ s.O x.f x.fp=0
  ·rw [if_pos h1]
   have n1:¬zJ s.O x.f x.fp≠0:=fun h=>h h1
   by_cases h2:zJ s.I x.t x.tp=0
   ·rw [if_pos h2]
    have n2:¬zJ s.I x.t x.tp≠0:=fun h=>h h2
    by_cases h3:256<x.start.length
    ·have ec:uR g i=(88,0):=by rw[le,if_neg n1,if_neg n2,if_pos h3]
     rw[if_pos h3,ec];exact ⟨rfl,fun h=>absurd h (by show ¬(88:Int)=0;decide)⟩
    have ec:uR g i=(0,0):=by rw[le,if_neg n1,if_neg n2,if_neg h3]
    rw[if_neg h3,ec,if_neg (by decide)];refine aM g n (i+1) _ (by omega) ⟨fun y=>hm.ns y,?_,?_,fun a ha=>?_,fun a ha=>?_,fun a p ha hp=>?_,fun a p ha hp=>?_⟩
    ·show (yL _ _ _).length=_
     rw[tC];exact hm.lI
    ·show (yL _ _ _).length=_
     rw[tC];exact hm.lO
    ·show (xM (yL _ _ _) a).length=_
     rw[kU h2];exact hm.rI a ha
    ·show (xM (yL _ _ _) a).length=_
     rw[kU h1];exact hm.rO a ha
    ·show nS (yL _ _ _) a p=_
     rw[kV h2,zNS hi,hm.bI a p ha hp,hx]
    show nS (yL _ _ _) a p=_;rw[kV h1,zQO hi,hm.bO a p ha hp,hx]
   have ec:uR g i=(zJ s.I x.t x.tp,2):=by rw[le,if_neg n1,if_pos h2]
   rw[if_neg h2,ec,if_pos h2];exact ⟨rfl,fun h=>absurd h h2⟩
  have ec:uR g i=(zJ s.O x.f x.fp,1):=by rw[le,if_pos h1]
  rw[if_neg h1,ec,if_pos h1];exact ⟨rfl,fun h=>absurd h h1⟩
theorem WX {ns:List (List UInt8)} {x y:List UInt8} {P Q:Prop} (h:(0<ns.count y)=P) (hQ:Q=(P\/x=y)):(0<(x::ns).count y)=Q:=by
 rw[hQ,<-h,List.count_cons]
 by_cases e:x=y
 ·simp [e]
 simp[e]
theorem PM (g:GG):∀(n i:Nat) (s:LS),n+i=g.ins.length->nF g s g.A.length g.E.length i 0->
 (nR (g.ins.drop i) i s).1=xV n i (FH g) 3/\((nR (g.ins.drop i) i s).1.code=0->nF g (nR (g.ins.drop i) i s).2 g.A.length g.E.length g.ins.length 0)
 |0,i,s,hn,hm=>by
  have e:g.ins.drop i=[]:=List.drop_eq_nil_of_le (by omega);rw[e]
  have e2:i=g.ins.length:=by omega
  subst e2;exact ⟨rfl,fun _=>hm⟩
 |n+1,i,s,hn,hm=>by
  have hi:i<g.ins.length:=by omega
  rw[UO hi];obtain ⟨x,hx⟩:∃x,uG g.ins i=x:=⟨_,rfl⟩
  have e:nR (uG g.ins i::g.ins.drop (i+1)) i s=if (zK s.ns x.name).1=0 then (if zJ s.I x.actor x.port=0 then nR (g.ins.drop (i+1)) (i+1) ⟨(zK s.ns x.name).2,yL s.I x.actor x.port,s.O⟩ else (⟨zJ s.I x.actor x.port,3,i,2⟩,s)) else (⟨(zK s.ns x.name).1,3,i,0⟩,s):=by subst hx;rfl
  have l:xV (n+1) i (FH g) 3=if (FH g i).1≠0 then ⟨(FH g i).1,3,i,(FH g i).2⟩ else xV n (i+1) (FH g) 3:=rfl;have q2:=FB hm x.actor x.port
  have le:FH g i=if vQ x.name=false then (82,0) else if wW g g.A.length i 0 x.name=true then (83,0) else (zJ s.I x.actor x.port,2):=by
   unfold FH;rw[hx,q2]
  rw[e,l,le]
  by_cases h1:vQ x.name=true
  ·have hns:=hm.ns x.name
   rw[if_neg (by rw[h1];decide:¬vQ x.name=false)]
   by_cases h2:0<s.ns.count x.name
   ·have h3:wW g g.A.length i 0 x.name=true:=by rw[<- hns];exact h2
    have ae:zK s.ns x.name=(83,x.name::s.ns):=by unfold zK;rw[if_pos h1,if_pos h2]
    rw[ae,if_pos h3];exact ⟨rfl,fun h=>absurd h (by show ¬(83:Int)=0;decide)⟩
   have h3:¬wW g g.A.length i 0 x.name=true:=by rw[<- hns];exact h2
   have ae:zK s.ns x.name=(0,x.name::s.ns):=by unfold zK;rw[if_pos h1,if_neg h2]
   rw[ae,if_neg h3,if_pos rfl]
   by_cases h4:zJ s.I x.actor x.port=0
   ·rw [if_pos h4,if_neg (by show ¬zJ s.I x.actor x.port≠0;rw[h4];decide)]
    refine PM g n (i+1) _ (by omega) ⟨fun y=>?_,?_,hm.lO,fun a ha=>?_,hm.rO,fun a p ha hp=>?_,hm.bO⟩
    ·exact WX (hm.ns y) (by rw[zQQ hi,hx])
    ·show (yL _ _ _).length=_
     rw[tC];exact hm.lI
    ·show (xM (yL _ _ _) a).length=_
     rw[kU h4];exact hm.rI a ha
    show nS (yL _ _ _) a p=_;rw[kV h4,zNR hi,hm.bI a p ha hp,hx]
   rw[if_neg h4,if_pos h4];exact ⟨rfl,fun h=>absurd h h4⟩
  have h1':vQ x.name=false:=by simpa using h1
  have ae:zK s.ns x.name=(82,s.ns):=by unfold zK;rw[if_neg h1]
  rw[ae,if_pos h1'];exact ⟨rfl,fun h=>absurd h (by show ¬(82:Int)=0;decide)⟩
theorem WW (g:GG):∀(n i:Nat) (s:LS),n+i=g.outs.length->nF g s g.A.length g.E.length g.ins.length i->
 (tE (g.outs.drop i) i s).1=xV n i (gZ g) 4/\((tE (g.outs.drop i) i s).1.code=0->nF g (tE (g.outs.drop i) i s).2 g.A.length g.E.length g.ins.length g.outs.length)
 |0,i,s,hn,hm=>by
  have e:g.outs.drop i=[]:=List.drop_eq_nil_of_le (by omega);rw[e]
  have e2:i=g.outs.length:=by omega
  subst e2;exact ⟨rfl,fun _=>hm⟩
 |n+1,i,s,hn,hm=>by
  have hi:i<g.outs.length:=by omega
  rw[UO hi];obtain ⟨x,hx⟩:∃x,uG g.outs i=x:=⟨_,rfl⟩
  have e:tE (uG g.outs i::g.outs.drop (i+1)) i s=if (zK s.ns x.name).1=0 then (if zJ s.O x.actor x.port=0 then tE (g.outs.drop (i+1)) (i+1) ⟨(zK s.ns x.name).2,s.I,yL s.O x.actor x.port⟩ else (⟨zJ s.O x.actor x.port,4,i,1⟩,s)) else (⟨(zK s.ns x.name).1,4,i,0⟩,s):=by subst hx;rfl
  have l:xV (n+1) i (gZ g) 4=if (gZ g i).1≠0 then ⟨(gZ g i).1,4,i,(gZ g i).2⟩ else xV n (i+1) (gZ g) 4:=rfl;have q2:=PO hm x.actor x.port
  have le:gZ g i=if vQ x.name=false then (82,0) else if wW g g.A.length g.ins.length i x.name=true then (83,0) else (zJ s.O x.actor x.port,1):=by
   unfold gZ;rw[hx,q2]
  rw[e,l,le]
  by_cases h1:vQ x.name=true
  ·have hns:=hm.ns x.name
   rw[if_neg (by rw[h1];decide:¬vQ x.name=false)]
   by_cases h2:0<s.ns.count x.name
   ·have h3:wW g g.A.length g.ins.length i x.name=true:=by rw[<- hns];exact h2
    have ae:zK s.ns x.name=(83,x.name::s.ns):=by unfold zK;rw[if_pos h1,if_pos h2]
    rw[ae,if_pos h3];exact ⟨rfl,fun h=>absurd h (by show ¬(83:Int)=0;decide)⟩
   have h3:¬wW g g.A.length g.ins.length i x.name=true:=by rw[<- hns];exact h2
   have ae:zK s.ns x.name=(0,x.name::s.ns):=by unfold zK;rw[if_pos h1,if_neg h2]
   rw[ae,if_neg h3,if_pos rfl]
   by_cases h4:zJ s.O x.actor x.port=0
   ·rw [if_pos h4,if_neg (by show ¬zJ s.O x.actor x.port≠0;rw[h4];decide)]
    refine WW g n (i+1) _ (by omega) ⟨fun y=>?_,hm.lI,?_,hm.rI,fun a ha=>?_,hm.bI,fun a p ha hp=>?_⟩
    ·exact WX (hm.ns y) (by rw[zQP hi,hx])
    ·show (yL _ _ _).length=_
     rw[tC];exact hm.lO
    ·show (xM (yL _ _ _) a).length=_
     rw[kU h4];exact hm.rO a ha
    show nS (yL _ _ _) a p=_;rw[kV h4,zQN hi,hm.bO a p ha hp,hx]
   rw[if_neg h4,if_pos h4];exact ⟨rfl,fun h=>absurd h h4⟩
  have h1':vQ x.name=false:=by simpa using h1
  have ae:zK s.ns x.name=(82,s.ns):=by unfold zK;rw[if_neg h1]
  rw[ae,if_pos h1'];exact ⟨rfl,fun h=>absurd h (by show ¬(82:Int)=0;decide)⟩
theorem aL {l:List Bool} {n:Nat} {f:Nat->Bool} (hl:l.length=n) (h:∀p,p<n->l.getD p false=f p):l.contains false=(List.range n).any (fun p=> !f p):=by
 rw[Bool.eq_iff_iff,List.contains_iff_mem,List.any_eq_true]
 constructor
 ·intro hm
  obtain ⟨k,hk,e⟩:=List.mem_iff_getElem.1 hm;refine ⟨k,List.mem_range.2 (by omega),?_⟩
  rw[<- h k (by omega),List.getD_eq_getElem?_getD,List.getElem?_eq_getElem hk,e];rfl
 rintro ⟨k,hk,e⟩
 have hk':=List.mem_range.1 hk;have h2:=h k hk';rw[List.getD_eq_getElem?_getD,List.getElem?_eq_getElem (by omega)]at h2
 have:f k=false:=by simpa using e
 rw[this]at h2;exact List.mem_iff_getElem.2 ⟨k,by omega,h2⟩
theorem WV (g:GG) {s:LS} (hm:nF g s g.A.length g.E.length g.ins.length g.outs.length):∀(n i:Nat),n+i=g.A.length->mC s.I s.O n i=xV n i (mA g) 1
 |0,_,_=>rfl
 |n+1,i,hn=>by
  have hi:i<g.A.length:=by omega
  have e1:iC s.I i=(List.range (dI g i)).any (fun p=> !fH g g.E.length g.ins.length (i:Int) (p:Int)):=aL (hm.rI i hi) (fun p hp=>hm.bI i p hi hp);have e2:iC s.O i=(List.range (nG g i)).any (fun p=> !oN g g.E.length g.outs.length (i:Int) (p:Int)):=aL (hm.rO i hi) (fun p hp=>hm.bO i p hi hp);have e:mC s.I s.O (n+1) i=if iC s.I i=true\/iC s.O i=true then ⟨87,1,i,0⟩ else mC s.I s.O n (i+1):=rfl;have l:xV (n+1) i (mA g) 1=if (mA g i).1≠0 then ⟨(mA g i).1,1,i,(mA g i).2⟩ else xV n (i+1) (mA g) 1:=rfl;rw[e,l];unfold mA PS;rw[e1,e2];generalize List.any (List.range (dI g i)) _=x;generalize List.any (List.range (nG g i)) _=y;have r:=WV g hm n (i+1) (by omega);unfold mA PS at r
  cases x<;>cases y<;>simp[r]
theorem JW (g:GG):yH g=zVJ g:=by
 have hA:=dV g g.A.length 0 ⟨[],[],[]⟩ (by omega) (PQ g);rw[List.drop_zero]at hA;unfold yH zVJ
 by_cases h0:(rP g).code≠0
 ·rw [if_pos h0,if_pos h0]
 rw[if_neg h0,if_neg h0];simp only;rw[hA.1]
 by_cases h1:(xV g.A.length 0 (fun i=>(wG g i,0)) 1).code≠0
 ·rw [if_pos h1,if_pos h1]
 rw[if_neg h1,if_neg h1];have hE:=aM g g.E.length 0 _ (by omega) (hA.2 (by rw[hA.1];simpa using h1));rw[List.drop_zero]at hE;rw[hE.1]
 by_cases h2:(xV g.E.length 0 (uR g) 2).code≠0
 ·rw [if_pos h2,if_pos h2]
 rw[if_neg h2,if_neg h2];have hI:=PM g g.ins.length 0 _ (by omega) (hE.2 (by rw[hE.1];simpa using h2));rw[List.drop_zero]at hI;rw[hI.1]
 by_cases h3:(xV g.ins.length 0 (FH g) 3).code≠0
 ·rw [if_pos h3,if_pos h3]
 rw[if_neg h3,if_neg h3];have hO:=WW g g.outs.length 0 _ (by omega) (hI.2 (by rw[hI.1];simpa using h3));rw[List.drop_zero]at hO;rw[hO.1]
 by_cases h4:(xV g.outs.length 0 (gZ g) 4).code≠0
 ·rw [if_pos h4,if_pos h4]
 rw[if_neg h4,if_neg h4];exact WV g (hO.2 (by rw[hO.1];simpa using h4)) g.A.length 0 (by omega)
theorem sI {f:Nat->Int × Nat} {k:Nat} :∀(n i:Nat),(xV n i f k).code=0->∀j,i<=j->j<i+n->(f j).1=0
 |0,i,_,j,h1,h2=>by omega
 |n+1,i,h,j,h1,h2=>by
  have e:xV (n+1) i f k=if (f i).1≠0 then ⟨(f i).1,k,i,(f i).2⟩ else xV n (i+1) f k:=rfl;rw[e]at h
  by_cases h0:(f i).1≠0
  ·rw [if_pos h0]at h;exact absurd h h0
  rw[if_neg h0]at h
  by_cases hj:j=i
  ·subst hj;simpa using h0
  exact sI n (i+1) h j (by omega) (by omega)
theorem sH {f:Nat->Int × Nat} {k:Nat} :∀(n i:Nat),(∀ j,i<=j->j<i+n->(f j).1=0)->(xV n i f k).code=0
 |0,_,_=>rfl
 |n+1,i,h=>by
  have e:xV (n+1) i f k=if (f i).1≠0 then ⟨(f i).1,k,i,(f i).2⟩ else xV n (i+1) f k:=rfl;rw[e,if_neg (by rw[h i (Nat.le_refl _) (by omega)];decide)]
  exact sH n (i+1) fun j h1 h2=>h j (by omega) (by omega)
structure zVE (g : GG) : Prop where
 head:(rP g).code=0
 acts:∀i,i<g.A.length->wG g i=0
 E:∀i,i<g.E.length->(uR g i).1=0
 ins:∀i,i<g.ins.length->(FH g i).1=0
 outs:∀i,i<g.outs.length->(gZ g i).1=0
 opens:∀i,i<g.A.length->PS g i=false
theorem fF (g:GG):(yH g).code=0↔zVE g:=by
 rw[JW];unfold zVJ
 constructor
 ·intro h
  by_cases h0:(rP g).code≠0
  ·rw [if_pos h0]at h;exact absurd h h0
  rw[if_neg h0]at h
  by_cases h1:(xV g.A.length 0 (fun i=>(wG g i,0)) 1).code≠0
  ·rw [if_pos h1]at h;exact absurd h h1
  rw[if_neg h1]at h
  by_cases h2:(xV g.E.length 0 (uR g) 2).code≠0
  ·rw [if_pos h2]at h;exact absurd h h2
  rw[if_neg h2]at h
  by_cases h3:(xV g.ins.length 0 (FH g) 3).code≠0
  ·rw [if_pos h3]at h;exact absurd h h3
  rw[if_neg h3]at h
  by_cases h4:(xV g.outs.length 0 (gZ g) 4).code≠0
  ·rw [if_pos h4]at h;exact absurd h h4
  rw[if_neg h4]at h;refine ⟨by simpa using h0,fun i hi=>sI _ _ (by simpa using h1) i (Nat.zero_le _) (by omega),fun i hi=>sI _ _ (by simpa using h2) i (Nat.zero_le _) (by omega),fun i hi=>sI _ _ (by simpa using h3) i (Nat.zero_le _) (by omega),fun i hi=>sI _ _ (by simpa using h4) i (Nat.zero_le _) (by omega),fun i hi=>?_⟩
  have:=sI _ _ h i (Nat.zero_le _) (by omega);unfold mA at this
  cases hb:PS g i
  ·rfl
  rw[hb]at this;exact absurd this (by decide)
 intro h
 have e1:=sH (f:=fun i=>(wG g i,0)) (k:=1) g.A.length 0 fun j _ hj=>h.acts j (by omega)
 have e2:=sH (f:=uR g) (k:=2) g.E.length 0 fun j _ hj=>h.E j (by omega)
 have e3:=sH (f:=FH g) (k:=3) g.ins.length 0 fun j _ hj=>h.ins j (by omega)
 have e4:=sH (f:=gZ g) (k:=4) g.outs.length 0 fun j _ hj=>h.outs j (by omega)
 rw[if_neg (by rw[h.head];decide),if_neg (by rw[e1];decide),if_neg (by rw[e2];decide),if_neg (by rw[e3];decide),if_neg (by rw[e4];decide)]
 refine sH _ _ fun j _ hj=>?_
 unfold mA;rw[h.opens j (by omega)];rfl
theorem UH {g:GG} (h:(rP g).code=0):vQ g.name=true/\0<g.A.length/\g.A.length<=32/\g.E.length<=96/\g.ins.length<=16/\g.outs.length<=16:=by
 unfold rP at h
 split at h
 ·exact qD h
 rename_i h1
 split at h
 ·exact qD h
 split at h
 ·exact qD h
 split at h
 ·exact qD h
 split at h
 ·exact qD h
 split at h
 ·exact qD h
 exact ⟨by simpa using h1,by omega,by omega,by omega,by omega,by omega⟩
theorem PK {g:GG} {i:Nat} (h:wG g i=0):vQ (yX g.A i).name=true/\wW g i 0 0 (yX g.A i).name=false/\(nU (yX g.A i).tag (yX g.A i).params).2.2=0:=by
 unfold wG at h
 split at h
 ·exact qD h
 rename_i h1
 split at h
 ·exact qD h
 rename_i h2
 exact ⟨by simpa using h1,by simpa using h2,h⟩
structure zVD (g : GG) (e : GE) : Prop where
 f0:0<=e.f
 f1:e.f<(g.A.length:Int)
 fp0:0<=e.fp
 fp1:e.fp<(nG g e.f.toNat:Int)
 t0:0<=e.t
 t1:e.t<(g.A.length:Int)
 tp0:0<=e.tp
 tp1:e.tp<(dI g e.t.toNat:Int)
 st:e.start.length<=256
theorem EZ {g:GG} {i:Nat} (h:(uR g i).1=0):zVD g (yD g.E i)/\oN g i 0 (yD g.E i).f (yD g.E i).fp=false/\fH g i 0 (yD g.E i).t (yD g.E i).tp=false:=by
 unfold uR at h
 split at h
 ·rename_i h1;exact absurd h h1
 rename_i h1
 split at h
 ·rename_i h2;exact absurd h h2
 rename_i h2
 split at h
 ·exact qD h
 rename_i h3
 have e1:=zVG (show PV _ _ _ _ _=0 by simpa [fG] using h1);have e2:=zVG (show PV _ _ _ _ _=0 by simpa [WY] using h2);exact ⟨⟨e1.1,e1.2.1,e1.2.2.1,e1.2.2.2.1,e2.1,e2.2.1,e2.2.2.1,e2.2.2.2.1,by omega⟩,e1.2.2.2.2,e2.2.2.2.2⟩
end Go.Proofs.YtpohmekkdjdhmaaGreat
