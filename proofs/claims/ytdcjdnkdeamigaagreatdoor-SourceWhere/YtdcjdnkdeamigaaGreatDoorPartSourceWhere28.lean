/- Texts of one chain. -/
import Derived.Test.YtdcjdnkdeamigaaGreatDoorPartQ
import Derived.Test.YtdcjdnkdeamigaaGreatDoorPartSourceWhere26
import Derived.Test.YtdcjdnkdeamigaaGreatDoorPartSourceWhere27
set_option maxRecDepth 100000
set_option maxHeartbeats 4000000
namespace Go.Proofs.YtdcjdnkdeamigaaGreatDoor
open Go.ChangeShapes Go.WideShapes Go.ChangeAt Go.RowKit
def yI (As:List GA) (k:Nat):GA:=As.getD k ⟨[],0,[]⟩
def wK (Es:List GE) (k:Nat):GE:=Es.getD k ⟨0,0,0,0,[]⟩
def wN (Ps:List GP) (k:Nat):GP:=Ps.getD k ⟨[],0,0⟩
def IC (w:World) (a:Option Addr) (As:List GA):Prop:=As=[]\/∃b off,a=some ⟨b,off,none⟩/\∀k,k<As.length->w.cell? ⟨b,off+k*3,none⟩=some (.string (zW (yI As k).name))/\w.cell? ⟨b,off+k*3+1,none⟩=some (.int .u8 ((yI As k).tag:Int))/\(yI As k).tag<=255/\∃x c,w.cell? ⟨b,off+k*3+2,none⟩=some (.slice x (yI As k).params.length c)/\At w x (yI As k).params
def DG (w:World) (a:Option Addr) (Es:List GE):Prop:=Es=[]\/∃b off,a=some ⟨b,off,none⟩/\∀k,k<Es.length->w.cell? ⟨b,off+k*5,none⟩=some (.int .i64 (wK Es k).f)/\w.cell? ⟨b,off+k*5+1,none⟩=some (.int .i64 (wK Es k).fp)/\w.cell? ⟨b,off+k*5+2,none⟩=some (.int .i64 (wK Es k).t)/\w.cell? ⟨b,off+k*5+3,none⟩=some (.int .i64 (wK Es k).tp)/\∃x c,w.cell? ⟨b,off+k*5+4,none⟩=some (.slice x (wK Es k).start.length c)/\At w x (wK Es k).start
def nN (w:World) (a:Option Addr) (Ps:List GP):Prop:=Ps=[]\/∃b off,a=some ⟨b,off,none⟩/\∀k,k<Ps.length->w.cell? ⟨b,off+k*3,none⟩=some (.string (zW (wN Ps k).name))/\w.cell? ⟨b,off+k*3+1,none⟩=some (.int .i64 (wN Ps k).actor)/\w.cell? ⟨b,off+k*3+2,none⟩=some (.int .i64 (wN Ps k).port)
theorem xE {w w':World} {p:Addr} {v:Value} (hb:Below w.heap.size w w') (h:w.cell? p=some v):w'.cell? p=some v:=by rw[hb.cell (block_lt_of_cell h)];exact h
theorem IC.below {w w':World} {a:Option Addr} {As:List GA} (h:IC w a As) (hb:Below w.heap.size w w'):IC w' a As:=by
 rcases h with h|⟨b,off,e,h⟩
 ·exact .inl h
 refine .inr ⟨b,off,e,fun k hk=>?_⟩
 obtain ⟨h1,h2,h3,x,c,h4,h5⟩:=h k hk;exact ⟨xE hb h1,xE hb h2,h3,x,c,xE hb h4,h5.below hb⟩
theorem DG.below {w w':World} {a:Option Addr} {Es:List GE} (h:DG w a Es) (hb:Below w.heap.size w w'):DG w' a Es:=by
 rcases h with h|⟨b,off,e,h⟩
 ·exact .inl h
 refine .inr ⟨b,off,e,fun k hk=>?_⟩
 obtain ⟨h1,h2,h3,h4,x,c,h5,h6⟩:=h k hk;exact ⟨xE hb h1,xE hb h2,xE hb h3,xE hb h4,x,c,xE hb h5,h6.below hb⟩
theorem nN.below {w w':World} {a:Option Addr} {Ps:List GP} (h:nN w a Ps) (hb:Below w.heap.size w w'):nN w' a Ps:=by
 rcases h with h|⟨b,off,e,h⟩
 ·exact .inl h
 refine .inr ⟨b,off,e,fun k hk=>?_⟩
 obtain ⟨h1,h2,h3⟩:=h k hk;exact ⟨xE hb h1,xE hb h2,xE hb h3⟩
def WS (f:FL):Value:=.agg #[.int .i64 f.code,.int .u8 (f.kind:Int),.int .i64 (f.number:Int),.int .u8 (f.stop:Int)]
def UQ (F:Nat->Prop) (w:World) (b:Nat) (r:FL × LS) (e:Ending) (w':World):Prop:=
 e=.returned (WS r.1)/\(r.1.code=0->∃F',jX F' w' b r.2/\∀k,F' k->F k\/w.heap.size<=k)/\wL F w w'
theorem JR {As:List GA} {i:Nat} (h:i<As.length):As.drop i=yI As i::As.drop (i+1):=by
 unfold yI;rw[List.getD_eq_getElem?_getD,List.getElem?_eq_getElem h];exact List.drop_eq_getElem_cons h
theorem JQ {Es:List GE} {i:Nat} (h:i<Es.length):Es.drop i=wK Es i::Es.drop (i+1):=by
 unfold wK;rw[List.getD_eq_getElem?_getD,List.getElem?_eq_getElem h];exact List.drop_eq_getElem_cons h
theorem XI {Ps:List GP} {i:Nat} (h:i<Ps.length):Ps.drop i=wN Ps i::Ps.drop (i+1):=by
 unfold wN;rw[List.getD_eq_getElem?_getD,List.getElem?_eq_getElem h];exact List.drop_eq_getElem_cons h
theorem nM (ns:List (List UInt8)) (l:List UInt8):(zC ns l).2.length<=ns.length+1:=by
 unfold zC;split
 ·simp
 simp
theorem JO (s:LS) (t:Nat) (zs:List Int):(vP s t zs).2.ns=s.ns/\(vP s t zs).2.I.length<=s.I.length+1/\(vP s t zs).2.O.length<=s.O.length+1:=by
 unfold vP;split
 ·simp
 simp
theorem tD.chg {K:Nat} {F:Nat->Prop} {w w':World} (h:tD K w w') (hK:F K):wL F w w':=⟨h.os,h.tape,h.output,h.size,fun k hk hn=>h.block k hk (fun e=>hn (by rw[e];exact hK))⟩
theorem aK (F:Nat->Prop) (w0 w:World) (b:Nat) (s:LS) (a:Option Addr) (As:List GA) (cap:Nat) (h:jX F w b s) (hA:IC w0 a As) (hw:Below w0.heap.size w0 w) (hF:∀k,F k->w0.heap.size<=k) (hn:As.length<=32) (hns:s.ns.length<=100) (hI:s.I.length<=100) (hO:s.O.length<=100):
 Calls Tryz.prog 76 #[(qP b),.slice a As.length cap] w (UQ F w b (vM As 0 s)):=by
 have HA:=zZ hA;have HW:=zZ hw;have HF:=zZ hF;have sw:=hw.size;have ba:=(Below.refl w.heap.size w).alloc (Nat.le_refl _) (.cells #[.int .i64 0,.int .u8 0,.int .i64 0,.int .u8 0] 85);have BA:=zZ ba;have HL:=zZ (h.below ba);have HLO:=zZ h.low;have NR:=zZ (zL 85 w #[.int .i64 0,.int .u8 0,.int .i64 0,.int .u8 0])
 have hsz:(w.alloc (.cells #[.int .i64 0,.int .u8 0,.int .i64 0,.int .u8 0] 85)).heap.size=w.heap.size+1:=by simp
 have hnI:(As.length:Int)<=32:=by omega
 clear h hA hw hF ba
 go_enter Tryz.func76,Tryz.ntmps76
 go_upto_region 1 with fail
 generalize w.alloc (.cells #[.int .i64 0,.int .u8 0,.int .i64 0,.int .u8 0] 85)=W0 at *
 go_wp2
 go_loopg [10] As.length (fun gk v wr=>∃(i:Nat) (F':Nat->Prop) (s':LS),i<=As.length/\gk=As.length-i/\v=.int .i64 (i:Int)/\vM As 0 s=vM (As.drop i) i s'/\jX F' wr b s'/\(∀ k,F' k->F k\/w.heap.size+1<=k)/\wL F W0 wr/\s'.ns.length<=s.ns.length+i/\s'.I.length<=s.I.length+i/\s'.O.length<=s.O.length+i)
 case atStart=>exact ⟨0,F,s,Nat.zero_le _,rfl,rfl,rfl,HL.out,fun k hk=>.inl hk,wL.of_below (Below.refl _ _),Nat.le_refl _,Nat.le_refl _,Nat.le_refl _⟩
 case round=>
  obtain ⟨i,F',s',hi,rfl,rfl,hEq,hLed,hF',hChg,q1,q2,q3⟩:=hrel;have HEQ:=zZ hEq;have HLED:=zZ hLed;have HFF:=zZ hF';have HC:=zZ hChg;have swr:=hChg.size
  have HNR:Hid (¬ F' w.heap.size):=fun e=>(hF' _ e).elim (fun q=>by have:=HLO.out _ q;omega) (fun q=>by omega)
  have NRW:=zZ (NR.out.keep (hChg.block _ (by omega) (fun e=>by have:=HLO.out _ e;omega)))
  have BW:Hid (Below w0.heap.size w0 wr):=by
   have p1:=HW.out.trans (BA.out.mono sw);exact p1.trans (hChg.below HF.out p1.size)
  clear hEq hLed hF' hChg
  by_cases hlt:i<As.length
  ·have hii:(i:Int)<(As.length:Int):=by omega
   rcases HA.out with h0|⟨ab,ao,rfl,hc⟩
   ·rw [h0]at hlt;simp at hlt
   obtain ⟨a0',a1',a2,x,c,a3',a4⟩:=hc i hlt;have a0:=xE BW.out a0';have a1:=xE BW.out a1';have a3:=xE BW.out a3';clear a0' a1' a3'
   have HF0:Hid (∀ k,F' k->w0.heap.size<=k):=fun k hk=>(HFF.out k hk).elim (HF.out k) (fun q=>by omega)
   have HAT:=zZ a4;have HDR:=zZ (JR hlt);generalize yI As i=E at *;obtain ⟨nm,tg,ps⟩:=E;clear hc a4;obtain ⟨ce,hce⟩:∃q,(zC s'.ns nm).1=q:=⟨_,rfl⟩;have HCE:=zZ hce;have q4:=nM s'.ns nm
   by_cases h1:ce=0
   ·subst h1
    obtain ⟨co,hco⟩:∃q,(vP ⟨(zC s'.ns nm).2,s'.I,s'.O⟩ tg ps).1=q:=⟨_,rfl⟩;have HCO:=zZ hco;have q5:=JO ⟨(zC s'.ns nm).2,s'.I,s'.O⟩ tg ps
    by_cases h2:co=0
    ·subst h2
     go_wp2_with (first
      |(refine oC _ rfl (.tmp 6) (.tmp 14) rfl rfl wr.heap.size _ _ _ _ _ _ _ _ rfl rfl (zL 62 wr #[qE,.int .u8 0,qN]) ?_;intro w1 hNA hUA;have X1:=zZ hNA;have b1:=((Below.refl wr.heap.size wr).alloc (Nat.le_refl _) (.cells #[qE,.int .u8 0,qN] 62)).trans (hUA.below (Nat.le_refl _) (by simp));have B1:=zZ b1;have L1:=zZ (HLED.out.below b1);have R1:=zZ (NRW.out.below b1);have y0:w1.cell? ⟨wr.heap.size,0,none⟩=some (.string (zW nm)):=hNA.cell rfl;clear hNA hUA b1 a0 a1 a3)
      |(go_at_call 124;(with_reducible refine (UR F' w2 b _ _ tg x ps _ c L2.out a2 rfl AT2.out (by simp only;omega) (by simp only;omega)).mono ?_);rintro e w3 ⟨G,rfl,hL3,hG3,hC3⟩;have L3:=zZ hL3;have G3:=zZ hG3;have C3:=zZ hC3;clear hL3 hG3 hC3;have R3:=zZ (R2.out.keep (C3.out.block _ R2.out.lt (fun e=>HNR.out e)));rw[HCO.out];clear u0 u1 u2)
      |(go_at_call 123;(with_reducible refine (rU F' w1 b s' _ L1.out (by omega)).mono ?_);rintro e w2 ⟨rfl,hL2,hC2⟩;have L2:=zZ hL2;have C2:=zZ hC2;clear hL2 hC2;have X2:=zZ (X1.out.keep (C2.out.block _ X1.out.lt (fun e=>by have:=HLED.out.low _ e;omega)));have R2:=zZ (R1.out.keep (C2.out.block _ R1.out.lt (fun e=>HNR.out e)));rw[HCE.out];clear y0;have AT2:Hid (At w2 x ps):=(have p1:=BW.out.trans (B1.out.mono BW.out.size);HAT.out.below (p1.trans (C2.out.below HF0.out p1.size)));have u0:w2.cell? ⟨wr.heap.size,0,none⟩=some (.string (zW nm)):=X2.out.cell rfl;have u1:w2.cell? ⟨wr.heap.size,1,none⟩=some (.int .u8 (tg:Int)):=X2.out.cell rfl;have u2:w2.cell? ⟨wr.heap.size,2,none⟩=some (.slice x ps.length c):=X2.out.cell rfl))
     go_roundg (As.length-(i+1))
     case measure=>omega
     case rel=>
      refine ⟨i+1,G,_,by omega,rfl,by go_num,?_,L3.out,fun k hk=>(G3.out k hk).elim (HFF.out k) (fun q=>.inr (by have:=C2.out.size;have:=B1.out.size;omega)),?_,by rw[q5.1];show (zC s'.ns nm).2.length<=_;omega,by have h9:(vP ⟨(zC s'.ns nm).2,s'.I,s'.O⟩ tg ps).2.I.length<=s'.I.length+1:=q5.2.1;omega,by have h9:(vP ⟨(zC s'.ns nm).2,s'.I,s'.O⟩ tg ps).2.O.length<=s'.O.length+1:=q5.2.2;omega⟩
      ·rw [HEQ.out,HDR.out]
       show (if _ then _ else _)=_;rw[if_pos HCE.out,if_pos HCO.out]
      exact ((HC.out.trans' (wL.of_below B1.out)).trans C2.out fun k hk=>(HFF.out k hk).imp id (fun q=>by omega)).trans C3.out fun k hk=>(HFF.out k hk).imp id (fun q=>by omega)
    have e2:(co !=0)=true:=by simpa using h2
    have e3:¬co=0:=h2
    go_wp2_with (first
     |(refine zP _ rfl (.tmp 4) (.tmp 28) rfl rfl w.heap.size _ _ _ _ _ _ _ _ rfl rfl R3.out ?_;intro w9 hNF hUF;have NF:=zZ hNF;have UF:=zZ hUF;clear hNF hUF)
     |(refine oC _ rfl (.tmp 6) (.tmp 14) rfl rfl wr.heap.size _ _ _ _ _ _ _ _ rfl rfl (zL 62 wr #[qE,.int .u8 0,qN]) ?_;intro w1 hNA hUA;have X1:=zZ hNA;have b1:=((Below.refl wr.heap.size wr).alloc (Nat.le_refl _) (.cells #[qE,.int .u8 0,qN] 62)).trans (hUA.below (Nat.le_refl _) (by simp));have B1:=zZ b1;have L1:=zZ (HLED.out.below b1);have R1:=zZ (NRW.out.below b1);have y0:w1.cell? ⟨wr.heap.size,0,none⟩=some (.string (zW nm)):=hNA.cell rfl;clear hNA hUA b1 a0 a1 a3)
     |(go_at_call 124;(with_reducible refine (UR F' w2 b _ _ tg x ps _ c L2.out a2 rfl AT2.out (by simp only;omega) (by simp only;omega)).mono ?_);rintro e w3 ⟨G,rfl,hL3,hG3,hC3⟩;have L3:=zZ hL3;have G3:=zZ hG3;have C3:=zZ hC3;clear hL3 hG3 hC3;have R3:=zZ (R2.out.keep (C3.out.block _ R2.out.lt (fun e=>HNR.out e)));rw[HCO.out];clear u0 u1 u2)
     |(go_at_call 123;(with_reducible refine (rU F' w1 b s' _ L1.out (by omega)).mono ?_);rintro e w2 ⟨rfl,hL2,hC2⟩;have L2:=zZ hL2;have C2:=zZ hC2;clear hL2 hC2;have X2:=zZ (X1.out.keep (C2.out.block _ X1.out.lt (fun e=>by have:=HLED.out.low _ e;omega)));have R2:=zZ (R1.out.keep (C2.out.block _ R1.out.lt (fun e=>HNR.out e)));rw[HCE.out];clear y0;have AT2:Hid (At w2 x ps):=(have p1:=BW.out.trans (B1.out.mono BW.out.size);HAT.out.below (p1.trans (C2.out.below HF0.out p1.size)));have u0:w2.cell? ⟨wr.heap.size,0,none⟩=some (.string (zW nm)):=X2.out.cell rfl;have u1:w2.cell? ⟨wr.heap.size,1,none⟩=some (.int .u8 (tg:Int)):=X2.out.cell rfl;have u2:w2.cell? ⟨wr.heap.size,2,none⟩=some (.slice x ps.length c):=X2.out.cell rfl))
    have z0:w9.cell? ⟨w.heap.size,0,none⟩=some (.int .i64 co):=NF.out.cell rfl;have z1:w9.cell? ⟨w.heap.size,1,none⟩=some (.int .u8 1):=NF.out.cell rfl;have z2:w9.cell? ⟨w.heap.size,2,none⟩=some (.int .i64 (i:Int)):=NF.out.cell rfl;have z3:w9.cell? ⟨w.heap.size,3,none⟩=some (.int .u8 0):=NF.out.cell rfl;refine bodyPost_ret (v:=.agg #[.int .i64 co,.int .u8 1,.int .i64 (i:Int),.int .u8 0]) (by simp[results,Tryz.results76,go_sem,z0,z1,z2,z3]) rfl ?_
    refine ⟨?_,?_,?_⟩
    ·rw [HEQ.out,HDR.out]
     show _=Ending.returned (WS (if _ then _ else _:FL × LS).1);rw[if_pos HCE.out,if_neg (by rw[HCO.out];exact h2),HCO.out];rfl
    ·rw [HEQ.out,HDR.out]
     show ((if _ then _ else _:FL × LS).1).code=0->_;rw[if_pos HCE.out,if_neg (by rw[HCO.out];exact h2),HCO.out]
     exact fun e=>absurd e h2
    exact (((((wL.of_below BA.out).trans' HC.out).trans' (wL.of_below B1.out)).trans C2.out fun k hk=>(HFF.out k hk).imp id (fun q=>by omega)).trans C3.out fun k hk=>(HFF.out k hk).imp id (fun q=>by omega)).trans (UF.out.chg (F:=fun k=>k=w.heap.size) rfl) fun k hk=>.inr (by omega)
   have e2:(ce !=0)=true:=by simpa using h1
   have e2':(ce==0)=false:=by simpa using h1
   have e3:¬ce=0:=h1
   go_wp2_with (first
    |(refine zP _ rfl (.tmp 4) (.tmp 28) rfl rfl w.heap.size _ _ _ _ _ _ _ _ rfl rfl R2.out ?_;intro w9 hNF hUF;have NF:=zZ hNF;have UF:=zZ hUF;clear hNF hUF)
    |(refine oC _ rfl (.tmp 6) (.tmp 14) rfl rfl wr.heap.size _ _ _ _ _ _ _ _ rfl rfl (zL 62 wr #[qE,.int .u8 0,qN]) ?_;intro w1 hNA hUA;have X1:=zZ hNA;have b1:=((Below.refl wr.heap.size wr).alloc (Nat.le_refl _) (.cells #[qE,.int .u8 0,qN] 62)).trans (hUA.below (Nat.le_refl _) (by simp));have B1:=zZ b1;have L1:=zZ (HLED.out.below b1);have R1:=zZ (NRW.out.below b1);have y0:w1.cell? ⟨wr.heap.size,0,none⟩=some (.string (zW nm)):=hNA.cell rfl;clear hNA hUA b1 a0 a1 a3)
    |(go_at_call 123;(with_reducible refine (rU F' w1 b s' _ L1.out (by omega)).mono ?_);rintro e w2 ⟨rfl,hL2,hC2⟩;have L2:=zZ hL2;have C2:=zZ hC2;clear hL2 hC2;have X2:=zZ (X1.out.keep (C2.out.block _ X1.out.lt (fun e=>by have:=HLED.out.low _ e;omega)));have R2:=zZ (R1.out.keep (C2.out.block _ R1.out.lt (fun e=>HNR.out e)));rw[HCE.out];clear y0;have AT2:Hid (At w2 x ps):=(have p1:=BW.out.trans (B1.out.mono BW.out.size);HAT.out.below (p1.trans (C2.out.below HF0.out p1.size)));have u0:w2.cell? ⟨wr.heap.size,0,none⟩=some (.string (zW nm)):=X2.out.cell rfl;have u1:w2.cell? ⟨wr.heap.size,1,none⟩=some (.int .u8 (tg:Int)):=X2.out.cell rfl;have u2:w2.cell? ⟨wr.heap.size,2,none⟩=some (.slice x ps.length c):=X2.out.cell rfl))
   have z0:w9.cell? ⟨w.heap.size,0,none⟩=some (.int .i64 ce):=NF.out.cell rfl;have z1:w9.cell? ⟨w.heap.size,1,none⟩=some (.int .u8 1):=NF.out.cell rfl;have z2:w9.cell? ⟨w.heap.size,2,none⟩=some (.int .i64 (i:Int)):=NF.out.cell rfl;have z3:w9.cell? ⟨w.heap.size,3,none⟩=some (.int .u8 0):=NF.out.cell rfl;refine bodyPost_ret (v:=.agg #[.int .i64 ce,.int .u8 1,.int .i64 (i:Int),.int .u8 0]) (by simp[results,Tryz.results76,go_sem,z0,z1,z2,z3]) rfl ?_
   refine ⟨?_,?_,?_⟩
   ·rw [HEQ.out,HDR.out]
    show _=Ending.returned (WS (if _ then _ else _:FL × LS).1);rw[if_neg (by rw[HCE.out];exact h1),HCE.out];rfl
   ·rw [HEQ.out,HDR.out]
    show ((if _ then _ else _:FL × LS).1).code=0->_;rw[if_neg (by rw[HCE.out];exact h1),HCE.out]
    exact fun e=>absurd e h1
   exact ((((wL.of_below BA.out).trans' HC.out).trans' (wL.of_below B1.out)).trans C2.out fun k hk=>(HFF.out k hk).imp id (fun q=>by omega)).trans (UF.out.chg (F:=fun k=>k=w.heap.size) rfl) fun k hk=>.inr (by omega)
  have hii:¬(i:Int)<(As.length:Int):=by omega
  have ei:i=As.length:=by omega
  go_wp2_with (refine zP _ rfl (.tmp 4) (.tmp 30) rfl rfl w.heap.size _ _ _ _ _ _ _ _ rfl rfl NRW.out ?_;intro w9 hNF hUF;have NF:=zZ hNF;have UF:=zZ hUF;clear hNF hUF)
  have z0:w9.cell? ⟨w.heap.size,0,none⟩=some (.int .i64 0):=NF.out.cell rfl;have z1:w9.cell? ⟨w.heap.size,1,none⟩=some (.int .u8 0):=NF.out.cell rfl;have z2:w9.cell? ⟨w.heap.size,2,none⟩=some (.int .i64 0):=NF.out.cell rfl;have z3:w9.cell? ⟨w.heap.size,3,none⟩=some (.int .u8 0):=NF.out.cell rfl;refine bodyPost_ret (v:=.agg #[.int .i64 0,.int .u8 0,.int .i64 0,.int .u8 0]) (by simp[results,Tryz.results76,go_sem,z0,z1,z2,z3]) rfl ?_
  refine ⟨?_,?_,?_⟩
  ·rw [HEQ.out,ei,List.drop_length]
   rfl
  ·rw [HEQ.out,ei,List.drop_length]
   exact fun _=>⟨F',HLED.out.keep (fun k hk=>UF.out.block k (HLED.out.low k hk) (fun e=>HNR.out (e ▸ hk))) UF.out.size,fun k hk=>(HFF.out k hk).imp id (fun q=>by omega)⟩
  exact ((wL.of_below BA.out).trans' HC.out).trans (UF.out.chg (F:=fun k=>k=w.heap.size) rfl) fun k hk=>.inr (by omega)
def xT (R:List (List Bool)):Prop:=R.length<=200/\∀j,(wD R j).length<=1024
theorem uB {R:List (List Bool)} (h:xT R) (a p:Int):xT (xJ R a p):=by
 unfold xJ
 by_cases h0:yU R a p=0
 ·rw [if_pos h0]
  refine ⟨by rw[rG];exact h.1,fun j=>?_⟩
  by_cases ha:a.toNat<R.length
  ·rw [lF j ha]
   split
   ·rw [List.length_set];exact h.2 _
   exact h.2 j
  have e:bY R a.toNat p.toNat=R:=by
   unfold bY;exact List.set_eq_of_length_le (by omega)
  rw[e];exact h.2 j
 rw[if_neg h0];exact h
def DF (F:Nat->Prop) (w:World) (b:Nat) (cd:Int) (s:LS) (e:Ending) (w':World):Prop:=e=.returned (.int .i64 cd)/\jX F w' b s/\wL F w w'
theorem YX {F F1 F2:Nat->Prop} {w:World} {b m:Nat} {v1 v2:Value} {s:LS} (h:aN F w b m v1 v2 F1 F2 s) (hs:xT s.I) (a p:Int):Calls Tryz.prog 125 #[v1,.int .i64 a,.int .i64 p] w (DF F w b (yU s.I a p) ⟨s.ns,xJ s.I a p,s.O⟩):=by
 refine (gZ F1 w v1 s.I a p h.ins (by have:=hs.1;omega) (fun j=>by have:=hs.2 j;omega)).mono ?_
 rintro e w' ⟨rfl,h1,h2⟩
 have hsz:=h2.size;exact ⟨rfl,⟨m,v1,v2,F1,F2,h.blk.keep (h2.block b (h.low b h.fb) (fun e=>(h.d1 b e).1 rfl)),h.names.keep (h2.block m (h.low m h.fm) (fun e=>(h.d1 m e).2.1 rfl)),h1,h.outs.keep (fun k hk=>h2.block k (h.outs.low k hk).2 (fun e=>(h.d1 k e).2.2 hk)) hsz,h.bm,h.d1,h.d2,h.fb,h.fm,h.f1,h.f2,fun k hk=>Nat.lt_of_lt_of_le (h.low k hk) hsz⟩,h2.wider h.f1⟩
theorem YW {F F1 F2:Nat->Prop} {w:World} {b m:Nat} {v1 v2:Value} {s:LS} (h:aN F w b m v1 v2 F1 F2 s) (hs:xT s.O) (a p:Int):Calls Tryz.prog 125 #[v2,.int .i64 a,.int .i64 p] w (DF F w b (yU s.O a p) ⟨s.ns,s.I,xJ s.O a p⟩):=by
 refine (gZ F2 w v2 s.O a p h.outs (by have:=hs.1;omega) (fun j=>by have:=hs.2 j;omega)).mono ?_
 rintro e w' ⟨rfl,h1,h2⟩
 have hsz:=h2.size;exact ⟨rfl,⟨m,v1,v2,F1,F2,h.blk.keep (h2.block b (h.low b h.fb) (fun e=>(h.d2 b e).1 rfl)),h.names.keep (h2.block m (h.low m h.fm) (fun e=>(h.d2 m e).2 rfl)),h.ins.keep (fun k hk=>h2.block k (h.ins.low k hk).2 (h.d1 k hk).2.2) hsz,h1,h.bm,h.d1,h.d2,h.fb,h.fm,h.f1,h.f2,fun k hk=>Nat.lt_of_lt_of_le (h.low k hk) hsz⟩,h2.wider h.f2⟩
theorem aN.below {F F1 F2:Nat->Prop} {w w':World} {b m:Nat} {v1 v2:Value} {s:LS} (h:aN F w b m v1 v2 F1 F2 s) (hb:Below w.heap.size w w'):aN F w' b m v1 v2 F1 F2 s:=
 ⟨h.blk.below hb,h.names.keep (hb.block m (h.low m h.fm)),h.ins.keep (fun k hk=>hb.block k (h.ins.low k hk).2) hb.size,h.outs.keep (fun k hk=>hb.block k (h.outs.low k hk).2) hb.size,h.bm,h.d1,h.d2,h.fb,h.fm,h.f1,h.f2,fun k hk=>Nat.lt_of_lt_of_le (h.low k hk) hb.size⟩
def bW (F:Nat->Prop) (V:World) (b:Nat) (s:LS) (u:World):Prop:=jX F u b s/\wL F V u
theorem bW.later {F:Nat->Prop} {V u u':World} {b:Nat} {s:LS} (h:bW F V b s u) (hb:Below u.heap.size u u'):bW F V b s u':=⟨h.1.below hb,h.2.trans' (wL.of_below hb)⟩
theorem XH (F:Nat->Prop) (w0 w:World) (b:Nat) (s:LS) (a:Option Addr) (Es:List GE) (cap:Nat) (h:jX F w b s) (hA:DG w0 a Es) (hw:Below w0.heap.size w0 w) (hF:∀k,F k->w0.heap.size<=k) (hn:Es.length<=96) (hI:xT s.I) (hO:xT s.O):
 Calls Tryz.prog 77 #[(qP b),.slice a Es.length cap] w (UQ F w b (uO Es 0 s)):=by
 have HA:=zZ hA;have HW:=zZ hw;have HF:=zZ hF;have sw:=hw.size;have ba:=(Below.refl w.heap.size w).alloc (Nat.le_refl _) (.cells #[.int .i64 0,.int .u8 0,.int .i64 0,.int .u8 0] 85);have BA:=zZ ba;have HL:=zZ (h.below ba);have HLO:=zZ h.low;have HI0:=zZ hI;have HO0:=zZ hO;have NR:=zZ (zL 85 w #[.int .i64 0,.int .u8 0,.int .i64 0,.int .u8 0])
 have hsz:(w.alloc (.cells #[.int .i64 0,.int .u8 0,.int .i64 0,.int .u8 0] 85)).heap.size=w.heap.size+1:=by simp
 have hnI:(Es.length:Int)<=96:=by omega
 clear h hA hw hF ba hI hO
 go_enter Tryz.func77,Tryz.ntmps77
 go_upto_region 1 with fail
 generalize w.alloc (.cells #[.int .i64 0,.int .u8 0,.int .i64 0,.int .u8 0] 85)=W0 at *
 go_wp2
 go_loopg [11] Es.length (fun gk v wr=>∃(i:Nat) (s':LS),i<=Es.length/\gk=Es.length-i/\v=.int .i64 (i:Int)/\uO Es 0 s=uO (Es.drop i) i s'/\jX F wr b s'/\wL F W0 wr/\s'.ns.length<=s.ns.length+i/\xT s'.I/\xT s'.O)
 case atStart=>exact ⟨0,s,Nat.zero_le _,rfl,rfl,rfl,HL.out,wL.of_below (Below.refl _ _),Nat.le_refl _,HI0.out,HO0.out⟩
 case round=>
  obtain ⟨i,s',hi,rfl,rfl,hEq,hLed,hChg,q1,hI',hO'⟩:=hrel;have HEQ:=zZ hEq;have HLED:=zZ hLed;have HC:=zZ hChg;have HI':=zZ hI';have HO':=zZ hO';have swr:=hChg.size
  have HNR:Hid (¬ F w.heap.size):=fun e=>by have:=HLO.out _ e;omega
  have NRW:=zZ (NR.out.keep (hChg.block _ (by omega) HNR.out))
  have BW:Hid (Below w0.heap.size w0 wr):=by
   have p1:=HW.out.trans (BA.out.mono sw);exact p1.trans (hChg.below HF.out p1.size)
  clear hEq hLed hChg hI' hO'
  by_cases hlt:i<Es.length
  ·have hii:(i:Int)<(Es.length:Int):=by omega
   rcases HA.out with h0|⟨ab,ao,rfl,hc⟩
   ·rw [h0]at hlt;simp at hlt
   obtain ⟨a0',a1',a2',a3',x,c,a4',-⟩:=hc i hlt;have a0:=xE BW.out a0';have a1:=xE BW.out a1';have a2:=xE BW.out a2';have a3:=xE BW.out a3';have a4:=xE BW.out a4';have HDR:=zZ (JQ hlt);generalize wK Es i=E at *;obtain ⟨ef,efp,et,etp,st⟩:=E;clear hc a0' a1' a2' a3' a4';obtain ⟨ce,hce⟩:∃q,yU s'.O ef efp=q:=⟨_,rfl⟩;have HCE:=zZ hce;obtain ⟨m,v1,v2,F1,F2,hP0⟩:=id HLED.out;obtain ⟨vx,vc,hv2⟩:=hP0.outs.slice;subst hv2;have HP0:=zZ hP0;obtain ⟨ls,hls⟩:∃q,st.length=q:=⟨_,rfl⟩;have HLS:=zZ hls;rw[show (GE.mk ef efp et etp st).start.length=ls from hls]at a4;clear hP0 hce hls
   go_upto_region 4 with (refine aL _ rfl (.tmp 6) (.tmp 15) rfl rfl wr.heap.size _ _ _ _ _ _ _ _ _ _ _ _ rfl rfl (zL 65 wr #[.int .i64 0,.int .i64 0,.int .i64 0,.int .i64 0,qN]) ?_;intro w1 hNA hUA;have X1:=zZ hNA;have b1:=((Below.refl wr.heap.size wr).alloc (Nat.le_refl _) (.cells #[.int .i64 0,.int .i64 0,.int .i64 0,.int .i64 0,qN] 65)).trans (hUA.below (Nat.le_refl _) (by simp));have B1:=zZ b1;have L1:=zZ (HLED.out.below b1);have R1:=zZ (NRW.out.below b1);clear hNA hUA b1)
   have LP1:=zZ (HP0.out.below B1.out)
   refine yP [8] (fun d i u z=>match i with
    |0=>z=(qP b)
    |1=>z=(qP b)
    |2=>z=.pointer (some ⟨b,2,none⟩)
    |3=>z=.slice vx s'.O.length vc
    |4=>z=(qP wr.heap.size)
    |5=>z=.int .i64 ef
    |6=>z=.pointer (some ⟨wr.heap.size,1,none⟩)
    |7=>z=.int .i64 efp
    |8=>z=.int .i64 (yU s'.O ef efp)
    |9=>z=.int .i64 (yU s'.O ef efp)
    |_=>True) (fun d u=>(d 8=false->Below w1.heap.size w1 u)/\(d 8=true->bW F w1 b ⟨s'.ns,s'.I,xJ s'.O ef efp⟩ u)) (by kernel_rfl) (by kernel_rfl) (by kernel_rfl) ?_ ?_ ?_ ?_ ?_ ?_ (by kernel_rfl)
   ·intro d i w v w' h hb
    match i,h with
    |0,h=>exact h
    |1,h=>exact h
    |2,h=>exact h
    |3,h=>exact h
    |4,h=>exact h
    |5,h=>exact h
    |6,h=>exact h
    |7,h=>exact h
    |8,h=>exact h
    |9,h=>exact h
    |_+10,_=>trivial
   ·intro d u u' h hb
    exact ⟨fun e=>(h.1 e).trans (hb.mono (h.1 e).size),fun e=>(h.2 e).later hb⟩
   ·exact ⟨fun _=>Below.refl _ _,fun e=>absurd e (by decide)⟩
   ·intro d i o ρ w' hm ho hf hg hC hcs hfs hfr zX
    match i,hm,ho,hf,hg,hfr,zX with
    |0,_,ho,hf,hg,hfr,zX=>
     simp only[qS]at ho;subst ho;refine ⟨fun _=>?_,qF⟩
     have ts: ρ (.tmp 0)=(qP b):=(qR hfr 0);simp[go_sem,ts];exact qB
    |1,_,ho,hf,hg,hfr,zX=>
     simp only[qS]at ho;subst ho;refine ⟨fun _=>?_,qF⟩
     have d0: ρ (.tmp 16)=(qP b):=(qH zX 0 16);simp[go_sem,d0];exact qB
    |2,_,ho,hf,hg,hfr,zX=>
     simp only[qS]at ho;subst ho;refine ⟨fun _=>?_,qF⟩
     have d0: ρ (.tmp 17)=(qP b):=(qH zX 1 17);simp[go_sem,d0];exact qB
    |3,_,ho,hf,hg,hfr,zX=>
     simp only[qS]at ho;subst ho;refine ⟨fun _=>?_,qF⟩
     have cc:w'.cell? ⟨b,2,none⟩=some (.slice vx s'.O.length vc):=(LP1.out.blk.below (hC.1 (hf 8 (by decide) (by kernel_rfl)))).cell rfl;have d0: ρ (.tmp 18)=.pointer (some ⟨b,2,none⟩):=(qH zX 2 18);simp[go_sem,d0,cc];exact qB
    |4,_,ho,hf,hg,hfr,zX=>
     simp only[qS]at ho;subst ho;refine ⟨fun _=>?_,qF⟩
     have tq: ρ (.tmp 6)=(qP wr.heap.size):=(qR hfr 6);simp[go_sem,tq];exact qB
    |5,_,ho,hf,hg,hfr,zX=>
     simp only[qS]at ho;subst ho;refine ⟨fun _=>?_,qF⟩
     have cc:w'.cell? ⟨wr.heap.size,0,none⟩=some (.int .i64 ef):=(X1.out.below (hC.1 (hf 8 (by decide) (by kernel_rfl)))).cell rfl;have d0: ρ (.tmp 20)=(qP wr.heap.size):=(qH zX 4 20);simp[go_sem,d0,cc];exact qB
    |6,_,ho,hf,hg,hfr,zX=>
     simp only[qS]at ho;subst ho;refine ⟨fun _=>?_,qF⟩
     have tq: ρ (.tmp 6)=(qP wr.heap.size):=(qR hfr 6);simp[go_sem,tq];exact qB
    |7,_,ho,hf,hg,hfr,zX=>
     simp only[qS]at ho;subst ho;refine ⟨fun _=>?_,qF⟩
     have cc:w'.cell? ⟨wr.heap.size,1,none⟩=some (.int .i64 efp):=(X1.out.below (hC.1 (hf 8 (by decide) (by kernel_rfl)))).cell rfl;have d0: ρ (.tmp 22)=.pointer (some ⟨wr.heap.size,1,none⟩):=(qH zX 6 22);simp[go_sem,d0,cc];exact qB
    |8,hm,_,_,_,_,_=>exact qD hm
    |9,_,ho,hf,hg,hfr,zX=>
     simp only[qS]at ho;subst ho;refine ⟨fun _=>?_,qF⟩
     have d0: ρ (.tmp 24)=.int .i64 (yU s'.O ef efp):=(qH zX 8 24);simp[go_sem,d0];exact qB
    |n+10,_,ho,_,_,_,_=>simp at ho
   ·intro d i o ρ w' hm ho h0 hf hg hC hcs hfs hfr zX
    match i,hm,ho,h0,hf,hg,hfr,zX with
    |0,hm,_,_,_,_,_,_=>exact qD hm
    |1,hm,_,_,_,_,_,_=>exact qD hm
    |2,hm,_,_,_,_,_,_=>exact qD hm
    |3,hm,_,_,_,_,_,_=>exact qD hm
    |4,hm,_,_,_,_,_,_=>exact qD hm
    |5,hm,_,_,_,_,_,_=>exact qD hm
    |6,hm,_,_,_,_,_,_=>exact qD hm
    |7,hm,_,_,_,_,_,_=>exact qD hm
    |8,_,ho,h0,hf,hg,hfr,zX=>
     simp only[qS]at ho;subst ho;have t3: ρ (.tmp 19)=.slice vx s'.O.length vc:=(qH zX 3 19);have t5: ρ (.tmp 21)=.int .i64 ef:=(qH zX 5 21);have t7: ρ (.tmp 23)=.int .i64 efp:=(qH zX 7 23);refine ⟨rfl,?_⟩
     simp[go_sem,t3,t5,t7,hfs,vC];refine (YW (LP1.out.below (hC.1 h0)) HO'.out _ _).mono ?_
     rintro e u9 ⟨rfl,hL9,hC9'⟩
     exact ⟨rfl,fun e=>absurd e (by simp[zA]),fun _=>⟨hL9,(wL.of_below (hC.1 h0)).trans' hC9'⟩⟩
    |9,hm,_,_,_,_,_,_=>exact qD hm
    |n+10,_,ho,_,_,_,_,_=>simp at ho
   intro V w2 hC2 hS;have e9:V 9=.int .i64 (yU s'.O ef efp):=hS 9 (by decide) (by intro h;cases h);simp only[xA,e9];simp only[Act.put,qU];clear hS e9;obtain ⟨hL2,hG2⟩:=hC2.2 rfl;have L2:=zZ hL2;have G2:=zZ hG2;have X2:=zZ (X1.out.keep (G2.out.block _ X1.out.lt (fun e=>by have:=HLED.out.low _ e;omega)));have R2:=zZ (R1.out.keep (G2.out.block _ R1.out.lt HNR.out));clear hC2 hL2 hG2 LP1 HP0;rw[HCE.out]
   by_cases h1:ce=0
   ·subst h1
    obtain ⟨co,hco⟩:∃q,yU s'.I et etp=q:=⟨_,rfl⟩;have HCO:=zZ hco;obtain ⟨m',u1,u2,E1,E2,hQ0⟩:=id L2.out;obtain ⟨wx,wc,hw1⟩:=hQ0.ins.slice;subst hw1;have LQ:=zZ hQ0;clear hQ0 hco
    go_upto_region 7 with fail
    refine yP [8] (fun d i u z=>match i with
     |0=>z=(qP b)
     |1=>z=(qP b)
     |2=>z=.pointer (some ⟨b,1,none⟩)
     |3=>z=.slice wx s'.I.length wc
     |4=>z=.pointer (some ⟨wr.heap.size,2,none⟩)
     |5=>z=.int .i64 et
     |6=>z=.pointer (some ⟨wr.heap.size,3,none⟩)
     |7=>z=.int .i64 etp
     |8=>z=.int .i64 (yU s'.I et etp)
     |9=>z=.int .i64 (yU s'.I et etp)
     |_=>True) (fun d u=>(d 8=false->Below w2.heap.size w2 u)/\(d 8=true->bW F w2 b ⟨s'.ns,xJ s'.I et etp,xJ s'.O ef efp⟩ u)) (by kernel_rfl) (by kernel_rfl) (by kernel_rfl) ?_ ?_ ?_ ?_ ?_ ?_ (by kernel_rfl)
    ·intro d i w v w' h hb
     match i,h with
     |0,h=>exact h
     |1,h=>exact h
     |2,h=>exact h
     |3,h=>exact h
     |4,h=>exact h
     |5,h=>exact h
     |6,h=>exact h
     |7,h=>exact h
     |8,h=>exact h
     |9,h=>exact h
     |_+10,_=>trivial
    ·intro d u u' h hb
     exact ⟨fun e=>(h.1 e).trans (hb.mono (h.1 e).size),fun e=>(h.2 e).later hb⟩
    ·exact ⟨fun _=>Below.refl _ _,fun e=>absurd e (by decide)⟩
    ·intro d i o ρ w' hm ho hf hg hC hcs hfs hfr zX
     match i,hm,ho,hf,hg,hfr,zX with
     |0,_,ho,hf,hg,hfr,zX=>
      simp only[qS]at ho;subst ho;refine ⟨fun _=>?_,qF⟩
      have ts: ρ (.tmp 0)=(qP b):=(qR hfr 0);simp[go_sem,ts];exact qB
     |1,_,ho,hf,hg,hfr,zX=>
      simp only[qS]at ho;subst ho;refine ⟨fun _=>?_,qF⟩
      have d0: ρ (.tmp 30)=(qP b):=(qH zX 0 30);simp[go_sem,d0];exact qB
     |2,_,ho,hf,hg,hfr,zX=>
      simp only[qS]at ho;subst ho;refine ⟨fun _=>?_,qF⟩
      have d0: ρ (.tmp 31)=(qP b):=(qH zX 1 31);simp[go_sem,d0];exact qB
     |3,_,ho,hf,hg,hfr,zX=>
      simp only[qS]at ho;subst ho;refine ⟨fun _=>?_,qF⟩
      have cc:w'.cell? ⟨b,1,none⟩=some (.slice wx s'.I.length wc):=(LQ.out.blk.below (hC.1 (hf 8 (by decide) (by kernel_rfl)))).cell rfl;have d0: ρ (.tmp 32)=.pointer (some ⟨b,1,none⟩):=(qH zX 2 32);simp[go_sem,d0,cc];exact qB
     |4,_,ho,hf,hg,hfr,zX=>
      simp only[qS]at ho;subst ho;refine ⟨fun _=>?_,qF⟩
      have tq: ρ (.tmp 6)=(qP wr.heap.size):=(qR hfr 6);simp[go_sem,tq];exact qB
     |5,_,ho,hf,hg,hfr,zX=>
      simp only[qS]at ho;subst ho;refine ⟨fun _=>?_,qF⟩
      have cc:w'.cell? ⟨wr.heap.size,2,none⟩=some (.int .i64 et):=(X2.out.below (hC.1 (hf 8 (by decide) (by kernel_rfl)))).cell rfl;have d0: ρ (.tmp 34)=.pointer (some ⟨wr.heap.size,2,none⟩):=(qH zX 4 34);simp[go_sem,d0,cc];exact qB
     |6,_,ho,hf,hg,hfr,zX=>
      simp only[qS]at ho;subst ho;refine ⟨fun _=>?_,qF⟩
      have tq: ρ (.tmp 6)=(qP wr.heap.size):=(qR hfr 6);simp[go_sem,tq];exact qB
     |7,_,ho,hf,hg,hfr,zX=>
      simp only[qS]at ho;subst ho;refine ⟨fun _=>?_,qF⟩
      have cc:w'.cell? ⟨wr.heap.size,3,none⟩=some (.int .i64 etp):=(X2.out.below (hC.1 (hf 8 (by decide) (by kernel_rfl)))).cell rfl;have d0: ρ (.tmp 36)=.pointer (some ⟨wr.heap.size,3,none⟩):=(qH zX 6 36);simp[go_sem,d0,cc];exact qB
     |8,hm,_,_,_,_,_=>exact qD hm
     |9,_,ho,hf,hg,hfr,zX=>
      simp only[qS]at ho;subst ho;refine ⟨fun _=>?_,qF⟩
      have d0: ρ (.tmp 38)=.int .i64 (yU s'.I et etp):=(qH zX 8 38);simp[go_sem,d0];exact qB
     |n+10,_,ho,_,_,_,_=>simp at ho
    ·intro d i o ρ w' hm ho h0 hf hg hC hcs hfs hfr zX
     match i,hm,ho,h0,hf,hg,hfr,zX with
     |0,hm,_,_,_,_,_,_=>exact qD hm
     |1,hm,_,_,_,_,_,_=>exact qD hm
     |2,hm,_,_,_,_,_,_=>exact qD hm
     |3,hm,_,_,_,_,_,_=>exact qD hm
     |4,hm,_,_,_,_,_,_=>exact qD hm
     |5,hm,_,_,_,_,_,_=>exact qD hm
     |6,hm,_,_,_,_,_,_=>exact qD hm
     |7,hm,_,_,_,_,_,_=>exact qD hm
     |8,_,ho,h0,hf,hg,hfr,zX=>
      simp only[qS]at ho;subst ho;have t3: ρ (.tmp 33)=.slice wx s'.I.length wc:=(qH zX 3 33);have t5: ρ (.tmp 35)=.int .i64 et:=(qH zX 5 35);have t7: ρ (.tmp 37)=.int .i64 etp:=(qH zX 7 37);refine ⟨rfl,?_⟩
      simp[go_sem,t3,t5,t7,hfs,vC];refine (YX (LQ.out.below (hC.1 h0)) HI'.out _ _).mono ?_
      rintro e u9 ⟨rfl,hL9,hC9'⟩
      exact ⟨rfl,fun e=>absurd e (by simp[zA]),fun _=>⟨hL9,(wL.of_below (hC.1 h0)).trans' hC9'⟩⟩
     |9,hm,_,_,_,_,_,_=>exact qD hm
     |n+10,_,ho,_,_,_,_,_=>simp at ho
    intro V w3 hC3 hS;have e9:V 9=.int .i64 (yU s'.I et etp):=hS 9 (by decide) (by intro h;cases h);simp only[xA,e9];simp only[Act.put,qU];clear hS e9;obtain ⟨hL3,hG3⟩:=hC3.2 rfl;have L3:=zZ hL3;have G3:=zZ hG3;have X3:=X2.out.keep (G3.out.block _ X2.out.lt (fun e=>by have:=HLED.out.low _ e;omega));have R3:=zZ (R2.out.keep (G3.out.block _ R2.out.lt HNR.out));have y4:w3.cell? ⟨wr.heap.size,4,none⟩=some (.slice x ls c):=X3.cell rfl;clear hC3 hL3 hG3 LQ X3;rw[HCO.out]
    by_cases h2:co=0
    ·subst h2
     by_cases h3:256<ls
     ·have h3i:(256:Int)<(ls:Int):=by omega
      go_wp2_with (refine zP _ rfl (.tmp 4) (.tmp 49) rfl rfl w.heap.size _ _ _ _ _ _ _ _ rfl rfl R3.out ?_;intro w9 hNF hUF;have NF:=zZ hNF;have UF:=zZ hUF;clear hNF hUF)
      have z0:w9.cell? ⟨w.heap.size,0,none⟩=some (.int .i64 88):=NF.out.cell rfl;have z1:w9.cell? ⟨w.heap.size,1,none⟩=some (.int .u8 2):=NF.out.cell rfl;have z2:w9.cell? ⟨w.heap.size,2,none⟩=some (.int .i64 (i:Int)):=NF.out.cell rfl;have z3:w9.cell? ⟨w.heap.size,3,none⟩=some (.int .u8 0):=NF.out.cell rfl;refine bodyPost_ret (v:=.agg #[.int .i64 88,.int .u8 2,.int .i64 (i:Int),.int .u8 0]) (by simp[results,Tryz.results77,go_sem,z0,z1,z2,z3]) rfl ?_
      refine ⟨?_,?_,?_⟩
      ·rw [HEQ.out,HDR.out]
       show _=Ending.returned (WS (if _ then _ else _:FL × LS).1);rw[if_pos HCE.out,if_pos HCO.out,if_pos (by rw[HLS.out];exact h3)];rfl
      ·rw [HEQ.out,HDR.out]
       show ((if _ then _ else _:FL × LS).1).code=0->_;rw[if_pos HCE.out,if_pos HCO.out,if_pos (by rw[HLS.out];exact h3)]
       exact fun e=>absurd e (by show ¬(88:Int)=0;decide)
      exact (((((wL.of_below BA.out).trans' HC.out).trans' (wL.of_below B1.out)).trans' G2.out).trans' G3.out).trans (UF.out.chg (F:=fun k=>k=w.heap.size) rfl) fun k hk=>.inr (by omega)
     have h3i:¬(256:Int)<(ls:Int):=by omega
     go_wp2
     go_roundg (Es.length-(i+1))
     case measure=>omega
     case rel=>
      refine ⟨i+1,_,by omega,rfl,by go_num,?_,L3.out,((HC.out.trans' (wL.of_below B1.out)).trans' G2.out).trans' G3.out,by show s'.ns.length<=_;omega,uB HI'.out _ _,uB HO'.out _ _⟩
      rw[HEQ.out,HDR.out];show (if _ then _ else _)=_
      rw[if_pos HCE.out,if_pos HCO.out,if_neg (by rw[HLS.out];exact h3)]
    have e2:(co !=0)=true:=by simpa using h2
    go_wp2_with (refine zP _ rfl (.tmp 4) (.tmp 43) rfl rfl w.heap.size _ _ _ _ _ _ _ _ rfl rfl R3.out ?_;intro w9 hNF hUF;have NF:=zZ hNF;have UF:=zZ hUF;clear hNF hUF)
    have z0:w9.cell? ⟨w.heap.size,0,none⟩=some (.int .i64 co):=NF.out.cell rfl;have z1:w9.cell? ⟨w.heap.size,1,none⟩=some (.int .u8 2):=NF.out.cell rfl;have z2:w9.cell? ⟨w.heap.size,2,none⟩=some (.int .i64 (i:Int)):=NF.out.cell rfl;have z3:w9.cell? ⟨w.heap.size,3,none⟩=some (.int .u8 2):=NF.out.cell rfl;refine bodyPost_ret (v:=.agg #[.int .i64 co,.int .u8 2,.int .i64 (i:Int),.int .u8 2]) (by simp[results,Tryz.results77,go_sem,z0,z1,z2,z3]) rfl ?_
    refine ⟨?_,?_,?_⟩
    ·rw [HEQ.out,HDR.out]
     show _=Ending.returned (WS (if _ then _ else _:FL × LS).1);rw[if_pos HCE.out,if_neg (by rw[HCO.out];exact h2),HCO.out];rfl
    ·rw [HEQ.out,HDR.out]
     show ((if _ then _ else _:FL × LS).1).code=0->_;rw[if_pos HCE.out,if_neg (by rw[HCO.out];exact h2),HCO.out]
     exact fun e=>absurd e h2
    exact (((((wL.of_below BA.out).trans' HC.out).trans' (wL.of_below B1.out)).trans' G2.out).trans' G3.out).trans (UF.out.chg (F:=fun k=>k=w.heap.size) rfl) fun k hk=>.inr (by omega)
   have e2:(ce !=0)=true:=by simpa using h1
   go_wp2_with (refine zP _ rfl (.tmp 4) (.tmp 29) rfl rfl w.heap.size _ _ _ _ _ _ _ _ rfl rfl R2.out ?_;intro w9 hNF hUF;have NF:=zZ hNF;have UF:=zZ hUF;clear hNF hUF)
   have z0:w9.cell? ⟨w.heap.size,0,none⟩=some (.int .i64 ce):=NF.out.cell rfl;have z1:w9.cell? ⟨w.heap.size,1,none⟩=some (.int .u8 2):=NF.out.cell rfl;have z2:w9.cell? ⟨w.heap.size,2,none⟩=some (.int .i64 (i:Int)):=NF.out.cell rfl;have z3:w9.cell? ⟨w.heap.size,3,none⟩=some (.int .u8 1):=NF.out.cell rfl;refine bodyPost_ret (v:=.agg #[.int .i64 ce,.int .u8 2,.int .i64 (i:Int),.int .u8 1]) (by simp[results,Tryz.results77,go_sem,z0,z1,z2,z3]) rfl ?_
   refine ⟨?_,?_,?_⟩
   ·rw [HEQ.out,HDR.out]
    show _=Ending.returned (WS (if _ then _ else _:FL × LS).1);rw[if_neg (by rw[HCE.out];exact h1),HCE.out];rfl
   ·rw [HEQ.out,HDR.out]
    show ((if _ then _ else _:FL × LS).1).code=0->_;rw[if_neg (by rw[HCE.out];exact h1),HCE.out]
    exact fun e=>absurd e h1
   exact ((((wL.of_below BA.out).trans' HC.out).trans' (wL.of_below B1.out)).trans' G2.out).trans (UF.out.chg (F:=fun k=>k=w.heap.size) rfl) fun k hk=>.inr (by omega)
  have hii:¬(i:Int)<(Es.length:Int):=by omega
  have ei:i=Es.length:=by omega
  go_wp2_with (refine zP _ rfl (.tmp 4) (.tmp 51) rfl rfl w.heap.size _ _ _ _ _ _ _ _ rfl rfl NRW.out ?_;intro w9 hNF hUF;have NF:=zZ hNF;have UF:=zZ hUF;clear hNF hUF)
  have z0:w9.cell? ⟨w.heap.size,0,none⟩=some (.int .i64 0):=NF.out.cell rfl;have z1:w9.cell? ⟨w.heap.size,1,none⟩=some (.int .u8 0):=NF.out.cell rfl;have z2:w9.cell? ⟨w.heap.size,2,none⟩=some (.int .i64 0):=NF.out.cell rfl;have z3:w9.cell? ⟨w.heap.size,3,none⟩=some (.int .u8 0):=NF.out.cell rfl;refine bodyPost_ret (v:=.agg #[.int .i64 0,.int .u8 0,.int .i64 0,.int .u8 0]) (by simp[results,Tryz.results77,go_sem,z0,z1,z2,z3]) rfl ?_
  refine ⟨?_,?_,?_⟩
  ·rw [HEQ.out,ei,List.drop_length]
   rfl
  ·rw [HEQ.out,ei,List.drop_length]
   exact fun _=>⟨F,HLED.out.keep (fun k hk=>UF.out.block k (HLED.out.low k hk) (fun e=>HNR.out (e ▸ hk))) UF.out.size,fun k hk=>.inl hk⟩
  exact ((wL.of_below BA.out).trans' HC.out).trans (UF.out.chg (F:=fun k=>k=w.heap.size) rfl) fun k hk=>.inr (by omega)
theorem RJ (F:Nat->Prop) (w0 w:World) (b:Nat) (s:LS) (a:Option Addr) (Es:List GP) (cap:Nat) (h:jX F w b s) (hA:nN w0 a Es) (hw:Below w0.heap.size w0 w) (hF:∀k,F k->w0.heap.size<=k) (hn:Es.length<=16) (hns:s.ns.length<=100) (hI:xT s.I) (hO:xT s.O):
 Calls Tryz.prog 78 #[(qP b),.slice a Es.length cap] w (UQ F w b (mQ Es 0 s)):=by
 have HA:=zZ hA;have HW:=zZ hw;have HF:=zZ hF;have sw:=hw.size;have ba:=(Below.refl w.heap.size w).alloc (Nat.le_refl _) (.cells #[.int .i64 0,.int .u8 0,.int .i64 0,.int .u8 0] 85);have BA:=zZ ba;have HL:=zZ (h.below ba);have HLO:=zZ h.low;have HI0:=zZ hI;have HO0:=zZ hO;have NR:=zZ (zL 85 w #[.int .i64 0,.int .u8 0,.int .i64 0,.int .u8 0])
 have hsz:(w.alloc (.cells #[.int .i64 0,.int .u8 0,.int .i64 0,.int .u8 0] 85)).heap.size=w.heap.size+1:=by simp
 have hnI:(Es.length:Int)<=16:=by omega
 clear h hA hw hF ba hI hO
 go_enter Tryz.func78,Tryz.ntmps78
 go_upto_region 1 with fail
 generalize w.alloc (.cells #[.int .i64 0,.int .u8 0,.int .i64 0,.int .u8 0] 85)=W0 at *
 go_wp2
 go_loopg [11] Es.length (fun gk v wr=>∃(i:Nat) (s':LS),i<=Es.length/\gk=Es.length-i/\v=.int .i64 (i:Int)/\mQ Es 0 s=mQ (Es.drop i) i s'/\jX F wr b s'/\wL F W0 wr/\s'.ns.length<=s.ns.length+i/\xT s'.I/\xT s'.O)
 case atStart=>exact ⟨0,s,Nat.zero_le _,rfl,rfl,rfl,HL.out,wL.of_below (Below.refl _ _),Nat.le_refl _,HI0.out,HO0.out⟩
 case round=>
  obtain ⟨i,s',hi,rfl,rfl,hEq,hLed,hChg,q1,hI',hO'⟩:=hrel;have HEQ:=zZ hEq;have HLED:=zZ hLed;have HC:=zZ hChg;have HI':=zZ hI';have HO':=zZ hO';have swr:=hChg.size
  have HNR:Hid (¬ F w.heap.size):=fun e=>by have:=HLO.out _ e;omega
  have NRW:=zZ (NR.out.keep (hChg.block _ (by omega) HNR.out))
  have BW:Hid (Below w0.heap.size w0 wr):=by
   have p1:=HW.out.trans (BA.out.mono sw);exact p1.trans (hChg.below HF.out p1.size)
  clear hEq hLed hChg hI' hO'
  by_cases hlt:i<Es.length
  ·have hii:(i:Int)<(Es.length:Int):=by omega
   rcases HA.out with h0|⟨ab,ao,rfl,hc⟩
   ·rw [h0]at hlt;simp at hlt
   obtain ⟨a0',a1',a2'⟩:=hc i hlt;have a0:=xE BW.out a0';have a1:=xE BW.out a1';have a2:=xE BW.out a2';have HDR:=zZ (XI hlt);generalize wN Es i=E at *;obtain ⟨nm,pa,pp⟩:=E;clear hc a0' a1' a2';obtain ⟨ce,hce⟩:∃q,(zC s'.ns nm).1=q:=⟨_,rfl⟩;have HCE:=zZ hce;have q4:=nM s'.ns nm;clear hce
   by_cases h1:ce=0
   ·subst h1
    obtain ⟨co,hco⟩:∃q,yU s'.I pa pp=q:=⟨_,rfl⟩;have HCO:=zZ hco;clear hco
    go_upto_region 7 with (first
     |(refine rS _ rfl (.tmp 6) (.tmp 15) rfl rfl wr.heap.size _ _ _ _ _ _ rfl rfl (zL 81 wr #[qE,.int .i64 0,.int .i64 0]) ?_;intro w1 hNA hUA;have X1:=zZ hNA;have b1:=((Below.refl wr.heap.size wr).alloc (Nat.le_refl _) (.cells #[qE,.int .i64 0,.int .i64 0] 81)).trans (hUA.below (Nat.le_refl _) (by simp));have B1:=zZ b1;have L1:=zZ (HLED.out.below b1);have R1:=zZ (NRW.out.below b1);have y0:w1.cell? ⟨wr.heap.size,0,none⟩=some (.string (zW nm)):=hNA.cell rfl;clear hNA hUA b1)
     |(go_at_call 123;(with_reducible refine (rU F w1 b s' nm L1.out (by omega)).mono ?_);rintro e w2 ⟨rfl,hL2,hG2⟩;have L2:=zZ hL2;have G2:=zZ hG2;have X2:=zZ (X1.out.keep (hG2.block _ X1.out.lt (fun e=>by have:=HLED.out.low _ e;omega)));have R2:=zZ (R1.out.keep (hG2.block _ R1.out.lt HNR.out));rw[HCE.out];clear hL2 hG2 y0))
    obtain ⟨m',u1,u2,E1,E2,hQ0⟩:=id L2.out;obtain ⟨wx,wc,hw1⟩:=hQ0.ins.slice;subst hw1;have LQ:=zZ hQ0;clear hQ0
    refine yP [8] (fun d i u z=>match i with
     |0=>z=(qP b)
     |1=>z=(qP b)
     |2=>z=.pointer (some ⟨b,1,none⟩)
     |3=>z=.slice wx s'.I.length wc
     |4=>z=.pointer (some ⟨wr.heap.size,1,none⟩)
     |5=>z=.int .i64 pa
     |6=>z=.pointer (some ⟨wr.heap.size,2,none⟩)
     |7=>z=.int .i64 pp
     |8=>z=.int .i64 (yU s'.I pa pp)
     |9=>z=.int .i64 (yU s'.I pa pp)
     |_=>True) (fun d u=>(d 8=false->Below w2.heap.size w2 u)/\(d 8=true->bW F w2 b ⟨(zC s'.ns nm).2,xJ s'.I pa pp,s'.O⟩ u)) (by kernel_rfl) (by kernel_rfl) (by kernel_rfl) ?_ ?_ ?_ ?_ ?_ ?_ (by kernel_rfl)
    ·intro d i w v w' h hb
     match i,h with
     |0,h=>exact h
     |1,h=>exact h
     |2,h=>exact h
     |3,h=>exact h
     |4,h=>exact h
     |5,h=>exact h
     |6,h=>exact h
     |7,h=>exact h
     |8,h=>exact h
     |9,h=>exact h
     |_+10,_=>trivial
    ·intro d u u' h hb
     exact ⟨fun e=>(h.1 e).trans (hb.mono (h.1 e).size),fun e=>(h.2 e).later hb⟩
    ·exact ⟨fun _=>Below.refl _ _,fun e=>absurd e (by decide)⟩
    ·intro d i o ρ w' hm ho hf hg hC hcs hfs hfr zX
     match i,hm,ho,hf,hg,hfr,zX with
     |0,_,ho,hf,hg,hfr,zX=>
      simp only[qS]at ho;subst ho;refine ⟨fun _=>?_,qF⟩
      have ts: ρ (.tmp 0)=(qP b):=(qR hfr 0);simp[go_sem,ts];exact qB
     |1,_,ho,hf,hg,hfr,zX=>
      simp only[qS]at ho;subst ho;refine ⟨fun _=>?_,qF⟩
      have d0: ρ (.tmp 25)=(qP b):=(qH zX 0 25);simp[go_sem,d0];exact qB
     |2,_,ho,hf,hg,hfr,zX=>
      simp only[qS]at ho;subst ho;refine ⟨fun _=>?_,qF⟩
      have d0: ρ (.tmp 26)=(qP b):=(qH zX 1 26);simp[go_sem,d0];exact qB
     |3,_,ho,hf,hg,hfr,zX=>
      simp only[qS]at ho;subst ho;refine ⟨fun _=>?_,qF⟩
      have cc:w'.cell? ⟨b,1,none⟩=some (.slice wx s'.I.length wc):=(LQ.out.blk.below (hC.1 (hf 8 (by decide) (by kernel_rfl)))).cell rfl;have d0: ρ (.tmp 27)=.pointer (some ⟨b,1,none⟩):=(qH zX 2 27);simp[go_sem,d0,cc];exact qB
     |4,_,ho,hf,hg,hfr,zX=>
      simp only[qS]at ho;subst ho;refine ⟨fun _=>?_,qF⟩
      have tq: ρ (.tmp 6)=(qP wr.heap.size):=(qR hfr 6);simp[go_sem,tq];exact qB
     |5,_,ho,hf,hg,hfr,zX=>
      simp only[qS]at ho;subst ho;refine ⟨fun _=>?_,qF⟩
      have cc:w'.cell? ⟨wr.heap.size,1,none⟩=some (.int .i64 pa):=(X2.out.below (hC.1 (hf 8 (by decide) (by kernel_rfl)))).cell rfl;have d0: ρ (.tmp 29)=.pointer (some ⟨wr.heap.size,1,none⟩):=(qH zX 4 29);simp[go_sem,d0,cc];exact qB
     |6,_,ho,hf,hg,hfr,zX=>
      simp only[qS]at ho;subst ho;refine ⟨fun _=>?_,qF⟩
      have tq: ρ (.tmp 6)=(qP wr.heap.size):=(qR hfr 6);simp[go_sem,tq];exact qB
     |7,_,ho,hf,hg,hfr,zX=>
      simp only[qS]at ho;subst ho;refine ⟨fun _=>?_,qF⟩
      have cc:w'.cell? ⟨wr.heap.size,2,none⟩=some (.int .i64 pp):=(X2.out.below (hC.1 (hf 8 (by decide) (by kernel_rfl)))).cell rfl;have d0: ρ (.tmp 31)=.pointer (some ⟨wr.heap.size,2,none⟩):=(qH zX 6 31);simp[go_sem,d0,cc];exact qB
     |8,hm,_,_,_,_,_=>exact qD hm
     |9,_,ho,hf,hg,hfr,zX=>
      simp only[qS]at ho;subst ho;refine ⟨fun _=>?_,qF⟩
      have d0: ρ (.tmp 33)=.int .i64 (yU s'.I pa pp):=(qH zX 8 33);simp[go_sem,d0];exact qB
     |n+10,_,ho,_,_,_,_=>simp at ho
    ·intro d i o ρ w' hm ho h0 hf hg hC hcs hfs hfr zX
     match i,hm,ho,h0,hf,hg,hfr,zX with
     |0,hm,_,_,_,_,_,_=>exact qD hm
     |1,hm,_,_,_,_,_,_=>exact qD hm
     |2,hm,_,_,_,_,_,_=>exact qD hm
     |3,hm,_,_,_,_,_,_=>exact qD hm
     |4,hm,_,_,_,_,_,_=>exact qD hm
     |5,hm,_,_,_,_,_,_=>exact qD hm
     |6,hm,_,_,_,_,_,_=>exact qD hm
     |7,hm,_,_,_,_,_,_=>exact qD hm
     |8,_,ho,h0,hf,hg,hfr,zX=>
      simp only[qS]at ho;subst ho;have t3: ρ (.tmp 28)=.slice wx s'.I.length wc:=(qH zX 3 28);have t5: ρ (.tmp 30)=.int .i64 pa:=(qH zX 5 30);have t7: ρ (.tmp 32)=.int .i64 pp:=(qH zX 7 32);refine ⟨rfl,?_⟩
      simp[go_sem,t3,t5,t7,hfs,vC];refine (YX (LQ.out.below (hC.1 h0)) HI'.out _ _).mono ?_
      rintro e u9 ⟨rfl,hL9,hC9'⟩
      exact ⟨rfl,fun e=>absurd e (by simp[zA]),fun _=>⟨hL9,(wL.of_below (hC.1 h0)).trans' hC9'⟩⟩
     |9,hm,_,_,_,_,_,_=>exact qD hm
     |n+10,_,ho,_,_,_,_,_=>simp at ho
    intro V w3 hC3 hS;have e9:V 9=.int .i64 (yU s'.I pa pp):=hS 9 (by decide) (by intro h;cases h);simp only[xA,e9];simp only[Act.put,qU];clear hS e9;obtain ⟨hL3,hG3⟩:=hC3.2 rfl;have L3:=zZ hL3;have G3:=zZ hG3;have R3:=zZ (R2.out.keep (G3.out.block _ R2.out.lt HNR.out));clear hC3 hL3 hG3 LQ;rw[HCO.out]
    by_cases h2:co=0
    ·subst h2
     go_wp2
     go_roundg (Es.length-(i+1))
     case measure=>omega
     case rel=>
      refine ⟨i+1,_,by omega,rfl,by go_num,?_,L3.out,((HC.out.trans' (wL.of_below B1.out)).trans' G2.out).trans' G3.out,by show (zC s'.ns nm).2.length<=_;omega,uB HI'.out _ _,HO'.out⟩
      rw[HEQ.out,HDR.out];show (if _ then _ else _)=_
      rw[if_pos HCE.out,if_pos HCO.out]
    have e2:(co !=0)=true:=by simpa using h2
    go_wp2_with (refine zP _ rfl (.tmp 4) (.tmp 38) rfl rfl w.heap.size _ _ _ _ _ _ _ _ rfl rfl R3.out ?_;intro w9 hNF hUF;have NF:=zZ hNF;have UF:=zZ hUF;clear hNF hUF)
    have z0:w9.cell? ⟨w.heap.size,0,none⟩=some (.int .i64 co):=NF.out.cell rfl;have z1:w9.cell? ⟨w.heap.size,1,none⟩=some (.int .u8 3):=NF.out.cell rfl;have z2:w9.cell? ⟨w.heap.size,2,none⟩=some (.int .i64 (i:Int)):=NF.out.cell rfl;have z3:w9.cell? ⟨w.heap.size,3,none⟩=some (.int .u8 2):=NF.out.cell rfl;refine bodyPost_ret (v:=.agg #[.int .i64 co,.int .u8 3,.int .i64 (i:Int),.int .u8 2]) (by simp[results,Tryz.results78,go_sem,z0,z1,z2,z3]) rfl ?_
    refine ⟨?_,?_,?_⟩
    ·rw [HEQ.out,HDR.out]
     show _=Ending.returned (WS (if _ then _ else _:FL × LS).1);rw[if_pos HCE.out,if_neg (by rw[HCO.out];exact h2),HCO.out];rfl
    ·rw [HEQ.out,HDR.out]
     show ((if _ then _ else _:FL × LS).1).code=0->_;rw[if_pos HCE.out,if_neg (by rw[HCO.out];exact h2),HCO.out]
     exact fun e=>absurd e h2
    exact (((((wL.of_below BA.out).trans' HC.out).trans' (wL.of_below B1.out)).trans' G2.out).trans' G3.out).trans (UF.out.chg (F:=fun k=>k=w.heap.size) rfl) fun k hk=>.inr (by omega)
   have e2:(ce !=0)=true:=by simpa using h1
   go_wp2_with (first
    |(refine zP _ rfl (.tmp 4) (.tmp 24) rfl rfl w.heap.size _ _ _ _ _ _ _ _ rfl rfl R2.out ?_;intro w9 hNF hUF;have NF:=zZ hNF;have UF:=zZ hUF;clear hNF hUF)
    |(refine rS _ rfl (.tmp 6) (.tmp 15) rfl rfl wr.heap.size _ _ _ _ _ _ rfl rfl (zL 81 wr #[qE,.int .i64 0,.int .i64 0]) ?_;intro w1 hNA hUA;have X1:=zZ hNA;have b1:=((Below.refl wr.heap.size wr).alloc (Nat.le_refl _) (.cells #[qE,.int .i64 0,.int .i64 0] 81)).trans (hUA.below (Nat.le_refl _) (by simp));have B1:=zZ b1;have L1:=zZ (HLED.out.below b1);have R1:=zZ (NRW.out.below b1);have y0:w1.cell? ⟨wr.heap.size,0,none⟩=some (.string (zW nm)):=hNA.cell rfl;clear hNA hUA b1)
    |(go_at_call 123;(with_reducible refine (rU F w1 b s' nm L1.out (by omega)).mono ?_);rintro e w2 ⟨rfl,hL2,hG2⟩;have L2:=zZ hL2;have G2:=zZ hG2;have X2:=zZ (X1.out.keep (hG2.block _ X1.out.lt (fun e=>by have:=HLED.out.low _ e;omega)));have R2:=zZ (R1.out.keep (hG2.block _ R1.out.lt HNR.out));rw[HCE.out];clear hL2 hG2 y0))
   have z0:w9.cell? ⟨w.heap.size,0,none⟩=some (.int .i64 ce):=NF.out.cell rfl;have z1:w9.cell? ⟨w.heap.size,1,none⟩=some (.int .u8 3):=NF.out.cell rfl;have z2:w9.cell? ⟨w.heap.size,2,none⟩=some (.int .i64 (i:Int)):=NF.out.cell rfl;have z3:w9.cell? ⟨w.heap.size,3,none⟩=some (.int .u8 0):=NF.out.cell rfl;refine bodyPost_ret (v:=.agg #[.int .i64 ce,.int .u8 3,.int .i64 (i:Int),.int .u8 0]) (by simp[results,Tryz.results78,go_sem,z0,z1,z2,z3]) rfl ?_
   refine ⟨?_,?_,?_⟩
   ·rw [HEQ.out,HDR.out]
    show _=Ending.returned (WS (if _ then _ else _:FL × LS).1);rw[if_neg (by rw[HCE.out];exact h1),HCE.out];rfl
   ·rw [HEQ.out,HDR.out]
    show ((if _ then _ else _:FL × LS).1).code=0->_;rw[if_neg (by rw[HCE.out];exact h1),HCE.out]
    exact fun e=>absurd e h1
   exact ((((wL.of_below BA.out).trans' HC.out).trans' (wL.of_below B1.out)).trans' G2.out).trans (UF.out.chg (F:=fun k=>k=w.heap.size) rfl) fun k hk=>.inr (by omega)
  have hii:¬(i:Int)<(Es.length:Int):=by omega
  have ei:i=Es.length:=by omega
  go_wp2_with (refine zP _ rfl (.tmp 4) (.tmp 40) rfl rfl w.heap.size _ _ _ _ _ _ _ _ rfl rfl NRW.out ?_;intro w9 hNF hUF;have NF:=zZ hNF;have UF:=zZ hUF;clear hNF hUF)
  have z0:w9.cell? ⟨w.heap.size,0,none⟩=some (.int .i64 0):=NF.out.cell rfl;have z1:w9.cell? ⟨w.heap.size,1,none⟩=some (.int .u8 0):=NF.out.cell rfl;have z2:w9.cell? ⟨w.heap.size,2,none⟩=some (.int .i64 0):=NF.out.cell rfl;have z3:w9.cell? ⟨w.heap.size,3,none⟩=some (.int .u8 0):=NF.out.cell rfl;refine bodyPost_ret (v:=.agg #[.int .i64 0,.int .u8 0,.int .i64 0,.int .u8 0]) (by simp[results,Tryz.results78,go_sem,z0,z1,z2,z3]) rfl ?_
  refine ⟨?_,?_,?_⟩
  ·rw [HEQ.out,ei,List.drop_length]
   rfl
  ·rw [HEQ.out,ei,List.drop_length]
   exact fun _=>⟨F,HLED.out.keep (fun k hk=>UF.out.block k (HLED.out.low k hk) (fun e=>HNR.out (e ▸ hk))) UF.out.size,fun k hk=>.inl hk⟩
  exact ((wL.of_below BA.out).trans' HC.out).trans (UF.out.chg (F:=fun k=>k=w.heap.size) rfl) fun k hk=>.inr (by omega)
theorem UP (F:Nat->Prop) (w0 w:World) (b:Nat) (s:LS) (a:Option Addr) (Es:List GP) (cap:Nat) (h:jX F w b s) (hA:nN w0 a Es) (hw:Below w0.heap.size w0 w) (hF:∀k,F k->w0.heap.size<=k) (hn:Es.length<=16) (hns:s.ns.length<=100) (hI:xT s.I) (hO:xT s.O):
 Calls Tryz.prog 79 #[(qP b),.slice a Es.length cap] w (UQ F w b (rH Es 0 s)):=by
 have HA:=zZ hA;have HW:=zZ hw;have HF:=zZ hF;have sw:=hw.size;have ba:=(Below.refl w.heap.size w).alloc (Nat.le_refl _) (.cells #[.int .i64 0,.int .u8 0,.int .i64 0,.int .u8 0] 85);have BA:=zZ ba;have HL:=zZ (h.below ba);have HLO:=zZ h.low;have HI0:=zZ hI;have HO0:=zZ hO;have NR:=zZ (zL 85 w #[.int .i64 0,.int .u8 0,.int .i64 0,.int .u8 0])
 have hsz:(w.alloc (.cells #[.int .i64 0,.int .u8 0,.int .i64 0,.int .u8 0] 85)).heap.size=w.heap.size+1:=by simp
 have hnI:(Es.length:Int)<=16:=by omega
 clear h hA hw hF ba hI hO
 go_enter Tryz.func79,Tryz.ntmps79
 go_upto_region 1 with fail
 generalize w.alloc (.cells #[.int .i64 0,.int .u8 0,.int .i64 0,.int .u8 0] 85)=W0 at *
 go_wp2
 go_loopg [11] Es.length (fun gk v wr=>∃(i:Nat) (s':LS),i<=Es.length/\gk=Es.length-i/\v=.int .i64 (i:Int)/\rH Es 0 s=rH (Es.drop i) i s'/\jX F wr b s'/\wL F W0 wr/\s'.ns.length<=s.ns.length+i/\xT s'.I/\xT s'.O)
 case atStart=>exact ⟨0,s,Nat.zero_le _,rfl,rfl,rfl,HL.out,wL.of_below (Below.refl _ _),Nat.le_refl _,HI0.out,HO0.out⟩
 case round=>
  obtain ⟨i,s',hi,rfl,rfl,hEq,hLed,hChg,q1,hI',hO'⟩:=hrel;have HEQ:=zZ hEq;have HLED:=zZ hLed;have HC:=zZ hChg;have HI':=zZ hI';have HO':=zZ hO';have swr:=hChg.size
  have HNR:Hid (¬ F w.heap.size):=fun e=>by have:=HLO.out _ e;omega
  have NRW:=zZ (NR.out.keep (hChg.block _ (by omega) HNR.out))
  have BW:Hid (Below w0.heap.size w0 wr):=by
   have p1:=HW.out.trans (BA.out.mono sw);exact p1.trans (hChg.below HF.out p1.size)
  clear hEq hLed hChg hI' hO'
  by_cases hlt:i<Es.length
  ·have hii:(i:Int)<(Es.length:Int):=by omega
   rcases HA.out with h0|⟨ab,ao,rfl,hc⟩
   ·rw [h0]at hlt;simp at hlt
   obtain ⟨a0',a1',a2'⟩:=hc i hlt;have a0:=xE BW.out a0';have a1:=xE BW.out a1';have a2:=xE BW.out a2';have HDR:=zZ (XI hlt);generalize wN Es i=E at *;obtain ⟨nm,pa,pp⟩:=E;clear hc a0' a1' a2';obtain ⟨ce,hce⟩:∃q,(zC s'.ns nm).1=q:=⟨_,rfl⟩;have HCE:=zZ hce;have q4:=nM s'.ns nm;clear hce
   by_cases h1:ce=0
   ·subst h1
    obtain ⟨co,hco⟩:∃q,yU s'.O pa pp=q:=⟨_,rfl⟩;have HCO:=zZ hco;clear hco
    go_upto_region 7 with (first
     |(refine rS _ rfl (.tmp 6) (.tmp 15) rfl rfl wr.heap.size _ _ _ _ _ _ rfl rfl (zL 81 wr #[qE,.int .i64 0,.int .i64 0]) ?_;intro w1 hNA hUA;have X1:=zZ hNA;have b1:=((Below.refl wr.heap.size wr).alloc (Nat.le_refl _) (.cells #[qE,.int .i64 0,.int .i64 0] 81)).trans (hUA.below (Nat.le_refl _) (by simp));have B1:=zZ b1;have L1:=zZ (HLED.out.below b1);have R1:=zZ (NRW.out.below b1);have y0:w1.cell? ⟨wr.heap.size,0,none⟩=some (.string (zW nm)):=hNA.cell rfl;clear hNA hUA b1)
     |(go_at_call 123;(with_reducible refine (rU F w1 b s' nm L1.out (by omega)).mono ?_);rintro e w2 ⟨rfl,hL2,hG2⟩;have L2:=zZ hL2;have G2:=zZ hG2;have X2:=zZ (X1.out.keep (hG2.block _ X1.out.lt (fun e=>by have:=HLED.out.low _ e;omega)));have R2:=zZ (R1.out.keep (hG2.block _ R1.out.lt HNR.out));rw[HCE.out];clear hL2 hG2 y0))
    obtain ⟨m',u1,u2,E1,E2,hQ0⟩:=id L2.out;obtain ⟨wx,wc,hw1⟩:=hQ0.outs.slice;subst hw1;have LQ:=zZ hQ0;clear hQ0
    refine yP [8] (fun d i u z=>match i with
     |0=>z=(qP b)
     |1=>z=(qP b)
     |2=>z=.pointer (some ⟨b,2,none⟩)
     |3=>z=.slice wx s'.O.length wc
     |4=>z=.pointer (some ⟨wr.heap.size,1,none⟩)
     |5=>z=.int .i64 pa
     |6=>z=.pointer (some ⟨wr.heap.size,2,none⟩)
     |7=>z=.int .i64 pp
     |8=>z=.int .i64 (yU s'.O pa pp)
     |9=>z=.int .i64 (yU s'.O pa pp)
     |_=>True) (fun d u=>(d 8=false->Below w2.heap.size w2 u)/\(d 8=true->bW F w2 b ⟨(zC s'.ns nm).2,s'.I,xJ s'.O pa pp⟩ u)) (by kernel_rfl) (by kernel_rfl) (by kernel_rfl) ?_ ?_ ?_ ?_ ?_ ?_ (by kernel_rfl)
    ·intro d i w v w' h hb
     match i,h with
     |0,h=>exact h
     |1,h=>exact h
     |2,h=>exact h
     |3,h=>exact h
     |4,h=>exact h
     |5,h=>exact h
     |6,h=>exact h
     |7,h=>exact h
     |8,h=>exact h
     |9,h=>exact h
     |_+10,_=>trivial
    ·intro d u u' h hb
     exact ⟨fun e=>(h.1 e).trans (hb.mono (h.1 e).size),fun e=>(h.2 e).later hb⟩
    ·exact ⟨fun _=>Below.refl _ _,fun e=>absurd e (by decide)⟩
    ·intro d i o ρ w' hm ho hf hg hC hcs hfs hfr zX
     match i,hm,ho,hf,hg,hfr,zX with
     |0,_,ho,hf,hg,hfr,zX=>
      simp only[qS]at ho;subst ho;refine ⟨fun _=>?_,qF⟩
      have ts: ρ (.tmp 0)=(qP b):=(qR hfr 0);simp[go_sem,ts];exact qB
     |1,_,ho,hf,hg,hfr,zX=>
      simp only[qS]at ho;subst ho;refine ⟨fun _=>?_,qF⟩
      have d0: ρ (.tmp 25)=(qP b):=(qH zX 0 25);simp[go_sem,d0];exact qB
     |2,_,ho,hf,hg,hfr,zX=>
      simp only[qS]at ho;subst ho;refine ⟨fun _=>?_,qF⟩
      have d0: ρ (.tmp 26)=(qP b):=(qH zX 1 26);simp[go_sem,d0];exact qB
     |3,_,ho,hf,hg,hfr,zX=>
      simp only[qS]at ho;subst ho;refine ⟨fun _=>?_,qF⟩
      have cc:w'.cell? ⟨b,2,none⟩=some (.slice wx s'.O.length wc):=(LQ.out.blk.below (hC.1 (hf 8 (by decide) (by kernel_rfl)))).cell rfl;have d0: ρ (.tmp 27)=.pointer (some ⟨b,2,none⟩):=(qH zX 2 27);simp[go_sem,d0,cc];exact qB
     |4,_,ho,hf,hg,hfr,zX=>
      simp only[qS]at ho;subst ho;refine ⟨fun _=>?_,qF⟩
      have tq: ρ (.tmp 6)=(qP wr.heap.size):=(qR hfr 6);simp[go_sem,tq];exact qB
     |5,_,ho,hf,hg,hfr,zX=>
      simp only[qS]at ho;subst ho;refine ⟨fun _=>?_,qF⟩
      have cc:w'.cell? ⟨wr.heap.size,1,none⟩=some (.int .i64 pa):=(X2.out.below (hC.1 (hf 8 (by decide) (by kernel_rfl)))).cell rfl;have d0: ρ (.tmp 29)=.pointer (some ⟨wr.heap.size,1,none⟩):=(qH zX 4 29);simp[go_sem,d0,cc];exact qB
     |6,_,ho,hf,hg,hfr,zX=>
      simp only[qS]at ho;subst ho;refine ⟨fun _=>?_,qF⟩
      have tq: ρ (.tmp 6)=(qP wr.heap.size):=(qR hfr 6);simp[go_sem,tq];exact qB
     |7,_,ho,hf,hg,hfr,zX=>
      simp only[qS]at ho;subst ho;refine ⟨fun _=>?_,qF⟩
      have cc:w'.cell? ⟨wr.heap.size,2,none⟩=some (.int .i64 pp):=(X2.out.below (hC.1 (hf 8 (by decide) (by kernel_rfl)))).cell rfl;have d0: ρ (.tmp 31)=.pointer (some ⟨wr.heap.size,2,none⟩):=(qH zX 6 31);simp[go_sem,d0,cc];exact qB
     |8,hm,_,_,_,_,_=>exact qD hm
     |9,_,ho,hf,hg,hfr,zX=>
      simp only[qS]at ho;subst ho;refine ⟨fun _=>?_,qF⟩
      have d0: ρ (.tmp 33)=.int .i64 (yU s'.O pa pp):=(qH zX 8 33);simp[go_sem,d0];exact qB
     |n+10,_,ho,_,_,_,_=>simp at ho
    ·intro d i o ρ w' hm ho h0 hf hg hC hcs hfs hfr zX
     match i,hm,ho,h0,hf,hg,hfr,zX with
     |0,hm,_,_,_,_,_,_=>exact qD hm
     |1,hm,_,_,_,_,_,_=>exact qD hm
     |2,hm,_,_,_,_,_,_=>exact qD hm
     |3,hm,_,_,_,_,_,_=>exact qD hm
     |4,hm,_,_,_,_,_,_=>exact qD hm
     |5,hm,_,_,_,_,_,_=>exact qD hm
     |6,hm,_,_,_,_,_,_=>exact qD hm
     |7,hm,_,_,_,_,_,_=>exact qD hm
     |8,_,ho,h0,hf,hg,hfr,zX=>
      simp only[qS]at ho;subst ho;have t3: ρ (.tmp 28)=.slice wx s'.O.length wc:=(qH zX 3 28);have t5: ρ (.tmp 30)=.int .i64 pa:=(qH zX 5 30);have t7: ρ (.tmp 32)=.int .i64 pp:=(qH zX 7 32);refine ⟨rfl,?_⟩
      simp[go_sem,t3,t5,t7,hfs,vC];refine (YW (LQ.out.below (hC.1 h0)) HO'.out _ _).mono ?_
      rintro e u9 ⟨rfl,hL9,hC9'⟩
      exact ⟨rfl,fun e=>absurd e (by simp[zA]),fun _=>⟨hL9,(wL.of_below (hC.1 h0)).trans' hC9'⟩⟩
     |9,hm,_,_,_,_,_,_=>exact qD hm
     |n+10,_,ho,_,_,_,_,_=>simp at ho
    intro V w3 hC3 hS;have e9:V 9=.int .i64 (yU s'.O pa pp):=hS 9 (by decide) (by intro h;cases h);simp only[xA,e9];simp only[Act.put,qU];clear hS e9;obtain ⟨hL3,hG3⟩:=hC3.2 rfl;have L3:=zZ hL3;have G3:=zZ hG3;have R3:=zZ (R2.out.keep (G3.out.block _ R2.out.lt HNR.out));clear hC3 hL3 hG3 LQ;rw[HCO.out]
    by_cases h2:co=0
    ·subst h2
     go_wp2
     go_roundg (Es.length-(i+1))
     case measure=>omega
     case rel=>
      refine ⟨i+1,_,by omega,rfl,by go_num,?_,L3.out,((HC.out.trans' (wL.of_below B1.out)).trans' G2.out).trans' G3.out,by show (zC s'.ns nm).2.length<=_;omega,HI'.out,uB HO'.out _ _⟩
      rw[HEQ.out,HDR.out];show (if _ then _ else _)=_
      rw[if_pos HCE.out,if_pos HCO.out]
    have e2:(co !=0)=true:=by simpa using h2
    go_wp2_with (refine zP _ rfl (.tmp 4) (.tmp 38) rfl rfl w.heap.size _ _ _ _ _ _ _ _ rfl rfl R3.out ?_;intro w9 hNF hUF;have NF:=zZ hNF;have UF:=zZ hUF;clear hNF hUF)
    have z0:w9.cell? ⟨w.heap.size,0,none⟩=some (.int .i64 co):=NF.out.cell rfl;have z1:w9.cell? ⟨w.heap.size,1,none⟩=some (.int .u8 4):=NF.out.cell rfl;have z2:w9.cell? ⟨w.heap.size,2,none⟩=some (.int .i64 (i:Int)):=NF.out.cell rfl;have z3:w9.cell? ⟨w.heap.size,3,none⟩=some (.int .u8 1):=NF.out.cell rfl;refine bodyPost_ret (v:=.agg #[.int .i64 co,.int .u8 4,.int .i64 (i:Int),.int .u8 1]) (by simp[results,Tryz.results79,go_sem,z0,z1,z2,z3]) rfl ?_
    refine ⟨?_,?_,?_⟩
    ·rw [HEQ.out,HDR.out]
     show _=Ending.returned (WS (if _ then _ else _:FL × LS).1);rw[if_pos HCE.out,if_neg (by rw[HCO.out];exact h2),HCO.out];rfl
    ·rw [HEQ.out,HDR.out]
     show ((if _ then _ else _:FL × LS).1).code=0->_;rw[if_pos HCE.out,if_neg (by rw[HCO.out];exact h2),HCO.out]
     exact fun e=>absurd e h2
    exact (((((wL.of_below BA.out).trans' HC.out).trans' (wL.of_below B1.out)).trans' G2.out).trans' G3.out).trans (UF.out.chg (F:=fun k=>k=w.heap.size) rfl) fun k hk=>.inr (by omega)
   have e2:(ce !=0)=true:=by simpa using h1
   go_wp2_with (first
    |(refine zP _ rfl (.tmp 4) (.tmp 24) rfl rfl w.heap.size _ _ _ _ _ _ _ _ rfl rfl R2.out ?_;intro w9 hNF hUF;have NF:=zZ hNF;have UF:=zZ hUF;clear hNF hUF)
    |(refine rS _ rfl (.tmp 6) (.tmp 15) rfl rfl wr.heap.size _ _ _ _ _ _ rfl rfl (zL 81 wr #[qE,.int .i64 0,.int .i64 0]) ?_;intro w1 hNA hUA;have X1:=zZ hNA;have b1:=((Below.refl wr.heap.size wr).alloc (Nat.le_refl _) (.cells #[qE,.int .i64 0,.int .i64 0] 81)).trans (hUA.below (Nat.le_refl _) (by simp));have B1:=zZ b1;have L1:=zZ (HLED.out.below b1);have R1:=zZ (NRW.out.below b1);have y0:w1.cell? ⟨wr.heap.size,0,none⟩=some (.string (zW nm)):=hNA.cell rfl;clear hNA hUA b1)
    |(go_at_call 123;(with_reducible refine (rU F w1 b s' nm L1.out (by omega)).mono ?_);rintro e w2 ⟨rfl,hL2,hG2⟩;have L2:=zZ hL2;have G2:=zZ hG2;have X2:=zZ (X1.out.keep (hG2.block _ X1.out.lt (fun e=>by have:=HLED.out.low _ e;omega)));have R2:=zZ (R1.out.keep (hG2.block _ R1.out.lt HNR.out));rw[HCE.out];clear hL2 hG2 y0))
   have z0:w9.cell? ⟨w.heap.size,0,none⟩=some (.int .i64 ce):=NF.out.cell rfl;have z1:w9.cell? ⟨w.heap.size,1,none⟩=some (.int .u8 4):=NF.out.cell rfl;have z2:w9.cell? ⟨w.heap.size,2,none⟩=some (.int .i64 (i:Int)):=NF.out.cell rfl;have z3:w9.cell? ⟨w.heap.size,3,none⟩=some (.int .u8 0):=NF.out.cell rfl;refine bodyPost_ret (v:=.agg #[.int .i64 ce,.int .u8 4,.int .i64 (i:Int),.int .u8 0]) (by simp[results,Tryz.results79,go_sem,z0,z1,z2,z3]) rfl ?_
   refine ⟨?_,?_,?_⟩
   ·rw [HEQ.out,HDR.out]
    show _=Ending.returned (WS (if _ then _ else _:FL × LS).1);rw[if_neg (by rw[HCE.out];exact h1),HCE.out];rfl
   ·rw [HEQ.out,HDR.out]
    show ((if _ then _ else _:FL × LS).1).code=0->_;rw[if_neg (by rw[HCE.out];exact h1),HCE.out]
    exact fun e=>absurd e h1
   exact ((((wL.of_below BA.out).trans' HC.out).trans' (wL.of_below B1.out)).trans' G2.out).trans (UF.out.chg (F:=fun k=>k=w.heap.size) rfl) fun k hk=>.inr (by omega)
  have hii:¬(i:Int)<(Es.length:Int):=by omega
  have ei:i=Es.length:=by omega
  go_wp2_with (refine zP _ rfl (.tmp 4) (.tmp 40) rfl rfl w.heap.size _ _ _ _ _ _ _ _ rfl rfl NRW.out ?_;intro w9 hNF hUF;have NF:=zZ hNF;have UF:=zZ hUF;clear hNF hUF)
  have z0:w9.cell? ⟨w.heap.size,0,none⟩=some (.int .i64 0):=NF.out.cell rfl;have z1:w9.cell? ⟨w.heap.size,1,none⟩=some (.int .u8 0):=NF.out.cell rfl;have z2:w9.cell? ⟨w.heap.size,2,none⟩=some (.int .i64 0):=NF.out.cell rfl;have z3:w9.cell? ⟨w.heap.size,3,none⟩=some (.int .u8 0):=NF.out.cell rfl;refine bodyPost_ret (v:=.agg #[.int .i64 0,.int .u8 0,.int .i64 0,.int .u8 0]) (by simp[results,Tryz.results79,go_sem,z0,z1,z2,z3]) rfl ?_
  refine ⟨?_,?_,?_⟩
  ·rw [HEQ.out,ei,List.drop_length]
   rfl
  ·rw [HEQ.out,ei,List.drop_length]
   exact fun _=>⟨F,HLED.out.keep (fun k hk=>UF.out.block k (HLED.out.low k hk) (fun e=>HNR.out (e ▸ hk))) UF.out.size,fun k hk=>.inl hk⟩
  exact ((wL.of_below BA.out).trans' HC.out).trans (UF.out.chg (F:=fun k=>k=w.heap.size) rfl) fun k hk=>.inr (by omega)
theorem XG (F:Nat->Prop) (w:World) (b:Nat) (s:LS) (a:Option Addr) (n cap:Nat) (h:jX F w b s) (hI:xT s.I) (hO:xT s.O) (h1:n<=s.I.length) (h2:n<=s.O.length):
 Calls Tryz.prog 80 #[(qP b),.slice a n cap] w fun e w'=>e=.returned (WS (lG s.I s.O n 0))/\Below w.heap.size w w':=by
 have ba:=(Below.refl w.heap.size w).alloc (Nat.le_refl _) (.cells #[.int .i64 0,.int .u8 0,.int .i64 0,.int .u8 0] 85);have BA:=zZ ba;have NR:=zZ (zL 85 w #[.int .i64 0,.int .u8 0,.int .i64 0,.int .u8 0]);obtain ⟨m,v1,v2,F1,F2,hP⟩:=h.below ba;obtain ⟨vx,vc,rfl⟩:=hP.ins.slice;obtain ⟨wx,wc,rfl⟩:=hP.outs.slice
 have GI:Hid (∀ i,i<n->Calls Tryz.prog 126 #[.slice vx s.I.length vc,.int .i64 (i:Int)] (w.alloc (.cells #[.int .i64 0,.int .u8 0,.int .i64 0,.int .u8 0] 85)) fun e w'=>e=.returned (.bool (hY s.I i))/\w'=w.alloc (.cells #[.int .i64 0,.int .u8 0,.int .i64 0,.int .u8 0] 85)):=fun i hi=>PT F1 _ _ s.I i hP.ins (by omega) (by have:=hI.1;omega) (fun j=>by have:=hI.2 j;omega)
 have GO:Hid (∀ i,i<n->Calls Tryz.prog 126 #[.slice wx s.O.length wc,.int .i64 (i:Int)] (w.alloc (.cells #[.int .i64 0,.int .u8 0,.int .i64 0,.int .u8 0] 85)) fun e w'=>e=.returned (.bool (hY s.O i))/\w'=w.alloc (.cells #[.int .i64 0,.int .u8 0,.int .i64 0,.int .u8 0] 85)):=fun i hi=>PT F2 _ _ s.O i hP.outs (by omega) (by have:=hO.1;omega) (fun j=>by have:=hO.2 j;omega)
 have y1:=hP.blk.cell (k:=1) rfl;have y2:=hP.blk.cell (k:=2) rfl
 have hnn:(n:Int)<=200:=by have:=hI.1;omega
 clear h hP hI hO ba h1 h2
 go_enter Tryz.func80,Tryz.ntmps80
 go_upto_region 1 with fail
 generalize w.alloc (.cells #[.int .i64 0,.int .u8 0,.int .i64 0,.int .u8 0] 85)=W0 at *
 go_wp2
 go_loopg [8] n (fun gk v wr=>∃i:Nat,i<=n/\gk=n-i/\v=.int .i64 (i:Int)/\wr=W0/\lG s.I s.O n 0=lG s.I s.O (n-i) i)
 case atStart=>exact ⟨0,Nat.zero_le _,rfl,rfl,rfl,rfl⟩
 case round=>
  obtain ⟨i,hi,rfl,rfl,rfl,hEq⟩:=hrel;have HEQ:=zZ hEq;clear hEq
  by_cases hlt:i<n
  ·have hii:(i:Int)<(n:Int):=by omega
   have HGI:=zZ (GI.out i hlt);have HGO:=zZ (GO.out i hlt)
   have HU:Hid (lG s.I s.O (n-i) i=if hY s.I i=true\/hY s.O i=true then ⟨87,1,i,0⟩ else lG s.I s.O (n-(i+1)) (i+1)):=by
    show _=_;obtain ⟨q,hq⟩:∃q,n-i=q+1:=⟨n-i-1,by omega⟩;rw[hq,show n-(i+1)=q by omega];rfl
   generalize hY s.I i=p1 at *;generalize hY s.O i=p2 at *
   cases p1
   ·cases p2
    ·go_wp2_with (first
      |(go_at_call 126;(with_reducible refine HGI.out.mono ?_);rintro e w' ⟨rfl,rfl⟩)
      |(go_at_call 126;(with_reducible refine HGO.out.mono ?_);rintro e w' ⟨rfl,rfl⟩))
     go_roundg (n-(i+1))
     case measure=>omega
     case rel=>exact ⟨i+1,by omega,rfl,by go_num,rfl,by rw[HEQ.out,HU.out];rfl⟩
    go_wp2_with (first
     |(refine zP _ rfl (.tmp 4) (.tmp 26) rfl rfl w.heap.size _ _ _ _ _ _ _ _ rfl rfl NR.out ?_;intro w9 hNF hUF;have NF:=zZ hNF;have UF:=zZ hUF;clear hNF hUF)
     |(go_at_call 126;(with_reducible refine HGI.out.mono ?_);rintro e w' ⟨rfl,rfl⟩)
     |(go_at_call 126;(with_reducible refine HGO.out.mono ?_);rintro e w' ⟨rfl,rfl⟩))
    have z0:w9.cell? ⟨w.heap.size,0,none⟩=some (.int .i64 87):=NF.out.cell rfl;have z1:w9.cell? ⟨w.heap.size,1,none⟩=some (.int .u8 1):=NF.out.cell rfl;have z2:w9.cell? ⟨w.heap.size,2,none⟩=some (.int .i64 (i:Int)):=NF.out.cell rfl;have z3:w9.cell? ⟨w.heap.size,3,none⟩=some (.int .u8 0):=NF.out.cell rfl;refine bodyPost_ret (v:=.agg #[.int .i64 87,.int .u8 1,.int .i64 (i:Int),.int .u8 0]) (by simp[results,Tryz.results80,go_sem,z0,z1,z2,z3]) rfl ?_
    exact ⟨by rw[HEQ.out,HU.out];rfl,BA.out.trans (UF.out.below (Nat.le_refl _) BA.out.size)⟩
   go_wp2_with (first
    |(refine zP _ rfl (.tmp 4) (.tmp 26) rfl rfl w.heap.size _ _ _ _ _ _ _ _ rfl rfl NR.out ?_;intro w9 hNF hUF;have NF:=zZ hNF;have UF:=zZ hUF;clear hNF hUF)
    |(go_at_call 126;(with_reducible refine HGI.out.mono ?_);rintro e w' ⟨rfl,rfl⟩))
   have z0:w9.cell? ⟨w.heap.size,0,none⟩=some (.int .i64 87):=NF.out.cell rfl;have z1:w9.cell? ⟨w.heap.size,1,none⟩=some (.int .u8 1):=NF.out.cell rfl;have z2:w9.cell? ⟨w.heap.size,2,none⟩=some (.int .i64 (i:Int)):=NF.out.cell rfl;have z3:w9.cell? ⟨w.heap.size,3,none⟩=some (.int .u8 0):=NF.out.cell rfl;refine bodyPost_ret (v:=.agg #[.int .i64 87,.int .u8 1,.int .i64 (i:Int),.int .u8 0]) (by simp[results,Tryz.results80,go_sem,z0,z1,z2,z3]) rfl ?_
   exact ⟨by rw[HEQ.out,HU.out,if_pos (by simp)];rfl,BA.out.trans (UF.out.below (Nat.le_refl _) BA.out.size)⟩
  have hii:¬(i:Int)<(n:Int):=by omega
  have ei:n-i=0:=by omega
  go_wp2_with (refine zP _ rfl (.tmp 4) (.tmp 28) rfl rfl w.heap.size _ _ _ _ _ _ _ _ rfl rfl NR.out ?_;intro w9 hNF hUF;have NF:=zZ hNF;have UF:=zZ hUF;clear hNF hUF)
  have z0:w9.cell? ⟨w.heap.size,0,none⟩=some (.int .i64 0):=NF.out.cell rfl;have z1:w9.cell? ⟨w.heap.size,1,none⟩=some (.int .u8 0):=NF.out.cell rfl;have z2:w9.cell? ⟨w.heap.size,2,none⟩=some (.int .i64 0):=NF.out.cell rfl;have z3:w9.cell? ⟨w.heap.size,3,none⟩=some (.int .u8 0):=NF.out.cell rfl;refine bodyPost_ret (v:=.agg #[.int .i64 0,.int .u8 0,.int .i64 0,.int .u8 0]) (by simp[results,Tryz.results80,go_sem,z0,z1,z2,z3]) rfl ?_
  exact ⟨by rw[HEQ.out,ei];rfl,BA.out.trans (UF.out.below (Nat.le_refl _) BA.out.size)⟩
def SurE (w:World) (k:Int) (n:Int) (e:Ending) (w':World):Prop:=e=.returned (.agg #[.int .i64 81,.int .u8 k,.int .i64 n,.int .u8 0])/\Below w.heap.size w w'
theorem oK (k n:Int) (w:World):Calls Tryz.prog 122 #[.int .u8 k,.int .i64 n] w (SurE w k n):=by
 have BA:=zZ ((Below.refl w.heap.size w).alloc (Nat.le_refl _) (.cells #[.int .i64 0,.int .u8 0,.int .i64 0,.int .u8 0] 85));have NR:=zZ (zL 85 w #[.int .i64 0,.int .u8 0,.int .i64 0,.int .u8 0])
 go_enter Tryz.func122,Tryz.ntmps122
 go_upto_region 1 with fail
 generalize w.alloc (.cells #[.int .i64 0,.int .u8 0,.int .i64 0,.int .u8 0] 85)=W0 at *
 go_wp2_with (refine zP _ rfl (.tmp 4) (.tmp 7) rfl rfl w.heap.size _ _ _ _ _ _ _ _ rfl rfl NR.out ?_;intro w9 hNF hUF;have NF:=zZ hNF;have UF:=zZ hUF;clear hNF hUF)
 have z0:w9.cell? ⟨w.heap.size,0,none⟩=some (.int .i64 81):=NF.out.cell rfl;have z1:w9.cell? ⟨w.heap.size,1,none⟩=some (.int .u8 k):=NF.out.cell rfl;have z2:w9.cell? ⟨w.heap.size,2,none⟩=some (.int .i64 n):=NF.out.cell rfl;have z3:w9.cell? ⟨w.heap.size,3,none⟩=some (.int .u8 0):=NF.out.cell rfl;refine bodyPost_ret (v:=.agg #[.int .i64 81,.int .u8 k,.int .i64 n,.int .u8 0]) (by simp[results,Tryz.results122,go_sem,z0,z1,z2,z3]) rfl ?_
 exact ⟨rfl,BA.out.trans (UF.out.below (Nat.le_refl _) BA.out.size)⟩
theorem XF (g:GG) (a1 a2 a3 a4:Option Addr) (c1 c2 c3 c4:Nat) (w:World) (l1:g.A.length<=1000000000000000) (l2:g.E.length<=1000000000000000) (l3:g.ins.length<=1000000000000000) (l4:g.outs.length<=1000000000000000):
 Calls Tryz.prog 75 #[.agg #[.string (zW g.name),.slice a1 g.A.length c1,.slice a2 g.E.length c2,.slice a3 g.ins.length c3,.slice a4 g.outs.length c4]] w fun e w'=>e=.returned (WS (rZ g))/\Below w.heap.size w w':=by
 have ba:=((Below.refl w.heap.size w).alloc (Nat.le_refl _) (.cells #[.string (zW g.name),.slice a1 g.A.length c1,.slice a2 g.E.length c2,.slice a3 g.ins.length c3,.slice a4 g.outs.length c4] 26)).alloc (by simp) (.cells #[.int .i64 0,.int .u8 0,.int .i64 0,.int .u8 0] 85);have BA:=zZ ba;have gg:=(zL 26 w #[.string (zW g.name),.slice a1 g.A.length c1,.slice a2 g.E.length c2,.slice a3 g.ins.length c3,.slice a4 g.outs.length c4]).below ((Below.refl _ _).alloc (Nat.le_refl _) (.cells #[.int .i64 0,.int .u8 0,.int .i64 0,.int .u8 0] 85))
 have nr:zD 85 (w.heap.size+1) ((w.alloc (.cells #[.string (zW g.name),.slice a1 g.A.length c1,.slice a2 g.E.length c2,.slice a3 g.ins.length c3,.slice a4 g.outs.length c4] 26)).alloc (.cells #[.int .i64 0,.int .u8 0,.int .i64 0,.int .u8 0] 85)) #[.int .i64 0,.int .u8 0,.int .i64 0,.int .u8 0]:=by
  have h3:=zL 85 (w.alloc (.cells #[.string (zW g.name),.slice a1 g.A.length c1,.slice a2 g.E.length c2,.slice a3 g.ins.length c3,.slice a4 g.outs.length c4] 26)) #[.int .i64 0,.int .u8 0,.int .i64 0,.int .u8 0];rw[World.size_alloc]at h3;exact h3
 have HG:=zZ gg;have NR:=zZ nr;have NM:=zZ (uG g.name);have y0:=gg.cell (k:=0) rfl;clear ba gg nr;obtain ⟨n1,h1⟩:∃q,g.A.length=q:=⟨_,rfl⟩;obtain ⟨n2,h2⟩:∃q,g.E.length=q:=⟨_,rfl⟩;obtain ⟨n3,h3⟩:∃q,g.ins.length=q:=⟨_,rfl⟩;obtain ⟨n4,h4⟩:∃q,g.outs.length=q:=⟨_,rfl⟩;obtain ⟨nb,hnb⟩:∃q,yO g.name=q:=⟨_,rfl⟩
 have hd:rZ g=if nb=false then ⟨82,0,0,0⟩ else if n1=0 then ⟨80,0,0,0⟩ else if 32<n1 then ⟨81,1,32,0⟩ else if 96<n2 then ⟨81,2,96,0⟩ else if 16<n3 then ⟨81,3,16,0⟩ else if 16<n4 then ⟨81,4,16,0⟩ else DI:=by
  unfold rZ;rw[h1,h2,h3,h4,hnb]
 have HD:=zZ hd;rw[hnb]at NM;rw[h1,h2,h3,h4]at BA HG NR y0;rw[h1]at l1;rw[h2]at l2;rw[h3]at l3;rw[h4]at l4;rw[h1,h2,h3,h4];clear hd h1 h2 h3 h4 hnb
 cases nb
 ·go_enter Tryz.func75,Tryz.ntmps75
  go_upto_region 1 with fail
  generalize (w.alloc (.cells #[.string (zW g.name),.slice a1 n1 c1,.slice a2 n2 c2,.slice a3 n3 c3,.slice a4 n4 c4] 26)).alloc (.cells #[.int .i64 0,.int .u8 0,.int .i64 0,.int .u8 0] 85)=W0 at *
  go_wp2_with (first|(refine zP _ rfl (.tmp 2) (.tmp 8) rfl rfl (w.heap.size+1) _ _ _ _ _ _ _ _ rfl rfl N1.out ?_;intro w9 hNF hUF;have NF:=zZ hNF;have UF:=zZ hUF;clear hNF hUF)|(go_at_call 111;(with_reducible refine (NM.out W0).mono ?_);rintro e w1 ⟨rfl,b1⟩;have G1:=HG.out.below b1;have N1:=zZ (NR.out.below b1);have B1:=zZ b1;obtain ⟨-,x1,x2,x3,x4⟩:=qC5 G1;clear G1 b1 y0))
  have z0:w9.cell? ⟨w.heap.size+1,0,none⟩=some (.int .i64 82):=NF.out.cell rfl;have z1:w9.cell? ⟨w.heap.size+1,1,none⟩=some (.int .u8 0):=NF.out.cell rfl;have z2:w9.cell? ⟨w.heap.size+1,2,none⟩=some (.int .i64 0):=NF.out.cell rfl;have z3:w9.cell? ⟨w.heap.size+1,3,none⟩=some (.int .u8 0):=NF.out.cell rfl;refine bodyPost_ret (v:=.agg #[.int .i64 82,.int .u8 0,.int .i64 0,.int .u8 0]) (by simp[results,Tryz.results75,go_sem,z0,z1,z2,z3]) rfl ?_
  have p1:=BA.out.trans (B1.out.mono BA.out.size);exact ⟨by rw[HD.out,if_pos (by simp)];rfl,p1.trans (UF.out.below (Nat.le_succ _) p1.size)⟩
 skip
 by_cases k0:n1=0
 ·have i0:(n1:Int)=0:=by omega
  have j0:((n1:Int)==0)=true:=by simpa using i0
  have K0:=zZ k0;clear i0 k0
  go_enter Tryz.func75,Tryz.ntmps75
  go_upto_region 1 with fail
  generalize (w.alloc (.cells #[.string (zW g.name),.slice a1 n1 c1,.slice a2 n2 c2,.slice a3 n3 c3,.slice a4 n4 c4] 26)).alloc (.cells #[.int .i64 0,.int .u8 0,.int .i64 0,.int .u8 0] 85)=W0 at *
  go_wp2_with (first|(refine zP _ rfl (.tmp 2) (.tmp 14) rfl rfl (w.heap.size+1) _ _ _ _ _ _ _ _ rfl rfl N1.out ?_;intro w9 hNF hUF;have NF:=zZ hNF;have UF:=zZ hUF;clear hNF hUF)|(go_at_call 111;(with_reducible refine (NM.out W0).mono ?_);rintro e w1 ⟨rfl,b1⟩;have G1:=HG.out.below b1;have N1:=zZ (NR.out.below b1);have B1:=zZ b1;obtain ⟨-,x1,x2,x3,x4⟩:=qC5 G1;clear G1 b1 y0))
  have z0:w9.cell? ⟨w.heap.size+1,0,none⟩=some (.int .i64 80):=NF.out.cell rfl;have z1:w9.cell? ⟨w.heap.size+1,1,none⟩=some (.int .u8 0):=NF.out.cell rfl;have z2:w9.cell? ⟨w.heap.size+1,2,none⟩=some (.int .i64 0):=NF.out.cell rfl;have z3:w9.cell? ⟨w.heap.size+1,3,none⟩=some (.int .u8 0):=NF.out.cell rfl;refine bodyPost_ret (v:=.agg #[.int .i64 80,.int .u8 0,.int .i64 0,.int .u8 0]) (by simp[results,Tryz.results75,go_sem,z0,z1,z2,z3]) rfl ?_
  have p1:=BA.out.trans (B1.out.mono BA.out.size);exact ⟨by rw[HD.out,if_neg (by simp),if_pos K0.out];rfl,p1.trans (UF.out.below (Nat.le_succ _) p1.size)⟩
 have i0:¬(n1:Int)=0:=by omega
 have j0:((n1:Int)==0)=false:=by simpa using i0
 by_cases k1:32<n1
 ·have i1:(32:Int)<(n1:Int):=by omega
  go_enter Tryz.func75,Tryz.ntmps75
  go_upto_region 1 with fail
  generalize (w.alloc (.cells #[.string (zW g.name),.slice a1 n1 c1,.slice a2 n2 c2,.slice a3 n3 c3,.slice a4 n4 c4] 26)).alloc (.cells #[.int .i64 0,.int .u8 0,.int .i64 0,.int .u8 0] 85)=W0 at *
  go_wp2_with (first|(refine zP _ rfl (.tmp 2) (.tmp 20) rfl rfl (w.heap.size+1) _ _ _ _ _ _ _ _ rfl rfl N2.out ?_;intro w9 hNF hUF;have NF:=zZ hNF;have UF:=zZ hUF;clear hNF hUF)|(go_at_call 111;(with_reducible refine (NM.out W0).mono ?_);rintro e w1 ⟨rfl,b1⟩;have G1:=HG.out.below b1;have N1:=zZ (NR.out.below b1);have B1:=zZ b1;obtain ⟨-,x1,x2,x3,x4⟩:=qC5 G1;clear G1 b1 y0)|(go_at_call 122;(with_reducible refine (oK 1 32 w1).mono ?_);rintro e w2 ⟨rfl,b2⟩;have B2:=zZ b2;have N2:=zZ (N1.out.below b2);clear b2))
  have z0:w9.cell? ⟨w.heap.size+1,0,none⟩=some (.int .i64 81):=NF.out.cell rfl;have z1:w9.cell? ⟨w.heap.size+1,1,none⟩=some (.int .u8 1):=NF.out.cell rfl;have z2:w9.cell? ⟨w.heap.size+1,2,none⟩=some (.int .i64 32):=NF.out.cell rfl;have z3:w9.cell? ⟨w.heap.size+1,3,none⟩=some (.int .u8 0):=NF.out.cell rfl;refine bodyPost_ret (v:=.agg #[.int .i64 81,.int .u8 1,.int .i64 32,.int .u8 0]) (by simp[results,Tryz.results75,go_sem,z0,z1,z2,z3]) rfl ?_
  have p1:=BA.out.trans (B1.out.mono BA.out.size);have p2:=p1.trans (B2.out.mono p1.size);exact ⟨by rw[HD.out,if_neg (by simp),if_neg k0,if_pos k1];rfl,p2.trans (UF.out.below (Nat.le_succ _) p2.size)⟩
 have i1:¬(32:Int)<(n1:Int):=by omega
 by_cases k2:96<n2
 ·have i2:(96:Int)<(n2:Int):=by omega
  go_enter Tryz.func75,Tryz.ntmps75
  go_upto_region 1 with fail
  generalize (w.alloc (.cells #[.string (zW g.name),.slice a1 n1 c1,.slice a2 n2 c2,.slice a3 n3 c3,.slice a4 n4 c4] 26)).alloc (.cells #[.int .i64 0,.int .u8 0,.int .i64 0,.int .u8 0] 85)=W0 at *
  go_wp2_with (first|(refine zP _ rfl (.tmp 2) (.tmp 26) rfl rfl (w.heap.size+1) _ _ _ _ _ _ _ _ rfl rfl N2.out ?_;intro w9 hNF hUF;have NF:=zZ hNF;have UF:=zZ hUF;clear hNF hUF)|(go_at_call 111;(with_reducible refine (NM.out W0).mono ?_);rintro e w1 ⟨rfl,b1⟩;have G1:=HG.out.below b1;have N1:=zZ (NR.out.below b1);have B1:=zZ b1;obtain ⟨-,x1,x2,x3,x4⟩:=qC5 G1;clear G1 b1 y0)|(go_at_call 122;(with_reducible refine (oK 2 96 w1).mono ?_);rintro e w2 ⟨rfl,b2⟩;have B2:=zZ b2;have N2:=zZ (N1.out.below b2);clear b2))
  have z0:w9.cell? ⟨w.heap.size+1,0,none⟩=some (.int .i64 81):=NF.out.cell rfl;have z1:w9.cell? ⟨w.heap.size+1,1,none⟩=some (.int .u8 2):=NF.out.cell rfl;have z2:w9.cell? ⟨w.heap.size+1,2,none⟩=some (.int .i64 96):=NF.out.cell rfl;have z3:w9.cell? ⟨w.heap.size+1,3,none⟩=some (.int .u8 0):=NF.out.cell rfl;refine bodyPost_ret (v:=.agg #[.int .i64 81,.int .u8 2,.int .i64 96,.int .u8 0]) (by simp[results,Tryz.results75,go_sem,z0,z1,z2,z3]) rfl ?_
  have p1:=BA.out.trans (B1.out.mono BA.out.size);have p2:=p1.trans (B2.out.mono p1.size);exact ⟨by rw[HD.out,if_neg (by simp),if_neg k0,if_neg k1,if_pos k2];rfl,p2.trans (UF.out.below (Nat.le_succ _) p2.size)⟩
 have i2:¬(96:Int)<(n2:Int):=by omega
 by_cases k3:16<n3
 ·have i3:(16:Int)<(n3:Int):=by omega
  go_enter Tryz.func75,Tryz.ntmps75
  go_upto_region 1 with fail
  generalize (w.alloc (.cells #[.string (zW g.name),.slice a1 n1 c1,.slice a2 n2 c2,.slice a3 n3 c3,.slice a4 n4 c4] 26)).alloc (.cells #[.int .i64 0,.int .u8 0,.int .i64 0,.int .u8 0] 85)=W0 at *
  go_wp2_with (first|(refine zP _ rfl (.tmp 2) (.tmp 32) rfl rfl (w.heap.size+1) _ _ _ _ _ _ _ _ rfl rfl N2.out ?_;intro w9 hNF hUF;have NF:=zZ hNF;have UF:=zZ hUF;clear hNF hUF)|(go_at_call 111;(with_reducible refine (NM.out W0).mono ?_);rintro e w1 ⟨rfl,b1⟩;have G1:=HG.out.below b1;have N1:=zZ (NR.out.below b1);have B1:=zZ b1;obtain ⟨-,x1,x2,x3,x4⟩:=qC5 G1;clear G1 b1 y0)|(go_at_call 122;(with_reducible refine (oK 3 16 w1).mono ?_);rintro e w2 ⟨rfl,b2⟩;have B2:=zZ b2;have N2:=zZ (N1.out.below b2);clear b2))
  have z0:w9.cell? ⟨w.heap.size+1,0,none⟩=some (.int .i64 81):=NF.out.cell rfl;have z1:w9.cell? ⟨w.heap.size+1,1,none⟩=some (.int .u8 3):=NF.out.cell rfl;have z2:w9.cell? ⟨w.heap.size+1,2,none⟩=some (.int .i64 16):=NF.out.cell rfl;have z3:w9.cell? ⟨w.heap.size+1,3,none⟩=some (.int .u8 0):=NF.out.cell rfl;refine bodyPost_ret (v:=.agg #[.int .i64 81,.int .u8 3,.int .i64 16,.int .u8 0]) (by simp[results,Tryz.results75,go_sem,z0,z1,z2,z3]) rfl ?_
  have p1:=BA.out.trans (B1.out.mono BA.out.size);have p2:=p1.trans (B2.out.mono p1.size);exact ⟨by rw[HD.out,if_neg (by simp),if_neg k0,if_neg k1,if_neg k2,if_pos k3];rfl,p2.trans (UF.out.below (Nat.le_succ _) p2.size)⟩
 have i3:¬(16:Int)<(n3:Int):=by omega
 by_cases k4:16<n4
 ·have i4:(16:Int)<(n4:Int):=by omega
  go_enter Tryz.func75,Tryz.ntmps75
  go_upto_region 1 with fail
  generalize (w.alloc (.cells #[.string (zW g.name),.slice a1 n1 c1,.slice a2 n2 c2,.slice a3 n3 c3,.slice a4 n4 c4] 26)).alloc (.cells #[.int .i64 0,.int .u8 0,.int .i64 0,.int .u8 0] 85)=W0 at *
  go_wp2_with (first|(refine zP _ rfl (.tmp 2) (.tmp 38) rfl rfl (w.heap.size+1) _ _ _ _ _ _ _ _ rfl rfl N2.out ?_;intro w9 hNF hUF;have NF:=zZ hNF;have UF:=zZ hUF;clear hNF hUF)|(go_at_call 111;(with_reducible refine (NM.out W0).mono ?_);rintro e w1 ⟨rfl,b1⟩;have G1:=HG.out.below b1;have N1:=zZ (NR.out.below b1);have B1:=zZ b1;obtain ⟨-,x1,x2,x3,x4⟩:=qC5 G1;clear G1 b1 y0)|(go_at_call 122;(with_reducible refine (oK 4 16 w1).mono ?_);rintro e w2 ⟨rfl,b2⟩;have B2:=zZ b2;have N2:=zZ (N1.out.below b2);clear b2))
  have z0:w9.cell? ⟨w.heap.size+1,0,none⟩=some (.int .i64 81):=NF.out.cell rfl;have z1:w9.cell? ⟨w.heap.size+1,1,none⟩=some (.int .u8 4):=NF.out.cell rfl;have z2:w9.cell? ⟨w.heap.size+1,2,none⟩=some (.int .i64 16):=NF.out.cell rfl;have z3:w9.cell? ⟨w.heap.size+1,3,none⟩=some (.int .u8 0):=NF.out.cell rfl;refine bodyPost_ret (v:=.agg #[.int .i64 81,.int .u8 4,.int .i64 16,.int .u8 0]) (by simp[results,Tryz.results75,go_sem,z0,z1,z2,z3]) rfl ?_
  have p1:=BA.out.trans (B1.out.mono BA.out.size);have p2:=p1.trans (B2.out.mono p1.size);exact ⟨by rw[HD.out,if_neg (by simp),if_neg k0,if_neg k1,if_neg k2,if_neg k3,if_pos k4];rfl,p2.trans (UF.out.below (Nat.le_succ _) p2.size)⟩
 have i4:¬(16:Int)<(n4:Int):=by omega
 go_enter Tryz.func75,Tryz.ntmps75
 go_upto_region 1 with fail
 generalize (w.alloc (.cells #[.string (zW g.name),.slice a1 n1 c1,.slice a2 n2 c2,.slice a3 n3 c3,.slice a4 n4 c4] 26)).alloc (.cells #[.int .i64 0,.int .u8 0,.int .i64 0,.int .u8 0] 85)=W0 at *
 go_wp2_with (first|(refine zP _ rfl (.tmp 2) (.tmp 39) rfl rfl (w.heap.size+1) _ _ _ _ _ _ _ _ rfl rfl N1.out ?_;intro w9 hNF hUF;have NF:=zZ hNF;have UF:=zZ hUF;clear hNF hUF)|(go_at_call 111;(with_reducible refine (NM.out W0).mono ?_);rintro e w1 ⟨rfl,b1⟩;have G1:=HG.out.below b1;have N1:=zZ (NR.out.below b1);have B1:=zZ b1;obtain ⟨-,x1,x2,x3,x4⟩:=qC5 G1;clear G1 b1 y0))
 have z0:w9.cell? ⟨w.heap.size+1,0,none⟩=some (.int .i64 0):=NF.out.cell rfl;have z1:w9.cell? ⟨w.heap.size+1,1,none⟩=some (.int .u8 0):=NF.out.cell rfl;have z2:w9.cell? ⟨w.heap.size+1,2,none⟩=some (.int .i64 0):=NF.out.cell rfl;have z3:w9.cell? ⟨w.heap.size+1,3,none⟩=some (.int .u8 0):=NF.out.cell rfl;refine bodyPost_ret (v:=.agg #[.int .i64 0,.int .u8 0,.int .i64 0,.int .u8 0]) (by simp[results,Tryz.results75,go_sem,z0,z1,z2,z3]) rfl ?_
 have p1:=BA.out.trans (B1.out.mono BA.out.size);exact ⟨by rw[HD.out,if_neg (by simp),if_neg k0,if_neg k1,if_neg k2,if_neg k3,if_neg k4];rfl,p1.trans (UF.out.below (Nat.le_succ _) p1.size)⟩
def rR (R:List (List Bool)):Prop:=∀j,(wD R j).length<=1024
theorem UO {R:List (List Bool)} {n:Nat} (h:rR R) (hn:n<=1024):rR (R++[List.replicate n false]):=fun j=>by
 by_cases h1:j<R.length
 ·rw [pM h1];exact h j
 by_cases h2:j=R.length
 ·subst h2;rw[nP,List.length_replicate];exact hn
 unfold wD;rw[List.getD_eq_getElem?_getD,List.getElem?_eq_none (by simp;omega)];exact Nat.zero_le _
theorem MN {s:LS} {t:Nat} {zs:List Int} (h:(vP s t zs).1=0) (hI:rR s.I) (hO:rR s.O):(vP s t zs).2.ns=s.ns/\(vP s t zs).2.I.length=s.I.length+1/\(vP s t zs).2.O.length=s.O.length+1/\rR (vP s t zs).2.I/\rR (vP s t zs).2.O:=by
 have hs:=UU t zs;unfold vP at h ⊢
 by_cases h0:(aY t zs).2.2=0
 ·rw [if_pos h0]
  exact ⟨rfl,by simp,by simp,UO hI hs.1,UO hO hs.2⟩
 rw[if_neg h0]at h;exact absurd h h0
theorem eM:∀(As:List GA) (i:Nat) (s:LS),rR s.I->rR s.O->(vM As i s).1.code=0->(vM As i s).2.I.length=s.I.length+As.length/\(vM As i s).2.O.length=s.O.length+As.length/\rR (vM As i s).2.I/\rR (vM As i s).2.O/\(vM As i s).2.ns.length<=s.ns.length+As.length
 |[],i,s,hI,hO,_=>⟨rfl,rfl,hI,hO,Nat.le_refl _⟩
 |a::r,i,s,hI,hO,h=>by
  have e:vM (a::r) i s=if (zC s.ns a.name).1=0 then (if (vP ⟨(zC s.ns a.name).2,s.I,s.O⟩ a.tag a.params).1=0 then vM r (i+1) (vP ⟨(zC s.ns a.name).2,s.I,s.O⟩ a.tag a.params).2 else (⟨(vP ⟨(zC s.ns a.name).2,s.I,s.O⟩ a.tag a.params).1,1,i,0⟩,s)) else (⟨(zC s.ns a.name).1,1,i,0⟩,s):=rfl;rw[e]at h ⊢
  by_cases h1:(zC s.ns a.name).1=0
  ·rw [if_pos h1]at h ⊢
   by_cases h2:(vP ⟨(zC s.ns a.name).2,s.I,s.O⟩ a.tag a.params).1=0
   ·rw [if_pos h2]at h ⊢
    have g:=MN (s:=⟨(zC s.ns a.name).2,s.I,s.O⟩) h2 hI hO;have q:=eM r (i+1) _ g.2.2.2.1 g.2.2.2.2 h;have l:=nM s.ns a.name;have g1:(vP ⟨(zC s.ns a.name).2,s.I,s.O⟩ a.tag a.params).2.ns=(zC s.ns a.name).2:=g.1;have g2:(vP ⟨(zC s.ns a.name).2,s.I,s.O⟩ a.tag a.params).2.I.length=s.I.length+1:=g.2.1;have g3:(vP ⟨(zC s.ns a.name).2,s.I,s.O⟩ a.tag a.params).2.O.length=s.O.length+1:=g.2.2.1;rw[g1,g2,g3]at q;rw[List.length_cons];exact ⟨by omega,by omega,q.2.2.1,q.2.2.2.1,by omega⟩
   rw[if_neg h2]at h;exact absurd h h2
  rw[if_neg h1]at h;exact absurd h h1
theorem rE (R:List (List Bool)) (a p:Int):(xJ R a p).length=R.length:=by
 unfold xJ;split
 ·exact rG _ _ _
 rfl
theorem bV:∀(Es:List GE) (i:Nat) (s:LS),xT s.I->xT s.O->(uO Es i s).2.I.length=s.I.length/\(uO Es i s).2.O.length=s.O.length/\xT (uO Es i s).2.I/\xT (uO Es i s).2.O/\(uO Es i s).2.ns=s.ns
 |[],i,s,hI,hO=>⟨rfl,rfl,hI,hO,rfl⟩
 |e::r,i,s,hI,hO=>by
  have u:uO (e::r) i s=if yU s.O e.f e.fp=0 then (if yU s.I e.t e.tp=0 then (if 256<e.start.length then (⟨88,2,i,0⟩,s) else uO r (i+1) ⟨s.ns,xJ s.I e.t e.tp,xJ s.O e.f e.fp⟩) else (⟨yU s.I e.t e.tp,2,i,2⟩,s)) else (⟨yU s.O e.f e.fp,2,i,1⟩,s):=rfl;rw[u]
  by_cases h1:yU s.O e.f e.fp=0
  ·rw [if_pos h1]
   by_cases h2:yU s.I e.t e.tp=0
   ·rw [if_pos h2]
    by_cases h3:256<e.start.length
    ·rw [if_pos h3];exact ⟨rfl,rfl,hI,hO,rfl⟩
    rw[if_neg h3];have q:=bV r (i+1) ⟨s.ns,xJ s.I e.t e.tp,xJ s.O e.f e.fp⟩ (uB hI _ _) (uB hO _ _);exact ⟨q.1.trans (rE _ _ _),q.2.1.trans (rE _ _ _),q.2.2.1,q.2.2.2.1,q.2.2.2.2⟩
   rw[if_neg h2];exact ⟨rfl,rfl,hI,hO,rfl⟩
  rw[if_neg h1];exact ⟨rfl,rfl,hI,hO,rfl⟩
theorem UN:∀(Ps:List GP) (i:Nat) (s:LS),xT s.I->xT s.O->(mQ Ps i s).2.I.length=s.I.length/\(mQ Ps i s).2.O.length=s.O.length/\xT (mQ Ps i s).2.I/\xT (mQ Ps i s).2.O/\(mQ Ps i s).2.ns.length<=s.ns.length+Ps.length
 |[],i,s,hI,hO=>⟨rfl,rfl,hI,hO,Nat.le_refl _⟩
 |p::r,i,s,hI,hO=>by
  have u:mQ (p::r) i s=if (zC s.ns p.name).1=0 then (if yU s.I p.actor p.port=0 then mQ r (i+1) ⟨(zC s.ns p.name).2,xJ s.I p.actor p.port,s.O⟩ else (⟨yU s.I p.actor p.port,3,i,2⟩,s)) else (⟨(zC s.ns p.name).1,3,i,0⟩,s):=rfl;rw[u]
  by_cases h1:(zC s.ns p.name).1=0
  ·rw [if_pos h1]
   by_cases h2:yU s.I p.actor p.port=0
   ·rw [if_pos h2]
    have q:=UN r (i+1) ⟨(zC s.ns p.name).2,xJ s.I p.actor p.port,s.O⟩ (uB hI _ _) hO;have l:=nM s.ns p.name;have q5:(mQ r (i+1) ⟨(zC s.ns p.name).2,xJ s.I p.actor p.port,s.O⟩).2.ns.length<=(zC s.ns p.name).2.length+r.length:=q.2.2.2.2;exact ⟨q.1.trans (rE _ _ _),q.2.1,q.2.2.1,q.2.2.2.1,by rw[List.length_cons];omega⟩
   rw[if_neg h2];exact ⟨rfl,rfl,hI,hO,Nat.le_add_right _ _⟩
  rw[if_neg h1];exact ⟨rfl,rfl,hI,hO,Nat.le_add_right _ _⟩
theorem YV:∀(Ps:List GP) (i:Nat) (s:LS),xT s.I->xT s.O->(rH Ps i s).2.I.length=s.I.length/\(rH Ps i s).2.O.length=s.O.length/\xT (rH Ps i s).2.I/\xT (rH Ps i s).2.O
 |[],i,s,hI,hO=>⟨rfl,rfl,hI,hO⟩
 |p::r,i,s,hI,hO=>by
  have u:rH (p::r) i s=if (zC s.ns p.name).1=0 then (if yU s.O p.actor p.port=0 then rH r (i+1) ⟨(zC s.ns p.name).2,s.I,xJ s.O p.actor p.port⟩ else (⟨yU s.O p.actor p.port,4,i,1⟩,s)) else (⟨(zC s.ns p.name).1,4,i,0⟩,s):=rfl;rw[u]
  by_cases h1:(zC s.ns p.name).1=0
  ·rw [if_pos h1]
   by_cases h2:yU s.O p.actor p.port=0
   ·rw [if_pos h2]
    have q:=YV r (i+1) ⟨(zC s.ns p.name).2,s.I,xJ s.O p.actor p.port⟩ hI (uB hO _ _);exact ⟨q.1,q.2.1.trans (rE _ _ _),q.2.2.1,q.2.2.2⟩
   rw[if_neg h2];exact ⟨rfl,rfl,hI,hO⟩
  rw[if_neg h1];exact ⟨rfl,rfl,hI,hO⟩
def lE (g:GG) (i:Nat):Nat:=(aY (yI g.A i).tag (yI g.A i).params).1.length
def rD (g:GG) (i:Nat):Nat:=(aY (yI g.A i).tag (yI g.A i).params).2.1.length
def vL (g:GG) (na ni no:Nat) (x:List UInt8):Bool:=(g.A.take na).any (fun a=>a.name==x)||((g.ins.take ni).any (fun p=>p.name==x)||(g.outs.take no).any (fun p=>p.name==x))
def pW (g:GG) (ne no:Nat) (a p:Int):Bool:=(g.E.take ne).any (fun e=>e.f==a&&e.fp==p)||(g.outs.take no).any (fun q=>q.actor==a&&q.port==p)
def jW (g:GG) (ne ni:Nat) (a p:Int):Bool:=(g.E.take ne).any (fun e=>e.t==a&&e.tp==p)||(g.ins.take ni).any (fun q=>q.actor==a&&q.port==p)
def aJ (g:GG) (a p:Int) (n:Nat) (taken:Bool):Int:=if a<0\/(g.A.length:Int)<=a then 84 else if p<0\/(n:Int)<=p then 85 else if taken=true then 86 else 0
def uN (g:GG) (i:Nat):Int:=if yO (yI g.A i).name=false then 82 else if vL g i 0 0 (yI g.A i).name=true then 83 else (aY (yI g.A i).tag (yI g.A i).params).2.2
def fQ (g:GG) (ne no:Nat) (a p:Int):Int:=aJ g a p (rD g a.toNat) (pW g ne no a p)
def YU (g:GG) (ne ni:Nat) (a p:Int):Int:=aJ g a p (lE g a.toNat) (jW g ne ni a p)
def tJ (g:GG) (i:Nat):Int × Nat:=
 if fQ g i 0 (wK g.E i).f (wK g.E i).fp≠0 then (fQ g i 0 (wK g.E i).f (wK g.E i).fp,1)
 else if YU g i 0 (wK g.E i).t (wK g.E i).tp≠0 then (YU g i 0 (wK g.E i).t (wK g.E i).tp,2)
 else if 256<(wK g.E i).start.length then (88,0) else (0,0)
def UM (g:GG) (i:Nat):Int × Nat:=if yO (wN g.ins i).name=false then (82,0) else if vL g g.A.length i 0 (wN g.ins i).name=true then (83,0) else (YU g g.E.length i (wN g.ins i).actor (wN g.ins i).port,2)
def lD (g:GG) (i:Nat):Int × Nat:=if yO (wN g.outs i).name=false then (82,0) else if vL g g.A.length g.ins.length i (wN g.outs i).name=true then (83,0) else (fQ g g.E.length i (wN g.outs i).actor (wN g.outs i).port,1)
def bU (g:GG) (i:Nat):Bool:=(List.range (lE g i)).any (fun p=> !jW g g.E.length g.ins.length (i:Int) (p:Int))||(List.range (rD g i)).any (fun p=> !pW g g.E.length g.outs.length (i:Int) (p:Int))
def mC (g:GG) (i:Nat):Int × Nat:=(if bU g i=true then 87 else 0,0)
def xB:Nat->Nat->(Nat->Int × Nat)->Nat->FL
 |0,_,_,_=>DI
 |n+1,i,f,k=>if (f i).1≠0 then ⟨(f i).1,k,i,(f i).2⟩ else xB n (i+1) f k
def PS (g:GG):FL:=
 if (rZ g).code≠0 then rZ g else
 if (xB g.A.length 0 (fun i=>(uN g i,0)) 1).code≠0 then xB g.A.length 0 (fun i=>(uN g i,0)) 1 else
 if (xB g.E.length 0 (tJ g) 2).code≠0 then xB g.E.length 0 (tJ g) 2 else
 if (xB g.ins.length 0 (UM g) 3).code≠0 then xB g.ins.length 0 (UM g) 3 else
 if (xB g.outs.length 0 (lD g) 4).code≠0 then xB g.outs.length 0 (lD g) 4 else
 xB g.A.length 0 (mC g) 1
structure mB (g : GG) (s : LS) (na ne ni no : Nat) : Prop where
 ns:∀x,(0<s.ns.count x)=(vL g na ni no x=true)
 lI:s.I.length=na
 lO:s.O.length=na
 rI:∀a,a<na->(wD s.I a).length=lE g a
 rO:∀a,a<na->(wD s.O a).length=rD g a
 bI:∀a p:Nat,a<na->p<lE g a->mR s.I a p=jW g ne ni (a:Int) (p:Int)
 bO:∀a p:Nat,a<na->p<rD g a->mR s.O a p=pW g ne no (a:Int) (p:Int)
theorem UL (g:GG):mB g ⟨[],[],[]⟩ 0 0 0 0:=
 ⟨fun x=>by simp[vL],rfl,rfl,fun a h=>absurd h (Nat.not_lt_zero _),fun a h=>absurd h (Nat.not_lt_zero _),fun a p h=>absurd h (Nat.not_lt_zero _),fun a p h=>absurd h (Nat.not_lt_zero _)⟩
theorem JN {As:List GA} {i:Nat} (h:i<As.length):As.take (i+1)=As.take i++[yI As i]:=by
 rw[List.take_add_one,List.getElem?_eq_getElem h];unfold yI;rw[List.getD_eq_getElem?_getD,List.getElem?_eq_getElem h];rfl
theorem bT {As:List GE} {i:Nat} (h:i<As.length):As.take (i+1)=As.take i++[wK As i]:=by
 rw[List.take_add_one,List.getElem?_eq_getElem h];unfold wK;rw[List.getD_eq_getElem?_getD,List.getElem?_eq_getElem h];rfl
theorem lC {As:List GP} {i:Nat} (h:i<As.length):As.take (i+1)=As.take i++[wN As i]:=by
 rw[List.take_add_one,List.getElem?_eq_getElem h];unfold wN;rw[List.getD_eq_getElem?_getD,List.getElem?_eq_getElem h];rfl
theorem EJ {g:GG} {i ni no:Nat} (h:i<g.A.length) (x:List UInt8):(vL g (i+1) ni no x=true)=(vL g i ni no x=true\/(yI g.A i).name=x):=by
 unfold vL;rw[JN h,List.any_append];simp only[List.any_cons,List.any_nil,Bool.or_false,Bool.or_eq_true,beq_iff_eq,eq_iff_iff]
 constructor
 ·rintro ((h|h)|h)
  ·exact .inl (.inl h)
  ·exact .inr h
  exact .inl (.inr h)
 rintro ((h|h)|h)
 ·exact .inl (.inl h)
 ·exact .inr h
 exact .inl (.inr h)
theorem EI {g:GG} {i na no:Nat} (h:i<g.ins.length) (x:List UInt8):(vL g na (i+1) no x=true)=(vL g na i no x=true\/(wN g.ins i).name=x):=by
 unfold vL;rw[lC h,List.any_append];simp only[List.any_cons,List.any_nil,Bool.or_false,Bool.or_eq_true,beq_iff_eq,eq_iff_iff]
 constructor
 ·rintro (h|((h|h)|h))
  ·exact .inl (.inl h)
  ·exact .inl (.inr (.inl h))
  ·exact .inr h
  exact .inl (.inr (.inr h))
 rintro ((h|(h|h))|h)
 ·exact .inl h
 ·exact .inr (.inl (.inl h))
 ·exact .inr (.inr h)
 exact .inr (.inl (.inr h))
theorem EH {g:GG} {i na ni:Nat} (h:i<g.outs.length) (x:List UInt8):(vL g na ni (i+1) x=true)=(vL g na ni i x=true\/(wN g.outs i).name=x):=by
 unfold vL;rw[lC h,List.any_append];simp only[List.any_cons,List.any_nil,Bool.or_false,Bool.or_eq_true,beq_iff_eq,eq_iff_iff]
 constructor
 ·rintro (h|(h|(h|h)))
  ·exact .inl (.inl h)
  ·exact .inl (.inr (.inl h))
  ·exact .inl (.inr (.inr h))
  exact .inr h
 rintro ((h|(h|h))|h)
 ·exact .inl h
 ·exact .inr (.inl h)
 ·exact .inr (.inr (.inl h))
 exact .inr (.inr (.inr h))
theorem EF {g:GG} {i no:Nat} (h:i<g.E.length) (a p:Int):pW g (i+1) no a p=(pW g i no a p||((wK g.E i).f==a&&(wK g.E i).fp==p)):=by
 unfold pW;rw[bT h,List.any_append];simp only[List.any_cons,List.any_nil,Bool.or_false];generalize (g.E.take i).any _=x;generalize (g.outs.take no).any _=y;generalize (_&&_)=z
 cases x<;>cases y<;>cases z<;>rfl
theorem CT {g:GG} {i no:Nat} (h:i<g.E.length) (a p:Int):jW g (i+1) no a p=(jW g i no a p||((wK g.E i).t==a&&(wK g.E i).tp==p)):=by
 unfold jW;rw[bT h,List.any_append];simp only[List.any_cons,List.any_nil,Bool.or_false];generalize (g.E.take i).any _=x;generalize (g.ins.take no).any _=y;generalize (_&&_)=z
 cases x<;>cases y<;>cases z<;>rfl
theorem EE {g:GG} {i ne:Nat} (h:i<g.outs.length) (a p:Int):pW g ne (i+1) a p=(pW g ne i a p||((wN g.outs i).actor==a&&(wN g.outs i).port==p)):=by
 unfold pW;rw[lC h,List.any_append];simp only[List.any_cons,List.any_nil,Bool.or_false,Bool.or_assoc]
theorem CS {g:GG} {i ne:Nat} (h:i<g.ins.length) (a p:Int):jW g ne (i+1) a p=(jW g ne i a p||((wN g.ins i).actor==a&&(wN g.ins i).port==p)):=by
 unfold jW;rw[lC h,List.any_append];simp only[List.any_cons,List.any_nil,Bool.or_false,Bool.or_assoc]
theorem ED {R:List (List Bool)} {a p:Nat} (ha:a<R.length) (hp:p<(wD R a).length) (b q:Nat):mR (bY R a p) b q=(mR R b q||(decide (a=b)&&decide (p=q))):=by
 unfold mR;rw[lF b ha]
 by_cases e:b=a
 ·subst e
  rw[if_pos rfl,decide_eq_true rfl,Bool.true_and]
  by_cases e2:q=p
  ·subst e2
   rw[List.getD_eq_getElem?_getD,List.getElem?_set_self hp,decide_eq_true rfl,Bool.or_true];rfl
  rw[List.getD_eq_getElem?_getD,List.getElem?_set_ne (Ne.symm e2),decide_eq_false (Ne.symm e2),Bool.or_false,List.getD_eq_getElem?_getD]
 rw[if_neg e,decide_eq_false (Ne.symm e),Bool.false_and,Bool.or_false]
theorem JM {R:List (List Bool)} {a p:Nat} (ha:a<R.length) (b:Nat):(wD (bY R a p) b).length=(wD R b).length:=by
 rw[lF b ha]
 by_cases e:b=a
 ·subst e;rw[if_pos rfl,List.length_set]
 rw[if_neg e]
theorem PQ {R:List (List Bool)} {n b q:Nat} (hb:b<R.length+1):mR (R++[List.replicate n false]) b q=if b<R.length then mR R b q else false:=by
 unfold mR
 by_cases h:b<R.length
 ·rw [if_pos h,pM h]
 rw[if_neg h,show b=R.length by omega,nP,List.getD_eq_getElem?_getD]
 by_cases h2:q<n
 ·rw [List.getElem?_replicate,if_pos h2];rfl
 rw[List.getElem?_replicate,if_neg h2];rfl
theorem PP (g:GG) (a p:Int):jW g 0 0 a p=false/\pW g 0 0 a p=false:=by
 unfold jW pW;simp
theorem eL (g:GG):∀(n i:Nat) (s:LS),n+i=g.A.length->mB g s i 0 0 0->
 (vM (g.A.drop i) i s).1=xB n i (fun i=>(uN g i,0)) 1/\((vM (g.A.drop i) i s).1.code=0->mB g (vM (g.A.drop i) i s).2 g.A.length 0 0 0)
 |0,i,s,hn,hm=>by
  have e:g.A.drop i=[]:=List.drop_eq_nil_of_le (by omega);rw[e]
  have e2:i=g.A.length:=by omega
  subst e2;exact ⟨rfl,fun _=>hm⟩
 |n+1,i,s,hn,hm=>by
  have hi:i<g.A.length:=by omega
  rw[JR hi];have e:vM (yI g.A i::g.A.drop (i+1)) i s=if (zC s.ns (yI g.A i).name).1=0 then (if (vP ⟨(zC s.ns (yI g.A i).name).2,s.I,s.O⟩ (yI g.A i).tag (yI g.A i).params).1=0 then vM (g.A.drop (i+1)) (i+1) (vP ⟨(zC s.ns (yI g.A i).name).2,s.I,s.O⟩ (yI g.A i).tag (yI g.A i).params).2 else (⟨(vP ⟨(zC s.ns (yI g.A i).name).2,s.I,s.O⟩ (yI g.A i).tag (yI g.A i).params).1,1,i,0⟩,s)) else (⟨(zC s.ns (yI g.A i).name).1,1,i,0⟩,s):=rfl;have l:xB (n+1) i (fun i=>(uN g i,0)) 1=if uN g i≠0 then ⟨uN g i,1,i,0⟩ else xB n (i+1) (fun i=>(uN g i,0)) 1:=rfl;have ht:(aY (yI g.A i).tag (yI g.A i).params).1.length=lE g i:=rfl;have ht2:(aY (yI g.A i).tag (yI g.A i).params).2.1.length=rD g i:=rfl;rw[e,l]
  by_cases h1:yO (yI g.A i).name=true
  ·have hns:=hm.ns (yI g.A i).name
   by_cases h2:0<s.ns.count (yI g.A i).name
   ·have h3:vL g i 0 0 (yI g.A i).name=true:=by rw[<- hns];exact h2
    have ae:zC s.ns (yI g.A i).name=(83,(yI g.A i).name::s.ns):=by unfold zC;rw[if_pos h1,if_pos h2]
    have ac:uN g i=83:=by unfold uN;rw[if_neg (by rw[h1];decide),if_pos h3]
    rw[ae,ac];exact ⟨rfl,fun h=>absurd h (by show ¬(83:Int)=0;decide)⟩
   have h3:¬vL g i 0 0 (yI g.A i).name=true:=by rw[<- hns];exact h2
   have ae:zC s.ns (yI g.A i).name=(0,(yI g.A i).name::s.ns):=by unfold zC;rw[if_pos h1,if_neg h2]
   have ac:uN g i=(aY (yI g.A i).tag (yI g.A i).params).2.2:=by unfold uN;rw[if_neg (by rw[h1];decide),if_neg h3]
   rw[ae,ac,if_pos rfl]
   by_cases h4:(aY (yI g.A i).tag (yI g.A i).params).2.2=0
   ·have ao:vP ⟨(yI g.A i).name::s.ns,s.I,s.O⟩ (yI g.A i).tag (yI g.A i).params=(0,⟨(yI g.A i).name::s.ns,s.I++[List.replicate (lE g i) false],s.O++[List.replicate (rD g i) false]⟩):=by unfold vP;rw[if_pos h4];rfl
    rw[ao,if_pos rfl,h4,if_neg (by decide)];refine eL g n (i+1) _ (by omega) ⟨fun x=>?_,?_,?_,fun a ha=>?_,fun a ha=>?_,fun a p ha hp=>?_,fun a p ha hp=>?_⟩
    ·rw [EJ hi,<-hm.ns x,List.count_cons]
     by_cases e:(yI g.A i).name=x
     ·simp [e]
     simp[e]
    ·simp [hm.lI]
    ·simp [hm.lO]
    ·by_cases h:a<i
     ·rw [pM (by rw[hm.lI];exact h)];exact hm.rI a h
     have e:a=s.I.length:=by rw[hm.lI];omega
     rw[e,nP,List.length_replicate,<-hm.lI]
    ·by_cases h:a<i
     ·rw [pM (by rw[hm.lO];exact h)];exact hm.rO a h
     have e:a=s.O.length:=by rw[hm.lO];omega
     rw[e,nP,List.length_replicate,<-hm.lO]
    ·rw [PQ (by rw[hm.lI];exact ha),hm.lI]
     by_cases h:a<i
     ·rw [if_pos h];exact hm.bI a p h hp
     rw[if_neg h,(PP g _ _).1]
    rw[PQ (by rw[hm.lO];exact ha),hm.lO]
    by_cases h:a<i
    ·rw [if_pos h];exact hm.bO a p h hp
    rw[if_neg h,(PP g _ _).2]
   have ao:vP ⟨(yI g.A i).name::s.ns,s.I,s.O⟩ (yI g.A i).tag (yI g.A i).params=((aY (yI g.A i).tag (yI g.A i).params).2.2,⟨(yI g.A i).name::s.ns,s.I,s.O⟩):=by unfold vP;rw[if_neg h4]
   rw[ao,if_neg h4,if_pos h4];exact ⟨rfl,fun h=>absurd h h4⟩
  have h1':yO (yI g.A i).name=false:=by simpa using h1
  have ae:zC s.ns (yI g.A i).name=(82,s.ns):=by unfold zC;rw[if_neg h1]
  have ac:uN g i=82:=by unfold uN;rw[if_pos h1']
  rw[ae,ac];exact ⟨rfl,fun h=>absurd h (by show ¬(82:Int)=0;decide)⟩
theorem UK {g:GG} {s:LS} {ne ni no:Nat} (h:mB g s g.A.length ne ni no) (a p:Int):yU s.O a p=fQ g ne no a p:=by
 unfold yU fQ aJ;rw[h.lO]
 by_cases h1:a<0\/(g.A.length:Int)<=a
 ·rw [if_pos h1,if_pos h1]
 rw[if_neg h1,if_neg h1,h.rO a.toNat (by omega)]
 by_cases h2:p<0\/(rD g a.toNat:Int)<=p
 ·rw [if_pos h2,if_pos h2]
 rw[if_neg h2,if_neg h2,h.bO a.toNat p.toNat (by omega) (by omega),Int.toNat_of_nonneg (by omega),Int.toNat_of_nonneg (by omega)]
theorem PN {g:GG} {s:LS} {ne ni no:Nat} (h:mB g s g.A.length ne ni no) (a p:Int):yU s.I a p=YU g ne ni a p:=by
 unfold yU YU aJ;rw[h.lI]
 by_cases h1:a<0\/(g.A.length:Int)<=a
 ·rw [if_pos h1,if_pos h1]
 rw[if_neg h1,if_neg h1,h.rI a.toNat (by omega)]
 by_cases h2:p<0\/(lE g a.toNat:Int)<=p
 ·rw [if_pos h2,if_pos h2]
 rw[if_neg h2,if_neg h2,h.bI a.toNat p.toNat (by omega) (by omega),Int.toNat_of_nonneg (by omega),Int.toNat_of_nonneg (by omega)]
theorem XE {g:GG} {a p:Int} {n:Nat} {t:Bool} (h:aJ g a p n t=0):0<=a/\a<(g.A.length:Int)/\0<=p/\p<(n:Int)/\t=false:=by
 unfold aJ at h
 by_cases h1:a<0\/(g.A.length:Int)<=a
 ·rw [if_pos h1]at h;exact qD h
 rw[if_neg h1]at h
 by_cases h2:p<0\/(n:Int)<=p
 ·rw [if_pos h2]at h;exact qD h
 rw[if_neg h2]at h
 cases t
 ·exact ⟨by omega,by omega,by omega,by omega,rfl⟩
 rw[if_pos rfl]at h;exact qD h
theorem JL {a:Int} {b:Nat} (h:0<=a):decide (a.toNat=b)=(a==(b:Int)):=by
 by_cases e:a=(b:Int)
 ·subst e;simp
 have h2:¬a.toNat=b:=by omega
 simp[e,h2]
theorem kG {R:List (List Bool)} {a p:Int} (h:yU R a p=0) (b q:Nat):mR (xJ R a p) b q=(mR R b q||(a==(b:Int)&&p==(q:Int))):=by
 unfold xJ;rw[if_pos h];unfold yU at h
 by_cases h1:a<0\/(R.length:Int)<=a
 ·rw [if_pos h1]at h;exact qD h
 rw[if_neg h1]at h
 by_cases h2:p<0\/((wD R a.toNat).length:Int)<=p
 ·rw [if_pos h2]at h;exact qD h
 rw[ED (by omega) (by omega),JL (by omega),JL (by omega)]
theorem kF {R:List (List Bool)} {a p:Int} (h:yU R a p=0) (b:Nat):(wD (xJ R a p) b).length=(wD R b).length:=by
 unfold xJ;rw[if_pos h];unfold yU at h
 by_cases h1:a<0\/(R.length:Int)<=a
 ·rw [if_pos h1]at h;exact qD h
 exact JM (by omega) b
theorem bS (g:GG):∀(n i:Nat) (s:LS),n+i=g.E.length->mB g s g.A.length i 0 0->
 (uO (g.E.drop i) i s).1=xB n i (tJ g) 2/\((uO (g.E.drop i) i s).1.code=0->mB g (uO (g.E.drop i) i s).2 g.A.length g.E.length 0 0)
 |0,i,s,hn,hm=>by
  have e:g.E.drop i=[]:=List.drop_eq_nil_of_le (by omega);rw[e]
  have e2:i=g.E.length:=by omega
  subst e2;exact ⟨rfl,fun _=>hm⟩
 |n+1,i,s,hn,hm=>by
  have hi:i<g.E.length:=by omega
  rw[JQ hi];obtain ⟨x,hx⟩:∃x,wK g.E i=x:=⟨_,rfl⟩
  have e:uO (wK g.E i::g.E.drop (i+1)) i s=if yU s.O x.f x.fp=0 then (if yU s.I x.t x.tp=0 then (if 256<x.start.length then (⟨88,2,i,0⟩,s) else uO (g.E.drop (i+1)) (i+1) ⟨s.ns,xJ s.I x.t x.tp,xJ s.O x.f x.fp⟩) else (⟨yU s.I x.t x.tp,2,i,2⟩,s)) else (⟨yU s.O x.f x.fp,2,i,1⟩,s):=by subst hx;rfl
  have l:xB (n+1) i (tJ g) 2=if (tJ g i).1≠0 then ⟨(tJ g i).1,2,i,(tJ g i).2⟩ else xB n (i+1) (tJ g) 2:=rfl;have q1:=UK hm x.f x.fp;have q2:=PN hm x.t x.tp
  have le:tJ g i=if yU s.O x.f x.fp≠0 then (yU s.O x.f x.fp,1) else if yU s.I x.t x.tp≠0 then (yU s.I x.t x.tp,2) else if 256<x.start.length then (88,0) else (0,0):=by
   unfold tJ;rw[hx,q1,q2]
  rw[e,l]
  by_cases h1:yU s.O x.f x.fp=0
  ·rw [if_pos h1]
   have n1:¬yU s.O x.f x.fp≠0:=fun h=>h h1
   by_cases h2:yU s.I x.t x.tp=0
   ·rw [if_pos h2]
    have n2:¬yU s.I x.t x.tp≠0:=fun h=>h h2
    by_cases h3:256<x.start.length
    ·have ec:tJ g i=(88,0):=by rw[le,if_neg n1,if_neg n2,if_pos h3]
     rw[if_pos h3,ec];exact ⟨rfl,fun h=>absurd h (by show ¬(88:Int)=0;decide)⟩
    have ec:tJ g i=(0,0):=by rw[le,if_neg n1,if_neg n2,if_neg h3]
    rw[if_neg h3,ec,if_neg (by decide)];refine bS g n (i+1) _ (by omega) ⟨fun y=>hm.ns y,?_,?_,fun a ha=>?_,fun a ha=>?_,fun a p ha hp=>?_,fun a p ha hp=>?_⟩
    ·show (xJ _ _ _).length=_
     rw[rE];exact hm.lI
    ·show (xJ _ _ _).length=_
     rw[rE];exact hm.lO
    ·show (wD (xJ _ _ _) a).length=_
     rw[kF h2];exact hm.rI a ha
    ·show (wD (xJ _ _ _) a).length=_
     rw[kF h1];exact hm.rO a ha
    ·show mR (xJ _ _ _) a p=_
     rw[kG h2,CT hi,hm.bI a p ha hp,hx]
    show mR (xJ _ _ _) a p=_;rw[kG h1,EF hi,hm.bO a p ha hp,hx]
   have ec:tJ g i=(yU s.I x.t x.tp,2):=by rw[le,if_neg n1,if_pos h2]
   rw[if_neg h2,ec,if_pos h2];exact ⟨rfl,fun h=>absurd h h2⟩
  have ec:tJ g i=(yU s.O x.f x.fp,1):=by rw[le,if_pos h1]
  rw[if_neg h1,ec,if_pos h1];exact ⟨rfl,fun h=>absurd h h1⟩
theorem YT {ns:List (List UInt8)} {x y:List UInt8} {P Q:Prop} (h:(0<ns.count y)=P) (hQ:Q=(P\/x=y)):(0<(x::ns).count y)=Q:=by
 rw[hQ,<-h,List.count_cons]
 by_cases e:x=y
 ·simp [e]
 simp[e]
theorem UJ (g:GG):∀(n i:Nat) (s:LS),n+i=g.ins.length->mB g s g.A.length g.E.length i 0->
 (mQ (g.ins.drop i) i s).1=xB n i (UM g) 3/\((mQ (g.ins.drop i) i s).1.code=0->mB g (mQ (g.ins.drop i) i s).2 g.A.length g.E.length g.ins.length 0)
 |0,i,s,hn,hm=>by
  have e:g.ins.drop i=[]:=List.drop_eq_nil_of_le (by omega);rw[e]
  have e2:i=g.ins.length:=by omega
  subst e2;exact ⟨rfl,fun _=>hm⟩
 |n+1,i,s,hn,hm=>by
  have hi:i<g.ins.length:=by omega
  rw[XI hi];obtain ⟨x,hx⟩:∃x,wN g.ins i=x:=⟨_,rfl⟩
  have e:mQ (wN g.ins i::g.ins.drop (i+1)) i s=if (zC s.ns x.name).1=0 then (if yU s.I x.actor x.port=0 then mQ (g.ins.drop (i+1)) (i+1) ⟨(zC s.ns x.name).2,xJ s.I x.actor x.port,s.O⟩ else (⟨yU s.I x.actor x.port,3,i,2⟩,s)) else (⟨(zC s.ns x.name).1,3,i,0⟩,s):=by subst hx;rfl
  have l:xB (n+1) i (UM g) 3=if (UM g i).1≠0 then ⟨(UM g i).1,3,i,(UM g i).2⟩ else xB n (i+1) (UM g) 3:=rfl;have q2:=PN hm x.actor x.port
  have le:UM g i=if yO x.name=false then (82,0) else if vL g g.A.length i 0 x.name=true then (83,0) else (yU s.I x.actor x.port,2):=by
   unfold UM;rw[hx,q2]
  rw[e,l,le]
  by_cases h1:yO x.name=true
  ·have hns:=hm.ns x.name
   rw[if_neg (by rw[h1];decide:¬yO x.name=false)]
   by_cases h2:0<s.ns.count x.name
   ·have h3:vL g g.A.length i 0 x.name=true:=by rw[<- hns];exact h2
    have ae:zC s.ns x.name=(83,x.name::s.ns):=by unfold zC;rw[if_pos h1,if_pos h2]
    rw[ae,if_pos h3];exact ⟨rfl,fun h=>absurd h (by show ¬(83:Int)=0;decide)⟩
   have h3:¬vL g g.A.length i 0 x.name=true:=by rw[<- hns];exact h2
   have ae:zC s.ns x.name=(0,x.name::s.ns):=by unfold zC;rw[if_pos h1,if_neg h2]
   rw[ae,if_neg h3,if_pos rfl]
   by_cases h4:yU s.I x.actor x.port=0
   ·rw [if_pos h4,if_neg (by show ¬yU s.I x.actor x.port≠0;rw[h4];decide)]
    refine UJ g n (i+1) _ (by omega) ⟨fun y=>?_,?_,hm.lO,fun a ha=>?_,hm.rO,fun a p ha hp=>?_,hm.bO⟩
    ·exact YT (hm.ns y) (by rw[EI hi,hx])
    ·show (xJ _ _ _).length=_
     rw[rE];exact hm.lI
    ·show (wD (xJ _ _ _) a).length=_
     rw[kF h4];exact hm.rI a ha
    show mR (xJ _ _ _) a p=_;rw[kG h4,CS hi,hm.bI a p ha hp,hx]
   rw[if_neg h4,if_pos h4];exact ⟨rfl,fun h=>absurd h h4⟩
  have h1':yO x.name=false:=by simpa using h1
  have ae:zC s.ns x.name=(82,s.ns):=by unfold zC;rw[if_neg h1]
  rw[ae,if_pos h1'];exact ⟨rfl,fun h=>absurd h (by show ¬(82:Int)=0;decide)⟩
theorem YS (g:GG):∀(n i:Nat) (s:LS),n+i=g.outs.length->mB g s g.A.length g.E.length g.ins.length i->
 (rH (g.outs.drop i) i s).1=xB n i (lD g) 4/\((rH (g.outs.drop i) i s).1.code=0->mB g (rH (g.outs.drop i) i s).2 g.A.length g.E.length g.ins.length g.outs.length)
 |0,i,s,hn,hm=>by
  have e:g.outs.drop i=[]:=List.drop_eq_nil_of_le (by omega);rw[e]
  have e2:i=g.outs.length:=by omega
  subst e2;exact ⟨rfl,fun _=>hm⟩
 |n+1,i,s,hn,hm=>by
  have hi:i<g.outs.length:=by omega
  rw[XI hi];obtain ⟨x,hx⟩:∃x,wN g.outs i=x:=⟨_,rfl⟩
  have e:rH (wN g.outs i::g.outs.drop (i+1)) i s=if (zC s.ns x.name).1=0 then (if yU s.O x.actor x.port=0 then rH (g.outs.drop (i+1)) (i+1) ⟨(zC s.ns x.name).2,s.I,xJ s.O x.actor x.port⟩ else (⟨yU s.O x.actor x.port,4,i,1⟩,s)) else (⟨(zC s.ns x.name).1,4,i,0⟩,s):=by subst hx;rfl
  have l:xB (n+1) i (lD g) 4=if (lD g i).1≠0 then ⟨(lD g i).1,4,i,(lD g i).2⟩ else xB n (i+1) (lD g) 4:=rfl;have q2:=UK hm x.actor x.port
  have le:lD g i=if yO x.name=false then (82,0) else if vL g g.A.length g.ins.length i x.name=true then (83,0) else (yU s.O x.actor x.port,1):=by
   unfold lD;rw[hx,q2]
  rw[e,l,le]
  by_cases h1:yO x.name=true
  ·have hns:=hm.ns x.name
   rw[if_neg (by rw[h1];decide:¬yO x.name=false)]
   by_cases h2:0<s.ns.count x.name
   ·have h3:vL g g.A.length g.ins.length i x.name=true:=by rw[<- hns];exact h2
    have ae:zC s.ns x.name=(83,x.name::s.ns):=by unfold zC;rw[if_pos h1,if_pos h2]
    rw[ae,if_pos h3];exact ⟨rfl,fun h=>absurd h (by show ¬(83:Int)=0;decide)⟩
   have h3:¬vL g g.A.length g.ins.length i x.name=true:=by rw[<- hns];exact h2
   have ae:zC s.ns x.name=(0,x.name::s.ns):=by unfold zC;rw[if_pos h1,if_neg h2]
   rw[ae,if_neg h3,if_pos rfl]
   by_cases h4:yU s.O x.actor x.port=0
   ·rw [if_pos h4,if_neg (by show ¬yU s.O x.actor x.port≠0;rw[h4];decide)]
    refine YS g n (i+1) _ (by omega) ⟨fun y=>?_,hm.lI,?_,hm.rI,fun a ha=>?_,hm.bI,fun a p ha hp=>?_⟩
    ·exact YT (hm.ns y) (by rw[EH hi,hx])
    ·show (xJ _ _ _).length=_
     rw[rE];exact hm.lO
    ·show (wD (xJ _ _ _) a).length=_
     rw[kF h4];exact hm.rO a ha
    show mR (xJ _ _ _) a p=_;rw[kG h4,EE hi,hm.bO a p ha hp,hx]
   rw[if_neg h4,if_pos h4];exact ⟨rfl,fun h=>absurd h h4⟩
  have h1':yO x.name=false:=by simpa using h1
  have ae:zC s.ns x.name=(82,s.ns):=by unfold zC;rw[if_neg h1]
  rw[ae,if_pos h1'];exact ⟨rfl,fun h=>absurd h (by show ¬(82:Int)=0;decide)⟩
theorem bR {l:List Bool} {n:Nat} {f:Nat->Bool} (hl:l.length=n) (h:∀p,p<n->l.getD p false=f p):l.contains false=(List.range n).any (fun p=> !f p):=by
 rw[Bool.eq_iff_iff,List.contains_iff_mem,List.any_eq_true]
 constructor
 ·intro hm
  obtain ⟨k,hk,e⟩:=List.mem_iff_getElem.1 hm;refine ⟨k,List.mem_range.2 (by omega),?_⟩
  rw[<- h k (by omega),List.getD_eq_getElem?_getD,List.getElem?_eq_getElem hk,e];rfl
 rintro ⟨k,hk,e⟩
 have hk':=List.mem_range.1 hk;have h2:=h k hk';rw[List.getD_eq_getElem?_getD,List.getElem?_eq_getElem (by omega)]at h2
 have:f k=false:=by simpa using e
 rw[this]at h2;exact List.mem_iff_getElem.2 ⟨k,by omega,h2⟩
theorem YR (g:GG) {s:LS} (hm:mB g s g.A.length g.E.length g.ins.length g.outs.length):∀(n i:Nat),n+i=g.A.length->lG s.I s.O n i=xB n i (mC g) 1
 |0,_,_=>rfl
 |n+1,i,hn=>by
  have hi:i<g.A.length:=by omega
  have e1:hY s.I i=(List.range (lE g i)).any (fun p=> !jW g g.E.length g.ins.length (i:Int) (p:Int)):=bR (hm.rI i hi) (fun p hp=>hm.bI i p hi hp);have e2:hY s.O i=(List.range (rD g i)).any (fun p=> !pW g g.E.length g.outs.length (i:Int) (p:Int)):=bR (hm.rO i hi) (fun p hp=>hm.bO i p hi hp);have e:lG s.I s.O (n+1) i=if hY s.I i=true\/hY s.O i=true then ⟨87,1,i,0⟩ else lG s.I s.O n (i+1):=rfl;have l:xB (n+1) i (mC g) 1=if (mC g i).1≠0 then ⟨(mC g i).1,1,i,(mC g i).2⟩ else xB n (i+1) (mC g) 1:=rfl;rw[e,l];unfold mC bU;rw[e1,e2];generalize List.any (List.range (lE g i)) _=x;generalize List.any (List.range (rD g i)) _=y;have r:=YR g hm n (i+1) (by omega);unfold mC bU at r
  cases x<;>cases y<;>simp[r]
theorem bQ (g:GG):yD g=PS g:=by
 have hA:=eL g g.A.length 0 ⟨[],[],[]⟩ (by omega) (UL g);rw[List.drop_zero]at hA;unfold yD PS
 by_cases h0:(rZ g).code≠0
 ·rw [if_pos h0,if_pos h0]
 rw[if_neg h0,if_neg h0];simp only;rw[hA.1]
 by_cases h1:(xB g.A.length 0 (fun i=>(uN g i,0)) 1).code≠0
 ·rw [if_pos h1,if_pos h1]
 rw[if_neg h1,if_neg h1];have hE:=bS g g.E.length 0 _ (by omega) (hA.2 (by rw[hA.1];simpa using h1));rw[List.drop_zero]at hE;rw[hE.1]
 by_cases h2:(xB g.E.length 0 (tJ g) 2).code≠0
 ·rw [if_pos h2,if_pos h2]
 rw[if_neg h2,if_neg h2];have hI:=UJ g g.ins.length 0 _ (by omega) (hE.2 (by rw[hE.1];simpa using h2));rw[List.drop_zero]at hI;rw[hI.1]
 by_cases h3:(xB g.ins.length 0 (UM g) 3).code≠0
 ·rw [if_pos h3,if_pos h3]
 rw[if_neg h3,if_neg h3];have hO:=YS g g.outs.length 0 _ (by omega) (hI.2 (by rw[hI.1];simpa using h3));rw[List.drop_zero]at hO;rw[hO.1]
 by_cases h4:(xB g.outs.length 0 (lD g) 4).code≠0
 ·rw [if_pos h4,if_pos h4]
 rw[if_neg h4,if_neg h4];exact YR g (hO.2 (by rw[hO.1];simpa using h4)) g.A.length 0 (by omega)
theorem pL {f:Nat->Int × Nat} {k:Nat} :∀(n i:Nat),(xB n i f k).code=0->∀j,i<=j->j<i+n->(f j).1=0
 |0,i,_,j,h1,h2=>by omega
 |n+1,i,h,j,h1,h2=>by
  have e:xB (n+1) i f k=if (f i).1≠0 then ⟨(f i).1,k,i,(f i).2⟩ else xB n (i+1) f k:=rfl;rw[e]at h
  by_cases h0:(f i).1≠0
  ·rw [if_pos h0]at h;exact absurd h h0
  rw[if_neg h0]at h
  by_cases hj:j=i
  ·subst hj;simpa using h0
  exact pL n (i+1) h j (by omega) (by omega)
theorem pK {f:Nat->Int × Nat} {k:Nat} :∀(n i:Nat),(∀ j,i<=j->j<i+n->(f j).1=0)->(xB n i f k).code=0
 |0,_,_=>rfl
 |n+1,i,h=>by
  have e:xB (n+1) i f k=if (f i).1≠0 then ⟨(f i).1,k,i,(f i).2⟩ else xB n (i+1) f k:=rfl;rw[e,if_neg (by rw[h i (Nat.le_refl _) (by omega)];decide)]
  exact pK n (i+1) fun j h1 h2=>h j (by omega) (by omega)
structure fP (g : GG) : Prop where
 head:(rZ g).code=0
 acts:∀i,i<g.A.length->uN g i=0
 E:∀i,i<g.E.length->(tJ g i).1=0
 ins:∀i,i<g.ins.length->(UM g i).1=0
 outs:∀i,i<g.outs.length->(lD g i).1=0
 opens:∀i,i<g.A.length->bU g i=false
theorem nL (g:GG):(yD g).code=0↔fP g:=by
 rw[bQ];unfold PS
 constructor
 ·intro h
  by_cases h0:(rZ g).code≠0
  ·rw [if_pos h0]at h;exact absurd h h0
  rw[if_neg h0]at h
  by_cases h1:(xB g.A.length 0 (fun i=>(uN g i,0)) 1).code≠0
  ·rw [if_pos h1]at h;exact absurd h h1
  rw[if_neg h1]at h
  by_cases h2:(xB g.E.length 0 (tJ g) 2).code≠0
  ·rw [if_pos h2]at h;exact absurd h h2
  rw[if_neg h2]at h
  by_cases h3:(xB g.ins.length 0 (UM g) 3).code≠0
  ·rw [if_pos h3]at h;exact absurd h h3
  rw[if_neg h3]at h
  by_cases h4:(xB g.outs.length 0 (lD g) 4).code≠0
  ·rw [if_pos h4]at h;exact absurd h h4
  rw[if_neg h4]at h;refine ⟨by simpa using h0,fun i hi=>pL _ _ (by simpa using h1) i (Nat.zero_le _) (by omega),fun i hi=>pL _ _ (by simpa using h2) i (Nat.zero_le _) (by omega),fun i hi=>pL _ _ (by simpa using h3) i (Nat.zero_le _) (by omega),fun i hi=>pL _ _ (by simpa using h4) i (Nat.zero_le _) (by omega),fun i hi=>?_⟩
  have:=pL _ _ h i (Nat.zero_le _) (by omega);unfold mC at this
  cases hb:bU g i
  ·rfl
  rw[hb]at this;exact absurd this (by decide)
 intro h
 have e1:=pK (f:=fun i=>(uN g i,0)) (k:=1) g.A.length 0 fun j _ hj=>h.acts j (by omega)
 have e2:=pK (f:=tJ g) (k:=2) g.E.length 0 fun j _ hj=>h.E j (by omega)
 have e3:=pK (f:=UM g) (k:=3) g.ins.length 0 fun j _ hj=>h.ins j (by omega)
 have e4:=pK (f:=lD g) (k:=4) g.outs.length 0 fun j _ hj=>h.outs j (by omega)
 rw[if_neg (by rw[h.head];decide),if_neg (by rw[e1];decide),if_neg (by rw[e2];decide),if_neg (by rw[e3];decide),if_neg (by rw[e4];decide)]
 refine pK _ _ fun j _ hj=>?_
 unfold mC;rw[h.opens j (by omega)];rfl
theorem mO {g:GG} (h:(rZ g).code=0):yO g.name=true/\0<g.A.length/\g.A.length<=32/\g.E.length<=96/\g.ins.length<=16/\g.outs.length<=16:=by
 unfold rZ at h
 split at h
 ·exact qD h
 rename_i h1
 split at h
 ·exact qD h
 split at h
 ·exact qD h
 split at h
 ·exact qD h
 split at h
 ·exact qD h
 split at h
 ·exact qD h
 exact ⟨by simpa using h1,by omega,by omega,by omega,by omega,by omega⟩
structure CR (g : GG) (e : GE) : Prop where
 f0:0<=e.f
 f1:e.f<(g.A.length:Int)
 fp0:0<=e.fp
 fp1:e.fp<(rD g e.f.toNat:Int)
 t0:0<=e.t
 t1:e.t<(g.A.length:Int)
 tp0:0<=e.tp
 tp1:e.tp<(lE g e.t.toNat:Int)
 st:e.start.length<=256
theorem dR {g:GG} {i:Nat} (h:(tJ g i).1=0):CR g (wK g.E i)/\pW g i 0 (wK g.E i).f (wK g.E i).fp=false/\jW g i 0 (wK g.E i).t (wK g.E i).tp=false:=by
 unfold tJ at h
 split at h
 ·rename_i h1;exact absurd h h1
 rename_i h1
 split at h
 ·rename_i h2;exact absurd h h2
 rename_i h2
 split at h
 ·exact qD h
 rename_i h3
 have e1:=XE (show aJ _ _ _ _ _=0 by simpa [fQ] using h1);have e2:=XE (show aJ _ _ _ _ _=0 by simpa [YU] using h2);exact ⟨⟨e1.1,e1.2.1,e1.2.2.1,e1.2.2.2.1,e2.1,e2.2.1,e2.2.2.1,e2.2.2.2.1,by omega⟩,e1.2.2.2.2,e2.2.2.2.2⟩
theorem JK {g:GG} {i:Nat} (h:(UM g i).1=0):yO (wN g.ins i).name=true/\vL g g.A.length i 0 (wN g.ins i).name=false/\(0<=(wN g.ins i).actor/\(wN g.ins i).actor<(g.A.length:Int)/\0<=(wN g.ins i).port/\(wN g.ins i).port<(lE g (wN g.ins i).actor.toNat:Int))/\jW g g.E.length i (wN g.ins i).actor (wN g.ins i).port=false:=by
 unfold UM at h
 split at h
 ·exact qD h
 rename_i h1
 split at h
 ·exact qD h
 rename_i h2
 have e:=XE (show aJ _ _ _ _ _=0 from h);exact ⟨by simpa using h1,by simpa using h2,⟨e.1,e.2.1,e.2.2.1,e.2.2.2.1⟩,e.2.2.2.2⟩
theorem RI {g:GG} {i:Nat} (h:(lD g i).1=0):yO (wN g.outs i).name=true/\vL g g.A.length g.ins.length i (wN g.outs i).name=false/\(0<=(wN g.outs i).actor/\(wN g.outs i).actor<(g.A.length:Int)/\0<=(wN g.outs i).port/\(wN g.outs i).port<(rD g (wN g.outs i).actor.toNat:Int))/\pW g g.E.length i (wN g.outs i).actor (wN g.outs i).port=false:=by
 unfold lD at h
 split at h
 ·exact qD h
 rename_i h1
 split at h
 ·exact qD h
 rename_i h2
 have e:=XE (show aJ _ _ _ _ _=0 from h);exact ⟨by simpa using h1,by simpa using h2,⟨e.1,e.2.1,e.2.2.1,e.2.2.2.1⟩,e.2.2.2.2⟩
end Go.Proofs.YtdcjdnkdeamigaaGreatDoor
namespace Go.Proofs.YtdcjdnkdeamigaaGreatDoor
open Go.RowKit
theorem lB {α :Type} [DecidableEq α]:∀(l r:List α),l.Nodup->(∀ x,x ∈ l->x ∈ r)->l.length<=r.length
 |[],_,_,_=>Nat.zero_le _
 |x::l,r,hn,hs=>by
  have h1:=List.nodup_cons.1 hn;have hx:=hs x (List.mem_cons_self ..);have ih:=lB l (r.erase x) h1.2 (fun y hy=>(List.mem_erase_of_ne (fun e=>h1.1 (by rw[<- e];exact hy))).2 (hs y (List.mem_cons_of_mem _ hy)));rw[List.length_erase_of_mem hx]at ih;have:0<r.length:=List.length_pos_of_mem hx;rw[List.length_cons];omega
theorem oJ {α :Type} {l:List α} {x: α} (h:l.Nodup) (hx:x ∉ l):(l++[x]).Nodup:=by
 rw[List.nodup_append];refine ⟨h,List.nodup_cons.2 ⟨(fun q=>by cases q),List.nodup_nil⟩,fun a ha b hb=>?_⟩
 rw[List.mem_singleton.1 hb]
 exact fun e=>hx (e ▸ ha)
def ML (f:Nat->Nat):Nat->Nat
 |0=>0
 |n+1=>ML f n+f n
def gY (f:Nat->Nat):Nat->List (Int × Int)
 |0=>[]
 |n+1=>gY f n++(List.range (f n)).map fun (p:Nat)=>((n:Int),(p:Int))
theorem bP (f:Nat->Nat):∀n,(gY f n).length=ML f n
 |0=>rfl
 |n+1=>by show (gY f n++_).length=_;rw[List.length_append,bP f n,List.length_map,List.length_range];rfl
theorem lA (f:Nat->Nat):∀n (x:Int × Int),x ∈ gY f n↔∃a p:Nat,a<n/\p<f a/\x=((a:Int),(p:Int))
 |0,x=>⟨(fun h=>by cases h),fun ⟨a,p,h,_⟩=>absurd h (Nat.not_lt_zero _)⟩
 |n+1,x=>by
  show x ∈ gY f n++_↔_;rw[List.mem_append,lA f n x,List.mem_map]
  constructor
  ·rintro (⟨a,p,h1,h2,h3⟩|⟨p,h1,h2⟩)
   ·exact ⟨a,p,by omega,h2,h3⟩
   exact ⟨n,p,Nat.lt_succ_self _,List.mem_range.1 h1,h2.symm⟩
  rintro ⟨a,p,h1,h2,h3⟩
  by_cases e:a=n
  ·subst e;exact .inr ⟨p,List.mem_range.2 h2,h3.symm⟩
  exact .inl ⟨a,p,by omega,h2,h3⟩
theorem jH (f:Nat->Nat):∀n,(gY f n).Nodup
 |0=>List.nodup_nil
 |n+1=>by
  show (gY f n++_).Nodup;rw[List.nodup_append];refine ⟨jH f n,?_,fun a ha b hb e=>?_⟩
  ·rw [List.nodup_iff_pairwise_ne,List.pairwise_map]
   exact List.Pairwise.imp (fun {a b} h=>fun e=>h (by have q:=congrArg Prod.snd e;simp only at q;omega)) (List.nodup_iff_pairwise_ne.1 List.nodup_range)
  obtain ⟨a',p,h1,-,h3⟩:=(lA f n a).1 ha;obtain ⟨q,-,h5⟩:=List.mem_map.1 hb;rw[h3,<-h5]at e;have:=congrArg Prod.fst e;simp only at this;omega
def jG (g:GG) (ne ni:Nat):List (Int × Int):=(g.E.take ne).map (fun e=>(e.t,e.tp))++(g.ins.take ni).map (fun p=>(p.actor,p.port))
def oZ (g:GG) (ne no:Nat):List (Int × Int):=(g.E.take ne).map (fun e=>(e.f,e.fp))++(g.outs.take no).map (fun p=>(p.actor,p.port))
theorem bN (g:GG) (ne ni:Nat) (a p:Int):jW g ne ni a p=true↔(a,p) ∈ jG g ne ni:=by
 unfold jW jG;rw[Bool.or_eq_true,List.any_eq_true,List.any_eq_true,List.mem_append,List.mem_map,List.mem_map]
 constructor
 ·rintro (⟨e,h1,h2⟩|⟨e,h1,h2⟩)
  ·simp only[Bool.and_eq_true,beq_iff_eq]at h2
   exact .inl ⟨e,h1,by rw[h2.1,h2.2]⟩
  simp only[Bool.and_eq_true,beq_iff_eq]at h2;exact .inr ⟨e,h1,by rw[h2.1,h2.2]⟩
 rintro (⟨e,h1,h2⟩|⟨e,h1,h2⟩)
 ·cases h2;exact .inl ⟨e,h1,by simp⟩
 cases h2;exact .inr ⟨e,h1,by simp⟩
theorem fO (g:GG) (ne no:Nat) (a p:Int):pW g ne no a p=true↔(a,p) ∈ oZ g ne no:=by
 unfold pW oZ;rw[Bool.or_eq_true,List.any_eq_true,List.any_eq_true,List.mem_append,List.mem_map,List.mem_map]
 constructor
 ·rintro (⟨e,h1,h2⟩|⟨e,h1,h2⟩)
  ·simp only[Bool.and_eq_true,beq_iff_eq]at h2
   exact .inl ⟨e,h1,by rw[h2.1,h2.2]⟩
  simp only[Bool.and_eq_true,beq_iff_eq]at h2;exact .inr ⟨e,h1,by rw[h2.1,h2.2]⟩
 rintro (⟨e,h1,h2⟩|⟨e,h1,h2⟩)
 ·cases h2;exact .inl ⟨e,h1,by simp⟩
 cases h2;exact .inr ⟨e,h1,by simp⟩
theorem CQ {g:GG} {i:Nat} (h:i<g.E.length):jG g (i+1) 0=jG g i 0++[((wK g.E i).t,(wK g.E i).tp)]:=by
 unfold jG;rw[bT h,List.map_append,List.take_zero,List.map_nil,List.append_nil,List.append_nil];rfl
theorem EC {g:GG} {i:Nat} (h:i<g.E.length):oZ g (i+1) 0=oZ g i 0++[((wK g.E i).f,(wK g.E i).fp)]:=by
 unfold oZ;rw[bT h,List.map_append,List.take_zero,List.map_nil,List.append_nil,List.append_nil];rfl
theorem CP {g:GG} {ne i:Nat} (h:i<g.ins.length):jG g ne (i+1)=jG g ne i++[((wN g.ins i).actor,(wN g.ins i).port)]:=by
 unfold jG;rw[lC h,List.map_append,List.append_assoc];rfl
theorem EB {g:GG} {ne i:Nat} (h:i<g.outs.length):oZ g ne (i+1)=oZ g ne i++[((wN g.outs i).actor,(wN g.outs i).port)]:=by
 unfold oZ;rw[lC h,List.map_append,List.append_assoc];rfl
theorem PM {a p:Int} {n:Nat} {f:Nat->Nat} (h0:0<=a) (h1:a<(n:Int)) (h2:0<=p) (h3:p<(f a.toNat:Int)):(a,p) ∈ gY f n:=
 (lA f n _).2 ⟨a.toNat,p.toNat,by omega,by omega,by rw[Int.toNat_of_nonneg h0,Int.toNat_of_nonneg h2]⟩
theorem JJ {g:GG} (h:fP g):g.E.length+g.ins.length=ML (lE g) g.A.length:=by
 have he:∀i,i<=g.E.length->(jG g i 0).Nodup/\∀x,x ∈ jG g i 0->x ∈ gY (lE g) g.A.length:=fun i=>by
  induction i with
  |zero=>intro _;exact ⟨List.nodup_nil,fun x hx=>by cases hx⟩
  |succ i ih=>
   intro hi;have q:=dR (h.E i (by omega));have r:=ih (by omega);rw[CQ (by omega)];refine ⟨oJ r.1 (fun hm=>?_),fun x hx=>?_⟩
   ·have:=(bN g i 0 _ _).2 hm
    rw[q.2.2]at this
    cases this
   rcases List.mem_append.1 hx with hx|hx
   ·exact r.2 x hx
   rw[List.mem_singleton.1 hx];exact PM q.1.t0 q.1.t1 q.1.tp0 q.1.tp1
 have hp:∀i,i<=g.ins.length->(jG g g.E.length i).Nodup/\∀x,x ∈ jG g g.E.length i->x ∈ gY (lE g) g.A.length:=fun i=>by
  induction i with
  |zero=>intro _;exact he _ (Nat.le_refl _)
  |succ i ih=>
   intro hi;have q:=JK (h.ins i (by omega));have r:=ih (by omega);rw[CP (by omega)];refine ⟨oJ r.1 (fun hm=>?_),fun x hx=>?_⟩
   ·have:=(bN g g.E.length i _ _).2 hm
    rw[q.2.2.2]at this
    cases this
   rcases List.mem_append.1 hx with hx|hx
   ·exact r.2 x hx
   rw[List.mem_singleton.1 hx];exact PM q.2.2.1.1 q.2.2.1.2.1 q.2.2.1.2.2.1 q.2.2.1.2.2.2
 have hl:=hp _ (Nat.le_refl _);have l1:=lB _ _ hl.1 hl.2
 have l2:=lB (gY (lE g) g.A.length) (jG g g.E.length g.ins.length) (jH _ _) (fun x hx=>by
  obtain ⟨a,p,ha,hp',rfl⟩:=(lA _ _ x).1 hx;have ho:=h.opens a ha;unfold bU at ho;rw[Bool.or_eq_false_iff]at ho;have:=List.any_eq_false.1 ho.1 p (List.mem_range.2 hp')
  exact (bN g _ _ _ _).1 (by simpa using this))
 rw[bP]at l1 l2
 have e:(jG g g.E.length g.ins.length).length=g.E.length+g.ins.length:=by unfold jG;simp
 omega
theorem MK {g:GG} (h:fP g):g.E.length+g.outs.length=ML (rD g) g.A.length:=by
 have he:∀i,i<=g.E.length->(oZ g i 0).Nodup/\∀x,x ∈ oZ g i 0->x ∈ gY (rD g) g.A.length:=fun i=>by
  induction i with
  |zero=>intro _;exact ⟨List.nodup_nil,fun x hx=>by cases hx⟩
  |succ i ih=>
   intro hi;have q:=dR (h.E i (by omega));have r:=ih (by omega);rw[EC (by omega)];refine ⟨oJ r.1 (fun hm=>?_),fun x hx=>?_⟩
   ·have:=(fO g i 0 _ _).2 hm
    rw[q.2.1]at this
    cases this
   rcases List.mem_append.1 hx with hx|hx
   ·exact r.2 x hx
   rw[List.mem_singleton.1 hx];exact PM q.1.f0 q.1.f1 q.1.fp0 q.1.fp1
 have hp:∀i,i<=g.outs.length->(oZ g g.E.length i).Nodup/\∀x,x ∈ oZ g g.E.length i->x ∈ gY (rD g) g.A.length:=fun i=>by
  induction i with
  |zero=>intro _;exact he _ (Nat.le_refl _)
  |succ i ih=>
   intro hi;have q:=RI (h.outs i (by omega));have r:=ih (by omega);rw[EB (by omega)];refine ⟨oJ r.1 (fun hm=>?_),fun x hx=>?_⟩
   ·have:=(fO g g.E.length i _ _).2 hm
    rw[q.2.2.2]at this
    cases this
   rcases List.mem_append.1 hx with hx|hx
   ·exact r.2 x hx
   rw[List.mem_singleton.1 hx];exact PM q.2.2.1.1 q.2.2.1.2.1 q.2.2.1.2.2.1 q.2.2.1.2.2.2
 have hl:=hp _ (Nat.le_refl _);have l1:=lB _ _ hl.1 hl.2
 have l2:=lB (gY (rD g) g.A.length) (oZ g g.E.length g.outs.length) (jH _ _) (fun x hx=>by
  obtain ⟨a,p,ha,hp',rfl⟩:=(lA _ _ x).1 hx;have ho:=h.opens a ha;unfold bU at ho;rw[Bool.or_eq_false_iff]at ho;have:=List.any_eq_false.1 ho.2 p (List.mem_range.2 hp')
  exact (fO g _ _ _ _).1 (by simpa using this))
 rw[bP]at l1 l2
 have e:(oZ g g.E.length g.outs.length).length=g.E.length+g.outs.length:=by unfold oZ;simp
 omega
end Go.Proofs.YtdcjdnkdeamigaaGreatDoor
