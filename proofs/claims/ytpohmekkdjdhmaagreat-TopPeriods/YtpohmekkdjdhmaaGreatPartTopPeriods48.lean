/- Texts of one chain. -/
import Derived.Test.YtpohmekkdjdhmaaGreatPartQ
import Derived.Test.YtpohmekkdjdhmaaGreatPartTopPeriods45
import Derived.Test.YtpohmekkdjdhmaaGreatPartTopPeriods47
import Derived.Laws.OwnMore
import Derived.Test.YtpohmekkdjdhmaaGreatPartTopPeriods3
set_option maxRecDepth 100000
set_option maxHeartbeats 8000000
namespace Go.Proofs.YtpohmekkdjdhmaaGreat
open Go.ChangeShapes Go.WideShapes Go.ChangeAt Go.RowKit
def ElB (b:BK) (u:World) (z:Value):Prop:=∃g,z=.slice (some ⟨g,0,none⟩) 1 1/\u.cell? ⟨g,0,none⟩=some (.int .i64 b.n)/\u.cell? ⟨g,1,none⟩=some (.int .i64 b.f)/\u.cell? ⟨g,2,none⟩=some (.int .i64 b.a)
def SlB (B:Nat) (L:List BK) (u:World) (z:Value):Prop:=∃d c,z=.slice d L.length c/\vV B u d c L
theorem SlB.later {B:Nat} {L:List BK} {u u':World} {z:Value} (h:SlB B L u z) (hb:Below u.heap.size u u'):SlB B L u' z:=by
 obtain ⟨d,c,e,h⟩:=h;exact ⟨d,c,e,h.later hb⟩
theorem ElB.later {b:BK} {u u':World} {z:Value} (h:ElB b u z) (hb:Below u.heap.size u u'):ElB b u' z:=by
 obtain ⟨g,e,h0,h1,h2⟩:=h;exact ⟨g,e,zW hb h0,zW hb h1,zW hb h2⟩
theorem IW {V w:World} {o:Oper} {ρ :Operand->Value} (s x:Operand) (ho:o.op=.call { callee:=.builtin .append,args:=#[s,x],argTypes:=#[42,42] }) {B c0:Nat} {d0:Option Addr} {zs:List BK} {b:BK} (hs: ρ s=.slice d0 zs.length c0) (hown:vV B V d0 c0 zs) (hb:Below V.heap.size V w) (hx:ElB b w (ρ x)) (hn:zs.length<=1000000) (hB:B<=V.heap.size)
 {T:World->Value->Prop} (h:∀u d c,vV B u d c (zs++[b])->Below B V u->T u (.slice d (zs.length+1) c)):zC Tryz.prog w T ((execOp ρ o).run Tryz.prog w):=by
 obtain ⟨g,hx,h0,h1,h2⟩:=hx;obtain ⟨i1,hi1,hy0,hy1,hy2⟩:=info_parts Tryz.infoBk;have hown2:vV B w d0 c0 zs:=hown.later hb
 obtain ⟨v',w',hr,h2,h3⟩:=wD (P:=Tryz.prog) w B 42 o.type 99 i1 _ 3 24 Tryz.underlying42 hi1 hy0 hy1 hy2 rfl (by decide) (.slice d0 zs.length c0) zs.length _ hown2 ⟨g,0,none⟩ 1 1 (by decide) [.int .i64 b.n,.int .i64 b.f,.int .i64 b.a] rfl (fun k u hu=>by
  match k,hu with
  |0,hu=>simp at hu;subst hu;simpa [Addr.add] using h0
  |1,hu=>simp at hu;subst hu;simpa [Addr.add] using h1
  |2,hu=>simp at hu;subst hu;simpa [Addr.add] using h2) (fun u hu=>by simp at hu;rcases hu with rfl|rfl|rfl<;>rfl) (by unfold maxLen;omega) (by omega) (Nat.le_trans hB hb.size)
 have h2':w'.ownsRow B 99 3 v' (zs++[b]).length (rH (zs++[b])):=by rw[gI,List.length_append];exact h2
 unfold execOp;simp only[ho,resolve,invoke,builtin,Sem.run_bind,Sem.run_pure,Result.andThen_ok,List.map_toArray,List.map_cons,List.map_nil,hs,hx,hr]
 rcases h3 with ⟨g1,cap,e1,rfl,hg⟩|⟨cap,rfl,hg⟩
 ·simp at e1
  refine h w' _ _ (by unfold vV;rw[List.length_append]at h2' ⊢;exact h2') ((hb.mono hB).grown hg (Nat.le_trans hB hb.size) (fun k hk=>?_))
  cases hk
  exact (hown.lt _ e1.1).1
 exact h w' _ _ (by unfold vV;rw[List.length_append]at h2' ⊢;exact h2') ((hb.mono hB).grown hg (Nat.le_trans hB hb.size) (fun k hk=>by cases hk))
theorem NV {B E:Nat} (w:World) (K0 K gL gO cL cO:Nat) (n:NN) (T F L R O:List Int) (h:dR B E w K0 K gL gO cL cO n T F L O) (hL:LfU n R F L) (hS:yI n) (hF:F.length=n.nodes.toNat):
 Calls Tryz.prog 29 #[(qP K0)] w fun e w'=>∃d c,e=.returned (.slice d (tH n R T F n.nodes.toNat).length c)/\vV w.heap.size w' d c (tH n R T F n.nodes.toNat)/\Below w.heap.size w w':=by
 obtain ⟨RE,hRE⟩:∃Q,(fun (e:Ending) (w':World)=>∃d c,e=.returned (.slice d (tH n R T F n.nodes.toNat).length c)/\vV w.heap.size w' d c (tH n R T F n.nodes.toNat)/\Below w.heap.size w w')=Q:=⟨_,rfl⟩;rw[hRE];have HRE:=zZ hRE;have H0:=zZ h;have HL:=zZ hL;have y0:=h.blk.cell (k:=0) rfl;simp only[List.getElem_toArray,List.getElem_cons_zero]at y0;have FD:=zZ (XM w K n T F h.st);unfold lA at FD;have hnn:=wJ hS;obtain ⟨N,hN⟩:∃N,n.nodes.toNat=N:=⟨_,rfl⟩;have HN:=zZ hN;rw[hN]at hnn hF HRE;rw[hF]at FD;have hlL:=h.lL;rw[hN]at hlL;clear hRE h hL hN
 go_enter Tryz.func29,Tryz.ntmps29
 go_upto_region 3 with (go_at_call 10;(with_reducible refine FD.out.mono ?_);rintro e w1 ⟨aF,cF,rfl,hf1,b1⟩;have F1:=zZ hf1;have B1:=zZ b1;clear hf1 b1)
 clear FD y0;obtain ⟨gF,ea,hg1,hg2⟩:=F1.out.there (by rw[hF];omega);subst ea;have H1:=zZ (H0.out.below B1.out);have y1:=H1.out.blk.cell (k:=1) rfl;simp only[List.getElem_toArray,List.getElem_cons_zero,List.getElem_cons_succ]at y1;rw[hlL]at y1
 go_upto_region 4 with fail
 clear y1;obtain ⟨Q,hQ⟩:∃q,w1.heap.size=q:=⟨_,rfl⟩;have HQ:=zZ hQ
 have hQ1:Q<=w1.heap.size:=by omega
 have hgF:gF<Q:=by omega
 have hlts:=H1.out.lts;rw[hQ]at hlts;clear hQ H0
 have SHa:Hid (∀ (W:World),Below Q w1 W->∀v:Int,Calls Tryz.prog 58 #[(qP K),.int .i64 v] W fun e w'=>e=.returned (.int .i64 (xQ n T v))/\Below W.heap.size W w'):=fun W hW v=>XO W K n T F (H1.out.st.keep (fun k _ hk=>hW.block k (by omega)) hW.size) v
 go_loopg [3,17] N (fun gk u3 u17 wr=>∃(k c:Nat) (d:Option Addr),k<=N/\gk=N-k/\u17=.int .i64 (k:Int)/\u3=.slice d (tH n R T F k).length c/\vV Q wr d c (tH n R T F k)/\Below Q w1 wr)
 case atStart=>exact ⟨0,0,none,Nat.zero_le _,rfl,rfl,rfl,vV.nil _ _,Below.refl _ _⟩
 case round=>
  obtain ⟨k,c,d,hk,rfl,rfl,rfl,hcap,hbw⟩:=hrel;have CM:=zZ hcap;have BW:=zZ hbw;clear hcap hbw
  by_cases hlt:k<N
  ·have hkN:k<N:=hlt
   have hkI:(k:Int)<(N:Int):=by omega
   have hkL:k<L.length:=by rw[hlL];exact hlt
   have L1:=H1.out.lef.keep (w':=wr) (fun x hx=>by cases hx;exact BW.out.block _ hlts.2.1.2)
   rcases L1.at with e|⟨lb,lo,el,hcl⟩
   ·rw [e]at hkL;exact absurd hkL (Nat.not_lt_zero _)
   cases el
   have c1:=hcl k hkL;rw[Nat.zero_add]at c1;have hLk:=HL.out k (by rw[HN.out];exact hlt)
   rcases F1.out.at with e|⟨fb,fo,ef,hcf⟩
   ·rw [e]at hF;simp at hF;omega
   cases ef
   have c0:=hcf k (by rw[hF];exact hlt);rw[Nat.zero_add]at c0;have y0:=H1.out.blk.cell (k:=0) rfl;simp only[List.getElem_toArray,List.getElem_cons_zero]at y0;have hK0:=hlts.1;clear L1 hcl hcf
   by_cases hl:zS F k<zS R k
   ·have hx:zS L k>0:=by omega
    have WS:=zZ (zWQ (n:=n) (T:=T) hl);have hMl:=bN n R T F k
    have SH:Hid (∀ (W:World),Below wr.heap.size wr W->Calls Tryz.prog 58 #[(qP K),.int .i64 (k:Int)] W fun e w'=>e=.returned (.int .i64 (xQ n T (k:Int)))/\Below W.heap.size W w'):=fun W hW=>SHa.out W (BW.out.trans (hW.mono (Nat.le_trans hQ1 BW.out.size))) _
    have hQr:Q<=wr.heap.size:=Nat.le_trans hQ1 BW.out.size;clear hl hLk SHa;generalize xQ n T (k:Int)=y at *;generalize zS F k=x at *;generalize zS L k=lz at *;generalize tH n R T F k=M at *
    go_upto_region 7 with fail
    refine zM [14] (fun d_ i u z=>match i with
     |0=>z=.slice d M.length c
     |1=>z=.int .i64 (k:Int)
     |2=>z=.slice (some ⟨gF,0,none⟩) N cF
     |3=>z=.int .i64 (k:Int)
     |4=>z=.pointer (some ⟨gF,k,none⟩)
     |5=>z=.int .i64 x
     |6=>z=(qP K0)
     |7=>z=(qP K0)
     |8=>z=(qP K0)
     |9=>z=(qP K)
     |10=>z=.int .i64 (k:Int)
     |11=>z=.int .i64 y
     |12=>z=.agg #[.int .i64 (k:Int),.int .i64 x,.int .i64 y]
     |13=>(d_ 14=false->ElB (⟨(k:Int),x,y⟩:BK) u z)
     |14=>(d_ 14=true/\SlB Q (M++[(⟨(k:Int),x,y⟩:BK)]) u z)
     |15=>(d_ 14=true/\SlB Q (M++[(⟨(k:Int),x,y⟩:BK)]) u z)
     |_=>True) (fun d_ u=>(d_ 14=false->Below wr.heap.size wr u)/\Below Q w1 u) (by kernel_rfl) (by kernel_rfl) (by kernel_rfl) ?_ ?_ ?_ ?_ ?_ ?_ (by kernel_rfl)
    ·intro d_ i w v w' h hb
     match i,h with
     |0,h=>exact h
     |1,h=>exact h
     |2,h=>exact h
     |3,h=>exact h
     |4,h=>exact h
     |5,h=>exact h
     |6,h=>exact h
     |7,h=>exact h
     |8,h=>exact h
     |9,h=>exact h
     |10,h=>exact h
     |11,h=>exact h
     |12,h=>exact h
     |13,h=>exact fun e=>(h e).later hb
     |14,h=>exact ⟨h.1,h.2.later hb⟩
     |15,h=>exact ⟨h.1,h.2.later hb⟩
     |_+16,_=>trivial
    ·intro d_ u u' h hb
     exact ⟨fun e=>(h.1 e).trans (hb.mono (h.1 e).size),h.2.trans (hb.mono (Nat.le_trans hQ1 h.2.size))⟩
    ·exact ⟨fun _=>Below.refl _ _,BW.out⟩
    ·intro d_ i o ρ w' hm ho hf hg hC hcs hfs hfr zX
     match i,hm,ho,hf,hg,hfr,zX with
     |0,_,ho,hf,hg,hfr,zX=>
      simp only[qS]at ho;subst ho;refine ⟨fun _=>?_,qF⟩
      have ts: ρ (.tmp 3)=.slice d M.length c:=(qR hfr 3);simp[go_sem,ts];exact qB
     |1,_,ho,hf,hg,hfr,zX=>
      simp only[qS]at ho;subst ho;refine ⟨fun _=>?_,qF⟩
      have ts: ρ (.tmp 5)=.int .i64 (k:Int):=(qR hfr 5);simp[go_sem,ts];exact qB
     |2,_,ho,hf,hg,hfr,zX=>
      simp only[qS]at ho;subst ho;refine ⟨fun _=>?_,qF⟩
      have ts: ρ (.tmp 4)=.slice (some ⟨gF,0,none⟩) N cF:=(qR hfr 4);simp[go_sem,ts];exact qB
     |3,_,ho,hf,hg,hfr,zX=>
      simp only[qS]at ho;subst ho;refine ⟨fun _=>?_,qF⟩
      have ts: ρ (.tmp 5)=.int .i64 (k:Int):=(qR hfr 5);simp[go_sem,ts];exact qB
     |4,_,ho,hf,hg,hfr,zX=>
      simp only[qS]at ho;subst ho;refine ⟨fun _=>?_,qF⟩
      have d0: ρ (.tmp 26)=.slice (some ⟨gF,0,none⟩) N cF:=(qH zX 2 26);have d1: ρ (.tmp 27)=.int .i64 (k:Int):=(qH zX 3 27);simp[go_sem,d0,d1,hkN];exact qB
     |5,_,ho,hf,hg,hfr,zX=>
      simp only[qS]at ho;subst ho;refine ⟨fun _=>?_,qF⟩
      have cc:=zG hC.2 hgF c0;have d0: ρ (.tmp 28)=.pointer (some ⟨gF,k,none⟩):=(qH zX 4 28);simp[go_sem,d0,cc];exact qB
     |6,_,ho,hf,hg,hfr,zX=>
      simp only[qS]at ho;subst ho;refine ⟨fun _=>?_,qF⟩
      have ts: ρ (.tmp 0)=(qP K0):=(qR hfr 0);simp[go_sem,ts];exact qB
     |7,_,ho,hf,hg,hfr,zX=>
      simp only[qS]at ho;subst ho;refine ⟨fun _=>?_,qF⟩
      have d0: ρ (.tmp 30)=(qP K0):=(qH zX 6 30);simp[go_sem,d0];exact qB
     |8,_,ho,hf,hg,hfr,zX=>
      simp only[qS]at ho;subst ho;refine ⟨fun _=>?_,qF⟩
      have d0: ρ (.tmp 31)=(qP K0):=(qH zX 7 31);simp[go_sem,d0];exact qB
     |9,_,ho,hf,hg,hfr,zX=>
      simp only[qS]at ho;subst ho;refine ⟨fun _=>?_,qF⟩
      have cc:=zG hC.2 hK0 y0;have d0: ρ (.tmp 32)=(qP K0):=(qH zX 8 32);simp[go_sem,d0,cc];exact qB
     |10,_,ho,hf,hg,hfr,zX=>
      simp only[qS]at ho;subst ho;refine ⟨fun _=>?_,qF⟩
      have ts: ρ (.tmp 5)=.int .i64 (k:Int):=(qR hfr 5);simp[go_sem,ts];exact qB
     |11,_,ho,hf,hg,hfr,zX=>
      simp only[qS]at ho;subst ho;refine ⟨fun _=>?_,qF⟩
      have t0: ρ (.tmp 33)=(qP K):=(qH zX 9 33);have t1: ρ (.tmp 34)=.int .i64 (k:Int):=(qH zX 10 34);have h14:d_ 14=false:=hf 14 (by decide) (by kernel_rfl);simp[go_sem,t0,t1,hfs];exact ⟨rfl,(SH.out w' (hC.1 h14)).mono fun e w'' hh=>⟨_,hh.1,hh.2,rfl⟩⟩
     |12,_,ho,hf,hg,hfr,zX=>
      simp only[qS]at ho;subst ho;refine ⟨fun _=>?_,qF⟩
      have d0: ρ (.tmp 25)=.int .i64 (k:Int):=(qH zX 1 25);have d1: ρ (.tmp 29)=.int .i64 x:=(qH zX 5 29);have d2: ρ (.tmp 35)=.int .i64 y:=(qH zX 11 35);simp[go_sem,d0,d1,d2];exact qB
     |13,_,ho,hf,hg,hfr,zX=>
      simp only[qS]at ho;subst ho;refine ⟨fun _=>?_,qF⟩
      have t0: ρ (.tmp 36)=.agg #[.int .i64 (k:Int),.int .i64 x,.int .i64 y]:=(qH zX 12 36);simp[go_sem,t0];exact ⟨(Below.refl _ _).alloc (Nat.le_refl _) _,fun _=>⟨w'.heap.size,rfl,(zV 99 w' #[.int .i64 (k:Int),.int .i64 x,.int .i64 y]).cell rfl,(zV 99 w' #[.int .i64 (k:Int),.int .i64 x,.int .i64 y]).cell rfl,(zV 99 w' #[.int .i64 (k:Int),.int .i64 x,.int .i64 y]).cell rfl⟩⟩
     |14,hm,_,_,_,_,_=>exact qD hm
     |15,_,ho,hf,hg,hfr,zX=>
      simp only[qS]at ho;subst ho;refine ⟨fun _=>?_,qF⟩
      have t0:d_ 14=true/\SlB Q (M++[(⟨(k:Int),x,y⟩:BK)]) w' (ρ (.tmp 38)):=(qH zX 14 38);obtain ⟨qd,d9,c9,q0,q1⟩:=t0;simp[go_sem,q0];exact ⟨Below.refl _ _,qd,d9,c9,by rw[List.length_append];rfl,q1⟩
     |n+16,_,ho,_,_,_,_=>simp at ho
    ·intro d_ i o ρ w' hm ho h0 hf hg hC hcs hfs hfr zX
     match i,hm,ho,h0,hf,hg,hfr,zX with
     |0,hm,_,_,_,_,_,_=>exact qD hm
     |1,hm,_,_,_,_,_,_=>exact qD hm
     |2,hm,_,_,_,_,_,_=>exact qD hm
     |3,hm,_,_,_,_,_,_=>exact qD hm
     |4,hm,_,_,_,_,_,_=>exact qD hm
     |5,hm,_,_,_,_,_,_=>exact qD hm
     |6,hm,_,_,_,_,_,_=>exact qD hm
     |7,hm,_,_,_,_,_,_=>exact qD hm
     |8,hm,_,_,_,_,_,_=>exact qD hm
     |9,hm,_,_,_,_,_,_=>exact qD hm
     |10,hm,_,_,_,_,_,_=>exact qD hm
     |11,hm,_,_,_,_,_,_=>exact qD hm
     |12,hm,_,_,_,_,_,_=>exact qD hm
     |13,hm,_,_,_,_,_,_=>exact qD hm
     |14,_,ho,h0,hf,hg,hfr,zX=>
      simp only[qS]at ho;subst ho;have t0: ρ (.tmp 24)=.slice d M.length c:=(qH zX 0 24);have t1:ElB (⟨(k:Int),x,y⟩:BK) w' (ρ (.tmp 37)):=(qH zX 13 37) h0;refine ⟨rfl,IW (.tmp 24) (.tmp 37) rfl t0 CM.out (hC.1 h0) t1 (by omega) hQr ?_⟩
      intro u9 d9 c9 hG hB9;refine ⟨⟨fun e=>absurd e (by rw[zL];decide),BW.out.trans hB9⟩,fun _=>⟨zL _ _,d9,c9,by rw[List.length_append];rfl,hG⟩,?_⟩
      intro i t hi hs
      match i,hi,hs with
      |0,_,hs=>exact hs
      |1,_,hs=>exact hs
      |2,_,hs=>exact hs
      |3,_,hs=>exact hs
      |4,_,hs=>exact hs
      |5,_,hs=>exact hs
      |6,_,hs=>exact hs
      |7,_,hs=>exact hs
      |8,_,hs=>exact hs
      |9,_,hs=>exact hs
      |10,_,hs=>exact hs
      |11,_,hs=>exact hs
      |12,_,hs=>exact hs
      |13,_,hs=>exact fun e=>absurd e (by rw[zL];decide)
      |14,_,hs=>exact absurd hs.1 (by rw[h0];decide)
      |15,_,hs=>exact absurd hs.1 (by rw[h0];decide)
      |_+16,_,_=>trivial
     |15,hm,_,_,_,_,_,_=>exact qD hm
     |n+16,_,ho,_,_,_,_,_=>simp at ho
    intro U2 W2 hC2 hS;obtain ⟨-,d2,c2,e15,D2⟩:true=true/\SlB Q (M++[(⟨(k:Int),x,y⟩:BK)]) W2 (U2 15):=hS 15 (by decide) (by intro h;cases h);simp only[yP,e15];simp only[Act.put,qU];clear hS e15;have D2':=zZ D2;have B2:=zZ hC2.2;rw[<- WS.out]at D2';clear D2 hC2
    go_wp2
    go_roundg (N-(k+1))
    case measure=>omega
    case rel=>exact ⟨k+1,c2,d2,by omega,rfl,by go_num,by rw[WS.out],D2'.out,B2.out⟩
   have hx:¬zS L k>0:=by omega
   have WS:=zZ (zSF (n:=n) (T:=T) hl);clear hl hLk y0 c0;generalize zS L k=lz at *
   go_wp2
   go_roundg (N-(k+1))
   case measure=>omega
   case rel=>exact ⟨k+1,c,d,by omega,rfl,by go_num,by rw[WS.out],by rw[WS.out];exact CM.out,BW.out⟩
  have ek:k=N:=by omega
  subst ek
  go_wp2
  rw[<- HRE.out]
  have hQw:w.heap.size<=Q:=by rw[<- HQ.out];exact B1.out.size
  exact ⟨d,c,rfl,CM.out.mono hQw,B1.out.trans (BW.out.mono hQw)⟩
def vE (n:NN) (R P:List Int):Int:=if WF n R=0 then (if YQ n R=true then (if 2048<xN R then 5 else if uY n P=true then 0 else 100) else 130) else WF n R
structure NU (n : NN) (R : List Int) : Prop where
 check:zN n=0
 len:R.length=n.nodes.toNat
 nodes:R.length<=32
 win:∀k,k<R.length->1<=zS R k/\zS R k<=4096
 bal:BalU n R
theorem zMV {n:NN} {R:List Int} {i:Nat} (he:jX n.arcs (oG R) i) (hsa:bZ n.nodes (zU n.arcs i)) (w1:1<=zS R (zU n.arcs i).f.toNat) (w2:1<=zS R (zU n.arcs i).t.toNat):(zU n.arcs i).g*zS R (zU n.arcs i).f.toNat=(zU n.arcs i).k*zS R (zU n.arcs i).t.toNat:=by
 unfold jX gN kN fN tN oG at he;have e:=congrArg (fun z:Nat=>(z:Int)) he;have hg:=hsa.g;have hk:=hsa.k;simp only[Int.natCast_mul]at e;rw[Int.toNat_of_nonneg (by omega),Int.toNat_of_nonneg (by omega),Int.toNat_of_nonneg (by omega),Int.toNat_of_nonneg (by omega)]at e;exact e
theorem cR {n:NN} {R:List Int} (h:YQ n R=true):NU n R:=by
 unfold YQ at h;rw[Bool.and_eq_true,Bool.and_eq_true,Bool.and_eq_true,decide_eq_true_iff,decide_eq_true_iff]at h;obtain ⟨h1,h2,h3,h4⟩:=h;have hS:=zB h1;have hn:=hS.nodes;have hw:=oH.1 h3;refine ⟨h1,by omega,by omega,hw,fun i hi=>?_⟩
 have hf:jB n.arcs (oG R)=none:=by
  cases hx:jB n.arcs (oG R) with
  |none=>rfl
  |some j=>rw[hx]at h4;cases h4
 have he:=EL hf i hi;have hsa:=hS.arcs i hi;have ha:=hsa.f;have ht:=hsa.t;have w1:=hw (zU n.arcs i).f.toNat (by omega);have w2:=hw (zU n.arcs i).t.toNat (by omega);exact zMV he hsa w1.1 w2.1
theorem zMU {n:NN} {R:List Int} (h:YQ n R=true):WF n R=0:=by
 unfold YQ at h;rw[Bool.and_eq_true,Bool.and_eq_true,decide_eq_true_iff,decide_eq_true_iff]at h;unfold WF;rw[if_pos h.1,if_pos h.2.1]
theorem zYN {n:NN} {R P:List Int} (h:¬WF n R=0):vE n R P=WF n R:=by unfold vE;rw[if_neg h]
theorem IV (n:NN) (a:Option Addr) (c:Nat) (R:List Int) (r:Option Addr) (rc:Nat) (P:List Int) (p:Option Addr) (pc:Nat) (w:World) (h:vN w a n.arcs) (hl:n.arcs.length<=4611686018427387904) (hr:At w r R) (hR:R.length<=4611686018427387904) (hp:At w p P) (hP:P.length<=4611686018427387904):
 Calls Tryz.prog 26 #[.agg #[.int .i64 n.nodes,.slice a n.arcs.length c],.slice r R.length rc,.slice p P.length pc] w fun e w'=>e=.returned (.int .i64 (vE n R P))/\Below w.heap.size w w':=by
 have b0:=(Below.refl w.heap.size w).alloc (Nat.le_refl _) (.cells #[.int .i64 n.nodes,.slice a n.arcs.length c] 30);have X0:=zZ (zV 30 w #[.int .i64 n.nodes,.slice a n.arcs.length c]);have B0:=zZ b0;have HO:=zZ (zYR n a c R r rc _ (h.below b0) hl (hr.below b0) hR);have HR:=zZ (hr.below b0);have HP:=zZ (hp.below b0);clear b0 h hr hp;have y0:=X0.out.cell (k:=0) rfl;have y1:=X0.out.cell (k:=1) rfl;simp only[List.getElem_toArray,List.getElem_cons_zero,List.getElem_cons_succ]at y0 y1
 by_cases he:WF n R=0
 ·rw [he]at HO
  cases hb:YQ n R with
  |false=>
   have HE:Hid (vE n R P=130):=by show _=_;unfold vE;rw[if_pos he,hb];rfl
   rw[hb]at HO;clear hb he
   go_enter Tryz.func26,Tryz.ntmps26
   go_upto_region 1 with fail
   generalize w.alloc (.cells #[.int .i64 n.nodes,.slice a n.arcs.length c] 30)=W0 at *
   go_wp2_with (go_at_call 53;(with_reducible refine HO.out.mono ?_);rintro e W1 ⟨rfl,b1⟩;have L1:=zZ (B0.out.trans (b1.mono B0.out.size));clear b1)
   go_ret
   exact ⟨by rw[HE.out];rfl,L1.out⟩
  |true=>
   have hg:=cR hb;have TT:=zZ (fun (W:World) (hW:At W r R)=>JB r R R.length rc W rfl hg.nodes hg.win hW);have AN:=zZ (fun (W:World) (hW:At W p P)=>TO n a c p P P.length pc W rfl hP hW);rw[hb]at HO
   by_cases hs:2048<xN R
   ·have HE:Hid (vE n R P=5):=by show _=_;unfold vE;rw[if_pos he,if_pos hb,if_pos hs]
    clear hb he hg AN
    go_enter Tryz.func26,Tryz.ntmps26
    go_upto_region 1 with fail
    generalize w.alloc (.cells #[.int .i64 n.nodes,.slice a n.arcs.length c] 30)=W0 at *;generalize xN R=sm at *;have hgt:sm>2048:=hs
    go_wp2_with (first
     |(go_at_call 53;(with_reducible refine HO.out.mono ?_);rintro e W1 ⟨rfl,b1⟩;have L1:=zZ (B0.out.trans (b1.mono B0.out.size));have R1:=zZ (HR.out.below b1);clear b1)
     |(go_at_call 54;(with_reducible refine (TT.out W1 R1.out).mono ?_);rintro e W2 ⟨rfl,rfl⟩))
    go_ret
    exact ⟨by rw[HE.out];rfl,L1.out⟩
   cases ha:uY n P with
   |false=>
    have HE:Hid (vE n R P=100):=by show _=_;unfold vE;rw[if_pos he,if_pos hb,if_neg hs,ha];rfl
    rw[ha]at AN;clear hb he hg ha
    go_enter Tryz.func26,Tryz.ntmps26
    go_upto_region 1 with fail
    generalize w.alloc (.cells #[.int .i64 n.nodes,.slice a n.arcs.length c] 30)=W0 at *;generalize xN R=sm at *;have hgt:¬sm>2048:=hs
    go_wp2_with (first
     |(go_at_call 53;(with_reducible refine HO.out.mono ?_);rintro e W1 ⟨rfl,b1⟩;have L1:=zZ (B0.out.trans (b1.mono B0.out.size));have R1:=zZ (HR.out.below b1);have P1:=zZ (HP.out.below b1);have z0:=(X0.out.below b1).cell (k:=0) rfl;have z1:=(X0.out.below b1).cell (k:=1) rfl;simp only[List.getElem_toArray,List.getElem_cons_zero,List.getElem_cons_succ]at z0 z1;clear b1 y0 y1)
     |(go_at_call 54;(with_reducible refine (TT.out W1 R1.out).mono ?_);rintro e W2 ⟨rfl,rfl⟩)
     |(go_at_call 55;(with_reducible refine (AN.out _ P1.out).mono ?_);rintro e W3 ⟨rfl,b3⟩;have L3:=zZ (L1.out.trans (b3.mono L1.out.size));clear b3))
    go_ret
    exact ⟨by rw[HE.out];rfl,L3.out⟩
   |true=>
    have HE:Hid (vE n R P=0):=by show _=_;unfold vE;rw[if_pos he,if_pos hb,if_neg hs,ha];rfl
    rw[ha]at AN;clear hb he hg ha
    go_enter Tryz.func26,Tryz.ntmps26
    go_upto_region 1 with fail
    generalize w.alloc (.cells #[.int .i64 n.nodes,.slice a n.arcs.length c] 30)=W0 at *;generalize xN R=sm at *;have hgt:¬sm>2048:=hs
    go_wp2_with (first
     |(go_at_call 53;(with_reducible refine HO.out.mono ?_);rintro e W1 ⟨rfl,b1⟩;have L1:=zZ (B0.out.trans (b1.mono B0.out.size));have R1:=zZ (HR.out.below b1);have P1:=zZ (HP.out.below b1);have z0:=(X0.out.below b1).cell (k:=0) rfl;have z1:=(X0.out.below b1).cell (k:=1) rfl;simp only[List.getElem_toArray,List.getElem_cons_zero,List.getElem_cons_succ]at z0 z1;clear b1 y0 y1)
     |(go_at_call 54;(with_reducible refine (TT.out W1 R1.out).mono ?_);rintro e W2 ⟨rfl,rfl⟩)
     |(go_at_call 55;(with_reducible refine (AN.out _ P1.out).mono ?_);rintro e W3 ⟨rfl,b3⟩;have L3:=zZ (L1.out.trans (b3.mono L1.out.size));clear b3))
    go_ret
    exact ⟨by rw[HE.out];rfl,L3.out⟩
 have HE:=zZ (zYN (P:=P) he)
 have hne:(WF n R !=0)=true:=by simpa using he
 generalize WF n R=er at *;generalize YQ n R=bo at *;clear he
 go_enter Tryz.func26,Tryz.ntmps26
 go_upto_region 1 with fail
 generalize w.alloc (.cells #[.int .i64 n.nodes,.slice a n.arcs.length c] 30)=W0 at *
 go_wp2_with (go_at_call 53;(with_reducible refine HO.out.mono ?_);rintro e W1 ⟨rfl,b1⟩;have L1:=zZ (B0.out.trans (b1.mono B0.out.size));clear b1)
 go_ret
 exact ⟨by rw[HE.out];rfl,L1.out⟩
structure GhU where
 gL:Nat
 cL:Nat
 gO:Nat
 cO:Nat
structure CU (V : World) (R O : List Int) (y : GhU) (d : Nat -> Bool) (u : World) : Prop where
 bel:Below V.heap.size V u
 l:d 2=true->zO V.heap.size u (some ⟨y.gL,0,none⟩) y.cL R
 o:d 6=true->zO V.heap.size u (some ⟨y.gO,0,none⟩) y.cO O
 dis:d 2=true->d 6=true->y.gL≠y.gO
theorem CU.start (V:World) (R O:List Int) (y:GhU):CU V R O y (fun _=>false) V:=⟨Below.refl _ _,(fun h=>by cases h),(fun h=>by cases h),(fun h=>by cases h)⟩
theorem CU.later {V u u':World} {R O:List Int} {y:GhU} {d:Nat->Bool} (h:CU V R O y d u) (hb:Below u.heap.size u u'):CU V R O y d u':=
 ⟨h.bel.trans (hb.mono h.bel.size),fun e=>(h.l e).later hb,fun e=>(h.o e).later hb,h.dis⟩
theorem CU.m2 {V u u':World} {R O:List Int} {y:GhU} {d:Nat->Bool} {g c:Nat} (h:CU V R O y d u) (hw:zO u.heap.size u' (some ⟨g,0,none⟩) c R) (hb:Below u.heap.size u u'):CU V R O ⟨g,c,y.gO,y.cO⟩ (zA d 2) u':=by
 have k:=h.later hb;have e4:zA d 2 6=d 6:=zP d (by decide);refine ⟨k.bel,fun _=>hw.mono h.bel.size,fun e=>k.o (by rw[<- e4];exact e),fun _ e=>?_⟩
 rw[e4]at e;have h1:=(hw.lt _ rfl).1;have h2:=((h.o e).lt _ rfl).2;simp only at h1 h2 ⊢;omega
theorem CU.m6 {V u u':World} {R O:List Int} {y:GhU} {d:Nat->Bool} {g c:Nat} (h:CU V R O y d u) (hw:zO u.heap.size u' (some ⟨g,0,none⟩) c O) (hb:Below u.heap.size u u'):CU V R O ⟨y.gL,y.cL,g,c⟩ (zA d 6) u':=by
 have k:=h.later hb;have e4:zA d 6 2=d 2:=zP d (by decide);refine ⟨k.bel,fun e=>k.l (by rw[<- e4];exact e),fun _=>hw.mono h.bel.size,fun e _=>?_⟩
 rw[e4]at e;have h1:=(hw.lt _ rfl).1;have h2:=((h.l e).lt _ rfl).2;simp only at h1 h2 ⊢;omega
theorem NT {N:Nat} {P:List Int} (h:∀z ∈ P,0<=z/\z<(N:Int)):(sP N P).length<=N/\∀z ∈ sP N P,0<=z/\z<(N:Int):=by
 have h2:∀z ∈ sP N P,0<=z/\z<(N:Int):=fun z hz=>by
  rcases nM.1 hz with h1|h1
  ·rcases nM.1 h1 with h2|h2
   ·cases h2
   exact h z h2
  exact kK.1 h1
 exact ⟨WC (sF (sF List.nodup_nil)) h2,h2⟩
theorem NS {N:Nat} {P:List Int} {z:Int} (h:0<=z/\z<(N:Int)):z ∈ sP N P:=nM.2 (.inr (kK.2 h))
def zMT (n:NN) (R P:List Int) (w:World) (e:Ending) (w':World):Prop:=∃B E K0 K gL gO cL cO,e=.returned (.tuple #[(qP K0),.int .i64 0])/\dR B E w' K0 K gL gO cL cO n (zH n) (List.replicate n.nodes.toNat 0) R (sP n.nodes.toNat P)/\w.heap.size<=B/\Below w.heap.size w w'
theorem zYM (n:NN) (a:Option Addr) (c:Nat) (R:List Int) (r:Option Addr) (rc:Nat) (P:List Int) (p:Option Addr) (pc:Nat) (w:World) (h:vN w a n.arcs) (hna:a=none->n.arcs.length=0/\c=0) (hr:At w r R) (hrn:r=none->R.length=0/\rc=0) (hp:At w p P) (hP:P.length<=4611686018427387904) (hg:NU n R) (hPn:uY n P=true):
 Calls Tryz.prog 27 #[.agg #[.int .i64 n.nodes,.slice a n.arcs.length c],.slice r R.length rc,.slice p P.length pc] w (zMT n R P w):=by
 obtain ⟨RE,hRE⟩:∃Q,zMT n R P w=Q:=⟨_,rfl⟩;rw[hRE];have HRE:=zZ hRE;have hS:=zB hg.check;have hnn:=wJ hS;have hmost:=hS.most;have b0:=(Below.refl w.heap.size w).alloc (Nat.le_refl _) (.cells #[.int .i64 n.nodes,.slice a n.arcs.length c] 30);have X0:=zZ (zV 30 w #[.int .i64 n.nodes,.slice a n.arcs.length c]);have B0:=zZ b0;have hRl:=hg.len;obtain ⟨N,hN⟩:∃N,n.nodes.toNat=N:=⟨_,rfl⟩
 have hPi:∀z ∈ P,0<=z/\z<(N:Int):=fun z hz=>by have:=vH (ZP.1 hPn z hz);omega
 have NW:Hid (Calls Tryz.prog 9 #[.agg #[.int .i64 n.nodes,.slice a n.arcs.length c]] (w.alloc (.cells #[.int .i64 n.nodes,.slice a n.arcs.length c] 30)) fun e w'=>∃K E,e=.returned (.tuple #[(qP K),.int .i64 0])/\tB (w.alloc (.cells #[.int .i64 n.nodes,.slice a n.arcs.length c] 30)).heap.size E w' K n (zH n) (List.replicate n.nodes.toNat 0)/\Below (w.alloc (.cells #[.int .i64 n.nodes,.slice a n.arcs.length c] 30)).heap.size (w.alloc (.cells #[.int .i64 n.nodes,.slice a n.arcs.length c] 30)) w'):=by
  refine (PG n a c _ (h.below b0) (by omega) hna).mono ?_
  intro e w' hh;unfold JS at hh;rw[if_pos hg.check]at hh;exact hh
 have HR:=zZ (hr.below b0);have HP:=zZ (hp.below b0)
 have CLa:Hid (∀ (W:World),At W r R->Calls Tryz.prog 31 #[.slice r R.length rc] W fun e w'=>∃g cc,e=.returned (.slice (some ⟨g,0,none⟩) R.length cc)/\zO W.heap.size w' (some ⟨g,0,none⟩) cc R/\Below W.heap.size W w'):=fun W hW=>by
  refine (jG r R R.length rc W rfl (by omega) hrn hW).mono ?_
  rintro e w' ⟨a',cap',rfl,h1,h2⟩
  obtain ⟨g,rfl,-,-⟩:=h1.there (by omega);exact ⟨g,cap',rfl,h1,h2⟩
 have RKa:Hid (∀ (W:World),At W p P->Calls Tryz.prog 56 #[.int .i64 (N:Int),.slice p P.length pc] W fun e w'=>∃g cc,e=.returned (.slice (some ⟨g,0,none⟩) (sP N P).length cc)/\zO W.heap.size w' (some ⟨g,0,none⟩) cc (sP N P)/\Below W.heap.size W w'):=fun W hW=>by
  refine (IZ P p P.length pc N W rfl hP (by omega) hPi hW).mono ?_
  rintro e w' ⟨a',cap',rfl,h1,h2⟩
  obtain ⟨g,rfl,-,-⟩:=h1.there (List.length_pos_iff.2 fun e=>by
   have:=NS (N:=N) (P:=P) (z:=0) (by omega)
   rw[e]at this;cases this)
  exact ⟨g,cap',rfl,h1,h2⟩
 have HNd:Hid ((sP N P).length<=32/\∀v ∈ sP N P,xT n v=true):=⟨Nat.le_trans (NT hPi).1 (by omega),fun v hv=>decide_eq_true (by have:=(NT hPi).2 v hv;omega)⟩;have HRl:Hid (R.length=n.nodes.toNat):=hRl
 have HO:Hid (sP n.nodes.toNat P=sP N P):=by show _=_;rw[hN]
 have HL:Hid (R.length=N):=by show _=_;rw[hRl,hN]
 have y0:=X0.out.cell (k:=0) rfl;have y1:=X0.out.cell (k:=1) rfl;simp only[List.getElem_toArray,List.getElem_cons_zero,List.getElem_cons_succ]at y0 y1
 have hn1:Hid (n.nodes=(N:Int)):=by show _=_;omega
 rw[HL.out];clear b0 hr hp hrn h hna hRE hPi hPn hRl hN hnn
 go_enter Tryz.func27,Tryz.ntmps27
 go_upto_region 1 with fail
 generalize hW0:w.alloc (.cells #[.int .i64 n.nodes,.slice a n.arcs.length c] 30)=W0 at *
 go_upto_region 4 with (go_at_call 9;(with_reducible refine NW.out.mono ?_);rintro e V1 ⟨K,E,rfl,s1,b1⟩;have S1:=zZ s1;have B1:=zZ b1;clear s1 b1)
 have y0:=(X0.out.below B1.out).cell (k:=0) rfl;simp only[List.getElem_toArray,List.getElem_cons_zero]at y0;have R1:=zZ (HR.out.below B1.out);have P1:=zZ (HP.out.below B1.out)
 have CL:Hid (∀ (W:World),Below V1.heap.size V1 W->Calls Tryz.prog 31 #[.slice r N rc] W fun e w'=>∃g cc,e=.returned (.slice (some ⟨g,0,none⟩) N cc)/\zO W.heap.size w' (some ⟨g,0,none⟩) cc R/\Below W.heap.size W w'):=fun W hW=>by
  have:=CLa.out W (R1.out.below hW);rw[HL.out]at this;exact this
 have RK:=zZ (fun (W:World) (hW:Below V1.heap.size V1 W)=>RKa.out W (P1.out.below hW));rw[hn1.out]at y0;generalize hO:sP N P=O at *;generalize hM:O.length=M at *;generalize P.length=len at *;obtain ⟨xb,hxb⟩:∃q,w.heap.size=q:=⟨_,rfl⟩;rw[hxb]at y0 ⊢;clear NW HR HP CLa RKa R1 P1
 refine pL [2,6] (fun y d i u z=>match i with
  |0=>z=(qP K)
  |1=>z=.slice r N rc
  |2=>(d 2=true/\z=.slice (some ⟨y.gL,0,none⟩) N y.cL)
  |3=>z=(qP xb)
  |4=>z=.int .i64 (N:Int)
  |5=>z=.slice p len pc
  |6=>(d 6=true/\z=.slice (some ⟨y.gO,0,none⟩) M y.cO)
  |7=>((d 2=true/\d 6=true)/\z=.agg #[(qP K),.slice (some ⟨y.gL,0,none⟩) N y.cL,.slice (some ⟨y.gO,0,none⟩) M y.cO])
  |8=>((d 2=true/\d 6=true)/\∃K0,z=(qP K0)/\zE 133 K0 u #[(qP K),.slice (some ⟨y.gL,0,none⟩) N y.cL,.slice (some ⟨y.gO,0,none⟩) M y.cO]/\V1.heap.size<=K0/\K0≠y.gL/\K0≠y.gO)
  |9=>((d 2=true/\d 6=true)/\∃K0,z=(qP K0)/\zE 133 K0 u #[(qP K),.slice (some ⟨y.gL,0,none⟩) N y.cL,.slice (some ⟨y.gO,0,none⟩) M y.cO]/\V1.heap.size<=K0/\K0≠y.gL/\K0≠y.gO)
  |10=>z=.int .i64 0
  |_=>True) (fun y d u=>CU V1 R O y d u) (⟨0,0,0,0⟩) (by kernel_rfl) (by kernel_rfl) (by kernel_rfl) ?_ ?_ ?_ ?_ ?_ ?_ (by kernel_rfl)
 ·intro y d i w v w' h hb
  match i,h with
  |0,h=>exact h
  |1,h=>exact h
  |2,h=>exact h
  |3,h=>exact h
  |4,h=>exact h
  |5,h=>exact h
  |6,h=>exact h
  |7,h=>exact h
  |8,h=>exact ⟨h.1,by obtain ⟨K0,h1,h2,h3⟩:=h.2;exact ⟨K0,h1,h2.below hb,h3⟩⟩
  |9,h=>exact ⟨h.1,by obtain ⟨K0,h1,h2,h3⟩:=h.2;exact ⟨K0,h1,h2.below hb,h3⟩⟩
  |10,h=>exact h
  |_+11,_=>trivial
 ·intro y d u u' h hb
  exact CU.later h hb
 ·exact CU.start _ _ _ _
 ·intro y d i o ρ w' hm ho hf hg hC hcs hfs hfr zX
  match i,hm,ho,hf,hg,hfr,zX with
  |0,_,ho,hf,hg,hfr,zX=>
   simp only[qS]at ho;subst ho;refine ⟨fun _=>?_,qF⟩
   have ts: ρ (.tmp 8)=(qP K):=(qR hfr 8);simp[go_sem,ts];exact qB
  |1,_,ho,hf,hg,hfr,zX=>
   simp only[qS]at ho;subst ho;refine ⟨fun _=>?_,qF⟩
   have ts: ρ (.tmp 1)=.slice r N rc:=(qR hfr 1);simp[go_sem,ts];exact qB
  |2,hm,_,_,_,_,_=>exact qD hm
  |3,_,ho,hf,hg,hfr,zX=>
   simp only[qS]at ho;subst ho;refine ⟨fun _=>?_,qF⟩
   have ts: ρ (.tmp 3)=(qP xb):=(qR hfr 3);simp[go_sem,ts];exact qB
  |4,_,ho,hf,hg,hfr,zX=>
   simp only[qS]at ho;subst ho;refine ⟨fun _=>?_,qF⟩
   have k0:=zW hC.bel y0;have d0: ρ (.tmp 21)=(qP xb):=(qH zX 3 21);simp[go_sem,d0,k0];exact qB
  |5,_,ho,hf,hg,hfr,zX=>
   simp only[qS]at ho;subst ho;refine ⟨fun _=>?_,qF⟩
   have ts: ρ (.tmp 2)=.slice p len pc:=(qR hfr 2);simp[go_sem,ts];exact qB
  |6,hm,_,_,_,_,_=>exact qD hm
  |7,_,ho,hf,hg,hfr,zX=>
   simp only[qS]at ho;subst ho;refine ⟨fun _=>?_,qF⟩
   have t0: ρ (.tmp 18)=(qP K):=(qH zX 0 18);obtain ⟨q1,t1⟩:d 2=true/\ ρ (.tmp 20)=.slice (some ⟨y.gL,0,none⟩) N y.cL:=(qH zX 2 20);obtain ⟨q4,t4⟩:d 6=true/\ ρ (.tmp 24)=.slice (some ⟨y.gO,0,none⟩) M y.cO:=(qH zX 6 24);simp[go_sem,t0,t1,t4];exact ⟨Below.refl _ _,⟨q1,q4⟩,rfl⟩
  |8,_,ho,hf,hg,hfr,zX=>
   simp only[qS]at ho;subst ho;refine ⟨fun _=>?_,qF⟩
   obtain ⟨qq,t5⟩:(d 2=true/\d 6=true)/\ ρ (.tmp 25)=.agg #[(qP K),.slice (some ⟨y.gL,0,none⟩) N y.cL,.slice (some ⟨y.gO,0,none⟩) M y.cO]:=(qH zX 7 25);simp[go_sem,t5];exact ⟨(Below.refl _ _).alloc (Nat.le_refl _) _,qq,w'.heap.size,rfl,zV 133 w' _,hC.bel.size,by have:=((hC.l qq.1).lt _ rfl).2;simp only at this;omega,by have:=((hC.o qq.2).lt _ rfl).2;simp only at this;omega⟩
  |9,_,ho,hf,hg,hfr,zX=>
   simp only[qS]at ho;subst ho;refine ⟨fun _=>?_,qF⟩
   obtain ⟨qq,K0,t6,rest⟩:(d 2=true/\d 6=true)/\∃K0,ρ (.tmp 26)=(qP K0)/\zE 133 K0 w' #[(qP K),.slice (some ⟨y.gL,0,none⟩) N y.cL,.slice (some ⟨y.gO,0,none⟩) M y.cO]/\V1.heap.size<=K0/\K0≠y.gL/\K0≠y.gO:=(qH zX 8 26);simp[go_sem,t6];exact ⟨Below.refl _ _,qq,K0,rfl,rest⟩
  |10,_,ho,hf,hg,hfr,zX=>
   simp only[qS]at ho;subst ho;refine ⟨fun _=>?_,qF⟩
   simp[go_sem,hcs];exact qB
  |n+11,_,ho,_,_,_,_=>simp at ho
 ·intro y d i o ρ w' hm ho h0 hf hg hC hcs hfs hfr zX
  match i,hm,ho,h0,hf,hg,hfr,zX with
  |0,hm,_,_,_,_,_,_=>exact qD hm
  |1,hm,_,_,_,_,_,_=>exact qD hm
  |2,_,ho,h0,hf,hg,hfr,zX=>
   simp only[qS]at ho;subst ho;have t0: ρ (.tmp 19)=.slice r N rc:=(qH zX 1 19);have CLw:=CL.out w' hC.bel;refine ⟨rfl,?_⟩
   simp[go_sem,zC,t0,hfs];refine CLw.mono ?_
   rintro e w'' ⟨g,cc,rfl,q1,q2⟩
   refine ⟨_,rfl,⟨g,cc,y.gO,y.cO⟩,hC.m2 q1 q2,⟨zL _ _,rfl⟩,?_⟩
   intro j t hj hs
   match j,hs with
   |0,hs=>exact hs
   |1,hs=>exact hs
   |2,hs=>exact absurd hs.1 (by rw[h0];decide)
   |3,hs=>exact hs
   |4,hs=>exact hs
   |5,hs=>exact hs
   |6,hs=>exact ⟨(zP d (by decide)).trans hs.1,hs.2⟩
   |7,hs=>exact absurd hs.1.1 (by rw[h0];decide)
   |8,hs=>exact absurd hs.1.1 (by rw[h0];decide)
   |9,hs=>exact absurd hs.1.1 (by rw[h0];decide)
   |10,hs=>exact hs
   |_+11,_=>trivial
  |3,hm,_,_,_,_,_,_=>exact qD hm
  |4,hm,_,_,_,_,_,_=>exact qD hm
  |5,hm,_,_,_,_,_,_=>exact qD hm
  |6,_,ho,h0,hf,hg,hfr,zX=>
   simp only[qS]at ho;subst ho;have t0: ρ (.tmp 22)=.int .i64 (N:Int):=(qH zX 4 22);have t1: ρ (.tmp 23)=.slice p len pc:=(qH zX 5 23);have CLw:=RK.out w' hC.bel;refine ⟨rfl,?_⟩
   simp[go_sem,zC,t0,t1,hfs];refine CLw.mono ?_
   rintro e w'' ⟨g,cc,rfl,q1,q2⟩
   refine ⟨_,rfl,⟨y.gL,y.cL,g,cc⟩,hC.m6 q1 q2,⟨zL _ _,rfl⟩,?_⟩
   intro j t hj hs
   match j,hs with
   |0,hs=>exact hs
   |1,hs=>exact hs
   |2,hs=>exact ⟨(zP d (by decide)).trans hs.1,hs.2⟩
   |3,hs=>exact hs
   |4,hs=>exact hs
   |5,hs=>exact hs
   |6,hs=>exact absurd hs.1 (by rw[h0];decide)
   |7,hs=>exact absurd hs.1.2 (by rw[h0];decide)
   |8,hs=>exact absurd hs.1.2 (by rw[h0];decide)
   |9,hs=>exact absurd hs.1.2 (by rw[h0];decide)
   |10,hs=>exact hs
   |_+11,_=>trivial
  |7,hm,_,_,_,_,_,_=>exact qD hm
  |8,hm,_,_,_,_,_,_=>exact qD hm
  |9,hm,_,_,_,_,_,_=>exact qD hm
  |10,hm,_,_,_,_,_,_=>exact qD hm
  |n+11,_,ho,_,_,_,_,_=>simp at ho
 intro y9 V w9 hC9 hS;obtain ⟨-,K0,e9,k1,k2,k3,k4⟩:=hS 9 (by decide) (by intro h;cases h);have e10:V 10=.int .i64 0:=hS 10 (by decide) (by intro h;cases h);simp only[yP,e9,e10];simp only[Act.put,qU];clear hS e9 e10;have hC:=hC9;have G9:=zZ hC
 have Q9:Hid (dR W0.heap.size E w9 K0 K y9.gL y9.gO y9.cL y9.cO n (zH n) (List.replicate n.nodes.toNat 0) R O):=by
  have hlow:=S1.out.low.2;refine ⟨S1.out.below hC.bel,?_,(hC.l rfl).mono hlow,(hC.o rfl).mono hlow,by omega,k3,k4,hC.dis rfl rfl,HRl.out,by rw[hM];exact HNd.out.1,HNd.out.2⟩
  rw[HL.out,hM];exact k1
 have B9:Hid (Below w.heap.size w w9):=(B0.out.trans (B1.out.mono B0.out.size)).trans (hC.bel.mono (Nat.le_trans B0.out.size B1.out.size));clear hC hC9 k1 k2 k3 k4 G9
 go_wp2
 rw[<- HRE.out];refine ⟨W0.heap.size,E,K0,K,y9.gL,y9.gO,y9.cL,y9.cO,rfl,?_,B0.out.size,B9.out⟩
 rw[HO.out];exact Q9.out
theorem ZN {n:NN} {R P:List Int} (h:vE n R P=0):YQ n R=true/\xN R<=2048/\uY n P=true:=by
 unfold vE at h
 split at h
 ·split at h
  ·split at h
   ·cases h
   split at h
   ·rename_i h1 h2 h3 h4;exact ⟨h2,by omega,h4⟩
   cases h
  cases h
 rename_i h1;exact absurd h h1
theorem rG (N k:Nat):zS (List.replicate N (0:Int)) k=0:=by
 unfold zS;rw[List.getD_eq_getElem?_getD]
 by_cases hk:k<N
 ·rw [List.getElem?_replicate,if_pos hk];rfl
 rw[List.getElem?_replicate,if_neg hk];rfl
def wS (n:NN) (R P:List Int):List Int × List Int × List Int:=uB n R (sP n.nodes.toNat P) 2048 (zH n) (List.replicate n.nodes.toNat 0)
def rE (n:NN) (R P:List Int):List BK:=tH n R (wS n R P).2.1 (wS n R P).2.2 n.nodes.toNat
def rD (n:NN) (R P:List Int):List Int:=if vE n R P=0 then (if rE n R P=[] then (wS n R P).1 else []) else []
def nK (n:NN) (R P:List Int):List BK:=if vE n R P=0 then rE n R P else []
structure IU (n : NN) (R P : List Int) : Prop where
 good:NU n R
 sound:yI n
 eq:eC n ((wS n R P).1.length:Int) (wS n R P).2.1 (wS n R P).2.2
 top:NQ n (wS n R P).2.2 R
 fires:xZ n (wS n R P).1 (zH n) (List.replicate n.nodes.toNat 0)=((wS n R P).1.length,(wS n R P).2)
 sum:xN (wS n R P).2.2=((wS n R P).1.length:Int)
 node:∀z ∈ (wS n R P).1,xT n z=true
 fin:VD n R (wS n R P).2.1 (wS n R P).2.2
 few:xN R<=2048
theorem VZ {n:NN} {R P:List Int} (h:vE n R P=0):OC n R (sP n.nodes.toNat P) 2048 (zH n) (List.replicate n.nodes.toNat 0) [] (zH n) (List.replicate n.nodes.toNat 0) R 0 2048:=by
 obtain ⟨h1,h2,h3⟩:=ZN h;have hg:=cR h1;have hS:=zB hg.check;refine ⟨fun k hk=>by rw[rG];omega,RJ hS rfl,fun k hk=>by rw[rG];have:=hg.win k (by rw[hg.len];exact hk);omega,by rw[mN];show xN R-0<=2048;omega,by decide,rfl,rfl⟩
theorem eO {n:NN} {R P:List Int} (h:vE n R P=0):IU n R P:=by
 obtain ⟨h1,h2,h3⟩:=ZN h;have hg:=cR h1;have hS:=zB hg.check;have hm:=VZ h;have e:=RD (R:=R) (O:=sP n.nodes.toNat P) hS 2048 _ _ 0 hm.eq (by decide);have hnn:=wJ hS;refine ⟨hg,hS,by have:=e.eq;rwa[Int.zero_add]at this,e.top hm.top,e.fires,by have:=e.sum;rwa[mN,Int.zero_add]at this,e.node,?_,h2⟩
 exact GF hS hg.len (fun v hv=>NS (by have:=vH hv;omega)) 2048 _ _ 0 hm.eq (by decide) hm.top hm.sum
def RunE (n:NN) (R P:List Int) (w:World) (e:Ending) (w':World):Prop:=∃d1 c1 d2 c2,e=.returned (.tuple #[.agg #[.slice d1 (rD n R P).length c1,.slice d2 (nK n R P).length c2],.int .i64 (vE n R P)])/\zO w.heap.size w' d1 c1 (rD n R P)/\vV w.heap.size w' d2 c2 (nK n R P)/\Below w.heap.size w w'
theorem ZM (n:NN) (a:Option Addr) (c:Nat) (R:List Int) (r:Option Addr) (rc:Nat) (P:List Int) (p:Option Addr) (pc:Nat) (w:World) (h:vN w a n.arcs) (hl:n.arcs.length<=4611686018427387904) (hna:a=none->n.arcs.length=0/\c=0) (hr:At w r R) (hR:R.length<=4611686018427387904) (hrn:r=none->R.length=0/\rc=0) (hp:At w p P) (hP:P.length<=4611686018427387904):
 Calls Tryz.prog 8 #[.agg #[.int .i64 n.nodes,.slice a n.arcs.length c],.slice r R.length rc,.slice p P.length pc] w (RunE n R P w):=by
 have b0:=(Below.refl w.heap.size w).alloc (Nat.le_refl _) (.cells #[.int .i64 n.nodes,.slice a n.arcs.length c] 30);have b1:=(Below.refl (w.alloc (.cells #[.int .i64 n.nodes,.slice a n.arcs.length c] 30)).heap.size (w.alloc (.cells #[.int .i64 n.nodes,.slice a n.arcs.length c] 30))).alloc (Nat.le_refl _) (.cells #[qN,qN] 44);have hs0:(w.alloc (.cells #[.int .i64 n.nodes,.slice a n.arcs.length c] 30)).heap.size=w.heap.size+1:=World.size_alloc _ _;have b2:=b0.trans (b1.mono b0.size);have XN:=zZ ((zV 30 w #[.int .i64 n.nodes,.slice a n.arcs.length c]).below b1);have XB:=zZ (zV 44 (w.alloc (.cells #[.int .i64 n.nodes,.slice a n.arcs.length c] 30)) #[qN,qN]);rw[hs0]at XB;have L0:=zZ b2;have HA:=zZ (h.below b2);have HR:=zZ (hr.below b2);have HP:=zZ (hp.below b2);have CK:=zZ (IV n a c R r rc P p pc _ (h.below b2) hl (hr.below b2) hR (hp.below b2) hP);clear b0 b1 b2 hs0 h hr hp;obtain ⟨RE,hRE⟩:∃Q,RunE n R P w=Q:=⟨_,rfl⟩;rw[hRE];have HRE:=zZ hRE;clear hRE;obtain ⟨nb,hnb⟩:∃q,w.heap.size=q:=⟨_,rfl⟩;have HNB:=zZ hnb
 have GOAL:Hid (∀ (x:Int) (d1:Option Addr) (n1 c1:Nat) (d2:Option Addr) (n2 c2:Nat) (W:World),vE n R P=x->n1=(rD n R P).length->n2=(nK n R P).length->zO nb W d1 c1 (rD n R P)->vV nb W d2 c2 (nK n R P)->Below nb w W->RE (.returned (.tuple #[.agg #[.slice d1 n1 c1,.slice d2 n2 c2],.int .i64 x])) W):=fun x d1 n1 c1 d2 n2 c2 W e1 e2 e3 g1 g2 g3=>by
  rw[<- HRE.out];subst e1;subst e2;subst e3;refine ⟨d1,c1,d2,c2,rfl,?_,?_,?_⟩
  ·rw [HNB.out];exact g1
  ·rw [HNB.out];exact g2
  rw[HNB.out];exact g3
 rw[hnb]at XN XB L0;clear HRE hnb
 by_cases he:vE n R P=0
 ·obtain ⟨e1,e2,e3⟩:=ZN he
  have hg:=cR e1;have hF:=eO he;have hM:=VZ he;have hS:=hF.sound;have hnn:=wJ hS
  have VL:Hid (rE n R P=[]->rD n R P=(wS n R P).1/\nK n R P=[]):=fun hb=>by unfold rD nK;rw[if_pos he,if_pos hb,if_pos he,hb];exact ⟨rfl,rfl⟩
  have VS:Hid (rE n R P≠[]->rD n R P=[]/\nK n R P=rE n R P):=fun hb=>by unfold rD nK;rw[if_pos he,if_neg hb,if_pos he];exact ⟨rfl,rfl⟩
  have BG:=zZ (fun (U:World) (g1:vN U a n.arcs) (g2:At U r R) (g3:At U p P)=>zYM n a c R r rc P p pc U g1 hna g2 hrn g3 hP hg e3)
  have FA:Hid (∀ (U:World) (B E K0 K gL gO cL cO:Nat),dR B E U K0 K gL gO cL cO n (zH n) (List.replicate n.nodes.toNat 0) R (sP n.nodes.toNat P)->Calls Tryz.prog 28 #[(qP K0)] U fun e w'=>∃d c L1,e=.returned (.slice d (wS n R P).1.length c)/\zO U.heap.size w' d c (wS n R P).1/\dR B E w' K0 K gL gO cL cO n (wS n R P).2.1 (wS n R P).2.2 L1 (sP n.nodes.toNat P)/\LfU n R (wS n R P).2.2 L1/\Below B U w'):=fun U B E K0 K gL gO cL cO hr=>OB U K0 K gL gO cL cO n _ _ R R _ 2048 0 hr hS hg.len (fun k hk=>(hg.win k (by rw[hg.len];exact hk)).2) (by decide) hM
  have BL:Hid (∀ (U:World) (B E K0 K gL gO cL cO:Nat) (L1:List Int),dR B E U K0 K gL gO cL cO n (wS n R P).2.1 (wS n R P).2.2 L1 (sP n.nodes.toNat P)->LfU n R (wS n R P).2.2 L1->Calls Tryz.prog 29 #[(qP K0)] U fun e w'=>∃d c,e=.returned (.slice d (rE n R P).length c)/\vV U.heap.size w' d c (rE n R P)/\Below U.heap.size U w'):=fun U B E K0 K gL gO cL cO L1 hr hl=>NV U K0 K gL gO cL cO n _ _ L1 R _ hr hl hS hF.eq.lF
  have HE:=zZ he;rw[he]at CK
  have hZl:(wS n R P).1.length<=1000000:=by
   have h1:=hF.sum;have h2:=VC (F:=(wS n R P).2.2) (R:=R) (by rw[hF.eq.lF,hg.len]) (fun k hk=>hF.top k (by rw[<- hF.eq.lF];exact hk));omega
  have hBl:(rE n R P).length<=32:=by unfold rE;exact Nat.le_trans (bN ..) (by omega)
  unfold zMT at BG;clear hg hF hM hS he e1 e2 e3 hnn hrn hna
  go_enter Tryz.func8,Tryz.ntmps8
  go_upto_region 1 with fail
  generalize (w.alloc (.cells #[.int .i64 n.nodes,.slice a n.arcs.length c] 30)).alloc (.cells #[qN,qN] 44)=W0 at *;rw[HNB.out];have y0:=XN.out.cell (k:=0) rfl;have y1:=XN.out.cell (k:=1) rfl;simp only[List.getElem_toArray,List.getElem_cons_zero,List.getElem_cons_succ]at y0 y1
  go_upto_region 4 with (go_at_call 26;(with_reducible refine CK.out.mono ?_);rintro e W1 ⟨rfl,b1⟩;have B1:=zZ b1;clear b1)
  have hw0:nb<=W0.heap.size:=by have:=L0.out.size;have:=HNB.out;omega
  have L1:=zZ (L0.out.trans (B1.out.mono hw0));have N1:=zZ (XN.out.below B1.out);have Y1:=zZ (XB.out.below B1.out);have BG1:=zZ (BG.out W1 (HA.out.below B1.out) (HR.out.below B1.out) (HP.out.below B1.out));have hw1:nb<=W1.heap.size:=Nat.le_trans hw0 B1.out.size;clear CK XN XB HA HR HP L0 B1 y0 y1 BG hw0;have y0:=N1.out.cell (k:=0) rfl;have y1:=N1.out.cell (k:=1) rfl;simp only[List.getElem_toArray,List.getElem_cons_zero,List.getElem_cons_succ]at y0 y1
  go_upto_region 7 with (go_at_call 27;(with_reducible refine BG1.out.mono ?_);rintro e W2 ⟨B,E,K0,K,gL,gO,cL,cO,rfl,hr2,hB2,b2⟩;have R2:=zZ hr2;have B2:=zZ b2;clear hr2 b2)
  have L2:=zZ (L1.out.trans (B2.out.mono hw1));have Y2:=zZ (Y1.out.below B2.out);have Y1L:Hid (nb+1<W1.heap.size):=Y1.out.lt;have FA2:=zZ (FA.out W2 B E K0 K gL gO cL cO R2.out);have hw2:nb<=W2.heap.size:=Nat.le_trans hw1 B2.out.size;have hW12:=B2.out.size;clear BG1 N1 Y1 L1 y0 y1 FA
  go_upto_region 8 with (go_at_call 28;(with_reducible refine FA2.out.mono ?_);rintro e W3 ⟨d3,c3,LL,rfl,hc3,hr3,hl3,b3⟩;have C3:=zZ hc3;have R3:=zZ hr3;have B3:=zZ b3;have BL3:=zZ (BL.out W3 B E K0 K gL gO cL cO LL hr3 hl3);clear hc3 hr3 hl3 b3)
  have hwB:nb<=B:=Nat.le_trans hw1 hB2;have L3:=zZ (L2.out.trans (B3.out.mono hwB));have Y3:=zZ (Y2.out.keep (B3.out.block _ (Nat.lt_of_lt_of_le Y1L.out hB2)));have hw3:nb<=W3.heap.size:=Nat.le_trans hw2 B3.out.size
  have C3N:Hid (∀ x,d3=some x->x.block≠nb+1):=fun x hx=>by have:=(C3.out.lt x hx).1;have:=Y1L.out;omega
  have C3m:=zZ (C3.out.mono hw2);have hW23:=B3.out.size;clear FA2 BL Y2 L2 C3 R2 B2
  by_cases hb:rE n R P=[]
  ·obtain ⟨v1,v2⟩:=VL.out hb
   have V1:=zZ v1;have V2:=zZ v2;rw[hb]at BL3;have BL4:Hid (Calls Tryz.prog 29 #[(qP K0)] W3 fun e w'=>∃d c,e=.returned (.slice d 0 c)/\vV W3.heap.size w' d c []/\Below W3.heap.size W3 w'):=BL3.out;clear v1 v2 hb VL VS BL3 hBl;generalize hZ:(wS n R P).1=Z at *;generalize hzl:Z.length=zl at *
   go_wp2_with (go_at_call 29;(with_reducible refine BL4.out.mono ?_);rintro e W4 ⟨d4,c4,rfl,-,b4⟩;have B4:=zZ b4;have Y4:=zZ (Y3.out.below b4);have L4:=zZ (L3.out.trans (b4.mono hw3));have z0:=Y4.out.cell (k:=0) rfl;have z1:=Y4.out.cell (k:=1) rfl;simp only[List.getElem_toArray,List.getElem_cons_zero,List.getElem_cons_succ]at z0 z1;have f0:=Y4.out.frozen 0;have f1:=Y4.out.frozen 1;clear b4)
   have BU:=zZ ((xX.set W4 (nb+1) 0 (.slice d3 zl c3)).trans (xX.set _ (nb+1) 1 (qN)));refine bodyPost_ret (v:=.tuple #[.agg #[.slice d3 zl c3,qN],.int .i64 0]) (by simp[results,Tryz.results8,go_sem,z0,z1]) rfl ?_
   exact GOAL.out 0 d3 zl c3 none 0 0 _ HE.out (by rw[V1.out,hzl]) (by rw[V2.out];rfl) (by rw[V1.out];exact (C3m.out.later B4.out).keep (fun x hx=>BU.out.block _ ((C3m.out.later B4.out).lt x hx).2 (C3N.out x hx))) (by rw[V2.out];exact vV.nil _ _) ((L4.out.setCell (by show nb<=nb+1;omega) _).setCell (by show nb<=nb+1;omega) _)
  obtain ⟨v1,v2⟩:=VS.out hb;have V1:=zZ v1;have V2:=zZ v2;have hpos:0<(rE n R P).length:=List.length_pos_iff.2 hb;clear v1 v2 hb VL VS;generalize rE n R P=Q at *;generalize hql:Q.length=ql at *
  have hposI:(ql:Int)>0:=by omega
  generalize (wS n R P).1.length=zl at *
  go_wp2_with (go_at_call 29;(with_reducible refine BL3.out.mono ?_);rintro e W4 ⟨d4,c4,rfl,hc4,b4⟩;have C4:=zZ hc4;have B4:=zZ b4;have Y4:=zZ (Y3.out.below b4);have L4:=zZ (L3.out.trans (b4.mono hw3));have z0:=Y4.out.cell (k:=0) rfl;have z1:=Y4.out.cell (k:=1) rfl;simp only[List.getElem_toArray,List.getElem_cons_zero,List.getElem_cons_succ]at z0 z1;have f0:=Y4.out.frozen 0;have f1:=Y4.out.frozen 1;clear b4 hc4)
  have BU:=zZ ((xX.set W4 (nb+1) 0 (qN)).trans (xX.set _ (nb+1) 1 (.slice d4 ql c4)))
  have C4N:Hid (∀ x,d4=some x->x.block≠nb+1):=fun x hx=>by have:=(C4.out.lt x hx).1;have:=Y1L.out;omega
  refine bodyPost_ret (v:=.tuple #[.agg #[qN,.slice d4 ql c4],.int .i64 0]) (by simp[results,Tryz.results8,go_sem,z0,z1]) rfl ?_
  exact GOAL.out 0 none 0 0 d4 ql c4 _ HE.out (by rw[V1.out];rfl) (by rw[V2.out,hql]) (by rw[V1.out];exact zO.nil _ _) (by rw[V2.out];exact (C4.out.mono hw3).keep (fun x hx=>BU.out.block _ (C4.out.lt x hx).2 (C4N.out x hx))) ((L4.out.setCell (by show nb<=nb+1;omega) _).setCell (by show nb<=nb+1;omega) _)
 have V1:Hid (rD n R P=[]):=by show _=_;unfold rD;rw[if_neg he]
 have V2:Hid (nK n R P=[]):=by show _=_;unfold nK;rw[if_neg he]
 have hne:(vE n R P !=0)=true:=by simpa using he
 clear hrn hna he;have HE:Hid (vE n R P=vE n R P):=rfl;generalize hx:vE n R P=x at CK hne
 go_enter Tryz.func8,Tryz.ntmps8
 go_upto_region 1 with fail
 generalize (w.alloc (.cells #[.int .i64 n.nodes,.slice a n.arcs.length c] 30)).alloc (.cells #[qN,qN] 44)=W0 at *;rw[HNB.out]
 have hw0:nb<=W0.heap.size:=by have:=L0.out.size;have:=HNB.out;omega
 have y0:=XN.out.cell (k:=0) rfl;have y1:=XN.out.cell (k:=1) rfl;simp only[List.getElem_toArray,List.getElem_cons_zero,List.getElem_cons_succ]at y0 y1;have HX:=zZ hx;clear hx
 go_wp2_with (go_at_call 26;(with_reducible refine CK.out.mono ?_);rintro e W1 ⟨rfl,b1⟩;have B1:=zZ b1;have Y4:=zZ (XB.out.below b1);have L4:=zZ (L0.out.trans (b1.mono hw0));have z0:=Y4.out.cell (k:=0) rfl;have z1:=Y4.out.cell (k:=1) rfl;simp only[List.getElem_toArray,List.getElem_cons_zero,List.getElem_cons_succ]at z0 z1;have f0:=Y4.out.frozen 0;have f1:=Y4.out.frozen 1;clear b1)
 refine bodyPost_ret (v:=.tuple #[.agg #[qN,qN],.int .i64 x]) (by simp[results,Tryz.results8,go_sem,z0,z1]) rfl ?_
 exact GOAL.out x none 0 0 none 0 0 _ HX.out (by rw[V1.out];rfl) (by rw[V2.out];rfl) (by rw[V1.out];exact zO.nil _ _) (by rw[V2.out];exact vV.nil _ _) ((L4.out.setCell (by show nb<=nb+1;omega) _).setCell (by show nb<=nb+1;omega) _)
def TalT (N:Nat) (n:NN) (zs:List Int) (w:World) (e:Ending) (w':World):Prop:=∃(g c:Nat) (Y:List Int),e=.returned (.tuple #[.slice (some ⟨g,0,none⟩) N c,.bool (uY n zs)])/\zO w.heap.size w' (some ⟨g,0,none⟩) c Y/\Y.length=N/\(uY n zs=true->Y=nY (List.replicate N 0) zs)/\Below w.heap.size w w'
theorem IQ (n:NN) (N:Nat) (hN:n.nodes=(N:Int)) (h1:1<=N) (h32:N<=32) (a:Option Addr) (zs:List Int) (lc:Nat) (w:World) (h:At w a zs) (hm:zs.length<=4611686018427387904):
 Calls Tryz.prog 14 #[.int .i64 (N:Int),.slice a zs.length lc] w (TalT N n zs w):=by
 obtain ⟨RE,hRE⟩:∃Q,TalT N n zs w=Q:=⟨_,rfl⟩;rw[hRE];have HRE:=zZ hRE;have HM:=zZ (run_make_row' (P:=Tryz.prog) 27 3 (.int .i64 0) 8 Tryz.underlying27 Tryz.info3 rfl .i64 .i64 N (by omega) (by omega));have hMO:=WT w N (by omega) (Nat.le_refl _);have ba:=(Below.refl w.heap.size w).alloc (Nat.le_refl _) (.cells (madeCells #[.int .i64 0] N) 3);have A0:=zZ (h.below ba);have B0:=zZ ba;have MO:=zZ hMO;obtain ⟨len,hlen⟩:∃q,zs.length=q:=⟨_,rfl⟩;have HL:=zZ hlen;rw[hlen]at hm ⊢;have HNN:=zZ hN
 have hab:∀x,a=some x->zs≠[]->x.block<w.heap.size:=fun x hx hne=>QN h hne hx
 clear hRE hMO ba h hlen hN
 go_enter Tryz.func14,Tryz.ntmps14
 go_upto_region 1 with fail
 have hmk:=HM.out
 go_upto_region 2 with fail
 clear hmk HM;generalize w.alloc (.cells (madeCells #[.int .i64 0] N) 3)=W1 at *;obtain ⟨g,hg⟩:∃q,w.heap.size=q:=⟨_,rfl⟩;have HG:=zZ hg;rw[hg]at MO B0 hab ⊢
 go_upto_region 3 with fail
 go_loopg [7] len (fun gk u wr=>∃(k cg:Nat) (Y:List Int),k<=len/\gk=len-k/\u=.int .i64 (k:Int)/\cg=N/\zO g wr (some ⟨g,0,none⟩) cg Y/\Y.length=N/\Below g w wr/\At wr a zs/\Y=nY (List.replicate N 0) (zs.take k)/\uY n (zs.drop k)=uY n zs)
 case atStart=>exact ⟨0,N,_,Nat.zero_le _,rfl,rfl,rfl,MO.out,by simp,B0.out,A0.out,rfl,rfl⟩
 case round=>
  obtain ⟨k,cg,Y,hk,rfl,rfl,hcg,hC,hYl,hb,hA,hY,hs⟩:=hrel;have C1:=zZ hC;have B1:=zZ hb;have A1:=zZ hA;have HY:=zZ hY;have HS:=zZ hs;subst hcg;clear hC hb hA hY hs
  by_cases hlt:k<len
  ·have hkz:k<zs.length:=by rw[HL.out];exact hlt
   have hkN:k<len:=hlt
   have hkI:(k:Int)<(len:Int):=by omega
   have hne:zs≠[]:=fun e=>by rw[e]at hkz;exact absurd hkz (Nat.not_lt_zero _)
   rcases A1.out with e|⟨lb,lo,rfl,hcl⟩
   ·exact absurd e hne
   have c0:=hcl k hkz;have hlg:lb<g:=hab _ rfl hne;have HD:Hid (zs.drop k=zS zs k::zs.drop (k+1)):=vD zs k hkz;have HT:Hid (zs.take (k+1)=zs.take k++[zS zs k]):=YC hkz;clear hcl;generalize zS zs k=z at *;have hnn:=HNN.out
   by_cases q1:z<0
   ·have HF:Hid (uY n zs=false):=by show _=_;rw[<- HS.out,HD.out,uY,show xT n z=false from decide_eq_false (by omega)];rfl
    go_wp2
    rw[<- HRE.out];refine ⟨g,cg,Y,by rw[HF.out]<;>rfl,by rw[HG.out];exact C1.out,hYl,fun e=>?_,by rw[HG.out];exact B1.out⟩
    rw[HF.out]at e;cases e
   by_cases q2:(cg:Int)<=z
   ·have HF:Hid (uY n zs=false):=by show _=_;rw[<- HS.out,HD.out,uY,show xT n z=false from decide_eq_false (by omega)];rfl
    have hge:z≥(cg:Int):=q2
    go_wp2
    rw[<- HRE.out];refine ⟨g,cg,Y,by rw[HF.out]<;>rfl,by rw[HG.out];exact C1.out,hYl,fun e=>?_,by rw[HG.out];exact B1.out⟩
    rw[HF.out]at e;cases e
   obtain ⟨vn,rfl⟩:∃vn:Nat,z=(vn:Int):=⟨z.toNat,by omega⟩
   have HN2:Hid (uY n (zs.drop (k+1))=uY n zs):=by show _=_;rw[<- HS.out,HD.out,uY,show xT n (vn:Int)=true from decide_eq_true (by omega),Bool.true_and]
   have hvN:vn<cg:=by omega
   have hvI:(vn:Int)<(cg:Int):=by omega
   have hvY:vn<Y.length:=by omega
   rcases C1.out.at with e|⟨ob,oo,eo,hco⟩
   ·rw [e]at hvY;exact absurd hvY (Nat.not_lt_zero _)
   cases eo
   have c1:=hco vn hvY;rw[Nat.zero_add]at c1;have f1:=C1.out.fz vn
   have HY2:Hid (Y.set vn (wrap64 (zS Y vn+1))=nY (List.replicate cg 0) (zs.take (k+1))):=by
    show _=_;rw[HT.out,bU,<-HY.out];unfold xS;rw[Int.toNat_natCast]
   clear hco hnn q1 q2;generalize hx:zS Y vn=x at *;have hwr:=QO (x+1);generalize hN:cg=N at *
   go_upto_region 7 with fail
   refine yU 14 (fun i u v=>match i with
    |0=>v=.slice (some ⟨g,0,none⟩) N N
    |1=>v=.slice (some ⟨lb,lo,none⟩) len lc
    |2=>v=.int .i64 (k:Int)
    |3=>v=.pointer (some ⟨lb,lo+k,none⟩)
    |4=>v=.int .i64 (vn:Int)
    |5=>v=.slice (some ⟨g,0,none⟩) N N
    |6=>v=.slice (some ⟨lb,lo,none⟩) len lc
    |7=>v=.int .i64 (k:Int)
    |8=>v=.pointer (some ⟨lb,lo+k,none⟩)
    |9=>v=.int .i64 (vn:Int)
    |10=>v=.pointer (some ⟨g,vn,none⟩)
    |11=>v=.int .i64 x
    |12=>v=.int .i64 (wrap64 (x+1))
    |13=>v=.pointer (some ⟨g,vn,none⟩)
    |_=>True) (by kernel_rfl) (by kernel_rfl) (by kernel_rfl) (by kernel_rfl) ?_ ?_ ?_
   ·intro i w v w' h hb
    match i,h with
    |0,h=>exact h
    |1,h=>exact h
    |2,h=>exact h
    |3,h=>exact h
    |4,h=>exact h
    |5,h=>exact h
    |6,h=>exact h
    |7,h=>exact h
    |8,h=>exact h
    |9,h=>exact h
    |10,h=>exact h
    |11,h=>exact h
    |12,h=>exact h
    |13,h=>exact h
    |_+14,_=>trivial
   ·intro i o ρ w' hi ho hb hc hf hfr zX
    match i,hi with
    |0,_=>
     simp only[qS]at ho;subst ho;have ts: ρ (.tmp 6)=.slice (some ⟨g,0,none⟩) N N:=(qR hfr 6);simp[go_sem,ts];exact qB
    |1,_=>
     simp only[qS]at ho;subst ho;have ts: ρ (.tmp 1)=.slice (some ⟨lb,lo,none⟩) len lc:=(qR hfr 1);simp[go_sem,ts];exact qB
    |2,_=>
     simp only[qS]at ho;subst ho;have ts: ρ (.tmp 7)=.int .i64 (k:Int):=(qR hfr 7);simp[go_sem,ts];exact qB
    |3,_=>
     simp only[qS]at ho;subst ho;have t0: ρ (.tmp 31)=.slice (some ⟨lb,lo,none⟩) len lc:=(qH zX 1 31);have t1: ρ (.tmp 32)=.int .i64 (k:Int):=(qH zX 2 32);simp[go_sem,t0,t1,hkN];exact qB
    |4,_=>
     simp only[qS]at ho;subst ho;have ts: ρ (.tmp 33)=.pointer (some ⟨lb,lo+k,none⟩):=(qH zX 3 33);have kc:=zW hb c0;simp[go_sem,ts,kc];exact qB
    |5,_=>
     simp only[qS]at ho;subst ho;have ts: ρ (.tmp 6)=.slice (some ⟨g,0,none⟩) N N:=(qR hfr 6);simp[go_sem,ts];exact qB
    |6,_=>
     simp only[qS]at ho;subst ho;have ts: ρ (.tmp 1)=.slice (some ⟨lb,lo,none⟩) len lc:=(qR hfr 1);simp[go_sem,ts];exact qB
    |7,_=>
     simp only[qS]at ho;subst ho;have ts: ρ (.tmp 7)=.int .i64 (k:Int):=(qR hfr 7);simp[go_sem,ts];exact qB
    |8,_=>
     simp only[qS]at ho;subst ho;have t0: ρ (.tmp 36)=.slice (some ⟨lb,lo,none⟩) len lc:=(qH zX 6 36);have t1: ρ (.tmp 37)=.int .i64 (k:Int):=(qH zX 7 37);simp[go_sem,t0,t1,hkN];exact qB
    |9,_=>
     simp only[qS]at ho;subst ho;have ts: ρ (.tmp 38)=.pointer (some ⟨lb,lo+k,none⟩):=(qH zX 8 38);have kc:=zW hb c0;simp[go_sem,ts,kc];exact qB
    |10,_=>
     simp only[qS]at ho;subst ho;have t0: ρ (.tmp 35)=.slice (some ⟨g,0,none⟩) N N:=(qH zX 5 35);have t1: ρ (.tmp 39)=.int .i64 (vn:Int):=(qH zX 9 39);simp[go_sem,t0,t1,hvN];exact qB
    |11,_=>
     simp only[qS]at ho;subst ho;have ts: ρ (.tmp 40)=.pointer (some ⟨g,vn,none⟩):=(qH zX 10 40);have kc:=zW hb c1;simp[go_sem,ts,kc];exact qB
    |12,_=>
     simp only[qS]at ho;subst ho;have ts: ρ (.tmp 41)=.int .i64 x:=(qH zX 11 41);simp[go_sem,ts,hc,hwr];exact qB
    |13,_=>
     simp only[qS]at ho;subst ho;have t0: ρ (.tmp 30)=.slice (some ⟨g,0,none⟩) N N:=(qH zX 0 30);have t1: ρ (.tmp 34)=.int .i64 (vn:Int):=(qH zX 4 34);simp[go_sem,t0,t1,hvN];exact qB
   intro V w9 q9 hS;have e0:V 0=.slice (some ⟨g,0,none⟩) N N:=hS 0 (by decide);have e1:V 1=.slice (some ⟨lb,lo,none⟩) len lc:=hS 1 (by decide);have e2:V 2=.int .i64 (k:Int):=hS 2 (by decide);have e3:V 3=.pointer (some ⟨lb,lo+k,none⟩):=hS 3 (by decide);have e4:V 4=.int .i64 (vn:Int):=hS 4 (by decide);have e5:V 5=.slice (some ⟨g,0,none⟩) N N:=hS 5 (by decide);have e6:V 6=.slice (some ⟨lb,lo,none⟩) len lc:=hS 6 (by decide);have e7:V 7=.int .i64 (k:Int):=hS 7 (by decide);have e8:V 8=.pointer (some ⟨lb,lo+k,none⟩):=hS 8 (by decide);have e9:V 9=.int .i64 (vn:Int):=hS 9 (by decide);have e10:V 10=.pointer (some ⟨g,vn,none⟩):=hS 10 (by decide);have e11:V 11=.int .i64 x:=hS 11 (by decide);have e12:V 12=.int .i64 (wrap64 (x+1)):=hS 12 (by decide);have e13:V 13=.pointer (some ⟨g,vn,none⟩):=hS 13 (by decide);simp only[List.drop_succ_cons,List.drop_zero,List.take_succ_cons,List.take_zero,yP,e0,e1,e2,e3,e4,e5,e6,e7,e8,e9,e10,e11,e12,e13];simp only[Act.put,qU];clear hS e0 e1 e2 e3 e4 e5 e6 e7 e8 e9 e10 e11 e12 e13 V;have c9:=zW q9 c1;have hgl:g<wr.heap.size:=block_lt_of_cell c1
   have f9:w9.frozen? ⟨g,vn,none⟩=false:=by
    unfold World.frozen? at f1 ⊢;rw[q9.block g hgl];exact f1
   have C9:=zZ ((C1.out.later q9).setAt (k:=vn) (wrap64 (x+1)));have B9:Hid (Below g w (w9.setCell ⟨g,vn,none⟩ (.int .i64 (wrap64 (x+1))))):=(B1.out.trans (q9.mono (by omega))).trans (Below.setCell' w9 ⟨g,vn,none⟩ _ (Nat.le_refl _))
   have A9:Hid (At (w9.setCell ⟨g,vn,none⟩ (.int .i64 (wrap64 (x+1)))) (some ⟨lb,lo,none⟩) zs):=(A1.out.below q9).keep fun y hy=>by cases hy;exact Below.heap_setCell _ _ _ _ (by show lb≠g;omega)
   go_wp2
   go_roundg (len-(k+1))
   case measure=>omega
   case rel=>exact ⟨k+1,N,_,by omega,rfl,by go_num,rfl,C9.out,by rw[List.length_set];exact hYl,B9.out,A9.out,HY2.out,HN2.out⟩
  have ek:k=len:=by omega
  subst ek
  have HF:Hid (uY n zs=true):=by show _=_;rw[<- HS.out,List.drop_eq_nil_of_le (by rw[HL.out];exact Nat.le_refl _)];rfl
  have HT:Hid (zs.take k=zs):=List.take_of_length_le (by rw[HL.out];exact Nat.le_refl _);rw[HT.out]at HY
  go_wp2
  rw[<- HRE.out];exact ⟨g,cg,Y,by rw[HF.out]<;>rfl,by rw[HG.out];exact C1.out,hYl,fun _=>HY.out,by rw[HG.out];exact B1.out⟩
theorem zMS:vE oF [3,2] []=0/\rD oF [3,2] []=[0,0,1,0,1]/\(nK oF [3,2] []).length=0:=by decide +kernel
end Go.Proofs.YtpohmekkdjdhmaaGreat
namespace Go.Proofs.YtpohmekkdjdhmaaGreat
open Go.RowKit
theorem zTS {n:NN} {G:List Int} {T:List Int} {m:Int} (h:eC n m T G):NQ n (List.replicate n.nodes.toNat 0) G:=fun k hk=>by rw[rG];exact (h.fs k hk).1
theorem VY {n:NN} (hS:yI n):eC n 0 (zH n) (List.replicate n.nodes.toNat 0):=RJ hS rfl
theorem zMR {n n':NN} {R P T1 F1:List Int} {m1:Int} (hf:IU n R P) (hM:bP n n') (h1:eC n' m1 T1 F1) (hE:VD n' R T1 F1):NQ n (wS n R P).2.2 F1:=
 zWR hf.sound hM h1 hE 2048 _ _ 0 (VY hf.sound) (by decide) (fun k hk=>by rw[rG];exact (h1.fs k (by rw[hM.nodes];exact hk)).1)
theorem IP {n:NN} {T1 F1 T2 F2:List Int} {m1 m2:Int} (h1:eC n m1 T1 F1) (h2:eC n m2 T2 F2) (h12:NQ n F1 F2) (h21:NQ n F2 F1):F1=F2/\T1=T2:=by
 have e:F1=F2:=iP (by rw[h1.lF,h2.lF]) fun i hi=>by
  have hi':i<n.nodes.toNat:=by rw[<- h1.lF];exact hi
  have:=h12 i hi';have:=h21 i hi';omega
 refine ⟨e,iP (by rw[h1.few.len,h2.few.len]) fun i hi=>?_⟩
 rw[h1.few.len]at hi;rw[h1.eq i hi,h2.eq i hi,e]
theorem zYL {n:NN} {R P:List Int} (h:IU n R P):nY (List.replicate n.nodes.toNat 0) (wS n R P).1=(wS n R P).2.2:=by
 have:=(eD n (wS n R P).1 (zH n) (List.replicate n.nodes.toNat 0)).1;rw[h.fires]at this;simp only[List.take_length]at this;exact this.symm
theorem zYK {n:NN} {R P:List Int} :uY n (rD n R P)=true:=by
 rw[ZP];intro v hv;unfold rD at hv
 split at hv
 ·rename_i he
  split at hv
  ·exact (eO he).node v hv
  cases hv
 cases hv
theorem kJ {n:NN} {R P:List Int} (h:IU n R P):rE n R P=[]↔(wS n R P).2.2=R:=by
 unfold rE;rw[zWP]
 constructor
 ·intro hl
  exact iP (by rw[h.eq.lF,h.good.len]) fun i hi=>by
   rw[h.eq.lF]at hi;have:=hl i hi;have:=h.top i hi;omega
 intro e v _;rw[e];exact Int.le_refl _
theorem zPN {n:NN} {R:List Int} (h:NU n R):1<=xN R:=by
 have hn:=wJ (zB h.check);have:=VB (F:=List.replicate R.length 0) (R:=R) (j:=0) (by simp) (fun k hk=>by rw[rG];rw[List.length_replicate]at hk;have:=h.win k hk;omega) (by rw[List.length_replicate,h.len];omega) (by rw[rG];have:=h.win 0 (by rw[h.len];omega);omega);rw[mN]at this;omega
theorem zPM {n:NN} {R P:List Int} (h:vE n R P=0) (hb:rE n R P=[]):((rD n R P).length:Int)=xN R:=by
 have hf:=eO h
 have e:rD n R P=(wS n R P).1:=by unfold rD;rw[if_pos h,if_pos hb]
 rw[e,<-hf.sum,(kJ hf).1 hb]
theorem zMQ {n:NN} {R P:List Int} (h:vE n R P=0):(rD n R P=[]/\nK n R P≠[]/\nK n R P=rE n R P)\/(rD n R P≠[]/\nK n R P=[]/\rE n R P=[]/\rD n R P=(wS n R P).1):=by
 by_cases hb:rE n R P=[]
 ·refine .inr ⟨fun e=>?_,by unfold nK;rw[if_pos h,hb],hb,by unfold rD;rw[if_pos h,if_pos hb]⟩
  have:=zPM h hb;have:=zPN (eO h).good;rw[e]at *;simp at *;omega
 exact .inl ⟨by unfold rD;rw[if_pos h,if_neg hb],by unfold nK;rw[if_pos h];exact hb,by unfold nK;rw[if_pos h]⟩
end Go.Proofs.YtpohmekkdjdhmaaGreat
namespace Go.Proofs.YtpohmekkdjdhmaaGreat
open Go.ChangeShapes Go.WideShapes Go.ChangeAt Go.RowKit
structure InU (n : NN) (R F0 T F : List Int) (m : Int) : Prop where
 eq:eC n m T F
 top:NQ n F R
 sum:xN F=m
 low:∀(T1 F1:List Int) (m1:Int),eC n m1 T1 F1->VD n R T1 F1->NQ n F0 F1->NQ n F F1
theorem InU.few {n:NN} {R F0 T F:List Int} {m:Int} (h:InU n R F0 T F m) (hR:R.length=n.nodes.toNat):m<=xN R:=by
 rw[<- h.sum]
 exact VC (by rw[h.eq.lF,hR]) fun k hk=>h.top k (by rw[<- h.eq.lF];exact hk)
theorem InU.start {n:NN} {R:List Int} (hg:NU n R):InU n R (List.replicate n.nodes.toNat 0) (zH n) (List.replicate n.nodes.toNat 0) 0:=
 ⟨VY (zB hg.check),fun k hk=>by rw[rG];have:=hg.win k (by rw[hg.len];exact hk);omega,mN _,fun _ _ _ _ _ h=>h⟩
theorem InU.step {n:NN} {R F0 T F:List Int} {m:Int} (h:InU n R F0 T F m) (hS:yI n) (hR:R.length=n.nodes.toNat) (h2:xN R<=2048) {v:Int} (hv:wI n T v=true) (hl:zS F v.toNat<zS R v.toNat):InU n R F0 (wN n T v) (xS F v) (m+1):=by
 have hm:=h.few hR;have hnb:=tJ hv;have hn:=vH hnb;refine ⟨mR hS h.eq (by omega) hv,fun k hk=>?_,by rw[iK h.eq (by omega) hnb,h.sum],fun T1 F1 m1 q1 q2 q3=>GJ hS (bP.refl n) h.eq q1 q2 (by omega) (h.low T1 F1 m1 q1 q2 q3) hl hv⟩
 rw[nV h.eq (by omega) hn.1 hk];have:=h.top k hk
 by_cases e:(k:Int)=v
 ·have e2:v.toNat=k:=by omega
  rw[e2]at hl;rw[if_pos e];omega
 rw[if_neg e];omega
structure RdU (n : NN) (R F0 Ts Fs : List Int) (v : Nat) (b : Bool) (T F : List Int) (m : Int) : Prop where
 inn:InU n R F0 T F m
 same:∀u,v<=u->u<n.nodes.toNat->zS F u=zS Fs u
 no:b=false->T=Ts/\F=Fs/\∀u:Nat,u<v->zS Fs u<zS R u->wI n Ts (u:Int)=false
 yes:b=true->xN Fs+1<=m
theorem RdU.skip {n:NN} {R F0 Ts Fs T F:List Int} {v:Nat} {b:Bool} {m:Int} (h:RdU n R F0 Ts Fs v b T F m) (hv:v<n.nodes.toNat) (hno:zS Fs v<zS R v->wI n T (v:Int)=false):RdU n R F0 Ts Fs (v+1) b T F m:=
 ⟨h.inn,fun u hu hN=>h.same u (by omega) hN,fun e=>⟨(h.no e).1,(h.no e).2.1,fun u hu hl=>by
  rcases Nat.lt_succ_iff_lt_or_eq.1 hu with h1|rfl
  ·exact (h.no e).2.2 u h1 hl
  have:=hno hl;rwa[(h.no e).1]at this⟩,h.yes⟩
theorem RdU.fire {n:NN} {R F0 Ts Fs T F:List Int} {v:Nat} {b:Bool} {m:Int} (h:RdU n R F0 Ts Fs v b T F m) (hS:yI n) (hR:R.length=n.nodes.toNat) (h2:xN R<=2048) (hv:v<n.nodes.toNat) (hm:wI n T (v:Int)=true) (hl:zS Fs v<zS R v):RdU n R F0 Ts Fs (v+1) true (wN n T (v:Int)) (xS F (v:Int)) (m+1):=by
 have hs:=h.same v (Nat.le_refl _) hv;have hst:=h.inn.step hS hR h2 hm (by rw[Int.toNat_natCast,hs];exact hl);have hmm:=h.inn.few hR;refine ⟨hst,fun u hu hN=>?_,fun e=>(by cases e),fun _=>?_⟩
 ·rw [nV h.inn.eq (by omega) (by omega) hN,if_neg (by omega),h.same u (by omega) hN];omega
 cases b with
 |true=>have:=h.yes rfl;omega
 |false=>
  have:=(h.no rfl).2.1;rw[<- this,h.inn.sum];exact Int.le_refl _
theorem eM (U:World) (X Y:List Int) (d1 d2:Option Addr) (k1 k2 N:Nat) (h1:X.length=N) (h2:Y.length=N) (hN:1<=N) (hm:N<=4611686018427387904) (q1:At U d1 X) (q2:At U d2 Y):
 Calls Tryz.prog 12 #[.slice d1 N k1,.slice d2 N k2] U fun e w'=>e=.returned (.bool (decide (X=Y)))/\Below U.heap.size U w':=by
 have hee:((N:Int)!=(N:Int))=false:=by simp
 rcases q1 with e|⟨b1,off1,rfl,hc1⟩
 ·rw [e]at h1;simp at h1;omega
 rcases q2 with e|⟨b2,off2,rfl,hc2⟩
 ·rw [e]at h2;simp at h2;omega
 have HC1:=zZ hc1;have HC2:=zZ hc2;have H1:=zZ h1;have H2:=zZ h2;clear hc1 hc2 h1 h2
 go_enter Tryz.func12,Tryz.ntmps12
 go_wp2
 go_loopw [5] (fun i wr=>∃k n:Nat,k<=N/\wr=U.drewN n/\i=.int .i64 k/\∀j,j<k->zS X j=zS Y j) (fun i _=>N-(intOf i).toNat)
 case atStart=>exact ⟨0,0,Nat.zero_le _,rfl,rfl,fun j hj=>absurd hj (Nat.not_lt_zero _)⟩
 case round=>
  obtain ⟨k,n,hk,rfl,rfl,hs⟩:=hrel;have HS:=zZ hs;clear hs
  by_cases hlt:k<N
  ·have g1:=HC1.out k (by rw[H1.out];exact hlt)
   have g2:=HC2.out k (by rw[H2.out];exact hlt)
   have hki:(k:Int)<(N:Int):=by omega
   by_cases e:zS X k=zS Y k
   ·have HN:Hid (∀ j,j<k+1->zS X j=zS Y j):=fun j hj=>by
     rcases Nat.lt_succ_iff_lt_or_eq.1 hj with h1|rfl
     ·exact HS.out j h1
     exact e
    rw[<- e]at g2
    have hnn:(zS X k !=zS X k)=false:=by simp
    clear e;generalize zS X k=x at *
    go_wp2
    go_quiet (fail)
    go_wp2
    go_roundw
    case rel=>exact ⟨k+1,n+nq,by omega,rfl,by go_num,HN.out⟩
    case measure=>simp[intOf];omega
   have HF:Hid (X≠Y):=fun h=>e (by rw[h])
   have hnn:(zS X k !=zS Y k)=true:=by simpa using e
   clear e;generalize zS X k=x at *;generalize zS Y k=y at *
   go_wp2
   go_quiet (fail)
   go_wp2
   go_ret
   exact ⟨by rw[decide_eq_false HF.out];rfl,by first|exact gX (Below.refl _ _) (n+nq)|exact gX (gX (Below.refl _ _) n) nq⟩
  have ek:k=N:=by omega
  subst ek
  have HF:Hid (X=Y):=iP (by rw[H1.out,H2.out]) fun i hi=>HS.out i (by rw[<- H1.out];exact hi)
  go_wp2
  go_ret
  exact ⟨by rw[decide_eq_true HF.out];rfl,gX (Below.refl _ _) _⟩
def CnU (n:NN) (lT:Nat) (u:World) (z:Value):Prop:=∃ac cc,z=.slice ac lT cc/\At u ac (zH n)
theorem VX (n:NN):∀(zs T F F':List Int),(xZ n zs T F).1=(xZ n zs T F').1/\(xZ n zs T F).2.1=(xZ n zs T F').2.1
 |[],_,_,_=>⟨rfl,rfl⟩
 |v::zs,T,F,F'=>by
  unfold xZ
  by_cases h:wI n T v=true
  ·rw [if_pos h,if_pos h]
   have:=VX n zs (wN n T v) (xS F v) (xS F' v);exact ⟨by show _+1=_+1;rw[this.1],this.2⟩
  rw[if_neg h,if_neg h];exact ⟨rfl,rfl⟩
theorem zTR {n:NN} {R P:List Int} (h:IU n R P) (hb:rE n R P=[]):(wS n R P).2.1=zH n:=by
 have e:=(kJ h).1 hb
 refine iP (by rw[h.eq.few.len];unfold zH;rw[List.length_map]) fun i hi=>?_
 rw[h.eq.few.len]at hi;rw[h.eq.eq i hi,e,fE hi,h.good.bal i hi];omega
theorem IO {n:NN} {R P:List Int} (h:IU n R P) (hb:rE n R P=[]) (F:List Int):(xZ n (wS n R P).1 (zH n) F).1=(wS n R P).1.length/\(xZ n (wS n R P).1 (zH n) F).2.1=zH n:=by
 have e:=VX n (wS n R P).1 (zH n) F (List.replicate n.nodes.toNat 0);rw[h.fires]at e;exact ⟨e.1,by rw[e.2];exact zTR h hb⟩
theorem zTQ {n:NN} {T:List Int} {v:Int} (hS:yI n): -1<=xQ n T v/\xQ n T v<=96:=by
 have hm:=hS.most
 by_cases hv:xT n v=true
 ·cases hy:wI n T v with
  |false=>
   obtain ⟨i,h1,h2,-,-⟩:=bK hv hy;rw[h1];omega
  |true=>
   unfold wI at hy;rw[hv,Bool.true_and,decide_eq_true_iff]at hy;unfold xQ;rw[if_pos hv,hy];omega
 unfold xQ;rw[if_neg hv];omega
theorem zMP {n:NN} {R P:List Int} (h:IU n R P):∀b ∈ rE n R P,InK b:=fun b hb=>by
 obtain ⟨v,hv,hl,rfl⟩:=mM hb;have h1:=h.eq.fs v hv;have hn:=wJ h.sound;have h2:=h.good.win v (by rw[h.good.len];exact hv);have h3:=zTQ (n:=n) (T:=(wS n R P).2.1) (v:=(v:Int)) h.sound;unfold InK;simp only;omega
end Go.Proofs.YtpohmekkdjdhmaaGreat
