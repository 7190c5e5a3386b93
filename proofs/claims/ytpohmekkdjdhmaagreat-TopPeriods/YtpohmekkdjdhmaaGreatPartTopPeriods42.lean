/- Texts of one chain. -/
import Derived.Test.YtpohmekkdjdhmaaGreatPartQ
import Derived.Test.YtpohmekkdjdhmaaGreatPartTopPeriods39
import Derived.Test.YtpohmekkdjdhmaaGreatPartTopPeriods37
import Derived.Test.YtpohmekkdjdhmaaGreatPartTopPeriods30
import Derived.Test.YtpohmekkdjdhmaaGreatPartTopPeriods18
set_option maxRecDepth 100000
set_option maxHeartbeats 16000000
namespace Go.Proofs.YtpohmekkdjdhmaaGreat
open Go.ChangeShapes Go.WideShapes Go.ChangeAt Go.RowKit
def xA (gr:GG) (e:GE):NA:=⟨e.f,e.t,zS (nU (yX gr.A e.f.toNat).tag (yX gr.A e.f.toNat).params).2.1 e.fp.toNat,zS (nU (yX gr.A e.t.toNat).tag (yX gr.A e.t.toNat).params).1 e.tp.toNat,(e.start.length:Int)⟩
def kG (gr:GG):NN:=⟨(gr.A.length:Int),gr.E.map (xA gr)⟩
theorem ZU (nm:Value) (t:Nat) (ht:t<=255) (x:Option Addr) (len c:Nat) (zs:List Int) (w:World) (hl:zs.length=len) (h:At w x zs):Calls Tryz.prog 38 #[.agg #[nm,.int .u8 (t:Int),.slice x len c]] w fun e w'=>∃a ca b cb,e=.returned (.tuple #[.slice a (nU t zs).1.length ca,.slice b (nU t zs).2.1.length cb])/\At w' a (nU t zs).1/\At w' b (nU t zs).2.1/\Below w.heap.size w w':=by
 have ba:=(Below.refl w.heap.size w).alloc (Nat.le_refl _) (.cells #[nm,.int .u8 (t:Int),.slice x len c] 65);have X:=zV 65 w #[nm,.int .u8 (t:Int),.slice x len c];have x1:=X.cell (k:=1) rfl;have x2:=X.cell (k:=2) rfl;simp only[List.getElem_toArray,List.getElem_cons_zero,List.getElem_cons_succ]at x1 x2;have B0:=zZ ba;have OF:=zZ (eB t x zs len c _ ht hl (h.below ba));unfold QY at OF;clear ba X h;generalize nU t zs=r at *
 go_enter Tryz.func38,Tryz.ntmps38
 go_upto_region 1 with fail
 generalize w.alloc (.cells #[nm,.int .u8 (t:Int),.slice x len c] 65)=W0 at *
 go_wp2_with (go_at_call 69;(with_reducible refine OF.out.mono ?_);rintro e W1 ⟨a,ca,b,cb,rfl,q1,q2,-,b1⟩;have Q1:=zZ q1.at;have Q2:=zZ q2.at;have B1:=zZ (B0.out.trans (b1.mono B0.out.size));clear q1 q2 b1)
 first|exact ⟨_,_,_,_,rfl,Q1.out,Q2.out,B1.out⟩|(go_ret2;exact ⟨_,_,_,_,rfl,Q1.out,Q2.out,B1.out⟩)
theorem zQC:(Tryz.prog.info? 61).map (·.size)=some 5:=by kernel_rfl
theorem zZA (gr:GG) (a1 a2 a3 a4:Option Addr) (c1 c2 c3 c4:Nat) (ed:GE) (xs:Option Addr) (cx:Nat) (w:World) (h:NJ w a1 a2 a3 a4 gr) (he:zVD gr ed):Calls Tryz.prog 17 #[.agg #[.string (yG gr.name),.slice a1 gr.A.length c1,.slice a2 gr.E.length c2,.slice a3 gr.ins.length c3,.slice a4 gr.outs.length c4],.agg #[.int .i64 ed.f,.int .i64 ed.fp,.int .i64 ed.t,.int .i64 ed.tp,.slice xs ed.start.length cx]] w fun e w'=>e=.returned (.agg #[.int .i64 (xA gr ed).f,.int .i64 (xA gr ed).t,.int .i64 (xA gr ed).g,.int .i64 (xA gr ed).k,.int .i64 (xA gr ed).s])/\Below w.heap.size w w':=by
 have b0:=(Below.refl w.heap.size w).alloc (Nat.le_refl _) (.cells #[.string (yG gr.name),.slice a1 gr.A.length c1,.slice a2 gr.E.length c2,.slice a3 gr.ins.length c3,.slice a4 gr.outs.length c4] 26);have b1:=b0.alloc b0.size (.cells #[.int .i64 ed.f,.int .i64 ed.fp,.int .i64 ed.t,.int .i64 ed.tp,.slice xs ed.start.length cx] 59);have b2:=b1.alloc b1.size (.cells #[.int .i64 0,.int .i64 0,.int .i64 0,.int .i64 0,.int .i64 0] 61);have hsz:(w.alloc (.cells #[.string (yG gr.name),.slice a1 gr.A.length c1,.slice a2 gr.E.length c2,.slice a3 gr.ins.length c3,.slice a4 gr.outs.length c4] 26)).heap.size=w.heap.size+1:=World.size_alloc _ _
 have hsz2:((w.alloc (.cells #[.string (yG gr.name),.slice a1 gr.A.length c1,.slice a2 gr.E.length c2,.slice a3 gr.ins.length c3,.slice a4 gr.outs.length c4] 26)).alloc (.cells #[.int .i64 ed.f,.int .i64 ed.fp,.int .i64 ed.t,.int .i64 ed.tp,.slice xs ed.start.length cx] 59)).heap.size=w.heap.size+2:=by rw[World.size_alloc,hsz]
 have XG:=zZ (((zV 26 w #[.string (yG gr.name),.slice a1 gr.A.length c1,.slice a2 gr.E.length c2,.slice a3 gr.ins.length c3,.slice a4 gr.outs.length c4]).below ((Below.refl _ _).alloc (Nat.le_refl _) (.cells #[.int .i64 ed.f,.int .i64 ed.fp,.int .i64 ed.t,.int .i64 ed.tp,.slice xs ed.start.length cx] 59))).below ((Below.refl _ _).alloc (Nat.le_refl _) (.cells #[.int .i64 0,.int .i64 0,.int .i64 0,.int .i64 0,.int .i64 0] 61)));have xe:=(zV 59 (w.alloc (.cells #[.string (yG gr.name),.slice a1 gr.A.length c1,.slice a2 gr.E.length c2,.slice a3 gr.ins.length c3,.slice a4 gr.outs.length c4] 26)) #[.int .i64 ed.f,.int .i64 ed.fp,.int .i64 ed.t,.int .i64 ed.tp,.slice xs ed.start.length cx]).below ((Below.refl _ _).alloc (Nat.le_refl _) (.cells #[.int .i64 0,.int .i64 0,.int .i64 0,.int .i64 0,.int .i64 0] 61));have xz:=zV 61 ((w.alloc (.cells #[.string (yG gr.name),.slice a1 gr.A.length c1,.slice a2 gr.E.length c2,.slice a3 gr.ins.length c3,.slice a4 gr.outs.length c4] 26)).alloc (.cells #[.int .i64 ed.f,.int .i64 ed.fp,.int .i64 ed.t,.int .i64 ed.tp,.slice xs ed.start.length cx] 59)) #[.int .i64 0,.int .i64 0,.int .i64 0,.int .i64 0,.int .i64 0];rw[hsz]at xe;rw[hsz2]at xz;have XE:=zZ xe;have XZ:=zZ xz;have B2:=zZ b2;have HG:=zZ (h.below b2);clear b0 b1 b2 xe xz h hsz hsz2;obtain ⟨f0,f1,fp0,fp1,t0,t1,tp0,tp1,-⟩:=he;obtain ⟨ef,efp,et,etp,st⟩:=ed;simp only at f0 f1 fp0 fp1 t0 t1 tp0 tp1;obtain ⟨fn,rfl⟩:∃k:Nat,ef=(k:Int):=⟨ef.toNat,by omega⟩;obtain ⟨tn,rfl⟩:∃k:Nat,et=(k:Int):=⟨et.toNat,by omega⟩;obtain ⟨pf,rfl⟩:∃k:Nat,efp=(k:Int):=⟨efp.toNat,by omega⟩;obtain ⟨pt,rfl⟩:∃k:Nat,etp=(k:Int):=⟨etp.toNat,by omega⟩;unfold nG at fp1;unfold dI at tp1;unfold xA;simp only[Int.toNat_natCast]at fp1 tp1 ⊢
 have hfn:fn<gr.A.length:=by omega
 have htn:tn<gr.A.length:=by omega
 rcases HG.out.A with e|⟨ab,ao,ea,hca⟩
 ·rw [e]at hfn;simp at hfn
 obtain ⟨n0,n1,n2,nx,nc,n3,n4⟩:=hca fn hfn;obtain ⟨m0,m1,m2,mx,mc,m3,m4⟩:=hca tn htn;clear hca;obtain ⟨tf,htf⟩:∃q,(yX gr.A fn).tag=q:=⟨_,rfl⟩;obtain ⟨pF,hpF⟩:∃q,(yX gr.A fn).params=q:=⟨_,rfl⟩;obtain ⟨tt,htt⟩:∃q,(yX gr.A tn).tag=q:=⟨_,rfl⟩;obtain ⟨pT,hpT⟩:∃q,(yX gr.A tn).params=q:=⟨_,rfl⟩;rw[htf]at n1 n2 fp1 ⊢;rw[hpF]at n3 n4 fp1 ⊢;rw[htt]at m1 m2 tp1 ⊢;rw[hpT]at m3 m4 tp1 ⊢;clear htf hpF htt hpT;generalize yG (yX gr.A fn).name=ns at *;generalize yG (yX gr.A tn).name=ms at *;have RT1:=zZ (ZU (.string ns) tf n2 nx pF.length nc pF _ rfl n4.lies);have M4:=zZ m4
 have RT2:Hid (∀ U,Below ((((w.alloc (.cells #[.string (yG gr.name),.slice a1 gr.A.length c1,.slice a2 gr.E.length c2,.slice a3 gr.ins.length c3,.slice a4 gr.outs.length c4] 26)).alloc (.cells #[.int .i64 (fn:Int),.int .i64 (pf:Int),.int .i64 (tn:Int),.int .i64 (pt:Int),.slice xs st.length cx] 59)).alloc (.cells #[.int .i64 0,.int .i64 0,.int .i64 0,.int .i64 0,.int .i64 0] 61)).heap.size) (((w.alloc (.cells #[.string (yG gr.name),.slice a1 gr.A.length c1,.slice a2 gr.E.length c2,.slice a3 gr.ins.length c3,.slice a4 gr.outs.length c4] 26)).alloc (.cells #[.int .i64 (fn:Int),.int .i64 (pf:Int),.int .i64 (tn:Int),.int .i64 (pt:Int),.slice xs st.length cx] 59)).alloc (.cells #[.int .i64 0,.int .i64 0,.int .i64 0,.int .i64 0,.int .i64 0] 61)) U->Calls Tryz.prog 38 #[.agg #[.string ms,.int .u8 (tt:Int),.slice mx pT.length mc]] U fun e w'=>∃a ca b cb,e=.returned (.tuple #[.slice a (nU tt pT).1.length ca,.slice b (nU tt pT).2.1.length cb])/\At w' a (nU tt pT).1/\At w' b (nU tt pT).2.1/\Below U.heap.size U w'):=fun U hb=>ZU (.string ms) tt m2 mx pT.length mc pT U rfl (M4.out.lies.below hb)
 generalize nU tf pF=rF at *;generalize nU tt pT=rT at *;obtain ⟨rg,hrg⟩:∃q,zS rF.2.1 pf=q:=⟨_,rfl⟩;obtain ⟨rk,hrk⟩:∃q,zS rT.1 pt=q:=⟨_,rfl⟩;rw[hrg,hrk];have HRG:=zZ hrg;have HRK:=zZ hrk;clear hrg hrk;have z1:=XG.out.cell (k:=1) rfl;have y0:=XE.out.cell (k:=0) rfl;simp only[List.getElem_toArray,List.getElem_cons_zero,List.getElem_cons_succ]at z1 y0;subst ea
 have hfI:(fn:Int)<(gr.A.length:Int):=by omega
 have htI:(tn:Int)<(gr.A.length:Int):=by omega
 clear n4 m4 M4 HG f0 fp0 t0 tp0
 go_enter Tryz.func17,Tryz.ntmps17
 go_upto_region 1 with fail
 generalize ((w.alloc (.cells #[.string (yG gr.name),.slice (some ⟨ab,ao,none⟩) gr.A.length c1,.slice a2 gr.E.length c2,.slice a3 gr.ins.length c3,.slice a4 gr.outs.length c4] 26)).alloc (.cells #[.int .i64 (fn:Int),.int .i64 (pf:Int),.int .i64 (tn:Int),.int .i64 (pt:Int),.slice xs st.length cx] 59)).alloc (.cells #[.int .i64 0,.int .i64 0,.int .i64 0,.int .i64 0,.int .i64 0] 61)=W0 at *
 go_upto_region 2 with (go_at_call 38;(with_reducible refine RT1.out.mono ?_);rintro e W1 ⟨ia,ica,oa,oc,rfl,-,q2,b1⟩;have Q2:=zZ q2;have R2:=zZ (RT2.out _ b1);have XG1:=zZ (XG.out.below b1);have XE1:=zZ (XE.out.below b1);have XZ1:=zZ (XZ.out.below b1);have B1:=zZ (B2.out.trans (b1.mono B2.out.size));have m0':=zW b1 m0;have m1':=zW b1 m1;have m3':=zW b1 m3;clear q2 b1 z1 y0 n0 n1 n3 m0 m1 m3)
 have z1:=XG1.out.cell (k:=1) rfl;have y2:=XE1.out.cell (k:=2) rfl;simp only[List.getElem_toArray,List.getElem_cons_zero,List.getElem_cons_succ]at z1 y2;clear RT1 RT2 XG XE XZ B2
 go_upto_region 3 with (go_at_call 38;(with_reducible refine R2.out.mono ?_);rintro e W2 ⟨ia2,ici,oa2,oc2,rfl,p1,-,b2⟩;have P1:=zZ p1;have Q3:=zZ (Q2.out.below b2);have XE2:=zZ (XE1.out.below b2);have XZ2:=zZ (XZ1.out.below b2);have B3:=zZ (B1.out.trans (b2.mono B1.out.size));clear p1 b2 z1 y2 m0' m1' m3')
 rcases Q3.out with e|⟨ob,oo,eo,hco⟩
 ·rw [e]at fp1;simp at fp1;omega
 rcases P1.out with e|⟨ib,io,ei,hci⟩
 ·rw [e]at tp1;simp at tp1;omega
 subst eo;subst ei;have cO:=hco pf (by omega);have cI:=hci pt (by omega)
 have hpf:pf<rF.2.1.length:=by omega
 have hpt:pt<rT.1.length:=by omega
 rw[HRG.out]at cO;rw[HRK.out]at cI;generalize rF.2.1.length=no at *;generalize rT.1.length=ni at *;have y0:=XE2.out.cell (k:=0) rfl;have y1:=XE2.out.cell (k:=1) rfl;have y2:=XE2.out.cell (k:=2) rfl;have y3:=XE2.out.cell (k:=3) rfl;have y4:=XE2.out.cell (k:=4) rfl;simp only[List.getElem_toArray,List.getElem_cons_zero,List.getElem_cons_succ]at y0 y1 y2 y3 y4;clear hco hci Q2 P1 Q3 R2 XG1 XE1 XZ1 B1
 refine yU 18 (fun i u v=>match i with
  |0=>v=(qP (w.heap.size+1))
  |1=>v=.int .i64 (fn:Int)
  |2=>v=.pointer (some ⟨w.heap.size+1,2,none⟩)
  |3=>v=.int .i64 (tn:Int)
  |4=>v=.slice (some ⟨ob,oo,none⟩) no oc
  |5=>v=.pointer (some ⟨w.heap.size+1,1,none⟩)
  |6=>v=.int .i64 (pf:Int)
  |7=>v=.pointer (some ⟨ob,oo+pf,none⟩)
  |8=>v=.int .i64 rg
  |9=>v=.slice (some ⟨ib,io,none⟩) ni ici
  |10=>v=.pointer (some ⟨w.heap.size+1,3,none⟩)
  |11=>v=.int .i64 (pt:Int)
  |12=>v=.pointer (some ⟨ib,io+pt,none⟩)
  |13=>v=.int .i64 rk
  |14=>v=.pointer (some ⟨w.heap.size+1,4,none⟩)
  |15=>v=.slice xs st.length cx
  |16=>v=.int .i64 (st.length:Int)
  |17=>v=.agg #[.int .i64 (fn:Int),.int .i64 (tn:Int),.int .i64 rg,.int .i64 rk,.int .i64 (st.length:Int)]
  |_=>True) (by kernel_rfl) (by kernel_rfl) (by kernel_rfl) (by kernel_rfl) ?_ ?_ ?_
 ·intro i w v w' h hb
  match i,h with
  |0,h=>exact h
  |1,h=>exact h
  |2,h=>exact h
  |3,h=>exact h
  |4,h=>exact h
  |5,h=>exact h
  |6,h=>exact h
  |7,h=>exact h
  |8,h=>exact h
  |9,h=>exact h
  |10,h=>exact h
  |11,h=>exact h
  |12,h=>exact h
  |13,h=>exact h
  |14,h=>exact h
  |15,h=>exact h
  |16,h=>exact h
  |17,h=>exact h
  |_+18,_=>trivial
 ·intro i o ρ w' hi ho hb hc hf hfr zX
  have k0:=zW hb y0;have k1:=zW hb y1;have k2:=zW hb y2;have k3:=zW hb y3;have k4:=zW hb y4;have kO:=zW hb cO;have kI:=zW hb cI
  match i,hi with
  |0,_=>
   simp only[qS]at ho;subst ho;have ts: ρ (.tmp 3)=(qP (w.heap.size+1)):=(qR hfr 3);simp[go_sem,ts];exact qB
  |1,_=>
   simp only[qS]at ho;subst ho;have ts: ρ (.tmp 29)=(qP (w.heap.size+1)):=(qH zX 0 29);simp[go_sem,ts,k0];exact qB
  |2,_=>
   simp only[qS]at ho;subst ho;have ts: ρ (.tmp 3)=(qP (w.heap.size+1)):=(qR hfr 3);simp[go_sem,ts];exact qB
  |3,_=>
   simp only[qS]at ho;subst ho;have ts: ρ (.tmp 31)=.pointer (some ⟨w.heap.size+1,2,none⟩):=(qH zX 2 31);simp[go_sem,ts,k2];exact qB
  |4,_=>
   simp only[qS]at ho;subst ho;have ts: ρ (.tmp 6)=.slice (some ⟨ob,oo,none⟩) no oc:=(qR hfr 6);simp[go_sem,ts];exact qB
  |5,_=>
   simp only[qS]at ho;subst ho;have ts: ρ (.tmp 3)=(qP (w.heap.size+1)):=(qR hfr 3);simp[go_sem,ts];exact qB
  |6,_=>
   simp only[qS]at ho;subst ho;have ts: ρ (.tmp 34)=.pointer (some ⟨w.heap.size+1,1,none⟩):=(qH zX 5 34);simp[go_sem,ts,k1];exact qB
  |7,_=>
   simp only[qS]at ho;subst ho;have t0: ρ (.tmp 33)=.slice (some ⟨ob,oo,none⟩) no oc:=(qH zX 4 33);have t1: ρ (.tmp 35)=.int .i64 (pf:Int):=(qH zX 6 35);simp[go_sem,t0,t1,hpf];exact qB
  |8,_=>
   simp only[qS]at ho;subst ho;have ts: ρ (.tmp 36)=.pointer (some ⟨ob,oo+pf,none⟩):=(qH zX 7 36);simp[go_sem,ts,kO];exact qB
  |9,_=>
   simp only[qS]at ho;subst ho;have ts: ρ (.tmp 7)=.slice (some ⟨ib,io,none⟩) ni ici:=(qR hfr 7);simp[go_sem,ts];exact qB
  |10,_=>
   simp only[qS]at ho;subst ho;have ts: ρ (.tmp 3)=(qP (w.heap.size+1)):=(qR hfr 3);simp[go_sem,ts];exact qB
  |11,_=>
   simp only[qS]at ho;subst ho;have ts: ρ (.tmp 39)=.pointer (some ⟨w.heap.size+1,3,none⟩):=(qH zX 10 39);simp[go_sem,ts,k3];exact qB
  |12,_=>
   simp only[qS]at ho;subst ho;have t0: ρ (.tmp 38)=.slice (some ⟨ib,io,none⟩) ni ici:=(qH zX 9 38);have t1: ρ (.tmp 40)=.int .i64 (pt:Int):=(qH zX 11 40);simp[go_sem,t0,t1,hpt];exact qB
  |13,_=>
   simp only[qS]at ho;subst ho;have ts: ρ (.tmp 41)=.pointer (some ⟨ib,io+pt,none⟩):=(qH zX 12 41);simp[go_sem,ts,kI];exact qB
  |14,_=>
   simp only[qS]at ho;subst ho;have ts: ρ (.tmp 3)=(qP (w.heap.size+1)):=(qR hfr 3);simp[go_sem,ts];exact qB
  |15,_=>
   simp only[qS]at ho;subst ho;have ts: ρ (.tmp 43)=.pointer (some ⟨w.heap.size+1,4,none⟩):=(qH zX 14 43);simp[go_sem,ts,k4];exact qB
  |16,_=>
   simp only[qS]at ho;subst ho;have t0: ρ (.tmp 44)=.slice xs st.length cx:=(qH zX 15 44);simp[go_sem,t0];exact qB
  |17,_=>
   simp only[qS]at ho;subst ho;have t0: ρ (.tmp 30)=.int .i64 (fn:Int):=(qH zX 1 30);have t1: ρ (.tmp 32)=.int .i64 (tn:Int):=(qH zX 3 32);have t2: ρ (.tmp 37)=.int .i64 rg:=(qH zX 8 37);have t3: ρ (.tmp 42)=.int .i64 rk:=(qH zX 13 42);have t4: ρ (.tmp 45)=.int .i64 (st.length:Int):=(qH zX 16 45);simp[go_sem,t0,t1,t2,t3,t4];exact qB
  |k+18,h=>exact absurd h (by omega)
 intro V w9 q9 hS;have e0:V 0=(qP (w.heap.size+1)):=hS 0 (by decide);have e1:V 1=.int .i64 (fn:Int):=hS 1 (by decide);have e2:V 2=.pointer (some ⟨w.heap.size+1,2,none⟩):=hS 2 (by decide);have e3:V 3=.int .i64 (tn:Int):=hS 3 (by decide);have e4:V 4=.slice (some ⟨ob,oo,none⟩) no oc:=hS 4 (by decide);have e5:V 5=.pointer (some ⟨w.heap.size+1,1,none⟩):=hS 5 (by decide);have e6:V 6=.int .i64 (pf:Int):=hS 6 (by decide);have e7:V 7=.pointer (some ⟨ob,oo+pf,none⟩):=hS 7 (by decide);have e8:V 8=.int .i64 rg:=hS 8 (by decide);have e9:V 9=.slice (some ⟨ib,io,none⟩) ni ici:=hS 9 (by decide);have e10:V 10=.pointer (some ⟨w.heap.size+1,3,none⟩):=hS 10 (by decide);have e11:V 11=.int .i64 (pt:Int):=hS 11 (by decide);have e12:V 12=.pointer (some ⟨ib,io+pt,none⟩):=hS 12 (by decide);have e13:V 13=.int .i64 rk:=hS 13 (by decide);have e14:V 14=.pointer (some ⟨w.heap.size+1,4,none⟩):=hS 14 (by decide);have e15:V 15=.slice xs st.length cx:=hS 15 (by decide);have e16:V 16=.int .i64 (st.length:Int):=hS 16 (by decide);have e17:V 17=.agg #[.int .i64 (fn:Int),.int .i64 (tn:Int),.int .i64 rg,.int .i64 rk,.int .i64 (st.length:Int)]:=hS 17 (by decide);simp only[List.drop_succ_cons,List.drop_zero,List.take_succ_cons,List.take_zero,yP,e0,e1,e2,e3,e4,e5,e6,e7,e8,e9,e10,e11,e12,e13,e14,e15,e16,e17];clear hS e0 e1 e2 e3 e4 e5 e6 e7 e8 e9 e10 e11 e12 e13 e14 e15 e16 e17 V;simp only[Act.put,qU];have Z9:=zZ (XZ2.out.below q9);have B9:=zZ (B3.out.trans (q9.mono B3.out.size));clear q9
 go_wp2_with (refine xD _ rfl 61 (.tmp 4) (.tmp 46) rfl rfl (w.heap.size+2) 61 _ _ rfl rfl Z9.out zQC rfl rfl ?_;intro w8 hN hU;have N8:=zZ hN;have U8:=zZ hU;clear hN hU)
 have r0:=N8.out.cell (k:=0) rfl;have r1:=N8.out.cell (k:=1) rfl;have r2:=N8.out.cell (k:=2) rfl;have r3:=N8.out.cell (k:=3) rfl;have r4:=N8.out.cell (k:=4) rfl;simp only[List.getElem_toArray,List.getElem_cons_zero,List.getElem_cons_succ]at r0 r1 r2 r3 r4;refine bodyPost_ret (v:=.agg #[.int .i64 (fn:Int),.int .i64 (tn:Int),.int .i64 rg,.int .i64 rk,.int .i64 (st.length:Int)]) (by simp[results,Tryz.results17,go_sem,r0,r1,r2,r3,r4]) rfl ?_
 exact ⟨rfl,B9.out.trans (U8.out.below (Nat.le_add_right _ 2) B9.out.size)⟩
end Go.Proofs.YtpohmekkdjdhmaaGreat
namespace Go.Proofs.YtpohmekkdjdhmaaGreat
open Go.RowKit
theorem OM {zs:List Int} {k:Nat} (h:k<zs.length):zS zs k ∈ zs:=by
 unfold zS;rw[List.getD_eq_getElem?_getD,List.getElem?_eq_getElem h];exact List.getElem_mem _
theorem WI {t:Nat} {zs:List Int} (h:(nU t zs).2.2=0):rU (nU t zs).1/\rU (nU t zs).2.1:=by
 unfold nU at h ⊢
 split at h
 ·rename_i ht
  split at h
  ·rename_i hk
   rw[if_pos ht,if_pos hk];have:=QQ t ht zs hk;exact ⟨this.1,this.2.1⟩
  cases h
 cases h
theorem zYZ {g:GG} (hS:zVE g):zN (kG g)=0:=by
 obtain ⟨-,h1,h2,h3,-,-⟩:=UH hS.head
 have hn:¬((kG g).nodes<1\/32<(kG g).nodes):=by show ¬(((g.A.length:Nat):Int)<1\/32<((g.A.length:Nat):Int));omega
 have hl:¬ 96<(kG g).arcs.length:=by show ¬ 96<(g.E.map (xA g)).length;rw[List.length_map];omega
 unfold zN;rw[if_neg hn,if_neg hl]
 refine fU fun i hi=>?_
 have hi':i<g.E.length:=by have:(kG g).arcs.length=g.E.length:=List.length_map ..;omega
 obtain ⟨he,-,-⟩:=EZ (hS.E i hi')
 have e:zU (kG g).arcs i=xA g (yD g.E i):=by
  show (g.E.map (xA g)).getD i _=_;rw[List.getD_eq_getElem?_getD,List.getElem?_map,List.getElem?_eq_getElem hi'];unfold yD;rw[List.getD_eq_getElem?_getD,List.getElem?_eq_getElem hi'];rfl
 rw[e];have hf:=hS.acts (yD g.E i).f.toNat (by have:=he.f0;have:=he.f1;omega);have ht:=hS.acts (yD g.E i).t.toNat (by have:=he.t0;have:=he.t1;omega);have of1:=(WI (PK hf).2.2).2;have of2:=(WI (PK ht).2.2).1;have g1:=of1.each _ (OM (k:=(yD g.E i).fp.toNat) (by have:=he.fp0;have:=he.fp1;unfold nG at this;omega));have g2:=of2.each _ (OM (k:=(yD g.E i).tp.toNat) (by have:=he.tp0;have:=he.tp1;unfold dI at this;omega));have h4:=he.f0;have h5:=he.f1;have h6:=he.t0;have h7:=he.t1;have h8:=he.st;have hA:xA g (yD g.E i)=xA g (yD g.E i):=rfl;unfold pI;have q1:(xA g (yD g.E i)).f=(yD g.E i).f:=rfl;have q2:(xA g (yD g.E i)).t=(yD g.E i).t:=rfl;have q3:(xA g (yD g.E i)).s=((yD g.E i).start.length:Int):=rfl;have q4:1<=(xA g (yD g.E i)).g/\(xA g (yD g.E i)).g<=64:=g1;have q5:1<=(xA g (yD g.E i)).k/\(xA g (yD g.E i)).k<=64:=g2;have q6:(kG g).nodes=(g.A.length:Int):=rfl;clear g1 g2 hA e hf ht of1 of2;generalize xA g (yD g.E i)=A at *;rw[if_neg (by omega),if_neg (by omega),if_neg (by omega)]
end Go.Proofs.YtpohmekkdjdhmaaGreat
namespace Go.Proofs.YtpohmekkdjdhmaaGreat
open Go.ChangeShapes Go.WideShapes Go.ChangeAt Go.RowKit
structure TX (B : Nat) (w0 wr : World) (nb : Nat) (m : Int) (L : List NA) (d : Option Addr) (c : Nat) : Prop where
 blk:zE 30 nb wr #[.int .i64 m,.slice d L.length c]
 row:wr.ownsRow B 61 5 (.slice d L.length c) L.length (vA L)
 far:∀x,d=some x->x.block≠nb
 low:B<=nb
 bel:Below B w0 wr
theorem ZT:∀(L:List NA) (x:NA),vA (L++[x])=vA L++vW x
 |[],x=>by show vW x++[]=[]++vW x;simp
 |a::L,x=>by show vW a++vA (L++[x])=vW a++vA L++vW x;rw[ZT L x,List.append_assoc]
theorem WH {w w':World} {B n:Nat} {v:Value} {xs:List Value} (h:w.ownsRow B 61 5 v n xs) (hk:∀k,v.ownBlock=some k->w'.heap[k]? =w.heap[k]?):w'.ownsRow B 61 5 v n xs:=by
 refine ⟨h.1,?_⟩
 rcases h.2 with q|⟨g,cap,cur,e1,hg,hh,r⟩
 ·exact .inl q
 exact .inr ⟨g,cap,cur,e1,hg,(hk g (by rw[e1];rfl)).trans hh,r⟩
theorem TX.later {B:Nat} {w0 wr w':World} {nb:Nat} {m:Int} {L:List NA} {d:Option Addr} {c:Nat} (h:TX B w0 wr nb m L d c) (hb:Below wr.heap.size wr w') (hB:B<=wr.heap.size):TX B w0 w' nb m L d c:=
 ⟨h.blk.below hb,WH h.row (fun k hk=>hb.block k (h.row.lt k hk).2),h.far,h.low,h.bel.trans (hb.mono hB)⟩
theorem TX.step {B:Nat} {w0 V u:World} {nb:Nat} {m:Int} {L:List NA} {d:Option Addr} {c:Nat} {x:NA} (h:TX B w0 V nb m L d c) (hB:B<=V.heap.size) (f:zZY (fun _ es=>es=vW x) V B 61 5 (.slice d L.length c) L.length (vA L) 30 nb 1 #[.int .i64 m,.slice d L.length c] u):∃d' c',TX B w0 u nb m (L++[x]) d' c':=by
 obtain ⟨es,w1,u1,z,hD,hbut,hblk⟩:=f;obtain ⟨g,cap,hz⟩:=hD.shape;subst hz;have e1:es=vW x:=hD.el;subst e1;have hV:=h.blk.lt;have hch:=hD.chg
 have hgn:g≠nb:=by
  rcases hD.told with ⟨g',cap',e1,e2,-⟩|⟨cap',e2,-⟩
  ·simp at e1 e2
   exact fun e=>h.far _ e1.1 (by show g'=nb;omega)
  simp at e2;have:=hD.bel.size;omega
 have hgB:B<=g:=(hD.own.lt g rfl).1;refine ⟨some ⟨g,0,none⟩,cap,?_,?_,fun y hy=>by cases hy;exact hgn,h.low,?_⟩
 ·rw [List.length_append]
  exact hblk
 ·rw [List.length_append,ZT]
  exact WH hD.own (fun k hk=>hbut.block k (hD.own.lt k hk).2 (by cases hk;exact hgn))
 refine ⟨hbut.os.trans (hch.os.trans h.bel.os),hbut.tape.trans (hch.tape.trans h.bel.tape),hbut.output.trans (hch.output.trans h.bel.output),Nat.le_trans h.bel.size (Nat.le_trans hch.size hbut.size),fun k hk=>?_⟩
 have hl:=h.low;exact (hbut.block k (Nat.lt_of_lt_of_le (Nat.lt_of_lt_of_le hk hB) hch.size) (by omega)).trans ((hch.block k (Nat.lt_of_lt_of_le hk hB) (fun e=>by have:=(h.row.lt k e).1;omega)).trans (h.bel.block k hk))
theorem zUC (x:NA):∀y ∈ vW x,y.oneCell'=true:=by
 intro y hy;simp[vW]at hy
 rcases hy with rfl|rfl|rfl|rfl|rfl<;>rfl
def zQB (gr:GG) (w:World) (e:Ending) (w':World):Prop:=
 if (yH gr).code=0 then ∃d c,e=.returned (.tuple #[.agg #[.int .i64 (gr.A.length:Int),.slice d gr.E.length c],.int .i64 0])/\vN w' d (kG gr).arcs/\Below w.heap.size w w'
 else e=.returned (.tuple #[.agg #[.int .i64 0,qN],.int .i64 (yH gr).code])/\Below w.heap.size w w'
def zYY (gr:GG) (w:World) (e:Ending) (w':World):Prop:=
 if (yH gr).code=0 then ∃d c,e=.returned (.tuple #[.agg #[.int .i64 (gr.A.length:Int),.slice d gr.E.length c],.int .i64 0])/\vN w' d (kG gr).arcs/\Below w.heap.size w w'/\(d=none->c=0)
 else e=.returned (.tuple #[.agg #[.int .i64 0,qN],.int .i64 (yH gr).code])/\Below w.heap.size w w'
theorem OL (gr:GG) (a1 a2 a3 a4:Option Addr) (c1 c2 c3 c4:Nat) (w:World) (h:NJ w a1 a2 a3 a4 gr):Calls Tryz.prog 4 #[.agg #[.string (yG gr.name),.slice a1 gr.A.length c1,.slice a2 gr.E.length c2,.slice a3 gr.ins.length c3,.slice a4 gr.outs.length c4]] w (zYY gr w):=by
 obtain ⟨i0,hi,hz0,hz1,hz2⟩:=info_parts Tryz.infoArc;have b0:=(Below.refl w.heap.size w).alloc (Nat.le_refl _) (.cells #[.string (yG gr.name),.slice a1 gr.A.length c1,.slice a2 gr.E.length c2,.slice a3 gr.ins.length c3,.slice a4 gr.outs.length c4] 26);have b1:=b0.alloc b0.size (.cells #[.int .i64 0,qN] 30);have hsz:(w.alloc (.cells #[.string (yG gr.name),.slice a1 gr.A.length c1,.slice a2 gr.E.length c2,.slice a3 gr.ins.length c3,.slice a4 gr.outs.length c4] 26)).heap.size=w.heap.size+1:=World.size_alloc _ _;have XG0:=zZ ((zV 26 w #[.string (yG gr.name),.slice a1 gr.A.length c1,.slice a2 gr.E.length c2,.slice a3 gr.ins.length c3,.slice a4 gr.outs.length c4]).below ((Below.refl _ _).alloc (Nat.le_refl _) (.cells #[.int .i64 0,qN] 30)));have xz:=zV 30 (w.alloc (.cells #[.string (yG gr.name),.slice a1 gr.A.length c1,.slice a2 gr.E.length c2,.slice a3 gr.ins.length c3,.slice a4 gr.outs.length c4] 26)) #[.int .i64 0,qN];rw[hsz]at xz;have XZ:=zZ xz;have B1:=zZ b1;have HG:=zZ (h.below b1);have CK:=zZ (AB gr a1 a2 a3 a4 c1 c2 c3 c4 _ (h.below b1));have z0:=XG0.out.cell (k:=0) rfl;have z1:=XG0.out.cell (k:=1) rfl;have z2:=XG0.out.cell (k:=2) rfl;have z3:=XG0.out.cell (k:=3) rfl;have z4:=XG0.out.cell (k:=4) rfl;simp only[List.getElem_toArray,List.getElem_cons_zero,List.getElem_cons_succ]at z0 z1 z2 z3 z4;clear b0 b1 xz h hsz;obtain ⟨OE,hOE⟩:∃R,zYY gr w=R:=⟨_,rfl⟩;rw[hOE];have HOE:=zZ hOE;clear hOE
 by_cases hc:(yH gr).code=0
 ·have hSo:=(fF gr).1 hc
  have EO:=zZ (fun q (hq:q<gr.E.length)=>(EZ (hSo.E q hq)).1);have hed:=(UH hSo.head).2.2.2.1
  have HE:Hid (OE=fun e w'=>∃d c,e=.returned (.tuple #[.agg #[.int .i64 (gr.A.length:Int),.slice d gr.E.length c],.int .i64 0])/\vN w' d (kG gr).arcs/\Below w.heap.size w w'/\(d=none->c=0)):=by
   show _=_;rw[<- HOE.out]
   funext e w'
   unfold zYY;rw[if_pos hc]
  rw[hc]at CK;clear hSo hc HOE
  go_enter Tryz.func4,Tryz.ntmps4
  go_upto_region 1 with fail
  generalize (w.alloc (.cells #[.string (yG gr.name),.slice a1 gr.A.length c1,.slice a2 gr.E.length c2,.slice a3 gr.ins.length c3,.slice a4 gr.outs.length c4] 26)).alloc (.cells #[.int .i64 0,qN] 30)=W0 at *
  go_upto_region 4 with (go_at_call 16;(with_reducible refine CK.out.mono ?_);rintro e W1 ⟨rfl,bb⟩;have Z1:=zZ (XZ.out.below bb);have G1:=zZ (HG.out.below bb);have XG1:=zZ (XG0.out.below bb);have L1:=zZ (B1.out.trans (bb.mono B1.out.size));clear bb z0 z1 z2 z3 z4)
  have z1:=XG1.out.cell (k:=1) rfl;simp only[List.getElem_toArray,List.getElem_cons_zero,List.getElem_cons_succ]at z1;clear CK XG0 XZ HG B1
  go_upto_region 5 with fail
  have b2:=(Below.refl W1.heap.size W1).alloc (Nat.le_refl _) (.cells #[.int .i64 (gr.A.length:Int),qN] 30);have F0:Hid (TX W1.heap.size W1 (W1.alloc (.cells #[.int .i64 (gr.A.length:Int),qN] 30)) W1.heap.size (gr.A.length:Int) [] none 0):=⟨zV 30 W1 _,World.ownsRow_nil _ _ _ _,(fun x hx=>by cases hx),Nat.le_refl _,b2⟩;have z2:=(XG1.out.below b2).cell (k:=2) rfl;simp only[List.getElem_toArray,List.getElem_cons_zero,List.getElem_cons_succ]at z2;have hwB:w.heap.size<W1.heap.size:=XG1.out.lt;have hZB:w.heap.size+1<W1.heap.size:=Z1.out.lt;obtain ⟨B,hB⟩:∃q,W1.heap.size=q:=⟨_,rfl⟩;obtain ⟨nb,hnb⟩:∃q,W1.heap.size=q:=⟨_,rfl⟩;rw[hnb]
  have F1:Hid (TX B W1 (W1.alloc (.cells #[.int .i64 (gr.A.length:Int),qN] 30)) nb (gr.A.length:Int) [] none 0):=by
   rw[<- hB,<-hnb];exact F0.out
  rw[hB]at hwB hZB
  have hsB:B<=W1.heap.size:=by rw[hB];exact Nat.le_refl _
  clear b2 F0 z1;generalize W1.alloc (.cells #[.int .i64 (gr.A.length:Int),qN] 30)=V0 at *
  go_wp2
  go_loopg [21] gr.E.length (fun gk u wr=>∃(q c:Nat) (d:Option Addr),q<=gr.E.length/\gk=gr.E.length-q/\u=.int .i64 (q:Int)/\TX B W1 wr nb (gr.A.length:Int) ((gr.E.take q).map (xA gr)) d c)
  case atStart=>exact ⟨0,0,none,Nat.zero_le _,rfl,rfl,F1.out⟩
  case round=>
   clear F1 z2;obtain ⟨q,c,d,hq,rfl,rfl,hF⟩:=hrel;have FI:=zZ hF;clear hF;have hBr:B<=wr.heap.size:=Nat.le_trans hsB FI.out.bel.size
   have bw:Below W1.heap.size W1 wr:=by rw[hB];exact FI.out.bel
   by_cases hlt:q<gr.E.length
   ·have hki:(q:Int)<(gr.E.length:Int):=by omega
    have GR:=zZ (G1.out.below bw);have XGr:=zZ (XG1.out.below bw)
    rcases GR.out.E with e|⟨eb,eo,ee,hce⟩
    ·rw [e]at hlt;simp at hlt
    obtain ⟨e0,e1,e2,e3,xs,cx,e4,-⟩:=hce q hlt;have HED:=zZ (EO.out q hlt)
    have TK:Hid ((gr.E.take q).map (xA gr)++[xA gr (yD gr.E q)]=(gr.E.take (q+1)).map (xA gr)):=by
     show _=_;rw[List.take_add_one,List.getElem?_eq_getElem hlt,List.map_append];unfold yD;rw[List.getD_eq_getElem?_getD,List.getElem?_eq_getElem hlt];rfl
    have hLl:((gr.E.take q).map (xA gr)).length<=96:=by rw[List.length_map,List.length_take];omega
    subst ee;generalize yD gr.E q=ed at *;generalize (gr.E.take q).map (xA gr)=L at *;clear hce
    go_upto_region 8 with fail
    have bc:=(Below.refl wr.heap.size wr).alloc (Nat.le_refl _) (.cells #[.int .i64 ed.f,.int .i64 ed.fp,.int .i64 ed.t,.int .i64 ed.tp,.slice xs ed.start.length cx] 59);have XE:=zZ (zV 59 wr #[.int .i64 ed.f,.int .i64 ed.fp,.int .i64 ed.t,.int .i64 ed.tp,.slice xs ed.start.length cx]);have FX:=zZ (FI.out.later bc hBr);have XG:=zZ (XGr.out.below bc);have GR1:=zZ (GR.out.below bc)
    have NG:Hid ((.slice d L.length c:Value).ownBlock≠some w.heap.size):=fun e=>by have:=(FI.out.row.lt _ e).1;omega
    have NX:Hid ((.slice d L.length c:Value).ownBlock≠some wr.heap.size):=fun e=>by have:=(FI.out.row.lt _ e).2;omega
    have NR:Hid ((.slice d L.length c:Value).ownBlock≠some nb):=fun e=>by
     cases d with
     |none=>cases e
     |some y=>exact FI.out.far y rfl (by cases e;rfl)
    have LB:Hid (B<=(wr.alloc (.cells #[.int .i64 ed.f,.int .i64 ed.fp,.int .i64 ed.t,.int .i64 ed.tp,.slice xs ed.start.length cx] 59)).heap.size):=Nat.le_trans hBr bc.size;obtain ⟨xb,hxb⟩:∃q,wr.heap.size=q:=⟨_,rfl⟩;rw[hxb]at XE NX ⊢;generalize wr.alloc (.cells #[.int .i64 ed.f,.int .i64 ed.fp,.int .i64 ed.t,.int .i64 ed.tp,.slice xs ed.start.length cx] 59)=V1 at *
    have AO:Hid (∀ U,Below V1.heap.size V1 U->Calls Tryz.prog 17 #[.agg #[.string (yG gr.name),.slice a1 gr.A.length c1,.slice (some ⟨eb,eo,none⟩) gr.E.length c2,.slice a3 gr.ins.length c3,.slice a4 gr.outs.length c4],.agg #[.int .i64 ed.f,.int .i64 ed.fp,.int .i64 ed.t,.int .i64 ed.tp,.slice xs ed.start.length cx]] U fun e w'=>e=.returned (.agg #[.int .i64 (xA gr ed).f,.int .i64 (xA gr ed).t,.int .i64 (xA gr ed).g,.int .i64 (xA gr ed).k,.int .i64 (xA gr ed).s])/\Below U.heap.size U w'):=fun U hb=>zZA gr a1 (some ⟨eb,eo,none⟩) a3 a4 c1 c2 c3 c4 ed xs cx U (GR1.out.below hb) HED.out
    clear bc e0 e1 e2 e3 e4 hxb FI GR GR1 XGr bw
    refine zM [6,8] (fun d_ i u z=>match i with
     |0=>z=.pointer (some ⟨nb,1,none⟩)
     |1=>z=.slice d L.length c
     |2=>z=.agg #[.string (yG gr.name),.slice a1 gr.A.length c1,.slice (some ⟨eb,eo,none⟩) gr.E.length c2,.slice a3 gr.ins.length c3,.slice a4 gr.outs.length c4]
     |3=>z=.agg #[.int .i64 ed.f,.int .i64 ed.fp,.int .i64 ed.t,.int .i64 ed.tp,.slice xs ed.start.length cx]
     |4=>z=.agg #[.int .i64 (xA gr ed).f,.int .i64 (xA gr ed).t,.int .i64 (xA gr ed).g,.int .i64 (xA gr ed).k,.int .i64 (xA gr ed).s]
     |5=>(d_ 6=false->ElC (fun _ es=>es=vW (xA gr ed)) V1 u z)
     |6=>(d_ 6=true/\(d_ 8=false->ElA (fun _ es=>es=vW (xA gr ed)) V1 B 61 5 (.slice d L.length c) L.length (vA L) u z))
     |7=>z=.pointer (some ⟨nb,1,none⟩)
     |8=>True
     |_=>True) (fun d_ u=>(d_ 6=false->Below V1.heap.size V1 u)/\(d_ 8=false->xP (fun k=>(.slice d L.length c:Value).ownBlock=some k) V1 u)/\(d_ 8=true->zZY (fun _ es=>es=vW (xA gr ed)) V1 B 61 5 (.slice d L.length c) L.length (vA L) 30 nb 1 #[.int .i64 (gr.A.length:Int),.slice d L.length c] u)) (by kernel_rfl) (by kernel_rfl) (by kernel_rfl) ?_ ?_ ?_ ?_ ?_ ?_ (by kernel_rfl)
    ·intro d_ i w v w' h hb
     match i,h with
     |0,h=>exact h
     |1,h=>exact h
     |2,h=>exact h
     |3,h=>exact h
     |4,h=>exact h
     |5,h=>exact fun e=>(h e).later (fun _ _ _ h _=>h) hb
     |6,h=>exact ⟨h.1,fun e=>(h.2 e).later hb⟩
     |7,h=>exact h
     |8,h=>exact h
     |_+9,_=>trivial
    ·intro d_ u u' h hb
     exact ⟨fun e=>(h.1 e).trans (hb.mono (h.1 e).size),fun e=>(h.2.1 e).trans' (xP.of_below hb),fun e=>(h.2.2 e).later hb⟩
    ·exact ⟨fun _=>Below.refl _ _,fun _=>xP.of_below (Below.refl _ _),fun e=>absurd e (by decide)⟩
    ·intro d_ i o ρ w' hm ho hf hg hC hcs hfs hfr zX
     match i,hm,ho,hf,hg,hfr,zX with
     |0,_,ho,hf,hg,hfr,zX=>
      simp only[qS]at ho;subst ho;refine ⟨fun _=>?_,qF⟩
      have ts: ρ (.tmp 5)=(qP nb):=(qR hfr 5);simp[go_sem,ts];exact qB
     |1,_,ho,hf,hg,hfr,zX=>
      simp only[qS]at ho;subst ho;refine ⟨fun _=>?_,qF⟩
      have h6:d_ 6=false:=hf 6 (by decide) (by kernel_rfl);have cc:w'.cell? ⟨nb,1,none⟩=some (.slice d L.length c):=(FX.out.blk.below (hC.1 h6)).cell rfl;have d0: ρ (.tmp 25)=.pointer (some ⟨nb,1,none⟩):=(qH zX 0 25);simp[go_sem,d0,cc];exact qB
     |2,_,ho,hf,hg,hfr,zX=>
      simp only[qS]at ho;subst ho;refine ⟨fun _=>?_,qF⟩
      have ts: ρ (.tmp 1)=(qP w.heap.size):=(qR hfr 1);have h8:d_ 8=false:=hf 8 (by decide) (by kernel_rfl);have q:=XG.out.keep ((hC.2.1 h8).block _ XG.out.lt NG.out);have k0:=q.cell (k:=0) rfl;have k1:=q.cell (k:=1) rfl;have k2:=q.cell (k:=2) rfl;have k3:=q.cell (k:=3) rfl;have k4:=q.cell (k:=4) rfl;simp only[List.getElem_toArray,List.getElem_cons_zero,List.getElem_cons_succ]at k0 k1 k2 k3 k4;simp[go_sem,ts,k0,k1,k2,k3,k4];exact qB
     |3,_,ho,hf,hg,hfr,zX=>
      simp only[qS]at ho;subst ho;refine ⟨fun _=>?_,qF⟩
      have ts: ρ (.tmp 7)=(qP xb):=(qR hfr 7);have h8:d_ 8=false:=hf 8 (by decide) (by kernel_rfl);have q:=XE.out.keep ((hC.2.1 h8).block _ XE.out.lt NX.out);have k0:=q.cell (k:=0) rfl;have k1:=q.cell (k:=1) rfl;have k2:=q.cell (k:=2) rfl;have k3:=q.cell (k:=3) rfl;have k4:=q.cell (k:=4) rfl;simp only[List.getElem_toArray,List.getElem_cons_zero,List.getElem_cons_succ]at k0 k1 k2 k3 k4;simp[go_sem,ts,k0,k1,k2,k3,k4];exact qB
     |4,_,ho,hf,hg,hfr,zX=>
      simp only[qS]at ho;subst ho;refine ⟨fun _=>?_,qF⟩
      have t0: ρ (.tmp 27)=.agg #[.string (yG gr.name),.slice a1 gr.A.length c1,.slice (some ⟨eb,eo,none⟩) gr.E.length c2,.slice a3 gr.ins.length c3,.slice a4 gr.outs.length c4]:=(qH zX 2 27);have t1: ρ (.tmp 28)=.agg #[.int .i64 ed.f,.int .i64 ed.fp,.int .i64 ed.t,.int .i64 ed.tp,.slice xs ed.start.length cx]:=(qH zX 3 28);have h6:d_ 6=false:=hf 6 (by decide) (by kernel_rfl);simp[go_sem,t0,t1,hfs];exact ⟨rfl,(AO.out w' (hC.1 h6)).mono fun e w'' hh=>⟨_,hh.1,hh.2,rfl⟩⟩
     |5,_,ho,hf,hg,hfr,zX=>
      simp only[qS]at ho;subst ho;refine ⟨fun _=>?_,qF⟩
      have t0: ρ (.tmp 29)=.agg #[.int .i64 (xA gr ed).f,.int .i64 (xA gr ed).t,.int .i64 (xA gr ed).g,.int .i64 (xA gr ed).k,.int .i64 (xA gr ed).s]:=(qH zX 4 29);have h6:d_ 6=false:=hf 6 (by decide) (by kernel_rfl);simp[go_sem,t0];exact ⟨(Below.refl _ _).alloc (Nat.le_refl _) _,fun _=>zQK (fun _ _ _ h _=>h) 61 (es:=vW (xA gr ed)) rfl (hC.1 h6).size⟩
     |6,hm,_,_,_,_,_=>exact qD hm
     |7,_,ho,hf,hg,hfr,zX=>
      simp only[qS]at ho;subst ho;refine ⟨fun _=>?_,qF⟩
      have ts: ρ (.tmp 5)=(qP nb):=(qR hfr 5);simp[go_sem,ts];exact qB
     |8,hm,_,_,_,_,_=>exact qD hm
     |n+9,_,ho,_,_,_,_=>simp at ho
    ·intro d_ i o ρ w' hm ho h0 hf hg hC hcs hfs hfr zX
     match i,hm,ho,h0,hf,hg,hfr,zX with
     |0,hm,_,_,_,_,_,_=>exact qD hm
     |1,hm,_,_,_,_,_,_=>exact qD hm
     |2,hm,_,_,_,_,_,_=>exact qD hm
     |3,hm,_,_,_,_,_,_=>exact qD hm
     |4,hm,_,_,_,_,_,_=>exact qD hm
     |5,hm,_,_,_,_,_,_=>exact qD hm
     |6,_,ho,h0,hf,hg,hfr,zX=>
      simp only[qS]at ho;subst ho;have t0: ρ (.tmp 26)=.slice d L.length c:=(qH zX 1 26);have t5:ElC (fun _ es=>es=vW (xA gr ed)) V1 w' (ρ (.tmp 30)):=(qH zX 5 30) h0;have h8:d_ 8=false:=hf 8 (by decide) (by kernel_rfl);refine ⟨rfl,zZX (.tmp 26) (.tmp 30) 28 61 i0 _ 5 40 rfl Tryz.underlying28 hi hz0 hz1 hz2 rfl (by decide) t0 rfl FX.out.row (hC.1 h0) (fun _ _ h=>by subst h;exact ⟨rfl,zUC _⟩) t5 LB.out (by omega) (by omega) ?_⟩
      intro u9 v9 hG;refine ⟨⟨fun e=>absurd e (by rw[zL];decide),fun _=>hG.chg,fun e=>absurd ((zP d_ (by decide)).symm.trans e) (by rw[h8];decide)⟩,fun _=>⟨zL _ _,fun _=>hG⟩,?_⟩
      intro j t hj hs
      match j,hs with
      |0,hs=>exact hs
      |1,hs=>exact hs
      |2,hs=>exact hs
      |3,hs=>exact hs
      |4,hs=>exact hs
      |5,hs=>exact fun e=>absurd e (by rw[zL];decide)
      |6,hs=>exact absurd hs.1 (by rw[h0];decide)
      |7,hs=>exact hs
      |8,_=>trivial
      |_+9,_=>trivial
     |7,hm,_,_,_,_,_,_=>exact qD hm
     |8,_,ho,h0,hf,hg,hfr,zX=>
      simp only[qS]at ho;subst ho;have t0: ρ (.tmp 32)=.pointer (some ⟨nb,1,none⟩):=(qH zX 7 32);have t9:d_ 6=true/\(d_ 8=false->ElA (fun _ es=>es=vW (xA gr ed)) V1 B 61 5 (.slice d L.length c) L.length (vA L) w' (ρ (.tmp 31))):=(qH zX 6 31);have hG:=t9.2 h0;obtain ⟨gz,cz,e9⟩:=hG.shape;rw[e9]at hG;have hF:=JU (f:=1) hG FX.out.blk NR.out;have c1:w'.cell? ⟨nb,1,none⟩=some (.slice d L.length c):=hF.2.cell rfl;have f1:=hF.2.frozen 1;refine ⟨rfl,wQ (w':=w'.setCell ⟨nb,1,none⟩ (.slice (some ⟨gz,0,none⟩) (L.length+1) cz)) (by simp[go_sem,t0,e9,c1,f1]) ?_⟩
      refine ⟨⟨fun e=>absurd ((zP d_ (by decide)).symm.trans e) (by rw[t9.1];decide),fun e=>absurd e (by rw[zL];decide),fun _=>hF.1⟩,fun h=>absurd rfl h,?_⟩
      intro j t hj hs
      match j,hs with
      |0,hs=>exact hs
      |1,hs=>exact hs
      |2,hs=>exact hs
      |3,hs=>exact hs
      |4,hs=>exact hs
      |5,hs=>exact fun e=>absurd ((zP d_ (by decide)).symm.trans e) (by rw[t9.1];decide)
      |6,hs=>exact ⟨(zP d_ (by decide)).trans hs.1,fun e=>absurd e (by rw[zL];decide)⟩
      |7,hs=>exact hs
      |8,_=>trivial
      |_+9,_=>trivial
     |n+9,_,ho,_,_,_,_,_=>simp at ho
    intro V w8 hC8 hS;simp only[yP,uM];simp only[Act.put,qU];clear hS;obtain ⟨d',c',F9⟩:=FX.out.step LB.out (hC8.2.2 rfl);have F9h:=zZ F9;rw[TK.out]at F9h;clear hC8 F9 FX XE XG AO
    go_wp2
    go_roundg (gr.E.length-(q+1))
    case measure=>omega
    case rel=>exact ⟨q+1,c',d',by omega,rfl,by go_num,F9h.out⟩
   have ek:q=gr.E.length:=by omega
   have hki:¬(q:Int)<(gr.E.length:Int):=by omega
   rw[ek,List.take_length]at FI;have hLe:(gr.E.map (xA gr)).length=gr.E.length:=List.length_map _;have y0:=FI.out.blk.cell (k:=0) rfl;have y1:=FI.out.blk.cell (k:=1) rfl;simp only[List.getElem_toArray,List.getElem_cons_zero,List.getElem_cons_succ]at y0 y1;rw[hLe]at y1;have Zr:=zZ (Z1.out.below bw);have Lr:=zZ (L1.out.trans (bw.mono L1.out.size))
   go_wp2_with (refine xD _ rfl 30 (.tmp 2) (.tmp 34) rfl rfl (w.heap.size+1) 30 _ _ rfl rfl Zr.out zUV rfl rfl ?_;intro w8 hN hU;have N8:=zZ hN;have U8:=zZ hU;clear hN hU)
   have r0:=N8.out.cell (k:=0) rfl;have r1:=N8.out.cell (k:=1) rfl;simp only[List.getElem_toArray,List.getElem_cons_zero,List.getElem_cons_succ]at r0 r1;refine bodyPost_ret (v:=.tuple #[.agg #[.int .i64 (gr.A.length:Int),.slice d gr.E.length c],.int .i64 0]) (by simp[results,Tryz.results4,go_sem,r0,r1]) rfl ?_
   rw[HE.out];obtain ⟨a',c',ev,hat,hbl⟩:=QM FI.out.row
   cases ev
   exact ⟨d,c,rfl,hat.keep fun x hx=>U8.out.block _ (hbl x hx).2 (by have:=(hbl x hx).1;omega),Lr.out.trans (U8.out.below (Nat.le_succ _) Lr.out.size),fun e=>by rcases FI.out.row.2 with q|⟨g,cap,cur,e1,-⟩<;>simp_all⟩
 obtain ⟨cd,hcd⟩:∃q,(yH gr).code=q:=⟨_,rfl⟩
 have HE:Hid (OE=fun e w'=>e=.returned (.tuple #[.agg #[.int .i64 0,qN],.int .i64 cd])/\Below w.heap.size w w'):=by
  show _=_;rw[<- HOE.out]
  funext e w'
  unfold zYY;rw[if_neg hc,hcd]
 rw[hcd]at CK hc
 have hcb:(cd !=0)=true:=by simpa using hc
 clear hcd HOE
 go_enter Tryz.func4,Tryz.ntmps4
 go_upto_region 1 with fail
 generalize (w.alloc (.cells #[.string (yG gr.name),.slice a1 gr.A.length c1,.slice a2 gr.E.length c2,.slice a3 gr.ins.length c3,.slice a4 gr.outs.length c4] 26)).alloc (.cells #[.int .i64 0,qN] 30)=W0 at *
 go_wp2_with (first
  |(go_at_call 16;(with_reducible refine CK.out.mono ?_);rintro e W1 ⟨rfl,bb⟩;have Z1:=zZ (XZ.out.below bb);have L1:=zZ (B1.out.trans (bb.mono B1.out.size));clear bb)
  |(refine xD _ rfl 30 (.tmp 2) (.tmp 12) rfl rfl (w.heap.size+1) 30 _ _ rfl rfl Z1.out zUV rfl rfl ?_;intro w8 hN hU;have N8:=zZ hN;have U8:=zZ hU;clear hN hU))
 have r0:=N8.out.cell (k:=0) rfl;have r1:=N8.out.cell (k:=1) rfl;simp only[List.getElem_toArray,List.getElem_cons_zero,List.getElem_cons_succ]at r0 r1;refine bodyPost_ret (v:=.tuple #[.agg #[.int .i64 0,qN],.int .i64 cd]) (by simp[results,Tryz.results4,go_sem,r0,r1]) rfl ?_
 rw[HE.out];exact ⟨rfl,L1.out.trans (U8.out.below (Nat.le_succ _) L1.out.size)⟩
theorem EK (gr:GG) (a1 a2 a3 a4:Option Addr) (c1 c2 c3 c4:Nat) (w:World) (h:NJ w a1 a2 a3 a4 gr):Calls Tryz.prog 4 #[.agg #[.string (yG gr.name),.slice a1 gr.A.length c1,.slice a2 gr.E.length c2,.slice a3 gr.ins.length c3,.slice a4 gr.outs.length c4]] w (zQB gr w):=by
 refine (OL gr a1 a2 a3 a4 c1 c2 c3 c4 w h).mono fun e w' q=>?_
 unfold zYY at q;unfold zQB
 split
 ·rename_i hc
  rw[if_pos hc]at q;obtain ⟨d,c,q1,q2,q3,-⟩:=q;exact ⟨d,c,q1,q2,q3⟩
 rename_i hc
 rw[if_neg hc]at q;exact q
end Go.Proofs.YtpohmekkdjdhmaaGreat
