/- Texts of one chain. -/
import Derived.Test.YtdcjdnkdeamigaaGreatDoorPartQ
import Derived.Test.YtdcjdnkdeamigaaGreatDoorPartSourceWhere30
import Derived.Test.YtdcjdnkdeamigaaGreatDoorPartSourceWhere31
import Derived.Test.YtdcjdnkdeamigaaGreatDoorPartSourceWhere4
import Derived.Test.YtdcjdnkdeamigaaGreatDoorPartSourceWhere28
set_option maxRecDepth 100000
set_option maxHeartbeats 16000000
namespace Go.Proofs.YtdcjdnkdeamigaaGreatDoor
open Go.ChangeShapes Go.WideShapes Go.ChangeAt Go.RowKit
def RD (g:GG) (a p:Int):EA:=⟨(yI g.A a.toNat).name,p,0⟩
def uA (a:GA):wJ:=⟨1,a.name,(iT a.tag).1,a.params,eK,eK,0⟩
def sP (g:GG) (e:GE):wJ:=⟨2,[],[],e.start,RD g e.f e.fp,RD g e.t e.tp,0⟩
def pV (g:GG) (p:GP):wJ:=⟨3,p.name,[],[],eK,RD g p.actor p.port,0⟩
def oI (g:GG) (p:GP):wJ:=⟨4,p.name,[],[],RD g p.actor p.port,eK,0⟩
def eJ (g:GG):List wJ:=g.A.map uA++(g.E.map (sP g)++(g.ins.map (pV g)++g.outs.map (oI g)))
def CM (p:EA):Value:=.agg #[.string (zW p.name),.int .i64 p.port,.int .i64 p.place]
def bL (x:wJ) (w:World) (e:Ending) (w':World):Prop:=∃a c,e=.returned (.agg (JI x.kind x.name x.tag (.slice a x.nums.length c) x.frm x.tgt x.place))/\xM w.heap.size w' a c x.nums/\Below w.heap.size w w'
theorem rQ (g:GG) (a1 a2 a3 a4:Option Addr) (c1 c2 c3 c4:Nat) (a p:Int) (w:World) (hA:IC w a1 g.A) (h0:0<=a) (hl:a<(g.A.length:Int)) (hn:g.A.length<=1000):
 Calls Tryz.prog 66 #[.agg #[.string (zW g.name),.slice a1 g.A.length c1,.slice a2 g.E.length c2,.slice a3 g.ins.length c3,.slice a4 g.outs.length c4],.int .i64 a,.int .i64 p] w fun e w'=>e=.returned (CM (RD g a p))/\Below w.heap.size w w':=by
 obtain ⟨k,rfl⟩:∃k:Nat,a=(k:Int):=⟨a.toNat,by omega⟩
 have hk:k<g.A.length:=by omega
 have ba:=((Below.refl w.heap.size w).alloc (Nat.le_refl _) (.cells #[.string (zW g.name),.slice a1 g.A.length c1,.slice a2 g.E.length c2,.slice a3 g.ins.length c3,.slice a4 g.outs.length c4] 26)).alloc (by simp) (.cells #[qE,.int .i64 0,.int .i64 0] 101);have gg:=(zL 26 w #[.string (zW g.name),.slice a1 g.A.length c1,.slice a2 g.E.length c2,.slice a3 g.ins.length c3,.slice a4 g.outs.length c4]).below ((Below.refl _ _).alloc (Nat.le_refl _) (.cells #[qE,.int .i64 0,.int .i64 0] 101))
 have nr:zD 101 (w.heap.size+1) ((w.alloc (.cells #[.string (zW g.name),.slice a1 g.A.length c1,.slice a2 g.E.length c2,.slice a3 g.ins.length c3,.slice a4 g.outs.length c4] 26)).alloc (.cells #[qE,.int .i64 0,.int .i64 0] 101)) #[qE,.int .i64 0,.int .i64 0]:=by
  have h3:=zL 101 (w.alloc (.cells #[.string (zW g.name),.slice a1 g.A.length c1,.slice a2 g.E.length c2,.slice a3 g.ins.length c3,.slice a4 g.outs.length c4] 26)) #[qE,.int .i64 0,.int .i64 0];rw[World.size_alloc]at h3;exact h3
 have BA:=zZ ba;have NR:=zZ nr;have x1:=gg.cell (k:=1) rfl
 rcases hA with e|⟨b,off,rfl,hc⟩
 ·rw [e]at hk;exact absurd hk (Nat.not_lt_zero _)
 have hcc:=xE ba (hc k hk).1
 have hnI:(g.A.length:Int)<=1000:=by omega
 have ep:CM (RD g (k:Int) p)=.agg #[.string (zW (yI g.A k).name),.int .i64 p,.int .i64 0]:=by
  unfold CM RD;rw[Int.toNat_natCast]
 rw[ep];generalize (yI g.A k).name=nm at *;generalize g.A.length=N at *;clear hc ba gg nr ep hn
 go_enter Tryz.func66,Tryz.ntmps66
 go_upto_region 1 with fail
 generalize (w.alloc (.cells #[.string (zW g.name),.slice (some ⟨b,off,none⟩) N c1,.slice a2 g.E.length c2,.slice a3 g.ins.length c3,.slice a4 g.outs.length c4] 26)).alloc (.cells #[qE,.int .i64 0,.int .i64 0] 101)=W0 at *
 go_wp2_with (refine xI _ rfl 101 (.tmp 6) (.tmp 14) rfl rfl (w.heap.size+1) 101 _ _ rfl rfl NR.out sizQ rfl rfl ?_;intro w9 hN hU;have N9:=zZ hN;have U9:=zZ hU;clear hN hU)
 have t0:w9.cell? ⟨w.heap.size+1,0,none⟩=some (.string (zW nm)):=N9.out.cell rfl;have t1:w9.cell? ⟨w.heap.size+1,1,none⟩=some (.int .i64 p):=N9.out.cell rfl;have t2:w9.cell? ⟨w.heap.size+1,2,none⟩=some (.int .i64 0):=N9.out.cell rfl;refine bodyPost_ret (v:=.agg #[.string (zW nm),.int .i64 p,.int .i64 0]) (by simp[results,Tryz.results66,go_sem,t0,t1,t2]) rfl ?_
 exact ⟨rfl,BA.out.trans (U9.out.below (Nat.le_succ _) BA.out.size)⟩
def oV (V:World) (zs:List Int) (u:World) (v:Value):Prop:=∃a c,v=.slice a zs.length c/\xM V.heap.size u a c zs
theorem oV.later {V u u':World} {zs:List Int} {v:Value} (h:oV V zs u v) (hb:Below u.heap.size u u'):oV V zs u' v:=by
 obtain ⟨a,c,h1,h2⟩:=h;exact ⟨a,c,h1,h2.later hb⟩
theorem dQ {V w w':World} {zs:List Int} {e:Ending} (h:kQ w zs.length zs e w') (hV:V.heap.size<=w.heap.size):∃v,e=.returned v/\Below w.heap.size w w'/\oV V zs w' v:=by
 obtain ⟨a,c,h1,h2,h3⟩:=h;exact ⟨_,h1,h3,a,c,rfl,h2.mono hV⟩
theorem aI (a:GA) (x:Option Addr) (c:Nat) (w:World) (ht:a.tag<=255) (h:YF w x a.params.length c a.params):
 Calls Tryz.prog 64 #[.agg #[.string (zW a.name),.int .u8 (a.tag:Int),.slice x a.params.length c]] w (bL (uA a) w):=by
 have ba:=((Below.refl w.heap.size w).alloc (Nat.le_refl _) (.cells #[.string (zW a.name),.int .u8 (a.tag:Int),.slice x a.params.length c] 62)).alloc (by simp) (.cells qI 103);have gg:=(zL 62 w #[.string (zW a.name),.int .u8 (a.tag:Int),.slice x a.params.length c]).below ((Below.refl _ _).alloc (Nat.le_refl _) (.cells qI 103))
 have nr:zD 103 (w.heap.size+1) ((w.alloc (.cells #[.string (zW a.name),.int .u8 (a.tag:Int),.slice x a.params.length c] 62)).alloc (.cells qI 103)) qI:=by
  have h3:=zL 103 (w.alloc (.cells #[.string (zW a.name),.int .u8 (a.tag:Int),.slice x a.params.length c] 62)) qI;rw[World.size_alloc]at h3;exact h3
 have BA:=zZ ba;have NR:=zZ nr;have GGb:=zZ gg;have HA:=zZ (h.below ba);have x1:=gg.cell (k:=1) rfl;have WD:=zZ (fun V=>KU a.tag V ht)
 have HX:Hid (uA a=⟨1,a.name,(iT a.tag).1,a.params,eK,eK,0⟩):=by rfl
 rw[HX.out];generalize (iT a.tag).2=er at *;have hw:∃wd,wd=lY (iT a.tag).1/\wd=zW (iT a.tag).1:=⟨_,rfl,rfl⟩;obtain ⟨wd,hw1,hw2⟩:=hw;have HW2:=zZ hw2;rw[<- hw1]at WD;generalize (iT a.tag).1=wl at *;obtain ⟨nm,tg,zs⟩:=a;simp only at *;clear ba gg nr h hw1 hw2 HX
 go_enter Tryz.func64,Tryz.ntmps64
 go_upto_region 1 with fail
 generalize (w.alloc (.cells #[.string (zW nm),.int .u8 (tg:Int),.slice x zs.length c] 62)).alloc (.cells qI 103)=W0 at *
 go_upto_region 2 with (go_at_call 109;(with_reducible refine (WD.out _).mono ?_);rintro e w1 ⟨rfl,b1⟩;have B1:=zZ b1;clear b1 x1)
 have g1:=GGb.out.below B1.out;have NR1:=zZ (NR.out.below B1.out)
 have CO:Hid (∀ V,Below w1.heap.size w1 V->Calls Tryz.prog 93 #[.slice x zs.length c] V (kQ V zs.length zs)):=fun V hb=>mN x zs zs.length c V ((HA.out.below B1.out).below hb)
 have z0:w1.cell? ⟨w.heap.size,0,none⟩=some (.string (zW nm)):=g1.cell rfl;have z2:w1.cell? ⟨w.heap.size,2,none⟩=some (.slice x zs.length c):=g1.cell rfl;clear g1
 refine yK 7 (fun i u v=>match i with
  |0=>v=(qP w.heap.size)
  |1=>v=.string (zW nm)
  |2=>v=.string wd
  |3=>v=.pointer (some ⟨w.heap.size,2,none⟩)
  |4=>v=.slice x zs.length c
  |5=>oV w1 zs u v
  |6=>∃q,v=.agg #[.int .u8 1,.string (zW nm),.string wd,q,qE,.int .i64 0,.int .i64 0,qE,.int .i64 0,.int .i64 0,.int .i64 0]/\oV w1 zs u q
  |_=>True) (by kernel_rfl) (by kernel_rfl) (by kernel_rfl) (by kernel_rfl) ?_ ?_ ?_
 ·intro i w v w' h hb
  match i,h with
  |0,h=>exact h
  |1,h=>exact h
  |2,h=>exact h
  |3,h=>exact h
  |4,h=>exact h
  |5,h=>exact oV.later h hb
  |6,h=>obtain ⟨q,h1,h2⟩:=h;exact ⟨q,h1,h2.later hb⟩
  |_+7,_=>trivial
 ·intro i o ρ w' hi ho hb hc hf hfr zX
  have k0:=zR hb z0;have k2:=zR hb z2
  match i,hi with
  |0,_=>
   simp only[qS]at ho;subst ho;have ts: ρ (.tmp 1)=(qP w.heap.size):=(qR hfr 1);simp[go_sem,ts];exact qB
  |1,_=>
   simp only[qS]at ho;subst ho;have ts: ρ (.tmp 11)=(qP w.heap.size):=(qH zX 0 11);simp[go_sem,ts,k0];exact qB
  |2,_=>
   simp only[qS]at ho;subst ho;have ts: ρ (.tmp 3)=.string wd:=(qR hfr 3);simp[go_sem,ts];exact qB
  |3,_=>
   simp only[qS]at ho;subst ho;have ts: ρ (.tmp 1)=(qP w.heap.size):=(qR hfr 1);simp[go_sem,ts];exact qB
  |4,_=>
   simp only[qS]at ho;subst ho;have ts: ρ (.tmp 14)=.pointer (some ⟨w.heap.size,2,none⟩):=(qH zX 3 14);simp[go_sem,ts,k2];exact qB
  |5,_=>
   simp only[qS]at ho;subst ho;have ts: ρ (.tmp 15)=.slice x zs.length c:=(qH zX 4 15);simp[go_sem,ts,hf];exact ⟨rfl,(CO.out w' hb).mono fun e w'' hh=>dQ hh hb.size⟩
  |6,_=>
   simp only[qS]at ho;subst ho;obtain ⟨qa,qc,e5,h5⟩:oV w1 zs w' (ρ (.tmp 16)):=(qH zX 5 16);have t1: ρ (.tmp 12)=.string (zW nm):=(qH zX 1 12);have t2: ρ (.tmp 13)=.string wd:=(qH zX 2 13);simp[go_sem,e5,t1,t2,hc];exact ⟨Below.refl _ _,_,rfl,qa,qc,rfl,h5⟩
 intro V w9 q9 hS;have e0:V 0=(qP w.heap.size):=hS 0 (by decide);have e1:V 1=.string (zW nm):=hS 1 (by decide);have e2:V 2=.string wd:=hS 2 (by decide);have e3:V 3=.pointer (some ⟨w.heap.size,2,none⟩):=hS 3 (by decide);have e4:V 4=.slice x zs.length c:=hS 4 (by decide);obtain ⟨qa5,qc5,e5,-⟩:oV w1 zs w9 (V 5):=hS 5 (by decide);obtain ⟨_,e6,qa,qc,rfl,M6⟩:∃q,V 6=.agg #[.int .u8 1,.string (zW nm),.string wd,q,qE,.int .i64 0,.int .i64 0,qE,.int .i64 0,.int .i64 0,.int .i64 0]/\oV w1 zs w9 q:=hS 6 (by decide);simp only[List.drop_succ_cons,List.drop_zero,List.take_succ_cons,List.take_zero,xA,e0,e1,e2,e3,e4,e5,e6];clear hS e0 e1 e2 e3 e4 e5 e6 V;simp only[Act.put,qU];have NR9:=zZ (NR1.out.below q9);have M9:=zZ M6;have B9:=zZ ((BA.out.trans (B1.out.mono BA.out.size)).trans (q9.mono (BA.out.trans (B1.out.mono BA.out.size)).size));have SW:=zZ (Nat.le_trans BA.out.size B1.out.size);have SW2:Hid (w.heap.size+1<w1.heap.size):=NR1.out.lt;clear M6 q9
 go_wp2_with (refine xI _ rfl 103 (.tmp 2) (.tmp 17) rfl rfl (w.heap.size+1) 103 _ _ rfl rfl NR9.out sizI rfl rfl ?_;intro w8 hN hU;have N8:=zZ hN;have U8:=zZ hU;clear hN hU)
 obtain ⟨t0,t1,t2,t3,t4,t5,t6,t7,t8,t9,t10⟩:=qC11 N8.out;refine bodyPost_ret (v:=.agg #[.int .u8 1,.string (zW nm),.string wd,.slice qa zs.length qc,qE,.int .i64 0,.int .i64 0,qE,.int .i64 0,.int .i64 0,.int .i64 0]) (by simp[results,Tryz.results64,go_sem,t0,t1,t2,t3,t4,t5,t6,t7,t8,t9,t10]) rfl ?_
 have hw:=HW2.out;subst hw;refine ⟨qa,qc,rfl,?_,B9.out.trans (U8.out.below (Nat.le_succ _) B9.out.size)⟩
 have m:=M9.out.mono SW.out
 refine xM.keep (w:=w9) m fun y hy=>U8.out.block _ (m.lt y hy).2 (fun e=>?_)
 exact absurd (Nat.lt_of_lt_of_le SW2.out (M9.out.lt y hy).1) (by rw[e];exact Nat.lt_irrefl _)
theorem XC (g:GG) (a1 a2 a3 a4:Option Addr) (c1 c2 c3 c4:Nat) (ef efp et etp:Int) (zs:List Int) (x:Option Addr) (c:Nat) (w:World) (hA:IC w a1 g.A) (hn:g.A.length<=1000) (f0:0<=ef) (f1:ef<(g.A.length:Int)) (t0:0<=et) (t1:et<(g.A.length:Int)) (h:YF w x zs.length c zs):
 Calls Tryz.prog 65 #[.agg #[.string (zW g.name),.slice a1 g.A.length c1,.slice a2 g.E.length c2,.slice a3 g.ins.length c3,.slice a4 g.outs.length c4],.agg #[.int .i64 ef,.int .i64 efp,.int .i64 et,.int .i64 etp,.slice x zs.length c]] w (bL (sP g ⟨ef,efp,et,etp,zs⟩) w):=by
 have ba:=(((Below.refl w.heap.size w).alloc (Nat.le_refl _) (.cells #[.string (zW g.name),.slice a1 g.A.length c1,.slice a2 g.E.length c2,.slice a3 g.ins.length c3,.slice a4 g.outs.length c4] 26)).alloc (by simp) (.cells #[.int .i64 ef,.int .i64 efp,.int .i64 et,.int .i64 etp,.slice x zs.length c] 65)).alloc (by simp;omega) (.cells qI 103);have gg:=((zL 26 w #[.string (zW g.name),.slice a1 g.A.length c1,.slice a2 g.E.length c2,.slice a3 g.ins.length c3,.slice a4 g.outs.length c4]).below ((Below.refl _ _).alloc (Nat.le_refl _) (.cells #[.int .i64 ef,.int .i64 efp,.int .i64 et,.int .i64 etp,.slice x zs.length c] 65))).below ((Below.refl _ _).alloc (Nat.le_refl _) (.cells qI 103))
 have ge:zD 65 (w.heap.size+1) (((w.alloc (.cells #[.string (zW g.name),.slice a1 g.A.length c1,.slice a2 g.E.length c2,.slice a3 g.ins.length c3,.slice a4 g.outs.length c4] 26)).alloc (.cells #[.int .i64 ef,.int .i64 efp,.int .i64 et,.int .i64 etp,.slice x zs.length c] 65)).alloc (.cells qI 103)) #[.int .i64 ef,.int .i64 efp,.int .i64 et,.int .i64 etp,.slice x zs.length c]:=by
  have h3:=(zL 65 (w.alloc (.cells #[.string (zW g.name),.slice a1 g.A.length c1,.slice a2 g.E.length c2,.slice a3 g.ins.length c3,.slice a4 g.outs.length c4] 26)) #[.int .i64 ef,.int .i64 efp,.int .i64 et,.int .i64 etp,.slice x zs.length c]).below ((Below.refl _ _).alloc (Nat.le_refl _) (.cells qI 103));rw[World.size_alloc]at h3;exact h3
 have nr:zD 103 (w.heap.size+2) (((w.alloc (.cells #[.string (zW g.name),.slice a1 g.A.length c1,.slice a2 g.E.length c2,.slice a3 g.ins.length c3,.slice a4 g.outs.length c4] 26)).alloc (.cells #[.int .i64 ef,.int .i64 efp,.int .i64 et,.int .i64 etp,.slice x zs.length c] 65)).alloc (.cells qI 103)) qI:=by
  have h3:=zL 103 ((w.alloc (.cells #[.string (zW g.name),.slice a1 g.A.length c1,.slice a2 g.E.length c2,.slice a3 g.ins.length c3,.slice a4 g.outs.length c4] 26)).alloc (.cells #[.int .i64 ef,.int .i64 efp,.int .i64 et,.int .i64 etp,.slice x zs.length c] 65)) qI;rw[World.size_alloc,World.size_alloc]at h3;exact h3
 have BA:=zZ ba;have NR:=zZ nr;have HA:=zZ (h.below ba);have AA:=zZ (hA.below ba);have y0:=gg.cell (k:=0) rfl;have y1:=gg.cell (k:=1) rfl;have y2:=gg.cell (k:=2) rfl;have y3:=gg.cell (k:=3) rfl;have y4:=gg.cell (k:=4) rfl;have z0:=ge.cell (k:=0) rfl;have z1:=ge.cell (k:=1) rfl;have z2:=ge.cell (k:=2) rfl;have z3:=ge.cell (k:=3) rfl;have z4:=ge.cell (k:=4) rfl
 have Pef:Hid (∀ V,Below (((w.alloc (.cells #[.string (zW g.name),.slice a1 g.A.length c1,.slice a2 g.E.length c2,.slice a3 g.ins.length c3,.slice a4 g.outs.length c4] 26)).alloc (.cells #[.int .i64 ef,.int .i64 efp,.int .i64 et,.int .i64 etp,.slice x zs.length c] 65)).alloc (.cells qI 103)).heap.size (((w.alloc (.cells #[.string (zW g.name),.slice a1 g.A.length c1,.slice a2 g.E.length c2,.slice a3 g.ins.length c3,.slice a4 g.outs.length c4] 26)).alloc (.cells #[.int .i64 ef,.int .i64 efp,.int .i64 et,.int .i64 etp,.slice x zs.length c] 65)).alloc (.cells qI 103)) V->Calls Tryz.prog 66 #[.agg #[.string (zW g.name),.slice a1 g.A.length c1,.slice a2 g.E.length c2,.slice a3 g.ins.length c3,.slice a4 g.outs.length c4],.int .i64 ef,.int .i64 efp] V fun e w'=>e=.returned (.agg #[.string (zW (yI g.A ef.toNat).name),.int .i64 efp,.int .i64 0])/\Below V.heap.size V w'):=fun V hb=>rQ g a1 a2 a3 a4 c1 c2 c3 c4 ef efp V (AA.out.below hb) f0 f1 hn
 have Pet:Hid (∀ V,Below (((w.alloc (.cells #[.string (zW g.name),.slice a1 g.A.length c1,.slice a2 g.E.length c2,.slice a3 g.ins.length c3,.slice a4 g.outs.length c4] 26)).alloc (.cells #[.int .i64 ef,.int .i64 efp,.int .i64 et,.int .i64 etp,.slice x zs.length c] 65)).alloc (.cells qI 103)).heap.size (((w.alloc (.cells #[.string (zW g.name),.slice a1 g.A.length c1,.slice a2 g.E.length c2,.slice a3 g.ins.length c3,.slice a4 g.outs.length c4] 26)).alloc (.cells #[.int .i64 ef,.int .i64 efp,.int .i64 et,.int .i64 etp,.slice x zs.length c] 65)).alloc (.cells qI 103)) V->Calls Tryz.prog 66 #[.agg #[.string (zW g.name),.slice a1 g.A.length c1,.slice a2 g.E.length c2,.slice a3 g.ins.length c3,.slice a4 g.outs.length c4],.int .i64 et,.int .i64 etp] V fun e w'=>e=.returned (.agg #[.string (zW (yI g.A et.toNat).name),.int .i64 etp,.int .i64 0])/\Below V.heap.size V w'):=fun V hb=>rQ g a1 a2 a3 a4 c1 c2 c3 c4 et etp V (AA.out.below hb) t0 t1 hn
 have CO:Hid (∀ V,Below (((w.alloc (.cells #[.string (zW g.name),.slice a1 g.A.length c1,.slice a2 g.E.length c2,.slice a3 g.ins.length c3,.slice a4 g.outs.length c4] 26)).alloc (.cells #[.int .i64 ef,.int .i64 efp,.int .i64 et,.int .i64 etp,.slice x zs.length c] 65)).alloc (.cells qI 103)).heap.size (((w.alloc (.cells #[.string (zW g.name),.slice a1 g.A.length c1,.slice a2 g.E.length c2,.slice a3 g.ins.length c3,.slice a4 g.outs.length c4] 26)).alloc (.cells #[.int .i64 ef,.int .i64 efp,.int .i64 et,.int .i64 etp,.slice x zs.length c] 65)).alloc (.cells qI 103)) V->Calls Tryz.prog 93 #[.slice x zs.length c] V (kQ V zs.length zs)):=fun V hb=>mN x zs zs.length c V (HA.out.below hb)
 clear ba gg ge nr h hA t0 t1 f0 f1 hn AA HA
 go_enter Tryz.func65,Tryz.ntmps65
 go_upto_region 1 with fail
 generalize ((w.alloc (.cells #[.string (zW g.name),.slice a1 g.A.length c1,.slice a2 g.E.length c2,.slice a3 g.ins.length c3,.slice a4 g.outs.length c4] 26)).alloc (.cells #[.int .i64 ef,.int .i64 efp,.int .i64 et,.int .i64 etp,.slice x zs.length c] 65)).alloc (.cells qI 103)=W0 at *
 refine yK 16 (fun i u v=>match i with
  |0=>v=.agg #[.string (zW g.name),.slice a1 g.A.length c1,.slice a2 g.E.length c2,.slice a3 g.ins.length c3,.slice a4 g.outs.length c4]
  |1=>v=(qP (w.heap.size+1))
  |2=>v=.int .i64 ef
  |3=>v=.pointer (some ⟨w.heap.size+1,1,none⟩)
  |4=>v=.int .i64 efp
  |5=>v=.agg #[.string (zW (yI g.A ef.toNat).name),.int .i64 efp,.int .i64 0]
  |6=>v=.agg #[.string (zW g.name),.slice a1 g.A.length c1,.slice a2 g.E.length c2,.slice a3 g.ins.length c3,.slice a4 g.outs.length c4]
  |7=>v=.pointer (some ⟨w.heap.size+1,2,none⟩)
  |8=>v=.int .i64 et
  |9=>v=.pointer (some ⟨w.heap.size+1,3,none⟩)
  |10=>v=.int .i64 etp
  |11=>v=.agg #[.string (zW (yI g.A et.toNat).name),.int .i64 etp,.int .i64 0]
  |12=>v=.pointer (some ⟨w.heap.size+1,4,none⟩)
  |13=>v=.slice x zs.length c
  |14=>oV W0 zs u v
  |15=>∃q,v=.agg #[.int .u8 2,qE,qE,q,.string (zW (yI g.A ef.toNat).name),.int .i64 efp,.int .i64 0,.string (zW (yI g.A et.toNat).name),.int .i64 etp,.int .i64 0,.int .i64 0]/\oV W0 zs u q
  |_=>True) (by kernel_rfl) (by kernel_rfl) (by kernel_rfl) (by kernel_rfl) ?_ ?_ ?_
 ·intro i w v w' h hb
  match i,h with
  |0,h=>exact h
  |1,h=>exact h
  |2,h=>exact h
  |3,h=>exact h
  |4,h=>exact h
  |5,h=>exact h
  |6,h=>exact h
  |7,h=>exact h
  |8,h=>exact h
  |9,h=>exact h
  |10,h=>exact h
  |11,h=>exact h
  |12,h=>exact h
  |13,h=>exact h
  |14,h=>exact oV.later h hb
  |15,h=>obtain ⟨q,h1,h2⟩:=h;exact ⟨q,h1,h2.later hb⟩
  |_+16,_=>trivial
 ·intro i o ρ w' hi ho hb hc hf hfr zX
  have k0:=zR hb y0;have k1:=zR hb y1;have k2:=zR hb y2;have k3:=zR hb y3;have k4:=zR hb y4;have m0:=zR hb z0;have m1:=zR hb z1;have m2:=zR hb z2;have m3:=zR hb z3;have m4:=zR hb z4
  match i,hi with
  |0,_=>
   simp only[qS]at ho;subst ho;have ts: ρ (.tmp 2)=(qP w.heap.size):=(qR hfr 2);simp[go_sem,ts,k0,k1,k2,k3,k4];exact qB
  |1,_=>
   simp only[qS]at ho;subst ho;have ts: ρ (.tmp 3)=(qP (w.heap.size+1)):=(qR hfr 3);simp[go_sem,ts];exact qB
  |2,_=>
   simp only[qS]at ho;subst ho;have ts: ρ (.tmp 6)=(qP (w.heap.size+1)):=(qH zX 1 6);simp[go_sem,ts,m0];exact qB
  |3,_=>
   simp only[qS]at ho;subst ho;have ts: ρ (.tmp 3)=(qP (w.heap.size+1)):=(qR hfr 3);simp[go_sem,ts];exact qB
  |4,_=>
   simp only[qS]at ho;subst ho;have ts: ρ (.tmp 8)=.pointer (some ⟨w.heap.size+1,1,none⟩):=(qH zX 3 8);simp[go_sem,ts,m1];exact qB
  |5,_=>
   simp only[qS]at ho;subst ho;have t0: ρ (.tmp 5)=.agg #[.string (zW g.name),.slice a1 g.A.length c1,.slice a2 g.E.length c2,.slice a3 g.ins.length c3,.slice a4 g.outs.length c4]:=(qH zX 0 5);have t1: ρ (.tmp 7)=.int .i64 ef:=(qH zX 2 7);have t2: ρ (.tmp 9)=.int .i64 efp:=(qH zX 4 9);simp[go_sem,t0,t1,t2,hf];exact ⟨rfl,(Pef.out w' hb).mono fun e w'' hh=>⟨_,hh.1,hh.2,rfl⟩⟩
  |6,_=>
   simp only[qS]at ho;subst ho;have ts: ρ (.tmp 2)=(qP w.heap.size):=(qR hfr 2);simp[go_sem,ts,k0,k1,k2,k3,k4];exact qB
  |7,_=>
   simp only[qS]at ho;subst ho;have ts: ρ (.tmp 3)=(qP (w.heap.size+1)):=(qR hfr 3);simp[go_sem,ts];exact qB
  |8,_=>
   simp only[qS]at ho;subst ho;have ts: ρ (.tmp 12)=.pointer (some ⟨w.heap.size+1,2,none⟩):=(qH zX 7 12);simp[go_sem,ts,m2];exact qB
  |9,_=>
   simp only[qS]at ho;subst ho;have ts: ρ (.tmp 3)=(qP (w.heap.size+1)):=(qR hfr 3);simp[go_sem,ts];exact qB
  |10,_=>
   simp only[qS]at ho;subst ho;have ts: ρ (.tmp 14)=.pointer (some ⟨w.heap.size+1,3,none⟩):=(qH zX 9 14);simp[go_sem,ts,m3];exact qB
  |11,_=>
   simp only[qS]at ho;subst ho;have t0: ρ (.tmp 11)=.agg #[.string (zW g.name),.slice a1 g.A.length c1,.slice a2 g.E.length c2,.slice a3 g.ins.length c3,.slice a4 g.outs.length c4]:=(qH zX 6 11);have t1: ρ (.tmp 13)=.int .i64 et:=(qH zX 8 13);have t2: ρ (.tmp 15)=.int .i64 etp:=(qH zX 10 15);simp[go_sem,t0,t1,t2,hf];exact ⟨rfl,(Pet.out w' hb).mono fun e w'' hh=>⟨_,hh.1,hh.2,rfl⟩⟩
  |12,_=>
   simp only[qS]at ho;subst ho;have ts: ρ (.tmp 3)=(qP (w.heap.size+1)):=(qR hfr 3);simp[go_sem,ts];exact qB
  |13,_=>
   simp only[qS]at ho;subst ho;have ts: ρ (.tmp 17)=.pointer (some ⟨w.heap.size+1,4,none⟩):=(qH zX 12 17);simp[go_sem,ts,m4];exact qB
  |14,_=>
   simp only[qS]at ho;subst ho;have ts: ρ (.tmp 18)=.slice x zs.length c:=(qH zX 13 18);simp[go_sem,ts,hf];exact ⟨rfl,(CO.out w' hb).mono fun e w'' hh=>dQ hh hb.size⟩
  |15,_=>
   simp only[qS]at ho;subst ho;obtain ⟨qa,qc,e5,h5⟩:oV W0 zs w' (ρ (.tmp 19)):=(qH zX 14 19);have t1: ρ (.tmp 10)=.agg #[.string (zW (yI g.A ef.toNat).name),.int .i64 efp,.int .i64 0]:=(qH zX 5 10);have t2: ρ (.tmp 16)=.agg #[.string (zW (yI g.A et.toNat).name),.int .i64 etp,.int .i64 0]:=(qH zX 11 16);simp[go_sem,e5,t1,t2,hc];exact ⟨Below.refl _ _,_,rfl,qa,qc,rfl,h5⟩
  |k+16,h=>exact absurd h (by omega)
 intro V w9 q9 hS;have e0:V 0=.agg #[.string (zW g.name),.slice a1 g.A.length c1,.slice a2 g.E.length c2,.slice a3 g.ins.length c3,.slice a4 g.outs.length c4]:=hS 0 (by decide);have e1:V 1=(qP (w.heap.size+1)):=hS 1 (by decide);have e2:V 2=.int .i64 ef:=hS 2 (by decide);have e3:V 3=.pointer (some ⟨w.heap.size+1,1,none⟩):=hS 3 (by decide);have e4:V 4=.int .i64 efp:=hS 4 (by decide);have e5:V 5=.agg #[.string (zW (yI g.A ef.toNat).name),.int .i64 efp,.int .i64 0]:=hS 5 (by decide);have e6:V 6=.agg #[.string (zW g.name),.slice a1 g.A.length c1,.slice a2 g.E.length c2,.slice a3 g.ins.length c3,.slice a4 g.outs.length c4]:=hS 6 (by decide);have e7:V 7=.pointer (some ⟨w.heap.size+1,2,none⟩):=hS 7 (by decide);have e8:V 8=.int .i64 et:=hS 8 (by decide);have e9:V 9=.pointer (some ⟨w.heap.size+1,3,none⟩):=hS 9 (by decide);have e10:V 10=.int .i64 etp:=hS 10 (by decide);have e11:V 11=.agg #[.string (zW (yI g.A et.toNat).name),.int .i64 etp,.int .i64 0]:=hS 11 (by decide);have e12:V 12=.pointer (some ⟨w.heap.size+1,4,none⟩):=hS 12 (by decide);have e13:V 13=.slice x zs.length c:=hS 13 (by decide);obtain ⟨qa5,qc5,e14,-⟩:oV W0 zs w9 (V 14):=hS 14 (by decide);obtain ⟨_,e15,qa,qc,rfl,M6⟩:∃q,V 15=.agg #[.int .u8 2,qE,qE,q,.string (zW (yI g.A ef.toNat).name),.int .i64 efp,.int .i64 0,.string (zW (yI g.A et.toNat).name),.int .i64 etp,.int .i64 0,.int .i64 0]/\oV W0 zs w9 q:=hS 15 (by decide);simp only[List.drop_succ_cons,List.drop_zero,List.take_succ_cons,List.take_zero,xA,e0,e1,e2,e3,e4,e5,e6,e7,e8,e9,e10,e11,e12,e13,e14,e15];clear hS e0 e1 e2 e3 e4 e5 e6 e7 e8 e9 e10 e11 e12 e13 e14 e15 V;simp only[Act.put,qU];have NR9:=zZ (NR.out.below q9);have M9:=zZ M6;have B9:=zZ (BA.out.trans (q9.mono BA.out.size));have SW2:Hid (w.heap.size+2<W0.heap.size):=NR.out.lt;clear M6 q9
 go_wp2_with (refine xI _ rfl 103 (.tmp 4) (.tmp 20) rfl rfl (w.heap.size+2) 103 _ _ rfl rfl NR9.out sizI rfl rfl ?_;intro w8 hN hU;have N8:=zZ hN;have U8:=zZ hU;clear hN hU)
 obtain ⟨r0,r1,r2,r3,r4,r5,r6,r7,r8,r9,r10⟩:=qC11 N8.out;refine bodyPost_ret (v:=.agg #[.int .u8 2,qE,qE,.slice qa zs.length qc,.string (zW (yI g.A ef.toNat).name),.int .i64 efp,.int .i64 0,.string (zW (yI g.A et.toNat).name),.int .i64 etp,.int .i64 0,.int .i64 0]) (by simp[results,Tryz.results65,go_sem,r0,r1,r2,r3,r4,r5,r6,r7,r8,r9,r10]) rfl ?_
 refine ⟨qa,qc,rfl,?_,B9.out.trans (U8.out.below (Nat.le_trans (Nat.le_succ _) (Nat.le_succ _)) B9.out.size)⟩
 have m:=M9.out.mono (Nat.le_trans (Nat.le_trans (Nat.le_succ _) (Nat.le_succ _)) (Nat.le_of_lt SW2.out))
 refine xM.keep (w:=w9) m fun y hy=>U8.out.block _ (m.lt y hy).2 (fun e=>?_)
 exact absurd (Nat.lt_of_lt_of_le SW2.out (M9.out.lt y hy).1) (by rw[e];exact Nat.lt_irrefl _)
theorem Tryz.infoIT:(Tryz.prog.info? 103).map (fun i=>(i.zero,i.size,i.bytes))=some (some (.agg qI),11,136):=by kernel_rfl
theorem dP (x:wJ) (a:Option Addr) (n c:Nat):∀u ∈ lW (x,.slice a n c),u.oneCell'=true:=by
 intro u hu;simp only[lW,JI,List.mem_cons,List.not_mem_nil,or_false]at hu
 rcases hu with rfl|rfl|rfl|rfl|rfl|rfl|rfl|rfl|rfl|rfl|rfl<;>rfl
def YP (V:World) (x:wJ) (u:World) (v:Value):Prop:=∃a c,v=.agg (JI x.kind x.name x.tag (.slice a x.nums.length c) x.frm x.tgt x.place)/\xM V.heap.size u a c x.nums
def TJ (V:World) (x:wJ) (u:World) (v:Value):Prop:=∃h a c,v=.slice (some ⟨h,0,none⟩) 1 1/\(∀ k y,(lW (x,.slice a x.nums.length c))[k]? =some y->u.cell? ⟨h,k,none⟩=some y)/\xM V.heap.size u a c x.nums
theorem YP.later {V u u':World} {x:wJ} {v:Value} (h:YP V x u v) (hb:Below u.heap.size u u'):YP V x u' v:=by
 obtain ⟨a,c,h1,h2⟩:=h;exact ⟨a,c,h1,h2.later hb⟩
theorem TJ.later {V u u':World} {x:wJ} {v:Value} (h:TJ V x u v) (hb:Below u.heap.size u u'):TJ V x u' v:=by
 obtain ⟨g,a,c,h1,h2,h3⟩:=h;exact ⟨g,a,c,h1,fun k y hy=>zR hb (h2 k y hy),h3.later hb⟩
theorem JH {V w w':World} {x:wJ} {e:Ending} (h:bL x w e w') (hV:V.heap.size<=w.heap.size):∃v,e=.returned v/\Below w.heap.size w w'/\YP V x w' v:=by
 obtain ⟨a,c,h1,h2,h3⟩:=h;exact ⟨_,h1,h3,a,c,rfl,h2.mono hV⟩
theorem dO {V u:World} {x:wJ} {a:Option Addr} {c:Nat} (h:xM V.heap.size u a c x.nums) (T:TypeId):TJ V x (u.alloc (.cells (JI x.kind x.name x.tag (.slice a x.nums.length c) x.frm x.tgt x.place) T)) (.slice (some ⟨u.heap.size,0,none⟩) 1 1):=
 ⟨u.heap.size,a,c,rfl,fun k y hy=>(zL T u _).cell (by rw[<- Array.getElem?_toList];exact hy),h.later ((Below.refl _ _).alloc (Nat.le_refl _) _)⟩
structure JG (w : World) (K : Nat) (g : GG) (a1 a2 a3 a4 : Option Addr) (c1 c2 c3 c4 : Nat) (v : Value) (M : List (wJ × Value)) (wr : World) : Prop where
 gb:zD 26 w.heap.size wr #[.string (zW g.name),.slice a1 g.A.length c1,.slice a2 g.E.length c2,.slice a3 g.ins.length c3,.slice a4 g.outs.length c4]
 rb:zD 52 (w.heap.size+1) wr #[qE,qN]
 sb:zD 52 K wr #[.string (zW g.name),v]
 its:iY (K+1) wr v M
 bel:Below w.heap.size w wr
 hk:w.heap.size+1<K
 big:K+1<=wr.heap.size
theorem JG.below {w K g a1 a2 a3 a4 c1 c2 c3 c4 v M} {wr w2:World} (h:JG w K g a1 a2 a3 a4 c1 c2 c3 c4 v M wr) (hb:Below wr.heap.size wr w2):JG w K g a1 a2 a3 a4 c1 c2 c3 c4 v M w2:=
 ⟨h.gb.below hb,h.rb.below hb,h.sb.below hb,h.its.below hb,h.bel.trans (hb.mono h.bel.size),h.hk,Nat.le_trans h.big hb.size⟩
theorem JG.put {w K g a1 a2 a3 a4 c1 c2 c3 c4 v M} {V:World} (h:JG w K g a1 a2 a3 a4 c1 c2 c3 c4 v M V) {w2 w4:World} {x:wJ} {q v':Value} (hb:Below V.heap.size V w2) (hq:wU V.heap.size w2 q x.nums)
 (ho:w4.ownsRow (K+1) 103 11 v' (M.length+1) (M.flatMap lW++lW (x,q)))
 (ht:(∃ g cap,v=.slice (some ⟨g,0,none⟩) M.length cap/\v'=.slice (some ⟨g,0,none⟩) (M.length+1) cap/\w2.grownBy w4 (some g))\/(∃ cap,v'=.slice (some ⟨w2.heap.size,0,none⟩) (M.length+1) cap/\w2.grownBy w4 none)):
 JG w K g a1 a2 a3 a4 c1 c2 c3 c4 v' (M++[(x,q)]) (w4.setCell ⟨K,1,none⟩ v')/\zD 52 K w4 #[.string (zW g.name),v]:=by
 have hbig:=h.big;have hkk:=h.hk;have hsz:=hb.size;have i1:=h.its.below hb
 have i2:=i1.app hq (fun k hk=>by
  rcases hk with hk|⟨p,hp,hk⟩
  ·have:=zI h.its.row k hk;omega
  have:=zI (h.its.nums p hp) k hk;omega) (by omega) ho ht
 have hg:∃row,w2.grownBy w4 row/\∀k,row=some k->K+1<=k:=by
  rcases ht with ⟨g,cap,e,-,hg⟩|⟨cap,-,hg⟩
  ·refine ⟨_,hg,fun k hk=>?_⟩
   cases hk
   exact zQ h.its.row g (by rw[e];rfl)
  exact ⟨_,hg,fun k hk=>by cases hk⟩
 obtain ⟨row,hg,hrow⟩:=hg
 have kp:∀d,d<K+1->w4.heap[d]? =V.heap[d]? :=fun d hd=>(hg.block d (by omega) (fun e=>by have:=hrow d e.symm;omega)).trans (hb.block d (by omega))
 have b3:=h.sb.keep (kp K (by omega))
 have set:∀k,k≠K->(w4.setCell ⟨K,1,none⟩ v').heap[k]? =w4.heap[k]? :=fun k hk=>Below.heap_setCell w4 ⟨K,1,none⟩ v' k hk
 refine ⟨⟨h.gb.keep ((set _ (by omega)).trans (kp _ (by omega))),h.rb.keep ((set _ (by omega)).trans (kp _ (by omega))),b3.set 1 v',i2.put (by omega),?_,h.hk,?_⟩,b3⟩
 ·have h1:Below w.heap.size w w2:=h.bel.trans (hb.mono h.bel.size)
  exact (yT h1 hg (fun k hk=>by have:=hrow k hk;omega) h1.size).setCell (p:=⟨K,1,none⟩) (by show w.heap.size<=K;omega) _
 have:=hg.size;rw[World.size_setCell];omega
theorem tZ {v v':Value} {n:Nat} {w2 w4:World} (ht:(∃ g cap,v=.slice (some ⟨g,0,none⟩) n cap/\v'=.slice (some ⟨g,0,none⟩) (n+1) cap/\w2.grownBy w4 (some g))\/(∃ cap,v'=.slice (some ⟨w2.heap.size,0,none⟩) (n+1) cap/\w2.grownBy w4 none)):∃a c,v'=.slice a (n+1) c:=by
 rcases ht with ⟨g,cap,-,e,-⟩|⟨cap,e,-⟩<;>exact ⟨_,_,e⟩
def pS (g:GG) (w:World) (e:Ending) (w':World):Prop:=
 if (yD g).code=0 then ∃a c M,e=.returned (.tuple #[.agg #[.string (zW g.name),.slice a M.length c],.int .i64 0])/\M.map Prod.fst=eJ g/\iY w.heap.size w' (.slice a M.length c) M/\Below w.heap.size w w'
 else e=.returned (.tuple #[.agg #[qE,qN],.int .i64 (yD g).code])/\Below w.heap.size w w'
theorem DX {w w' v L} {I K:Nat} (h:iY (K+1) w v L) (hU:tD I w w') (hI:I<K):iY (K+1) w' v L:=by
 have kp:∀k,K+1<=k->k<w.heap.size->w'.heap[k]? =w.heap[k]? :=fun k h1 h2=>hU.block k h2 (by omega)
 exact ⟨zT h.row fun k e=>kp k (zQ h.row k e) (zI h.row k e),fun p hp=>zT (h.nums p hp) fun k e=>kp k (zQ (h.nums p hp) k e) (zI (h.nums p hp) k e),h.off,h.pair⟩
theorem JF (g:GG) (a1 a2 a3 a4:Option Addr) (c1 c2 c3 c4:Nat) (w:World) (h:UH w a1 a2 a3 a4 g):
 Calls Tryz.prog 38 #[.agg #[.string (zW g.name),.slice a1 g.A.length c1,.slice a2 g.E.length c2,.slice a3 g.ins.length c3,.slice a4 g.outs.length c4]] w (pS g w):=by
 have ba:=((Below.refl w.heap.size w).alloc (Nat.le_refl _) (.cells #[.string (zW g.name),.slice a1 g.A.length c1,.slice a2 g.E.length c2,.slice a3 g.ins.length c3,.slice a4 g.outs.length c4] 26)).alloc (by simp) (.cells #[qE,qN] 52);have gg:=(zL 26 w #[.string (zW g.name),.slice a1 g.A.length c1,.slice a2 g.E.length c2,.slice a3 g.ins.length c3,.slice a4 g.outs.length c4]).below ((Below.refl _ _).alloc (Nat.le_refl _) (.cells #[qE,qN] 52))
 have nr:zD 52 (w.heap.size+1) ((w.alloc (.cells #[.string (zW g.name),.slice a1 g.A.length c1,.slice a2 g.E.length c2,.slice a3 g.ins.length c3,.slice a4 g.outs.length c4] 26)).alloc (.cells #[qE,qN] 52)) #[qE,qN]:=by
  have h3:=zL 52 (w.alloc (.cells #[.string (zW g.name),.slice a1 g.A.length c1,.slice a2 g.E.length c2,.slice a3 g.ins.length c3,.slice a4 g.outs.length c4] 26)) #[qE,qN];rw[World.size_alloc]at h3;exact h3
 have BA:=zZ ba;have GB:=zZ gg;have NR:=zZ nr;have HG:=zZ h;have CK:=zZ (MI g a1 a2 a3 a4 c1 c2 c3 c4 _ (h.below ba));have y0:=gg.cell (k:=0) rfl;have y1:=gg.cell (k:=1) rfl;have y2:=gg.cell (k:=2) rfl;have y3:=gg.cell (k:=3) rfl;have y4:=gg.cell (k:=4) rfl;have HE:Hid (pS g w=pS g w):=zZ rfl
 by_cases h0:(yD g).code=0
 ·have HS:=zZ ((nL g).1 h0)
  have HO:=mO HS.out.head
  have H1:Hid (∀ e w',(∃ a c M,e=.returned (.tuple #[.agg #[.string (zW g.name),.slice a M.length c],.int .i64 0])/\M.map Prod.fst=eJ g/\iY w.heap.size w' (.slice a M.length c) M/\Below w.heap.size w w')->pS g w e w'):=fun e w' q=>by
   unfold pS;rw[if_pos h0];exact q
  rw[h0]at CK;obtain ⟨i0,hi,hz0,hz1,hz2⟩:=info_parts Tryz.infoIT;have HJ:=zZ hi;have HJ0:=zZ hz0;have HJ1:=zZ hz1;have HJ2:=zZ hz2;clear ba gg nr h h0 HE hi hz0 hz1 hz2
  have n1:(g.A.length:Int)<=32:=by omega
  have n2:(g.E.length:Int)<=96:=by omega
  have n3:(g.ins.length:Int)<=16:=by omega
  have n4:(g.outs.length:Int)<=16:=by omega
  have HLM:Hid (g.A.length<=32/\g.E.length<=96/\g.ins.length<=16/\g.outs.length<=16):=⟨HO.2.2.1,HO.2.2.2.1,HO.2.2.2.2.1,HO.2.2.2.2.2⟩;clear HO
  go_enter Tryz.func38,Tryz.ntmps38
  go_upto_region 1 with fail
  generalize (w.alloc (.cells #[.string (zW g.name),.slice a1 g.A.length c1,.slice a2 g.E.length c2,.slice a3 g.ins.length c3,.slice a4 g.outs.length c4] 26)).alloc (.cells #[qE,qN] 52)=W0 at *
  go_upto_region 4 with (go_at_call 21;(with_reducible refine CK.out.mono ?_);rintro e w1 ⟨rfl,b1⟩;have B1:=zZ b1;clear b1 y0 y1 y2 y3 y4)
  have G1:=zZ (GB.out.below B1.out);have y0:w1.cell? ⟨w.heap.size,0,none⟩=some (.string (zW g.name)):=G1.out.cell rfl
  go_upto_region 5 with fail
  have D0:Hid (JG w w1.heap.size g a1 a2 a3 a4 c1 c2 c3 c4 (qN) [] (w1.alloc (.cells #[.string (zW g.name),qN] 52))):=by
   have bw:=(Below.refl w1.heap.size w1).alloc (Nat.le_refl _) (.cells #[.string (zW g.name),qN] 52);have b2:=BA.out.trans (B1.out.mono BA.out.size);have rb:=NR.out.below B1.out;exact ⟨G1.out.below bw,rb.below bw,zL 52 w1 _,PK _ _,b2.trans (bw.mono b2.size),rb.lt,by rw[World.size_alloc];exact Nat.le_refl _⟩
  generalize w1.alloc (.cells #[.string (zW g.name),qN] 52)=W1 at *;generalize w1.heap.size=K at *;clear y0 G1 B1 NR GB BA CK;have y1:W1.cell? ⟨w.heap.size,1,none⟩=some (.slice a1 g.A.length c1):=D0.out.gb.cell rfl
  go_wp2
  go_loopg [26] g.A.length (fun gk v wr=>∃(k:Nat) (va:Option Addr) (vc:Nat) (M:List (wJ × Value)),k<=g.A.length/\gk=g.A.length-k/\v=.int .i64 (k:Int)/\M.map Prod.fst=[]++(g.A.take k).map uA/\JG w K g a1 a2 a3 a4 c1 c2 c3 c4 (.slice va M.length vc) M wr)
  case atStart=>exact ⟨0,none,0,[],Nat.zero_le _,rfl,rfl,rfl,D0.out⟩
  case round=>
   obtain ⟨k,va,vc,M,hk,rfl,rfl,hM,hD⟩:=hrel;have DD:=zZ hD;have MM:=zZ hM;clear hM hD
   have LM:M.length<=160:=by
    have q:=congrArg List.length MM.out;have:=HLM.out;simp only[List.length_map,List.length_append,List.length_take,List.length_nil]at q;omega
   by_cases hlt:k<g.A.length
   ·have hki:(k:Int)<(g.A.length:Int):=by omega
    rcases (HG.out.below (DD.out.bel.mono (Nat.le_refl _))).A with e|⟨b,off,rfl,hc⟩
    ·rw [e]at hlt;exact absurd hlt (Nat.not_lt_zero _)
    obtain ⟨k0,k1,k2,x,c,k3,k4⟩:=hc k hlt;have HAR:=zZ k4;have HTG:=zZ k2;have TK:=zZ (JN hlt);generalize yI g.A k=E at *;obtain ⟨nm,tg,ps⟩:=E;simp only at k0 k1 k3 HAR HTG;clear hc k2 k4
    go_upto_region 8 with fail
    have bv:=(Below.refl wr.heap.size wr).alloc (Nat.le_refl _) (.cells #[.string (zW nm),.int .u8 (tg:Int),.slice x ps.length c] 62);have DV:=zZ (DD.out.below bv);have bx:=zL 62 wr #[.string (zW nm),.int .u8 (tg:Int),.slice x ps.length c];have bb0:=bx.cell (k:=0) rfl;have bb1:=bx.cell (k:=1) rfl;have bb2:=bx.cell (k:=2) rfl;have kk:(wr.alloc (.cells #[.string (zW nm),.int .u8 (tg:Int),.slice x ps.length c] 62)).cell? ⟨K,1,none⟩=some (.slice va M.length vc):=DV.out.sb.cell rfl;have gx0:(wr.alloc (.cells #[.string (zW nm),.int .u8 (tg:Int),.slice x ps.length c] 62)).cell? ⟨w.heap.size,0,none⟩=some (.string (zW g.name)):=DV.out.gb.cell rfl;have gx1:(wr.alloc (.cells #[.string (zW nm),.int .u8 (tg:Int),.slice x ps.length c] 62)).cell? ⟨w.heap.size,1,none⟩=some (.slice (some ⟨b,off,none⟩) g.A.length c1):=DV.out.gb.cell rfl;have gx2:(wr.alloc (.cells #[.string (zW nm),.int .u8 (tg:Int),.slice x ps.length c] 62)).cell? ⟨w.heap.size,2,none⟩=some (.slice a2 g.E.length c2):=DV.out.gb.cell rfl;have gx3:(wr.alloc (.cells #[.string (zW nm),.int .u8 (tg:Int),.slice x ps.length c] 62)).cell? ⟨w.heap.size,3,none⟩=some (.slice a3 g.ins.length c3):=DV.out.gb.cell rfl;have gx4:(wr.alloc (.cells #[.string (zW nm),.int .u8 (tg:Int),.slice x ps.length c] 62)).cell? ⟨w.heap.size,4,none⟩=some (.slice a4 g.outs.length c4):=DV.out.gb.cell rfl
    have CA:Hid (∀ U,Below (wr.alloc (.cells #[.string (zW nm),.int .u8 (tg:Int),.slice x ps.length c] 62)).heap.size (wr.alloc (.cells #[.string (zW nm),.int .u8 (tg:Int),.slice x ps.length c] 62)) U->Calls Tryz.prog 64 #[.agg #[.string (zW nm),.int .u8 (tg:Int),.slice x ps.length c]] U (bL (uA ⟨nm,tg,ps⟩) U)):=fun U hb=>aI ⟨nm,tg,ps⟩ x c U HTG.out ((HAR.out.below bv).below hb)
    clear bx k0 k1 k3;have BV:=zZ bv;clear bv;generalize wr.alloc (.cells #[.string (zW nm),.int .u8 (tg:Int),.slice x ps.length c] 62)=V at *
    refine yK 5 (fun i u v=>match i with
     |0=>v=.pointer (some ⟨K,1,none⟩)
     |1=>v=.slice va M.length vc
     |2=>v=.agg #[.string (zW nm),.int .u8 (tg:Int),.slice x ps.length c]
     |3=>YP V (uA ⟨nm,tg,ps⟩) u v
     |4=>TJ V (uA ⟨nm,tg,ps⟩) u v
     |_=>True) (by kernel_rfl) (by kernel_rfl) (by kernel_rfl) (by kernel_rfl) ?_ ?_ ?_
    ·intro i w v w' h hb
     match i,h with
     |0,h=>exact h
     |1,h=>exact h
     |2,h=>exact h
     |3,h=>exact YP.later h hb
     |4,h=>exact TJ.later h hb
     |_+5,_=>trivial
    ·intro i o ρ w' hi ho hb hc hf hfr zX
     have kS:=zR hb kk;have b0:=zR hb bb0;have b1:=zR hb bb1;have b2:=zR hb bb2;have g0:=zR hb gx0;have g1:=zR hb gx1;have g2:=zR hb gx2;have g3:=zR hb gx3;have g4:=zR hb gx4
     match i,hi with
     |0,_=>
      simp only[qS]at ho;subst ho;have ts: ρ (.tmp 5)=(qP K):=(qR hfr 5);simp[go_sem,ts];exact qB
     |1,_=>
      simp only[qS]at ho;subst ho;have ts: ρ (.tmp 30)=.pointer (some ⟨K,1,none⟩):=(qH zX 0 30);simp[go_sem,ts,kS];exact qB
     |2,_=>
      simp only[qS]at ho;subst ho;have ts: ρ (.tmp 7)=(qP wr.heap.size):=(qR hfr 7);simp[go_sem,ts,b0,b1,b2];exact qB
     |3,_=>
      simp only[qS]at ho;subst ho;have t0: ρ (.tmp 32)=.agg #[.string (zW nm),.int .u8 (tg:Int),.slice x ps.length c]:=(qH zX 2 32);simp[go_sem,t0,hf];exact ⟨rfl,(CA.out w' hb).mono fun e w'' hh=>JH hh hb.size⟩
     |4,_=>
      simp only[qS]at ho;subst ho;obtain ⟨qa,qc,e3,h3⟩:YP V (uA ⟨nm,tg,ps⟩) w' (ρ (.tmp 33)):=(qH zX 3 33);simp[go_sem,e3,JI];exact ⟨(Below.refl _ _).alloc (Nat.le_refl _) _,dO h3 _⟩
    intro V9 w9 q9 hS;have e0:V9 0=.pointer (some ⟨K,1,none⟩):=hS 0 (by decide);have e1:V9 1=.slice va M.length vc:=hS 1 (by decide);have e2:V9 2=.agg #[.string (zW nm),.int .u8 (tg:Int),.slice x ps.length c]:=hS 2 (by decide);obtain ⟨qa3,qc3,e3,-⟩:YP V (uA ⟨nm,tg,ps⟩) w9 (V9 3):=hS 3 (by decide);obtain ⟨hx,qa,qc,e4,Q1,Q2⟩:TJ V (uA ⟨nm,tg,ps⟩) w9 (V9 4):=hS 4 (by decide);simp only[List.drop_succ_cons,List.drop_zero,List.take_succ_cons,List.take_zero,xA,e0,e1,e2,e3,e4];clear hS e0 e1 e2 e3 e4 V9;simp only[Act.put,qU];have D9:=zZ DV.out;have B9:=zZ q9;have C9:=zZ Q1;have N9:=zZ Q2;clear Q1 Q2 q9 DV CA bb0 bb1 bb2 gx0 gx1 gx2 gx3 gx4 kk
    go_wp2_with (at_builtin;refine xL _ rfl (.tmp 31) (.tmp 34) 50 rfl (K+1) 103 i0 (.agg qI) 11 136 Tryz.underlying50 HJ.out HJ0.out HJ1.out HJ2.out rfl (by decide) (.slice va M.length vc) M.length (M.flatMap lW) rfl (yY D9.out.its.row B9.out) ⟨hx,0,none⟩ 1 1 (by decide) (lW ((uA ⟨nm,tg,ps⟩),.slice qa (uA ⟨nm,tg,ps⟩).nums.length qc)) rfl rfl (fun j u hu=>by rw[sQ];exact C9.out j u hu) (dP _ _ _ _) (by unfold maxLen;omega) (by omega) (Nat.le_trans D9.out.big B9.out.size) ?_;intro v' w4 ho ht;obtain ⟨D10,bk⟩:=D9.out.put B9.out (x:=(uA ⟨nm,tg,ps⟩)) (q:=.slice qa (uA ⟨nm,tg,ps⟩).nums.length qc) N9.out ho ht;obtain ⟨va4,vc4,rfl⟩:=tZ ht;have E10:=zZ D10;have s1:w4.cell? ⟨K,1,none⟩=some (.slice va M.length vc):=bk.cell rfl;have f1:=bk.frozen 1;clear ho ht D10 bk)
    go_roundg (g.A.length-(k+1))
    case measure=>omega
    case rel=>exact ⟨k+1,va4,vc4,M++[((uA ⟨nm,tg,ps⟩),.slice qa (uA ⟨nm,tg,ps⟩).nums.length qc)],by omega,rfl,by go_num,by rw[List.map_append,MM.out,TK.out,List.map_append,List.append_assoc];rfl,by rw[List.length_append];exact E10.out⟩
   have ek:k=g.A.length:=by omega
   have MM0:Hid (M.map Prod.fst=[]++g.A.map uA):=by
    have e:=MM.out;rw[ek,List.take_length]at e;exact e
   have hki:¬(k:Int)<(g.A.length:Int):=by omega
   clear MM ek;have y2:wr.cell? ⟨w.heap.size,2,none⟩=some (.slice a2 g.E.length c2):=DD.out.gb.cell rfl
   go_wp2
   go_loopg [41] g.E.length (fun gk v wr=>∃(k:Nat) (va:Option Addr) (vc:Nat) (M:List (wJ × Value)),k<=g.E.length/\gk=g.E.length-k/\v=.int .i64 (k:Int)/\M.map Prod.fst=g.A.map uA++(g.E.take k).map (sP g)/\JG w K g a1 a2 a3 a4 c1 c2 c3 c4 (.slice va M.length vc) M wr)
   case atStart=>exact ⟨0,va,vc,M,Nat.zero_le _,rfl,rfl,by rw[List.take_zero,List.map_nil,List.append_nil];exact MM0.out,DD.out⟩
   case round=>
    obtain ⟨k,va,vc,M,hk,rfl,rfl,hM,hD⟩:=hrel;have DD:=zZ hD;have MM:=zZ hM;clear hM hD
    have LM:M.length<=160:=by
     have q:=congrArg List.length MM.out;have:=HLM.out;simp only[List.length_map,List.length_append,List.length_take]at q;omega
    by_cases hlt:k<g.E.length
    ·have hki:(k:Int)<(g.E.length:Int):=by omega
     rcases (HG.out.below (DD.out.bel.mono (Nat.le_refl _))).E with e|⟨b,off,rfl,hc⟩
     ·rw [e]at hlt;exact absurd hlt (Nat.not_lt_zero _)
     obtain ⟨k0,k1,k2,k3,x,c,k4,k5⟩:=hc k hlt;have HAR:=zZ k5;have HEK:=zZ (dR (HS.out.E k hlt)).1;have TK:=zZ (bT hlt);generalize wK g.E k=E at *;obtain ⟨ef,efp,et,etp,zs⟩:=E;simp only at k0 k1 k2 k3 k4 HAR;clear hc k5
     go_upto_region 13 with fail
     have bv:=(Below.refl wr.heap.size wr).alloc (Nat.le_refl _) (.cells #[.int .i64 ef,.int .i64 efp,.int .i64 et,.int .i64 etp,.slice x zs.length c] 65);have DV:=zZ (DD.out.below bv);have bx:=zL 65 wr #[.int .i64 ef,.int .i64 efp,.int .i64 et,.int .i64 etp,.slice x zs.length c];have bb0:=bx.cell (k:=0) rfl;have bb1:=bx.cell (k:=1) rfl;have bb2:=bx.cell (k:=2) rfl;have bb3:=bx.cell (k:=3) rfl;have bb4:=bx.cell (k:=4) rfl;have kk:(wr.alloc (.cells #[.int .i64 ef,.int .i64 efp,.int .i64 et,.int .i64 etp,.slice x zs.length c] 65)).cell? ⟨K,1,none⟩=some (.slice va M.length vc):=DV.out.sb.cell rfl;obtain ⟨gx0,gx1,gx2,gx3,gx4⟩:=qC5 DV.out.gb
     have CA:Hid (∀ U,Below (wr.alloc (.cells #[.int .i64 ef,.int .i64 efp,.int .i64 et,.int .i64 etp,.slice x zs.length c] 65)).heap.size (wr.alloc (.cells #[.int .i64 ef,.int .i64 efp,.int .i64 et,.int .i64 etp,.slice x zs.length c] 65)) U->Calls Tryz.prog 65 #[.agg #[.string (zW g.name),.slice a1 g.A.length c1,.slice (some ⟨b,off,none⟩) g.E.length c2,.slice a3 g.ins.length c3,.slice a4 g.outs.length c4],.agg #[.int .i64 ef,.int .i64 efp,.int .i64 et,.int .i64 etp,.slice x zs.length c]] U (bL (sP g ⟨ef,efp,et,etp,zs⟩) U)):=fun U hb=>XC g _ _ _ _ _ _ _ _ ef efp et etp zs x c U (((HG.out.below DD.out.bel).A.at.below bv).below hb) (by have:=HLM.out.1;omega) HEK.out.f0 HEK.out.f1 HEK.out.t0 HEK.out.t1 ((HAR.out.below bv).below hb)
     clear bx k0 k1 k2 k3 k4;have BV:=zZ bv;clear bv;generalize wr.alloc (.cells #[.int .i64 ef,.int .i64 efp,.int .i64 et,.int .i64 etp,.slice x zs.length c] 65)=V at *
     refine yK 6 (fun i u v=>match i with
      |0=>v=.pointer (some ⟨K,1,none⟩)
      |1=>v=.slice va M.length vc
      |2=>v=.agg #[.string (zW g.name),.slice a1 g.A.length c1,.slice (some ⟨b,off,none⟩) g.E.length c2,.slice a3 g.ins.length c3,.slice a4 g.outs.length c4]
      |3=>v=.agg #[.int .i64 ef,.int .i64 efp,.int .i64 et,.int .i64 etp,.slice x zs.length c]
      |4=>YP V (sP g ⟨ef,efp,et,etp,zs⟩) u v
      |5=>TJ V (sP g ⟨ef,efp,et,etp,zs⟩) u v
      |_=>True) (by kernel_rfl) (by kernel_rfl) (by kernel_rfl) (by kernel_rfl) ?_ ?_ ?_
     ·intro i w v w' h hb
      match i,h with
      |0,h=>exact h
      |1,h=>exact h
      |2,h=>exact h
      |3,h=>exact h
      |4,h=>exact YP.later h hb
      |5,h=>exact TJ.later h hb
      |_+6,_=>trivial
     ·intro i o ρ w' hi ho hb hc hf hfr zX
      have kS:=zR hb kk;have b0:=zR hb bb0;have b1:=zR hb bb1;have b2:=zR hb bb2;have b3:=zR hb bb3;have b4:=zR hb bb4;have g0:=zR hb gx0;have g1:=zR hb gx1;have g2:=zR hb gx2;have g3:=zR hb gx3;have g4:=zR hb gx4
      match i,hi with
      |0,_=>
       simp only[qS]at ho;subst ho;have ts: ρ (.tmp 5)=(qP K):=(qR hfr 5);simp[go_sem,ts];exact qB
      |1,_=>
       simp only[qS]at ho;subst ho;have ts: ρ (.tmp 45)=.pointer (some ⟨K,1,none⟩):=(qH zX 0 45);simp[go_sem,ts,kS];exact qB
      |2,_=>
       simp only[qS]at ho;subst ho;have ts: ρ (.tmp 1)=(qP w.heap.size):=(qR hfr 1);simp[go_sem,ts,g0,g1,g2,g3,g4];exact qB
      |3,_=>
       simp only[qS]at ho;subst ho;have ts: ρ (.tmp 9)=(qP wr.heap.size):=(qR hfr 9);simp[go_sem,ts,b0,b1,b2,b3,b4];exact qB
      |4,_=>
       simp only[qS]at ho;subst ho;have t0: ρ (.tmp 47)=.agg #[.string (zW g.name),.slice a1 g.A.length c1,.slice (some ⟨b,off,none⟩) g.E.length c2,.slice a3 g.ins.length c3,.slice a4 g.outs.length c4]:=(qH zX 2 47);have t1: ρ (.tmp 48)=.agg #[.int .i64 ef,.int .i64 efp,.int .i64 et,.int .i64 etp,.slice x zs.length c]:=(qH zX 3 48);simp[go_sem,t0,t1,hf];exact ⟨rfl,(CA.out w' hb).mono fun e w'' hh=>JH hh hb.size⟩
      |5,_=>
       simp only[qS]at ho;subst ho;obtain ⟨qa,qc,e3,h3⟩:YP V (sP g ⟨ef,efp,et,etp,zs⟩) w' (ρ (.tmp 49)):=(qH zX 4 49);simp[go_sem,e3,JI];exact ⟨(Below.refl _ _).alloc (Nat.le_refl _) _,dO h3 _⟩
     intro V9 w9 q9 hS;have e0:V9 0=.pointer (some ⟨K,1,none⟩):=hS 0 (by decide);have e1:V9 1=.slice va M.length vc:=hS 1 (by decide);have e2:V9 2=.agg #[.string (zW g.name),.slice a1 g.A.length c1,.slice (some ⟨b,off,none⟩) g.E.length c2,.slice a3 g.ins.length c3,.slice a4 g.outs.length c4]:=hS 2 (by decide);have e3:V9 3=.agg #[.int .i64 ef,.int .i64 efp,.int .i64 et,.int .i64 etp,.slice x zs.length c]:=hS 3 (by decide);obtain ⟨qa4,qc4,e4,-⟩:YP V (sP g ⟨ef,efp,et,etp,zs⟩) w9 (V9 4):=hS 4 (by decide);obtain ⟨hx,qa,qc,e5,Q1,Q2⟩:TJ V (sP g ⟨ef,efp,et,etp,zs⟩) w9 (V9 5):=hS 5 (by decide);simp only[List.drop_succ_cons,List.drop_zero,List.take_succ_cons,List.take_zero,xA,e0,e1,e2,e3,e4,e5];clear hS e0 e1 e2 e3 e4 e5 V9;simp only[Act.put,qU];have D9:=zZ DV.out;have B9:=zZ q9;have C9:=zZ Q1;have N9:=zZ Q2;clear Q1 Q2 q9 DV CA bb0 bb1 bb2 bb3 bb4 gx0 gx1 gx2 gx3 gx4 kk
     go_wp2_with (at_builtin;refine xL _ rfl (.tmp 46) (.tmp 50) 50 rfl (K+1) 103 i0 (.agg qI) 11 136 Tryz.underlying50 HJ.out HJ0.out HJ1.out HJ2.out rfl (by decide) (.slice va M.length vc) M.length (M.flatMap lW) rfl (yY D9.out.its.row B9.out) ⟨hx,0,none⟩ 1 1 (by decide) (lW ((sP g ⟨ef,efp,et,etp,zs⟩),.slice qa (sP g ⟨ef,efp,et,etp,zs⟩).nums.length qc)) rfl rfl (fun j u hu=>by rw[sQ];exact C9.out j u hu) (dP _ _ _ _) (by unfold maxLen;omega) (by omega) (Nat.le_trans D9.out.big B9.out.size) ?_;intro v' w4 ho ht;obtain ⟨D10,bk⟩:=D9.out.put B9.out (x:=(sP g ⟨ef,efp,et,etp,zs⟩)) (q:=.slice qa (sP g ⟨ef,efp,et,etp,zs⟩).nums.length qc) N9.out ho ht;obtain ⟨va4,vc4,rfl⟩:=tZ ht;have E10:=zZ D10;have s1:w4.cell? ⟨K,1,none⟩=some (.slice va M.length vc):=bk.cell rfl;have f1:=bk.frozen 1;clear ho ht D10 bk)
     go_roundg (g.E.length-(k+1))
     case measure=>omega
     case rel=>exact ⟨k+1,va4,vc4,M++[((sP g ⟨ef,efp,et,etp,zs⟩),.slice qa (sP g ⟨ef,efp,et,etp,zs⟩).nums.length qc)],by omega,rfl,by go_num,by rw[List.map_append,MM.out,TK.out,List.map_append,List.append_assoc];rfl,by rw[List.length_append];exact E10.out⟩
    have ek:k=g.E.length:=by omega
    have MM1:Hid (M.map Prod.fst=g.A.map uA++g.E.map (sP g)):=by
     have e:=MM.out;rw[ek,List.take_length]at e;exact e
    have hki:¬(k:Int)<(g.E.length:Int):=by omega
    clear MM ek;have y3:wr.cell? ⟨w.heap.size,3,none⟩=some (.slice a3 g.ins.length c3):=DD.out.gb.cell rfl
    go_wp2
    go_loopg [57] g.ins.length (fun gk v wr=>∃(k:Nat) (va:Option Addr) (vc:Nat) (M:List (wJ × Value)),k<=g.ins.length/\gk=g.ins.length-k/\v=.int .i64 (k:Int)/\M.map Prod.fst=g.A.map uA++g.E.map (sP g)++(g.ins.take k).map (pV g)/\JG w K g a1 a2 a3 a4 c1 c2 c3 c4 (.slice va M.length vc) M wr)
    case atStart=>exact ⟨0,va,vc,M,Nat.zero_le _,rfl,rfl,by rw[List.take_zero,List.map_nil,List.append_nil];exact MM1.out,DD.out⟩
    case round=>
     obtain ⟨k,va,vc,M,hk,rfl,rfl,hM,hD⟩:=hrel;have DD:=zZ hD;have MM:=zZ hM;clear hM hD
     have LM:M.length<=160:=by
      have q:=congrArg List.length MM.out;have:=HLM.out;simp only[List.length_map,List.length_append,List.length_take]at q;omega
     by_cases hlt:k<g.ins.length
     ·have hki:(k:Int)<(g.ins.length:Int):=by omega
      rcases (HG.out.below (DD.out.bel.mono (Nat.le_refl _))).I with e|⟨b,off,rfl,hc⟩
      ·rw [e]at hlt;exact absurd hlt (Nat.not_lt_zero _)
      obtain ⟨k0,k1,k2⟩:=hc k hlt;have HEK:=zZ (JK (HS.out.ins k hlt)).2.2.1;have TK:=zZ (lC hlt);generalize wN g.ins k=E at *;obtain ⟨nm,ac,po⟩:=E;simp only at k0 k1 k2 HEK;clear hc
      go_upto_region 18 with fail
      have bv:=(Below.refl wr.heap.size wr).alloc (Nat.le_refl _) (.cells #[.string (zW nm),.int .i64 ac,.int .i64 po] 81);have DV:=zZ (DD.out.below bv);have bx:=zL 81 wr #[.string (zW nm),.int .i64 ac,.int .i64 po];have bb0:=bx.cell (k:=0) rfl;have bb1:=bx.cell (k:=1) rfl;have bb2:=bx.cell (k:=2) rfl;have kk:(wr.alloc (.cells #[.string (zW nm),.int .i64 ac,.int .i64 po] 81)).cell? ⟨K,1,none⟩=some (.slice va M.length vc):=DV.out.sb.cell rfl;obtain ⟨gx0,gx1,gx2,gx3,gx4⟩:=qC5 DV.out.gb
      have CA:Hid (∀ U,Below (wr.alloc (.cells #[.string (zW nm),.int .i64 ac,.int .i64 po] 81)).heap.size (wr.alloc (.cells #[.string (zW nm),.int .i64 ac,.int .i64 po] 81)) U->Calls Tryz.prog 66 #[.agg #[.string (zW g.name),.slice a1 g.A.length c1,.slice a2 g.E.length c2,.slice (some ⟨b,off,none⟩) g.ins.length c3,.slice a4 g.outs.length c4],.int .i64 ac,.int .i64 po] U fun e w'=>e=.returned (.agg #[.string (zW (yI g.A ac.toNat).name),.int .i64 po,.int .i64 0])/\Below U.heap.size U w'):=fun U hb=>rQ g _ _ _ _ _ _ _ _ ac po U (((HG.out.below DD.out.bel).A.at.below bv).below hb) HEK.out.1 HEK.out.2.1 (by have:=HLM.out.1;omega)
      clear bx k0 k1 k2;have BV:=zZ bv;clear bv;generalize wr.alloc (.cells #[.string (zW nm),.int .i64 ac,.int .i64 po] 81)=V at *
      refine yK 12 (fun i u v=>match i with
       |0=>v=.pointer (some ⟨K,1,none⟩)
       |1=>v=.slice va M.length vc
       |2=>v=(qP wr.heap.size)
       |3=>v=.string (zW nm)
       |4=>v=.agg #[.string (zW g.name),.slice a1 g.A.length c1,.slice a2 g.E.length c2,.slice (some ⟨b,off,none⟩) g.ins.length c3,.slice a4 g.outs.length c4]
       |5=>v=.pointer (some ⟨wr.heap.size,1,none⟩)
       |6=>v=.int .i64 ac
       |7=>v=.pointer (some ⟨wr.heap.size,2,none⟩)
       |8=>v=.int .i64 po
       |9=>v=.agg #[.string (zW (yI g.A ac.toNat).name),.int .i64 po,.int .i64 0]
       |10=>YP V (pV g ⟨nm,ac,po⟩) u v
       |11=>TJ V (pV g ⟨nm,ac,po⟩) u v
       |_=>True) (by kernel_rfl) (by kernel_rfl) (by kernel_rfl) (by kernel_rfl) ?_ ?_ ?_
      ·intro i w v w' h hb
       match i,h with
       |0,h=>exact h
       |1,h=>exact h
       |2,h=>exact h
       |3,h=>exact h
       |4,h=>exact h
       |5,h=>exact h
       |6,h=>exact h
       |7,h=>exact h
       |8,h=>exact h
       |9,h=>exact h
       |10,h=>exact YP.later h hb
       |11,h=>exact TJ.later h hb
       |_+12,_=>trivial
      ·intro i o ρ w' hi ho hb hc hf hfr zX
       have kS:=zR hb kk;have b0:=zR hb bb0;have b1:=zR hb bb1;have b2:=zR hb bb2;have g0:=zR hb gx0;have g1:=zR hb gx1;have g2:=zR hb gx2;have g3:=zR hb gx3;have g4:=zR hb gx4
       match i,hi with
       |0,_=>
        simp only[qS]at ho;subst ho;have ts: ρ (.tmp 5)=(qP K):=(qR hfr 5);simp[go_sem,ts];exact qB
       |1,_=>
        simp only[qS]at ho;subst ho;have ts: ρ (.tmp 61)=.pointer (some ⟨K,1,none⟩):=(qH zX 0 61);simp[go_sem,ts,kS];exact qB
       |2,_=>
        simp only[qS]at ho;subst ho;have ts: ρ (.tmp 11)=(qP wr.heap.size):=(qR hfr 11);simp[go_sem,ts];exact qB
       |3,_=>
        simp only[qS]at ho;subst ho;have ts: ρ (.tmp 63)=(qP wr.heap.size):=(qH zX 2 63);simp[go_sem,ts,b0];exact qB
       |4,_=>
        simp only[qS]at ho;subst ho;have ts: ρ (.tmp 1)=(qP w.heap.size):=(qR hfr 1);simp[go_sem,ts,g0,g1,g2,g3,g4];exact qB
       |5,_=>
        simp only[qS]at ho;subst ho;have ts: ρ (.tmp 11)=(qP wr.heap.size):=(qR hfr 11);simp[go_sem,ts];exact qB
       |6,_=>
        simp only[qS]at ho;subst ho;have ts: ρ (.tmp 66)=.pointer (some ⟨wr.heap.size,1,none⟩):=(qH zX 5 66);simp[go_sem,ts,b1];exact qB
       |7,_=>
        simp only[qS]at ho;subst ho;have ts: ρ (.tmp 11)=(qP wr.heap.size):=(qR hfr 11);simp[go_sem,ts];exact qB
       |8,_=>
        simp only[qS]at ho;subst ho;have ts: ρ (.tmp 68)=.pointer (some ⟨wr.heap.size,2,none⟩):=(qH zX 7 68);simp[go_sem,ts,b2];exact qB
       |9,_=>
        simp only[qS]at ho;subst ho;have t0: ρ (.tmp 65)=.agg #[.string (zW g.name),.slice a1 g.A.length c1,.slice a2 g.E.length c2,.slice (some ⟨b,off,none⟩) g.ins.length c3,.slice a4 g.outs.length c4]:=(qH zX 4 65);have t1: ρ (.tmp 67)=.int .i64 ac:=(qH zX 6 67);have t2: ρ (.tmp 69)=.int .i64 po:=(qH zX 8 69);simp[go_sem,t0,t1,t2,hf];exact ⟨rfl,(CA.out w' hb).mono fun e w'' hh=>⟨_,hh.1,hh.2,rfl⟩⟩
       |10,_=>
        simp only[qS]at ho;subst ho;have t0: ρ (.tmp 64)=.string (zW nm):=(qH zX 3 64);have t1: ρ (.tmp 70)=.agg #[.string (zW (yI g.A ac.toNat).name),.int .i64 po,.int .i64 0]:=(qH zX 9 70);simp[go_sem,t0,t1,hc];exact ⟨Below.refl _ _,none,0,rfl,World.ownsRow_nil _ _ _ _⟩
       |11,_=>
        simp only[qS]at ho;subst ho;obtain ⟨qa,qc,e3,h3⟩:YP V (pV g ⟨nm,ac,po⟩) w' (ρ (.tmp 71)):=(qH zX 10 71);simp[go_sem,e3,JI];exact ⟨(Below.refl _ _).alloc (Nat.le_refl _) _,dO h3 _⟩
      intro V9 w9 q9 hS;have e0:V9 0=.pointer (some ⟨K,1,none⟩):=hS 0 (by decide);have e1:V9 1=.slice va M.length vc:=hS 1 (by decide);have e2:V9 2=(qP wr.heap.size):=hS 2 (by decide);have e3:V9 3=.string (zW nm):=hS 3 (by decide);have e4:V9 4=.agg #[.string (zW g.name),.slice a1 g.A.length c1,.slice a2 g.E.length c2,.slice (some ⟨b,off,none⟩) g.ins.length c3,.slice a4 g.outs.length c4]:=hS 4 (by decide);have e5:V9 5=.pointer (some ⟨wr.heap.size,1,none⟩):=hS 5 (by decide);have e6:V9 6=.int .i64 ac:=hS 6 (by decide);have e7:V9 7=.pointer (some ⟨wr.heap.size,2,none⟩):=hS 7 (by decide);have e8:V9 8=.int .i64 po:=hS 8 (by decide);have e9:V9 9=.agg #[.string (zW (yI g.A ac.toNat).name),.int .i64 po,.int .i64 0]:=hS 9 (by decide);obtain ⟨qa10,qc10,e10,-⟩:YP V (pV g ⟨nm,ac,po⟩) w9 (V9 10):=hS 10 (by decide);obtain ⟨hx,qa,qc,e11,Q1,Q2⟩:TJ V (pV g ⟨nm,ac,po⟩) w9 (V9 11):=hS 11 (by decide);simp only[List.drop_succ_cons,List.drop_zero,List.take_succ_cons,List.take_zero,xA,e0,e1,e2,e3,e4,e5,e6,e7,e8,e9,e10,e11];clear hS e0 e1 e2 e3 e4 e5 e6 e7 e8 e9 e10 e11 V9;simp only[Act.put,qU];have D9:=zZ DV.out;have B9:=zZ q9;have C9:=zZ Q1;have N9:=zZ Q2;clear Q1 Q2 q9 DV CA bb0 bb1 bb2 gx0 gx1 gx2 gx3 gx4 kk
      go_wp2_with (at_builtin;refine xL _ rfl (.tmp 62) (.tmp 72) 50 rfl (K+1) 103 i0 (.agg qI) 11 136 Tryz.underlying50 HJ.out HJ0.out HJ1.out HJ2.out rfl (by decide) (.slice va M.length vc) M.length (M.flatMap lW) rfl (yY D9.out.its.row B9.out) ⟨hx,0,none⟩ 1 1 (by decide) (lW ((pV g ⟨nm,ac,po⟩),.slice qa (pV g ⟨nm,ac,po⟩).nums.length qc)) rfl rfl (fun j u hu=>by rw[sQ];exact C9.out j u hu) (dP _ _ _ _) (by unfold maxLen;omega) (by omega) (Nat.le_trans D9.out.big B9.out.size) ?_;intro v' w4 ho ht;obtain ⟨D10,bk⟩:=D9.out.put B9.out (x:=(pV g ⟨nm,ac,po⟩)) (q:=.slice qa (pV g ⟨nm,ac,po⟩).nums.length qc) N9.out ho ht;obtain ⟨va4,vc4,rfl⟩:=tZ ht;have E10:=zZ D10;have s1:w4.cell? ⟨K,1,none⟩=some (.slice va M.length vc):=bk.cell rfl;have f1:=bk.frozen 1;clear ho ht D10 bk)
      go_roundg (g.ins.length-(k+1))
      case measure=>omega
      case rel=>exact ⟨k+1,va4,vc4,M++[((pV g ⟨nm,ac,po⟩),.slice qa (pV g ⟨nm,ac,po⟩).nums.length qc)],by omega,rfl,by go_num,by rw[List.map_append,MM.out,TK.out,List.map_append,List.append_assoc];rfl,by rw[List.length_append];exact E10.out⟩
     have ek:k=g.ins.length:=by omega
     have MM2:Hid (M.map Prod.fst=g.A.map uA++g.E.map (sP g)++g.ins.map (pV g)):=by
      have e:=MM.out;rw[ek,List.take_length]at e;exact e
     have hki:¬(k:Int)<(g.ins.length:Int):=by omega
     clear MM ek;have y4:wr.cell? ⟨w.heap.size,4,none⟩=some (.slice a4 g.outs.length c4):=DD.out.gb.cell rfl
     go_wp2
     go_loopg [79] g.outs.length (fun gk v wr=>∃(k:Nat) (va:Option Addr) (vc:Nat) (M:List (wJ × Value)),k<=g.outs.length/\gk=g.outs.length-k/\v=.int .i64 (k:Int)/\M.map Prod.fst=g.A.map uA++g.E.map (sP g)++g.ins.map (pV g)++(g.outs.take k).map (oI g)/\JG w K g a1 a2 a3 a4 c1 c2 c3 c4 (.slice va M.length vc) M wr)
     case atStart=>exact ⟨0,va,vc,M,Nat.zero_le _,rfl,rfl,by rw[List.take_zero,List.map_nil,List.append_nil];exact MM2.out,DD.out⟩
     case round=>
      obtain ⟨k,va,vc,M,hk,rfl,rfl,hM,hD⟩:=hrel;have DD:=zZ hD;have MM:=zZ hM;clear hM hD
      have LM:M.length<=160:=by
       have q:=congrArg List.length MM.out;have:=HLM.out;simp only[List.length_map,List.length_append,List.length_take]at q;omega
      by_cases hlt:k<g.outs.length
      ·have hki:(k:Int)<(g.outs.length:Int):=by omega
       rcases (HG.out.below (DD.out.bel.mono (Nat.le_refl _))).O with e|⟨b,off,rfl,hc⟩
       ·rw [e]at hlt;exact absurd hlt (Nat.not_lt_zero _)
       obtain ⟨k0,k1,k2⟩:=hc k hlt;have HEK:=zZ (RI (HS.out.outs k hlt)).2.2.1;have TK:=zZ (lC hlt);generalize wN g.outs k=E at *;obtain ⟨nm,ac,po⟩:=E;simp only at k0 k1 k2 HEK;clear hc
       go_upto_region 23 with fail
       have bv:=(Below.refl wr.heap.size wr).alloc (Nat.le_refl _) (.cells #[.string (zW nm),.int .i64 ac,.int .i64 po] 81);have DV:=zZ (DD.out.below bv);have bx:=zL 81 wr #[.string (zW nm),.int .i64 ac,.int .i64 po];have bb0:=bx.cell (k:=0) rfl;have bb1:=bx.cell (k:=1) rfl;have bb2:=bx.cell (k:=2) rfl;have kk:(wr.alloc (.cells #[.string (zW nm),.int .i64 ac,.int .i64 po] 81)).cell? ⟨K,1,none⟩=some (.slice va M.length vc):=DV.out.sb.cell rfl;obtain ⟨gx0,gx1,gx2,gx3,gx4⟩:=qC5 DV.out.gb
       have CA:Hid (∀ U,Below (wr.alloc (.cells #[.string (zW nm),.int .i64 ac,.int .i64 po] 81)).heap.size (wr.alloc (.cells #[.string (zW nm),.int .i64 ac,.int .i64 po] 81)) U->Calls Tryz.prog 66 #[.agg #[.string (zW g.name),.slice a1 g.A.length c1,.slice a2 g.E.length c2,.slice a3 g.ins.length c3,.slice (some ⟨b,off,none⟩) g.outs.length c4],.int .i64 ac,.int .i64 po] U fun e w'=>e=.returned (.agg #[.string (zW (yI g.A ac.toNat).name),.int .i64 po,.int .i64 0])/\Below U.heap.size U w'):=fun U hb=>rQ g _ _ _ _ _ _ _ _ ac po U (((HG.out.below DD.out.bel).A.at.below bv).below hb) HEK.out.1 HEK.out.2.1 (by have:=HLM.out.1;omega)
       clear bx k0 k1 k2;have BV:=zZ bv;clear bv;generalize wr.alloc (.cells #[.string (zW nm),.int .i64 ac,.int .i64 po] 81)=V at *
       refine yK 12 (fun i u v=>match i with
        |0=>v=.pointer (some ⟨K,1,none⟩)
        |1=>v=.slice va M.length vc
        |2=>v=(qP wr.heap.size)
        |3=>v=.string (zW nm)
        |4=>v=.agg #[.string (zW g.name),.slice a1 g.A.length c1,.slice a2 g.E.length c2,.slice a3 g.ins.length c3,.slice (some ⟨b,off,none⟩) g.outs.length c4]
        |5=>v=.pointer (some ⟨wr.heap.size,1,none⟩)
        |6=>v=.int .i64 ac
        |7=>v=.pointer (some ⟨wr.heap.size,2,none⟩)
        |8=>v=.int .i64 po
        |9=>v=.agg #[.string (zW (yI g.A ac.toNat).name),.int .i64 po,.int .i64 0]
        |10=>YP V (oI g ⟨nm,ac,po⟩) u v
        |11=>TJ V (oI g ⟨nm,ac,po⟩) u v
        |_=>True) (by kernel_rfl) (by kernel_rfl) (by kernel_rfl) (by kernel_rfl) ?_ ?_ ?_
       ·intro i w v w' h hb
        match i,h with
        |0,h=>exact h
        |1,h=>exact h
        |2,h=>exact h
        |3,h=>exact h
        |4,h=>exact h
        |5,h=>exact h
        |6,h=>exact h
        |7,h=>exact h
        |8,h=>exact h
        |9,h=>exact h
        |10,h=>exact YP.later h hb
        |11,h=>exact TJ.later h hb
        |_+12,_=>trivial
       ·intro i o ρ w' hi ho hb hc hf hfr zX
        have kS:=zR hb kk;have b0:=zR hb bb0;have b1:=zR hb bb1;have b2:=zR hb bb2;have g0:=zR hb gx0;have g1:=zR hb gx1;have g2:=zR hb gx2;have g3:=zR hb gx3;have g4:=zR hb gx4
        match i,hi with
        |0,_=>
         simp only[qS]at ho;subst ho;have ts: ρ (.tmp 5)=(qP K):=(qR hfr 5);simp[go_sem,ts];exact qB
        |1,_=>
         simp only[qS]at ho;subst ho;have ts: ρ (.tmp 83)=.pointer (some ⟨K,1,none⟩):=(qH zX 0 83);simp[go_sem,ts,kS];exact qB
        |2,_=>
         simp only[qS]at ho;subst ho;have ts: ρ (.tmp 13)=(qP wr.heap.size):=(qR hfr 13);simp[go_sem,ts];exact qB
        |3,_=>
         simp only[qS]at ho;subst ho;have ts: ρ (.tmp 85)=(qP wr.heap.size):=(qH zX 2 85);simp[go_sem,ts,b0];exact qB
        |4,_=>
         simp only[qS]at ho;subst ho;have ts: ρ (.tmp 1)=(qP w.heap.size):=(qR hfr 1);simp[go_sem,ts,g0,g1,g2,g3,g4];exact qB
        |5,_=>
         simp only[qS]at ho;subst ho;have ts: ρ (.tmp 13)=(qP wr.heap.size):=(qR hfr 13);simp[go_sem,ts];exact qB
        |6,_=>
         simp only[qS]at ho;subst ho;have ts: ρ (.tmp 88)=.pointer (some ⟨wr.heap.size,1,none⟩):=(qH zX 5 88);simp[go_sem,ts,b1];exact qB
        |7,_=>
         simp only[qS]at ho;subst ho;have ts: ρ (.tmp 13)=(qP wr.heap.size):=(qR hfr 13);simp[go_sem,ts];exact qB
        |8,_=>
         simp only[qS]at ho;subst ho;have ts: ρ (.tmp 90)=.pointer (some ⟨wr.heap.size,2,none⟩):=(qH zX 7 90);simp[go_sem,ts,b2];exact qB
        |9,_=>
         simp only[qS]at ho;subst ho;have t0: ρ (.tmp 87)=.agg #[.string (zW g.name),.slice a1 g.A.length c1,.slice a2 g.E.length c2,.slice a3 g.ins.length c3,.slice (some ⟨b,off,none⟩) g.outs.length c4]:=(qH zX 4 87);have t1: ρ (.tmp 89)=.int .i64 ac:=(qH zX 6 89);have t2: ρ (.tmp 91)=.int .i64 po:=(qH zX 8 91);simp[go_sem,t0,t1,t2,hf];exact ⟨rfl,(CA.out w' hb).mono fun e w'' hh=>⟨_,hh.1,hh.2,rfl⟩⟩
        |10,_=>
         simp only[qS]at ho;subst ho;have t0: ρ (.tmp 86)=.string (zW nm):=(qH zX 3 86);have t1: ρ (.tmp 92)=.agg #[.string (zW (yI g.A ac.toNat).name),.int .i64 po,.int .i64 0]:=(qH zX 9 92);simp[go_sem,t0,t1,hc];exact ⟨Below.refl _ _,none,0,rfl,World.ownsRow_nil _ _ _ _⟩
        |11,_=>
         simp only[qS]at ho;subst ho;obtain ⟨qa,qc,e3,h3⟩:YP V (oI g ⟨nm,ac,po⟩) w' (ρ (.tmp 93)):=(qH zX 10 93);simp[go_sem,e3,JI];exact ⟨(Below.refl _ _).alloc (Nat.le_refl _) _,dO h3 _⟩
       intro V9 w9 q9 hS;have e0:V9 0=.pointer (some ⟨K,1,none⟩):=hS 0 (by decide);have e1:V9 1=.slice va M.length vc:=hS 1 (by decide);have e2:V9 2=(qP wr.heap.size):=hS 2 (by decide);have e3:V9 3=.string (zW nm):=hS 3 (by decide);have e4:V9 4=.agg #[.string (zW g.name),.slice a1 g.A.length c1,.slice a2 g.E.length c2,.slice a3 g.ins.length c3,.slice (some ⟨b,off,none⟩) g.outs.length c4]:=hS 4 (by decide);have e5:V9 5=.pointer (some ⟨wr.heap.size,1,none⟩):=hS 5 (by decide);have e6:V9 6=.int .i64 ac:=hS 6 (by decide);have e7:V9 7=.pointer (some ⟨wr.heap.size,2,none⟩):=hS 7 (by decide);have e8:V9 8=.int .i64 po:=hS 8 (by decide);have e9:V9 9=.agg #[.string (zW (yI g.A ac.toNat).name),.int .i64 po,.int .i64 0]:=hS 9 (by decide);obtain ⟨qa10,qc10,e10,-⟩:YP V (oI g ⟨nm,ac,po⟩) w9 (V9 10):=hS 10 (by decide);obtain ⟨hx,qa,qc,e11,Q1,Q2⟩:TJ V (oI g ⟨nm,ac,po⟩) w9 (V9 11):=hS 11 (by decide);simp only[List.drop_succ_cons,List.drop_zero,List.take_succ_cons,List.take_zero,xA,e0,e1,e2,e3,e4,e5,e6,e7,e8,e9,e10,e11];clear hS e0 e1 e2 e3 e4 e5 e6 e7 e8 e9 e10 e11 V9;simp only[Act.put,qU];have D9:=zZ DV.out;have B9:=zZ q9;have C9:=zZ Q1;have N9:=zZ Q2;clear Q1 Q2 q9 DV CA bb0 bb1 bb2 gx0 gx1 gx2 gx3 gx4 kk
       go_wp2_with (at_builtin;refine xL _ rfl (.tmp 84) (.tmp 94) 50 rfl (K+1) 103 i0 (.agg qI) 11 136 Tryz.underlying50 HJ.out HJ0.out HJ1.out HJ2.out rfl (by decide) (.slice va M.length vc) M.length (M.flatMap lW) rfl (yY D9.out.its.row B9.out) ⟨hx,0,none⟩ 1 1 (by decide) (lW ((oI g ⟨nm,ac,po⟩),.slice qa (oI g ⟨nm,ac,po⟩).nums.length qc)) rfl rfl (fun j u hu=>by rw[sQ];exact C9.out j u hu) (dP _ _ _ _) (by unfold maxLen;omega) (by omega) (Nat.le_trans D9.out.big B9.out.size) ?_;intro v' w4 ho ht;obtain ⟨D10,bk⟩:=D9.out.put B9.out (x:=(oI g ⟨nm,ac,po⟩)) (q:=.slice qa (oI g ⟨nm,ac,po⟩).nums.length qc) N9.out ho ht;obtain ⟨va4,vc4,rfl⟩:=tZ ht;have E10:=zZ D10;have s1:w4.cell? ⟨K,1,none⟩=some (.slice va M.length vc):=bk.cell rfl;have f1:=bk.frozen 1;clear ho ht D10 bk)
       go_roundg (g.outs.length-(k+1))
       case measure=>omega
       case rel=>exact ⟨k+1,va4,vc4,M++[((oI g ⟨nm,ac,po⟩),.slice qa (oI g ⟨nm,ac,po⟩).nums.length qc)],by omega,rfl,by go_num,by rw[List.map_append,MM.out,TK.out,List.map_append,List.append_assoc];rfl,by rw[List.length_append];exact E10.out⟩
      have ek:k=g.outs.length:=by omega
      have MM3:Hid (M.map Prod.fst=g.A.map uA++g.E.map (sP g)++g.ins.map (pV g)++g.outs.map (oI g)):=by
       have e:=MM.out;rw[ek,List.take_length]at e;exact e
      have hki:¬(k:Int)<(g.outs.length:Int):=by omega
      clear MM ek;have s0:wr.cell? ⟨K,0,none⟩=some (.string (zW g.name)):=DD.out.sb.cell rfl;have s1:wr.cell? ⟨K,1,none⟩=some (.slice va M.length vc):=DD.out.sb.cell rfl
      go_wp2_with (refine xI _ rfl 52 (.tmp 2) (.tmp 98) rfl rfl (w.heap.size+1) 52 _ _ rfl rfl DD.out.rb sizS rfl rfl ?_;intro w8 hN hU;have N8:=zZ hN;have U8:=zZ hU;clear hN hU)
      have r0:w8.cell? ⟨w.heap.size+1,0,none⟩=some (.string (zW g.name)):=N8.out.cell rfl;have r1:w8.cell? ⟨w.heap.size+1,1,none⟩=some (.slice va M.length vc):=N8.out.cell rfl;refine bodyPost_ret (v:=.tuple #[.agg #[.string (zW g.name),.slice va M.length vc],.int .i64 0]) (by simp[results,Tryz.results38,go_sem,r0,r1]) rfl ?_
      refine H1.out _ _ ⟨va,vc,M,rfl,by rw[MM3.out];unfold eJ;simp only[List.append_assoc],?_,DD.out.bel.trans (U8.out.below (Nat.le_succ _) DD.out.bel.size)⟩
      exact (DX DD.out.its U8.out DD.out.hk).mono (Nat.le_of_lt (Nat.lt_trans (Nat.lt_succ_self _) (Nat.lt_trans DD.out.hk (Nat.lt_succ_self _))))
 have H1:Hid (∀ e w',(e=.returned (.tuple #[.agg #[qE,qN],.int .i64 (yD g).code])/\Below w.heap.size w w')->pS g w e w'):=fun e w' q=>by
  unfold pS;rw[if_neg h0];exact q
 generalize (yD g).code=cd at *
 have q1:(cd !=0)=true:=by simpa using h0
 clear ba gg nr h HE
 go_enter Tryz.func38,Tryz.ntmps38
 go_upto_region 1 with fail
 generalize (w.alloc (.cells #[.string (zW g.name),.slice a1 g.A.length c1,.slice a2 g.E.length c2,.slice a3 g.ins.length c3,.slice a4 g.outs.length c4] 26)).alloc (.cells #[qE,qN] 52)=W0 at *
 go_wp2_with (first
  |(refine xI _ rfl 52 (.tmp 2) (.tmp 18) rfl rfl (w.heap.size+1) 52 _ _ rfl rfl (NR.out.below B1.out) sizS rfl rfl ?_;intro w8 hN hU;have N8:=zZ hN;have U8:=zZ hU;clear hN hU)
  |(go_at_call 21;(with_reducible refine CK.out.mono ?_);rintro e w1 ⟨rfl,b1⟩;have B1:=zZ b1;clear b1 y0 y1 y2 y3 y4))
 have r0:w8.cell? ⟨w.heap.size+1,0,none⟩=some (qE):=N8.out.cell rfl;have r1:w8.cell? ⟨w.heap.size+1,1,none⟩=some (qN):=N8.out.cell rfl;refine bodyPost_ret (v:=.tuple #[.agg #[qE,qN],.int .i64 cd]) (by simp[results,Tryz.results38,go_sem,r0,r1]) rfl ?_
 have b2:=BA.out.trans (B1.out.mono BA.out.size);exact H1.out _ _ ⟨rfl,b2.trans (U8.out.below (Nat.le_succ _) b2.size)⟩
def RA:List (List UInt8)->Nat->Int->List UInt8->Int
 |[],_,d,_=>d
 |n::r,i,d,x=>RA r (i+1) (if n=x then (i:Int) else d) x
def vG (ns:List (List UInt8)) (x:List UInt8):Int:=RA ns 0 (-1) x
theorem UG (s x:List UInt8):∀(ns:List (List UInt8)) (i:Nat) (d:Int),RA (ns++[s]) i d x=if s=x then ((i+ns.length:Nat):Int) else RA ns i d x
 |[],i,d=>rfl
 |n::r,i,d=>by
  show RA (r++[s]) (i+1) (if n=x then (i:Int) else d) x=_;rw[UG s x r (i+1)]
  have e:i+1+r.length=i+(n::r).length:=by simp;omega
  rw[e];rfl
theorem UE (ns:List (List UInt8)) (s x:List UInt8):vG (ns++[s]) x=if s=x then (ns.length:Int) else vG ns x:=by
 unfold vG;rw[UG,Nat.zero_add]
theorem YO {x:List UInt8} :∀(ns:List (List UInt8)) (i:Nat) (d:Int),¬x ∈ ns->RA ns i d x=d
 |[],_,_,_=>rfl
 |n::r,i,d,h=>by
  show RA r (i+1) (if n=x then (i:Int) else d) x=d;rw[if_neg (fun e=>h (by rw[e];exact List.mem_cons_self)),YO r (i+1) d (fun e=>h (List.mem_cons_of_mem _ e))]
theorem ME {ns:List (List UInt8)} {x:List UInt8} (h:¬x ∈ ns):vG ns x= -1:=YO ns 0 (-1) h
def tH (k:Int) (L:List wJ):List wJ:=L.filter (fun x=>decide (x.kind=k))
def lV (L:List wJ):List (List UInt8):=(tH 1 L).map wJ.name
def CL (x:wJ):GA:=⟨x.name,(gD x.tag).1,x.nums⟩
def luE (ns:List (List UInt8)) (x:wJ):GE:=⟨vG ns x.frm.name,x.frm.port,vG ns x.tgt.name,x.tgt.port,x.nums⟩
def luI (ns:List (List UInt8)) (x:wJ):GP:=⟨x.name,vG ns x.tgt.name,x.tgt.port⟩
def luO (ns:List (List UInt8)) (x:wJ):GP:=⟨x.name,vG ns x.frm.name,x.frm.port⟩
def DE (nm:List UInt8) (ns:List (List UInt8)) (L:List wJ):GG:=⟨nm,(tH 1 L).map CL,(tH 2 L).map (luE ns),(tH 3 L).map (luI ns),(tH 4 L).map (luO ns)⟩
def sG (nm:List UInt8) (L:List wJ):GG:=DE nm (lV L) L
theorem yR (k:Int) (L:List wJ) (x:wJ):tH k (L++[x])=if x.kind=k then tH k L++[x] else tH k L:=by
 unfold tH;rw[List.filter_append]
 by_cases h:x.kind=k
 ·simp [h]
 simp[h]
theorem pI (k:Int) (L:List wJ):(tH k L).length<=L.length:=List.length_filter_le _ _
def kZ (x:wJ):Bool:=decide (x.kind<1)||decide (4<x.kind)
def pR:List wJ->Nat->Int
 |[],_=> -1
 |x::r,i=>if kZ x=true then (i:Int) else pR r (i+1)
def mM (x:wJ) (e:Nat):Int:=if e=1 then x.frm.place else if e=2 then x.tgt.place else x.place
def tU:List wJ->Nat->FL->Int
 |[],_,_=>0
 |x::r,n,f=>if x.kind=(f.kind:Int) then (if n=f.number then mM x f.stop else tU r (n+1) f) else tU r n f
def IA:GG:=⟨[],[],[],[],[]⟩
def vS (nm:List UInt8) (L:List wJ):GG × Int × Int:=
 if 0<=pR L 0 then (IA,1,(L.getD (pR L 0).toNat PJ).place)
 else if (yD (sG nm L)).code≠0 then (IA,(yD (sG nm L)).code,tU L 0 (yD (sG nm L))) else (sG nm L,0,0)
theorem bK:∀(L:List wJ) (i:Nat),pR L i= -1\/((i:Int)<=pR L i/\pR L i<((i+L.length:Nat):Int))
 |[],_=>.inl rfl
 |x::r,i=>by
  show (if kZ x=true then (i:Int) else pR r (i+1))= -1\/_
  by_cases h:kZ x=true
  ·right
   have e:pR (x::r) i=(i:Int):=by show (if kZ x=true then (i:Int) else pR r (i+1))=_;rw[if_pos h]
   rw[e];simp;omega
  have e:pR (x::r) i=pR r (i+1):=by show (if kZ x=true then (i:Int) else pR r (i+1))=_;rw[if_neg h]
  rw[if_neg h,e]
  rcases bK r (i+1) with q|q
  ·exact .inl q
  right
  simp only[List.length_cons];omega
theorem JD {L:List (wJ × Value)} {i:Nat} (h:i<L.length):(L.map Prod.fst).drop i=(sD L i).1::(L.map Prod.fst).drop (i+1):=by
 rw[List.drop_eq_getElem_cons (by rw[List.length_map];exact h),List.getElem_map];unfold sD;rw[List.getD_eq_getElem?_getD,List.getElem?_eq_getElem h];rfl
def whG:List (List UInt8)->Nat->List UInt8->Int
 |[],_,_=> -1
 |n::r,i,x=>if n=x then (i:Int) else whG r (i+1) x
def whL (ns:List (List UInt8)) (x:List UInt8):Int:=whG ns 0 x
def wE (ns:List (List UInt8)) (x:wJ):GE:=⟨whL ns x.frm.name,x.frm.port,whL ns x.tgt.name,x.tgt.port,x.nums⟩
def wI (ns:List (List UInt8)) (x:wJ):GP:=⟨x.name,whL ns x.tgt.name,x.tgt.port⟩
def wO (ns:List (List UInt8)) (x:wJ):GP:=⟨x.name,whL ns x.frm.name,x.frm.port⟩
def SlcV (q:Value):Prop:=∃a n c,q=.slice a n c
theorem XA (ki fp fa tp ta pl:Int) (xn xt fn tn:List UInt8) (qa:Option Addr) (qn qc:Nat) (w:World):
 Calls Tryz.prog 49 #[.agg #[.int .u8 ki,.string (zW xn),.string (zW xt),.slice qa qn qc,.string (zW fn),.int .i64 fp,.int .i64 fa,.string (zW tn),.int .i64 tp,.int .i64 ta,.int .i64 pl]] w fun e w'=>e=.returned (.bool (decide (ki<1)||decide (4<ki)))/\Below w.heap.size w w':=by
 have bx:=zL 103 w #[.int .u8 ki,.string (zW xn),.string (zW xt),.slice qa qn qc,.string (zW fn),.int .i64 fp,.int .i64 fa,.string (zW tn),.int .i64 tp,.int .i64 ta,.int .i64 pl];have c0:=bx.cell (k:=0) rfl;clear bx
 by_cases h1:ki<1
 ·rw [decide_eq_true h1,Bool.true_or]
  go_enter Tryz.func49,Tryz.ntmps49
  go_wp2
  go_ret
  exact ⟨rfl,(Below.refl _ _).alloc (Nat.le_refl _) _⟩
 rw[decide_eq_false h1,Bool.false_or]
 by_cases h2:4<ki
 ·rw [decide_eq_true h2]
  go_enter Tryz.func49,Tryz.ntmps49
  go_wp2
  go_ret
  exact ⟨rfl,(Below.refl _ _).alloc (Nat.le_refl _) _⟩
 rw[decide_eq_false h2]
 go_enter Tryz.func49,Tryz.ntmps49
 go_wp2
 go_ret
 exact ⟨rfl,(Below.refl _ _).alloc (Nat.le_refl _) _⟩
theorem jF.slc {w:World} {r:Value} {ns:List Int} (h:jF w r ns):SlcV r:=by
 obtain ⟨a,c,rfl,-⟩:=h;exact ⟨_,_,_,rfl⟩
theorem QZ (a:Option Addr) (n c:Nat) (L:List (wJ × Value)) (w:World) (hn:L.length=n) (h:YQ w a L) (hl:n<=4000000):
 Calls Tryz.prog 48 #[.slice a n c,.func (.func 49) #[] #[]] w fun e w'=>e=.returned (.int .i64 (pR (L.map Prod.fst) 0))/\Below w.heap.size w w':=by
 have HR:=zZ h;have HL:=zZ hn
 have hnI:(n:Int)<=4000000:=by omega
 have hK:∀(x:Value) (W:World),(callFunc 49 #[x]).run Tryz.prog W=.ok (.enter 49 #[x]) W:=fun _ _=>rfl
 clear h hn
 go_enter Tryz.func48,Tryz.ntmps48
 go_wp2
 go_loopg [8] n (fun gk v wr=>∃k:Nat,k<=n/\gk=n-k/\v=.int .i64 (k:Int)/\Below w.heap.size w wr/\pR (L.map Prod.fst) 0=pR ((L.map Prod.fst).drop k) k)
 case atStart=>exact ⟨0,Nat.zero_le _,rfl,rfl,Below.refl _ _,rfl⟩
 case round=>
  obtain ⟨k,hk,rfl,rfl,hB,hE⟩:=hrel;have HB:=zZ hB;have HE:=zZ hE;clear hB hE
  by_cases hlt:k<n
  ·have hki:(k:Int)<(n:Int):=by omega
   have hr:=HR.out.below HB.out
   rcases hr.lie with e|⟨g,off,rfl,hc⟩
   ·have:=HL.out;rw[e]at this;simp at this;omega
   obtain ⟨c0,c1,c2,c3,c4,c5,c6,c7,c8,c9,c10⟩:=hc k (by have:=HL.out;omega);obtain ⟨qa,qn,qc,hq⟩:=(hr.nums _ (gW (L:=L) (k:=k) (by have:=HL.out;omega))).slc;rw[hq]at c3;have HD:=zZ (JD (L:=L) (i:=k) (by have:=HL.out;omega));generalize (sD L k).1=x at *;obtain ⟨ki,xn,xt,ns,⟨fn,fp,fa⟩,⟨tn,tp,ta⟩,pl⟩:=x;simp only at c0 c1 c2 c3 c4 c5 c6 c7 c8 c9 c10
   have HU:Hid (pR (L.map Prod.fst) 0=if kZ ⟨ki,xn,xt,ns,⟨fn,fp,fa⟩,⟨tn,tp,ta⟩,pl⟩=true then (k:Int) else pR ((L.map Prod.fst).drop (k+1)) (k+1)):=by
    show _=_;rw[HE.out,HD.out];rfl
   have HC:Hid (∀ W,Calls Tryz.prog 49 #[.agg #[.int .u8 ki,.string (zW xn),.string (zW xt),.slice qa qn qc,.string (zW fn),.int .i64 fp,.int .i64 fa,.string (zW tn),.int .i64 tp,.int .i64 ta,.int .i64 pl]] W fun e w'=>e=.returned (.bool (kZ ⟨ki,xn,xt,ns,⟨fn,fp,fa⟩,⟨tn,tp,ta⟩,pl⟩))/\Below W.heap.size W w'):=fun W=>XA ki fp fa tp ta pl xn xt fn tn qa qn qc W
   generalize kZ ⟨ki,xn,xt,ns,⟨fn,fp,fa⟩,⟨tn,tp,ta⟩,pl⟩=b at *;clear hc hr hq
   cases b
   ·go_wp2_with (go_at_call 49;(with_reducible refine (HC.out _).mono ?_);rintro e w1 ⟨rfl,b1⟩;have B1:=zZ b1;clear b1)
    go_roundg (n-(k+1))
    case measure=>omega
    case rel=>exact ⟨k+1,by omega,rfl,by go_num,HB.out.trans (B1.out.mono HB.out.size),by rw[HU.out];rfl⟩
   go_wp2_with (go_at_call 49;(with_reducible refine (HC.out _).mono ?_);rintro e w1 ⟨rfl,b1⟩;have B1:=zZ b1;clear b1)
   go_ret
   exact ⟨by rw[HU.out];rfl,HB.out.trans (B1.out.mono HB.out.size)⟩
  have hki:¬(k:Int)<(n:Int):=by omega
  go_wp2
  go_ret
  refine ⟨?_,HB.out⟩
  rw[HE.out,List.drop_eq_nil_of_le (by rw[List.length_map,HL.out];omega)];rfl
theorem eF (x:wJ) (qa:Option Addr) (qn qc:Nat) (s:Nat) (w:World):
 Calls Tryz.prog 92 #[.agg (JI x.kind x.name x.tag (.slice qa qn qc) x.frm x.tgt x.place),.int .u8 (s:Int)] w fun e w'=>e=.returned (.int .i64 (mM x s))/\Below w.heap.size w w':=by
 obtain ⟨ki,xn,xt,ns,⟨fn,fp,fa⟩,⟨tn,tp,ta⟩,pl⟩:=x;unfold mM JI;simp only;have bx:=zL 103 w #[.int .u8 ki,.string (zW xn),.string (zW xt),.slice qa qn qc,.string (zW fn),.int .i64 fp,.int .i64 fa,.string (zW tn),.int .i64 tp,.int .i64 ta,.int .i64 pl];have c6:=bx.cell (k:=6) rfl;have c9:=bx.cell (k:=9) rfl;have c10:=bx.cell (k:=10) rfl;clear bx
 by_cases h1:s=1
 ·subst h1
  rw[if_pos rfl]
  go_enter Tryz.func92,Tryz.ntmps92
  go_wp2
  go_ret
  exact ⟨rfl,(Below.refl _ _).alloc (Nat.le_refl _) _⟩
 rw[if_neg h1]
 have e1:((s:Int)==1)=false:=by simp;omega
 by_cases h2:s=2
 ·subst h2
  rw[if_pos rfl]
  go_enter Tryz.func92,Tryz.ntmps92
  go_wp2
  go_ret
  exact ⟨rfl,(Below.refl _ _).alloc (Nat.le_refl _) _⟩
 rw[if_neg h2]
 have e2:((s:Int)==2)=false:=by simp;omega
 go_enter Tryz.func92,Tryz.ntmps92
 go_wp2
 go_ret
 exact ⟨rfl,(Below.refl _ _).alloc (Nat.le_refl _) _⟩
theorem UD (f:FL) (a:Option Addr) (n c:Nat) (L:List (wJ × Value)) (w:World) (hn:L.length=n) (h:YQ w a L) (hl:n<=4000000) (hf:f.number<=1000):
 Calls Tryz.prog 51 #[WS f,.slice a n c] w fun e w'=>e=.returned (.int .i64 (tU (L.map Prod.fst) 0 f))/\Below w.heap.size w w':=by
 have HR:=zZ h;have HL:=zZ hn
 have hnI:(n:Int)<=4000000:=by omega
 obtain ⟨fc,fk,fnr,fs⟩:=f;unfold WS;simp only at hf ⊢;have ba:=(Below.refl w.heap.size w).alloc (Nat.le_refl _) (.cells #[.int .i64 fc,.int .u8 (fk:Int),.int .i64 (fnr:Int),.int .u8 (fs:Int)] 85);have BA:=zZ ba;have BX:=zZ (zL 85 w #[.int .i64 fc,.int .u8 (fk:Int),.int .i64 (fnr:Int),.int .u8 (fs:Int)])
 have hfI:(fnr:Int)<=1000:=by omega
 clear h hn ba
 go_enter Tryz.func51,Tryz.ntmps51
 go_wp2
 go_loopg [5,10] n (fun gk nv v wr=>∃k m:Nat,k<=n/\m<=k/\gk=n-k/\v=.int .i64 (k:Int)/\nv=.int .i64 (m:Int)/\Below w.heap.size w wr/\zD 85 w.heap.size wr #[.int .i64 fc,.int .u8 (fk:Int),.int .i64 (fnr:Int),.int .u8 (fs:Int)]/\tU (L.map Prod.fst) 0 ⟨fc,fk,fnr,fs⟩=tU ((L.map Prod.fst).drop k) m ⟨fc,fk,fnr,fs⟩)
 case atStart=>exact ⟨0,0,Nat.zero_le _,Nat.le_refl _,rfl,rfl,rfl,BA.out,BX.out,rfl⟩
 case round=>
  obtain ⟨k,m,hk,hmk,rfl,rfl,rfl,hB,hX,hE⟩:=hrel;have HB:=zZ hB;have HX:=zZ hX;have HE:=zZ hE;clear hB hE hX
  by_cases hlt:k<n
  ·have hki:(k:Int)<(n:Int):=by omega
   have hr:=HR.out.below HB.out
   rcases hr.lie with e|⟨g,off,rfl,hc⟩
   ·have:=HL.out;rw[e]at this;simp at this;omega
   obtain ⟨c0,c1,c2,c3,c4,c5,c6,c7,c8,c9,c10⟩:=hc k (by have:=HL.out;omega);obtain ⟨qa,qn,qc,hq⟩:=(hr.nums _ (gW (L:=L) (k:=k) (by have:=HL.out;omega))).slc;rw[hq]at c3;have HD:=zZ (JD (L:=L) (i:=k) (by have:=HL.out;omega));generalize (sD L k).1=x at *;obtain ⟨ki,xn,xt,ns,⟨fn,fp,fa⟩,⟨tn,tp,ta⟩,pl⟩:=x;simp only at c0 c1 c2 c3 c4 c5 c6 c7 c8 c9 c10
   have HU:Hid (tU (L.map Prod.fst) 0 ⟨fc,fk,fnr,fs⟩=if ki=(fk:Int) then (if m=fnr then mM ⟨ki,xn,xt,ns,⟨fn,fp,fa⟩,⟨tn,tp,ta⟩,pl⟩ fs else tU ((L.map Prod.fst).drop (k+1)) (m+1) ⟨fc,fk,fnr,fs⟩) else tU ((L.map Prod.fst).drop (k+1)) m ⟨fc,fk,fnr,fs⟩):=by
    show _=_;rw[HE.out,HD.out];rfl
   have bv:=(Below.refl wr.heap.size wr).alloc (Nat.le_refl _) (.cells #[.int .u8 ki,.string (zW xn),.string (zW xt),.slice qa qn qc,.string (zW fn),.int .i64 fp,.int .i64 fa,.string (zW tn),.int .i64 tp,.int .i64 ta,.int .i64 pl] 103);have BV:=zZ (HB.out.trans (bv.mono HB.out.size));have XV:=zZ (HX.out.below bv);have x1:=XV.out.cell (k:=1) rfl;have x2:=XV.out.cell (k:=2) rfl;have x3:=XV.out.cell (k:=3) rfl
   have PW:Hid (∀ W,Calls Tryz.prog 92 #[.agg #[.int .u8 ki,.string (zW xn),.string (zW xt),.slice qa qn qc,.string (zW fn),.int .i64 fp,.int .i64 fa,.string (zW tn),.int .i64 tp,.int .i64 ta,.int .i64 pl],.int .u8 (fs:Int)] W fun e w'=>e=.returned (.int .i64 (mM ⟨ki,xn,xt,ns,⟨fn,fp,fa⟩,⟨tn,tp,ta⟩,pl⟩ fs))/\Below W.heap.size W w'):=fun W=>eF ⟨ki,xn,xt,ns,⟨fn,fp,fa⟩,⟨tn,tp,ta⟩,pl⟩ qa qn qc fs W
   clear hc hr hq bv
   by_cases h1:ki=(fk:Int)
   ·subst h1
    have e1:(((fk:Int))!=(fk:Int))=false:=by simp
    by_cases h2:m=fnr
    ·subst h2
     have e2:((m:Int)==(m:Int))=true:=by simp
     go_wp2_with (go_at_call 92;(with_reducible refine (PW.out _).mono ?_);rintro e w1 ⟨rfl,b1⟩;have B1:=zZ b1;clear b1)
     go_ret
     exact ⟨by rw[HU.out,if_pos trivial,if_pos trivial];rfl,BV.out.trans (B1.out.mono BV.out.size)⟩
    have e2:((m:Int)==(fnr:Int))=false:=by simp;omega
    go_wp2
    go_roundg (n-(k+1))
    case measure=>omega
    case rel=>exact ⟨k+1,m+1,by omega,by omega,rfl,by go_num,by go_num,BV.out,XV.out,by rw[HU.out,if_pos trivial,if_neg h2]⟩
   have e1:(ki !=(fk:Int))=true:=by simpa using h1
   go_wp2
   go_roundg (n-(k+1))
   case measure=>omega
   case rel=>exact ⟨k+1,m,by omega,by omega,rfl,by go_num,rfl,BV.out,XV.out,by rw[HU.out,if_neg h1]⟩
  have hki:¬(k:Int)<(n:Int):=by omega
  go_wp2
  go_ret
  refine ⟨?_,HB.out⟩
  rw[HE.out,List.drop_eq_nil_of_le (by rw[List.length_map,HL.out];omega)];rfl
end Go.Proofs.YtdcjdnkdeamigaaGreatDoor
