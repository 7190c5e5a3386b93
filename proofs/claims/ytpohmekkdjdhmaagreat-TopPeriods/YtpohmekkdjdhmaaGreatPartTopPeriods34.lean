/- Texts of one chain. -/
import Derived.Test.YtpohmekkdjdhmaaGreatPartQ
import Derived.Test.YtpohmekkdjdhmaaGreatPartTopPeriods21
import Derived.Test.YtpohmekkdjdhmaaGreatPartTopPeriods33
set_option maxRecDepth 100000
set_option maxHeartbeats 16000000
namespace Go.Proofs.YtpohmekkdjdhmaaGreat
open Go.ChangeShapes Go.WideShapes Go.ChangeAt Go.RowKit
structure GhW where
 a:Option Addr
 c:Nat
 F:Nat->Nat
def NH (j:Nat):Prop:=j=5\/j=8\/j=10
structure CW (V : World) (L : List NA) (N : Nat) (y : GhW) (d : Nat -> Bool) (u : World) : Prop where
 bel:Below V.heap.size V u
 arcs:d 2=true->vN u y.a L/\∀x,y.a=some x->V.heap.size<=x.block/\x.block<u.heap.size/\∀j,d j=true->NH j->x.block≠y.F j
 rng:∀j,d j=true->NH j->V.heap.size<=y.F j/\y.F j<u.heap.size
 dis:∀i j,d i=true->d j=true->NH i->NH j->i≠j->y.F i≠y.F j
 t5:d 5=true->u.rowIs (y.F 5) 27 N (fun _=>qN)
 t8:d 8=true->u.rowIs (y.F 8) 27 N (fun _=>qN)
 t10:d 10=true->zE 88 (y.F 10) u (if d 11=true then #[.slice y.a L.length y.c,.slice (some ⟨y.F 5,0,none⟩) N N,.slice (some ⟨y.F 8,0,none⟩) N N] else #[qN,qN,qN])
theorem CW.start (V:World) (L:List NA) (N:Nat) (y:GhW):CW V L N y (fun _=>false) V:=
 ⟨Below.refl _ _,(fun h=>by cases h),(fun _ h=>by cases h),(fun _ _ h=>by cases h),(fun h=>by cases h),(fun h=>by cases h),(fun h=>by cases h)⟩
theorem CW.later {V u u':World} {L:List NA} {N:Nat} {y:GhW} {d:Nat->Bool} (h:CW V L N y d u) (hb:Below u.heap.size u u'):CW V L N y d u':=by
 have hs:=hb.size;refine ⟨h.bel.trans (hb.mono h.bel.size),fun e=>?_,fun j e hj=>?_,h.dis,fun e=>(h.t5 e).of_block (hb.block _ (h.t5 e).lt),fun e=>(h.t8 e).of_block (hb.block _ (h.t8 e).lt),fun e=>(h.t10 e).below hb⟩
 ·obtain ⟨h1,h2⟩:=h.arcs e
  exact ⟨h1.below hb,fun x hx=>⟨(h2 x hx).1,Nat.lt_of_lt_of_le (h2 x hx).2.1 hs,(h2 x hx).2.2⟩⟩
 have:=h.rng j e hj;exact ⟨this.1,by omega⟩
theorem zL (d:Nat->Bool) (i:Nat):zA d i i=true:=by unfold zA;rw[if_pos rfl]
theorem zP (d:Nat->Bool) {i j:Nat} (h:j≠i):zA d i j=d j:=by unfold zA;rw[if_neg h]
theorem CW.m2 {V u u':World} {L:List NA} {N:Nat} {y:GhW} {d:Nat->Bool} {a:Option Addr} {c:Nat} (h:CW V L N y d u) (h11:d 11=false) (h1:vN u' a L) (h2:∀x,a=some x->u.heap.size<=x.block/\x.block<u'.heap.size) (hb:Below u.heap.size u u'):CW V L N ⟨a,c,y.F⟩ (zA d 2) u':=by
 have g:=h.later hb;have hs:=h.bel.size;have d11:zA d 2 11=false:=(zP d (by decide)).trans h11;have t10:=g.t10;rw[h11]at t10
 have k3:∀j,zA d 2 j=true->NH j->d j=true:=fun j hj h3=>by
  rw[zP d (by rcases h3 with rfl|rfl|rfl<;>decide)]at hj;exact hj
 refine ⟨g.bel,fun _=>⟨h1,fun x hx=>⟨by have:=(h2 x hx).1;omega,(h2 x hx).2,fun j hj h3=>?_⟩⟩,fun j hj h3=>g.rng j (k3 j hj h3) h3,fun i j hi hj i3 j3=>g.dis i j (k3 i hi i3) (k3 j hj j3) i3 j3,g.t5,g.t8,?_⟩
 ·have q1:=(h.rng j (k3 j hj h3) h3).2
  have q2:=(h2 x hx).1;show x.block≠y.F j
  omega
 rw[d11];exact t10
theorem CW.made {V u:World} {L:List NA} {N:Nat} {y:GhW} {d:Nat->Bool} (i:Nat) (o:Obj) (hi:NH i) (h:CW V L N y d u) (h0:d i=false) (h11:d 11=false)
 (h5:i=5->(u.alloc o).rowIs u.heap.size 27 N (fun _=>qN)) (h8:i=8->(u.alloc o).rowIs u.heap.size 27 N (fun _=>qN)) (h10:i=10->zE 88 u.heap.size (u.alloc o) #[qN,qN,qN]):CW V L N ⟨y.a,y.c,oX y.F i u.heap.size⟩ (zA d i) (u.alloc o):=by
 have hb:Below u.heap.size u (u.alloc o):=(Below.refl _ _).alloc (Nat.le_refl _) o;have g:=h.later hb;have hs:=h.bel.size;have hsz:(u.alloc o).heap.size=u.heap.size+1:=World.size_alloc _ _
 have n2:(2:Nat)≠i:=by rcases hi with rfl|rfl|rfl<;>decide
 have n11:(11:Nat)≠i:=by rcases hi with rfl|rfl|rfl<;>decide
 have d11:zA d i 11=false:=(zP d n11).trans h11;have t10:=g.t10;rw[h11]at t10
 have old:∀j,zA d i j=true->j≠i->d j=true:=fun j hj hne=>by rw[zP d hne]at hj;exact hj
 refine ⟨g.bel,fun h2=>?_,fun j hj h3=>?_,fun p q hp hq p3 q3 hne=>?_,fun h5'=>?_,fun h8'=>?_,fun h10'=>?_⟩
 ·rw [zP d n2]at h2
  obtain ⟨q1,q2⟩:=g.arcs h2;refine ⟨q1,fun x hx=>⟨(q2 x hx).1,(q2 x hx).2.1,fun j hj h3=>?_⟩⟩
  by_cases e:j=i
  ·subst e
   show x.block≠oX y.F j u.heap.size j;rw[yN];have:=((h.arcs h2).2 x hx).2.1;omega
  show x.block≠oX y.F i u.heap.size j;rw[yZ e];exact (q2 x hx).2.2 j (old j hj e) h3
 ·by_cases e:j=i
  ·subst e
   show V.heap.size<=oX y.F j u.heap.size j/\oX y.F j u.heap.size j<_;rw[yN,hsz];omega
  show V.heap.size<=oX y.F i u.heap.size j/\oX y.F i u.heap.size j<_;rw[yZ e];exact g.rng j (old j hj e) h3
 ·show oX y.F i u.heap.size p≠oX y.F i u.heap.size q
  by_cases e:p=i
  ·subst e
   rw[yN,yZ (Ne.symm hne)];have:=(h.rng q (old q hq (Ne.symm hne)) q3).2;omega
  rw[yZ e]
  by_cases e2:q=i
  ·subst e2
   rw[yN];have:=(h.rng p (old p hp e) p3).2;omega
  rw[yZ e2];exact g.dis p q (old p hp e) (old q hq e2) p3 q3 hne
 ·by_cases e:(5:Nat)=i
  ·show (u.alloc o).rowIs (oX y.F i u.heap.size 5) 27 N _
   rw[<- e,yN];exact h5 e.symm
  show (u.alloc o).rowIs (oX y.F i u.heap.size 5) 27 N _;rw[yZ e];exact g.t5 (old 5 h5' e)
 ·by_cases e:(8:Nat)=i
  ·show (u.alloc o).rowIs (oX y.F i u.heap.size 8) 27 N _
   rw[<- e,yN];exact h8 e.symm
  show (u.alloc o).rowIs (oX y.F i u.heap.size 8) 27 N _;rw[yZ e];exact g.t8 (old 8 h8' e)
 rw[d11]
 by_cases e:(10:Nat)=i
 ·show zE 88 (oX y.F i u.heap.size 10) (u.alloc o) _
  rw[<- e,yN];exact h10 e.symm
 show zE 88 (oX y.F i u.heap.size 10) (u.alloc o) _;rw[yZ e];exact t10 (old 10 h10' e)
theorem CW.m11 {V u u':World} {L:List NA} {N:Nat} {y:GhW} {d:Nat->Bool} (h:CW V L N y d u) (h2:d 2=true) (h5:d 5=true) (h8:d 8=true) (h10:d 10=true)
 (hb:xX (y.F 10) u u') (hs:zE 88 (y.F 10) u' #[.slice y.a L.length y.c,.slice (some ⟨y.F 5,0,none⟩) N N,.slice (some ⟨y.F 8,0,none⟩) N N]):CW V L N y (zA d 11) u':=by
 have i5:NH 5:=.inl rfl;have i8:NH 8:=.inr (.inl rfl);have i10:NH 10:=.inr (.inr rfl)
 have k:∀j,NH j->zA d 11 j=true->d j=true:=fun j h3 hj=>by
  rw[zP d (by rcases h3 with rfl|rfl|rfl<;>decide)]at hj;exact hj
 obtain ⟨a1,a2⟩:=h.arcs h2;refine ⟨h.bel.trans (hb.below (h.rng 10 h10 i10).1 h.bel.size),fun _=>⟨a1.keep fun x hx=>hb.block _ (a2 x hx).2.1 ((a2 x hx).2.2 10 h10 i10),fun x hx=>⟨(a2 x hx).1,Nat.lt_of_lt_of_le (a2 x hx).2.1 hb.size,fun j hj h3=>(a2 x hx).2.2 j (k j h3 hj) h3⟩⟩,fun j hj h3=>?_,fun p q hp hq p3 q3=>h.dis p q (k p p3 hp) (k q q3 hq) p3 q3,fun _=>(h.t5 h5).of_block (hb.block _ (h.t5 h5).lt (h.dis 5 10 h5 h10 i5 i10 (by decide))),fun _=>(h.t8 h8).of_block (hb.block _ (h.t8 h8).lt (h.dis 8 10 h8 h10 i8 i10 (by decide))),fun _=>?_⟩
 ·have:=h.rng j (k j h3 hj) h3
  exact ⟨this.1,Nat.lt_of_lt_of_le this.2 hb.size⟩
 rw[zL,if_pos rfl];exact hs
theorem PI {w:World} {o:Oper} {ρ :Operand->Value} (ty:TypeId) (x y:Operand) (ho:o.op=.store ty x y) (b:Nat) (S:TypeId) (old cells:Array Value) (hx: ρ x=(qP b)) (hy: ρ y=.agg cells) (hB:zE S b w old) (hi:(Tryz.prog.info? ty).map (·.size)=some cells.size) (hold:old.size=cells.size) (h1:cells.toList.all (·.oneCell')=true)
 {Q:World->Value->Prop} (h:∀w',zE S b w' cells->xX b w w'->Q w' undef):zC Tryz.prog w Q ((execOp ρ o).run Tryz.prog w):=by
 have hr:=run_storeVar_row (P:=Tryz.prog) w b S ty old cells hB hi hold (by rw[<- Array.all_toList];exact h1);unfold execOp;simp only[ho,hx,hy,Instr.storeAt,Instr.sureAddr,Sem.run_bind,Sem.run_pure,Result.andThen_ok,hr];exact h _ (setRow_heap w b old cells S _ hB) (aJ w b cells)
theorem Tryz.infoSN:(Tryz.prog.info? 27).map (fun i=>(i.zero,i.size,i.bytes))=some (some (qN),1,24):=by kernel_rfl
theorem zVC:(Tryz.prog.info? 88).map (·.size)=some 3:=by kernel_rfl
structure oL (B : Nat) (V : World) (d0 : Option Addr) (L : List Int) (u : World) (d : Option Addr) (c : Nat) : Prop where
 own:zO B u d c L
 keep:∀k,k<V.heap.size->(∀ y,d0=some y->y.block≠k)->u.heap[k]? =V.heap[k]?
 new:∀z,d=some z->d0=some z\/V.heap.size<=z.block
 size:V.heap.size<=u.heap.size
 os:u.os=V.os
 tape:u.tape=V.tape
 output:u.output=V.output
theorem oL.later {B:Nat} {V u u':World} {d0:Option Addr} {L:List Int} {d:Option Addr} {c:Nat} (h:oL B V d0 L u d c) (hb:Below u.heap.size u u'):oL B V d0 L u' d c:=
 ⟨h.own.later hb,fun k hk hn=>(hb.block k (Nat.lt_of_lt_of_le hk h.size)).trans (h.keep k hk hn),h.new,Nat.le_trans h.size hb.size,hb.os.trans h.os,hb.tape.trans h.tape,hb.output.trans h.output⟩
theorem kR {V w:World} {o:Oper} {ρ :Operand->Value} (s x:Operand) (ho:o.op=.call { callee:=.builtin .append,args:=#[s,x],argTypes:=#[27,27] }) {B g c0:Nat} {d0:Option Addr} {zs:List Int} {i:Int} (hs: ρ s=.slice d0 zs.length c0) (hx: ρ x=.slice (some ⟨g,0,none⟩) 1 1) (hown:zO B V d0 c0 zs) (hb:Below V.heap.size V w) (hc:w.cell? ⟨g,0,none⟩=some (.int .i64 i)) (hn:zs.length<=1000000) (hB:B<=V.heap.size)
 {T:World->Value->Prop} (h:∀u d c,oL B V d0 (zs++[i]) u d c->T u (.slice d (zs.length+1) c)):zC Tryz.prog w T ((execOp ρ o).run Tryz.prog w):=by
 obtain ⟨i1,hi1,hy0,hy1,hy2⟩:=info_parts Tryz.info3;have hown2:zO B w d0 c0 zs:=hown.later hb
 obtain ⟨v',w',hr,h2,h3⟩:=wD (P:=Tryz.prog) w B 27 o.type 3 i1 (.int .i64 0) 1 8 Tryz.underlying27 hi1 hy0 hy1 hy2 rfl (by decide) (.slice d0 zs.length c0) zs.length _ hown2 ⟨g,0,none⟩ 1 1 (by decide) [.int .i64 i] rfl (fun j u hu=>by
  match j,hu with
  |0,hu=>
   simp at hu;subst hu
   simpa [Addr.add] using hc) (fun u hu=>by simp at hu;subst hu;rfl) (by unfold maxLen;omega) (by omega) (Nat.le_trans hB hb.size)
 have h2':w'.ownsRow B 3 1 v' (zs++[i]).length ((zs++[i]).map (Value.int .i64)):=by simpa using h2
 unfold execOp;simp only[ho,resolve,invoke,builtin,Sem.run_bind,Sem.run_pure,Result.andThen_ok,List.map_toArray,List.map_cons,List.map_nil,hs,hx,hr]
 rcases h3 with ⟨g1,cap,e1,rfl,hg⟩|⟨cap,rfl,hg⟩
 ·cases e1
  refine h w' _ _ ⟨by unfold zO;simpa using h2',fun k hk hne=>?_,fun z hz=>.inl hz,Nat.le_trans hb.size hg.size,hg.os.trans hb.os,hg.tape.trans hb.tape,hg.output.trans hb.output⟩
  exact (hg.block k (Nat.lt_of_lt_of_le hk hb.size) (fun e=>by cases e;exact hne _ rfl rfl)).trans (hb.block k hk)
 refine h w' _ _ ⟨by unfold zO;simpa using h2',fun k hk hne=>?_,fun z hz=>by cases hz;exact .inr hb.size,Nat.le_trans hb.size hg.size,hg.os.trans hb.os,hg.tape.trans hb.tape,hg.output.trans hb.output⟩
 exact (hg.block k (Nat.lt_of_lt_of_le hk hb.size) (fun e=>by cases e)).trans (hb.block k hk)
structure LW (B : Nat) (V0 wr : World) (L : List NA) (N : Nat) (P H1 H2 cA : Nat) (aA : Option Addr) (D1 D2 : Nat -> Option Addr) (E1 E2 : Nat -> Nat) (Y1 Y2 : Nat -> List Int) : Prop where
 t1:tV B wr H1 N D1 E1 Y1
 t2:tV B wr H2 N D2 E2 Y2
 sep:∀k,XK N H1 D1 k->¬XK N H2 D2 k
 p1:∀k,XK N H1 D1 k->k≠P/\∀x,aA=some x->x.block≠k
 p2:∀k,XK N H2 D2 k->k≠P/\∀x,aA=some x->x.block≠k
 arcs:vN wr aA L
 low:∀x,aA=some x->B<=x.block/\x.block<wr.heap.size
 blk:zE 88 P wr #[.slice aA L.length cA,.slice (some ⟨H1,0,none⟩) N N,.slice (some ⟨H2,0,none⟩) N N]
 bel:Below B V0 wr
theorem LW.later {B:Nat} {V0 wr w':World} {L:List NA} {N:Nat} {P H1 H2 cA:Nat} {aA:Option Addr} {D1 D2:Nat->Option Addr} {E1 E2:Nat->Nat} {Y1 Y2:Nat->List Int} (h:LW B V0 wr L N P H1 H2 cA aA D1 D2 E1 E2 Y1 Y2) (hb:Below wr.heap.size wr w') (hB:B<=wr.heap.size):LW B V0 w' L N P H1 H2 cA aA D1 D2 E1 E2 Y1 Y2:=
 ⟨h.t1.below hb,h.t2.below hb,h.sep,h.p1,h.p2,h.arcs.below hb,fun x hx=>⟨(h.low x hx).1,Nat.lt_of_lt_of_le (h.low x hx).2 hb.size⟩,h.blk.below hb,h.bel.trans (hb.mono hB)⟩
structure PH (B : Nat) (V : World) (H N tv : Nat) (D : Nat -> Option Addr) (E : Nat -> Nat) (Y : Nat -> List Int) (R : List Int) (u : World) (d : Option Addr) (c : Nat) : Prop where
 tab:tV B u H N (oX D tv d) (oX E tv c) (oX Y tv R)
 keep:∀k,k<V.heap.size->¬XK N H D k->u.heap[k]? =V.heap[k]?
 new:∀z,d=some z->D tv=some z\/V.heap.size<=z.block
 size:V.heap.size<=u.heap.size
 os:u.os=V.os
 tape:u.tape=V.tape
 output:u.output=V.output
theorem LW.step1 {B:Nat} {V0 V u:World} {L:List NA} {N:Nat} {P H1 H2 cA tv c:Nat} {aA d:Option Addr} {D1 D2:Nat->Option Addr} {E1 E2:Nat->Nat} {Y1 Y2:Nat->List Int} {R:List Int} (h:LW B V0 V L N P H1 H2 cA aA D1 D2 E1 E2 Y1 Y2) (hB:B<=V.heap.size) (htv:tv<N) (f:PH B V H1 N tv D1 E1 Y1 R u d c):LW B V0 u L N P H1 H2 cA aA (oX D1 tv d) D2 (oX E1 tv c) E2 (oX Y1 tv R) Y2:=by
 have in1:∀k,XK N H1 (oX D1 tv d) k->XK N H1 D1 k\/V.heap.size<=k:=fun k hk=>by
  rcases FR hk with h1|⟨z,hz,rfl⟩
  ·exact .inl h1
  rcases f.new z hz with h2|h2
  ·exact .inl (.inr ⟨tv,z,htv,h2,rfl⟩)
  exact .inr h2
 have k2:∀k,XK N H2 D2 k->u.heap[k]? =V.heap[k]? :=fun k hk=>f.keep k (h.t2.lt hk).2 (fun e=>h.sep k e hk)
 refine ⟨f.tab,h.t2.keep k2,fun k hk hk'=>?_,fun k hk=>?_,h.p2,h.arcs.keep (fun x hx=>f.keep _ (h.low x hx).2 (fun e=>(h.p1 _ e).2 x hx rfl)),fun x hx=>⟨(h.low x hx).1,Nat.lt_of_lt_of_le (h.low x hx).2 f.size⟩,h.blk.keep (f.keep _ h.blk.lt (fun e=>(h.p1 _ e).1 rfl)),⟨f.os.trans h.bel.os,f.tape.trans h.bel.tape,f.output.trans h.bel.output,Nat.le_trans h.bel.size f.size,fun k hk=>(f.keep k (Nat.lt_of_lt_of_le hk hB) (fun e=>by have:=(h.t1.lt e).1;omega)).trans (h.bel.block k hk)⟩⟩
 ·rcases in1 k hk with h1|h1
  ·exact h.sep k h1 hk'
  have:=(h.t2.lt hk').2;omega
 rcases in1 k hk with h1|h1
 ·exact h.p1 k h1
 exact ⟨by have:=h.blk.lt;omega,fun x hx=>by have:=(h.low x hx).2;omega⟩
theorem LW.step2 {B:Nat} {V0 V u:World} {L:List NA} {N:Nat} {P H1 H2 cA tv c:Nat} {aA d:Option Addr} {D1 D2:Nat->Option Addr} {E1 E2:Nat->Nat} {Y1 Y2:Nat->List Int} {R:List Int} (h:LW B V0 V L N P H1 H2 cA aA D1 D2 E1 E2 Y1 Y2) (hB:B<=V.heap.size) (htv:tv<N) (f:PH B V H2 N tv D2 E2 Y2 R u d c):LW B V0 u L N P H1 H2 cA aA D1 (oX D2 tv d) E1 (oX E2 tv c) Y1 (oX Y2 tv R):=by
 have in2:∀k,XK N H2 (oX D2 tv d) k->XK N H2 D2 k\/V.heap.size<=k:=fun k hk=>by
  rcases FR hk with h1|⟨z,hz,rfl⟩
  ·exact .inl h1
  rcases f.new z hz with h2|h2
  ·exact .inl (.inr ⟨tv,z,htv,h2,rfl⟩)
  exact .inr h2
 have k2:∀k,XK N H1 D1 k->u.heap[k]? =V.heap[k]? :=fun k hk=>f.keep k (h.t1.lt hk).2 (fun e=>h.sep k hk e)
 refine ⟨h.t1.keep k2,f.tab,fun k hk hk'=>?_,h.p1,fun k hk=>?_,h.arcs.keep (fun x hx=>f.keep _ (h.low x hx).2 (fun e=>(h.p2 _ e).2 x hx rfl)),fun x hx=>⟨(h.low x hx).1,Nat.lt_of_lt_of_le (h.low x hx).2 f.size⟩,h.blk.keep (f.keep _ h.blk.lt (fun e=>(h.p2 _ e).1 rfl)),⟨f.os.trans h.bel.os,f.tape.trans h.bel.tape,f.output.trans h.bel.output,Nat.le_trans h.bel.size f.size,fun k hk=>(f.keep k (Nat.lt_of_lt_of_le hk hB) (fun e=>by have:=(h.t2.lt e).1;omega)).trans (h.bel.block k hk)⟩⟩
 ·rcases in2 k hk' with h1|h1
  ·exact h.sep k hk h1
  have:=(h.t1.lt hk).2;omega
 rcases in2 k hk with h1|h1
 ·exact h.p2 k h1
 exact ⟨by have:=h.blk.lt;omega,fun x hx=>by have:=(h.low x hx).2;omega⟩
theorem EY {B:Nat} {V u:World} {H N tv c:Nat} {D:Nat->Option Addr} {E:Nat->Nat} {Y:Nat->List Int} {R:List Int} {d:Option Addr} (h:tV B V H N D E Y) (hi:tv<N) (g:oL B V (D tv) R u d c):PH B V H N tv D E Y R (u.setCell ⟨H,tv,none⟩ (.slice d R.length c)) d c:=by
 refine ⟨h.put hi g.own g.keep g.new,fun k hk hn=>?_,g.new,by rw[World.size_setCell];exact g.size,g.os,g.tape,g.output⟩
 have k1:k≠H:=fun e=>hn (.inl e)
 rw[Below.heap_setCell u ⟨H,tv,none⟩ _ k k1];exact g.keep k hk (fun y hy e=>hn (.inr ⟨tv,y,hi,hy,e⟩))
theorem zVB {A:List NA} {q tv:Nat} (h:(zU A q).t=(tv:Int)):oX (fun v:Nat=>yT (lR (v:Int)) A q) tv (yT (lR (tv:Int)) A q++[(q:Int)])=fun v:Nat=>yT (lR (v:Int)) A (q+1):=by
 funext v
 by_cases e:v=tv
 ·subst e;rw[yN,oW (by unfold lR;exact decide_eq_true h)]
 rw[yZ e,iQ (by unfold lR;exact decide_eq_false (by rw[h];omega))]
theorem JT {A:List NA} {q tv:Nat} (h:(zU A q).f=(tv:Int)):oX (fun v:Nat=>yT (wO (v:Int)) A q) tv (yT (wO (tv:Int)) A q++[(q:Int)])=fun v:Nat=>yT (wO (v:Int)) A (q+1):=by
 funext v
 by_cases e:v=tv
 ·subst e;rw[yN,oW (by unfold wO;exact decide_eq_true h)]
 rw[yZ e,iQ (by unfold wO;exact decide_eq_false (by rw[h];omega))]
theorem PH.later {B:Nat} {V u u':World} {H N tv c:Nat} {D:Nat->Option Addr} {E:Nat->Nat} {Y:Nat->List Int} {R:List Int} {d:Option Addr} (h:PH B V H N tv D E Y R u d c) (hb:Below u.heap.size u u'):PH B V H N tv D E Y R u' d c:=
 ⟨h.tab.below hb,fun k hk hn=>(hb.block k (Nat.lt_of_lt_of_le hk h.size)).trans (h.keep k hk hn),h.new,Nat.le_trans h.size hb.size,hb.os.trans h.os,hb.tape.trans h.tape,hb.output.trans h.output⟩
def UC (n:NN) (w:World) (e:Ending) (w':World):Prop:=∃(aA:Option Addr) (cA H1 H2:Nat) (D1 D2:Nat->Option Addr) (E1 E2:Nat->Nat),e=.returned (.agg #[.slice aA n.arcs.length cA,.slice (some ⟨H1,0,none⟩) n.nodes.toNat n.nodes.toNat,.slice (some ⟨H2,0,none⟩) n.nodes.toNat n.nodes.toNat])/\vN w' aA n.arcs/\(∀ x,aA=some x->w.heap.size<=x.block/\x.block<w'.heap.size)/\tV w.heap.size w' H1 n.nodes.toNat D1 E1 (fun v=>yR n v)/\tV w.heap.size w' H2 n.nodes.toNat D2 E2 (fun v=>xW n v)/\Below w.heap.size w w'
theorem tV.mono {B B':Nat} {w:World} {H N:Nat} {D:Nat->Option Addr} {E:Nat->Nat} {Y:Nat->List Int} (h:tV B w H N D E Y) (hB:B'<=B):tV B' w H N D E Y:=⟨fun j hj=>(h.own j hj).mono hB,h.long,h.dd,h.dt,Nat.le_trans hB h.low⟩
theorem zZW (n:NN) (a:Option Addr) (c:Nat) (w:World) (hS:yI n) (h:vN w a n.arcs) (hna:a=none->n.arcs.length=0/\c=0):Calls Tryz.prog 30 #[.agg #[.int .i64 n.nodes,.slice a n.arcs.length c]] w (UC n w):=by
 have hnn:=wJ hS;obtain ⟨WE,hWE⟩:∃R,UC n w=R:=⟨_,rfl⟩;rw[hWE];have HWE:=zZ hWE;clear hWE;obtain ⟨m,L⟩:=n;simp only at *;obtain ⟨N,hN⟩:∃N,m.toNat=N:=⟨_,rfl⟩;rw[hN]at hnn;obtain ⟨rfl⟩:m=(N:Int):=hnn.1.symm;have hmost:=hS.most;have HSA:=zZ hS.arcs;simp only at hmost HSA;obtain ⟨len,hlen⟩:∃q,L.length=q:=⟨_,rfl⟩;rw[hlen]at hmost hna HSA ⊢;have HL:Hid (L.length=len):=hlen;have b0:=(Below.refl w.heap.size w).alloc (Nat.le_refl _) (.cells #[.int .i64 (N:Int),.slice a len c] 30);have b1:=b0.alloc b0.size (.cells #[qN,qN,qN] 88);have g0:=(zV 30 w #[.int .i64 (N:Int),.slice a len c]).below ((Below.refl _ _).alloc (Nat.le_refl _) (.cells #[qN,qN,qN] 88));have G1:=zZ (zV 88 (w.alloc (.cells #[.int .i64 (N:Int),.slice a len c] 30)) #[qN,qN,qN]);have y0:=g0.cell (k:=0) rfl;have y1:=g0.cell (k:=1) rfl;simp only[List.getElem_toArray,List.getElem_cons_zero,List.getElem_cons_succ]at y0 y1;have B1:=zZ b1;have HA:=zZ h;have HM:=zZ (run_make_row' (P:=Tryz.prog) 86 27 (qN) 24 Tryz.underlying86 Tryz.infoSN rfl .i64 .i64 N (by omega) (by omega));have hsz:(w.alloc (.cells #[.int .i64 (N:Int),.slice a len c] 30)).heap.size=w.heap.size+1:=World.size_alloc _ _;rw[hsz]at G1;have G0:=zZ g0;clear b0 b1 g0 h
 go_enter Tryz.func30,Tryz.ntmps30
 go_upto_region 1 with fail
 generalize (w.alloc (.cells #[.int .i64 (N:Int),.slice a len c] 30)).alloc (.cells #[qN,qN,qN] 88)=V0 at *
 have CL:Hid (∀ U,Below V0.heap.size V0 U->Calls Tryz.prog 59 #[.slice a len c] U (FS U L)):=fun U hb=>KR a L len c U HL.out hmost hna (HA.out.below (B1.out.trans (hb.mono B1.out.size)))
 refine pL [2,5,8,10,11] (fun y d i u z=>match i with
  |0=>z=.pointer (some ⟨w.heap.size,1,none⟩)
  |1=>z=.slice a len c
  |2=>(d 2=true/\z=.slice y.a len y.c)
  |3=>z=(qP w.heap.size)
  |4=>z=.int .i64 (N:Int)
  |5=>(d 5=true/\z=.slice (some ⟨y.F 5,0,none⟩) N N)
  |6=>z=(qP w.heap.size)
  |7=>z=.int .i64 (N:Int)
  |8=>(d 8=true/\z=.slice (some ⟨y.F 8,0,none⟩) N N)
  |9=>((d 2=true/\d 5=true/\d 8=true)/\z=.agg #[.slice y.a len y.c,.slice (some ⟨y.F 5,0,none⟩) N N,.slice (some ⟨y.F 8,0,none⟩) N N])
  |10=>(d 10=true/\z=.pointer (some ⟨y.F 10,0,none⟩))
  |11=>True
  |_=>True) (fun y d u=>CW V0 L N y d u) (⟨none,0,fun _=>0⟩) (by kernel_rfl) (by kernel_rfl) (by kernel_rfl) ?_ ?_ ?_ ?_ ?_ ?_ (by kernel_rfl)
 ·intro y d i w v w' h hb
  match i,h with
  |0,h=>exact h
  |1,h=>exact h
  |2,h=>exact h
  |3,h=>exact h
  |4,h=>exact h
  |5,h=>exact h
  |6,h=>exact h
  |7,h=>exact h
  |8,h=>exact h
  |9,h=>exact h
  |10,h=>exact h
  |11,h=>exact h
  |_+12,_=>trivial
 ·intro y d u u' h hb
  exact CW.later h hb
 ·exact CW.start _ _ _ _
 ·intro y d i o ρ w' hm ho hf hg hC hcs hfs hfr zX
  match i,hm,ho,hf,hg,hfr,zX with
  |0,_,ho,hf,hg,hfr,zX=>
   simp only[qS]at ho;subst ho;refine ⟨fun _=>?_,qF⟩
   have ts: ρ (.tmp 1)=(qP w.heap.size):=(qR hfr 1);simp[go_sem,ts];exact qB
  |1,_,ho,hf,hg,hfr,zX=>
   simp only[qS]at ho;subst ho;refine ⟨fun _=>?_,qF⟩
   have cc:w'.cell? ⟨w.heap.size,1,none⟩=some (.slice a len c):=zW hC.bel y1;have d0: ρ (.tmp 6)=.pointer (some ⟨w.heap.size,1,none⟩):=(qH zX 0 6);simp[go_sem,d0,cc];exact qB
  |2,hm,_,_,_,_,_=>exact qD hm
  |3,_,ho,hf,hg,hfr,zX=>
   simp only[qS]at ho;subst ho;refine ⟨fun _=>?_,qF⟩
   have ts: ρ (.tmp 1)=(qP w.heap.size):=(qR hfr 1);simp[go_sem,ts];exact qB
  |4,_,ho,hf,hg,hfr,zX=>
   simp only[qS]at ho;subst ho;refine ⟨fun _=>?_,qF⟩
   have cc:w'.cell? ⟨w.heap.size,0,none⟩=some (.int .i64 (N:Int)):=zW hC.bel y0;have d0: ρ (.tmp 9)=(qP w.heap.size):=(qH zX 3 9);simp[go_sem,d0,cc];exact qB
  |5,hm,_,_,_,_,_=>exact qD hm
  |6,_,ho,hf,hg,hfr,zX=>
   simp only[qS]at ho;subst ho;refine ⟨fun _=>?_,qF⟩
   have ts: ρ (.tmp 1)=(qP w.heap.size):=(qR hfr 1);simp[go_sem,ts];exact qB
  |7,_,ho,hf,hg,hfr,zX=>
   simp only[qS]at ho;subst ho;refine ⟨fun _=>?_,qF⟩
   have cc:w'.cell? ⟨w.heap.size,0,none⟩=some (.int .i64 (N:Int)):=zW hC.bel y0;have d0: ρ (.tmp 12)=(qP w.heap.size):=(qH zX 6 12);simp[go_sem,d0,cc];exact qB
  |8,hm,_,_,_,_,_=>exact qD hm
  |9,_,ho,hf,hg,hfr,zX=>
   simp only[qS]at ho;subst ho;refine ⟨fun _=>?_,qF⟩
   have t2:d 2=true/\ ρ (.tmp 8)=.slice y.a len y.c:=(qH zX 2 8);have t5:d 5=true/\ ρ (.tmp 11)=.slice (some ⟨y.F 5,0,none⟩) N N:=(qH zX 5 11);have t8:d 8=true/\ ρ (.tmp 14)=.slice (some ⟨y.F 8,0,none⟩) N N:=(qH zX 8 14);obtain ⟨q2,t2⟩:=t2;obtain ⟨q5,t5⟩:=t5;obtain ⟨q8,t8⟩:=t8;simp[go_sem,t2,t5,t8];exact ⟨Below.refl _ _,⟨q2,q5,q8⟩,rfl⟩
  |10,hm,_,_,_,_,_=>exact qD hm
  |11,hm,_,_,_,_,_=>exact qD hm
  |n+12,_,ho,_,_,_,_=>simp at ho
 ·intro y d i o ρ w' hm ho h0 hf hg hC hcs hfs hfr zX
  match i,hm,ho,h0,hf,hg,hfr,zX with
  |0,hm,_,_,_,_,_,_=>exact qD hm
  |1,hm,_,_,_,_,_,_=>exact qD hm
  |2,_,ho,h0,hf,hg,hfr,zX=>
   simp only[qS]at ho;subst ho;have t0: ρ (.tmp 7)=.slice a len c:=(qH zX 1 7);have h11:d 11=false:=hf 11 (by decide) (by kernel_rfl);have CLw:=CL.out w' hC.bel;refine ⟨rfl,?_⟩
   simp[go_sem,zC,t0,hfs];refine CLw.mono ?_
   rintro e w'' ⟨a',c',rfl,q1,q2,q3⟩
   rw[HL.out];refine ⟨_,rfl,⟨a',c',y.F⟩,hC.m2 h11 q1 q2 q3,⟨zL _ _,rfl⟩,?_⟩
   intro j t hj hs
   match j,hs with
   |0,hs=>exact hs
   |1,hs=>exact hs
   |2,hs=>exact absurd hs.1 (by rw[h0];decide)
   |3,hs=>exact hs
   |4,hs=>exact hs
   |5,hs=>exact hs
   |6,hs=>exact hs
   |7,hs=>exact hs
   |8,hs=>exact hs
   |9,hs=>exact absurd hs.1.1 (by rw[h0];decide)
   |10,hs=>exact hs
   |11,_=>trivial
   |_+12,_=>trivial
  |3,hm,_,_,_,_,_,_=>exact qD hm
  |4,hm,_,_,_,_,_,_=>exact qD hm
  |5,_,ho,h0,hf,hg,hfr,zX=>
   simp only[qS]at ho;subst ho;have t0: ρ (.tmp 10)=.int .i64 (N:Int):=(qH zX 4 10);have h11:d 11=false:=hf 11 (by decide) (by kernel_rfl);refine ⟨rfl,?_⟩
   simp[go_sem,zC,t0,HM.out];refine ⟨⟨y.a,y.c,oX y.F 5 w'.heap.size⟩,CW.made 5 _ (by unfold NH;decide) hC h0 h11 (fun _=>World.rowIs_made w' (qN) N 27) (fun _=>World.rowIs_made w' (qN) N 27) (fun e=>absurd e (by decide)),⟨zL _ _,by simp only[yN]⟩,?_⟩
   intro j t hj hs
   match j,hs with
   |0,hs=>exact hs
   |1,hs=>exact hs
   |2,hs=>exact ⟨(zP d (by decide)).trans hs.1,hs.2⟩
   |3,hs=>exact hs
   |4,hs=>exact hs
   |5,hs=>exact absurd hs.1 (by rw[h0];decide)
   |6,hs=>exact hs
   |7,hs=>exact hs
   |8,hs=>exact ⟨(zP d (by decide)).trans hs.1,by simp only[yZ (show (8:Nat)≠5 by decide)];exact hs.2⟩
   |9,hs=>exact absurd hs.1.2.1 (by rw[h0];decide)
   |10,hs=>exact ⟨(zP d (by decide)).trans hs.1,by simp only[yZ (show (10:Nat)≠5 by decide)];exact hs.2⟩
   |11,_=>trivial
   |_+12,_=>trivial
  |6,hm,_,_,_,_,_,_=>exact qD hm
  |7,hm,_,_,_,_,_,_=>exact qD hm
  |8,_,ho,h0,hf,hg,hfr,zX=>
   simp only[qS]at ho;subst ho;have t0: ρ (.tmp 13)=.int .i64 (N:Int):=(qH zX 7 13);have h11:d 11=false:=hf 11 (by decide) (by kernel_rfl);refine ⟨rfl,?_⟩
   simp[go_sem,zC,t0,HM.out];refine ⟨⟨y.a,y.c,oX y.F 8 w'.heap.size⟩,CW.made 8 _ (by unfold NH;decide) hC h0 h11 (fun _=>World.rowIs_made w' (qN) N 27) (fun _=>World.rowIs_made w' (qN) N 27) (fun e=>absurd e (by decide)),⟨zL _ _,by simp only[yN]⟩,?_⟩
   intro j t hj hs
   match j,hs with
   |0,hs=>exact hs
   |1,hs=>exact hs
   |2,hs=>exact ⟨(zP d (by decide)).trans hs.1,hs.2⟩
   |3,hs=>exact hs
   |4,hs=>exact hs
   |5,hs=>exact ⟨(zP d (by decide)).trans hs.1,by simp only[yZ (show (5:Nat)≠8 by decide)];exact hs.2⟩
   |6,hs=>exact hs
   |7,hs=>exact hs
   |8,hs=>exact absurd hs.1 (by rw[h0];decide)
   |9,hs=>exact absurd hs.1.2.2 (by rw[h0];decide)
   |10,hs=>exact ⟨(zP d (by decide)).trans hs.1,by simp only[yZ (show (10:Nat)≠8 by decide)];exact hs.2⟩
   |11,_=>trivial
   |_+12,_=>trivial
  |9,hm,_,_,_,_,_,_=>exact qD hm
  |10,_,ho,h0,hf,hg,hfr,zX=>
   simp only[qS]at ho;subst ho;have h11:d 11=false:=hf 11 (by decide) (by kernel_rfl);refine ⟨rfl,?_⟩
   simp[go_sem,zC];refine ⟨⟨y.a,y.c,oX y.F 10 w'.heap.size⟩,CW.made 10 _ (by unfold NH;decide) hC h0 h11 (fun e=>absurd e (by decide)) (fun e=>absurd e (by decide)) (fun _=>zV 88 w' _),⟨zL _ _,by simp only[yN]⟩,?_⟩
   intro j t hj hs
   match j,hs with
   |0,hs=>exact hs
   |1,hs=>exact hs
   |2,hs=>exact ⟨(zP d (by decide)).trans hs.1,hs.2⟩
   |3,hs=>exact hs
   |4,hs=>exact hs
   |5,hs=>exact ⟨(zP d (by decide)).trans hs.1,by simp only[yZ (show (5:Nat)≠10 by decide)];exact hs.2⟩
   |6,hs=>exact hs
   |7,hs=>exact hs
   |8,hs=>exact ⟨(zP d (by decide)).trans hs.1,by simp only[yZ (show (8:Nat)≠10 by decide)];exact hs.2⟩
   |9,hs=>exact ⟨⟨(zP d (by decide)).trans hs.1.1,(zP d (by decide)).trans hs.1.2.1,(zP d (by decide)).trans hs.1.2.2⟩,by simp only[yZ (show (5:Nat)≠10 by decide),yZ (show (8:Nat)≠10 by decide)];exact hs.2⟩
   |10,hs=>exact absurd hs.1 (by rw[h0];decide)
   |11,_=>trivial
   |_+12,_=>trivial
  |11,_,ho,h0,hf,hg,hfr,zX=>
   simp only[qS]at ho;subst ho;have t10:d 10=true/\ ρ (.tmp 3)=.pointer (some ⟨y.F 10,0,none⟩):=(qH zX 10 3);have t9:(d 2=true/\d 5=true/\d 8=true)/\ ρ (.tmp 15)=.agg #[.slice y.a len y.c,.slice (some ⟨y.F 5,0,none⟩) N N,.slice (some ⟨y.F 8,0,none⟩) N N]:=(qH zX 9 15);have hbk:=hC.t10 t10.1;rw[h0,if_neg (by decide)]at hbk;refine ⟨rfl,PI 88 (.tmp 3) (.tmp 15) rfl (y.F 10) 88 _ _ t10.2 t9.2 hbk zVC rfl rfl ?_⟩
   intro w'' hs1 hb1;refine ⟨y,hC.m11 t9.1.1 t9.1.2.1 t9.1.2.2 t10.1 hb1 (by rw[HL.out];exact hs1),fun h=>absurd rfl h,?_⟩
   intro j t hj hs
   match j,hs with
   |0,hs=>exact hs
   |1,hs=>exact hs
   |2,hs=>exact ⟨(zP d (by decide)).trans hs.1,hs.2⟩
   |3,hs=>exact hs
   |4,hs=>exact hs
   |5,hs=>exact ⟨(zP d (by decide)).trans hs.1,hs.2⟩
   |6,hs=>exact hs
   |7,hs=>exact hs
   |8,hs=>exact ⟨(zP d (by decide)).trans hs.1,hs.2⟩
   |9,hs=>exact ⟨⟨(zP d (by decide)).trans hs.1.1,(zP d (by decide)).trans hs.1.2.1,(zP d (by decide)).trans hs.1.2.2⟩,hs.2⟩
   |10,hs=>exact ⟨(zP d (by decide)).trans hs.1,hs.2⟩
   |11,_=>trivial
   |_+12,_=>trivial
  |n+12,_,ho,_,_,_,_,_=>simp at ho
 intro y9 V w9 hC9 hS;have e10:V 10=.pointer (some ⟨y9.F 10,0,none⟩):=(hS 10 (by decide) (by intro h;cases h)).2;simp only[yP,uM,e10];simp only[Act.put,qU];clear hS e10;have i5:NH 5:=.inl rfl;have i8:NH 8:=.inr (.inl rfl);have i10:NH 10:=.inr (.inr rfl);obtain ⟨q1,q2⟩:=hC9.arcs rfl;have q5:=hC9.rng 5 rfl i5;have q8:=hC9.rng 8 rfl i8;have q10:=hC9.rng 10 rfl i10;have x58:=hC9.dis 5 8 rfl rfl i5 i8 (by decide);have x5:=hC9.dis 5 10 rfl rfl i5 i10 (by decide);have x8:=hC9.dis 8 10 rfl rfl i8 i10 (by decide);have k5:=hC9.t5 rfl;have k8:=hC9.t8 rfl;have k10:=hC9.t10 rfl;rw[if_pos (by rfl)]at k10
 have ofn:∀ {H k:Nat},XK N H (fun _=>none) k->k=H:=fun hk=>by
  rcases hk with h1|⟨j,x,-,h2,-⟩
  ·exact h1
  cases h2
 have hB9:=hC9.bel.size;have BV:=zZ hC9.bel
 have LW0:LW V0.heap.size V0 w9 L N (y9.F 10) (y9.F 5) (y9.F 8) y9.c y9.a (fun _=>none) (fun _=>none) (fun _=>0) (fun _=>0) (fun v=>yT (lR (v:Int)) L 0) (fun v=>yT (wO (v:Int)) L 0):=
  ⟨aY q5.1 k5,aY q8.1 k8,fun k h1 h2=>x58 ((ofn h1).symm.trans (ofn h2)),fun k h1=>⟨by rw[ofn h1];exact x5,fun x hx=>by rw[ofn h1];exact (q2 x hx).2.2 5 rfl i5⟩,fun k h1=>⟨by rw[ofn h1];exact x8,fun x hx=>by rw[ofn h1];exact (q2 x hx).2.2 8 rfl i8⟩,q1,fun x hx=>⟨(q2 x hx).1,(q2 x hx).2.1⟩,k10,hC9.bel⟩
 have HW0:=zZ LW0;clear hC9 q1 q2 q5 q8 q10 x58 x5 x8 k5 k8 k10 LW0;generalize y9.F 10=P at *;generalize y9.F 5=H1 at *;generalize y9.F 8=H2 at *;generalize y9.a=aA at *;generalize y9.c=cA at *;have g1:=(G0.out.below BV.out).cell (k:=1) rfl;simp only[List.getElem_toArray,List.getElem_cons_zero,List.getElem_cons_succ]at g1;clear y0 y1 HM CL
 go_wp2
 go_loopg [19] len (fun gk v wr=>∃(q:Nat) (D1 D2:Nat->Option Addr) (E1 E2:Nat->Nat),q<=len/\gk=len-q/\v=.int .i64 (q:Int)/\LW V0.heap.size V0 wr L N P H1 H2 cA aA D1 D2 E1 E2 (fun v=>yT (lR (v:Int)) L q) (fun v=>yT (wO (v:Int)) L q))
 case atStart=>exact ⟨0,_,_,_,_,Nat.zero_le _,rfl,rfl,HW0.out⟩
 case round=>
  clear HW0 hB9 BV g1;obtain ⟨q,D1,D2,E1,E2,hq,rfl,rfl,hW⟩:=hrel;have HW:=zZ hW;clear hW;have BR:=zZ (B1.out.trans (HW.out.bel.mono B1.out.size))
  by_cases hlt:q<len
  ·have hki:(q:Int)<(len:Int):=by omega
   rcases HA.out.below BR.out with e|⟨b,off,rfl,hc⟩
   ·have:=HL.out;rw[e]at this;simp at this;omega
   obtain ⟨c0,c1,c2,c3,c4⟩:=hc q (by have:=HL.out;omega);have SA:=HSA.out q hlt;obtain ⟨tv,etv⟩:∃k:Nat,(zU L q).t=(k:Int):=⟨(zU L q).t.toNat,by have:=SA.t;omega⟩;obtain ⟨fv,efv⟩:∃k:Nat,(zU L q).f=(k:Int):=⟨(zU L q).f.toNat,by have:=SA.f;omega⟩
   have htv:tv<N:=by have:=SA.t;omega
   have hfv:fv<N:=by have:=SA.f;omega
   have T1:=zZ (zVB (A:=L) (q:=q) etv);have T2:=zZ (JT (A:=L) (q:=q) efv);rw[etv]at c1;rw[efv]at c0;generalize (zU L q).g=gg at *;generalize (zU L q).k=kk at *;generalize (zU L q).s=ss at *;clear hc SA etv efv
   go_upto_region 5 with fail
   have bc:=(Below.refl wr.heap.size wr).alloc (Nat.le_refl _) (.cells #[.int .i64 (fv:Int),.int .i64 (tv:Int),.int .i64 gg,.int .i64 kk,.int .i64 ss] 61);have XA1:=zZ (zV 61 wr #[.int .i64 (fv:Int),.int .i64 (tv:Int),.int .i64 gg,.int .i64 kk,.int .i64 ss]);have hVw:=HW.out.bel.size;have LX1:=zZ (HW.out.later bc hVw)
   have ltA:∀k,XK N H1 D1 k->k<wr.heap.size:=fun k hk=>(HW.out.t1.lt hk).2
   have ltB:∀k,XK N H2 D2 k->k<wr.heap.size:=fun k hk=>(HW.out.t2.lt hk).2
   have LTA:=zZ ltA;have LTB:=zZ ltB
   have hab:wr.heap.size<(wr.alloc (.cells #[.int .i64 (fv:Int),.int .i64 (tv:Int),.int .i64 gg,.int .i64 kk,.int .i64 ss] 61)).heap.size:=by rw[World.size_alloc];omega
   have LB1:Hid (V0.heap.size<=(wr.alloc (.cells #[.int .i64 (fv:Int),.int .i64 (tv:Int),.int .i64 gg,.int .i64 kk,.int .i64 ss] 61)).heap.size):=Nat.le_trans hVw bc.size;obtain ⟨ab,hab'⟩:∃ab,wr.heap.size=ab:=⟨_,rfl⟩;rw[hab']at XA1 LTA LTB hab ⊢;generalize wr.alloc (.cells #[.int .i64 (fv:Int),.int .i64 (tv:Int),.int .i64 gg,.int .i64 kk,.int .i64 ss] 61)=V1 at *;have CT1:=LX1.out.t1.long.cell htv;have OW1:=zZ (LX1.out.t1.own tv htv)
   have NP1:Hid (∀ y,D1 tv=some y->y.block≠P):=fun y hy=>(LX1.out.p1 _ (.inr ⟨tv,y,htv,hy,rfl⟩)).1
   have NA1:Hid (∀ y,D1 tv=some y->y.block≠ab):=fun y hy e=>by have:=LTA.out _ (.inr ⟨tv,y,htv,hy,rfl⟩);omega
   have hpl:(yT (lR (tv:Int)) L q).length<=1000000:=by have:=mU (lR (tv:Int)) L q;omega
   clear bc c0 c1 c2 c3 c4 hab' ltA ltB
   refine zM [12,14] (fun d i u z=>match i with
    |0=>z=.pointer (some ⟨P,1,none⟩)
    |1=>z=.slice (some ⟨H1,0,none⟩) N N
    |2=>z=.pointer (some ⟨ab,1,none⟩)
    |3=>z=.int .i64 (tv:Int)
    |4=>z=.pointer (some ⟨P,1,none⟩)
    |5=>z=.slice (some ⟨H1,0,none⟩) N N
    |6=>z=.pointer (some ⟨ab,1,none⟩)
    |7=>z=.int .i64 (tv:Int)
    |8=>z=.pointer (some ⟨H1,tv,none⟩)
    |9=>z=.slice (D1 tv) (yT (lR (tv:Int)) L q).length (E1 tv)
    |10=>z=.int .i64 (q:Int)
    |11=>(d 12=false->∃g,z=.slice (some ⟨g,0,none⟩) 1 1/\u.cell? ⟨g,0,none⟩=some (.int .i64 (q:Int)))
    |12=>(d 12=true/\(d 14=false->∃dd cc,z=.slice dd ((yT (lR (tv:Int)) L q).length+1) cc/\oL V0.heap.size V1 (D1 tv) ((yT (lR (tv:Int)) L q)++[(q:Int)]) u dd cc))
    |13=>z=.pointer (some ⟨H1,tv,none⟩)
    |14=>True
    |_=>True) (fun d u=>(d 12=false->Below V1.heap.size V1 u)/\(∀ k,k<V1.heap.size->(∀ y,D1 tv=some y->y.block≠k)->d 14=false->u.heap[k]? =V1.heap[k]?)/\V1.heap.size<=u.heap.size/\(d 14=true->∃dd cc,PH V0.heap.size V1 H1 N tv D1 E1 (fun v=>yT (lR (v:Int)) L q) ((yT (lR (tv:Int)) L q)++[(q:Int)]) u dd cc)/\(u.os=V1.os/\u.tape=V1.tape/\u.output=V1.output)) (by kernel_rfl) (by kernel_rfl) (by kernel_rfl) ?_ ?_ ?_ ?_ ?_ ?_ (by kernel_rfl)
   ·intro d i w v w' h hb
    match i,h with
    |0,h=>exact h
    |1,h=>exact h
    |2,h=>exact h
    |3,h=>exact h
    |4,h=>exact h
    |5,h=>exact h
    |6,h=>exact h
    |7,h=>exact h
    |8,h=>exact h
    |9,h=>exact h
    |10,h=>exact h
    |11,h=>exact fun e=>by obtain ⟨g,h1,h2⟩:=h e;exact ⟨g,h1,zW hb h2⟩
    |12,h=>exact ⟨h.1,fun e=>by obtain ⟨dd,cc,h1,h2⟩:=h.2 e;exact ⟨dd,cc,h1,h2.later hb⟩⟩
    |13,h=>exact h
    |14,h=>exact h
    |_+15,_=>trivial
   ·intro d u u' h hb
    exact ⟨fun e=>(h.1 e).trans (hb.mono (h.1 e).size),fun k hk hn e=>(hb.block k (Nat.lt_of_lt_of_le hk h.2.2.1)).trans (h.2.1 k hk hn e),Nat.le_trans h.2.2.1 hb.size,fun e=>by obtain ⟨dd,cc,hF⟩:=h.2.2.2.1 e;exact ⟨dd,cc,hF.later hb⟩,hb.os.trans h.2.2.2.2.1,hb.tape.trans h.2.2.2.2.2.1,hb.output.trans h.2.2.2.2.2.2⟩
   ·exact ⟨fun _=>Below.refl _ _,fun _ _ _ _=>rfl,Nat.le_refl _,fun e=>absurd e (by decide),rfl,rfl,rfl⟩
   ·intro d i o ρ w' hm ho hf hg hC hcs hfs hfr zX
    match i,hm,ho,hf,hg,hfr,zX with
    |0,_,ho,hf,hg,hfr,zX=>
     simp only[qS]at ho;subst ho;refine ⟨fun _=>?_,qF⟩
     have ts: ρ (.tmp 3)=(qP P):=(qR hfr 3);simp[go_sem,ts];exact qB
    |1,_,ho,hf,hg,hfr,zX=>
     simp only[qS]at ho;subst ho;refine ⟨fun _=>?_,qF⟩
     have cc:w'.cell? ⟨P,1,none⟩=some (.slice (some ⟨H1,0,none⟩) N N):=zF (hC.2.1 P LX1.out.blk.lt NP1.out (by first|exact hf 14 (by decide) (by kernel_rfl)|assumption)) (LX1.out.blk.cell rfl);have d0: ρ (.tmp 24)=.pointer (some ⟨P,1,none⟩):=(qH zX 0 24);simp[go_sem,d0,cc];exact qB
    |2,_,ho,hf,hg,hfr,zX=>
     simp only[qS]at ho;subst ho;refine ⟨fun _=>?_,qF⟩
     have ts: ρ (.tmp 5)=(qP ab):=(qR hfr 5);simp[go_sem,ts];exact qB
    |3,_,ho,hf,hg,hfr,zX=>
     simp only[qS]at ho;subst ho;refine ⟨fun _=>?_,qF⟩
     have cc:w'.cell? ⟨ab,1,none⟩=some (.int .i64 (tv:Int)):=zF (hC.2.1 ab XA1.out.lt NA1.out (by first|exact hf 14 (by decide) (by kernel_rfl)|assumption)) (XA1.out.cell rfl);have d0: ρ (.tmp 26)=.pointer (some ⟨ab,1,none⟩):=(qH zX 2 26);simp[go_sem,d0,cc];exact qB
    |4,_,ho,hf,hg,hfr,zX=>
     simp only[qS]at ho;subst ho;refine ⟨fun _=>?_,qF⟩
     have ts: ρ (.tmp 3)=(qP P):=(qR hfr 3);simp[go_sem,ts];exact qB
    |5,_,ho,hf,hg,hfr,zX=>
     simp only[qS]at ho;subst ho;refine ⟨fun _=>?_,qF⟩
     have cc:w'.cell? ⟨P,1,none⟩=some (.slice (some ⟨H1,0,none⟩) N N):=zF (hC.2.1 P LX1.out.blk.lt NP1.out (by first|exact hf 14 (by decide) (by kernel_rfl)|assumption)) (LX1.out.blk.cell rfl);have d0: ρ (.tmp 28)=.pointer (some ⟨P,1,none⟩):=(qH zX 4 28);simp[go_sem,d0,cc];exact qB
    |6,_,ho,hf,hg,hfr,zX=>
     simp only[qS]at ho;subst ho;refine ⟨fun _=>?_,qF⟩
     have ts: ρ (.tmp 5)=(qP ab):=(qR hfr 5);simp[go_sem,ts];exact qB
    |7,_,ho,hf,hg,hfr,zX=>
     simp only[qS]at ho;subst ho;refine ⟨fun _=>?_,qF⟩
     have cc:w'.cell? ⟨ab,1,none⟩=some (.int .i64 (tv:Int)):=zF (hC.2.1 ab XA1.out.lt NA1.out (by first|exact hf 14 (by decide) (by kernel_rfl)|assumption)) (XA1.out.cell rfl);have d0: ρ (.tmp 30)=.pointer (some ⟨ab,1,none⟩):=(qH zX 6 30);simp[go_sem,d0,cc];exact qB
    |8,_,ho,hf,hg,hfr,zX=>
     simp only[qS]at ho;subst ho;refine ⟨fun _=>?_,qF⟩
     have d0: ρ (.tmp 29)=.slice (some ⟨H1,0,none⟩) N N:=(qH zX 5 29);have d1: ρ (.tmp 31)=.int .i64 (tv:Int):=(qH zX 7 31);simp[go_sem,d0,d1,htv];exact qB
    |9,_,ho,hf,hg,hfr,zX=>
     simp only[qS]at ho;subst ho;refine ⟨fun _=>?_,qF⟩
     have h12:d 12=false:=hf 12 (by decide) (by kernel_rfl);have cc:w'.cell? ⟨H1,tv,none⟩=some (.slice (D1 tv) (yT (lR (tv:Int)) L q).length (E1 tv)):=zW (hC.1 h12) CT1;have d0: ρ (.tmp 32)=.pointer (some ⟨H1,tv,none⟩):=(qH zX 8 32);simp[go_sem,d0,cc];exact qB
    |10,_,ho,hf,hg,hfr,zX=>
     simp only[qS]at ho;subst ho;refine ⟨fun _=>?_,qF⟩
     have ts: ρ (.tmp 4)=.int .i64 (q:Int):=(qR hfr 4);simp[go_sem,ts];exact qB
    |11,_,ho,hf,hg,hfr,zX=>
     simp only[qS]at ho;subst ho;refine ⟨fun _=>?_,qF⟩
     have t0: ρ (.tmp 34)=.int .i64 (q:Int):=(qH zX 10 34);simp[go_sem,t0];exact ⟨(Below.refl _ _).alloc (Nat.le_refl _) _,fun _=>⟨w'.heap.size,rfl,by simp⟩⟩
    |12,hm,_,_,_,_,_=>exact qD hm
    |13,_,ho,hf,hg,hfr,zX=>
     simp only[qS]at ho;subst ho;refine ⟨fun _=>?_,qF⟩
     have d0: ρ (.tmp 25)=.slice (some ⟨H1,0,none⟩) N N:=(qH zX 1 25);have d1: ρ (.tmp 27)=.int .i64 (tv:Int):=(qH zX 3 27);simp[go_sem,d0,d1,htv];exact qB
    |14,hm,_,_,_,_,_=>exact qD hm
    |n+15,_,ho,_,_,_,_=>simp at ho
   ·intro d i o ρ w' hm ho h0 hf hg hC hcs hfs hfr zX
    match i,hm,ho,h0,hf,hg,hfr,zX with
    |0,hm,_,_,_,_,_,_=>exact qD hm
    |1,hm,_,_,_,_,_,_=>exact qD hm
    |2,hm,_,_,_,_,_,_=>exact qD hm
    |3,hm,_,_,_,_,_,_=>exact qD hm
    |4,hm,_,_,_,_,_,_=>exact qD hm
    |5,hm,_,_,_,_,_,_=>exact qD hm
    |6,hm,_,_,_,_,_,_=>exact qD hm
    |7,hm,_,_,_,_,_,_=>exact qD hm
    |8,hm,_,_,_,_,_,_=>exact qD hm
    |9,hm,_,_,_,_,_,_=>exact qD hm
    |10,hm,_,_,_,_,_,_=>exact qD hm
    |11,hm,_,_,_,_,_,_=>exact qD hm
    |12,_,ho,h0,hf,hg,hfr,zX=>
     simp only[qS]at ho;subst ho;have t0: ρ (.tmp 33)=.slice (D1 tv) (yT (lR (tv:Int)) L q).length (E1 tv):=(qH zX 9 33);obtain ⟨g,t1,cg⟩:∃g,ρ (.tmp 35)=.slice (some ⟨g,0,none⟩) 1 1/\w'.cell? ⟨g,0,none⟩=some (.int .i64 (q:Int)):=(qH zX 11 35) h0;have h14:d 14=false:=hf 14 (by decide) (by kernel_rfl);refine ⟨rfl,kR (.tmp 33) (.tmp 35) rfl t0 t1 OW1.out (hC.1 h0) cg (by omega) LB1.out ?_⟩
     intro u9 d9 c9 hG;refine ⟨⟨fun e=>absurd e (by rw[zL];decide),fun k hk hn _=>hG.keep k hk hn,hG.size,fun e=>absurd ((zP d (by decide)).symm.trans e) (by rw[h14];decide),?_⟩,fun _=>⟨zL _ _,fun _=>⟨d9,c9,rfl,hG⟩⟩,?_⟩
     ·exact ⟨hG.os,hG.tape,hG.output⟩
     intro j t hj hs
     match j,hs with
     |0,hs=>exact hs
     |1,hs=>exact hs
     |2,hs=>exact hs
     |3,hs=>exact hs
     |4,hs=>exact hs
     |5,hs=>exact hs
     |6,hs=>exact hs
     |7,hs=>exact hs
     |8,hs=>exact hs
     |9,hs=>exact hs
     |10,hs=>exact hs
     |11,hs=>exact fun e=>absurd e (by rw[zL];decide)
     |12,hs=>exact absurd hs.1 (by rw[h0];decide)
     |13,hs=>exact hs
     |14,_=>trivial
     |_+15,_=>trivial
    |13,hm,_,_,_,_,_,_=>exact qD hm
    |14,_,ho,h0,hf,hg,hfr,zX=>
     simp only[qS]at ho;subst ho;have t0: ρ (.tmp 37)=.pointer (some ⟨H1,tv,none⟩):=(qH zX 13 37);have t9:d 12=true/\(d 14=false->∃dd cc,ρ (.tmp 36)=.slice dd ((yT (lR (tv:Int)) L q).length+1) cc/\oL V0.heap.size V1 (D1 tv) ((yT (lR (tv:Int)) L q)++[(q:Int)]) w' dd cc):=(qH zX 12 36);obtain ⟨dd,cc,e9,hG⟩:=t9.2 h0;have hk:=hG.keep H1 LX1.out.t1.long.lt (fun y hy=>LX1.out.t1.dt tv y htv hy);have c1:w'.cell? ⟨H1,tv,none⟩=some (.slice (D1 tv) (yT (lR (tv:Int)) L q).length (E1 tv)):=zF hk CT1;have f1:w'.frozen? ⟨H1,tv,none⟩=false:=(LX1.out.t1.long.of_block hk).frozen _;refine ⟨rfl,wQ (w':=w'.setCell ⟨H1,tv,none⟩ (.slice dd ((yT (lR (tv:Int)) L q).length+1) cc)) (by simp[go_sem,t0,e9,c1,f1]) ?_⟩
     have hF:=EY LX1.out.t1 htv hG;rw[List.length_append]at hF;refine ⟨⟨fun e=>absurd ((zP d (by decide)).symm.trans e) (by rw[t9.1];decide),fun k hk hn e=>absurd e (by rw[zL];decide),by rw[World.size_setCell];exact hG.size,fun _=>⟨dd,cc,hF⟩,⟨hG.os,hG.tape,hG.output⟩⟩,fun h=>absurd rfl h,?_⟩
     intro j t hj hs
     match j,hs with
     |0,hs=>exact hs
     |1,hs=>exact hs
     |2,hs=>exact hs
     |3,hs=>exact hs
     |4,hs=>exact hs
     |5,hs=>exact hs
     |6,hs=>exact hs
     |7,hs=>exact hs
     |8,hs=>exact hs
     |9,hs=>exact hs
     |10,hs=>exact hs
     |11,hs=>exact fun e=>absurd ((zP d (by decide)).symm.trans e) (by rw[t9.1];decide)
     |12,hs=>exact ⟨(zP d (by decide)).trans hs.1,fun e=>absurd e (by rw[zL];decide)⟩
     |13,hs=>exact hs
     |14,_=>trivial
     |_+15,_=>trivial
    |n+15,_,ho,_,_,_,_,_=>simp at ho
   intro V w8 hC8 hS;simp only[yP,uM];simp only[Act.put,qU];clear hS;obtain ⟨dd1,cc1,hF1⟩:=hC8.2.2.2.1 rfl;have LX2:=zZ (LX1.out.step1 LB1.out htv hF1);have e1:=T1.out;have XA2:Hid (zE 61 ab w8 #[.int .i64 (fv:Int),.int .i64 (tv:Int),.int .i64 gg,.int .i64 kk,.int .i64 ss]):=XA1.out.keep (hF1.keep ab hab (fun e=>by have:=LTA.out ab e;omega));have LB2:Hid (V0.heap.size<=w8.heap.size):=Nat.le_trans LB1.out hF1.size;rw[e1]at LX2;have CT2:=LX2.out.t2.long.cell hfv;have OW2:=zZ (LX2.out.t2.own fv hfv)
   have NP2:Hid (∀ y,D2 fv=some y->y.block≠P):=fun y hy=>(LX2.out.p2 _ (.inr ⟨fv,y,hfv,hy,rfl⟩)).1
   have NA2:Hid (∀ y,D2 fv=some y->y.block≠ab):=fun y hy e=>by have:=LTB.out _ (.inr ⟨fv,y,hfv,hy,rfl⟩);omega
   have hpl2:(yT (wO (fv:Int)) L q).length<=1000000:=by have:=mU (wO (fv:Int)) L q;omega
   clear hC8 hF1 LX1 XA1 CT1 OW1 NP1 NA1 hpl e1
   go_upto_region 6 with fail
   refine zM [12,14] (fun d i u z=>match i with
    |0=>z=.pointer (some ⟨P,2,none⟩)
    |1=>z=.slice (some ⟨H2,0,none⟩) N N
    |2=>z=(qP ab)
    |3=>z=.int .i64 (fv:Int)
    |4=>z=.pointer (some ⟨P,2,none⟩)
    |5=>z=.slice (some ⟨H2,0,none⟩) N N
    |6=>z=(qP ab)
    |7=>z=.int .i64 (fv:Int)
    |8=>z=.pointer (some ⟨H2,fv,none⟩)
    |9=>z=.slice (D2 fv) (yT (wO (fv:Int)) L q).length (E2 fv)
    |10=>z=.int .i64 (q:Int)
    |11=>(d 12=false->∃g,z=.slice (some ⟨g,0,none⟩) 1 1/\u.cell? ⟨g,0,none⟩=some (.int .i64 (q:Int)))
    |12=>(d 12=true/\(d 14=false->∃dd cc,z=.slice dd ((yT (wO (fv:Int)) L q).length+1) cc/\oL V0.heap.size w8 (D2 fv) ((yT (wO (fv:Int)) L q)++[(q:Int)]) u dd cc))
    |13=>z=.pointer (some ⟨H2,fv,none⟩)
    |14=>True
    |_=>True) (fun d u=>(d 12=false->Below w8.heap.size w8 u)/\(∀ k,k<w8.heap.size->(∀ y,D2 fv=some y->y.block≠k)->d 14=false->u.heap[k]? =w8.heap[k]?)/\w8.heap.size<=u.heap.size/\(d 14=true->∃dd cc,PH V0.heap.size w8 H2 N fv D2 E2 (fun v=>yT (wO (v:Int)) L q) ((yT (wO (fv:Int)) L q)++[(q:Int)]) u dd cc)/\(u.os=w8.os/\u.tape=w8.tape/\u.output=w8.output)) (by kernel_rfl) (by kernel_rfl) (by kernel_rfl) ?_ ?_ ?_ ?_ ?_ ?_ (by kernel_rfl)
   ·intro d i w v w' h hb
    match i,h with
    |0,h=>exact h
    |1,h=>exact h
    |2,h=>exact h
    |3,h=>exact h
    |4,h=>exact h
    |5,h=>exact h
    |6,h=>exact h
    |7,h=>exact h
    |8,h=>exact h
    |9,h=>exact h
    |10,h=>exact h
    |11,h=>exact fun e=>by obtain ⟨g,h1,h2⟩:=h e;exact ⟨g,h1,zW hb h2⟩
    |12,h=>exact ⟨h.1,fun e=>by obtain ⟨dd,cc,h1,h2⟩:=h.2 e;exact ⟨dd,cc,h1,h2.later hb⟩⟩
    |13,h=>exact h
    |14,h=>exact h
    |_+15,_=>trivial
   ·intro d u u' h hb
    exact ⟨fun e=>(h.1 e).trans (hb.mono (h.1 e).size),fun k hk hn e=>(hb.block k (Nat.lt_of_lt_of_le hk h.2.2.1)).trans (h.2.1 k hk hn e),Nat.le_trans h.2.2.1 hb.size,fun e=>by obtain ⟨dd,cc,hF⟩:=h.2.2.2.1 e;exact ⟨dd,cc,hF.later hb⟩,hb.os.trans h.2.2.2.2.1,hb.tape.trans h.2.2.2.2.2.1,hb.output.trans h.2.2.2.2.2.2⟩
   ·exact ⟨fun _=>Below.refl _ _,fun _ _ _ _=>rfl,Nat.le_refl _,fun e=>absurd e (by decide),rfl,rfl,rfl⟩
   ·intro d i o ρ w' hm ho hf hg hC hcs hfs hfr zX
    match i,hm,ho,hf,hg,hfr,zX with
    |0,_,ho,hf,hg,hfr,zX=>
     simp only[qS]at ho;subst ho;refine ⟨fun _=>?_,qF⟩
     have ts: ρ (.tmp 3)=(qP P):=(qR hfr 3);simp[go_sem,ts];exact qB
    |1,_,ho,hf,hg,hfr,zX=>
     simp only[qS]at ho;subst ho;refine ⟨fun _=>?_,qF⟩
     have cc:w'.cell? ⟨P,2,none⟩=some (.slice (some ⟨H2,0,none⟩) N N):=zF (hC.2.1 P LX2.out.blk.lt NP2.out (by first|exact hf 14 (by decide) (by kernel_rfl)|assumption)) (LX2.out.blk.cell rfl);have d0: ρ (.tmp 38)=.pointer (some ⟨P,2,none⟩):=(qH zX 0 38);simp[go_sem,d0,cc];exact qB
    |2,_,ho,hf,hg,hfr,zX=>
     simp only[qS]at ho;subst ho;refine ⟨fun _=>?_,qF⟩
     have ts: ρ (.tmp 5)=(qP ab):=(qR hfr 5);simp[go_sem,ts];exact qB
    |3,_,ho,hf,hg,hfr,zX=>
     simp only[qS]at ho;subst ho;refine ⟨fun _=>?_,qF⟩
     have cc:w'.cell? ⟨ab,0,none⟩=some (.int .i64 (fv:Int)):=zF (hC.2.1 ab XA2.out.lt NA2.out (by first|exact hf 14 (by decide) (by kernel_rfl)|assumption)) (XA2.out.cell rfl);have d0: ρ (.tmp 40)=(qP ab):=(qH zX 2 40);simp[go_sem,d0,cc];exact qB
    |4,_,ho,hf,hg,hfr,zX=>
     simp only[qS]at ho;subst ho;refine ⟨fun _=>?_,qF⟩
     have ts: ρ (.tmp 3)=(qP P):=(qR hfr 3);simp[go_sem,ts];exact qB
    |5,_,ho,hf,hg,hfr,zX=>
     simp only[qS]at ho;subst ho;refine ⟨fun _=>?_,qF⟩
     have cc:w'.cell? ⟨P,2,none⟩=some (.slice (some ⟨H2,0,none⟩) N N):=zF (hC.2.1 P LX2.out.blk.lt NP2.out (by first|exact hf 14 (by decide) (by kernel_rfl)|assumption)) (LX2.out.blk.cell rfl);have d0: ρ (.tmp 42)=.pointer (some ⟨P,2,none⟩):=(qH zX 4 42);simp[go_sem,d0,cc];exact qB
    |6,_,ho,hf,hg,hfr,zX=>
     simp only[qS]at ho;subst ho;refine ⟨fun _=>?_,qF⟩
     have ts: ρ (.tmp 5)=(qP ab):=(qR hfr 5);simp[go_sem,ts];exact qB
    |7,_,ho,hf,hg,hfr,zX=>
     simp only[qS]at ho;subst ho;refine ⟨fun _=>?_,qF⟩
     have cc:w'.cell? ⟨ab,0,none⟩=some (.int .i64 (fv:Int)):=zF (hC.2.1 ab XA2.out.lt NA2.out (by first|exact hf 14 (by decide) (by kernel_rfl)|assumption)) (XA2.out.cell rfl);have d0: ρ (.tmp 44)=(qP ab):=(qH zX 6 44);simp[go_sem,d0,cc];exact qB
    |8,_,ho,hf,hg,hfr,zX=>
     simp only[qS]at ho;subst ho;refine ⟨fun _=>?_,qF⟩
     have d0: ρ (.tmp 43)=.slice (some ⟨H2,0,none⟩) N N:=(qH zX 5 43);have d1: ρ (.tmp 45)=.int .i64 (fv:Int):=(qH zX 7 45);simp[go_sem,d0,d1,hfv];exact qB
    |9,_,ho,hf,hg,hfr,zX=>
     simp only[qS]at ho;subst ho;refine ⟨fun _=>?_,qF⟩
     have h12:d 12=false:=hf 12 (by decide) (by kernel_rfl);have cc:w'.cell? ⟨H2,fv,none⟩=some (.slice (D2 fv) (yT (wO (fv:Int)) L q).length (E2 fv)):=zW (hC.1 h12) CT2;have d0: ρ (.tmp 46)=.pointer (some ⟨H2,fv,none⟩):=(qH zX 8 46);simp[go_sem,d0,cc];exact qB
    |10,_,ho,hf,hg,hfr,zX=>
     simp only[qS]at ho;subst ho;refine ⟨fun _=>?_,qF⟩
     have ts: ρ (.tmp 4)=.int .i64 (q:Int):=(qR hfr 4);simp[go_sem,ts];exact qB
    |11,_,ho,hf,hg,hfr,zX=>
     simp only[qS]at ho;subst ho;refine ⟨fun _=>?_,qF⟩
     have t0: ρ (.tmp 48)=.int .i64 (q:Int):=(qH zX 10 48);simp[go_sem,t0];exact ⟨(Below.refl _ _).alloc (Nat.le_refl _) _,fun _=>⟨w'.heap.size,rfl,by simp⟩⟩
    |12,hm,_,_,_,_,_=>exact qD hm
    |13,_,ho,hf,hg,hfr,zX=>
     simp only[qS]at ho;subst ho;refine ⟨fun _=>?_,qF⟩
     have d0: ρ (.tmp 39)=.slice (some ⟨H2,0,none⟩) N N:=(qH zX 1 39);have d1: ρ (.tmp 41)=.int .i64 (fv:Int):=(qH zX 3 41);simp[go_sem,d0,d1,hfv];exact qB
    |14,hm,_,_,_,_,_=>exact qD hm
    |n+15,_,ho,_,_,_,_=>simp at ho
   ·intro d i o ρ w' hm ho h0 hf hg hC hcs hfs hfr zX
    match i,hm,ho,h0,hf,hg,hfr,zX with
    |0,hm,_,_,_,_,_,_=>exact qD hm
    |1,hm,_,_,_,_,_,_=>exact qD hm
    |2,hm,_,_,_,_,_,_=>exact qD hm
    |3,hm,_,_,_,_,_,_=>exact qD hm
    |4,hm,_,_,_,_,_,_=>exact qD hm
    |5,hm,_,_,_,_,_,_=>exact qD hm
    |6,hm,_,_,_,_,_,_=>exact qD hm
    |7,hm,_,_,_,_,_,_=>exact qD hm
    |8,hm,_,_,_,_,_,_=>exact qD hm
    |9,hm,_,_,_,_,_,_=>exact qD hm
    |10,hm,_,_,_,_,_,_=>exact qD hm
    |11,hm,_,_,_,_,_,_=>exact qD hm
    |12,_,ho,h0,hf,hg,hfr,zX=>
     simp only[qS]at ho;subst ho;have t0: ρ (.tmp 47)=.slice (D2 fv) (yT (wO (fv:Int)) L q).length (E2 fv):=(qH zX 9 47);obtain ⟨g,t1,cg⟩:∃g,ρ (.tmp 49)=.slice (some ⟨g,0,none⟩) 1 1/\w'.cell? ⟨g,0,none⟩=some (.int .i64 (q:Int)):=(qH zX 11 49) h0;have h14:d 14=false:=hf 14 (by decide) (by kernel_rfl);refine ⟨rfl,kR (.tmp 47) (.tmp 49) rfl t0 t1 OW2.out (hC.1 h0) cg (by omega) LB2.out ?_⟩
     intro u9 d9 c9 hG;refine ⟨⟨fun e=>absurd e (by rw[zL];decide),fun k hk hn _=>hG.keep k hk hn,hG.size,fun e=>absurd ((zP d (by decide)).symm.trans e) (by rw[h14];decide),?_⟩,fun _=>⟨zL _ _,fun _=>⟨d9,c9,rfl,hG⟩⟩,?_⟩
     ·exact ⟨hG.os,hG.tape,hG.output⟩
     intro j t hj hs
     match j,hs with
     |0,hs=>exact hs
     |1,hs=>exact hs
     |2,hs=>exact hs
     |3,hs=>exact hs
     |4,hs=>exact hs
     |5,hs=>exact hs
     |6,hs=>exact hs
     |7,hs=>exact hs
     |8,hs=>exact hs
     |9,hs=>exact hs
     |10,hs=>exact hs
     |11,hs=>exact fun e=>absurd e (by rw[zL];decide)
     |12,hs=>exact absurd hs.1 (by rw[h0];decide)
     |13,hs=>exact hs
     |14,_=>trivial
     |_+15,_=>trivial
    |13,hm,_,_,_,_,_,_=>exact qD hm
    |14,_,ho,h0,hf,hg,hfr,zX=>
     simp only[qS]at ho;subst ho;have t0: ρ (.tmp 51)=.pointer (some ⟨H2,fv,none⟩):=(qH zX 13 51);have t9:d 12=true/\(d 14=false->∃dd cc,ρ (.tmp 50)=.slice dd ((yT (wO (fv:Int)) L q).length+1) cc/\oL V0.heap.size w8 (D2 fv) ((yT (wO (fv:Int)) L q)++[(q:Int)]) w' dd cc):=(qH zX 12 50);obtain ⟨dd,cc,e9,hG⟩:=t9.2 h0;have hk:=hG.keep H2 LX2.out.t2.long.lt (fun y hy=>LX2.out.t2.dt fv y hfv hy);have c1:w'.cell? ⟨H2,fv,none⟩=some (.slice (D2 fv) (yT (wO (fv:Int)) L q).length (E2 fv)):=zF hk CT2;have f1:w'.frozen? ⟨H2,fv,none⟩=false:=(LX2.out.t2.long.of_block hk).frozen _;refine ⟨rfl,wQ (w':=w'.setCell ⟨H2,fv,none⟩ (.slice dd ((yT (wO (fv:Int)) L q).length+1) cc)) (by simp[go_sem,t0,e9,c1,f1]) ?_⟩
     have hF:=EY LX2.out.t2 hfv hG;rw[List.length_append]at hF;refine ⟨⟨fun e=>absurd ((zP d (by decide)).symm.trans e) (by rw[t9.1];decide),fun k hk hn e=>absurd e (by rw[zL];decide),by rw[World.size_setCell];exact hG.size,fun _=>⟨dd,cc,hF⟩,⟨hG.os,hG.tape,hG.output⟩⟩,fun h=>absurd rfl h,?_⟩
     intro j t hj hs
     match j,hs with
     |0,hs=>exact hs
     |1,hs=>exact hs
     |2,hs=>exact hs
     |3,hs=>exact hs
     |4,hs=>exact hs
     |5,hs=>exact hs
     |6,hs=>exact hs
     |7,hs=>exact hs
     |8,hs=>exact hs
     |9,hs=>exact hs
     |10,hs=>exact hs
     |11,hs=>exact fun e=>absurd ((zP d (by decide)).symm.trans e) (by rw[t9.1];decide)
     |12,hs=>exact ⟨(zP d (by decide)).trans hs.1,fun e=>absurd e (by rw[zL];decide)⟩
     |13,hs=>exact hs
     |14,_=>trivial
     |_+15,_=>trivial
    |n+15,_,ho,_,_,_,_,_=>simp at ho
   intro V w7 hC7 hS;simp only[yP,uM];simp only[Act.put,qU];clear hS;obtain ⟨dd2,cc2,hF2⟩:=hC7.2.2.2.1 rfl;have LX3:=zZ (LX2.out.step2 LB2.out hfv hF2);have e2:=T2.out;rw[e2]at LX3;clear hC7 hF2 LX2 XA2 CT2 OW2 NP2 NA2 hpl2 e2
   go_wp2
   go_roundg (len-(q+1))
   case measure=>omega
   case rel=>exact ⟨q+1,_,_,_,_,by omega,rfl,by go_num,LX3.out⟩
  have ek:q=len:=by omega
  subst ek
  have hki:¬(q:Int)<(q:Int):=by omega
  have z0:=HW.out.blk.cell (k:=0) rfl;have z1:=HW.out.blk.cell (k:=1) rfl;have z2:=HW.out.blk.cell (k:=2) rfl;simp only[List.getElem_toArray,List.getElem_cons_zero,List.getElem_cons_succ]at z0 z1 z2;rw[HL.out]at z0;have G2:=zZ (G1.out.below HW.out.bel);have hlt2:=G1.out.lt;have TT1:=zZ HW.out.t1;have TT2:=zZ HW.out.t2;have AR:=zZ HW.out.arcs;have AL:=zZ HW.out.low;have hV0:w.heap.size+1<V0.heap.size:=hlt2;have HLq:=zZ HL.out;clear G1 HA HSA HL HW
  go_wp2_with (refine xD _ rfl 88 (.tmp 2) (.tmp 53) rfl rfl (w.heap.size+1) 88 _ _ rfl rfl G2.out zVC rfl rfl ?_;intro w8 hN hU;have N8:=zZ hN;have U8:=zZ hU;clear hN hU)
  have t0:=N8.out.cell (k:=0) rfl;have t1:=N8.out.cell (k:=1) rfl;have t2:=N8.out.cell (k:=2) rfl;simp only[List.getElem_toArray,List.getElem_cons_zero,List.getElem_cons_succ]at t0 t1 t2;refine bodyPost_ret (v:=.agg #[.slice aA q cA,.slice (some ⟨H1,0,none⟩) N N,.slice (some ⟨H2,0,none⟩) N N]) (by simp[results,Tryz.results30,go_sem,t0,t1,t2]) rfl ?_
  have old:∀k,V0.heap.size<=k->k<wr.heap.size->w8.heap[k]? =wr.heap[k]? :=fun k h1 h2=>U8.out.block k h2 (by omega)
  have hNt:((N:Int)).toNat=N:=Int.toNat_natCast N;rw[<- HWE.out];unfold UC;rw[hNt,show (⟨(N:Int),L⟩:NN).arcs.length=q from HLq.out];refine ⟨aA,cA,H1,H2,D1,D2,E1,E2,rfl,AR.out.keep (fun x hx=>old _ (AL.out x hx).1 (AL.out x hx).2),fun x hx=>⟨by have:=(AL.out x hx).1;omega,Nat.lt_of_lt_of_le (AL.out x hx).2 U8.out.size⟩,?_,?_,BR.out.trans (U8.out.below (by omega) BR.out.size)⟩
  ·have eY:(fun v:Nat=>yR ⟨(N:Int),L⟩ (v:Int))=fun v:Nat=>yT (lR (v:Int)) L q:=by
    funext v
    show yT _ L L.length=_;rw[HLq.out]
   rw[eY];refine (TT1.out.keep fun k hk=>old k (TT1.out.lt hk).1 (TT1.out.lt hk).2).mono (show w.heap.size<=V0.heap.size by omega)
  have eY:(fun v:Nat=>xW ⟨(N:Int),L⟩ (v:Int))=fun v:Nat=>yT (wO (v:Int)) L q:=by
   funext v
   show yT _ L L.length=_;rw[HLq.out]
  rw[eY];refine (TT2.out.keep fun k hk=>old k (TT2.out.lt hk).1 (TT2.out.lt hk).2).mono (show w.heap.size<=V0.heap.size by omega)
def WbN (N:Nat) (aA:Option Addr) (H1 H2:Nat) (D1 D2:Nat->Option Addr) (k:Nat):Prop:=(∃ x,aA=some x/\x.block=k)\/XK N H1 D1 k\/XK N H2 D2 k
structure EU (B : Nat) (w : World) (L : List NA) (N : Nat) (aA : Option Addr) (H1 H2 : Nat) (D1 D2 : Nat -> Option Addr) (E1 E2 : Nat -> Nat) : Prop where
 arcs:vN w aA L
 sA:∀x,aA=some x->B<=x.block/\x.block<w.heap.size
 t1:tV B w H1 N D1 E1 (fun v=>yT (lR (v:Int)) L L.length)
 t2:tV B w H2 N D2 E2 (fun v=>yT (wO (v:Int)) L L.length)
theorem EU.lt {B:Nat} {w:World} {L:List NA} {N:Nat} {aA:Option Addr} {H1 H2:Nat} {D1 D2:Nat->Option Addr} {E1 E2:Nat->Nat} (h:EU B w L N aA H1 H2 D1 D2 E1 E2) {k:Nat} (hk:WbN N aA H1 H2 D1 D2 k):B<=k/\k<w.heap.size:=by
 rcases hk with ⟨x,hx,rfl⟩|h1|h1
 ·exact h.sA x hx
 ·exact h.t1.lt h1
 exact h.t2.lt h1
theorem EU.keep {B:Nat} {w w':World} {L:List NA} {N:Nat} {aA:Option Addr} {H1 H2:Nat} {D1 D2:Nat->Option Addr} {E1 E2:Nat->Nat} (h:EU B w L N aA H1 H2 D1 D2 E1 E2) (hk:∀k,WbN N aA H1 H2 D1 D2 k->w'.heap[k]? =w.heap[k]?) (hs:w.heap.size<=w'.heap.size):EU B w' L N aA H1 H2 D1 D2 E1 E2:=
 ⟨h.arcs.keep (fun x hx=>hk _ (.inl ⟨x,hx,rfl⟩)),fun x hx=>⟨(h.sA x hx).1,Nat.lt_of_lt_of_le (h.sA x hx).2 hs⟩,h.t1.keep (fun _ hk'=>hk _ (.inr (.inl hk'))),h.t2.keep (fun _ hk'=>hk _ (.inr (.inr hk')))⟩
theorem EU.below {B:Nat} {w w':World} {L:List NA} {N:Nat} {aA:Option Addr} {H1 H2:Nat} {D1 D2:Nat->Option Addr} {E1 E2:Nat->Nat} (h:EU B w L N aA H1 H2 D1 D2 E1 E2) (hb:Below w.heap.size w w'):EU B w' L N aA H1 H2 D1 D2 E1 E2:=h.keep (fun k hk=>hb.block k (h.lt hk).2) hb.size
theorem EU.mono {B B':Nat} {w:World} {L:List NA} {N:Nat} {aA:Option Addr} {H1 H2:Nat} {D1 D2:Nat->Option Addr} {E1 E2:Nat->Nat} (h:EU B w L N aA H1 H2 D1 D2 E1 E2) (hB:B'<=B):EU B' w L N aA H1 H2 D1 D2 E1 E2:=⟨h.arcs,fun x hx=>⟨Nat.le_trans hB (h.sA x hx).1,(h.sA x hx).2⟩,h.t1.mono hB,h.t2.mono hB⟩
structure GhN where
 aA:Option Addr
 cA:Nat
 H1:Nat
 H2:Nat
 D1:Nat->Option Addr
 D2:Nat->Option Addr
 E1:Nat->Nat
 E2:Nat->Nat
 gF:Nat
structure CN (V : World) (L : List NA) (N : Nat) (y : GhN) (d : Nat -> Bool) (u : World) : Prop where
 bel:Below V.heap.size V u
 wr:d 1=true->EU V.heap.size u L N y.aA y.H1 y.H2 y.D1 y.D2 y.E1 y.E2
 fi:d 4=true->zO V.heap.size u (some ⟨y.gF,0,none⟩) N (List.replicate N 0)
 dis:d 1=true->d 4=true->∀k,WbN N y.aA y.H1 y.H2 y.D1 y.D2 k->k≠y.gF
theorem CN.start (V:World) (L:List NA) (N:Nat) (y:GhN):CN V L N y (fun _=>false) V:=⟨Below.refl _ _,(fun h=>by cases h),(fun h=>by cases h),(fun h=>by cases h)⟩
theorem CN.later {V u u':World} {L:List NA} {N:Nat} {y:GhN} {d:Nat->Bool} (h:CN V L N y d u) (hb:Below u.heap.size u u'):CN V L N y d u':=
 ⟨h.bel.trans (hb.mono h.bel.size),fun e=>(h.wr e).below hb,fun e=>(h.fi e).later hb,h.dis⟩
theorem CN.m1 {V u u':World} {L:List NA} {N:Nat} {y:GhN} {d:Nat->Bool} {aA:Option Addr} {cA H1 H2:Nat} {D1 D2:Nat->Option Addr} {E1 E2:Nat->Nat} (h:CN V L N y d u) (hw:EU u.heap.size u' L N aA H1 H2 D1 D2 E1 E2) (hb:Below u.heap.size u u'):CN V L N ⟨aA,cA,H1,H2,D1,D2,E1,E2,y.gF⟩ (zA d 1) u':=by
 have g:=h.later hb;have e4:zA d 1 4=d 4:=zP d (by decide);refine ⟨g.bel,fun _=>hw.mono h.bel.size,fun e=>g.fi (by rw[<- e4];exact e),fun _ e k hk=>?_⟩
 rw[e4]at e;have h1:=(hw.lt hk).1;have h2:=((h.fi e).lt _ rfl).2;intro hh;simp only at h2 hh;omega
theorem WT (w:World) (N:Nat) (hN:N<=1000) {B:Nat} (hB:B<=w.heap.size):zO B (w.alloc (.cells (madeCells #[.int .i64 0] N) 3)) (some ⟨w.heap.size,0,none⟩) N (List.replicate N 0):=by
 have hm:(w.alloc (.cells (madeCells #[.int .i64 0] N) 3)).heap[w.heap.size]? =some (.cells (madeCells #[.int .i64 0] N) 3 (0,0)):=by show (w.heap.push _)[w.heap.size]? =_;simp
 unfold zO;rw[List.length_replicate];refine ⟨by simp,.inr ⟨w.heap.size,N,_,rfl,hB,hm,Nat.le_refl _,by unfold maxLen;omega,by simp[madeCells],?_⟩⟩
 apply List.ext_getElem?
 intro k;rw[Nat.mul_one]
 by_cases hk:k<N<;>simp[madeCells,hk,Nat.mod_one]
theorem CN.m4 {V u:World} {L:List NA} {N:Nat} {y:GhN} {d:Nat->Bool} (h:CN V L N y d u) (hN:N<=1000):CN V L N ⟨y.aA,y.cA,y.H1,y.H2,y.D1,y.D2,y.E1,y.E2,u.heap.size⟩ (zA d 4) (u.alloc (.cells (madeCells #[.int .i64 0] N) 3)):=by
 have hb:Below u.heap.size u (u.alloc (.cells (madeCells #[.int .i64 0] N) 3)):=(Below.refl _ _).alloc (Nat.le_refl _) _;have g:=h.later hb;have e1:zA d 4 1=d 1:=zP d (by decide);refine ⟨g.bel,fun e=>g.wr (by rw[<- e1];exact e),fun _=>WT u N hN h.bel.size,fun e _ k hk=>?_⟩
 rw[e1]at e;have h1:=((h.wr e).lt hk).2;show k≠u.heap.size
 omega
structure LN (B : Nat) (w0 wr : World) (L : List NA) (N K : Nat) (T : List Int) (aA : Option Addr) (cA H1 H2 : Nat) (D1 D2 : Nat -> Option Addr) (E1 E2 : Nat -> Nat) (aT : Option Addr) (cT gF : Nat) : Prop where
 blk:zE 91 K wr #[.slice aA L.length cA,.slice (some ⟨H1,0,none⟩) N N,.slice (some ⟨H2,0,none⟩) N N,.slice aT T.length cT,.slice (some ⟨gF,0,none⟩) N N]
 w:EU B wr L N aA H1 H2 D1 D2 E1 E2
 fi:zO B wr (some ⟨gF,0,none⟩) N (List.replicate N 0)
 tok:zO B wr aT cT T
 lK:B<=K
 wb:∀k,WbN N aA H1 H2 D1 D2 k->k≠K/\k≠gF
 kf:K≠gF
 tk:∀y,aT=some y->y.block≠K/\y.block≠gF/\¬WbN N aA H1 H2 D1 D2 y.block
 bel:Below B w0 wr
theorem LN.later {B:Nat} {w0 wr w':World} {L:List NA} {N K:Nat} {T:List Int} {aA:Option Addr} {cA H1 H2:Nat} {D1 D2:Nat->Option Addr} {E1 E2:Nat->Nat} {aT:Option Addr} {cT gF:Nat} (h:LN B w0 wr L N K T aA cA H1 H2 D1 D2 E1 E2 aT cT gF) (hb:Below wr.heap.size wr w') (hB:B<=wr.heap.size):LN B w0 w' L N K T aA cA H1 H2 D1 D2 E1 E2 aT cT gF:=
 ⟨h.blk.below hb,h.w.below hb,h.fi.later hb,h.tok.later hb,h.lK,h.wb,h.kf,h.tk,h.bel.trans (hb.mono hB)⟩
structure zZV (B : Nat) (V : World) (K : Nat) (cs : Array Value) (aT : Option Addr) (R : List Int) (u : World) (d : Option Addr) (c : Nat) : Prop where
 own:zO B u d c R
 blk:zE 91 K u (cs.setIfInBounds 3 (.slice d R.length c))
 keep:∀k,k<V.heap.size->k≠K->(∀ y,aT=some y->y.block≠k)->u.heap[k]? =V.heap[k]?
 new:∀z,d=some z->aT=some z\/V.heap.size<=z.block
 size:V.heap.size<=u.heap.size
 os:u.os=V.os
 tape:u.tape=V.tape
 output:u.output=V.output
theorem zZV.later {B:Nat} {V u u':World} {K c:Nat} {cs:Array Value} {aT d:Option Addr} {R:List Int} (h:zZV B V K cs aT R u d c) (hb:Below u.heap.size u u'):zZV B V K cs aT R u' d c:=
 ⟨h.own.later hb,h.blk.below hb,fun k hk h1 h2=>(hb.block k (Nat.lt_of_lt_of_le hk h.size)).trans (h.keep k hk h1 h2),h.new,Nat.le_trans h.size hb.size,hb.os.trans h.os,hb.tape.trans h.tape,hb.output.trans h.output⟩
theorem zQJ {B:Nat} {V u:World} {K c:Nat} {cs:Array Value} {aT d:Option Addr} {R:List Int} (hb:zE 91 K V cs) (hn:∀y,aT=some y->y.block≠K) (g:oL B V aT R u d c):zZV B V K cs aT R (u.setCell ⟨K,3,none⟩ (.slice d R.length c)) d c:=by
 have hk:=g.keep K hb.lt hn
 have dK:∀z,d=some z->z.block≠K:=fun z hz=>by
  rcases g.new z hz with h1|h1
  ·exact hn z h1
  have:=hb.lt;omega
 refine ⟨g.own.setOther (ad:=⟨K,3,none⟩) dK _,(hb.keep hk).set 3 _,fun k h1 h2 h3=>?_,g.new,by rw[World.size_setCell];exact g.size,g.os,g.tape,g.output⟩
 rw[Below.heap_setCell u ⟨K,3,none⟩ _ k h2];exact g.keep k h1 h3
theorem LN.step {B:Nat} {w0 V u:World} {L:List NA} {N K c:Nat} {T:List Int} {x:Int} {d:Option Addr} {aA:Option Addr} {cA H1 H2:Nat} {D1 D2:Nat->Option Addr} {E1 E2:Nat->Nat} {aT:Option Addr} {cT gF:Nat} (h:LN B w0 V L N K T aA cA H1 H2 D1 D2 E1 E2 aT cT gF) (hB:B<=V.heap.size) (f:zZV B V K #[.slice aA L.length cA,.slice (some ⟨H1,0,none⟩) N N,.slice (some ⟨H2,0,none⟩) N N,.slice aT T.length cT,.slice (some ⟨gF,0,none⟩) N N] aT (T++[x]) u d c):LN B w0 u L N K (T++[x]) aA cA H1 H2 D1 D2 E1 E2 d c gF:=by
 have kW:∀k,WbN N aA H1 H2 D1 D2 k->u.heap[k]? =V.heap[k]? :=fun k hk=>f.keep k (h.w.lt hk).2 (h.wb k hk).1 (fun y hy e=>(h.tk y hy).2.2 (by rw[e];exact hk))
 refine ⟨f.blk,h.w.keep kW f.size,h.fi.keep (fun x hx=>by cases hx;exact f.keep _ (h.fi.lt _ rfl).2 (Ne.symm h.kf) (fun y hy=>(h.tk y hy).2.1)),f.own,h.lK,h.wb,h.kf,fun y hy=>?_,⟨f.os.trans h.bel.os,f.tape.trans h.bel.tape,f.output.trans h.bel.output,Nat.le_trans h.bel.size f.size,fun k hk=>(f.keep k (Nat.lt_of_lt_of_le hk hB) (by have:=h.lK;omega) (fun y hy=>by have:=(h.tok.lt y hy).1;omega)).trans (h.bel.block k hk)⟩⟩
 rcases f.new y hy with h1|h1
 ·exact h.tk y h1
 exact ⟨by have:=h.blk.lt;omega,by have:=(h.fi.lt _ rfl).2;simp only at this;omega,fun e=>by have:=(h.w.lt e).2;omega⟩
def zH (n:NN):List Int:=n.arcs.map NA.s
theorem fE {n:NN} {k:Nat} (h:k<n.arcs.length):zS (zH n) k=(zU n.arcs k).s:=by
 unfold zS zH zU;rw[List.getD_eq_getElem?_getD,List.getD_eq_getElem?_getD,List.getElem?_map,List.getElem?_eq_getElem h];rfl
theorem zVA {n:NN} (h:yI n):cQ (zH n):=by
 intro k
 by_cases hk:k<n.arcs.length
 ·rw [fE hk];have:=(h.arcs k hk).s;omega
 unfold zS zH;rw[List.getD_eq_getElem?_getD,List.getElem?_eq_none (by simpa using Nat.le_of_not_lt hk)];exact ⟨by decide,by decide⟩
theorem LN.fin {B:Nat} {w0 wr:World} {n:NN} {N K:Nat} {aA:Option Addr} {cA H1 H2:Nat} {D1 D2:Nat->Option Addr} {E1 E2:Nat->Nat} {aT:Option Addr} {cT gF:Nat} (hS:yI n) (hN:n.nodes.toNat=N) (h:LN B w0 wr n.arcs N K (zH n) aA cA H1 H2 D1 D2 E1 E2 aT cT gF):cX B wr.heap.size wr K n (zH n) (List.replicate N 0) aA cA H1 H2 D1 D2 E1 E2 aT cT gF:=by
 have inr0:cQ (List.replicate N (0:Int)):=fun k=>by
  unfold zS;rw[List.getD_eq_getElem?_getD]
  by_cases hk:k<N
  ·rw [List.getElem?_replicate,if_pos hk];exact ⟨by decide,by decide⟩
  rw[List.getElem?_replicate,if_neg hk];exact ⟨by decide,by decide⟩
 subst hN
 have fx:∀k,WbN n.nodes.toNat aA H1 H2 D1 D2 k->Fix B wr.heap.size aT gF k:=fun k hk=>⟨(h.w.lt hk).1,(h.w.lt hk).2,fun y hy e=>(h.tk y hy).2.2 (by rw[<- e];exact hk),(h.wb k hk).2⟩
 exact ⟨h.blk,h.w.arcs,fun v hv=>⟨h.w.t1.long.cell hv,(h.w.t1.own v hv).at⟩,fun v hv=>⟨h.w.t2.long.cell hv,(h.w.t2.own v hv).at⟩,h.tok,h.fi,by unfold zH;rw[List.length_map],by rw[List.length_replicate],zVA hS,inr0,hS,
  ⟨h.lK,h.blk.lt,fun y hy e=>(h.tk y hy).1 e.symm,h.kf⟩,fun x hx=>fx _ (.inl ⟨x,hx,rfl⟩),fx _ (.inr (.inl (.inl rfl))),fx _ (.inr (.inr (.inl rfl))),fun v hv x hx=>fx _ (.inr (.inl (.inr ⟨v,x,hv,hx,rfl⟩))),fun v hv x hx=>fx _ (.inr (.inr (.inr ⟨v,x,hv,hx,rfl⟩))),fun y hy=>⟨(h.tok.lt y hy).1,(h.tok.lt y hy).2,(h.tk y hy).2.1⟩,⟨(h.fi.lt _ rfl).1,(h.fi.lt _ rfl).2⟩,Nat.le_refl _⟩
def JS (n:NN) (w:World) (e:Ending) (w':World):Prop:=
 if zN n=0 then ∃K E,e=.returned (.tuple #[(qP K),.int .i64 0])/\tB w.heap.size E w' K n (zH n) (List.replicate n.nodes.toNat 0)/\Below w.heap.size w w'
 else e=.returned (.tuple #[.pointer none,.int .i64 (zN n)])/\Below w.heap.size w w'
theorem JR {n:NN} {q:Nat} (h:q<n.arcs.length):(zH n).take q++[(zU n.arcs q).s]=(zH n).take (q+1):=by
 have hl:(zH n).length=n.arcs.length:=by unfold zH;rw[List.length_map]
 have h1:=fE h;unfold zS at h1;rw[List.getD_eq_getElem?_getD,List.getElem?_eq_getElem (by omega)]at h1;rw[List.take_add_one,List.getElem?_eq_getElem (by omega)];simp at h1;simp[h1]
theorem PG (n:NN) (a:Option Addr) (c:Nat) (w:World) (h:vN w a n.arcs) (hl:n.arcs.length<=4611686018427387904) (hna:a=none->n.arcs.length=0/\c=0):Calls Tryz.prog 9 #[.agg #[.int .i64 n.nodes,.slice a n.arcs.length c]] w (JS n w):=by
 have CK:=zZ (fun (U:World) (hb:Below w.heap.size w U)=>rS n a c U (h.below hb) hl)
 by_cases hc0:zN n=0
 ·have hS:=zB hc0
  have hnn:=wJ hS;have WD0:=zZ (fun (U:World) (hb:Below w.heap.size w U)=>zZW n a c U hS (h.below hb) hna);obtain ⟨NE,hNE⟩:∃R,JS n w=R:=⟨_,rfl⟩;rw[hNE];have HNE:=zZ hNE;have HFIN:=zZ (fun (wr:World) (K:Nat) (aA:Option Addr) (cA H1 H2:Nat) (D1 D2:Nat->Option Addr) (E1 E2:Nat->Nat) (aT:Option Addr) (cT gF:Nat) (hL:LN w.heap.size w wr n.arcs n.nodes.toNat K (zH n) aA cA H1 H2 D1 D2 E1 E2 aT cT gF)=>hL.fin hS rfl);have HTK:=zZ (fun q (hq:q<n.arcs.length)=>JR (n:=n) hq);have HTA:Hid ((zH n).take n.arcs.length=zH n):=List.take_of_length_le (by unfold zH;rw[List.length_map];exact Nat.le_refl _)
  have HTL:Hid ((zH n).length=n.arcs.length):=by show _=_;unfold zH;rw[List.length_map]
  have hmost:=hS.most;have HA:=zZ h;rw[hc0]at CK;obtain ⟨L,hL⟩:∃L,n.arcs=L:=⟨_,rfl⟩;obtain ⟨N,hN⟩:∃N,n.nodes.toNat=N:=⟨_,rfl⟩;obtain ⟨len,hlen⟩:∃q,L.length=q:=⟨_,rfl⟩;have HLL:Hid (L.length=len):=hlen
  have WD1:Hid (∀ (U:World),Below w.heap.size w U->Calls Tryz.prog 30 #[.agg #[.int .i64 (N:Int),.slice a len c]] U fun e w'=>∃(aA:Option Addr) (cA H1 H2:Nat) (D1 D2:Nat->Option Addr) (E1 E2:Nat->Nat),e=.returned (.agg #[.slice aA len cA,.slice (some ⟨H1,0,none⟩) N N,.slice (some ⟨H2,0,none⟩) N N])/\vN w' aA L/\(∀ x,aA=some x->U.heap.size<=x.block/\x.block<w'.heap.size)/\tV U.heap.size w' H1 N D1 E1 (fun v=>yT (lR (v:Int)) L L.length)/\tV U.heap.size w' H2 N D2 E2 (fun v=>yT (wO (v:Int)) L L.length)/\Below U.heap.size U w'):=fun U hb=>by
   have r:=WD0.out U hb;unfold UC yR xW at r;rw[hL,hN,hlen,<-hnn.1,hN]at r;rw[hlen];exact r
  rw[hN]at hnn HFIN;rw[hL]at CK HA HFIN HTK HTA HTL hmost ⊢;rw[hlen]at CK HTK HTA HTL hmost ⊢;rw[<- hnn.1]at CK ⊢;have hn2:=hnn.2;clear hnn;have HC0:=zZ hc0;have HNN:=zZ hN;clear WD0 hNE hS h hc0 hna hl;have b0:=(Below.refl w.heap.size w).alloc (Nat.le_refl _) (.cells #[.int .i64 (N:Int),.slice a len c] 30);have G0:=zZ (zV 30 w #[.int .i64 (N:Int),.slice a len c]);have B0:=zZ b0;have CK1:=zZ (CK.out _ b0);have z0:=G0.out.cell (k:=0) rfl;have z1:=G0.out.cell (k:=1) rfl;simp only[List.getElem_toArray,List.getElem_cons_zero,List.getElem_cons_succ]at z0 z1;clear b0 CK
  go_enter Tryz.func9,Tryz.ntmps9
  go_upto_region 1 with fail
  generalize w.alloc (.cells #[.int .i64 (N:Int),.slice a len c] 30)=W0 at *
  go_upto_region 4 with (go_at_call 22;(with_reducible refine CK1.out.mono ?_);rintro e W1 ⟨rfl,b1⟩;have B1:=zZ (B0.out.trans (b1.mono B0.out.size));have G1:=zZ (G0.out.below b1);clear b1 z0 z1)
  have z0:=G1.out.cell (k:=0) rfl;have z1:=G1.out.cell (k:=1) rfl;simp only[List.getElem_toArray,List.getElem_cons_zero,List.getElem_cons_succ]at z0 z1
  have WD:Hid (∀ (U:World),Below W1.heap.size W1 U->Calls Tryz.prog 30 #[.agg #[.int .i64 (N:Int),.slice a len c]] U fun e w'=>∃(aA:Option Addr) (cA H1 H2:Nat) (D1 D2:Nat->Option Addr) (E1 E2:Nat->Nat),e=.returned (.agg #[.slice aA len cA,.slice (some ⟨H1,0,none⟩) N N,.slice (some ⟨H2,0,none⟩) N N])/\vN w' aA L/\(∀ x,aA=some x->U.heap.size<=x.block/\x.block<w'.heap.size)/\tV U.heap.size w' H1 N D1 E1 (fun v=>yT (lR (v:Int)) L L.length)/\tV U.heap.size w' H2 N D2 E2 (fun v=>yT (wO (v:Int)) L L.length)/\Below U.heap.size U w'):=fun U hb=>WD1.out U (B1.out.trans (hb.mono B1.out.size))
  have HM:=zZ (run_make_row' (P:=Tryz.prog) 27 3 (.int .i64 0) 8 Tryz.underlying27 Tryz.info3 rfl .i64 .i64 N (by omega) (by omega));clear WD1 CK1 G0 B0
  refine pL [1,4] (fun y d i u z=>match i with
   |0=>z=.agg #[.int .i64 (N:Int),.slice a len c]
   |1=>(d 1=true/\z=.agg #[.slice y.aA len y.cA,.slice (some ⟨y.H1,0,none⟩) N N,.slice (some ⟨y.H2,0,none⟩) N N])
   |2=>z=(qP w.heap.size)
   |3=>z=.int .i64 (N:Int)
   |4=>(d 4=true/\z=.slice (some ⟨y.gF,0,none⟩) N N)
   |5=>((d 1=true/\d 4=true)/\z=.agg #[.slice y.aA len y.cA,.slice (some ⟨y.H1,0,none⟩) N N,.slice (some ⟨y.H2,0,none⟩) N N,qN,.slice (some ⟨y.gF,0,none⟩) N N])
   |6=>((d 1=true/\d 4=true)/\∃K,z=(qP K)/\zE 91 K u #[.slice y.aA len y.cA,.slice (some ⟨y.H1,0,none⟩) N N,.slice (some ⟨y.H2,0,none⟩) N N,qN,.slice (some ⟨y.gF,0,none⟩) N N]/\W1.heap.size<=K/\(∀ k,WbN N y.aA y.H1 y.H2 y.D1 y.D2 k->k≠K)/\K≠y.gF)
   |7=>((d 1=true/\d 4=true)/\∃K,z=(qP K)/\zE 91 K u #[.slice y.aA len y.cA,.slice (some ⟨y.H1,0,none⟩) N N,.slice (some ⟨y.H2,0,none⟩) N N,qN,.slice (some ⟨y.gF,0,none⟩) N N]/\W1.heap.size<=K/\(∀ k,WbN N y.aA y.H1 y.H2 y.D1 y.D2 k->k≠K)/\K≠y.gF)
   |_=>True) (fun y d u=>CN W1 L N y d u) (⟨none,0,0,0,fun _=>none,fun _=>none,fun _=>0,fun _=>0,0⟩) (by kernel_rfl) (by kernel_rfl) (by kernel_rfl) ?_ ?_ ?_ ?_ ?_ ?_ (by kernel_rfl)
  ·intro y d i w v w' h hb
   match i,h with
   |0,h=>exact h
   |1,h=>exact h
   |2,h=>exact h
   |3,h=>exact h
   |4,h=>exact h
   |5,h=>exact h
   |6,h=>exact ⟨h.1,by obtain ⟨K,h1,h2,h3⟩:=h.2;exact ⟨K,h1,h2.below hb,h3⟩⟩
   |7,h=>exact ⟨h.1,by obtain ⟨K,h1,h2,h3⟩:=h.2;exact ⟨K,h1,h2.below hb,h3⟩⟩
   |_+8,_=>trivial
  ·intro y d u u' h hb
   exact CN.later h hb
  ·exact CN.start _ _ _ _
  ·intro y d i o ρ w' hm ho hf hg hC hcs hfs hfr zX
   match i,hm,ho,hf,hg,hfr,zX with
   |0,_,ho,hf,hg,hfr,zX=>
    simp only[qS]at ho;subst ho;refine ⟨fun _=>?_,qF⟩
    have ts: ρ (.tmp 1)=(qP w.heap.size):=(qR hfr 1);have k0:=zW hC.bel z0;have k1:=zW hC.bel z1;simp[go_sem,ts,k0,k1];exact qB
   |1,hm,_,_,_,_,_=>exact qD hm
   |2,_,ho,hf,hg,hfr,zX=>
    simp only[qS]at ho;subst ho;refine ⟨fun _=>?_,qF⟩
    have ts: ρ (.tmp 1)=(qP w.heap.size):=(qR hfr 1);simp[go_sem,ts];exact qB
   |3,_,ho,hf,hg,hfr,zX=>
    simp only[qS]at ho;subst ho;refine ⟨fun _=>?_,qF⟩
    have k0:=zW hC.bel z0;have d0: ρ (.tmp 15)=(qP w.heap.size):=(qH zX 2 15);simp[go_sem,d0,k0];exact qB
   |4,hm,_,_,_,_,_=>exact qD hm
   |5,_,ho,hf,hg,hfr,zX=>
    simp only[qS]at ho;subst ho;refine ⟨fun _=>?_,qF⟩
    obtain ⟨q1,t1⟩:d 1=true/\ ρ (.tmp 14)=.agg #[.slice y.aA len y.cA,.slice (some ⟨y.H1,0,none⟩) N N,.slice (some ⟨y.H2,0,none⟩) N N]:=(qH zX 1 14);obtain ⟨q4,t4⟩:d 4=true/\ ρ (.tmp 17)=.slice (some ⟨y.gF,0,none⟩) N N:=(qH zX 4 17);simp[go_sem,t1,t4];exact ⟨Below.refl _ _,⟨q1,q4⟩,rfl⟩
   |6,_,ho,hf,hg,hfr,zX=>
    simp only[qS]at ho;subst ho;refine ⟨fun _=>?_,qF⟩
    obtain ⟨qq,t5⟩:(d 1=true/\d 4=true)/\ ρ (.tmp 18)=.agg #[.slice y.aA len y.cA,.slice (some ⟨y.H1,0,none⟩) N N,.slice (some ⟨y.H2,0,none⟩) N N,qN,.slice (some ⟨y.gF,0,none⟩) N N]:=(qH zX 5 18);simp[go_sem,t5];exact ⟨(Below.refl _ _).alloc (Nat.le_refl _) _,qq,w'.heap.size,rfl,zV 91 w' _,hC.bel.size,fun k hk=>by have:=((hC.wr qq.1).lt hk).2;omega,by have:=((hC.fi qq.2).lt _ rfl).2;simp only at this;omega⟩
   |7,_,ho,hf,hg,hfr,zX=>
    simp only[qS]at ho;subst ho;refine ⟨fun _=>?_,qF⟩
    obtain ⟨qq,K,t6,rest⟩:(d 1=true/\d 4=true)/\∃K,ρ (.tmp 19)=(qP K)/\zE 91 K w' #[.slice y.aA len y.cA,.slice (some ⟨y.H1,0,none⟩) N N,.slice (some ⟨y.H2,0,none⟩) N N,qN,.slice (some ⟨y.gF,0,none⟩) N N]/\W1.heap.size<=K/\(∀ k,WbN N y.aA y.H1 y.H2 y.D1 y.D2 k->k≠K)/\K≠y.gF:=(qH zX 6 19);simp[go_sem,t6];exact ⟨Below.refl _ _,qq,K,rfl,rest⟩
   |n+8,_,ho,_,_,_,_=>simp at ho
  ·intro y d i o ρ w' hm ho h0 hf hg hC hcs hfs hfr zX
   match i,hm,ho,h0,hf,hg,hfr,zX with
   |0,hm,_,_,_,_,_,_=>exact qD hm
   |1,_,ho,h0,hf,hg,hfr,zX=>
    simp only[qS]at ho;subst ho;have t0: ρ (.tmp 13)=.agg #[.int .i64 (N:Int),.slice a len c]:=(qH zX 0 13);have CLw:=WD.out w' hC.bel;refine ⟨rfl,?_⟩
    simp[go_sem,zC,t0,hfs];refine CLw.mono ?_
    rintro e w'' ⟨aA,cA,H1,H2,D1,D2,E1,E2,rfl,q1,q2,q3,q4,q5⟩
    refine ⟨_,rfl,⟨aA,cA,H1,H2,D1,D2,E1,E2,y.gF⟩,hC.m1 ⟨q1,q2,q3,q4⟩ q5,⟨zL _ _,by first|rfl|(simp only[HLL.out])⟩,?_⟩
    intro j t hj hs
    match j,hs with
    |0,hs=>exact hs
    |1,hs=>exact absurd hs.1 (by rw[h0];decide)
    |2,hs=>exact hs
    |3,hs=>exact hs
    |4,hs=>exact ⟨(zP d (by decide)).trans hs.1,hs.2⟩
    |5,hs=>exact absurd hs.1.1 (by rw[h0];decide)
    |6,hs=>exact absurd hs.1.1 (by rw[h0];decide)
    |7,hs=>exact absurd hs.1.1 (by rw[h0];decide)
    |_+8,_=>trivial
   |2,hm,_,_,_,_,_,_=>exact qD hm
   |3,hm,_,_,_,_,_,_=>exact qD hm
   |4,_,ho,h0,hf,hg,hfr,zX=>
    simp only[qS]at ho;subst ho;have t0: ρ (.tmp 16)=.int .i64 (N:Int):=(qH zX 3 16);refine ⟨rfl,?_⟩
    simp[go_sem,zC,t0,HM.out];refine ⟨⟨y.aA,y.cA,y.H1,y.H2,y.D1,y.D2,y.E1,y.E2,w'.heap.size⟩,hC.m4 (by omega),⟨zL _ _,rfl⟩,?_⟩
    intro j t hj hs
    match j,hs with
    |0,hs=>exact hs
    |1,hs=>exact ⟨(zP d (by decide)).trans hs.1,hs.2⟩
    |2,hs=>exact hs
    |3,hs=>exact hs
    |4,hs=>exact absurd hs.1 (by rw[h0];decide)
    |5,hs=>exact absurd hs.1.2 (by rw[h0];decide)
    |6,hs=>exact absurd hs.1.2 (by rw[h0];decide)
    |7,hs=>exact absurd hs.1.2 (by rw[h0];decide)
    |_+8,_=>trivial
   |5,hm,_,_,_,_,_,_=>exact qD hm
   |6,hm,_,_,_,_,_,_=>exact qD hm
   |7,hm,_,_,_,_,_,_=>exact qD hm
   |n+8,_,ho,_,_,_,_,_=>simp at ho
  intro y9 V w9 hC9 hS;obtain ⟨-,K,e7,k1,k2,k3,k4⟩:=hS 7 (by decide) (by intro h;cases h);simp only[yP,e7];simp only[Act.put,qU];clear hS e7;have hW:=hC9.wr rfl;have hFi:=hC9.fi rfl;have hDi:=hC9.dis rfl rfl;have hBl:=hC9.bel;have hw1:=B1.out.size
  have LN0:LN w.heap.size w w9 L N K [] y9.aA y9.cA y9.H1 y9.H2 y9.D1 y9.D2 y9.E1 y9.E2 none 0 y9.gF:=
   ⟨by rw[HLL.out];exact k1,hW.mono hw1,hFi.mono hw1,zO.nil _ _,by omega,fun k hk=>⟨k3 k hk,hDi k hk⟩,k4,(fun y hy=>by cases hy),B1.out.trans (hBl.mono hw1)⟩
  have HW0:=zZ LN0;have B9:=zZ (B1.out.trans (hBl.mono hw1));have g1:=(G1.out.below hBl).cell (k:=1) rfl;simp only[List.getElem_toArray,List.getElem_cons_zero,List.getElem_cons_succ]at g1;clear hC9 hW hFi hDi hBl LN0 k1 k2 k3 k4 z0 z1 HM WD;generalize y9.aA=aA at *;generalize y9.cA=cA at *;generalize y9.H1=H1 at *;generalize y9.H2=H2 at *;generalize y9.D1=D1 at *;generalize y9.D2=D2 at *;generalize y9.E1=E1 at *;generalize y9.E2=E2 at *;generalize y9.gF=gF at *
  go_wp2
  go_loopg [23] len (fun gk v wr=>∃(q:Nat) (aT:Option Addr) (cT:Nat),q<=len/\gk=len-q/\v=.int .i64 (q:Int)/\LN w.heap.size w wr L N K ((zH n).take q) aA cA H1 H2 D1 D2 E1 E2 aT cT gF)
  case atStart=>exact ⟨0,_,_,Nat.zero_le _,rfl,rfl,HW0.out⟩
  case round=>
   clear HW0 B9 g1;obtain ⟨q,aT,cT,hq,rfl,rfl,hW⟩:=hrel;have HW:=zZ hW;clear hW
   by_cases hlt:q<len
   ·have hki:(q:Int)<(len:Int):=by omega
    rcases HA.out.below HW.out.bel with e|⟨b,off,rfl,hc⟩
    ·have:=HLL.out;rw[e]at this;simp at this;omega
    obtain ⟨c0,c1,c2,c3,c4⟩:=hc q (by have:=HLL.out;omega);have TK:=zZ (HTK.out q hlt)
    have hTl:((zH n).take q).length=q:=by have h1:=HTL.out;rw[List.length_take];omega
    generalize (zH n).take q=T at *;generalize (zU L q).f=ff at *;generalize (zU L q).t=tt at *;generalize (zU L q).g=gg at *;generalize (zU L q).k=kk at *;generalize (zU L q).s=ss at *;clear hc
    go_upto_region 8 with fail
    have bc:=(Below.refl wr.heap.size wr).alloc (Nat.le_refl _) (.cells #[.int .i64 ff,.int .i64 tt,.int .i64 gg,.int .i64 kk,.int .i64 ss] 61);have XA:=zZ (zV 61 wr #[.int .i64 ff,.int .i64 tt,.int .i64 gg,.int .i64 kk,.int .i64 ss]);have hVw:=HW.out.bel.size;have LX:=zZ (HW.out.later bc hVw);have LB:Hid (w.heap.size<=(wr.alloc (.cells #[.int .i64 ff,.int .i64 tt,.int .i64 gg,.int .i64 kk,.int .i64 ss] 61)).heap.size):=Nat.le_trans hVw bc.size
    have NAT:Hid (∀ y,aT=some y->y.block≠wr.heap.size):=fun y hy=>by have:=(HW.out.tok.lt y hy).2;omega
    obtain ⟨ab,hab'⟩:∃ab,wr.heap.size=ab:=⟨_,rfl⟩;rw[hab']at XA NAT ⊢;generalize wr.alloc (.cells #[.int .i64 ff,.int .i64 tt,.int .i64 gg,.int .i64 kk,.int .i64 ss] 61)=V1 at *;clear bc c0 c1 c2 c3 c4 hab'
    refine zM [8,11] (fun d i u z=>match i with
     |0=>z=(qP K)
     |1=>z=(qP K)
     |2=>z=(qP K)
     |3=>z=.pointer (some ⟨K,3,none⟩)
     |4=>z=.slice aT T.length cT
     |5=>z=.pointer (some ⟨ab,4,none⟩)
     |6=>z=.int .i64 ss
     |7=>(d 8=false->∃g,z=.slice (some ⟨g,0,none⟩) 1 1/\u.cell? ⟨g,0,none⟩=some (.int .i64 ss))
     |8=>(d 8=true/\(d 11=false->∃dd cc,z=.slice dd (T.length+1) cc/\oL w.heap.size V1 aT (T++[ss]) u dd cc))
     |9=>z=(qP K)
     |10=>z=.pointer (some ⟨K,3,none⟩)
     |11=>True
     |_=>True) (fun d u=>(d 8=false->Below V1.heap.size V1 u)/\V1.heap.size<=u.heap.size/\(d 11=true->∃dd cc,zZV w.heap.size V1 K #[.slice aA L.length cA,.slice (some ⟨H1,0,none⟩) N N,.slice (some ⟨H2,0,none⟩) N N,.slice aT T.length cT,.slice (some ⟨gF,0,none⟩) N N] aT (T++[ss]) u dd cc)/\(∀ k,k<V1.heap.size->(∀ y,aT=some y->y.block≠k)->d 11=false->u.heap[k]? =V1.heap[k]?)) (by kernel_rfl) (by kernel_rfl) (by kernel_rfl) ?_ ?_ ?_ ?_ ?_ ?_ (by kernel_rfl)
    ·intro d i w v w' h hb
     match i,h with
     |0,h=>exact h
     |1,h=>exact h
     |2,h=>exact h
     |3,h=>exact h
     |4,h=>exact h
     |5,h=>exact h
     |6,h=>exact h
     |7,h=>exact fun e=>by obtain ⟨g,h1,h2⟩:=h e;exact ⟨g,h1,zW hb h2⟩
     |8,h=>exact ⟨h.1,fun e=>by obtain ⟨dd,cc,h1,h2⟩:=h.2 e;exact ⟨dd,cc,h1,h2.later hb⟩⟩
     |9,h=>exact h
     |10,h=>exact h
     |11,h=>exact h
     |_+12,_=>trivial
    ·intro d u u' h hb
     exact ⟨fun e=>(h.1 e).trans (hb.mono (h.1 e).size),Nat.le_trans h.2.1 hb.size,fun e=>by obtain ⟨dd,cc,hF⟩:=h.2.2.1 e;exact ⟨dd,cc,hF.later hb⟩,fun k hk hn e=>(hb.block k (Nat.lt_of_lt_of_le hk h.2.1)).trans (h.2.2.2 k hk hn e)⟩
    ·exact ⟨fun _=>Below.refl _ _,Nat.le_refl _,fun e=>absurd e (by decide),fun _ _ _ _=>rfl⟩
    ·intro d i o ρ w' hm ho hf hg hC hcs hfs hfr zX
     match i,hm,ho,hf,hg,hfr,zX with
     |0,_,ho,hf,hg,hfr,zX=>
      simp only[qS]at ho;subst ho;refine ⟨fun _=>?_,qF⟩
      have ts: ρ (.tmp 5)=(qP K):=(qR hfr 5);simp[go_sem,ts];exact qB
     |1,_,ho,hf,hg,hfr,zX=>
      simp only[qS]at ho;subst ho;refine ⟨fun _=>?_,qF⟩
      have ts: ρ (.tmp 5)=(qP K):=(qR hfr 5);simp[go_sem,ts];exact qB
     |2,_,ho,hf,hg,hfr,zX=>
      simp only[qS]at ho;subst ho;refine ⟨fun _=>?_,qF⟩
      have d0: ρ (.tmp 28)=(qP K):=(qH zX 1 28);simp[go_sem,d0];exact qB
     |3,_,ho,hf,hg,hfr,zX=>
      simp only[qS]at ho;subst ho;refine ⟨fun _=>?_,qF⟩
      have d0: ρ (.tmp 29)=(qP K):=(qH zX 2 29);simp[go_sem,d0];exact qB
     |4,_,ho,hf,hg,hfr,zX=>
      simp only[qS]at ho;subst ho;refine ⟨fun _=>?_,qF⟩
      have h8:d 8=false:=hf 8 (by decide) (by kernel_rfl);have cc:w'.cell? ⟨K,3,none⟩=some (.slice aT T.length cT):=(LX.out.blk.below (hC.1 h8)).cell rfl;have d0: ρ (.tmp 30)=.pointer (some ⟨K,3,none⟩):=(qH zX 3 30);simp[go_sem,d0,cc];exact qB
     |5,_,ho,hf,hg,hfr,zX=>
      simp only[qS]at ho;subst ho;refine ⟨fun _=>?_,qF⟩
      have ts: ρ (.tmp 7)=(qP ab):=(qR hfr 7);simp[go_sem,ts];exact qB
     |6,_,ho,hf,hg,hfr,zX=>
      simp only[qS]at ho;subst ho;refine ⟨fun _=>?_,qF⟩
      have h11:d 11=false:=hf 11 (by decide) (by kernel_rfl);have cc:w'.cell? ⟨ab,4,none⟩=some (.int .i64 ss):=(XA.out.keep (hC.2.2.2 ab XA.out.lt NAT.out h11)).cell rfl;have d0: ρ (.tmp 32)=.pointer (some ⟨ab,4,none⟩):=(qH zX 5 32);simp[go_sem,d0,cc];exact qB
     |7,_,ho,hf,hg,hfr,zX=>
      simp only[qS]at ho;subst ho;refine ⟨fun _=>?_,qF⟩
      have t0: ρ (.tmp 33)=.int .i64 ss:=(qH zX 6 33);simp[go_sem,t0];exact ⟨(Below.refl _ _).alloc (Nat.le_refl _) _,fun _=>⟨w'.heap.size,rfl,by simp⟩⟩
     |8,hm,_,_,_,_,_=>exact qD hm
     |9,_,ho,hf,hg,hfr,zX=>
      simp only[qS]at ho;subst ho;refine ⟨fun _=>?_,qF⟩
      have d0: ρ (.tmp 27)=(qP K):=(qH zX 0 27);simp[go_sem,d0];exact qB
     |10,_,ho,hf,hg,hfr,zX=>
      simp only[qS]at ho;subst ho;refine ⟨fun _=>?_,qF⟩
      have d0: ρ (.tmp 36)=(qP K):=(qH zX 9 36);simp[go_sem,d0];exact qB
     |11,hm,_,_,_,_,_=>exact qD hm
     |n+12,_,ho,_,_,_,_=>simp at ho
    ·intro d i o ρ w' hm ho h0 hf hg hC hcs hfs hfr zX
     match i,hm,ho,h0,hf,hg,hfr,zX with
     |0,hm,_,_,_,_,_,_=>exact qD hm
     |1,hm,_,_,_,_,_,_=>exact qD hm
     |2,hm,_,_,_,_,_,_=>exact qD hm
     |3,hm,_,_,_,_,_,_=>exact qD hm
     |4,hm,_,_,_,_,_,_=>exact qD hm
     |5,hm,_,_,_,_,_,_=>exact qD hm
     |6,hm,_,_,_,_,_,_=>exact qD hm
     |7,hm,_,_,_,_,_,_=>exact qD hm
     |8,_,ho,h0,hf,hg,hfr,zX=>
      simp only[qS]at ho;subst ho;have t0: ρ (.tmp 31)=.slice aT T.length cT:=(qH zX 4 31);obtain ⟨g,t1,cg⟩:∃g,ρ (.tmp 34)=.slice (some ⟨g,0,none⟩) 1 1/\w'.cell? ⟨g,0,none⟩=some (.int .i64 ss):=(qH zX 7 34) h0;have h11:d 11=false:=hf 11 (by decide) (by kernel_rfl);refine ⟨rfl,kR (.tmp 31) (.tmp 34) rfl t0 t1 LX.out.tok (hC.1 h0) cg (by omega) LB.out ?_⟩
      intro u9 d9 c9 hG;refine ⟨⟨fun e=>absurd e (by rw[zL];decide),hG.size,fun e=>absurd ((zP d (by decide)).symm.trans e) (by rw[h11];decide),fun k hk hn _=>hG.keep k hk hn⟩,fun _=>⟨zL _ _,fun _=>⟨d9,c9,rfl,hG⟩⟩,?_⟩
      intro j t hj hs
      match j,hs with
      |0,hs=>exact hs
      |1,hs=>exact hs
      |2,hs=>exact hs
      |3,hs=>exact hs
      |4,hs=>exact hs
      |5,hs=>exact hs
      |6,hs=>exact hs
      |7,hs=>exact fun e=>absurd e (by rw[zL];decide)
      |8,hs=>exact absurd hs.1 (by rw[h0];decide)
      |9,hs=>exact hs
      |10,hs=>exact hs
      |11,_=>trivial
      |_+12,_=>trivial
     |9,hm,_,_,_,_,_,_=>exact qD hm
     |10,hm,_,_,_,_,_,_=>exact qD hm
     |11,_,ho,h0,hf,hg,hfr,zX=>
      simp only[qS]at ho;subst ho;have t0: ρ (.tmp 37)=.pointer (some ⟨K,3,none⟩):=(qH zX 10 37);have t9:d 8=true/\(d 11=false->∃dd cc,ρ (.tmp 35)=.slice dd (T.length+1) cc/\oL w.heap.size V1 aT (T++[ss]) w' dd cc):=(qH zX 8 35);obtain ⟨dd,cc,e9,hG⟩:=t9.2 h0;have hbk:=LX.out.blk.keep (hG.keep K LX.out.blk.lt (fun y hy=>(LX.out.tk y hy).1));have c1:w'.cell? ⟨K,3,none⟩=some (.slice aT T.length cT):=hbk.cell rfl;have f1:=hbk.frozen 3;refine ⟨rfl,wQ (w':=w'.setCell ⟨K,3,none⟩ (.slice dd (T.length+1) cc)) (by simp[go_sem,t0,e9,c1,f1]) ?_⟩
      have hF:=zQJ LX.out.blk (fun y hy=>(LX.out.tk y hy).1) hG;rw[List.length_append]at hF;refine ⟨⟨fun e=>absurd ((zP d (by decide)).symm.trans e) (by rw[t9.1];decide),by rw[World.size_setCell];exact hG.size,fun _=>⟨dd,cc,hF⟩,fun _ _ _ e=>absurd e (by rw[zL];decide)⟩,fun h=>absurd rfl h,?_⟩
      intro j t hj hs
      match j,hs with
      |0,hs=>exact hs
      |1,hs=>exact hs
      |2,hs=>exact hs
      |3,hs=>exact hs
      |4,hs=>exact hs
      |5,hs=>exact hs
      |6,hs=>exact hs
      |7,hs=>exact fun e=>absurd ((zP d (by decide)).symm.trans e) (by rw[t9.1];decide)
      |8,hs=>exact ⟨(zP d (by decide)).trans hs.1,fun e=>absurd e (by rw[zL];decide)⟩
      |9,hs=>exact hs
      |10,hs=>exact hs
      |11,_=>trivial
      |_+12,_=>trivial
     |n+12,_,ho,_,_,_,_,_=>simp at ho
    intro V w8 hC8 hS;simp only[yP,uM];simp only[Act.put,qU];clear hS;obtain ⟨dd,cc,hF⟩:=hC8.2.2.1 rfl;have LX3:=zZ (LX.out.step LB.out hF);rw[TK.out]at LX3;clear hC8 hF LX XA LB
    go_wp2
    go_roundg (len-(q+1))
    case measure=>omega
    case rel=>exact ⟨q+1,_,_,by omega,rfl,by go_num,LX3.out⟩
   have ek:q=len:=by omega
   subst ek
   have hki:¬(q:Int)<(q:Int):=by omega
   rw[HTA.out]at HW;have FI:=zZ (HFIN.out wr K _ _ _ _ _ _ _ _ _ _ _ HW.out);have BL:=zZ HW.out.bel;clear HW HFIN
   go_wp2
   rw[<- HNE.out];unfold JS;rw[if_pos HC0.out,HNN.out];exact ⟨K,wr.heap.size,rfl,⟨_,_,_,_,_,_,_,_,_,_,_,FI.out⟩,BL.out⟩
 have eE:JS n w=fun e w'=>e=.returned (.tuple #[.pointer none,.int .i64 (zN n)])/\Below w.heap.size w w':=by
  funext e w'
  unfold JS;rw[if_neg hc0]
 rw[eE];clear eE;have b0:=(Below.refl w.heap.size w).alloc (Nat.le_refl _) (.cells #[.int .i64 n.nodes,.slice a n.arcs.length c] 30);have G0:=zV 30 w #[.int .i64 n.nodes,.slice a n.arcs.length c];have z0:=G0.cell (k:=0) rfl;have z1:=G0.cell (k:=1) rfl;simp only[List.getElem_toArray,List.getElem_cons_zero,List.getElem_cons_succ]at z0 z1;have B0:=zZ b0;have CK1:=zZ (CK.out _ b0);clear CK G0 b0
 go_enter Tryz.func9,Tryz.ntmps9
 go_upto_region 1 with fail
 generalize w.alloc (.cells #[.int .i64 n.nodes,.slice a n.arcs.length c] 30)=W0 at *
 go_wp2_with (go_at_call 22;(with_reducible refine CK1.out.mono ?_);rintro e W1 ⟨rfl,b1⟩;have B1:=zZ (B0.out.trans (b1.mono B0.out.size));clear b1)
 go_ret2
 exact ⟨rfl,B1.out⟩
theorem gX {B:Nat} {a w:World} (h:Below B a w) (n:Nat):Below B a (w.drewN n):=h.trans ⟨rfl,rfl,rfl,Nat.le_refl _,fun _ _=>rfl⟩
theorem zZU (U:World) (x y:Int):At (U.alloc (.cells #[.int .i64 x,.int .i64 y] 3)) (some ⟨U.heap.size,0,none⟩) [x,y]:=by
 have b:=zV 3 U #[.int .i64 x,.int .i64 y];refine .inr ⟨U.heap.size,0,rfl,fun k hk=>?_⟩
 match k,hk with
 |0,_=>exact b.cell rfl
 |1,_=>exact b.cell rfl
theorem tT (U:World) (x:Int):At (U.alloc (.cells #[.int .i64 x] 3)) (some ⟨U.heap.size,0,none⟩) [x]:=by
 have b:=zV 3 U #[.int .i64 x];refine .inr ⟨U.heap.size,0,rfl,fun k hk=>?_⟩
 match k,hk with
 |0,_=>exact b.cell rfl
end Go.Proofs.YtpohmekkdjdhmaaGreat
