/- Texts of one chain. -/
import Derived.Test.YtpohmekkdjdhmaaGreatPartTopPeriods6
import Derived.StillTailTactics
namespace Go.Proofs.YtpohmekkdjdhmaaGreat
open Go.ChangeShapes Go.WideShapes Go.ChangeAt Go.RowKit
def zSV (w:World) (a b c d:Int) (e:Ending) (w':World):Prop:=
 Below w.heap.size w w'/\((sX a b c d=true/\e=.returned (.agg #[.int .i64 (pB a b c d),.int .i64 (pA a b c d)]))\/(sX a b c d=false/\e=.panicked wY))
set_option maxRecDepth 100000 in
set_option maxHeartbeats 1000000 in
theorem MJ (a b c d:Int) (w:World) (ha: -9223372036854775808<=a/\a<=9223372036854775807) (hb:0<b/\b<=9223372036854775807) (hc: -9223372036854775808<=c/\c<=9223372036854775807) (hd:0<d/\d<=9223372036854775807):
 Calls Tryz.prog 115 #[.agg #[.int .i64 a,.int .i64 b],.agg #[.int .i64 c,.int .i64 d]] w (zSV w a b c d):=by
 have g1:=pJ (n:=a) hd.2 hd.1;have g2:=pJ (n:=c) hb.2 hb.1
 have hdv1:=fun w=>pY a d w ha (by omega) g1
 have hdv2:=fun w=>pY c b w hc (by omega) g2
 have g3:=vM (n:=a) (d:=d) (by omega);have g4:=vM (n:=c) (d:=b) (by omega);obtain ⟨p,s,-,-,tp,ts,-,-,lp,ls,ss,-,-,sp,-⟩:=sO (n:=a) (d:=d) (by omega);obtain ⟨r,q,-,-,tr,tq,-,-,lr,lq,sq,-,-,sr,-⟩:=sO (n:=c) (d:=b) (by omega);generalize e1:gg a d=g at *;generalize e2:gg c b=h at *;have G1:Hid (gg a d=g):=e1;have G2:Hid (gg c b=h):=e2;clear e1 e2
 have pr: -9223372036854775808<=p/\p<=9223372036854775807:=by have:a<0↔p<0:=sp;omega
 have rr: -9223372036854775808<=r/\r<=9223372036854775807:=by have:c<0↔r<0:=sr;omega
 have sr': -9223372036854775808<=s/\s<=9223372036854775807:=by omega
 have qr: -9223372036854775808<=q/\q<=9223372036854775807:=by omega
 clear lp ls ss lr lq sq sp sr
 have x1:IntKind.i64.wrap p=p:=by rw[IntKind.wrap_i64];omega
 have x2:IntKind.i64.wrap q=q:=by rw[IntKind.wrap_i64];omega
 have x3:IntKind.i64.wrap r=r:=by rw[IntKind.wrap_i64];omega
 have x4:IntKind.i64.wrap s=s:=by rw[IntKind.wrap_i64];omega
 have y1:wrap64 p=p:=by unfold wrap64;omega
 have y2:wrap64 q=q:=by unfold wrap64;omega
 have y3:wrap64 r=r:=by unfold wrap64;omega
 have y4:wrap64 s=s:=by unfold wrap64;omega
 have g0:¬(g:Int)=0:=by omega
 have h0:¬(h:Int)=0:=by omega
 have g5:¬g=0:=by omega
 have h5:¬h=0:=by omega
 have HN:Hid (pB a b c d=p*r):=by show pB a b c d=_;unfold pB;rw[G1.out,G2.out,tp,tr]
 have HD:Hid (pA a b c d=q*s):=by show pA a b c d=_;unfold pA;rw[G1.out,G2.out,tq,ts]
 clear G1 G2
 go_enter Tryz.func115,Tryz.ntmps115
 go_wp2
 have HV:Hid (∃ W,W=((w.alloc (.cells #[.int .i64 a,.int .i64 b] 117)).alloc (.cells #[.int .i64 c,.int .i64 d] 117)).alloc (.cells #[.int .i64 0,.int .i64 0] 117)/\vJ W w.heap.size (.int .i64 a) (.int .i64 b)/\vJ W (w.heap.size+1) (.int .i64 c) (.int .i64 d)/\vJ W (w.heap.size+1+1) (.int .i64 0) (.int .i64 0)/\Below w.heap.size w W):=by
  refine ⟨_,rfl,?_,?_,?_,?_⟩
  ·exact ((tL w _ _ _).alloc _).alloc _
  ·exact (lU _ _ _ _ (by simp)).alloc _
  ·exact lU _ _ _ _ (by simp)
  exact (((Below.refl _ _).alloc (Nat.le_refl _) _).alloc (by simp) _).alloc (by simp;omega) _
 obtain ⟨W,eW,ka,kb,kr,kw⟩:=HV.out;clear HV;rw[<- eW];clear eW;have hne:Nonempty (YM W):=⟨⟨W,Below.refl _ _⟩⟩
 have LA:∀x:YM W,vJ x.w w.heap.size (.int .i64 a) (.int .i64 b):=fun x=>ka.later x.bel ka.lt
 have LB:∀x:YM W,vJ x.w (w.heap.size+1) (.int .i64 c) (.int .i64 d):=fun x=>kb.later x.bel kb.lt
 have a0:=fun x=>(LA x).c0
 have a1:=fun x=>(LA x).c1
 have b0:=fun x=>(LB x).c0
 have b1:=fun x=>(LB x).c1
 refine dO (by kernel_rfl) (by kernel_rfl) ?_
 repeat (go_big_quiet_step (first
  |(rename_i x;go_at_call 119;(with_reducible refine (hdv1 _).mono ?_);rintro e w' ⟨rfl,hq⟩;exact ⟨rfl,⟨w',x.bel.trans (hq.mono x.bel.size)⟩,rfl⟩)
  |(rename_i x;go_at_call 119;(with_reducible refine (hdv2 _).mono ?_);rintro e w' ⟨rfl,hq⟩;exact ⟨rfl,⟨w',x.bel.trans (hq.mono x.bel.size)⟩,rfl⟩)))
 refine wpQuiet_nil ?_
 rintro w1 ⟨x,rfl⟩
 go_wp2
 have va:=LA x;have vb:=LB x;have vr:=kr.later x.bel kr.lt;have bw:Below w.heap.size w x.w:=kw.trans (x.bel.mono kw.size);generalize x.w=w1 at *;clear LA LB a0 a1 b0 b1 hne hdv1 hdv2;have a0:=va.c0;have a1:=va.c1;have b0:=vb.c0;have b1:=vb.c1;have r0:=vr.c0;have r1:=vr.c1;have f0:=vr.f0;have f1:=vr.f1;clear va vb vr
 by_cases h1:yK (p*r)=true
 ·have hm1:=fun w=>oB p r w pr rr
  rw[h1,wE (xC.1 h1)]at hm1;have H1:Hid (yK (p*r)=true):=h1;clear h1
  by_cases h2:yK (q*s)=true
  ·have hm2:=fun w=>oB q s w qr sr'
   rw[h2,wE (xC.1 h2)]at hm2
   have HT:Hid (sX a b c d=true):=by show sX a b c d=true;unfold sX;rw[HN.out,HD.out,H1.out,h2];rfl
   clear h2;generalize p*r=pp at *;generalize q*s=qq at *;refine wp_region_still_tail 25 (by kernel_rfl) (by kernel_rfl) ?_
   simp only[List.take_succ_cons,List.take_zero,List.drop_succ_cons,List.drop_zero]
   change wpStill _ _ (World.drew _) _ _ _
   iterate 8 still_step
   still_call ((hm1 _).mono fun e w' h=>⟨h.1,h.2.symm⟩)
   iterate 2 still_step
   still_call ((sU _ _).mono fun e w' h=>⟨h.1,h.2.symm⟩)
   iterate 8 still_step
   still_call ((hm2 _).mono fun e w' h=>⟨h.1,h.2.symm⟩)
   iterate 2 still_step
   still_call ((sU _ _).mono fun e w' h=>⟨h.1,h.2.symm⟩)
   still_step
   refine wpStill_nil ?_
   go_wp2
   refine bodyPost_ret (v:=.agg #[.int .i64 pp,.int .i64 qq]) (by simp[results,Tryz.results115,go_sem,r0,r1]) rfl ⟨?_,.inl ⟨HT.out,by rw[HN.out,HD.out]⟩⟩
   exact ((bw.setCell (by simp;omega) _).setCell (by simp;omega) _).drew
  have h2':yK (q*s)=false:=by simpa using h2
  have hm2:=fun w=>oB q s w qr sr'
  rw[h2',rA (tY.1 h2')]at hm2
  have HT:Hid (sX a b c d=false):=by show sX a b c d=false;unfold sX;rw[HN.out,HD.out,H1.out,h2'];rfl
  clear h2 h2' r0 r1 f0 f1;generalize p*r=pp at *;refine sD wY 23 [0,1,2,3,4,5,6,7,8,9,10,11,12,13,14,15,16,17,18,19,20,21,22] 0 (by kernel_rfl) (by kernel_rfl) (by kernel_rfl) ?_ ?_
  ·rintro a' w' hdf ⟨n,rfl⟩
   exact ⟨hdf,pZ bw n,.inr ⟨HT.out,rfl⟩⟩
  simp only[List.take_succ_cons,List.take_zero,List.drop_succ_cons,List.drop_zero,List.cons_append,List.nil_append]
  repeat (go_big_quiet_step (first
   |(go_at_call 118;(with_reducible refine (hm1 _).mono ?_);rintro e w' ⟨rfl,rfl⟩;exact ⟨rfl,_,rfl⟩)
   |(go_at_call 118;(with_reducible refine (hm2 _).mono ?_);rintro e w' ⟨rfl,rfl⟩;exact ⟨rfl,_,rfl⟩)
   |(go_at_call 116;(with_reducible refine (sU _ _).mono ?_);rintro e w' ⟨rfl,rfl⟩;exact ⟨rfl,_,rfl⟩)))
  refine wpQuiet_nil ?_
  refine ⟨_,rfl,rfl,?_⟩
  rintro w' ⟨n,rfl⟩
  refine ⟨116,#[.int .i64 0,.bool false],by simp[go_sem],?_⟩
  exact (gC _ _).mono fun e w' h=>⟨h.1,n,h.2.symm⟩
 have h1':yK (p*r)=false:=by simpa using h1
 have hm1:=fun w=>oB p r w pr rr
 rw[h1',rA (tY.1 h1')]at hm1
 have HT:Hid (sX a b c d=false):=by show sX a b c d=false;unfold sX;rw[HN.out,h1'];rfl
 clear h1 h1' r0 r1 f0 f1;refine sD wY 11 [0,1,2,3,4,5,6,7,8,9,10,12,13,14,15,16,17,18,19] 8 (by kernel_rfl) (by kernel_rfl) (by kernel_rfl) ?_ ?_
 ·rintro a' w' hdf ⟨n,rfl⟩
  exact ⟨hdf,pZ bw n,.inr ⟨HT.out,rfl⟩⟩
 simp only[List.take_succ_cons,List.take_zero,List.drop_succ_cons,List.drop_zero,List.cons_append,List.nil_append]
 repeat (go_big_quiet_step (first
  |(go_at_call 118;(with_reducible refine (hm1 _).mono ?_);rintro e w' ⟨rfl,rfl⟩;exact ⟨rfl,_,rfl⟩)))
 refine wpQuiet_nil ?_
 refine ⟨_,rfl,rfl,?_⟩
 rintro w' ⟨n,rfl⟩
 refine ⟨116,#[.int .i64 0,.bool false],by simp[go_sem],?_⟩
 exact (gC _ _).mono fun e w' h=>⟨h.1,n,h.2.symm⟩
end Go.Proofs.YtpohmekkdjdhmaaGreat
