/- Texts of one chain. -/
import Derived.Test.YtpohmekkdjdhmaaGreatPartTopPeriods15
import Derived.Test.YtpohmekkdjdhmaaGreatPartTopPeriods21
import Derived.Maps.OwnSet
set_option maxRecDepth 100000
set_option maxHeartbeats 8000000
namespace Go.Proofs.YtpohmekkdjdhmaaGreat
open Go.ChangeShapes Go.WideShapes Go.ChangeAt Go.RowKit
def bkA (b:BK):Array Value:=#[.int .i64 b.n,.int .i64 b.f,.int .i64 b.a]
def dX (b:BK):Value:=.agg (bkA b)
def InK (b:BK):Prop:=(-9223372036854775808<=b.n/\b.n<=9223372036854775807)/\(-9223372036854775808<=b.f/\b.f<=9223372036854775807)/\(-9223372036854775808<=b.a/\b.a<=9223372036854775807)
def AZ (w:World) (a:Option Addr) (L:List BK):Prop:=L=[]\/∃b off,a=some ⟨b,off,none⟩/\∀k,k<L.length->w.cell? ⟨b,off+k*3,none⟩=some (.int .i64 (wL L k).n)/\w.cell? ⟨b,off+k*3+1,none⟩=some (.int .i64 (wL L k).f)/\w.cell? ⟨b,off+k*3+2,none⟩=some (.int .i64 (wL L k).a)
theorem AZ.below {w w':World} {a:Option Addr} {L:List BK} (h:AZ w a L) (hb:Below w.heap.size w w'):AZ w' a L:=by
 rcases h with h|⟨b,off,h1,h2⟩
 ·exact .inl h
 refine .inr ⟨b,off,h1,fun k hk=>?_⟩
 obtain ⟨c0,c1,c2⟩:=h2 k hk;exact ⟨zW hb c0,zW hb c1,zW hb c2⟩
def heldK (v:Value):Option (DataW Value × List MemPlace):=some (.held v,[])
def tZ (w:World) (m:Nat) (L:List BK):Prop:=
 ∃(n:Nat) (D:DataW Value),w.ownsMap Tryz.prog 3 heldK m n D/\n<=L.length/\Maps.IsMap D/\∀v:Int,Maps.has D (.int .i64 v)=rX L v/\D.atKey (.int .i64 v) (.held (dX ⟨0,0,0⟩))=.held (dX (ZJ L v))
theorem zWC (w:World):tZ (w.alloc (.map #[] 0)) w.heap.size []:=⟨0,.map [],World.ownsMap_made _ _ _ _,Nat.le_refl _,⟨_,rfl⟩,fun _=>⟨rfl,rfl⟩⟩
theorem tZ.lt {w:World} {m:Nat} {L:List BK} (h:tZ w m L):m<w.heap.size:=by
 obtain ⟨n,D,h1,-⟩:=h;exact h1.lt
theorem tZ.keep {w w':World} {m:Nat} {L:List BK} (h:tZ w m L) (hb:w'.heap[m]? =w.heap[m]?):tZ w' m L:=by
 obtain ⟨n,D,⟨es,clock,h1,h2⟩,h3⟩:=h;exact ⟨n,D,⟨es,clock,hb.trans h1,h2⟩,h3⟩
theorem tZ.below {w w':World} {m:Nat} {L:List BK} (h:tZ w m L) (hb:Below w.heap.size w w'):tZ w' m L:=h.keep (hb.block m h.lt)
theorem KM:Maps.Keyed Tryz.prog 3:=Maps.int_keyed Tryz.underlying3
theorem zOZ (w:World):(zeroValue 99).run Tryz.prog w=.ok (dX ⟨0,0,0⟩) w:=by kernel_rfl
theorem zNU {v:Int} (h: -9223372036854775808<=v/\v<=9223372036854775807):keyOf Tryz.prog 3 (.int .i64 v)=some (.int .i64 v):=Maps.keyOf_int_mk Tryz.underlying3 (WalkArith.wf_i64 h)
theorem tZ.look_ok {w:World} {m:Nat} {L:List BK} (h:tZ w m L) {v:Int} (hv: -9223372036854775808<=v/\v<=9223372036854775807):(Instr.lookup 95 (.map (some m)) (.int .i64 v) true).run Tryz.prog w=.ok (.tuple #[dX (ZJ L v),.bool (rX L v)]) w:=by
 obtain ⟨n,D,h1,-,-,h4⟩:=h;obtain ⟨x,ps,hrun,hx⟩:=h1.look_ok KM Tryz.underlying95 (zOZ w) (zd:=.held (dX ⟨0,0,0⟩)) (zp:=[]) rfl (zNU hv);rw[(h4 v).2]at hx
 have e:x=dX (ZJ L v):=by
  have:=congrArg Prod.fst (Option.some.inj hx);exact DataW.held.inj this
 rw[hrun,e,(h4 v).1]
theorem tZ.look {w:World} {m:Nat} {L:List BK} (h:tZ w m L) {v:Int} (hv: -9223372036854775808<=v/\v<=9223372036854775807):(Instr.lookup 95 (.map (some m)) (.int .i64 v) false).run Tryz.prog w=.ok (dX (ZJ L v)) w:=by
 obtain ⟨n,D,h1,-,-,h4⟩:=h;obtain ⟨x,ps,hrun,hx⟩:=h1.lookup KM Tryz.underlying95 (zOZ w) (zd:=.held (dX ⟨0,0,0⟩)) (zp:=[]) rfl (zNU hv);rw[(h4 v).2]at hx
 have e:x=dX (ZJ L v):=by
  have:=congrArg Prod.fst (Option.some.inj hx);exact DataW.held.inj this
 rw[hrun,e]
theorem zRB {L:List BK} {b:BK} (h:rX L b.n=false) (v:Int):ZJ (L++[b]) v=if v=b.n then b else ZJ L v:=by
 unfold ZJ;rw[List.find?_append]
 by_cases e:v=b.n
 ·subst e
  rw[if_pos rfl,List.find?_eq_none.2 (fun c hc e=>GL h c hc (nW.1 e))];simp[isK]
 rw[if_neg e]
 have:[b].find? (isK v)=none:=by simp[isK];exact fun h=>e h.symm
 rw[this];simp
theorem zWB {L:List BK} {b:BK} (v:Int):rX (L++[b]) v=(rX L v||decide (b.n=v)):=by
 unfold rX;rw[List.any_append];simp[isK]
theorem zWA {D:DataW Value} {L:List BK} {b:BK} (hD:Maps.IsMap D) (hn:rX L b.n=false) (h:∀v:Int,Maps.has D (.int .i64 v)=rX L v/\D.atKey (.int .i64 v) (.held (dX ⟨0,0,0⟩))=.held (dX (ZJ L v))) (v:Int):
 Maps.has (D.put (.int .i64 b.n) (.held (dX b))) (.int .i64 v)=rX (L++[b]) v/\(D.put (.int .i64 b.n) (.held (dX b))).atKey (.int .i64 v) (.held (dX ⟨0,0,0⟩))=.held (dX (ZJ (L++[b]) v)):=by
 rw[zRB hn,zWB]
 by_cases e:v=b.n
 ·subst e
  rw[Maps.has_put_same hD (by trivial),Maps.atKey_put_same hD (by trivial),if_pos rfl];exact ⟨by simp,rfl⟩
 have e':¬b.n=v:=fun h=>e h.symm
 rw[Maps.has_put_other (by simpa using e),Maps.atKey_put_other (by simpa using e),if_neg e,(h v).1,(h v).2];exact ⟨by simp[e'],rfl⟩
theorem tZ.put {w:World} {m:Nat} {L:List BK} (h:tZ w m L) (b:BK) (hv: -9223372036854775808<=b.n/\b.n<=9223372036854775807) (hn:rX L b.n=false) (hl:L.length<=4611686018427387904):
 ∃w',(Instr.mapUpdate 95 (.map (some m)) (.int .i64 b.n) (dX b)).run Tryz.prog w=.ok () w'/\tZ w' m (L++[b])/\xX m w w':=by
 obtain ⟨n,D,h1,h2,h3,h4⟩:=h;obtain ⟨w',hrun,hown,hg⟩:=h1.update KM Tryz.underlying95 (by unfold maxLen;omega) (zNU hv) (d:=.held (dX b)) (ps:=[]) (val:=dX b) rfl;refine ⟨w',hrun,⟨n+1,_,hown,by simp;exact h2,h3.put _ _,fun v=>zWA h3 hn h4 v⟩,⟨hg.os,hg.tape,hg.output,hg.size,fun k hk hne=>hg.block k hk (by simpa using hne)⟩⟩
theorem zRA (x y z:Int) (w:World):(Instr.field 99 (.agg #[.int .i64 x,.int .i64 y,.int .i64 z]) 1).run Tryz.prog w=.ok (.int .i64 y) w:=by kernel_rfl
theorem aX {x y a b:Int} (hx:0<=x/\x<=a) (hy:0<=y/\y<=b) (hb:0<=b):0<=x*y/\x*y<=a*b:=⟨Int.mul_nonneg hx.1 hy.1,Int.le_trans (Int.mul_le_mul_of_nonneg_left hy.2 hx.1) (Int.mul_le_mul_of_nonneg_right hx.2 hb)⟩
theorem AY (N:Int) (Al:List NA) (L:List BK) (bn bf:Int) (i m:Nat) (a:Option Addr) (c:Nat) (w:World) (hM:tZ w m L) (hA:vN w a Al) (hi:i<Al.length) (hS:bZ N (zU Al i)) (hN:N<=32) (hf:0<=bf/\bf<=4096) (hg:0<=(ZJ L (zU Al i).f).f/\(ZJ L (zU Al i).f).f<=4096):
 Calls Tryz.prog 36 #[.agg #[.int .i64 N,.slice a Al.length c],.map (some m),.agg #[.int .i64 bn,.int .i64 bf,.int .i64 (i:Int)]] w fun e w'=>e=.returned (.bool (dL ⟨N,Al⟩ L ⟨bn,bf,i⟩))/\Below w.heap.size w w':=by
 rcases hA with e|⟨ab,ao,rfl,hc⟩
 ·rw [e]at hi;exact absurd hi (Nat.not_lt_zero _)
 obtain ⟨c0,c1,c2,c3,c4⟩:=hc i hi;clear hc;have e0:dL ⟨N,Al⟩ L ⟨bn,bf,i⟩=decide ((zU Al i).k*(bf+1)<=(zU Al i).s+(zU Al i).g*(ZJ L (zU Al i).f).f):=rfl;rw[e0];clear e0;generalize zU Al i=x at *;obtain ⟨f,t,g,k,s⟩:=x;simp only at *;obtain ⟨⟨f1,f2⟩,-,g1,k1,s1⟩:=hS;simp only at *;have b1:=(Below.refl w.heap.size w).alloc (Nat.le_refl _) (.cells #[.int .i64 N,.slice (some ⟨ab,ao,none⟩) Al.length c] 30);have b2:=(Below.refl (w.alloc (.cells #[.int .i64 N,.slice (some ⟨ab,ao,none⟩) Al.length c] 30)).heap.size (w.alloc (.cells #[.int .i64 N,.slice (some ⟨ab,ao,none⟩) Al.length c] 30))).alloc (Nat.le_refl _) (.cells #[.int .i64 bn,.int .i64 bf,.int .i64 (i:Int)] 99);have X1:=(zV 30 w #[.int .i64 N,.slice (some ⟨ab,ao,none⟩) Al.length c]).below b2;have X2:=zV 99 (w.alloc (.cells #[.int .i64 N,.slice (some ⟨ab,ao,none⟩) Al.length c] 30)) #[.int .i64 bn,.int .i64 bf,.int .i64 (i:Int)];have hs1:(w.alloc (.cells #[.int .i64 N,.slice (some ⟨ab,ao,none⟩) Al.length c] 30)).heap.size=w.heap.size+1:=World.size_alloc _ _;have B2:=zZ (b1.trans (b2.mono b1.size))
 have lk:=fun w' (hb:Below w.heap.size w w')=>(hM.below hb).look (v:=f) (by omega)
 have LK:=zZ lk;obtain ⟨q,hq⟩:∃q,(ZJ L f)=q:=⟨_,rfl⟩;rw[hq]at LK hg ⊢;obtain ⟨gn,gf,ga⟩:=q;simp only at hg ⊢;have p1:=aX (x:=g) (y:=gf) (a:=64) (b:=4096) (by omega) (by omega) (by decide);have p2:=aX (x:=k) (y:=bf+1) (a:=64) (b:=4097) (by omega) (by omega) (by decide);have u1:wrap64 (g*gf)=g*gf:=vZ (by omega);have u2:wrap64 (s+g*gf)=s+g*gf:=vZ (by omega);have u3:wrap64 (bf+1)=bf+1:=vZ (by omega);have u4:wrap64 (k*(bf+1))=k*(bf+1):=vZ (by omega)
 have hix:(i:Int)<(Al.length:Int):=by omega
 have d0:=zW B2.out c0;have d1:=zW B2.out c1;have d2:=zW B2.out c2;have d3:=zW B2.out c3;have d4:=zW B2.out c4;have y1:=X1.cell (k:=1) rfl;have z1:=X2.cell (k:=1) rfl;have z2:=X2.cell (k:=2) rfl;simp only[List.getElem_toArray,List.getElem_cons_zero,List.getElem_cons_succ]at y1 z1 z2;rw[hs1]at z1 z2;clear c0 c1 c2 c3 c4 hq hM lk b1 b2 hs1 f1 f2 g1 k1 s1 hf hg hN p1 p2 hi
 go_enter Tryz.func36,Tryz.ntmps36
 go_upto_region 1 with fail
 generalize (w.alloc (.cells #[.int .i64 N,.slice (some ⟨ab,ao,none⟩) Al.length c] 30)).alloc (.cells #[.int .i64 bn,.int .i64 bf,.int .i64 (i:Int)] 99)=W2 at *;have b3:=(Below.refl W2.heap.size W2).alloc (Nat.le_refl _) (.cells #[.int .i64 f,.int .i64 t,.int .i64 g,.int .i64 k,.int .i64 s] 61);have X3:=zV 61 W2 #[.int .i64 f,.int .i64 t,.int .i64 g,.int .i64 k,.int .i64 s];have Z1:=zW b3 z1;have a0:=X3.cell (k:=0) rfl;have a2:=X3.cell (k:=2) rfl;have a3:=X3.cell (k:=3) rfl;have a4:=X3.cell (k:=4) rfl;simp only[List.getElem_toArray,List.getElem_cons_zero,List.getElem_cons_succ]at a0 a2 a3 a4;have B3:=zZ (B2.out.trans (b3.mono B2.out.size))
 go_upto_region 2 with fail
 generalize (W2.alloc (.cells #[.int .i64 f,.int .i64 t,.int .i64 g,.int .i64 k,.int .i64 s] 61))=W3 at *;have lk:=LK.out W3 B3.out;unfold dX bkA at lk;have fl:=zRA gn gf ga W3;clear LK X1 X2 X3 b3 d0 d1 d2 d3 d4 y1 z1 z2
 go_wp2
 go_ret
 exact ⟨rfl,B3.out⟩
def ZB (w:World) (x:Bool) (e:Ending) (w':World):Prop:=e=.returned (.bool x)/\Below w.heap.size w w'
theorem AV (N:Int) (Al:List NA) (bn bf ba:Int) (m:Value) (a:Option Addr) (c:Nat) (w:World) (hno:zWV ⟨N,Al⟩ ⟨bn,bf,ba⟩=false):
 Calls Tryz.prog 35 #[.agg #[.int .i64 N,.slice a Al.length c],m,.agg #[.int .i64 bn,.int .i64 bf,.int .i64 ba]] w (ZB w false):=by
 have b1:=(Below.refl w.heap.size w).alloc (Nat.le_refl _) (.cells #[.int .i64 N,.slice a Al.length c] 30);have b2:=(Below.refl (w.alloc (.cells #[.int .i64 N,.slice a Al.length c] 30)).heap.size (w.alloc (.cells #[.int .i64 N,.slice a Al.length c] 30))).alloc (Nat.le_refl _) (.cells #[.int .i64 bn,.int .i64 bf,.int .i64 ba] 99);have X1:=(zV 30 w #[.int .i64 N,.slice a Al.length c]).below b2;have X2:=zV 99 (w.alloc (.cells #[.int .i64 N,.slice a Al.length c] 30)) #[.int .i64 bn,.int .i64 bf,.int .i64 ba];have hs1:(w.alloc (.cells #[.int .i64 N,.slice a Al.length c] 30)).heap.size=w.heap.size+1:=World.size_alloc _ _;have B2:=zZ (b1.trans (b2.mono b1.size));have y1:=X1.cell (k:=1) rfl;have z1:=X2.cell (k:=1) rfl;have z2:=X2.cell (k:=2) rfl;simp only[List.getElem_toArray,List.getElem_cons_zero,List.getElem_cons_succ]at y1 z1 z2;rw[hs1]at z1 z2;clear b1 b2 hs1 X1 X2
 have HN:Hid (¬ (0<=bf/\bf<=4096/\0<=ba/\ba<(Al.length:Int))):=fun h=>(by rw[bQ.2 h]at hno;cases hno)
 clear hno
 cases h1:decide (bf<0) with
 |true=>
  clear HN
  go_enter Tryz.func35,Tryz.ntmps35
  go_upto_region 1 with fail
  generalize (w.alloc (.cells #[.int .i64 N,.slice a Al.length c] 30)).alloc (.cells #[.int .i64 bn,.int .i64 bf,.int .i64 ba] 99)=W2 at *
  go_wp2
  go_ret
  exact ⟨rfl,B2.out⟩
 |false=>
  cases h2:decide (4096<bf) with
  |true=>
   clear HN
   go_enter Tryz.func35,Tryz.ntmps35
   go_upto_region 1 with fail
   generalize (w.alloc (.cells #[.int .i64 N,.slice a Al.length c] 30)).alloc (.cells #[.int .i64 bn,.int .i64 bf,.int .i64 ba] 99)=W2 at *
   go_wp2
   go_ret
   exact ⟨rfl,B2.out⟩
  |false=>
   cases h3:decide (ba<0) with
   |true=>
    clear HN
    go_enter Tryz.func35,Tryz.ntmps35
    go_upto_region 1 with fail
    generalize (w.alloc (.cells #[.int .i64 N,.slice a Al.length c] 30)).alloc (.cells #[.int .i64 bn,.int .i64 bf,.int .i64 ba] 99)=W2 at *
    go_wp2
    go_ret
    exact ⟨rfl,B2.out⟩
   |false=>
    have h4:decide ((Al.length:Int)<=ba)=true:=by
     have a1:=of_decide_eq_false h1;have a2:=of_decide_eq_false h2;have a3:=of_decide_eq_false h3;have a4:=HN.out;exact decide_eq_true (by omega)
    clear HN
    go_enter Tryz.func35,Tryz.ntmps35
    go_upto_region 1 with fail
    generalize (w.alloc (.cells #[.int .i64 N,.slice a Al.length c] 30)).alloc (.cells #[.int .i64 bn,.int .i64 bf,.int .i64 ba] 99)=W2 at *
    go_wp2
    go_ret
    exact ⟨rfl,B2.out⟩
theorem KL (N:Int) (Al:List NA) (L:List BK) (bn bf:Int) (i m:Nat) (a:Option Addr) (c:Nat) (w:World) (hM:tZ w m L) (hA:vN w a Al) (hi:i<Al.length) (hS:bZ N (zU Al i)) (hN:N<=32) (hf:0<=bf/\bf<=4096):
 Calls Tryz.prog 35 #[.agg #[.int .i64 N,.slice a Al.length c],.map (some m),.agg #[.int .i64 bn,.int .i64 bf,.int .i64 (i:Int)]] w (ZB w (decide ((zU Al i).t=bn)&&rX L (zU Al i).f)):=by
 rcases hA with e|⟨ab,ao,rfl,hc⟩
 ·rw [e]at hi;exact absurd hi (Nat.not_lt_zero _)
 obtain ⟨c0,c1,c2,c3,c4⟩:=hc i hi;clear hc;generalize zU Al i=x at *;obtain ⟨f,t,g,k,s⟩:=x;simp only at *;obtain ⟨⟨f1,f2⟩,-,-,-,-⟩:=hS;simp only at *;have b1:=(Below.refl w.heap.size w).alloc (Nat.le_refl _) (.cells #[.int .i64 N,.slice (some ⟨ab,ao,none⟩) Al.length c] 30);have b2:=(Below.refl (w.alloc (.cells #[.int .i64 N,.slice (some ⟨ab,ao,none⟩) Al.length c] 30)).heap.size (w.alloc (.cells #[.int .i64 N,.slice (some ⟨ab,ao,none⟩) Al.length c] 30))).alloc (Nat.le_refl _) (.cells #[.int .i64 bn,.int .i64 bf,.int .i64 (i:Int)] 99);have X1:=(zV 30 w #[.int .i64 N,.slice (some ⟨ab,ao,none⟩) Al.length c]).below b2;have X2:=zV 99 (w.alloc (.cells #[.int .i64 N,.slice (some ⟨ab,ao,none⟩) Al.length c] 30)) #[.int .i64 bn,.int .i64 bf,.int .i64 (i:Int)];have hs1:(w.alloc (.cells #[.int .i64 N,.slice (some ⟨ab,ao,none⟩) Al.length c] 30)).heap.size=w.heap.size+1:=World.size_alloc _ _;have B2:=zZ (b1.trans (b2.mono b1.size))
 have lk:=fun w' (hb:Below w.heap.size w w')=>(hM.below hb).look_ok (v:=f) (by omega)
 have LK:=zZ lk;obtain ⟨q,hq⟩:∃q,(ZJ L f)=q:=⟨_,rfl⟩;rw[hq]at LK;obtain ⟨hq2,hh⟩:∃q,(rX L f)=q:=⟨_,rfl⟩;rw[hh]at LK ⊢;obtain ⟨gn,gf,ga⟩:=q;have h1:decide (bf<0)=false:=decide_eq_false (by omega);have h2:decide (4096<bf)=false:=decide_eq_false (by omega)
 have hix:(i:Int)<(Al.length:Int):=by omega
 have d0:=zW B2.out c0;have d1:=zW B2.out c1;have d2:=zW B2.out c2;have d3:=zW B2.out c3;have d4:=zW B2.out c4;have y1:=X1.cell (k:=1) rfl;have z0:=X2.cell (k:=0) rfl;have z1:=X2.cell (k:=1) rfl;have z2:=X2.cell (k:=2) rfl;simp only[List.getElem_toArray,List.getElem_cons_zero,List.getElem_cons_succ]at y1 z0 z1 z2;rw[hs1]at z0 z1 z2;clear c0 c1 c2 c3 c4 hq hh hM lk b1 b2 hs1 f1 f2 hf hN hi
 go_enter Tryz.func35,Tryz.ntmps35
 go_upto_region 1 with fail
 generalize (w.alloc (.cells #[.int .i64 N,.slice (some ⟨ab,ao,none⟩) Al.length c] 30)).alloc (.cells #[.int .i64 bn,.int .i64 bf,.int .i64 (i:Int)] 99)=W2 at *;have b3:=(Below.refl W2.heap.size W2).alloc (Nat.le_refl _) (.cells #[.int .i64 f,.int .i64 t,.int .i64 g,.int .i64 k,.int .i64 s] 61);have X3:=zV 61 W2 #[.int .i64 f,.int .i64 t,.int .i64 g,.int .i64 k,.int .i64 s];have Z0:=zW b3 z0;have a0:=X3.cell (k:=0) rfl;have a1:=X3.cell (k:=1) rfl;simp only[List.getElem_toArray,List.getElem_cons_zero,List.getElem_cons_succ]at a0 a1;have B3:=zZ (B2.out.trans (b3.mono B2.out.size))
 go_upto_region 4 with fail
 generalize (W2.alloc (.cells #[.int .i64 f,.int .i64 t,.int .i64 g,.int .i64 k,.int .i64 s] 61))=W3 at *;have lk:=LK.out W3 B3.out;unfold dX bkA at lk;have b4:=(Below.refl W3.heap.size W3).alloc (Nat.le_refl _) (.cells #[.int .i64 gn,.int .i64 gf,.int .i64 ga] 99);have Y0:=zW b4 Z0;have A1:=zW b4 a1;have B4:=zZ (B3.out.trans (b4.mono B3.out.size));clear LK X1 X2 X3 b3 d0 d1 d2 d3 d4 y1 z0 z1 z2
 go_upto_region 5 with fail
 generalize (W3.alloc (.cells #[.int .i64 gn,.int .i64 gf,.int .i64 ga] 99))=W4 at *;clear lk b4 Z0 a0 a1
 cases ht:decide (t=bn) with
 |true=>
  have he:(t==bn)=true:=by simpa using ht
  clear ht
  go_wp2
  go_ret
  exact ⟨by simp at he;simp[he],B4.out⟩
 |false=>
  have he:(t==bn)=false:=by simpa using ht
  clear ht
  go_wp2
  go_ret
  exact ⟨by simp at he;simp[he],B4.out⟩
theorem KJ (n:NN) (L:List BK) (b:BK) (m:Nat) (a:Option Addr) (c:Nat) (w:World) (hM:tZ w m L) (hA:vN w a n.arcs) (hS:yI n):
 Calls Tryz.prog 35 #[.agg #[.int .i64 n.nodes,.slice a n.arcs.length c],.map (some m),dX b] w (ZB w (rW n L b)):=by
 cases hb:zWV n b with
 |false=>
  have e:rW n L b=false:=by unfold rW;rw[hb];rfl
  rw[e];exact AV n.nodes n.arcs b.n b.f b.a _ a c w hb
 |true=>
  obtain ⟨f1,f2,a1,a2⟩:=bQ.1 hb;obtain ⟨bn,bf,ba⟩:=b;simp only at f1 f2 a1 a2;obtain ⟨i,rfl⟩:∃i:Nat,ba=(i:Int):=⟨ba.toNat,by omega⟩
  have e:rW n L ⟨bn,bf,i⟩=(decide ((zU n.arcs i).t=bn)&&rX L (zU n.arcs i).f):=by unfold rW;rw[hb];rfl
  rw[e];exact KL n.nodes n.arcs L bn bf i m a c w hM hA (by omega) (hS.arcs i (by omega)) hS.nodes.2 ⟨f1,f2⟩
theorem KI (n:NN) (L:List BK) (b:BK) (m:Nat) (a:Option Addr) (c:Nat) (w:World) (hM:tZ w m L) (hA:vN w a n.arcs) (hC:RF n L) (hb:b ∈ L):
 Calls Tryz.prog 36 #[.agg #[.int .i64 n.nodes,.slice a n.arcs.length c],.map (some m),dX b] w (ZB w (dL n L b)):=by
 have hS:=zB hC.check;have lk:=fP.1 (hC.link b hb);have hg:=(fP.1 (hC.link _ (zSH lk.has).1)).f;have hlt:=lk.lt;obtain ⟨f1,f2⟩:=lk.f;obtain ⟨a1,a2⟩:=lk.a;obtain ⟨bn,bf,ba⟩:=b;simp only at f1 f2 a1 a2 hlt;obtain ⟨i,rfl⟩:∃i:Nat,ba=(i:Int):=⟨ba.toNat,by omega⟩;exact AY n.nodes n.arcs L bn bf i m a c w hM hA hlt (hS.arcs i hlt) hS.nodes.2 ⟨f1,f2⟩ hg
def ByE (m:Int) (L:List BK) (w:World) (e:Ending) (w':World):Prop:=
 (VF m L=true/\∃g,e=.returned (.tuple #[.map (some g),.bool true])/\tZ w' g L/\Below w.heap.size w w')\/(VF m L=false/\e=.returned (.tuple #[.map none,.bool false])/\Below w.heap.size w w')
theorem aW (N:Int) (av:Value) (L:List BK) (a:Option Addr) (len cap:Nat) (w:World) (hlen:L.length=len) (hr:len<=4611686018427387904) (hL:AZ w a L) (hI:∀b ∈ L,InK b):
 Calls Tryz.prog 34 #[.agg #[.int .i64 N,av],.slice a len cap] w (ByE N L w):=by
 obtain ⟨RE,hRE⟩:∃R,ByE N L w=R:=⟨_,rfl⟩;rw[hRE];have HRE:=zZ hRE;clear hRE;have hmm:=@run_makeMap Tryz.prog;have b1:=(Below.refl w.heap.size w).alloc (Nat.le_refl _) (.cells #[.int .i64 N,av] 30);have b2:=(Below.refl (w.alloc (.cells #[.int .i64 N,av] 30)).heap.size (w.alloc (.cells #[.int .i64 N,av] 30))).alloc (Nat.le_refl _) (.map #[] 0);have X1:=zZ ((zV 30 w #[.int .i64 N,av]).below b2);have hs1:(w.alloc (.cells #[.int .i64 N,av] 30)).heap.size=w.heap.size+1:=World.size_alloc _ _;have M0:=zZ (zWC (w.alloc (.cells #[.int .i64 N,av] 30)));rw[hs1]at M0;have B2:=zZ (b1.trans (b2.mono b1.size));have HL:=zZ hL;have HI:=zZ hI;have HLEN:=zZ hlen;clear b1 b2 hs1 hL hI hlen
 go_enter Tryz.func34,Tryz.ntmps34
 go_upto_region 2 with fail
 generalize (w.alloc (.cells #[.int .i64 N,av] 30)).alloc (.map #[] 0)=W1 at *
 go_wp2
 go_loopg [14] len (fun gk i wr=>∃k:Nat,k<=len/\gk=len-k/\i=.int .i64 (k:Int)/\VF N (L.take k)=true/\tZ wr (w.heap.size+1) (L.take k)/\zE 30 w.heap.size wr #[.int .i64 N,av]/\Below w.heap.size w wr)
 case atStart=>exact ⟨0,Nat.zero_le _,rfl,rfl,zSJ _,M0.out,X1.out,B2.out⟩
 case round=>
  obtain ⟨k,hk,rfl,rfl,hap,hM,hX,hB⟩:=hrel;have AP:=zZ hap;have MK:=zZ hM;have XN:=zZ hX;have BW:=zZ hB;clear hap hM hX hB M0 X1 B2
  by_cases hlt:k<len
  ·have hki:(k:Int)<(len:Int):=by omega
   have hkL:k<L.length:=by rw[HLEN.out];exact hlt
   rcases HL.out with e|⟨lb,lo,rfl,hc⟩
   ·rw [e]at hkL;exact absurd hkL (Nat.not_lt_zero _)
   obtain ⟨c0,c1,c2⟩:=hc k hkL;have hin:=HI.out _ (lJ hkL);have ST:=zZ (zWU (m:=N) hkL AP.out);have OF:=zZ (zSI (m:=N) hkL);have TK:=zZ (GK hkL);have HKL:=zZ hkL;clear hc hkL;generalize wL L k=x at *;obtain ⟨bn,bf,ba⟩:=x;simp only at ST OF c0 c1 c2;have d0:=zG BW.out (block_lt_of_cell c0) c0;have d1:=zG BW.out (block_lt_of_cell c1) c1;have d2:=zG BW.out (block_lt_of_cell c2) c2;have b3:=(Below.refl wr.heap.size wr).alloc (Nat.le_refl _) (.cells #[.int .i64 bn,.int .i64 bf,.int .i64 ba] 99);have X3:=zZ (zV 99 wr #[.int .i64 bn,.int .i64 bf,.int .i64 ba]);have M3:=zZ (MK.out.below b3);have XN3:=zZ (XN.out.below b3);have B3:=zZ (BW.out.trans (b3.mono BW.out.size));have lk:=M3.out.look_ok (v:=bn) hin.1;have hmw:w.heap.size+1<wr.heap.size:=MK.out.lt;clear c0 c1 c2 b3
   go_upto_region 5 with fail
   generalize wr.alloc (.cells #[.int .i64 bn,.int .i64 bf,.int .i64 ba] 99)=W3 at *;obtain ⟨q,hq⟩:∃q,ZJ (L.take k) bn=q:=⟨_,rfl⟩;obtain ⟨h2,hh⟩:∃q,rX (L.take k) bn=q:=⟨_,rfl⟩;rw[hq,hh]at lk;rw[hh]at ST OF;have HH:=zZ hh;clear hq hh d0 d1 d2;obtain ⟨gn,gf,ga⟩:=q;unfold dX bkA at lk;have b4:=(Below.refl W3.heap.size W3).alloc (Nat.le_refl _) (.cells #[.int .i64 gn,.int .i64 gf,.int .i64 ga] 99);have X4:=zZ (X3.out.below b4);have M4:=zZ (M3.out.below b4);have XN4:=zZ (XN3.out.below b4);have B4:=zZ (B3.out.trans (b4.mono B3.out.size));have x0:=X3.out.cell (k:=0) rfl;simp only[List.getElem_toArray,List.getElem_cons_zero]at x0;have y0:=X4.out.cell (k:=0) rfl;have y1:=X4.out.cell (k:=1) rfl;have y2:=X4.out.cell (k:=2) rfl;have n0:=XN4.out.cell (k:=0) rfl;simp only[List.getElem_toArray,List.getElem_cons_zero,List.getElem_cons_succ]at y0 y1 y2 n0;clear b4 X3 M3 XN3 B3
   go_upto_region 6 with fail
   generalize W3.alloc (.cells #[.int .i64 gn,.int .i64 gf,.int .i64 ga] 99)=W4 at *;clear lk x0
   cases h2 with
   |true=>
    clear ST
    go_wp2
    rw[<- HRE.out];exact .inr ⟨OF.out (.inl (by trivial)),rfl,B4.out⟩
   |false=>
    cases h3:decide (bn<0) with
    |true=>
     clear ST
     go_wp2
     rw[<- HRE.out];exact .inr ⟨OF.out (.inr (by have:=of_decide_eq_true h3;omega)),rfl,B4.out⟩
    |false=>
     cases h4:decide (N<=bn) with
     |true=>
      clear ST
      go_wp2
      rw[<- HRE.out];exact .inr ⟨OF.out (.inr (by have:=of_decide_eq_true h4;omega)),rfl,B4.out⟩
     |false=>
      have AS:=zZ (ST.out rfl (by have:=of_decide_eq_false h3;have:=of_decide_eq_false h4;omega));obtain ⟨W5,hrun,hM5,hbut⟩:=M4.out.put ⟨bn,bf,ba⟩ hin.1 HH.out (by rw[List.length_take];omega);rw[<- TK.out]at hM5;have M5:=zZ hM5;have XN5:=zZ (XN4.out.keep (hbut.block _ XN4.out.lt (by omega)));have B5:=zZ (B4.out.trans (hbut.below (by omega) B4.out.size));clear hM5 hbut ST OF TK;unfold dX bkA at hrun;simp only at hrun
      go_wp2
      go_roundg (len-(k+1))
      case measure=>omega
      case rel=>exact ⟨k+1,by omega,rfl,by go_num,AS.out,M5.out,XN5.out,B5.out⟩
  have ek:len=k:=by omega
  subst ek
  have eL:L.take len=L:=by rw[<- HLEN.out];exact List.take_length
  rw[eL]at AP MK
  have hkk:¬(len:Int)<(len:Int):=by omega
  go_wp2
  rw[<- HRE.out];exact .inl ⟨AP.out,_,rfl,MK.out,BW.out⟩
theorem AU {n:NN} {L:List BK} (hc:zN n=0) (h:L.length=0):jJ n L=140:=VE hc fun c=>c.ne h
theorem QL {n:NN} {L:List BK} (hc:zN n=0) (h:VF n.nodes L=false):jJ n L=140:=VE hc fun c=>by rw[c.ap]at h;cases h
theorem KG {n:NN} {L:List BK} (hc:zN n=0) {b:BK} (hb:b ∈ L) (h:rW n L b=false):jJ n L=140:=VE hc fun c=>by rw[c.link b hb]at h;cases h
theorem zQZ {n:NN} {L:List BK} (hC:RF n L) {b:BK} (hb:b ∈ L) (h:dL n L b=true):jJ n L=141:=by rw[LV hC,if_pos (List.any_eq_true.2 ⟨b,hb,h⟩)]
theorem zVZ {n:NN} {L:List BK} (hC:RF n L) (h:∀j,j<L.length->dL n L (wL L j)=false):jJ n L=0:=by
 rw[LV hC,if_neg];intro e;obtain ⟨b,hb,e2⟩:=List.any_eq_true.1 e;obtain ⟨i,hi,rfl⟩:=fQ hb;rw[h i hi]at e2;cases e2
theorem zVY {n:NN} {L:List BK} (hc:zN n=0) (h0:L.length≠0) (hap:VF n.nodes L=true) (h:∀j,j<L.length->rW n L (wL L j)=true):RF n L:=⟨hc,h0,hap,fun b hb=>by
 obtain ⟨i,hi,rfl⟩:=fQ hb
 exact h i hi⟩
theorem KF (N:Int) (av:Value) (L:List BK) (a:Option Addr) (len cap:Nat) (w:World) (hlen:L.length=len) (hr:len<=4611686018427387904) (hL:AZ w a L) (hI:∀b ∈ L,InK b) (hap:VF N L=true):
 Calls Tryz.prog 34 #[.agg #[.int .i64 N,av],.slice a len cap] w fun e w'=>∃g,e=.returned (.tuple #[.map (some g),.bool true])/\tZ w' g L/\Below w.heap.size w w':=(aW N av L a len cap w hlen hr hL hI).mono fun e w' h=>by
 rcases h with ⟨-,h⟩|⟨h,-⟩
 ·exact h
 rw[hap]at h;cases h
theorem AM (N:Int) (av:Value) (L:List BK) (a:Option Addr) (len cap:Nat) (w:World) (hlen:L.length=len) (hr:len<=4611686018427387904) (hL:AZ w a L) (hI:∀b ∈ L,InK b) (hap:VF N L=false):
 Calls Tryz.prog 34 #[.agg #[.int .i64 N,av],.slice a len cap] w fun e w'=>e=.returned (.tuple #[.map none,.bool false])/\Below w.heap.size w w':=(aW N av L a len cap w hlen hr hL hI).mono fun e w' h=>by
 rcases h with ⟨h,-⟩|⟨-,h⟩
 ·rw [hap]at h;cases h
 exact h
def zQY (w:World) (x:Int) (e:Ending) (w':World):Prop:=e=.returned (.int .i64 x)/\Below w.heap.size w w'
theorem UT (n:NN) (a:Option Addr) (c:Nat) (L:List BK) (la:Option Addr) (len cap:Nat) (w:World) (hA:vN w a n.arcs) (hl:n.arcs.length<=4611686018427387904) (hlen:L.length=len) (hr:len<=4611686018427387904) (hL:AZ w la L) (hI:∀b ∈ L,InK b):
 Calls Tryz.prog 13 #[.agg #[.int .i64 n.nodes,.slice a n.arcs.length c],.slice la len cap] w (zQY w (jJ n L)):=by
 have BN:Hid (∀ W,Below w.heap.size w W->VF n.nodes L=false->Calls Tryz.prog 34 #[.agg #[.int .i64 n.nodes,.slice a n.arcs.length c],.slice la len cap] W fun e w'=>e=.returned (.tuple #[.map none,.bool false])/\Below W.heap.size W w'):=fun W hW hap=>AM n.nodes _ L la len cap W hlen hr (hL.below hW) hI hap
 have BY:Hid (∀ W,Below w.heap.size w W->VF n.nodes L=true->Calls Tryz.prog 34 #[.agg #[.int .i64 n.nodes,.slice a n.arcs.length c],.slice la len cap] W fun e w'=>∃g,e=.returned (.tuple #[.map (some g),.bool true])/\tZ w' g L/\Below W.heap.size W w'):=fun W hW hap=>KF n.nodes _ L la len cap W hlen hr (hL.below hW) hI hap
 have LK0:Hid (zN n=0->∀g b W,tZ W g L->Below w.heap.size w W->Calls Tryz.prog 35 #[.agg #[.int .i64 n.nodes,.slice a n.arcs.length c],.map (some g),dX b] W (ZB W (rW n L b))):=fun hc g b W hM hW=>KJ n L b g a c W hM (hA.below hW) (zB hc)
 have LO0:Hid (RF n L->∀g b W,tZ W g L->Below w.heap.size w W->b ∈ L->Calls Tryz.prog 36 #[.agg #[.int .i64 n.nodes,.slice a n.arcs.length c],.map (some g),dX b] W (ZB W (dL n L b))):=fun hc g b W hM hW hb=>KI n L b g a c W hM (hA.below hW) hc hb
 have CK:Hid (∀ W,Below w.heap.size w W->Calls Tryz.prog 22 #[.agg #[.int .i64 n.nodes,.slice a n.arcs.length c]] W fun e w'=>e=.returned (.int .i64 (zN n))/\Below W.heap.size W w'):=fun W hW=>rS n a c W (hA.below hW) hl
 have b1:=(Below.refl w.heap.size w).alloc (Nat.le_refl _) (.cells #[.int .i64 n.nodes,.slice a n.arcs.length c] 30);have X1:=zZ (zV 30 w #[.int .i64 n.nodes,.slice a n.arcs.length c]);have y0:=X1.out.cell (k:=0) rfl;have y1:=X1.out.cell (k:=1) rfl;simp only[List.getElem_toArray,List.getElem_cons_zero,List.getElem_cons_succ]at y0 y1;have B1:=zZ b1;have HLEN:=zZ hlen;have HA:=zZ hA;have HL:=zZ hL;clear b1 hlen hA hL;obtain ⟨RE,hRE⟩:∃R,zQY w (jJ n L)=R:=⟨_,rfl⟩;rw[hRE];have HRE:=zZ hRE;clear hRE
 by_cases hc:zN n=0
 ·have HC:=zZ hc
  rw[hc]at CK;clear hc
  cases hap:VF n.nodes L with
  |false=>
   have HAP:=zZ hap;clear hap BY LK0 LO0
   by_cases h0:len=0
   ·have h0i:((len:Int)==0)=true:=by simp;exact h0
    have H0:=zZ h0;clear h0
    go_enter Tryz.func13,Tryz.ntmps13
    go_upto_region 1 with fail
    generalize w.alloc (.cells #[.int .i64 n.nodes,.slice a n.arcs.length c] 30)=W1 at *
    go_wp2_with (first
     |(go_at_call 22;(with_reducible refine (CK.out _ B1.out).mono ?_);rintro e w2 ⟨rfl,b2⟩;have B2:=zZ (B1.out.trans (b2.mono B1.out.size));have X2:=zZ (X1.out.below b2);have z0:=X2.out.cell (k:=0) rfl;have z1:=X2.out.cell (k:=1) rfl;simp only[List.getElem_toArray,List.getElem_cons_zero,List.getElem_cons_succ]at z0 z1;clear b2 CK)
     |(go_at_call 34;(with_reducible refine (BN.out _ B2.out HAP.out).mono ?_);rintro e w3 ⟨rfl,b3⟩;have B3:=zZ (B2.out.trans (b3.mono B2.out.size));clear b3 BN))
    rw[<- HRE.out,QL HC.out HAP.out];exact ⟨rfl,B3.out⟩
   have h0i:((len:Int)==0)=false:=by simp;exact h0
   clear h0
   go_enter Tryz.func13,Tryz.ntmps13
   go_upto_region 1 with fail
   generalize w.alloc (.cells #[.int .i64 n.nodes,.slice a n.arcs.length c] 30)=W1 at *
   go_wp2_with (first
    |(go_at_call 22;(with_reducible refine (CK.out _ B1.out).mono ?_);rintro e w2 ⟨rfl,b2⟩;have B2:=zZ (B1.out.trans (b2.mono B1.out.size));have X2:=zZ (X1.out.below b2);have z0:=X2.out.cell (k:=0) rfl;have z1:=X2.out.cell (k:=1) rfl;simp only[List.getElem_toArray,List.getElem_cons_zero,List.getElem_cons_succ]at z0 z1;clear b2 CK)
    |(go_at_call 34;(with_reducible refine (BN.out _ B2.out HAP.out).mono ?_);rintro e w3 ⟨rfl,b3⟩;have B3:=zZ (B2.out.trans (b3.mono B2.out.size));clear b3 BN))
   rw[<- HRE.out,QL HC.out HAP.out];exact ⟨rfl,B3.out⟩
  |true=>
   have HAP:=zZ hap;have LK:=zZ (LK0.out HC.out);clear hap BN LK0
   by_cases h0:len=0
   ·have h0i:((len:Int)==0)=true:=by simp;exact h0
    have H0:=zZ h0;clear h0 LK LO0
    go_enter Tryz.func13,Tryz.ntmps13
    go_upto_region 1 with fail
    generalize w.alloc (.cells #[.int .i64 n.nodes,.slice a n.arcs.length c] 30)=W1 at *
    go_wp2_with (first
     |(go_at_call 22;(with_reducible refine (CK.out _ B1.out).mono ?_);rintro e w2 ⟨rfl,b2⟩;have B2:=zZ (B1.out.trans (b2.mono B1.out.size));have X2:=zZ (X1.out.below b2);have z0:=X2.out.cell (k:=0) rfl;have z1:=X2.out.cell (k:=1) rfl;simp only[List.getElem_toArray,List.getElem_cons_zero,List.getElem_cons_succ]at z0 z1;clear b2 CK)
     |(go_at_call 34;(with_reducible refine (BY.out _ B2.out HAP.out).mono ?_);rintro e w3 ⟨g,rfl,-,b3⟩;have B3:=zZ (B2.out.trans (b3.mono B2.out.size));clear b3 BY))
    rw[<- HRE.out,AU HC.out (by rw[HLEN.out];exact H0.out)];exact ⟨rfl,B3.out⟩
   have h0i:((len:Int)==0)=false:=by simp;exact h0
   have H0:=zZ h0;clear h0
   go_enter Tryz.func13,Tryz.ntmps13
   go_upto_region 1 with fail
   generalize w.alloc (.cells #[.int .i64 n.nodes,.slice a n.arcs.length c] 30)=W1 at *
   go_wp2_with (first
    |(go_at_call 22;(with_reducible refine (CK.out _ B1.out).mono ?_);rintro e w2 ⟨rfl,b2⟩;have B2:=zZ (B1.out.trans (b2.mono B1.out.size));have X2:=zZ (X1.out.below b2);have z0:=X2.out.cell (k:=0) rfl;have z1:=X2.out.cell (k:=1) rfl;simp only[List.getElem_toArray,List.getElem_cons_zero,List.getElem_cons_succ]at z0 z1;clear b2 CK)
    |(go_at_call 34;(with_reducible refine (BY.out _ B2.out HAP.out).mono ?_);rintro e w3 ⟨g,rfl,m3,b3⟩;have B0:=zZ (B2.out.trans (b3.mono B2.out.size));have M0:=zZ m3;have X0:=zZ (X2.out.below b3);clear b3 BY m3 X2 z0 z1))
   clear X1 y0 y1 B1 B2
   go_loopg [32] len (fun gk i wr=>∃k:Nat,k<=len/\gk=len-k/\i=.int .i64 (k:Int)/\(∀ j,j<k->rW n L (wL L j)=true)/\tZ wr g L/\zE 30 w.heap.size wr #[.int .i64 n.nodes,.slice a n.arcs.length c]/\Below w.heap.size w wr)
   case atStart=>exact ⟨0,Nat.zero_le _,rfl,rfl,fun j hj=>absurd hj (Nat.not_lt_zero _),M0.out,X0.out,B0.out⟩
   case round=>
    obtain ⟨k,hk,rfl,rfl,hap,hM,hX,hB⟩:=hrel;have AL:=zZ hap;have MK:=zZ hM;have XN:=zZ hX;have BW:=zZ hB;clear hap hM hX hB M0 X0 B0
    by_cases hlt:k<len
    ·have hki:(k:Int)<(len:Int):=by omega
     have hkL:k<L.length:=by rw[HLEN.out];exact hlt
     rcases HL.out with e|⟨lb,lo,rfl,hc⟩
     ·rw [e]at hkL;exact absurd hkL (Nat.not_lt_zero _)
     obtain ⟨c0,c1,c2⟩:=hc k hkL;have HX:=zZ (LK.out g (wL L k));have MEM:=zZ (lJ hkL);have HKL:=zZ hkL;clear hc hkL;obtain ⟨x,hx⟩:∃x,wL L k=x:=⟨_,rfl⟩;rw[hx]at c0 c1 c2 HX MEM;have EX:=zZ hx;clear hx;obtain ⟨bn,bf,ba⟩:=x;simp only at c0 c1 c2;have d0:=zG BW.out (block_lt_of_cell c0) c0;have d1:=zG BW.out (block_lt_of_cell c1) c1;have d2:=zG BW.out (block_lt_of_cell c2) c2;have b3:=(Below.refl wr.heap.size wr).alloc (Nat.le_refl _) (.cells #[.int .i64 bn,.int .i64 bf,.int .i64 ba] 99);have X3:=zV 99 wr #[.int .i64 bn,.int .i64 bf,.int .i64 ba];have x0:=X3.cell (k:=0) rfl;have x1:=X3.cell (k:=1) rfl;have x2:=X3.cell (k:=2) rfl;have M3:=zZ (MK.out.below b3);have XN3:=zZ (XN.out.below b3);have y0:=XN3.out.cell (k:=0) rfl;have y1:=XN3.out.cell (k:=1) rfl;simp only[List.getElem_toArray,List.getElem_cons_zero,List.getElem_cons_succ]at x0 x1 x2 y0 y1;have B3:=zZ (BW.out.trans (b3.mono BW.out.size));clear c0 c1 c2 b3 X3
     go_upto_region 10 with fail
     generalize wr.alloc (.cells #[.int .i64 bn,.int .i64 bf,.int .i64 ba] 99)=W3 at *
     cases hq:rW n L ⟨bn,bf,ba⟩ with
     |false=>
      have LN:Hid (Calls Tryz.prog 35 #[.agg #[.int .i64 n.nodes,.slice a n.arcs.length c],.map (some g),.agg #[.int .i64 bn,.int .i64 bf,.int .i64 ba]] W3 (ZB W3 false)):=zZ (by have:=HX.out W3 M3.out B3.out;rw[hq]at this;exact this);have HQ:=zZ hq;clear hq HX d0 d1 d2
      go_wp2_with (go_at_call 35;(with_reducible refine LN.out.mono ?_);rintro e w4 ⟨rfl,b4⟩)
      rw[<- HRE.out,KG HC.out MEM.out HQ.out];exact ⟨rfl,B3.out.trans (b4.mono B3.out.size)⟩
     |true=>
      have LN:Hid (Calls Tryz.prog 35 #[.agg #[.int .i64 n.nodes,.slice a n.arcs.length c],.map (some g),.agg #[.int .i64 bn,.int .i64 bf,.int .i64 ba]] W3 (ZB W3 true)):=zZ (by have:=HX.out W3 M3.out B3.out;rw[hq]at this;exact this)
      have NX:Hid (∀ j,j<k+1->rW n L (wL L j)=true):=fun j hj=>by
       by_cases e:j=k
       ·rw [e,EX.out];exact hq
       exact AL.out j (by omega)
      clear hq HX d0 d1 d2
      go_wp2_with (go_at_call 35;(with_reducible refine LN.out.mono ?_);rintro e w4 ⟨rfl,b4⟩;have B4:=zZ b4;clear b4)
      go_roundg (len-(k+1))
      case measure=>omega
      case rel=>exact ⟨k+1,by omega,rfl,by go_num,NX.out,M3.out.below B4.out,XN3.out.below B4.out,B3.out.trans (B4.out.mono B3.out.size)⟩
    have ek:len=k:=by omega
    subst ek
    have hkk:¬(len:Int)<(len:Int):=by omega
    have CC:=zZ (zVY HC.out (by rw[HLEN.out];exact H0.out) HAP.out (by rw[HLEN.out];exact AL.out));have M0:=MK;have X0:=XN;have B0:=BW;clear MK XN BW AL LK
    go_wp2
    go_loopg [44] len (fun gk i wr=>∃k:Nat,k<=len/\gk=len-k/\i=.int .i64 (k:Int)/\(∀ j,j<k->dL n L (wL L j)=false)/\tZ wr g L/\zE 30 w.heap.size wr #[.int .i64 n.nodes,.slice a n.arcs.length c]/\Below w.heap.size w wr)
    case atStart=>exact ⟨0,Nat.zero_le _,rfl,rfl,fun j hj=>absurd hj (Nat.not_lt_zero _),M0.out,X0.out,B0.out⟩
    case round=>
     obtain ⟨k,hk,rfl,rfl,hap,hM,hX,hB⟩:=hrel;have AL:=zZ hap;have MK:=zZ hM;have XN:=zZ hX;have BW:=zZ hB;clear hap hM hX hB M0 X0 B0
     by_cases hlt:k<len
     ·have hki:(k:Int)<(len:Int):=by omega
      have hkL:k<L.length:=by rw[HLEN.out];exact hlt
      rcases HL.out with e|⟨lb,lo,rfl,hc⟩
      ·rw [e]at hkL;exact absurd hkL (Nat.not_lt_zero _)
      obtain ⟨c0,c1,c2⟩:=hc k hkL;have HX:=zZ (LO0.out CC.out g (wL L k));have MEM:=zZ (lJ hkL);have HKL:=zZ hkL;clear hc hkL;obtain ⟨x,hx⟩:∃x,wL L k=x:=⟨_,rfl⟩;rw[hx]at c0 c1 c2 HX MEM;have EX:=zZ hx;clear hx;obtain ⟨bn,bf,ba⟩:=x;simp only at c0 c1 c2;have d0:=zG BW.out (block_lt_of_cell c0) c0;have d1:=zG BW.out (block_lt_of_cell c1) c1;have d2:=zG BW.out (block_lt_of_cell c2) c2;have b3:=(Below.refl wr.heap.size wr).alloc (Nat.le_refl _) (.cells #[.int .i64 bn,.int .i64 bf,.int .i64 ba] 99);have X3:=zV 99 wr #[.int .i64 bn,.int .i64 bf,.int .i64 ba];have x0:=X3.cell (k:=0) rfl;have x1:=X3.cell (k:=1) rfl;have x2:=X3.cell (k:=2) rfl;have M3:=zZ (MK.out.below b3);have XN3:=zZ (XN.out.below b3);have y0:=XN3.out.cell (k:=0) rfl;have y1:=XN3.out.cell (k:=1) rfl;simp only[List.getElem_toArray,List.getElem_cons_zero,List.getElem_cons_succ]at x0 x1 x2 y0 y1;have B3:=zZ (BW.out.trans (b3.mono BW.out.size));clear c0 c1 c2 b3 X3
      go_upto_region 16 with fail
      generalize wr.alloc (.cells #[.int .i64 bn,.int .i64 bf,.int .i64 ba] 99)=W3 at *
      cases hq:dL n L ⟨bn,bf,ba⟩ with
      |true=>
       have LN:Hid (Calls Tryz.prog 36 #[.agg #[.int .i64 n.nodes,.slice a n.arcs.length c],.map (some g),.agg #[.int .i64 bn,.int .i64 bf,.int .i64 ba]] W3 (ZB W3 true)):=zZ (by have:=HX.out W3 M3.out B3.out MEM.out;rw[hq]at this;exact this);have HQ:=zZ hq;clear hq HX d0 d1 d2
       go_wp2_with (go_at_call 36;(with_reducible refine LN.out.mono ?_);rintro e w4 ⟨rfl,b4⟩)
       rw[<- HRE.out,zQZ CC.out MEM.out HQ.out];exact ⟨rfl,B3.out.trans (b4.mono B3.out.size)⟩
      |false=>
       have LN:Hid (Calls Tryz.prog 36 #[.agg #[.int .i64 n.nodes,.slice a n.arcs.length c],.map (some g),.agg #[.int .i64 bn,.int .i64 bf,.int .i64 ba]] W3 (ZB W3 false)):=zZ (by have:=HX.out W3 M3.out B3.out MEM.out;rw[hq]at this;exact this)
       have NX:Hid (∀ j,j<k+1->dL n L (wL L j)=false):=fun j hj=>by
        by_cases e:j=k
        ·rw [e,EX.out];exact hq
        exact AL.out j (by omega)
       clear hq HX d0 d1 d2
       go_wp2_with (go_at_call 36;(with_reducible refine LN.out.mono ?_);rintro e w4 ⟨rfl,b4⟩;have B4:=zZ b4;clear b4)
       go_roundg (len-(k+1))
       case measure=>omega
       case rel=>exact ⟨k+1,by omega,rfl,by go_num,NX.out,M3.out.below B4.out,XN3.out.below B4.out,B3.out.trans (B4.out.mono B3.out.size)⟩
     have ek:len=k:=by omega
     subst ek
     have hkk:¬(len:Int)<(len:Int):=by omega
     go_wp2
     rw[<- HRE.out,zVZ CC.out (by rw[HLEN.out];exact AL.out)];exact ⟨rfl,BW.out⟩
 have hci:((zN n)!=0)=true:=by simp;exact hc
 have HC:=zZ (zSG (L:=L) hc);clear hc BN BY LK0 LO0;generalize zN n=ce at *
 go_enter Tryz.func13,Tryz.ntmps13
 go_upto_region 1 with fail
 generalize w.alloc (.cells #[.int .i64 n.nodes,.slice a n.arcs.length c] 30)=W1 at *
 go_wp2_with (go_at_call 22;(with_reducible refine (CK.out _ B1.out).mono ?_);rintro e w2 ⟨rfl,b2⟩;have B2:=zZ (B1.out.trans (b2.mono B1.out.size));clear b2 CK)
 rw[<- HRE.out,HC.out];exact ⟨rfl,B2.out⟩
end Go.Proofs.YtpohmekkdjdhmaaGreat
