/- Texts of one chain. -/
import Derived.Test.YtdcjdnkdeamigaaGreatDoorPartQ
import Derived.Test.YtdcjdnkdeamigaaGreatDoorPartSourceWhere38
import Derived.Test.YtdcjdnkdeamigaaGreatDoorPartSourceWhere33
set_option maxRecDepth 100000
set_option maxHeartbeats 8000000
namespace Go.Proofs.YtdcjdnkdeamigaaGreatDoor
open Go.ChangeShapes Go.WideShapes Go.ChangeAt Go.RowKit
theorem QV (d:Nat->Bool) (k:Nat):zA d k k=true:=by simp[zA]
theorem as4 (w:World) (o1 o2 o3 o4:Obj):Below w.heap.size w ((((w.alloc o1).alloc o2).alloc o3).alloc o4):=by
 have c1:=(Below.refl w.heap.size w).alloc (Nat.le_refl _) o1;have c2:=c1.alloc c1.size o2;have c3:=c2.alloc c2.size o3;exact c3.alloc c3.size o4
theorem asF (b:Nat) (c p:Int) (old:Array Value) (w:World) (hg:gP w) (ht:zD 33 b w old) (ho:old.size=2):
 Calls Tryz.prog 27 #[.iface 33 (.agg #[.int .i64 c,.int .i64 p]),.iface 58 (qP b)] w fun ev w'=>ev=.returned (.bool true)/\zD 33 b w' #[.int .i64 c,.int .i64 p]/\tD b w w':=by
 refine (BG b c p old w hg ht ho).mono fun ev w' hh=>⟨hh.1,?_⟩
 rw[hh.2];exact ⟨setRow_heap _ b old #[.int .i64 c,.int .i64 p] 33 _ (ht.below (as4 w _ _ _ _)),(tD.of_below (as4 w _ _ _ _)).trans (jE _ b #[.int .i64 c,.int .i64 p])⟩
theorem QU (w:World):Calls Tryz.prog 11 #[.nilIface] w fun e w'=>e=.returned (.tuple #[.agg #[.int .i64 0,.int .i64 0],.bool true])/\Below w.heap.size w w':=by
 have ba:=(Below.refl w.heap.size w).alloc (Nat.le_refl _) (.cells #[.int .i64 0,.int .i64 0] 33)
 go_enter Tryz.func11,Tryz.ntmps11
 go_wp2
 refine bodyPost_ret (v:=.tuple #[.agg #[.int .i64 0,.int .i64 0],.bool true]) (by simp[results,Tryz.results11,go_sem]) rfl ?_
 exact ⟨rfl,ba⟩
theorem eI (c p:Int) (w:World) (hT:gP w):Calls Tryz.prog 11 #[.iface 33 (.agg #[.int .i64 c,.int .i64 p])] w fun e w'=>e=.returned (.tuple #[.agg #[.int .i64 c,.int .i64 p],.bool (c !=0)])/\Below w.heap.size w w':=by
 obtain ⟨bb,hbb⟩:∃b,(c !=0)=b:=⟨_,rfl⟩;have ba:=(Below.refl w.heap.size w).alloc (Nat.le_refl _) (.cells #[.int .i64 0,.int .i64 0] 33);have b2:=(Below.refl _ _).alloc (Nat.le_refl _) (.cells #[.int .i64 0,.int .i64 0] 33) (w:=w.alloc (.cells #[.int .i64 0,.int .i64 0] 33));have rb:=(zL 33 w #[.int .i64 0,.int .i64 0]).below b2;have kb:=zL 33 (w.alloc (.cells #[.int .i64 0,.int .i64 0] 33)) #[.int .i64 0,.int .i64 0];rw[World.size_alloc]at kb;have bz:=ba.trans (b2.mono ba.size);have AS:=zZ (asF (w.heap.size+1) c p #[.int .i64 0,.int .i64 0] ((w.alloc (.cells #[.int .i64 0,.int .i64 0] 33)).alloc (.cells #[.int .i64 0,.int .i64 0] 33)) (hT.below bz) kb rfl)
 have HNE:Hid (w.heap.size+1≠w.heap.size):=by show ¬_;omega
 rw[hbb];clear b2 ba
 go_enter Tryz.func11,Tryz.ntmps11
 go_upto_region 4 with fail
 generalize (w.alloc (.cells #[.int .i64 0,.int .i64 0] 33)).alloc (.cells #[.int .i64 0,.int .i64 0] 33)=W0 at *;have RB:=zZ rb;have BZ:=zZ bz;clear bz rb kb
 go_upto_region 6 with (go_at_call 27;(with_reducible refine AS.out.mono ?_);rintro e w5 ⟨rfl,k5,t5⟩;have Q5:Hid (zD 33 (w.heap.size+1) w5 #[.int .i64 c,.int .i64 p]/\zD 33 w.heap.size w5 #[.int .i64 0,.int .i64 0]/\Below w.heap.size w w5):=⟨k5,RB.out.keep (t5.block _ RB.out.lt (by omega)),BZ.out.trans (t5.below (Nat.le_succ _) BZ.out.size)⟩;clear k5 t5)
 clear AS RB BZ;have K5:Hid (zD 33 (w.heap.size+1) w5 #[.int .i64 c,.int .i64 p]):=Q5.out.1;have K6:Hid (zD 33 w.heap.size w5 #[.int .i64 0,.int .i64 0]):=Q5.out.2.1;have K7:Hid (Below w.heap.size w w5):=Q5.out.2.2;clear Q5;obtain ⟨fb,hfb⟩:∃q,w.heap.size+1=q:=⟨_,rfl⟩;rw[hfb]at K5 HNE ⊢;clear hfb
 refine yP [4] (fun d i u z=>match i with
  |0=>z=.agg #[.int .i64 c,.int .i64 p]
  |1=>z=(qP fb)
  |2=>z=.int .i64 c
  |3=>z=.bool bb
  |4=>True
  |5=>z=.bool bb
  |_=>True) (fun d u=>zD 33 fb u #[.int .i64 c,.int .i64 p]/\(d 4=false->zD 33 w.heap.size u #[.int .i64 0,.int .i64 0])/\(d 4=true->zD 33 w.heap.size u #[.int .i64 c,.int .i64 p])/\Below w.heap.size w u) (by kernel_rfl) (by kernel_rfl) (by kernel_rfl) ?_ ?_ ?_ ?_ ?_ ?_ (by kernel_rfl)
 ·intro d i w v w' h hb
  match i,h with
  |0,h=>exact h
  |1,h=>exact h
  |2,h=>exact h
  |3,h=>exact h
  |4,h=>exact h
  |5,h=>exact h
  |_+6,_=>trivial
 ·intro d u u' h hb
  exact ⟨h.1.below hb,fun e=>(h.2.1 e).below hb,fun e=>(h.2.2.1 e).below hb,h.2.2.2.trans (hb.mono h.2.2.2.size)⟩
 ·exact ⟨K5.out,fun _=>K6.out,fun e=>absurd e (by decide),K7.out⟩
 ·intro d i o ρ w' hm ho hf hg hC hcs hfs hfr zX
  match i,hm,ho,hf,hg,hfr,zX with
  |0,_,ho,hf,hg,hfr,zX=>
   simp only[qS]at ho;subst ho;refine ⟨fun _=>?_,qF⟩
   have ts: ρ (.tmp 4)=(qP fb):=(qR hfr 4);have k0:w'.cell? ⟨fb,0,none⟩=some (.int .i64 c):=hC.1.cell rfl;have k1:w'.cell? ⟨fb,1,none⟩=some (.int .i64 p):=hC.1.cell rfl;simp[go_sem,ts,k0,k1];exact qB
  |1,_,ho,hf,hg,hfr,zX=>
   simp only[qS]at ho;subst ho;refine ⟨fun _=>?_,qF⟩
   have ts: ρ (.tmp 4)=(qP fb):=(qR hfr 4);simp[go_sem,ts];exact qB
  |2,_,ho,hf,hg,hfr,zX=>
   simp only[qS]at ho;subst ho;refine ⟨fun _=>?_,qF⟩
   have ts: ρ (.tmp 14)=(qP fb):=(qH zX 1 14);have k0:w'.cell? ⟨fb,0,none⟩=some (.int .i64 c):=hC.1.cell rfl;simp[go_sem,ts,k0];exact qB
  |3,_,ho,hf,hg,hfr,zX=>
   simp only[qS]at ho;subst ho;refine ⟨fun _=>?_,qF⟩
   have ts: ρ (.tmp 15)=.int .i64 c:=(qH zX 2 15);simp[go_sem,hcs,ts,hbb];exact qB
  |4,hm,_,_,_,_,_=>exact qD hm
  |5,_,ho,hf,hg,hfr,zX=>
   simp only[qS]at ho;subst ho;refine ⟨fun _=>?_,qF⟩
   have ts: ρ (.tmp 16)=.bool bb:=(qH zX 3 16);simp[go_sem,ts];exact qB
  |n+6,_,ho,_,_,_,_=>simp at ho
 ·intro d i o ρ w' hm ho h0 hf hg hC hcs hfs hfr zX
  match i,hm,ho,h0,hf,hg,hfr,zX with
  |0,hm,_,_,_,_,_,_=>exact qD hm
  |1,hm,_,_,_,_,_,_=>exact qD hm
  |2,hm,_,_,_,_,_,_=>exact qD hm
  |3,hm,_,_,_,_,_,_=>exact qD hm
  |4,_,ho,h0,hf,hg,hfr,zX=>
   simp only[qS]at ho;subst ho;have t0: ρ (.tmp 13)=.agg #[.int .i64 c,.int .i64 p]:=(qH zX 0 13);have ts: ρ (.tmp 2)=(qP w.heap.size):=(qR hfr 2);have b8:=hC.2.1 h0;have z0:w'.cell? ⟨w.heap.size,0,none⟩=some (.int .i64 0):=b8.cell rfl;have z1:w'.cell? ⟨w.heap.size,1,none⟩=some (.int .i64 0):=b8.cell rfl;have f0:=b8.frozen 0;have f1:=b8.frozen 1;have hB:=(b8.set 0 (.int .i64 c)).set 1 (.int .i64 p);have hbt:=(tD.set w' w.heap.size 0 (.int .i64 c)).trans (tD.set _ w.heap.size 1 (.int .i64 p));refine ⟨rfl,tQ (w':=(w'.setCell ⟨w.heap.size,0,none⟩ (.int .i64 c)).setCell ⟨w.heap.size,1,none⟩ (.int .i64 p)) (by simp[go_sem,ts,t0,z0,z1,f0,f1]) ?_⟩
   refine ⟨⟨hC.1.keep (hbt.block _ hC.1.lt HNE.out),fun e=>absurd e (by rw[QV];decide),fun _=>hB,hC.2.2.2.trans (hbt.below (Nat.le_refl _) hC.2.2.2.size)⟩,fun h=>absurd rfl h,?_⟩
   intro j t hj hs
   match j,hs with
   |0,hs=>exact hs
   |1,hs=>exact hs
   |2,hs=>exact hs
   |3,hs=>exact hs
   |4,_=>trivial
   |5,hs=>exact hs
   |_+6,_=>trivial
  |5,hm,_,_,_,_,_,_=>exact qD hm
  |n+6,_,ho,_,_,_,_,_=>simp at ho
 intro V w9 hC9 hS;have e5:V 5=.bool bb:=hS 5 (by decide) (by intro h;cases h);simp only[xA,uH,e5];simp only[Act.put,qU];clear hS e5;have N8:Hid (zD 33 w.heap.size w9 #[.int .i64 c,.int .i64 p]):=hC9.2.2.1 rfl;have B9:Hid (Below w.heap.size w w9):=hC9.2.2.2;clear hC9
 go_wp2
 have t0:w9.cell? ⟨w.heap.size,0,none⟩=some (.int .i64 c):=N8.out.cell rfl;have t1:w9.cell? ⟨w.heap.size,1,none⟩=some (.int .i64 p):=N8.out.cell rfl;refine bodyPost_ret (v:=.tuple #[.agg #[.int .i64 c,.int .i64 p],.bool bb]) (by simp[results,Tryz.results11,go_sem,t0,t1]) rfl ?_
 exact ⟨rfl,B9.out⟩
theorem TR (c p:Int) (w:World):Calls Tryz.prog 24 #[.agg #[.int .i64 c,.int .i64 p]] w fun e w'=>e=.returned (.bool (c !=0||p !=0))/\Below w.heap.size w w':=by
 have ba:=(Below.refl w.heap.size w).alloc (Nat.le_refl _) (.cells #[.int .i64 c,.int .i64 p] 33)
 go_enter Tryz.func24,Tryz.ntmps24
 by_cases h1:c=0
 ·subst h1
  by_cases h2:p=0
  ·subst h2
   go_wp2
   go_ret
   exact ⟨rfl,ba⟩
  have n2:(p==0)=false:=by simp[h2]
  have n3:(p !=0)=true:=by simp[h2]
  go_wp2
  go_ret
  exact ⟨by rw[n3];rfl,ba⟩
 have n2:(c==0)=false:=by simp[h1]
 have n3:(c !=0)=true:=by simp[h1]
 go_wp2
 go_ret
 exact ⟨by rw[n3];rfl,ba⟩
end Go.Proofs.YtdcjdnkdeamigaaGreatDoor
