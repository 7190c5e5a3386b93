/- Texts of one chain. -/
import Derived.Test.YtdcjdnkdeamigaaGreatDoorPartQ
import Derived.Test.YtdcjdnkdeamigaaGreatDoorPartSourceWhere11
import Derived.Test.YtdcjdnkdeamigaaGreatDoorPartSourceWhere1
import Derived.Test.YtdcjdnkdeamigaaGreatDoorShelf
import Derived.Laws.Concat
set_option maxRecDepth 100000
set_option maxHeartbeats 2000000
namespace Go.Proofs.YtdcjdnkdeamigaaGreatDoor
open Go.ChangeShapes Go.WideShapes Go.ChangeAt Go.RowKit
theorem sJ (l:List UInt8):(zW l).toList=l:=ByteArray.toList_mk l
theorem sW (neg:Bool) (ds:List UInt8) (hne:0<ds.length) (hl:ds.length<=1048576) (w:World):
 Calls Tryz.prog 162 #[.string (zW (fD neg)),.string (zW ds)] w fun e w'=>e=.returned (.bool (iX neg ds))/\w=w':=by
 have e1:=zB ds;have g:=YB ds 0 (by rw[e1];exact hne)
 have i0:(0:Int)<(ds.length:Int):=by omega
 have e2:=sJ (fD neg);have e3:(ByteArray.mk #[]).toList=([]:List UInt8):=sJ [];have eo:iX neg ds=(!decide (xF ds 0=48)||(decide (ds.length=1)&& !neg)):=rfl;rw[eo];clear eo;generalize xF ds 0=x at *
 by_cases h1:x=48
 ·subst h1
  by_cases h2:ds.length=1
  ·have h3:decide ((ds.length:Int)=1)=true:=decide_eq_true (by omega)
   have h4:decide (ds.length=1)=true:=decide_eq_true h2;rw[h4]
   cases neg
   ·have e4:fD false=[]:=rfl
    rw[e4]at e2 ⊢
    go_enter Tryz.func162,Tryz.ntmps162
    go_wp2
    go_ret
    exact ⟨rfl,rfl⟩
   have e4:fD true=[45]:=rfl;rw[e4]at e2 ⊢
   go_enter Tryz.func162,Tryz.ntmps162
   go_wp2
   go_ret
   exact ⟨rfl,rfl⟩
  have h3:decide ((ds.length:Int)=1)=false:=decide_eq_false (by omega);have h4:decide (ds.length=1)=false:=decide_eq_false h2;rw[h4]
  go_enter Tryz.func162,Tryz.ntmps162
  go_wp2
  go_ret
  exact ⟨rfl,rfl⟩
 have h3:decide (x=48)=false:=decide_eq_false h1;rw[h3]
 go_enter Tryz.func162,Tryz.ntmps162
 go_wp2
 go_ret
 exact ⟨rfl,rfl⟩
def sE (w:World):Prop:=∃te pe,w.cell? ⟨2,0,none⟩=some (.iface te pe)
theorem sE.lt {w:World} (h:sE w):2<w.heap.size:=by obtain ⟨te,pe,h⟩:=h;exact block_lt_of_cell h
theorem sE.grown {w w':World} {b:Nat} (h:sE w) (hg:w.grownBy w' (some b)) (hb:b≠2):sE w':=by
 obtain ⟨te,pe,h⟩:=h;exact ⟨te,pe,hg.cell h (fun e=>hb (Option.some.inj e).symm)⟩
theorem sE.below {w w':World} (h:sE w) (hb:Below w.heap.size w w'):sE w':=by
 obtain ⟨te,pe,h⟩:=h;exact ⟨te,pe,(hb.cell (block_lt_of_cell h)).trans h⟩
def FG (v:Int) (ok:Bool) (w:World) (e:Ending) (w':World):Prop:=
 (if ok then e=.returned (.tuple #[.int .i64 v,.nilIface]) else ∃t x y,e=.returned (.tuple #[.int .i64 x,.iface t y]))/\Below w.heap.size w w'
theorem iR (neg:Bool) (ds:List UInt8) (hne:ds≠[]) (hd:kC ds) (hl:ds.length<=1048576) (w:World) (hE:sE w):
 Calls Tryz.prog 163 #[.string (zW (fD neg++ds))] w (FG (vB neg (vV 0 ds)) (wC (vB neg (vV 0 ds))) w):=by
 have ha:=WP neg hne hd
 have hs:(zW (fD neg++ds)).size<=1048577:=by
  rw[zB,List.length_append]
  cases neg
  ·show 0+ds.length<=_;omega
  show 1+ds.length<=_;omega
 have hd:(zW (fD neg++ds)).data.toList=fD neg++ds:=rfl
 by_cases hf:wC (vB neg (vV 0 ds))=true
 ·rw [if_pos hf]at ha
  rw[hf];refine (Tryz.strconv_Atoi_ok _ (by omega) _ (by rw[hd];exact ha) w).mono ?_
  rintro e w' ⟨rfl,hw⟩
  refine ⟨rfl,?_⟩
  rcases hw with rfl|⟨t,rfl⟩
  ·exact Below.refl _ _
  exact Lib.bytesWorld_below _ _ _
 rw[if_neg hf]at ha
 have hf':wC (vB neg (vV 0 ds))=false:=by simpa using hf
 rw[hf'];obtain ⟨te,pe,hv⟩:=hE;refine (Tryz.strconv_Atoi_range _ (by omega) (by rw[hd];exact ha) _ w hv (Or.inr ⟨te,pe,rfl⟩)).mono ?_
 rintro e w' ⟨N,rfl,-,-,hb⟩
 exact ⟨⟨_,_,_,rfl⟩,hb⟩
theorem cW {l:List UInt8} (h:xF l 0=45):l.take 1=fD true:=by
 cases l with
 |nil=>simp[xF]at h
 |cons c r=>
  rw[sN]at h
  have:c=45:=by
   apply UInt8.toNat.inj
   show c.toNat=45;omega
  subst this;rfl
theorem QG {p:Int->Bool} {l:List UInt8} (h:p (xF l 0)=true) (h0:xF l 0≠0):0<yW p l:=by
 cases l with
 |nil=>exact absurd rfl h0
 |cons c r=>
  rw[sN]at h;simp[yW,h]
theorem iQ (T:TypeId) (b:Nat) (l:List UInt8) (p N:Nat) (ds:List UInt8) (w:World) (h:xS T b l p w) (hb1:b≠2) (hp:p<=l.length) (hl:l.length<=1048576) (hE:sE w)
 (hx:xF (l.drop p) 0≠45) (hN:yW xQ (l.drop p)=N) (hds:(l.drop p).take N=ds) (hne:0<ds.length) (ho:iX false ds=false)
 :Calls Tryz.prog 135 #[(qP b)] w (uP T b l p ⟨wM,41,0⟩ w):=by
 have HA:Hid (∀ W,xS T b l p W->Calls Tryz.prog 129 #[(qP b),.int .i64 0] W fun e w'=>e=.returned (.int .u8 (xF (l.drop p) 0))/\yC T b l p W w'):=
  fun W hc=>(xW T b l p 0 W hc hp hl (by decide)).mono fun _ _ ⟨h1,m,h2⟩=>⟨h1,by rw[h2];exact yC.drew hc m⟩
 have HR:Hid (∀ W,xS T b l p W->Calls Tryz.prog 127 #[(qP b),.func (.func 134) #[] #[]] W fun e w'=>e=.returned (.string (zW ds))/\yC T b l (p+N) W w'):=fun W hc=>by
  have:=rT T _ _ sX b l p W hc (by omega) hl;rw[hN,hds]at this;exact this
 have hdl:ds.length<=1048576:=by rw[<- hds,List.length_take,List.length_drop];omega
 have HO:=zY (sW false ds hne hdl);rw[ho]at HO;have hx':decide (xF (l.drop p) 0=45)=false:=decide_eq_false hx;have e0:zW (fD false)=⟨#[]⟩:=rfl;rw[e0]at HO;generalize xF (l.drop p) 0=x at *;have HH:=zY h;have hb:=h.lt;have HE:=zY hE
 have HC:Hid (∀ o,xS T b l p (w.alloc o)):=fun o=>h.alloc o
 have z2:=zB ds
 have z4:¬(9223372036854775807<0+ds.length):=by omega
 clear h hE hN hds hne
 go_enter Tryz.func135,Tryz.ntmps135
 go_wp2_with (first
  |(go_at_call 162;(with_reducible refine (HO.out _).mono ?_);rintro e w' ⟨rfl,rfl⟩;have BX:=B3;obtain ⟨x1,y1,z5,u1,c0,c1,c2,c3,f0,f1,f2,f3⟩:=BX.out.parts)
  |(go_at_call 127;(with_reducible refine (HR.out _ C2.out).mono ?_);rintro e w3 ⟨rfl,hm3⟩;have M3:=zY hm3;have B3:Hid (rA w.heap.size w3):=B2.out.grown hm3.grown (by omega);have E3:Hid (sE w3):=HE.out.grown (Lib.grownBy_trans G2.out hm3.grown) hb1;clear hm3)
  |(go_at_call 129;(with_reducible refine (HA.out _ (HC.out _)).mono ?_);rintro e w1 ⟨rfl,hm1⟩;have C2:=zY hm1.cur;have G2:Hid (w.grownBy w1 (some b)):=Lib.grownBy_trans (xX w _ _) hm1.grown;have B2:Hid (rA w.heap.size w1):=(wA w _ _ _ _).grown hm1.grown (by omega);clear hm1))
 exact bodyPost_ret (v:=.tuple #[xH wM,.int .i64 41]) (by simp[results,Tryz.results135,go_sem,c0,c1,c2,c3,xH,wM,zW]) rfl ⟨rfl,xK (Lib.grownBy_trans G2.out M3.out.grown) (Nat.le_refl _),fun h=>by cases h⟩
theorem iO (T:TypeId) (b:Nat) (l:List UInt8) (p N:Nat) (ds:List UInt8) (w:World) (h:xS T b l p w) (hb1:b≠2) (hp:p<=l.length) (hl:l.length<=1048576) (hE:sE w)
 (hx:xF (l.drop p) 0≠45) (hN:yW xQ (l.drop p)=N) (hds:(l.drop p).take N=ds) (hne:0<ds.length) (hd:kC ds) (ho:iX false ds=true) (hf:wC (vB false (vV 0 ds))=true)
 :Calls Tryz.prog 135 #[(qP b)] w (uP T b l p ⟨⟨2,[],vB false (vV 0 ds),0⟩,0,0+N⟩ w):=by
 have HA:Hid (∀ W,xS T b l p W->Calls Tryz.prog 129 #[(qP b),.int .i64 0] W fun e w'=>e=.returned (.int .u8 (xF (l.drop p) 0))/\yC T b l p W w'):=
  fun W hc=>(xW T b l p 0 W hc hp hl (by decide)).mono fun _ _ ⟨h1,m,h2⟩=>⟨h1,by rw[h2];exact yC.drew hc m⟩
 have HR:Hid (∀ W,xS T b l p W->Calls Tryz.prog 127 #[(qP b),.func (.func 134) #[] #[]] W fun e w'=>e=.returned (.string (zW ds))/\yC T b l (p+N) W w'):=fun W hc=>by
  have:=rT T _ _ sX b l p W hc (by omega) hl;rw[hN,hds]at this;exact this
 have hdl:ds.length<=1048576:=by rw[<- hds,List.length_take,List.length_drop];omega
 have HO:=zY (sW false ds hne hdl);rw[ho]at HO;have HI:=zY (iR false ds (fun e=>by rw[e]at hne;cases hne) hd hdl);rw[hf]at HI;obtain ⟨A,hA⟩:∃A,zW (fD false++ds)=A:=⟨_,rfl⟩;rw[hA]at HI;have hx':decide (xF (l.drop p) 0=45)=false:=decide_eq_false hx;have e0:zW (fD false)=⟨#[]⟩:=rfl;rw[e0]at HO;generalize xF (l.drop p) 0=x at *;have HH:=zY h;have hb:=h.lt;have HE:=zY hE
 have HC:Hid (∀ o,xS T b l p (w.alloc o)):=fun o=>h.alloc o
 have z1:(ByteArray.mk #[]).size=0:=rfl
 have z3:ByteArray.mk #[]++zW ds=A:=by rw[<- hA];exact ByteArray.mk_append_mk [] ds
 clear hA;have z2:=zB ds
 have z4:¬(9223372036854775807<0+ds.length):=by omega
 clear h hE hN hds hd hne;generalize vB false (vV 0 ds)=val at *
 go_enter Tryz.func135,Tryz.ntmps135
 go_wp2_with (first
  |(go_at_call 163;(with_reducible refine (HI.out _ E3.out).mono ?_);rintro e w4 ⟨he,hb4⟩;subst he;have BX:Hid (rA w.heap.size w4):=B3.out.below hb4;have M4:Hid (xS T b l (p+N) w4/\w.grownBy w4 (some b)):=⟨M3.out.cur.below hb4,Lib.grownBy_below (Lib.grownBy_trans G2.out M3.out.grown) hb4⟩;clear hb4;obtain ⟨x1,y1,z5,u1,c0,c1,c2,c3,f0,f1,f2,f3⟩:=BX.out.parts)
  |(go_at_call 162;(with_reducible refine (HO.out _).mono ?_);rintro e w' ⟨rfl,rfl⟩)
  |(go_at_call 127;(with_reducible refine (HR.out _ C2.out).mono ?_);rintro e w3 ⟨rfl,hm3⟩;have M3:=zY hm3;have B3:Hid (rA w.heap.size w3):=B2.out.grown hm3.grown (by omega);have E3:Hid (sE w3):=HE.out.grown (Lib.grownBy_trans G2.out hm3.grown) hb1;clear hm3)
  |(go_at_call 129;(with_reducible refine (HA.out _ (HC.out _)).mono ?_);rintro e w1 ⟨rfl,hm1⟩;have C2:=zY hm1.cur;have G2:Hid (w.grownBy w1 (some b)):=Lib.grownBy_trans (xX w _ _) hm1.grown;have B2:Hid (rA w.heap.size w1):=(wA w _ _ _ _).grown hm1.grown (by omega);clear hm1))
 exact bodyPost_ret (v:=.tuple #[xH ⟨2,[],val,0⟩,.int .i64 0]) (by simp[results,Tryz.results135,go_sem,c0,c1,c2,c3,xH,zW]) rfl ⟨rfl,xK M4.out.2 (Nat.le_refl _),fun _=>tN (by have:=M4.out.1;rw[show p+(0+N)=p+N from by rw[Nat.zero_add]];exact this) (by omega)⟩
theorem jM (T:TypeId) (b:Nat) (l:List UInt8) (p N:Nat) (ds:List UInt8) (w:World) (h:xS T b l p w) (hb1:b≠2) (hp:p<=l.length) (hl:l.length<=1048576) (hE:sE w)
 (hx:xF (l.drop p) 0≠45) (hN:yW xQ (l.drop p)=N) (hds:(l.drop p).take N=ds) (hne:0<ds.length) (hd:kC ds) (ho:iX false ds=true) (hf:wC (vB false (vV 0 ds))=false)
 :Calls Tryz.prog 135 #[(qP b)] w (uP T b l p ⟨wM,41,0⟩ w):=by
 have HA:Hid (∀ W,xS T b l p W->Calls Tryz.prog 129 #[(qP b),.int .i64 0] W fun e w'=>e=.returned (.int .u8 (xF (l.drop p) 0))/\yC T b l p W w'):=
  fun W hc=>(xW T b l p 0 W hc hp hl (by decide)).mono fun _ _ ⟨h1,m,h2⟩=>⟨h1,by rw[h2];exact yC.drew hc m⟩
 have HR:Hid (∀ W,xS T b l p W->Calls Tryz.prog 127 #[(qP b),.func (.func 134) #[] #[]] W fun e w'=>e=.returned (.string (zW ds))/\yC T b l (p+N) W w'):=fun W hc=>by
  have:=rT T _ _ sX b l p W hc (by omega) hl;rw[hN,hds]at this;exact this
 have hdl:ds.length<=1048576:=by rw[<- hds,List.length_take,List.length_drop];omega
 have HO:=zY (sW false ds hne hdl);rw[ho]at HO;have HI:=zY (iR false ds (fun e=>by rw[e]at hne;cases hne) hd hdl);rw[hf]at HI;obtain ⟨A,hA⟩:∃A,zW (fD false++ds)=A:=⟨_,rfl⟩;rw[hA]at HI;have hx':decide (xF (l.drop p) 0=45)=false:=decide_eq_false hx;have e0:zW (fD false)=⟨#[]⟩:=rfl;rw[e0]at HO;generalize xF (l.drop p) 0=x at *;have HH:=zY h;have hb:=h.lt;have HE:=zY hE
 have HC:Hid (∀ o,xS T b l p (w.alloc o)):=fun o=>h.alloc o
 have z1:(ByteArray.mk #[]).size=0:=rfl
 have z3:ByteArray.mk #[]++zW ds=A:=by rw[<- hA];exact ByteArray.mk_append_mk [] ds
 clear hA;have z2:=zB ds
 have z4:¬(9223372036854775807<0+ds.length):=by omega
 clear h hE hN hds hd hne
 go_enter Tryz.func135,Tryz.ntmps135
 go_wp2_with (first
  |(go_at_call 163;(with_reducible refine (HI.out _ E3.out).mono ?_);rintro e w4 ⟨⟨t9,x9,y9,he⟩,hb4⟩;subst he;have BX:Hid (rA w.heap.size w4):=B3.out.below hb4;have M4:Hid (w.grownBy w4 (some b)):=Lib.grownBy_below (Lib.grownBy_trans G2.out M3.out.grown) hb4;clear hb4;obtain ⟨x1,y1,z5,u1,c0,c1,c2,c3,f0,f1,f2,f3⟩:=BX.out.parts)
  |(go_at_call 162;(with_reducible refine (HO.out _).mono ?_);rintro e w' ⟨rfl,rfl⟩)
  |(go_at_call 127;(with_reducible refine (HR.out _ C2.out).mono ?_);rintro e w3 ⟨rfl,hm3⟩;have M3:=zY hm3;have B3:Hid (rA w.heap.size w3):=B2.out.grown hm3.grown (by omega);have E3:Hid (sE w3):=HE.out.grown (Lib.grownBy_trans G2.out hm3.grown) hb1;clear hm3)
  |(go_at_call 129;(with_reducible refine (HA.out _ (HC.out _)).mono ?_);rintro e w1 ⟨rfl,hm1⟩;have C2:=zY hm1.cur;have G2:Hid (w.grownBy w1 (some b)):=Lib.grownBy_trans (xX w _ _) hm1.grown;have B2:Hid (rA w.heap.size w1):=(wA w _ _ _ _).grown hm1.grown (by omega);clear hm1))
 exact bodyPost_ret (v:=.tuple #[xH wM,.int .i64 41]) (by simp[results,Tryz.results135,go_sem,c0,c1,c2,c3,xH,wM,zW]) rfl ⟨rfl,xK M4.out (Nat.le_refl _),fun h=>by cases h⟩
theorem iN (T:TypeId) (b:Nat) (l:List UInt8) (p N:Nat) (ds:List UInt8) (w:World) (h:xS T b l p w) (hb1:b≠2) (hp:p<=l.length) (hl:l.length<=1048576) (hE:sE w)
 (hx:xF (l.drop p) 0=45) (hN:yW xQ (l.drop (p+1))=N) (hds:(l.drop (p+1)).take N=ds) (hne:0<ds.length) (ho:iX true ds=false)
 :Calls Tryz.prog 135 #[(qP b)] w (uP T b l p ⟨wM,41,0⟩ w):=by
 have hp1:p+1<=l.length:=by
  rcases Nat.lt_or_ge p l.length with h|h
  ·exact h
  rw[oU (by rw[List.length_drop];omega)]at hx;cases hx
 have HA:Hid (∀ W,xS T b l p W->Calls Tryz.prog 129 #[(qP b),.int .i64 0] W fun e w'=>e=.returned (.int .u8 (xF (l.drop p) 0))/\yC T b l p W w'):=
  fun W hc=>(xW T b l p 0 W hc hp hl (by decide)).mono fun _ _ ⟨h1,m,h2⟩=>⟨h1,by rw[h2];exact yC.drew hc m⟩
 have HT:Hid (∀ W,xS T b l p W->Calls Tryz.prog 161 #[(qP b),.int .i64 1] W fun e w'=>e=.returned (.string (zW (fD true)))/\yC T b l (p+1) W w'):=fun W hc=>by
  have:=lP T b l p 1 W hc hp1 hl;rw[cW hx]at this;exact this
 have HR:Hid (∀ W,xS T b l (p+1) W->Calls Tryz.prog 127 #[(qP b),.func (.func 134) #[] #[]] W fun e w'=>e=.returned (.string (zW ds))/\yC T b l ((p+1)+N) W w'):=fun W hc=>by
  have:=rT T _ _ sX b l (p+1) W hc (by omega) hl;rw[hN,hds]at this;exact this
 have hdl:ds.length<=1048576:=by rw[<- hds,List.length_take,List.length_drop];omega
 have HO:=zY (sW true ds hne hdl);rw[ho]at HO;rw[hx]at HA;have HH:=zY h;have hb:=h.lt;have HE:=zY hE
 have HC:Hid (∀ o,xS T b l p (w.alloc o)):=fun o=>h.alloc o
 obtain ⟨SG,hSG⟩:∃A,zW (fD true)=A:=⟨_,rfl⟩
 have z1:SG.size=1:=by rw[<- hSG];rfl
 rw[hSG]at HO HT;clear hSG;have z2:=zB ds
 have z4:¬(9223372036854775807<1+ds.length):=by omega
 clear h hE hN hds hne hx
 go_enter Tryz.func135,Tryz.ntmps135
 go_wp2_with (first
  |(go_at_call 162;(with_reducible refine (HO.out _).mono ?_);rintro e w' ⟨rfl,rfl⟩;have BX:=B3;obtain ⟨x1,y1,z5,u1,c0,c1,c2,c3,f0,f1,f2,f3⟩:=BX.out.parts)
  |(go_at_call 127;(with_reducible refine (HR.out _ C2.out).mono ?_);rintro e w3 ⟨rfl,hm3⟩;have M3:=zY hm3;have B3:Hid (rA w.heap.size w3):=B2.out.grown hm3.grown (by omega);have E3:Hid (sE w3):=HE.out.grown (Lib.grownBy_trans G2.out hm3.grown) hb1;clear hm3)
  |(go_at_call 161;(with_reducible refine (HT.out _ CD.out).mono ?_);rintro e w2 ⟨rfl,hm2⟩;have C2:=zY hm2.cur;have G2:Hid (w.grownBy w2 (some b)):=Lib.grownBy_trans GD.out hm2.grown;have B2:Hid (rA w.heap.size w2):=BD.out.grown hm2.grown (by omega);clear hm2)
  |(go_at_call 129;(with_reducible refine (HA.out _ (HC.out _)).mono ?_);rintro e w1 ⟨rfl,hm1⟩;have CD:=zY hm1.cur;have GD:Hid (w.grownBy w1 (some b)):=Lib.grownBy_trans (xX w _ _) hm1.grown;have BD:Hid (rA w.heap.size w1):=(wA w _ _ _ _).grown hm1.grown (by omega);clear hm1))
 exact bodyPost_ret (v:=.tuple #[xH wM,.int .i64 41]) (by simp[results,Tryz.results135,go_sem,c0,c1,c2,c3,xH,wM,zW]) rfl ⟨rfl,xK (Lib.grownBy_trans G2.out M3.out.grown) (Nat.le_refl _),fun h=>by cases h⟩
theorem iM (T:TypeId) (b:Nat) (l:List UInt8) (p N:Nat) (ds:List UInt8) (w:World) (h:xS T b l p w) (hb1:b≠2) (hp:p<=l.length) (hl:l.length<=1048576) (hE:sE w)
 (hx:xF (l.drop p) 0=45) (hN:yW xQ (l.drop (p+1))=N) (hds:(l.drop (p+1)).take N=ds) (hne:0<ds.length) (hd:kC ds) (ho:iX true ds=true) (hf:wC (vB true (vV 0 ds))=true)
 :Calls Tryz.prog 135 #[(qP b)] w (uP T b l p ⟨⟨2,[],vB true (vV 0 ds),0⟩,0,1+N⟩ w):=by
 have hp1:p+1<=l.length:=by
  rcases Nat.lt_or_ge p l.length with h|h
  ·exact h
  rw[oU (by rw[List.length_drop];omega)]at hx;cases hx
 have HA:Hid (∀ W,xS T b l p W->Calls Tryz.prog 129 #[(qP b),.int .i64 0] W fun e w'=>e=.returned (.int .u8 (xF (l.drop p) 0))/\yC T b l p W w'):=
  fun W hc=>(xW T b l p 0 W hc hp hl (by decide)).mono fun _ _ ⟨h1,m,h2⟩=>⟨h1,by rw[h2];exact yC.drew hc m⟩
 have HT:Hid (∀ W,xS T b l p W->Calls Tryz.prog 161 #[(qP b),.int .i64 1] W fun e w'=>e=.returned (.string (zW (fD true)))/\yC T b l (p+1) W w'):=fun W hc=>by
  have:=lP T b l p 1 W hc hp1 hl;rw[cW hx]at this;exact this
 have HR:Hid (∀ W,xS T b l (p+1) W->Calls Tryz.prog 127 #[(qP b),.func (.func 134) #[] #[]] W fun e w'=>e=.returned (.string (zW ds))/\yC T b l ((p+1)+N) W w'):=fun W hc=>by
  have:=rT T _ _ sX b l (p+1) W hc (by omega) hl;rw[hN,hds]at this;exact this
 have hdl:ds.length<=1048576:=by rw[<- hds,List.length_take,List.length_drop];omega
 have HO:=zY (sW true ds hne hdl);rw[ho]at HO;have HI:=zY (iR true ds (fun e=>by rw[e]at hne;cases hne) hd hdl);rw[hf]at HI;obtain ⟨A,hA⟩:∃A,zW (fD true++ds)=A:=⟨_,rfl⟩;rw[hA]at HI;rw[hx]at HA;have HH:=zY h;have hb:=h.lt;have HE:=zY hE
 have HC:Hid (∀ o,xS T b l p (w.alloc o)):=fun o=>h.alloc o
 obtain ⟨SG,hSG⟩:∃A,zW (fD true)=A:=⟨_,rfl⟩
 have z1:SG.size=1:=by rw[<- hSG];rfl
 rw[hSG]at HO HT
 have z3:SG++zW ds=A:=by rw[<- hSG,<-hA];exact ByteArray.mk_append_mk [45] ds
 clear hA;clear hSG;have z2:=zB ds
 have z4:¬(9223372036854775807<1+ds.length):=by omega
 clear h hE hN hds hd hne hx;generalize vB true (vV 0 ds)=val at *
 go_enter Tryz.func135,Tryz.ntmps135
 go_wp2_with (first
  |(go_at_call 163;(with_reducible refine (HI.out _ E3.out).mono ?_);rintro e w4 ⟨he,hb4⟩;subst he;have BX:Hid (rA w.heap.size w4):=B3.out.below hb4;have M4:Hid (xS T b l ((p+1)+N) w4/\w.grownBy w4 (some b)):=⟨M3.out.cur.below hb4,Lib.grownBy_below (Lib.grownBy_trans G2.out M3.out.grown) hb4⟩;clear hb4;obtain ⟨x1,y1,z5,u1,c0,c1,c2,c3,f0,f1,f2,f3⟩:=BX.out.parts)
  |(go_at_call 162;(with_reducible refine (HO.out _).mono ?_);rintro e w' ⟨rfl,rfl⟩)
  |(go_at_call 127;(with_reducible refine (HR.out _ C2.out).mono ?_);rintro e w3 ⟨rfl,hm3⟩;have M3:=zY hm3;have B3:Hid (rA w.heap.size w3):=B2.out.grown hm3.grown (by omega);have E3:Hid (sE w3):=HE.out.grown (Lib.grownBy_trans G2.out hm3.grown) hb1;clear hm3)
  |(go_at_call 161;(with_reducible refine (HT.out _ CD.out).mono ?_);rintro e w2 ⟨rfl,hm2⟩;have C2:=zY hm2.cur;have G2:Hid (w.grownBy w2 (some b)):=Lib.grownBy_trans GD.out hm2.grown;have B2:Hid (rA w.heap.size w2):=BD.out.grown hm2.grown (by omega);clear hm2)
  |(go_at_call 129;(with_reducible refine (HA.out _ (HC.out _)).mono ?_);rintro e w1 ⟨rfl,hm1⟩;have CD:=zY hm1.cur;have GD:Hid (w.grownBy w1 (some b)):=Lib.grownBy_trans (xX w _ _) hm1.grown;have BD:Hid (rA w.heap.size w1):=(wA w _ _ _ _).grown hm1.grown (by omega);clear hm1))
 exact bodyPost_ret (v:=.tuple #[xH ⟨2,[],val,0⟩,.int .i64 0]) (by simp[results,Tryz.results135,go_sem,c0,c1,c2,c3,xH,zW]) rfl ⟨rfl,xK M4.out.2 (Nat.le_refl _),fun _=>tN (by have:=M4.out.1;rw[show p+(1+N)=p+1+N from (Nat.add_assoc p 1 N).symm];exact this) (by omega)⟩
theorem jL (T:TypeId) (b:Nat) (l:List UInt8) (p N:Nat) (ds:List UInt8) (w:World) (h:xS T b l p w) (hb1:b≠2) (hp:p<=l.length) (hl:l.length<=1048576) (hE:sE w)
 (hx:xF (l.drop p) 0=45) (hN:yW xQ (l.drop (p+1))=N) (hds:(l.drop (p+1)).take N=ds) (hne:0<ds.length) (hd:kC ds) (ho:iX true ds=true) (hf:wC (vB true (vV 0 ds))=false)
 :Calls Tryz.prog 135 #[(qP b)] w (uP T b l p ⟨wM,41,0⟩ w):=by
 have hp1:p+1<=l.length:=by
  rcases Nat.lt_or_ge p l.length with h|h
  ·exact h
  rw[oU (by rw[List.length_drop];omega)]at hx;cases hx
 have HA:Hid (∀ W,xS T b l p W->Calls Tryz.prog 129 #[(qP b),.int .i64 0] W fun e w'=>e=.returned (.int .u8 (xF (l.drop p) 0))/\yC T b l p W w'):=
  fun W hc=>(xW T b l p 0 W hc hp hl (by decide)).mono fun _ _ ⟨h1,m,h2⟩=>⟨h1,by rw[h2];exact yC.drew hc m⟩
 have HT:Hid (∀ W,xS T b l p W->Calls Tryz.prog 161 #[(qP b),.int .i64 1] W fun e w'=>e=.returned (.string (zW (fD true)))/\yC T b l (p+1) W w'):=fun W hc=>by
  have:=lP T b l p 1 W hc hp1 hl;rw[cW hx]at this;exact this
 have HR:Hid (∀ W,xS T b l (p+1) W->Calls Tryz.prog 127 #[(qP b),.func (.func 134) #[] #[]] W fun e w'=>e=.returned (.string (zW ds))/\yC T b l ((p+1)+N) W w'):=fun W hc=>by
  have:=rT T _ _ sX b l (p+1) W hc (by omega) hl;rw[hN,hds]at this;exact this
 have hdl:ds.length<=1048576:=by rw[<- hds,List.length_take,List.length_drop];omega
 have HO:=zY (sW true ds hne hdl);rw[ho]at HO;have HI:=zY (iR true ds (fun e=>by rw[e]at hne;cases hne) hd hdl);rw[hf]at HI;obtain ⟨A,hA⟩:∃A,zW (fD true++ds)=A:=⟨_,rfl⟩;rw[hA]at HI;rw[hx]at HA;have HH:=zY h;have hb:=h.lt;have HE:=zY hE
 have HC:Hid (∀ o,xS T b l p (w.alloc o)):=fun o=>h.alloc o
 obtain ⟨SG,hSG⟩:∃A,zW (fD true)=A:=⟨_,rfl⟩
 have z1:SG.size=1:=by rw[<- hSG];rfl
 rw[hSG]at HO HT
 have z3:SG++zW ds=A:=by rw[<- hSG,<-hA];exact ByteArray.mk_append_mk [45] ds
 clear hA;clear hSG;have z2:=zB ds
 have z4:¬(9223372036854775807<1+ds.length):=by omega
 clear h hE hN hds hd hne hx
 go_enter Tryz.func135,Tryz.ntmps135
 go_wp2_with (first
  |(go_at_call 163;(with_reducible refine (HI.out _ E3.out).mono ?_);rintro e w4 ⟨⟨t9,x9,y9,he⟩,hb4⟩;subst he;have BX:Hid (rA w.heap.size w4):=B3.out.below hb4;have M4:Hid (w.grownBy w4 (some b)):=Lib.grownBy_below (Lib.grownBy_trans G2.out M3.out.grown) hb4;clear hb4;obtain ⟨x1,y1,z5,u1,c0,c1,c2,c3,f0,f1,f2,f3⟩:=BX.out.parts)
  |(go_at_call 162;(with_reducible refine (HO.out _).mono ?_);rintro e w' ⟨rfl,rfl⟩)
  |(go_at_call 127;(with_reducible refine (HR.out _ C2.out).mono ?_);rintro e w3 ⟨rfl,hm3⟩;have M3:=zY hm3;have B3:Hid (rA w.heap.size w3):=B2.out.grown hm3.grown (by omega);have E3:Hid (sE w3):=HE.out.grown (Lib.grownBy_trans G2.out hm3.grown) hb1;clear hm3)
  |(go_at_call 161;(with_reducible refine (HT.out _ CD.out).mono ?_);rintro e w2 ⟨rfl,hm2⟩;have C2:=zY hm2.cur;have G2:Hid (w.grownBy w2 (some b)):=Lib.grownBy_trans GD.out hm2.grown;have B2:Hid (rA w.heap.size w2):=BD.out.grown hm2.grown (by omega);clear hm2)
  |(go_at_call 129;(with_reducible refine (HA.out _ (HC.out _)).mono ?_);rintro e w1 ⟨rfl,hm1⟩;have CD:=zY hm1.cur;have GD:Hid (w.grownBy w1 (some b)):=Lib.grownBy_trans (xX w _ _) hm1.grown;have BD:Hid (rA w.heap.size w1):=(wA w _ _ _ _).grown hm1.grown (by omega);clear hm1))
 exact bodyPost_ret (v:=.tuple #[xH wM,.int .i64 41]) (by simp[results,Tryz.results135,go_sem,c0,c1,c2,c3,xH,wM,zW]) rfl ⟨rfl,xK M4.out (Nat.le_refl _),fun h=>by cases h⟩
theorem QF {x:Int} (h:xQ x=true):x≠0:=by
 intro e;subst e;cases h
theorem cV (T:TypeId) (b:Nat) (l:List UInt8) (p:Nat) (w:World) (h:xS T b l p w) (hb1:b≠2) (hp:p<=l.length) (hl:l.length<=1048576) (hE:sE w)
 (hst:xQ (xF (l.drop p) 0)=true\/(xF (l.drop p) 0=45/\xQ (xF (l.drop p) 1)=true)):
 Calls Tryz.prog 135 #[(qP b)] w (uP T b l p (vI (l.drop p)) w):=by
 by_cases hx:xF (l.drop p) 0=45
 ·have hd:xQ (xF (l.drop p) 1)=true:=by
   rcases hst with h|h
   ·rw [hx]at h;cases h
   exact h.2
  have e1:xF (l.drop (p+1)) 0=xF (l.drop p) 1:=by rw[<- List.drop_drop,pG]
  have hpos:0<yW xQ (l.drop (p+1)):=QG (by rw[e1];exact hd) (by rw[e1];exact QF hd)
  have hlen:0<((l.drop (p+1)).take (yW xQ (l.drop (p+1)))).length:=by
   rw[List.length_take];have:=uM xQ (l.drop (p+1));omega
  have en:vI (l.drop p)=match kD true ((l.drop (p+1)).take (yW xQ (l.drop (p+1)))) with
   |none=>⟨wM,41,0⟩
   |some v=>⟨⟨2,[],v,0⟩,0,1+yW xQ (l.drop (p+1))⟩:=by
   unfold vI;simp only[hx,decide_true,if_true,List.drop_drop];generalize kD true _=z
   cases z<;>rfl
  rw[en];unfold kD
  by_cases ho:iX true ((l.drop (p+1)).take (yW xQ (l.drop (p+1))))=true
  ·by_cases hf:wC (vB true (vV 0 ((l.drop (p+1)).take (yW xQ (l.drop (p+1))))))=true
   ·rw [ho,hf]
    exact iM T b l p _ _ w h hb1 hp hl hE hx rfl rfl hlen (pF _) ho hf
   have hf':wC (vB true (vV 0 ((l.drop (p+1)).take (yW xQ (l.drop (p+1))))))=false:=by simpa using hf
   rw[ho,hf'];exact jL T b l p _ _ w h hb1 hp hl hE hx rfl rfl hlen (pF _) ho hf'
  have ho':iX true ((l.drop (p+1)).take (yW xQ (l.drop (p+1))))=false:=by simpa using ho
  rw[ho'];exact iN T b l p _ _ w h hb1 hp hl hE hx rfl rfl hlen ho'
 have hd:xQ (xF (l.drop p) 0)=true:=by
  rcases hst with h|h
  ·exact h
  exact absurd h.1 hx
 have hpos:0<yW xQ (l.drop p):=QG hd (QF hd)
 have hlen:0<((l.drop p).take (yW xQ (l.drop p))).length:=by
  rw[List.length_take];have:=uM xQ (l.drop p);omega
 have en:vI (l.drop p)=match kD false ((l.drop p).take (yW xQ (l.drop p))) with
  |none=>⟨wM,41,0⟩
  |some v=>⟨⟨2,[],v,0⟩,0,0+yW xQ (l.drop p)⟩:=by
  unfold vI;simp only[hx,decide_false,Bool.false_eq_true,if_false];generalize kD false _=z
  cases z<;>rfl
 rw[en];unfold kD
 by_cases ho:iX false ((l.drop p).take (yW xQ (l.drop p)))=true
 ·by_cases hf:wC (vB false (vV 0 ((l.drop p).take (yW xQ (l.drop p)))))=true
  ·rw [ho,hf]
   exact iO T b l p _ _ w h hb1 hp hl hE hx rfl rfl hlen (pF _) ho hf
  have hf':wC (vB false (vV 0 ((l.drop p).take (yW xQ (l.drop p)))))=false:=by simpa using hf
  rw[ho,hf'];exact jM T b l p _ _ w h hb1 hp hl hE hx rfl rfl hlen (pF _) ho hf'
 have ho':iX false ((l.drop p).take (yW xQ (l.drop p)))=false:=by simpa using ho
 rw[ho'];exact iQ T b l p _ _ w h hb1 hp hl hE hx rfl rfl hlen ho'
def mZ (T:TypeId) (b:Nat) (l:List UInt8) (p:Nat) (o:One) (w:World) (e:Ending) (w':World):Prop:=
 e=.returned (.tuple #[.agg #[.int .u8 o.tok.sort,.string (zW o.tok.text),.int .i64 o.tok.num,.int .i64 o.tok.place],.int .i64 o.err])/\w.grownBy w' (some b)/\(o.err=0->xS T b l (p+o.n) w')
theorem XZ (T:TypeId) (b:Nat) (l:List UInt8) (p:Nat) (w:World) (h:xS T b l p w) (hb1:b≠2) (hp:p<l.length) (hl:l.length<=1048576) (hE:sE w) (x0 x1:Int) (hx0:xF (l.drop p) 0=x0) (hx1:xF (l.drop p) 1=x1) (hlet:rP x0=true):
 Calls Tryz.prog 82 #[(qP b)] w (uP T b l p (oT (l.drop p)) w):=by
 have HN:Hid (∀ W,xS T b l p W->Calls Tryz.prog 131 #[(qP b)] W fun e w'=>e=.returned (.bool false)/\yC T b l p W w'):=fun W hc=>by
  have:=sY T b l p W hc;rw[decide_eq_false (by omega)]at this
  exact this.mono fun _ _ ⟨h1,m,h2⟩=>⟨h1,by rw[h2];exact yC.drew hc m⟩
 have H0:Hid (∀ W,xS T b l p W->Calls Tryz.prog 129 #[(qP b),.int .i64 0] W fun e w'=>e=.returned (.int .u8 x0)/\∃m,w'=W.drewN m):=fun W hc=>by
  have:=xW T b l p 0 W hc (by omega) hl (by decide);rw[hx0]at this;exact this
 have H1:Hid (∀ W,xS T b l p W->Calls Tryz.prog 129 #[(qP b),.int .i64 1] W fun e w'=>e=.returned (.int .u8 x1)/\∃m,w'=W.drewN m):=fun W hc=>by
  have:=xW T b l p 1 W hc (by omega) hl (by decide);rw[hx1]at this;exact this
 have HL:=zY (vO x0);have HD0:=zY (xR x0);have HD1:=zY (xR x1);have HM:=zY (tA x0);rw[hlet]at HL
 have HZ:Hid (∀ W,xS T b l p W->Calls Tryz.prog 133 #[(qP b)] W (mZ T b l p (oT (l.drop p)) W)):=fun W hc=>ST T b l p W hc (by omega) hl
 generalize oT (l.drop p)=o at *;have hb:=h.lt;have HE:=zY hE
 have HC:Hid (∀ o,xS T b l p (w.alloc o)):=fun o=>h.alloc o
 clear h hE hx0 hx1
 go_enter Tryz.func82,Tryz.ntmps82
 go_wp2_with (go_at_call 131;(with_reducible refine (HN.out _ (HC.out _)).mono ?_);rintro e w1 ⟨rfl,hm1⟩;have C1:=zY hm1.cur;have G1:Hid (w.grownBy w1 (some b)):=Lib.grownBy_trans (xX w _ _) hm1.grown;have B1:Hid (rA w.heap.size w1):=(wA w _ _ _ _).grown hm1.grown (by omega);clear hm1)
 have C2:∀n,xS T b l p (w1.drewN n):=fun _=>C1.out
 go_quiet (first|(go_at_call 129;(with_reducible refine Calls.quiet_of (H0.out _ (C2 _))))|(go_at_call 129;(with_reducible refine Calls.quiet_of (H1.out _ (C2 _)))))
 have C3:Hid (xS T b l p (w1.drewN nq)):=C1.out;have G3:Hid (w.grownBy (w1.drewN nq) (some b)):=Lib.grownBy_trans G1.out (wH _ _ _);have B3:Hid (rA w.heap.size (w1.drewN nq)):=B1.out;have E3:Hid (sE (w1.drewN nq)):=HE.out.grown G3.out hb1;clear C1 C2 G1 B1;generalize w1.drewN nq=w2 at *
 go_wp2_with (first
  |(go_at_call 133;(with_reducible refine (HZ.out _ C3.out).mono ?_);rintro e w5 ⟨rfl,hg5,hc5⟩;have HG:=zY (Lib.grownBy_trans G3.out hg5);have HCC:=zY hc5;have BX:Hid (rA w.heap.size w5):=B3.out.grown hg5 (by omega);clear hg5 hc5;obtain ⟨y0,y1,y2,y3,c0,c1,c2,c3,f0,f1,f2,f3⟩:=BX.out.parts)
  |(go_at_call 136;(with_reducible refine (HM.out _).mono ?_);rintro e w' ⟨rfl,rfl⟩)
  |(go_at_call 134;(with_reducible refine (HD1.out _).mono ?_);rintro e w' ⟨rfl,rfl⟩)
  |(go_at_call 134;(with_reducible refine (HD0.out _).mono ?_);rintro e w' ⟨rfl,rfl⟩)
  |(go_at_call 132;(with_reducible refine (HL.out _).mono ?_);rintro e w' ⟨rfl,rfl⟩))
 exact bodyPost_ret (v:=.tuple #[xH o.tok,.int .i64 o.err]) (by simp[results,Tryz.results82,go_sem,c0,c1,c2,c3,xH]) rfl ⟨rfl,xK HG.out (Nat.le_refl _),fun h=>tN (HCC.out h) (by omega)⟩
theorem WG (T:TypeId) (b:Nat) (l:List UInt8) (p:Nat) (w:World) (h:xS T b l p w) (hb1:b≠2) (hp:p<l.length) (hl:l.length<=1048576) (hE:sE w) (x0 x1:Int) (hx0:xF (l.drop p) 0=x0) (hx1:xF (l.drop p) 1=x1) (hlet:rP x0=false) (hd0:xQ x0=true):
 Calls Tryz.prog 82 #[(qP b)] w (uP T b l p (vI (l.drop p)) w):=by
 have HN:Hid (∀ W,xS T b l p W->Calls Tryz.prog 131 #[(qP b)] W fun e w'=>e=.returned (.bool false)/\yC T b l p W w'):=fun W hc=>by
  have:=sY T b l p W hc;rw[decide_eq_false (by omega)]at this
  exact this.mono fun _ _ ⟨h1,m,h2⟩=>⟨h1,by rw[h2];exact yC.drew hc m⟩
 have H0:Hid (∀ W,xS T b l p W->Calls Tryz.prog 129 #[(qP b),.int .i64 0] W fun e w'=>e=.returned (.int .u8 x0)/\∃m,w'=W.drewN m):=fun W hc=>by
  have:=xW T b l p 0 W hc (by omega) hl (by decide);rw[hx0]at this;exact this
 have H1:Hid (∀ W,xS T b l p W->Calls Tryz.prog 129 #[(qP b),.int .i64 1] W fun e w'=>e=.returned (.int .u8 x1)/\∃m,w'=W.drewN m):=fun W hc=>by
  have:=xW T b l p 1 W hc (by omega) hl (by decide);rw[hx1]at this;exact this
 have HL:=zY (vO x0);have HD0:=zY (xR x0);have HD1:=zY (xR x1);have HM:=zY (tA x0);rw[hlet]at HL;rw[hd0]at HD0
 have HZ:Hid (∀ W,xS T b l p W->sE W->Calls Tryz.prog 135 #[(qP b)] W (mZ T b l p (vI (l.drop p)) W)):=fun W hc he=>cV T b l p W hc hb1 (by omega) hl he (Or.inl (by rw[hx0];exact hd0))
 generalize vI (l.drop p)=o at *;have hb:=h.lt;have HE:=zY hE
 have HC:Hid (∀ o,xS T b l p (w.alloc o)):=fun o=>h.alloc o
 clear h hE hx0 hx1
 go_enter Tryz.func82,Tryz.ntmps82
 go_wp2_with (go_at_call 131;(with_reducible refine (HN.out _ (HC.out _)).mono ?_);rintro e w1 ⟨rfl,hm1⟩;have C1:=zY hm1.cur;have G1:Hid (w.grownBy w1 (some b)):=Lib.grownBy_trans (xX w _ _) hm1.grown;have B1:Hid (rA w.heap.size w1):=(wA w _ _ _ _).grown hm1.grown (by omega);clear hm1)
 have C2:∀n,xS T b l p (w1.drewN n):=fun _=>C1.out
 go_quiet (first|(go_at_call 129;(with_reducible refine Calls.quiet_of (H0.out _ (C2 _))))|(go_at_call 129;(with_reducible refine Calls.quiet_of (H1.out _ (C2 _)))))
 have C3:Hid (xS T b l p (w1.drewN nq)):=C1.out;have G3:Hid (w.grownBy (w1.drewN nq) (some b)):=Lib.grownBy_trans G1.out (wH _ _ _);have B3:Hid (rA w.heap.size (w1.drewN nq)):=B1.out;have E3:Hid (sE (w1.drewN nq)):=HE.out.grown G3.out hb1;clear C1 C2 G1 B1;generalize w1.drewN nq=w2 at *
 go_wp2_with (first
  |(go_at_call 135;(with_reducible refine (HZ.out _ C3.out E3.out).mono ?_);rintro e w5 ⟨rfl,hg5,hc5⟩;have HG:=zY (Lib.grownBy_trans G3.out hg5);have HCC:=zY hc5;have BX:Hid (rA w.heap.size w5):=B3.out.grown hg5 (by omega);clear hg5 hc5;obtain ⟨y0,y1,y2,y3,c0,c1,c2,c3,f0,f1,f2,f3⟩:=BX.out.parts)
  |(go_at_call 136;(with_reducible refine (HM.out _).mono ?_);rintro e w' ⟨rfl,rfl⟩)
  |(go_at_call 134;(with_reducible refine (HD1.out _).mono ?_);rintro e w' ⟨rfl,rfl⟩)
  |(go_at_call 134;(with_reducible refine (HD0.out _).mono ?_);rintro e w' ⟨rfl,rfl⟩)
  |(go_at_call 132;(with_reducible refine (HL.out _).mono ?_);rintro e w' ⟨rfl,rfl⟩))
 exact bodyPost_ret (v:=.tuple #[xH o.tok,.int .i64 o.err]) (by simp[results,Tryz.results82,go_sem,c0,c1,c2,c3,xH]) rfl ⟨rfl,xK HG.out (Nat.le_refl _),fun h=>tN (HCC.out h) (by omega)⟩
theorem WF (T:TypeId) (b:Nat) (l:List UInt8) (p:Nat) (w:World) (h:xS T b l p w) (hb1:b≠2) (hp:p<l.length) (hl:l.length<=1048576) (hE:sE w) (x0 x1:Int) (hx0:xF (l.drop p) 0=x0) (hx1:xF (l.drop p) 1=x1) (hlet:rP x0=false) (hd0:xQ x0=false) (h45:x0=45) (hd1:xQ x1=true):
 Calls Tryz.prog 82 #[(qP b)] w (uP T b l p (vI (l.drop p)) w):=by
 have HN:Hid (∀ W,xS T b l p W->Calls Tryz.prog 131 #[(qP b)] W fun e w'=>e=.returned (.bool false)/\yC T b l p W w'):=fun W hc=>by
  have:=sY T b l p W hc;rw[decide_eq_false (by omega)]at this
  exact this.mono fun _ _ ⟨h1,m,h2⟩=>⟨h1,by rw[h2];exact yC.drew hc m⟩
 have H0:Hid (∀ W,xS T b l p W->Calls Tryz.prog 129 #[(qP b),.int .i64 0] W fun e w'=>e=.returned (.int .u8 x0)/\∃m,w'=W.drewN m):=fun W hc=>by
  have:=xW T b l p 0 W hc (by omega) hl (by decide);rw[hx0]at this;exact this
 have H1:Hid (∀ W,xS T b l p W->Calls Tryz.prog 129 #[(qP b),.int .i64 1] W fun e w'=>e=.returned (.int .u8 x1)/\∃m,w'=W.drewN m):=fun W hc=>by
  have:=xW T b l p 1 W hc (by omega) hl (by decide);rw[hx1]at this;exact this
 have HL:=zY (vO x0);have HD0:=zY (xR x0);have HD1:=zY (xR x1);have HM:=zY (tA x0);rw[hlet]at HL;rw[hd0]at HD0;rw[hd1]at HD1
 have HZ:Hid (∀ W,xS T b l p W->sE W->Calls Tryz.prog 135 #[(qP b)] W (mZ T b l p (vI (l.drop p)) W)):=fun W hc he=>cV T b l p W hc hb1 (by omega) hl he (Or.inr ⟨by rw[hx0];exact h45,by rw[hx1];exact hd1⟩)
 generalize vI (l.drop p)=o at *;have hb:=h.lt;have HE:=zY hE
 have HC:Hid (∀ o,xS T b l p (w.alloc o)):=fun o=>h.alloc o
 clear h hE hx0 hx1;subst h45
 go_enter Tryz.func82,Tryz.ntmps82
 go_wp2_with (go_at_call 131;(with_reducible refine (HN.out _ (HC.out _)).mono ?_);rintro e w1 ⟨rfl,hm1⟩;have C1:=zY hm1.cur;have G1:Hid (w.grownBy w1 (some b)):=Lib.grownBy_trans (xX w _ _) hm1.grown;have B1:Hid (rA w.heap.size w1):=(wA w _ _ _ _).grown hm1.grown (by omega);clear hm1)
 have C2:∀n,xS T b l p (w1.drewN n):=fun _=>C1.out
 go_quiet (first|(go_at_call 129;(with_reducible refine Calls.quiet_of (H0.out _ (C2 _))))|(go_at_call 129;(with_reducible refine Calls.quiet_of (H1.out _ (C2 _)))))
 have C3:Hid (xS T b l p (w1.drewN nq)):=C1.out;have G3:Hid (w.grownBy (w1.drewN nq) (some b)):=Lib.grownBy_trans G1.out (wH _ _ _);have B3:Hid (rA w.heap.size (w1.drewN nq)):=B1.out;have E3:Hid (sE (w1.drewN nq)):=HE.out.grown G3.out hb1;clear C1 C2 G1 B1;generalize w1.drewN nq=w2 at *
 go_wp2_with (first
  |(go_at_call 135;(with_reducible refine (HZ.out _ C3.out E3.out).mono ?_);rintro e w5 ⟨rfl,hg5,hc5⟩;have HG:=zY (Lib.grownBy_trans G3.out hg5);have HCC:=zY hc5;have BX:Hid (rA w.heap.size w5):=B3.out.grown hg5 (by omega);clear hg5 hc5;obtain ⟨y0,y1,y2,y3,c0,c1,c2,c3,f0,f1,f2,f3⟩:=BX.out.parts)
  |(go_at_call 136;(with_reducible refine (HM.out _).mono ?_);rintro e w' ⟨rfl,rfl⟩)
  |(go_at_call 134;(with_reducible refine (HD1.out _).mono ?_);rintro e w' ⟨rfl,rfl⟩)
  |(go_at_call 134;(with_reducible refine (HD0.out _).mono ?_);rintro e w' ⟨rfl,rfl⟩)
  |(go_at_call 132;(with_reducible refine (HL.out _).mono ?_);rintro e w' ⟨rfl,rfl⟩))
 exact bodyPost_ret (v:=.tuple #[xH o.tok,.int .i64 o.err]) (by simp[results,Tryz.results82,go_sem,c0,c1,c2,c3,xH]) rfl ⟨rfl,xK HG.out (Nat.le_refl _),fun h=>tN (HCC.out h) (by omega)⟩
theorem SS (T:TypeId) (b:Nat) (l:List UInt8) (p:Nat) (w:World) (h:xS T b l p w) (hb1:b≠2) (hp:p<l.length) (hl:l.length<=1048576) (hE:sE w) (x0 x1:Int) (hx0:xF (l.drop p) 0=x0) (hx1:xF (l.drop p) 1=x1) (hlet:rP x0=false) (hd0:xQ x0=false) (h45:x0≠45) (hmk:pH x0=true):
 Calls Tryz.prog 82 #[(qP b)] w (uP T b l p (oS (l.drop p) 1) w):=by
 have HN:Hid (∀ W,xS T b l p W->Calls Tryz.prog 131 #[(qP b)] W fun e w'=>e=.returned (.bool false)/\yC T b l p W w'):=fun W hc=>by
  have:=sY T b l p W hc;rw[decide_eq_false (by omega)]at this
  exact this.mono fun _ _ ⟨h1,m,h2⟩=>⟨h1,by rw[h2];exact yC.drew hc m⟩
 have H0:Hid (∀ W,xS T b l p W->Calls Tryz.prog 129 #[(qP b),.int .i64 0] W fun e w'=>e=.returned (.int .u8 x0)/\∃m,w'=W.drewN m):=fun W hc=>by
  have:=xW T b l p 0 W hc (by omega) hl (by decide);rw[hx0]at this;exact this
 have H1:Hid (∀ W,xS T b l p W->Calls Tryz.prog 129 #[(qP b),.int .i64 1] W fun e w'=>e=.returned (.int .u8 x1)/\∃m,w'=W.drewN m):=fun W hc=>by
  have:=xW T b l p 1 W hc (by omega) hl (by decide);rw[hx1]at this;exact this
 have HL:=zY (vO x0);have HD0:=zY (xR x0);have HD1:=zY (xR x1);have HM:=zY (tA x0);rw[hlet]at HL;rw[hd0]at HD0;rw[hmk]at HM;have h45':decide (x0=45)=false:=decide_eq_false h45
 have HZ:Hid (∀ W,xS T b l p W->Calls Tryz.prog 137 #[(qP b),.int .i64 1] W (mZ T b l p (oS (l.drop p) 1) W)):=fun W hc=>WH T b l p 1 W hc (by omega) hl
 generalize oS (l.drop p) 1=o at *;have hb:=h.lt;have HE:=zY hE
 have HC:Hid (∀ o,xS T b l p (w.alloc o)):=fun o=>h.alloc o
 clear h hE hx0 hx1
 go_enter Tryz.func82,Tryz.ntmps82
 go_wp2_with (go_at_call 131;(with_reducible refine (HN.out _ (HC.out _)).mono ?_);rintro e w1 ⟨rfl,hm1⟩;have C1:=zY hm1.cur;have G1:Hid (w.grownBy w1 (some b)):=Lib.grownBy_trans (xX w _ _) hm1.grown;have B1:Hid (rA w.heap.size w1):=(wA w _ _ _ _).grown hm1.grown (by omega);clear hm1)
 have C2:∀n,xS T b l p (w1.drewN n):=fun _=>C1.out
 go_quiet (first|(go_at_call 129;(with_reducible refine Calls.quiet_of (H0.out _ (C2 _))))|(go_at_call 129;(with_reducible refine Calls.quiet_of (H1.out _ (C2 _)))))
 have C3:Hid (xS T b l p (w1.drewN nq)):=C1.out;have G3:Hid (w.grownBy (w1.drewN nq) (some b)):=Lib.grownBy_trans G1.out (wH _ _ _);have B3:Hid (rA w.heap.size (w1.drewN nq)):=B1.out;have E3:Hid (sE (w1.drewN nq)):=HE.out.grown G3.out hb1;clear C1 C2 G1 B1;generalize w1.drewN nq=w2 at *
 go_wp2_with (first
  |(go_at_call 137;(with_reducible refine (HZ.out _ C3.out).mono ?_);rintro e w5 ⟨rfl,hg5,hc5⟩;have HG:=zY (Lib.grownBy_trans G3.out hg5);have HCC:=zY hc5;have BX:Hid (rA w.heap.size w5):=B3.out.grown hg5 (by omega);clear hg5 hc5;obtain ⟨y0,y1,y2,y3,c0,c1,c2,c3,f0,f1,f2,f3⟩:=BX.out.parts)
  |(go_at_call 136;(with_reducible refine (HM.out _).mono ?_);rintro e w' ⟨rfl,rfl⟩)
  |(go_at_call 134;(with_reducible refine (HD1.out _).mono ?_);rintro e w' ⟨rfl,rfl⟩)
  |(go_at_call 134;(with_reducible refine (HD0.out _).mono ?_);rintro e w' ⟨rfl,rfl⟩)
  |(go_at_call 132;(with_reducible refine (HL.out _).mono ?_);rintro e w' ⟨rfl,rfl⟩))
 exact bodyPost_ret (v:=.tuple #[xH o.tok,.int .i64 o.err]) (by simp[results,Tryz.results82,go_sem,c0,c1,c2,c3,xH]) rfl ⟨rfl,xK HG.out (Nat.le_refl _),fun h=>tN (HCC.out h) (by omega)⟩
theorem WE (T:TypeId) (b:Nat) (l:List UInt8) (p:Nat) (w:World) (h:xS T b l p w) (hb1:b≠2) (_hp:p<l.length) (hl:l.length<=1048576) (hE:sE w) (x0 x1:Int) (hx0:xF (l.drop p) 0=x0) (hx1:xF (l.drop p) 1=x1) (hlet:rP x0=false) (hd0:xQ x0=false) (h45:x0=45) (hd1:xQ x1=false) (h62:x1=62) (hp2:p+2<=l.length):
 Calls Tryz.prog 82 #[(qP b)] w (uP T b l p (oS (l.drop p) 2) w):=by
 have HN:Hid (∀ W,xS T b l p W->Calls Tryz.prog 131 #[(qP b)] W fun e w'=>e=.returned (.bool false)/\yC T b l p W w'):=fun W hc=>by
  have:=sY T b l p W hc;rw[decide_eq_false (by omega)]at this
  exact this.mono fun _ _ ⟨h1,m,h2⟩=>⟨h1,by rw[h2];exact yC.drew hc m⟩
 have H0:Hid (∀ W,xS T b l p W->Calls Tryz.prog 129 #[(qP b),.int .i64 0] W fun e w'=>e=.returned (.int .u8 x0)/\∃m,w'=W.drewN m):=fun W hc=>by
  have:=xW T b l p 0 W hc (by omega) hl (by decide);rw[hx0]at this;exact this
 have H1:Hid (∀ W,xS T b l p W->Calls Tryz.prog 129 #[(qP b),.int .i64 1] W fun e w'=>e=.returned (.int .u8 x1)/\∃m,w'=W.drewN m):=fun W hc=>by
  have:=xW T b l p 1 W hc (by omega) hl (by decide);rw[hx1]at this;exact this
 have HL:=zY (vO x0);have HD0:=zY (xR x0);have HD1:=zY (xR x1);have HM:=zY (tA x0);rw[hlet]at HL;rw[hd0]at HD0;rw[hd1]at HD1
 have hmk:pH x0=false:=by rw[h45];rfl
 rw[hmk]at HM
 have HZ:Hid (∀ W,xS T b l p W->Calls Tryz.prog 137 #[(qP b),.int .i64 2] W (mZ T b l p (oS (l.drop p) 2) W)):=fun W hc=>WH T b l p 2 W hc hp2 hl
 generalize oS (l.drop p) 2=o at *;have hb:=h.lt;have HE:=zY hE
 have HC:Hid (∀ o,xS T b l p (w.alloc o)):=fun o=>h.alloc o
 clear h hE hx0 hx1;subst h45;subst h62
 go_enter Tryz.func82,Tryz.ntmps82
 go_wp2_with (go_at_call 131;(with_reducible refine (HN.out _ (HC.out _)).mono ?_);rintro e w1 ⟨rfl,hm1⟩;have C1:=zY hm1.cur;have G1:Hid (w.grownBy w1 (some b)):=Lib.grownBy_trans (xX w _ _) hm1.grown;have B1:Hid (rA w.heap.size w1):=(wA w _ _ _ _).grown hm1.grown (by omega);clear hm1)
 have C2:∀n,xS T b l p (w1.drewN n):=fun _=>C1.out
 go_quiet (first|(go_at_call 129;(with_reducible refine Calls.quiet_of (H0.out _ (C2 _))))|(go_at_call 129;(with_reducible refine Calls.quiet_of (H1.out _ (C2 _)))))
 have C3:Hid (xS T b l p (w1.drewN nq)):=C1.out;have G3:Hid (w.grownBy (w1.drewN nq) (some b)):=Lib.grownBy_trans G1.out (wH _ _ _);have B3:Hid (rA w.heap.size (w1.drewN nq)):=B1.out;have E3:Hid (sE (w1.drewN nq)):=HE.out.grown G3.out hb1;clear C1 C2 G1 B1;generalize w1.drewN nq=w2 at *
 go_wp2_with (first
  |(go_at_call 137;(with_reducible refine (HZ.out _ C3.out).mono ?_);rintro e w5 ⟨rfl,hg5,hc5⟩;have HG:=zY (Lib.grownBy_trans G3.out hg5);have HCC:=zY hc5;have BX:Hid (rA w.heap.size w5):=B3.out.grown hg5 (by omega);clear hg5 hc5;obtain ⟨y0,y1,y2,y3,c0,c1,c2,c3,f0,f1,f2,f3⟩:=BX.out.parts)
  |(go_at_call 136;(with_reducible refine (HM.out _).mono ?_);rintro e w' ⟨rfl,rfl⟩)
  |(go_at_call 134;(with_reducible refine (HD1.out _).mono ?_);rintro e w' ⟨rfl,rfl⟩)
  |(go_at_call 134;(with_reducible refine (HD0.out _).mono ?_);rintro e w' ⟨rfl,rfl⟩)
  |(go_at_call 132;(with_reducible refine (HL.out _).mono ?_);rintro e w' ⟨rfl,rfl⟩))
 exact bodyPost_ret (v:=.tuple #[xH o.tok,.int .i64 o.err]) (by simp[results,Tryz.results82,go_sem,c0,c1,c2,c3,xH]) rfl ⟨rfl,xK HG.out (Nat.le_refl _),fun h=>tN (HCC.out h) (by omega)⟩
theorem XY (T:TypeId) (b:Nat) (l:List UInt8) (p:Nat) (w:World) (h:xS T b l p w) (hb1:b≠2) (hp:p<l.length) (hl:l.length<=1048576) (hE:sE w) (x0 x1:Int) (hx0:xF (l.drop p) 0=x0) (hx1:xF (l.drop p) 1=x1) (hlet:rP x0=false) (hd0:xQ x0=false) (h45:x0≠45) (hmk:pH x0=false):
 Calls Tryz.prog 82 #[(qP b)] w (uP T b l p ⟨wM,40,0⟩ w):=by
 have HN:Hid (∀ W,xS T b l p W->Calls Tryz.prog 131 #[(qP b)] W fun e w'=>e=.returned (.bool false)/\yC T b l p W w'):=fun W hc=>by
  have:=sY T b l p W hc;rw[decide_eq_false (by omega)]at this
  exact this.mono fun _ _ ⟨h1,m,h2⟩=>⟨h1,by rw[h2];exact yC.drew hc m⟩
 have H0:Hid (∀ W,xS T b l p W->Calls Tryz.prog 129 #[(qP b),.int .i64 0] W fun e w'=>e=.returned (.int .u8 x0)/\∃m,w'=W.drewN m):=fun W hc=>by
  have:=xW T b l p 0 W hc (by omega) hl (by decide);rw[hx0]at this;exact this
 have H1:Hid (∀ W,xS T b l p W->Calls Tryz.prog 129 #[(qP b),.int .i64 1] W fun e w'=>e=.returned (.int .u8 x1)/\∃m,w'=W.drewN m):=fun W hc=>by
  have:=xW T b l p 1 W hc (by omega) hl (by decide);rw[hx1]at this;exact this
 have HL:=zY (vO x0);have HD0:=zY (xR x0);have HD1:=zY (xR x1);have HM:=zY (tA x0);rw[hlet]at HL;rw[hd0]at HD0;rw[hmk]at HM;have h45':decide (x0=45)=false:=decide_eq_false h45;have hb:=h.lt;have HE:=zY hE
 have HC:Hid (∀ o,xS T b l p (w.alloc o)):=fun o=>h.alloc o
 clear h hE hx0 hx1
 go_enter Tryz.func82,Tryz.ntmps82
 go_wp2_with (go_at_call 131;(with_reducible refine (HN.out _ (HC.out _)).mono ?_);rintro e w1 ⟨rfl,hm1⟩;have C1:=zY hm1.cur;have G1:Hid (w.grownBy w1 (some b)):=Lib.grownBy_trans (xX w _ _) hm1.grown;have B1:Hid (rA w.heap.size w1):=(wA w _ _ _ _).grown hm1.grown (by omega);clear hm1)
 have C2:∀n,xS T b l p (w1.drewN n):=fun _=>C1.out
 go_quiet (first|(go_at_call 129;(with_reducible refine Calls.quiet_of (H0.out _ (C2 _))))|(go_at_call 129;(with_reducible refine Calls.quiet_of (H1.out _ (C2 _)))))
 have C3:Hid (xS T b l p (w1.drewN nq)):=C1.out;have G3:Hid (w.grownBy (w1.drewN nq) (some b)):=Lib.grownBy_trans G1.out (wH _ _ _);have B3:Hid (rA w.heap.size (w1.drewN nq)):=B1.out;have E3:Hid (sE (w1.drewN nq)):=HE.out.grown G3.out hb1;clear C1 C2 G1 B1;generalize w1.drewN nq=w2 at *;have BX:=B3;obtain ⟨y0,y1,y2,y3,c0,c1,c2,c3,f0,f1,f2,f3⟩:=BX.out.parts
 go_wp2_with (first
  |(go_at_call 136;(with_reducible refine (HM.out _).mono ?_);rintro e w' ⟨rfl,rfl⟩)
  |(go_at_call 134;(with_reducible refine (HD1.out _).mono ?_);rintro e w' ⟨rfl,rfl⟩)
  |(go_at_call 134;(with_reducible refine (HD0.out _).mono ?_);rintro e w' ⟨rfl,rfl⟩)
  |(go_at_call 132;(with_reducible refine (HL.out _).mono ?_);rintro e w' ⟨rfl,rfl⟩))
 exact bodyPost_ret (v:=.tuple #[xH wM,.int .i64 40]) (by simp[results,Tryz.results82,go_sem,c0,c1,c2,c3,xH,wM,zW]) rfl ⟨rfl,xK G3.out (Nat.le_refl _),fun h=>by cases h⟩
theorem XX (T:TypeId) (b:Nat) (l:List UInt8) (p:Nat) (w:World) (h:xS T b l p w) (hb1:b≠2) (hp:p<l.length) (hl:l.length<=1048576) (hE:sE w) (x0 x1:Int) (hx0:xF (l.drop p) 0=x0) (hx1:xF (l.drop p) 1=x1) (hlet:rP x0=false) (hd0:xQ x0=false) (h45:x0=45) (hd1:xQ x1=false) (h62:x1≠62):
 Calls Tryz.prog 82 #[(qP b)] w (uP T b l p ⟨wM,40,0⟩ w):=by
 have HN:Hid (∀ W,xS T b l p W->Calls Tryz.prog 131 #[(qP b)] W fun e w'=>e=.returned (.bool false)/\yC T b l p W w'):=fun W hc=>by
  have:=sY T b l p W hc;rw[decide_eq_false (by omega)]at this
  exact this.mono fun _ _ ⟨h1,m,h2⟩=>⟨h1,by rw[h2];exact yC.drew hc m⟩
 have H0:Hid (∀ W,xS T b l p W->Calls Tryz.prog 129 #[(qP b),.int .i64 0] W fun e w'=>e=.returned (.int .u8 x0)/\∃m,w'=W.drewN m):=fun W hc=>by
  have:=xW T b l p 0 W hc (by omega) hl (by decide);rw[hx0]at this;exact this
 have H1:Hid (∀ W,xS T b l p W->Calls Tryz.prog 129 #[(qP b),.int .i64 1] W fun e w'=>e=.returned (.int .u8 x1)/\∃m,w'=W.drewN m):=fun W hc=>by
  have:=xW T b l p 1 W hc (by omega) hl (by decide);rw[hx1]at this;exact this
 have HL:=zY (vO x0);have HD0:=zY (xR x0);have HD1:=zY (xR x1);have HM:=zY (tA x0);rw[hlet]at HL;rw[hd0]at HD0;rw[hd1]at HD1
 have hmk:pH x0=false:=by rw[h45];rfl
 rw[hmk]at HM;have h62':decide (x1=62)=false:=decide_eq_false h62;have hb:=h.lt;have HE:=zY hE
 have HC:Hid (∀ o,xS T b l p (w.alloc o)):=fun o=>h.alloc o
 clear h hE hx0 hx1;subst h45
 go_enter Tryz.func82,Tryz.ntmps82
 go_wp2_with (go_at_call 131;(with_reducible refine (HN.out _ (HC.out _)).mono ?_);rintro e w1 ⟨rfl,hm1⟩;have C1:=zY hm1.cur;have G1:Hid (w.grownBy w1 (some b)):=Lib.grownBy_trans (xX w _ _) hm1.grown;have B1:Hid (rA w.heap.size w1):=(wA w _ _ _ _).grown hm1.grown (by omega);clear hm1)
 have C2:∀n,xS T b l p (w1.drewN n):=fun _=>C1.out
 go_quiet (first|(go_at_call 129;(with_reducible refine Calls.quiet_of (H0.out _ (C2 _))))|(go_at_call 129;(with_reducible refine Calls.quiet_of (H1.out _ (C2 _)))))
 have C3:Hid (xS T b l p (w1.drewN nq)):=C1.out;have G3:Hid (w.grownBy (w1.drewN nq) (some b)):=Lib.grownBy_trans G1.out (wH _ _ _);have B3:Hid (rA w.heap.size (w1.drewN nq)):=B1.out;have E3:Hid (sE (w1.drewN nq)):=HE.out.grown G3.out hb1;clear C1 C2 G1 B1;generalize w1.drewN nq=w2 at *;have BX:=B3;obtain ⟨y0,y1,y2,y3,c0,c1,c2,c3,f0,f1,f2,f3⟩:=BX.out.parts
 go_wp2_with (first
  |(go_at_call 136;(with_reducible refine (HM.out _).mono ?_);rintro e w' ⟨rfl,rfl⟩)
  |(go_at_call 134;(with_reducible refine (HD1.out _).mono ?_);rintro e w' ⟨rfl,rfl⟩)
  |(go_at_call 134;(with_reducible refine (HD0.out _).mono ?_);rintro e w' ⟨rfl,rfl⟩)
  |(go_at_call 132;(with_reducible refine (HL.out _).mono ?_);rintro e w' ⟨rfl,rfl⟩))
 exact bodyPost_ret (v:=.tuple #[xH wM,.int .i64 40]) (by simp[results,Tryz.results82,go_sem,c0,c1,c2,c3,xH,wM,zW]) rfl ⟨rfl,xK G3.out (Nat.le_refl _),fun h=>by cases h⟩
theorem OK (T:TypeId) (b:Nat) (l:List UInt8) (w:World) (h:xS T b l l.length w):
 Calls Tryz.prog 82 #[(qP b)] w (uP T b l l.length ⟨wM,0,0⟩ w):=by
 have HN:Hid (∀ W,xS T b l l.length W->Calls Tryz.prog 131 #[(qP b)] W fun e w'=>e=.returned (.bool true)/\yC T b l l.length W w'):=fun W hc=>by
  have:=sY T b l l.length W hc;rw[decide_eq_true rfl]at this
  exact this.mono fun _ _ ⟨h1,m,h2⟩=>⟨h1,by rw[h2];exact yC.drew hc m⟩
 have hb:=h.lt
 have HC:Hid (∀ o,xS T b l l.length (w.alloc o)):=fun o=>h.alloc o
 clear h
 go_enter Tryz.func82,Tryz.ntmps82
 go_wp2_with (go_at_call 131;(with_reducible refine (HN.out _ (HC.out _)).mono ?_);rintro e w1 ⟨rfl,hm1⟩;have C1:=zY hm1.cur;have G1:Hid (w.grownBy w1 (some b)):=Lib.grownBy_trans (xX w _ _) hm1.grown;obtain ⟨y0,y1,y2,y3,c0,c1,c2,c3,f0,f1,f2,f3⟩:=((wA w _ _ _ _).grown hm1.grown (by omega)).parts;clear hm1)
 exact bodyPost_ret (v:=.tuple #[xH wM,.int .i64 0]) (by simp[results,Tryz.results82,go_sem,c0,c1,c2,c3,xH,wM,zW]) rfl ⟨rfl,xK G1.out (Nat.le_refl _),fun _=>tN C1.out (by omega)⟩
theorem ZR (T:TypeId) (b:Nat) (l:List UInt8) (p:Nat) (w:World) (h:xS T b l p w) (hb1:b≠2) (hp:p<l.length) (hl:l.length<=1048576) (hE:sE w):
 Calls Tryz.prog 82 #[(qP b)] w (uP T b l p (yL (l.drop p)) w):=by
 by_cases h1:rP (xF (l.drop p) 0)=true
 ·have e:yL (l.drop p)=oT (l.drop p):=by unfold yL;rw[if_pos h1]
  rw[e];exact XZ T b l p w h hb1 hp hl hE _ _ rfl rfl h1
 have h1':rP (xF (l.drop p) 0)=false:=by simpa using h1
 by_cases h2:xQ (xF (l.drop p) 0)=true
 ·have e:yL (l.drop p)=vI (l.drop p):=by unfold yL;rw[if_neg h1,if_pos (by rw[h2];rfl)]
  rw[e];exact WG T b l p w h hb1 hp hl hE _ _ rfl rfl h1' h2
 have h2':xQ (xF (l.drop p) 0)=false:=by simpa using h2
 by_cases h3:xF (l.drop p) 0=45
 ·by_cases h4:xQ (xF (l.drop p) 1)=true
  ·have e:yL (l.drop p)=vI (l.drop p):=by unfold yL;rw[if_neg h1,if_pos (by rw[h2',h4,decide_eq_true h3];rfl)]
   rw[e];exact WF T b l p w h hb1 hp hl hE _ _ rfl rfl h1' h2' h3 h4
  have h4':xQ (xF (l.drop p) 1)=false:=by simpa using h4
  have hm:pH (xF (l.drop p) 0)=false:=by rw[h3];rfl
  by_cases h5:xF (l.drop p) 1=62
  ·have e:yL (l.drop p)=oS (l.drop p) 2:=by unfold yL;rw[if_neg h1,if_neg (by rw[h2',h4',Bool.and_false];decide),if_neg (by rw[hm];decide),if_pos (by rw[decide_eq_true h3,decide_eq_true h5];rfl)]
   rw[e];refine WE T b l p w h hb1 hp hl hE _ _ rfl rfl h1' h2' h3 h4' h5 ?_
   rcases Nat.lt_or_ge (p+1) l.length with h|h
   ·omega
   rw[oU (by rw[List.length_drop];omega)]at h5;cases h5
  have e:yL (l.drop p)=⟨wM,40,0⟩:=by unfold yL;rw[if_neg h1,if_neg (by rw[h2',h4',Bool.and_false];decide),if_neg (by rw[hm];decide),if_neg (by rw[decide_eq_false h5,Bool.and_false];decide)]
  rw[e];exact XX T b l p w h hb1 hp hl hE _ _ rfl rfl h1' h2' h3 h4' h5
 by_cases h6:pH (xF (l.drop p) 0)=true
 ·have e:yL (l.drop p)=oS (l.drop p) 1:=by unfold yL;rw[if_neg h1,if_neg (by rw[h2',decide_eq_false h3,Bool.false_and];decide),if_pos h6]
  rw[e];exact SS T b l p w h hb1 hp hl hE _ _ rfl rfl h1' h2' h3 h6
 have h6':pH (xF (l.drop p) 0)=false:=by simpa using h6
 have e:yL (l.drop p)=⟨wM,40,0⟩:=by unfold yL;rw[if_neg h1,if_neg (by rw[h2',decide_eq_false h3,Bool.false_and];decide),if_neg h6,if_neg (by rw[decide_eq_false h3,Bool.false_and];decide)]
 rw[e];exact XY T b l p w h hb1 hp hl hE _ _ rfl rfl h1' h2' h3 h6'
theorem Tryz.infoTK:(Tryz.prog.info? 96).map (fun i=>(i.zero,i.size,i.bytes))=some (some (.agg #[.int .u8 0,qE,.int .i64 0,.int .i64 0]),4,40):=by kernel_rfl
def jZ (t:yJ):List Value:=[.int .u8 t.sort,.string (zW t.text),.int .i64 t.num,.int .i64 t.place]
def sO (base:Nat) (w:World) (v:Value) (ts:List yJ):Prop:=w.ownsRow base 96 4 v ts.length (ts.flatMap jZ)
theorem sO.ne {base w v ts} (h:sO base w v ts) {k:Nat} (hk:k<base):v.ownBlock≠some k:=by
 rcases h.2 with ⟨rfl,-⟩|⟨g,c,cur,rfl,hg,-⟩
 ·intro e;cases e
 intro e;cases e;exact absurd hk (by simpa using hg)
theorem sO.lt {base w v ts} (h:sO base w v ts) {k:Nat} (hk:w.heap.size<=k):v.ownBlock≠some k:=by
 rcases h.2 with ⟨rfl,-⟩|⟨g,c,cur,rfl,hg,hh,-⟩
 ·intro e;cases e
 intro e;cases e;have:=(Array.getElem?_eq_some_iff.1 hh).1;simp at hk;omega
theorem sO.grown {base w w' v ts b} (h:sO base w v ts) (hg:w.grownBy w' (some b)) (hb:b<base):sO base w' v ts:=World.ownsRow.kept h hg (Or.inr (h.ne hb))
theorem sO.below {base w w' v ts} (h:sO base w v ts) (hb:Below w.heap.size w w'):sO base w' v ts:=by
 refine ⟨h.1,?_⟩
 rcases h.2 with h2|⟨g,cap,cur,hv,hg,hh,r⟩
 ·exact .inl h2
 refine .inr ⟨g,cap,cur,hv,hg,?_,r⟩
 rw[hb.block g (Array.getElem?_eq_some_iff.1 hh).1];exact hh
theorem sO.mono {base base' w v ts} (h:sO base w v ts) (hb:base'<=base):sO base' w v ts:=by
 refine ⟨h.1,?_⟩
 rcases h.2 with h2|⟨g,cap,cur,hv,hg,r⟩
 ·exact .inl h2
 exact .inr ⟨g,cap,cur,hv,Nat.le_trans hb hg,r⟩
structure sC (w : World) (l : List UInt8) (p : Nat) (v : Value) (ts : List yJ) (wr : World) : Prop where
 cur:xS 148 (w.heap.size+1) l p wr
 owns:sO (w.heap.size+2) wr v ts
 fault:wr.heap[w.heap.size]? =some (.cells #[.int .i64 0,.int .i64 0] 33 (0,0))
 bel:Below w.heap.size w wr
 env:sE wr
theorem lN {B:Nat} {a w w':World} {k:Nat} (h:Below B a w) (hg:w.grownBy w' (some k)) (hk:B<=k) (hB:B<=w.heap.size):Below B a w':=
 h.trans ⟨hg.os,hg.tape,hg.output,hg.size,fun i hi=>hg.block i (by omega) (fun e=>by have:=Option.some.inj e;omega)⟩
theorem cU {B:Nat} {a w w':World} {row:Option Nat} (h:Below B a w) (hg:w.grownBy w' row) (hk:∀k,row=some k->B<=k) (hB:B<=w.heap.size):Below B a w':=
 h.trans ⟨hg.os,hg.tape,hg.output,hg.size,fun i hi=>hg.block i (by omega) (fun e=>by have:=hk i e.symm;omega)⟩
theorem sC.grown {w l p v ts wr w' q} (h:sC w l p v ts wr) (hE:sE w) (hg:wr.grownBy w' (some (w.heap.size+1))) (hc:xS 148 (w.heap.size+1) l q w'):sC w l q v ts w' where
 cur:=hc
 owns:=h.owns.grown hg (by omega)
 fault:=(hg.block _ (Array.getElem?_eq_some_iff.1 h.fault).1 (fun e=>by have:=Option.some.inj e;omega)).trans h.fault
 bel:=lN h.bel hg (by omega) h.bel.size
 env:=h.env.grown hg (by have:=hE.lt;omega)
theorem sC.below {w l p v ts wr w'} (h:sC w l p v ts wr) (hb:Below wr.heap.size wr w'):sC w l p v ts w' where
 cur:=h.cur.below hb
 owns:=h.owns.below hb
 fault:=(hb.block _ (Array.getElem?_eq_some_iff.1 h.fault).1).trans h.fault
 bel:=h.bel.trans (hb.mono h.bel.size)
 env:=h.env.below hb
theorem sC.app {w l p v ts wr v' w' t} (h:sC w l p v ts wr) (hE:sE w) (ho:w'.ownsRow (w.heap.size+2) 96 4 v' (ts.length+1) (ts.flatMap jZ++jZ t)) (hg:wr.grownBy w' v.ownBlock):sC w l p v' (ts++[t]) w' where
 cur:=h.cur.kept (hg.block _ h.cur.lt (fun e=>h.owns.ne (k:=w.heap.size+1) (by omega) e.symm))
 owns:=by unfold sO;rw[List.flatMap_append,List.length_append];simpa [List.flatMap] using ho
 fault:=(hg.block _ (Array.getElem?_eq_some_iff.1 h.fault).1 (fun e=>h.owns.ne (k:=w.heap.size) (by omega) e.symm)).trans h.fault
 bel:=cU h.bel hg (fun k e=>by
  rcases Nat.lt_or_ge k (w.heap.size+2) with h1|h1
  ·exact absurd e (h.owns.ne h1)
  omega) h.bel.size
 env:=by
  obtain ⟨te,pe,hc⟩:=h.env;exact ⟨te,pe,hg.cell hc (fun e=>h.owns.ne (k:=2) (by have:=hE.lt;omega) e.symm)⟩
theorem WC (w:World) (o:Obj) (c0 c1 c2 c3:Value) (t:TypeId):∀j u,[c0,c1,c2,c3][j]? =some u->((w.alloc o).alloc (.cells #[c0,c1,c2,c3] t)).cell? ((⟨w.heap.size+1,0,none⟩:Addr).add j)=some u:=by
 intro j u hu
 match j,hu with
 |0,hu=>simp at hu;subst hu;simp[Addr.add]
 |1,hu=>simp at hu;subst hu;simp[Addr.add]
 |2,hu=>simp at hu;subst hu;simp[Addr.add]
 |3,hu=>simp at hu;subst hu;simp[Addr.add]
theorem QE (t:yJ):∀u ∈ jZ t,u.oneCell'=true:=by
 intro u hu;simp only[jZ,List.mem_cons,List.not_mem_nil,or_false]at hu
 rcases hu with rfl|rfl|rfl|rfl<;>rfl
theorem kO (w:World) (o1 o2:Obj):Below w.heap.size w ((w.alloc o1).alloc o2):=((Below.refl _ _).alloc (Nat.le_refl _) _).alloc (by simp) _
theorem gC {w:World} {n:Nat} {x y:Value} {T:TypeId} (h:w.heap[n]? =some (.cells #[x,y] T (0,0))):w.cell? ⟨n,0,none⟩=some x/\w.cell? ⟨n,1,none⟩=some y/\w.frozen? ⟨n,0,none⟩=false/\w.frozen? ⟨n,1,none⟩=false/\n<w.heap.size:=
 ⟨by simp[World.cell?,h],by simp[World.cell?,h],by simp[World.frozen?,h],by simp[World.frozen?,h],(Array.getElem?_eq_some_iff.1 h).1⟩
theorem pX {w1:World} {base base2:Nat} {ad:Addr} {v u:Value} {ts:List yJ} {w2:World} (h:sO base w1 v ts) (h2:sO base2 w2 v ts) (ha:ad.block<base2):sO base (w1.setCell ad u) v ts:=by
 refine ⟨h.1,?_⟩
 rcases h.2 with h3|⟨g,cap,cur,hv,hg,hh,r⟩
 ·exact .inl h3
 refine .inr ⟨g,cap,cur,hv,hg,?_,r⟩
 rw[Below.heap_setCell _ _ _ _ (fun e=>by subst e;subst hv;exact absurd rfl (h2.ne ha))];exact hh
theorem OJ {w:World} {n:Nat} {x y:Value} (a c:Value) (o:Obj) (h0:w.cell? ⟨n,0,none⟩=some x) (h1:w.cell? ⟨n,1,none⟩=some y):
 (((w.setCell ⟨n,0,none⟩ a).setCell ⟨n,1,none⟩ c).alloc o).cell? ⟨n,0,none⟩=some a/\(((w.setCell ⟨n,0,none⟩ a).setCell ⟨n,1,none⟩ c).alloc o).cell? ⟨n,1,none⟩=some c:=by
 have hn:n<((w.setCell ⟨n,0,none⟩ a).setCell ⟨n,1,none⟩ c).heap.size:=by simp;exact block_lt_of_cell h0
 have hb:=(Below.refl ((w.setCell ⟨n,0,none⟩ a).setCell ⟨n,1,none⟩ c).heap.size ((w.setCell ⟨n,0,none⟩ a).setCell ⟨n,1,none⟩ c)).alloc (Nat.le_refl _) o;refine ⟨(hb.cell (p:=⟨n,0,none⟩) hn).trans ?_,(hb.cell (p:=⟨n,1,none⟩) hn).trans ?_⟩
 ·rw [World.cell?_setCell_other _ _ _ _ (by simp)]
  exact World.cell?_setCell_same _ _ _ h0
 refine World.cell?_setCell_same (u:=y) _ _ _ ?_
 rw[World.cell?_setCell_other _ _ _ _ (by simp)];exact h1
def lM (w:World) (l:List UInt8) (e:Ending) (w':World):Prop:=
 ∃v,e=.returned (.tuple #[v,.agg #[.int .i64 (yE l).err,.int .i64 (yE l).place]])/\sO w.heap.size w' v (yE l).toks/\Below w.heap.size w w'
theorem KS (l:List UInt8) (w:World) (hl:1048576<l.length):Calls Tryz.prog 44 #[.string (zW l)] w (lM w l):=by
 have e1:=zB l
 have hg:yE l=⟨[],2,1048576⟩:=by unfold yE;rw[if_pos hl]
 have i1:(1048576:Int)<(l.length:Int):=by omega
 unfold lM;rw[hg]
 go_enter Tryz.func44,Tryz.ntmps44
 go_wp2
 exact bodyPost_ret (v:=.tuple #[qN,.agg #[.int .i64 2,.int .i64 1048576]]) (by simp[results,Tryz.results44,go_sem]) rfl ⟨_,rfl,World.ownsRow_nil _ _ _ _,(Below.refl _ _).alloc (Nat.le_refl _) _⟩
theorem OI (l:List UInt8) (w:World) (hE:sE w) (hl:l.length<=1048576):Calls Tryz.prog 44 #[.string (zW l)] w (lM w l):=by
 have e1:=zB l;have i1:decide ((1048576:Int)<(l.length:Int))=false:=decide_eq_false (by omega)
 have i2:¬((1048576:Int)<(l.length:Int)):=by omega
 have HG:Hid (yE l=vH 0 l):=by show yE l=_;unfold yE;rw[if_neg (by omega)]
 have HE:=zY hE
 have HS0:Hid (∀ x0 y0 x1 y1,x0=Value.int .i64 0->y0=Value.int .i64 0->x1=Value.string (zW l)->y1=Value.int .i64 0->sC w l 0 (qN) [] ((w.alloc (.cells #[x0,y0] 33)).alloc (.cells #[x1,y1] 148))):=by
  intro x0 y0 x1 y1 h1 h2 h3 h4;subst h1 h2 h3 h4;have hb:Below w.heap.size w ((w.alloc (.cells #[.int .i64 0,.int .i64 0] 33)).alloc (.cells #[.string (zW l),.int .i64 0] 148)):=((Below.refl _ _).alloc (Nat.le_refl _) _).alloc (by simp) _;refine ⟨?_,World.ownsRow_nil _ _ _ _,?_,hb,hE.below hb⟩
  ·show ((w.heap.push _).push _)[w.heap.size+1]? =_
   rw[Array.getElem?_push,if_pos (by simp)];rfl
  show ((w.heap.push _).push _)[w.heap.size]? =_;rw[Array.getElem?_push,if_neg (by simp),Array.getElem?_push,if_pos rfl]
 clear hE
 go_enter Tryz.func44,Tryz.ntmps44
 go_wp2
 have HS:=zY (HS0.out _ _ _ _ rfl rfl rfl rfl);clear HS0
 have HA0:Hid (vH 0 l=(vH 0 (l.drop 0)).app []):=by show _=_;rw[List.drop_zero,HY _ (fun h=>kR h)]
 go_loopg [5] (l.length+1) (fun gk v wr=>∃p ts,p<=l.length/\gk=l.length-p+1/\sC w l p v ts wr/\ts.length<=p/\vH 0 l=(vH p (l.drop p)).app ts)
 case atStart=>exact ⟨0,[],Nat.zero_le _,by omega,HS.out,Nat.le_refl _,HA0.out⟩
 case round=>
  clear HS HA0;obtain ⟨p,ts,hp,rfl,hst,hts,hall⟩:=hrel;have HST:=zY hst;have HALL:=zY hall;clear hst hall
  have HK:Hid (∀ W,xS 148 (w.heap.size+1) l p W->Calls Tryz.prog 81 #[(qP (w.heap.size+1))] W fun e w'=>e=.returned (.tuple #[])/\yC 148 (w.heap.size+1) l (p+zK false (l.drop p)) W w'):=fun W hc=>KT _ _ l p W hc hp hl
  have hk:=rN false (l.drop p);rw[List.length_drop]at hk;obtain ⟨p1,hp1⟩:∃p1,p+zK false (l.drop p)=p1:=⟨_,rfl⟩;rw[hp1]at HK;have HP1:=zY hp1
  have hp1':p1<=l.length:=by omega
  have hpp:p<=p1:=by omega
  clear hp1 hk
  have hb1:w.heap.size+1≠2:=by have:=HE.out.lt;omega
  by_cases hend:p1=l.length
  ·subst hend
   have HZ2:Hid (∀ W,xS 148 (w.heap.size+1) l l.length W->Calls Tryz.prog 82 #[(qP (w.heap.size+1))] W fun e w'=>e=.returned (.tuple #[.agg #[.int .u8 0,.string (zW []),.int .i64 0,.int .i64 0],.int .i64 0])/\W.grownBy w' (some (w.heap.size+1))/\xS 148 (w.heap.size+1) l l.length w'):=fun W hc=>(OK _ _ l W hc).mono fun _ _ h=>⟨h.1,h.2.1,h.2.2 rfl⟩
   have HALL2:Hid (yE l=⟨ts++[⟨0,[],0,(l.length:Int)⟩],0,0⟩):=by
    show _=_
    have e2:(l.drop p).drop (zK false (l.drop p))=[]:=by rw[List.drop_drop,HP1.out,List.drop_length]
    have h3:=sM (p:=p) e2;rw[HP1.out]at h3;rw[HG.out,HALL.out,h3];rfl
   obtain ⟨i0,hi,hz0,hz1,hz2⟩:=info_parts Tryz.infoTK;have HI:=zY hi;have HI0:=zY hz0;have HI1:=zY hz1;have HI2:=zY hz2;clear hi hz0 hz1 hz2
   go_wp2_with (first
    |(at_builtin;refine wpList_append_own _ rfl _ _ 87 rfl (w.heap.size+2) 96 i0 (.agg #[.int .u8 0,qE,.int .i64 0,.int .i64 0]) 4 40 Tryz.underlying87 HI.out HI0.out HI1.out HI2.out rfl (by decide) _ ts.length (ts.flatMap jZ) rfl (S5.out.below (kO w5 _ _)).owns ⟨w5.heap.size+1,0,none⟩ 1 1 (jZ ⟨0,[],0,(l.length:Int)⟩) rfl rfl (WC w5 _ _ _ _ _ _) (QE _) (by unfold maxLen;omega) (by omega) (by have h1:=S5.out.bel.size;have h2:=S5.out.cur.lt;simp;omega) ?_;intro v' w8 hown hgrow _;have S8:Hid (sC w l l.length v' (ts++[⟨0,[],0,(l.length:Int)⟩]) w8):=(S5.out.below (kO w5 _ _)).app HE.out hown hgrow;have cb:w8.cell? ⟨w5.heap.size,0,none⟩=some (.int .u8 0):=hgrow.cell (by simp) (fun e=>S5.out.owns.lt (Nat.le_refl _) e.symm);obtain ⟨k0,k1,g0,g1,k2⟩:=gC S8.out.fault;clear hown hgrow)
    |(go_at_call 82;(with_reducible refine (HZ2.out _ S1.out.cur).mono ?_);rintro e w5 ⟨rfl,hg5,hc5⟩;have S5:Hid (sC w l l.length u5 ts w5):=S1.out.grown HE.out hg5 hc5;clear hg5 hc5)
    |(go_at_call 81;(with_reducible refine (HK.out _ HST.out.cur).mono ?_);rintro e w1 ⟨rfl,hm1⟩;have S1:Hid (sC w l l.length u5 ts w1):=HST.out.grown HE.out hm1.grown hm1.cur;have c1:=hm1.cur.c1;clear hm1))
   exact bodyPost_ret (v:=.tuple #[v',.agg #[.int .i64 0,.int .i64 0]]) (by simp[results,Tryz.results44,go_sem,k0,k1]) rfl (by
    refine ⟨v',by rw[HALL2.out],?_,(S8.out.bel.setCell (p:=⟨w.heap.size,0,none⟩) (Nat.le_refl _) _).setCell (p:=⟨w.heap.size,1,none⟩) (Nat.le_refl _) _⟩
    rw[HALL2.out]
    exact pX (pX (S8.out.owns.mono (by omega)) S8.out.owns (show w.heap.size<w.heap.size+2 by omega)) S8.out.owns (show w.heap.size<w.heap.size+2 by omega))
  by_cases herr:(yL (l.drop p1)).err=0
  ·obtain ⟨hn,hn2,hsort⟩:=tT herr
   have HZ:Hid (∀ W,xS 148 (w.heap.size+1) l p1 W->sE W->Calls Tryz.prog 82 #[(qP (w.heap.size+1))] W (mZ 148 (w.heap.size+1) l p1 (yL (l.drop p1)) W)):=fun W hc he=>ZR _ _ l p1 W hc hb1 (by omega) hl he
   rw[List.length_drop]at hn2
   have HALL2:Hid (vH 0 l=(vH (p1+(yL (l.drop p1)).n) (l.drop (p1+(yL (l.drop p1)).n))).app (ts++[{ (yL (l.drop p1)).tok with place:=(p1:Int) }])):=by
    show _=_
    have e2:(l.drop p).drop (zK false (l.drop p))=l.drop p1:=by rw[List.drop_drop,HP1.out]
    have hne:(l.drop p).drop (zK false (l.drop p))≠[]:=by rw[e2];intro e;have:=congrArg List.length e;rw[List.length_drop]at this;simp at this;omega
    have h3:=sK (p:=p) hne (by rw[e2];exact herr);rw[e2,HP1.out,List.drop_drop,<-Nat.add_assoc,HP1.out]at h3;rw[HALL.out,h3,LE]
   have hso:(yL (l.drop p1)).tok.sort≠0:=by omega
   generalize yL (l.drop p1)=o at *;obtain ⟨⟨so,tx,nm,pl⟩,er,n⟩:=o;simp only at herr hn hn2 hsort hso HALL2;subst herr;have hso':decide (so=0)=false:=decide_eq_false hso;clear hsort HALL
   have HZ2:Hid (∀ W,xS 148 (w.heap.size+1) l p1 W->sE W->Calls Tryz.prog 82 #[(qP (w.heap.size+1))] W fun e w'=>e=.returned (.tuple #[.agg #[.int .u8 so,.string (zW tx),.int .i64 nm,.int .i64 pl],.int .i64 0])/\W.grownBy w' (some (w.heap.size+1))/\xS 148 (w.heap.size+1) l (p1+n) w'):=fun W hc he=>(HZ.out W hc he).mono fun _ _ h=>⟨h.1,h.2.1,h.2.2 rfl⟩
   clear HZ;obtain ⟨i0,hi,hz0,hz1,hz2⟩:=info_parts Tryz.infoTK;have HI:=zY hi;have HI0:=zY hz0;have HI1:=zY hz1;have HI2:=zY hz2;clear hi hz0 hz1 hz2
   go_wp2_with (first
    |(at_builtin;refine wpList_append_own _ rfl _ _ 87 rfl (w.heap.size+2) 96 i0 (.agg #[.int .u8 0,qE,.int .i64 0,.int .i64 0]) 4 40 Tryz.underlying87 HI.out HI0.out HI1.out HI2.out rfl (by decide) _ ts.length (ts.flatMap jZ) rfl (S5.out.below (kO w5 _ _)).owns ⟨w5.heap.size+1,0,none⟩ 1 1 (jZ ⟨so,tx,nm,(p1:Int)⟩) rfl rfl (WC w5 _ _ _ _ _ _) (QE _) (by unfold maxLen;omega) (by omega) (by have h1:=S5.out.bel.size;have h2:=S5.out.cur.lt;simp;omega) ?_;intro v' w8 hown hgrow _;have S8:Hid (sC w l (p1+n) v' (ts++[⟨so,tx,nm,(p1:Int)⟩]) w8):=(S5.out.below (kO w5 _ _)).app HE.out hown hgrow;have cb:w8.cell? ⟨w5.heap.size,0,none⟩=some (.int .u8 so):=hgrow.cell (by simp) (fun e=>S5.out.owns.lt (Nat.le_refl _) e.symm);clear hown hgrow)
    |(go_at_call 82;(with_reducible refine (HZ2.out _ S1.out.cur S1.out.env).mono ?_);rintro e w5 ⟨rfl,hg5,hc5⟩;have S5:Hid (sC w l (p1+n) u5 ts w5):=S1.out.grown HE.out hg5 hc5;clear hg5 hc5)
    |(go_at_call 81;(with_reducible refine (HK.out _ HST.out.cur).mono ?_);rintro e w1 ⟨rfl,hm1⟩;have S1:Hid (sC w l p1 u5 ts w1):=HST.out.grown HE.out hm1.grown hm1.cur;have c1:=hm1.cur.c1;clear hm1))
   go_roundg (l.length-(p1+n)+1)
   case measure=>omega
   case rel=>exact ⟨p1+n,_,by omega,rfl,S8.out,by simp;omega,HALL2.out⟩
  have HZ:Hid (∀ W,xS 148 (w.heap.size+1) l p1 W->sE W->Calls Tryz.prog 82 #[(qP (w.heap.size+1))] W (mZ 148 (w.heap.size+1) l p1 (yL (l.drop p1)) W)):=fun W hc he=>ZR _ _ l p1 W hc hb1 (by omega) hl he
  have HALL2:Hid (yE l=⟨[],(yL (l.drop p1)).err,(p1:Int)⟩):=by
   show _=_
   have e2:(l.drop p).drop (zK false (l.drop p))=l.drop p1:=by rw[List.drop_drop,HP1.out]
   have hne:(l.drop p).drop (zK false (l.drop p))≠[]:=by rw[e2];intro e;have:=congrArg List.length e;rw[List.length_drop]at this;simp at this;omega
   have h3:=sL (p:=p) hne (by rw[e2];exact herr);rw[e2,HP1.out]at h3;rw[HG.out,HALL.out,h3];unfold gM.app;rw[if_neg herr]
  generalize yL (l.drop p1)=o at *;obtain ⟨⟨so,tx,nm,pl⟩,er,n⟩:=o;simp only at herr HALL2;have herr':decide (er=0)=false:=decide_eq_false herr
  have HZ2:Hid (∀ W,xS 148 (w.heap.size+1) l p1 W->sE W->Calls Tryz.prog 82 #[(qP (w.heap.size+1))] W fun e w'=>e=.returned (.tuple #[.agg #[.int .u8 so,.string (zW tx),.int .i64 nm,.int .i64 pl],.int .i64 er])/\W.grownBy w' (some (w.heap.size+1))):=fun W hc he=>(HZ.out W hc he).mono fun _ _ h=>⟨h.1,h.2.1⟩
  clear HZ HALL
  go_wp2_with (first
   |(go_at_call 82;(with_reducible refine (HZ2.out _ S1.out.cur S1.out.env).mono ?_);rintro e w5 ⟨rfl,hg5⟩;have B5:Hid (Below w.heap.size w w5):=lN S1.out.bel hg5 (by omega) S1.out.bel.size;obtain ⟨k0,k1,g0,g1,k2⟩:=gC ((hg5.block _ (gC S1.out.fault).2.2.2.2 (fun e=>by have:=Option.some.inj e;omega)).trans S1.out.fault);clear hg5)
   |(go_at_call 81;(with_reducible refine (HK.out _ HST.out.cur).mono ?_);rintro e w1 ⟨rfl,hm1⟩;have S1:Hid (sC w l p1 u5 ts w1):=HST.out.grown HE.out hm1.grown hm1.cur;have c1:=hm1.cur.c1;clear hm1))
  have r0:=fun o=>OJ (.int .i64 er) (.int .i64 (p1:Int)) o k0 k1
  have r1:=fun o=>(r0 o).1
  have r2:=fun o=>(r0 o).2
  exact bodyPost_ret (v:=.tuple #[qN,.agg #[.int .i64 er,.int .i64 (p1:Int)]]) (by simp[results,Tryz.results44,go_sem,r1,r2]) rfl (by
   refine ⟨qN,by rw[HALL2.out],?_,?_⟩
   ·rw [HALL2.out];exact World.ownsRow_nil _ _ _ _
   exact (((B5.out.setCell (p:=⟨w.heap.size,0,none⟩) (Nat.le_refl _) _).setCell (p:=⟨w.heap.size,1,none⟩) (Nat.le_refl _) _).alloc (by simp;omega) _))
theorem QD (l:List UInt8) (w:World) (hE:sE w):Calls Tryz.prog 44 #[.string (zW l)] w (lM w l):=by
 rcases Nat.lt_or_ge 1048576 l.length with h|h
 ·exact KS l w h
 exact OI l w hE h
end Go.Proofs.YtdcjdnkdeamigaaGreatDoor
