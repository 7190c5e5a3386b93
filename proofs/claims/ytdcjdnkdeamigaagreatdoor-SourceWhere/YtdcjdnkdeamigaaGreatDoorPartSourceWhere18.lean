/- Texts of one chain. -/
import Derived.Test.YtdcjdnkdeamigaaGreatDoorPartQ
import Derived.Test.YtdcjdnkdeamigaaGreatDoorPartSourceWhere17
set_option maxRecDepth 100000
set_option maxHeartbeats 4000000
namespace Go.Proofs.YtdcjdnkdeamigaaGreatDoor
open Go.ChangeShapes Go.WideShapes Go.ChangeAt Go.RowKit
theorem cP (P:Nat) (v:Value) (ts:List yJ) (i:Nat) (W0 W:World) (I:Nat) (pl:Int) (hpl:(zM ts i).place=pl) (hG:zN P v ts i W0 W) (hP0:∀ {n:Nat},W0.heap.size<=n->v.ownBlock≠some n/\P≠n) (hI:W0.heap.size<=I) (hB:xZ 103 I W (zJ 0 [] [] (qN) zV zV pl)) (hE:yQ ts) (hi:i<ts.length) (hl:ts.length<=2000000) (ht:(zM ts i).text=[101,100,103,101]) (h0:yH P v ts i W0):
 Calls Tryz.prog 139 #[(qP P),(qP I)] W (wX P v ts W0 I (vF ts i)):=by
 rcases h1:yX ts [101,100,103,101] i with ⟨_|⟨⟩,j1⟩
 ·unfold yX at h1;rw[if_pos ht]at h1;cases h1
 rcases h2:xP ts j1 with ⟨_|p2,j2⟩
 ·exact KP P v ts i W0 W I pl hpl hG hP0 hI hB hE hi hl j1 j2 h1 h2
 rcases h3:yX ts [45,62] j2 with ⟨_|⟨⟩,j3⟩
 ·exact KN P v ts i W0 W I pl hpl hG hP0 hI hB hE hi hl j1 j2 p2 j3 h1 h2 h3
 rcases h4:xP ts j3 with ⟨_|p4,j4⟩
 ·exact KM P v ts i W0 W I pl hpl hG hP0 hI hB hE hi hl j1 j2 p2 j3 j4 h1 h2 h3 h4
 by_cases hw:(zM ts j4).text=[119,105,116,104]
 ·rcases hx:nX ts (j4+1) with ⟨_|x,j6⟩
  ·exact SK P v ts i W0 W I pl hpl hG hP0 hI hB hE hi hl j1 j2 p2 j3 j4 p4 j6 h1 h2 h3 h4 hw hx
  exact KL P v ts i W0 W I pl hpl hG hP0 hI hB hE hi hl j1 j2 p2 j3 j4 p4 x j6 h1 h2 h3 h4 hw hx h0
 exact SL P v ts i W0 W I pl hpl hG hP0 hI hB hE hi hl j1 j2 p2 j3 j4 p4 h1 h2 h3 h4 hw
def uJ (P:Nat) (v:Value) (ts:List yJ) (W:World) (r:Rd zF) (e:Ending) (w':World):Prop:=
 match r with
 |(some x,j)=>(∃ a c,e=.returned (.agg (zJ x.kind x.name x.tag (.slice a x.nums.length c) x.frm x.tO x.place))/\yZ W.heap.size w' (.slice a x.nums.length c) x.nums)/\zN P v ts j W w'/\j<ts.length
 |(none,j)=>e=.panicked zH/\zN P v ts j W w'/\j<ts.length
theorem xV {W W1 w':World} {P:Option Nat} (hb:Below W.heap.size W W1) (hg:W1.grownBy w' P):W.grownBy w' P:=Lib.grownBy_trans (eY hb P) hg
theorem eH (P : Nat) (v : Value) (ts : List yJ) (i : Nat) (W : World) (h : yH P v ts i W) (hE : yQ ts) (hi : i < ts.length) (hl : ts.length <= 2000000)  (t0 : (zM ts i).text = [97, 99, 116, 111, 114]) (j1 : Nat) (hr : vN ts i = (none, j1)) :
 Calls Tryz.prog 86 #[(qP P)] W (uJ P v ts W (xY ts i)):=by
 have HM:xY ts i=(none,j1):=by unfold xY uK;rw[if_pos t0,hr,yS]
 rw[HM];show Calls _ _ _ _ (fun e w'=>e=.panicked zH/\zN P v ts j1 W w'/\j1<ts.length)
 clear HM;have hb0:=(Below.refl W.heap.size W).alloc (Nat.le_refl _) (.cells qI 103);have HBK:Hid (v.ownBlock≠some W.heap.size/\P≠W.heap.size):=h.blk (Nat.le_refl _);have HB0:=zY hb0;have hR0:=yN 103 W qI;have hP1:=h.below hb0
 have hWs:(W.alloc (.cells qI 103)).heap.size=W.heap.size+1:=by simp
 have ff:=uF;obtain ⟨W0,hW0⟩:∃W0,W0=W.alloc (.cells qI 103):=⟨_,rfl⟩;rw[<- hW0]at hb0 hR0 hP1 hWs HB0;have HR0:=zY hR0;have HA:=zY (wZ P v ts i W0 hP1 hi hl);have HPW:=zY hP1
 have HBW:Hid (∀ {n:Nat},W0.heap.size<=n->v.ownBlock≠some n/\P≠n):=fun hn=>hP1.blk hn
 have HC:Hid (∀ I w1,W0.heap.size<=I->zN P v ts i W0 w1->xZ 103 I w1 (zJ 0 [] [] (qN) zV zV (zM ts i).place)->Calls Tryz.prog 138 #[(qP P),(qP I)] w1 fun e w'=>e=.panicked zH/\zN P v ts j1 W0 w'/\j1<ts.length):=fun I w1 q1 q2 q3=>by
  have:=fY P v ts i W0 w1 I _ rfl q2 (fun hn=>hP1.blk hn) q1 q3 hE hi hl t0;rw[hr]at this;exact this
 have HS0:Hid (∀ w1,yH P v ts i w1->Calls Tryz.prog 85 #[(qP P),.string ⟨#[97,99,116,111,114]⟩] w1 fun e w'=>e=.returned (.bool true)/\Below w1.heap.size w1 w'):=fun w1 q=>by
  have:=yA P v ts i w1 q hi hl [97,99,116,111,114];rw[decide_eq_true t0]at this;exact this
 have HWL:Hid (W.heap.size<W0.heap.size):=by show _<_;rw[hWs];omega
 clear hWs;clear h hb0 hR0 hP1 hr t0;subst hW0;unfold xH at HA;generalize zM ts i=tk at *;obtain ⟨so,tx,nm,pl⟩:=tk;simp only at HA HC
 go_enter Tryz.func86,Tryz.ntmps86
 go_wp2_with (first
  |(go_at_call 138;(with_reducible refine (HC.out _ _ NE.out G2.out B2.out).mono ?_);rintro e wb ⟨rfl,hg,hj⟩;have GB:=zY hg;have HJ:=zY hj;clear hg hj)
  |(go_at_call 85;(with_reducible refine (HS0.out _ G1.out.par).mono ?_);rintro e w2 ⟨rfl,hb⟩;have G2:=zY (G1.out.later hb);have B2:=zY (B1.out.below hb);clear hb)
  |(go_at_call 46;(with_reducible refine HA.out.mono ?_);rintro e w1 ⟨rfl,hb⟩;have NE:=zY hb.size;have hb2:=hb.trans (((Below.refl w1.heap.size w1).alloc (Nat.le_refl _) (.cells #[.int .u8 0,qE,qE,qN,qE,.int .i64 0,.int .i64 0,qE,.int .i64 0,.int .i64 0,.int .i64 pl] 103)).mono hb.size);have G1:=zY (zN.stay HPW.out hb2);have B1:Hid (xZ 103 w1.heap.size (w1.alloc (.cells #[.int .u8 0,qE,qE,qN,qE,.int .i64 0,.int .i64 0,qE,.int .i64 0,.int .i64 0,.int .i64 pl] 103)) (zJ 0 [] [] (qN) zV zV pl)):=yN _ _ _;clear hb hb2))
 exact ⟨rfl,rfl,⟨GB.out.par,xV HB0.out GB.out.grown⟩,HJ.out⟩
theorem eG (P : Nat) (v : Value) (ts : List yJ) (i : Nat) (W : World) (h : yH P v ts i W) (hE : yQ ts) (hi : i < ts.length) (hl : ts.length <= 2000000)  (t0 : (zM ts i).text = [97, 99, 116, 111, 114]) (x : zF) (j1 j2 : Nat) (hr : vN ts i = (some x, j1)) (hs : yX ts [59] j1 = (none, j2)) :
 Calls Tryz.prog 86 #[(qP P)] W (uJ P v ts W (xY ts i)):=by
 have HM:xY ts i=(none,j2):=by unfold xY uK;rw[if_pos t0,hr,zO,hs,yS]
 rw[HM];show Calls _ _ _ _ (fun e w'=>e=.panicked zH/\zN P v ts j2 W w'/\j2<ts.length)
 clear HM;have hb0:=(Below.refl W.heap.size W).alloc (Nat.le_refl _) (.cells qI 103);have HBK:Hid (v.ownBlock≠some W.heap.size/\P≠W.heap.size):=h.blk (Nat.le_refl _);have HB0:=zY hb0;have hR0:=yN 103 W qI;have hP1:=h.below hb0
 have hWs:(W.alloc (.cells qI 103)).heap.size=W.heap.size+1:=by simp
 have ff:=uF;obtain ⟨W0,hW0⟩:∃W0,W0=W.alloc (.cells qI 103):=⟨_,rfl⟩;rw[<- hW0]at hb0 hR0 hP1 hWs HB0;have HR0:=zY hR0;have HA:=zY (wZ P v ts i W0 hP1 hi hl);have HPW:=zY hP1
 have HBW:Hid (∀ {n:Nat},W0.heap.size<=n->v.ownBlock≠some n/\P≠n):=fun hn=>hP1.blk hn
 have HC:Hid (∀ I w1,W0.heap.size<=I->zN P v ts i W0 w1->xZ 103 I w1 (zJ 0 [] [] (qN) zV zV (zM ts i).place)->Calls Tryz.prog 138 #[(qP P),(qP I)] w1 fun e w'=>e=.returned (.tuple #[])/\(∃ ns,xZ 103 I w' (zJ x.kind x.name x.tag ns x.frm x.tO x.place)/\yZ W0.heap.size w' ns x.nums)/\zN P v ts j1 W0 w'/\j1<ts.length):=fun I w1 q1 q2 q3=>by
  have:=fY P v ts i W0 w1 I _ rfl q2 (fun hn=>hP1.blk hn) q1 q3 hE hi hl t0;rw[hr]at this;exact this
 have HS0:Hid (∀ w1,yH P v ts i w1->Calls Tryz.prog 85 #[(qP P),.string ⟨#[97,99,116,111,114]⟩] w1 fun e w'=>e=.returned (.bool true)/\Below w1.heap.size w1 w'):=fun w1 q=>by
  have:=yA P v ts i w1 q hi hl [97,99,116,111,114];rw[decide_eq_true t0]at this;exact this
 have HX:Hid (j1<ts.length->j2<ts.length/\∀w1,yH P v ts j1 w1->Calls Tryz.prog 83 #[(qP P),.string ⟨#[59]⟩] w1 fun e w'=>e=.panicked zH/\zN P v ts j2 w1 w'):=fun hj1=>⟨(yG hs hj1 hl P v).1,(yG hs hj1 hl P v).2⟩
 have HWL:Hid (W.heap.size<W0.heap.size):=by show _<_;rw[hWs];omega
 clear hWs;clear h hb0 hR0 hP1 hr hs t0;subst hW0;unfold xH at HA;generalize zM ts i=tk at *;obtain ⟨so,tx,nm,pl⟩:=tk;simp only at HA HC
 go_enter Tryz.func86,Tryz.ntmps86
 go_wp2_with (first
  |(go_at_call 83;(with_reducible refine (HX2.out.2 _ GB.out.par).mono ?_);rintro e wc ⟨rfl,hg⟩;have GC:=zY (GB.out.trans hg);clear hg)
  |(go_at_call 138;(with_reducible refine (HC.out _ _ NE.out G2.out B2.out).mono ?_);rintro e wb ⟨rfl,⟨ns,hbk,hin⟩,hg,hj⟩;obtain ⟨a,c,rfl⟩:=hin.shape;have GB:=zY hg;have BB:=zY hbk;have NB:=zY hin;have HX2:=zY (HX.out hj);clear hg hj hbk hin)
  |(go_at_call 85;(with_reducible refine (HS0.out _ G1.out.par).mono ?_);rintro e w2 ⟨rfl,hb⟩;have G2:=zY (G1.out.later hb);have B2:=zY (B1.out.below hb);clear hb)
  |(go_at_call 46;(with_reducible refine HA.out.mono ?_);rintro e w1 ⟨rfl,hb⟩;have NE:=zY hb.size;have hb2:=hb.trans (((Below.refl w1.heap.size w1).alloc (Nat.le_refl _) (.cells #[.int .u8 0,qE,qE,qN,qE,.int .i64 0,.int .i64 0,qE,.int .i64 0,.int .i64 0,.int .i64 pl] 103)).mono hb.size);have G1:=zY (zN.stay HPW.out hb2);have B1:Hid (xZ 103 w1.heap.size (w1.alloc (.cells #[.int .u8 0,qE,qE,qN,qE,.int .i64 0,.int .i64 0,qE,.int .i64 0,.int .i64 0,.int .i64 pl] 103)) (zJ 0 [] [] (qN) zV zV pl)):=yN _ _ _;clear hb hb2))
 exact ⟨rfl,rfl,⟨GC.out.par,xV HB0.out GC.out.grown⟩,HX2.out.1⟩
theorem cO (P : Nat) (v : Value) (ts : List yJ) (i : Nat) (W : World) (h : yH P v ts i W) (hE : yQ ts) (hi : i < ts.length) (hl : ts.length <= 2000000)  (t0 : (zM ts i).text = [97, 99, 116, 111, 114]) (x : zF) (j1 j2 : Nat) (hr : vN ts i = (some x, j1)) (hs : yX ts [59] j1 = (some (), j2)) :
 Calls Tryz.prog 86 #[(qP P)] W (uJ P v ts W (xY ts i)):=by
 have HM:xY ts i=(some x,j2):=by unfold xY uK;rw[if_pos t0,hr,zO,hs,zO]
 rw[HM];show Calls _ _ _ _ (fun e w'=>(∃ a c,e=.returned (.agg (zJ x.kind x.name x.tag (.slice a x.nums.length c) x.frm x.tO x.place))/\yZ W.heap.size w' (.slice a x.nums.length c) x.nums)/\zN P v ts j2 W w'/\j2<ts.length)
 clear HM;have hb0:=(Below.refl W.heap.size W).alloc (Nat.le_refl _) (.cells qI 103);have HBK:Hid (v.ownBlock≠some W.heap.size/\P≠W.heap.size):=h.blk (Nat.le_refl _);have HB0:=zY hb0;have hR0:=yN 103 W qI;have hP1:=h.below hb0
 have hWs:(W.alloc (.cells qI 103)).heap.size=W.heap.size+1:=by simp
 have ff:=uF;obtain ⟨W0,hW0⟩:∃W0,W0=W.alloc (.cells qI 103):=⟨_,rfl⟩;rw[<- hW0]at hb0 hR0 hP1 hWs HB0;have HR0:=zY hR0;have HA:=zY (wZ P v ts i W0 hP1 hi hl);have HPW:=zY hP1
 have HBW:Hid (∀ {n:Nat},W0.heap.size<=n->v.ownBlock≠some n/\P≠n):=fun hn=>hP1.blk hn
 have HC:Hid (∀ I w1,W0.heap.size<=I->zN P v ts i W0 w1->xZ 103 I w1 (zJ 0 [] [] (qN) zV zV (zM ts i).place)->Calls Tryz.prog 138 #[(qP P),(qP I)] w1 fun e w'=>e=.returned (.tuple #[])/\(∃ ns,xZ 103 I w' (zJ x.kind x.name x.tag ns x.frm x.tO x.place)/\yZ W0.heap.size w' ns x.nums)/\zN P v ts j1 W0 w'/\j1<ts.length):=fun I w1 q1 q2 q3=>by
  have:=fY P v ts i W0 w1 I _ rfl q2 (fun hn=>hP1.blk hn) q1 q3 hE hi hl t0;rw[hr]at this;exact this
 have HS0:Hid (∀ w1,yH P v ts i w1->Calls Tryz.prog 85 #[(qP P),.string ⟨#[97,99,116,111,114]⟩] w1 fun e w'=>e=.returned (.bool true)/\Below w1.heap.size w1 w'):=fun w1 q=>by
  have:=yA P v ts i w1 q hi hl [97,99,116,111,114];rw[decide_eq_true t0]at this;exact this
 have HX:Hid (j1<ts.length->j2<ts.length/\∀w1,yH P v ts j1 w1->Calls Tryz.prog 83 #[(qP P),.string ⟨#[59]⟩] w1 fun e w'=>e=.returned (.tuple #[])/\zN P v ts j2 w1 w'):=fun hj1=>⟨(zS hs hE hj1 hl (by decide) P v).1,(zS hs hE hj1 hl (by decide) P v).2⟩
 have HWL:Hid (W.heap.size<W0.heap.size):=by show _<_;rw[hWs];omega
 clear hWs;clear h hb0 hR0 hP1 hr hs t0;subst hW0;unfold xH at HA;generalize zM ts i=tk at *;obtain ⟨so,tx,nm,pl⟩:=tk;simp only at HA HC
 go_enter Tryz.func86,Tryz.ntmps86
 go_wp2_with (first
  |(go_at_call 83;(with_reducible refine (HX2.out.2 _ GB.out.par).mono ?_);rintro e wc ⟨rfl,hg⟩;have GC:=zY (GB.out.trans hg);have BC:=BB.out.grown hg.grown (fun e=>(HBW.out NE.out).2 (Option.some.inj e).symm);have NC:=zY (NB.out.grown hg.grown HPW.out.lt);have RC:=HR0.out.grown GC.out.grown (fun e=>HBK.out.2 (Option.some.inj e).symm);obtain ⟨c0,c1,c2,c3,c4,c5,c6,c7,c8,c9,c10⟩:=qC11 BC;obtain ⟨r0,r1,r2,r3,r4,r5,r6,r7,r8,r9,r10⟩:=qC11 RC;have f0:=RC.frozen 0;have f1:=RC.frozen 1;have f2:=RC.frozen 2;have f3:=RC.frozen 3;have f4:=RC.frozen 4;have f5:=RC.frozen 5;have f6:=RC.frozen 6;have f7:=RC.frozen 7;have f8:=RC.frozen 8;have f9:=RC.frozen 9;have f10:=RC.frozen 10;clear BC RC;clear hg)
  |(go_at_call 138;(with_reducible refine (HC.out _ _ NE.out G2.out B2.out).mono ?_);rintro e wb ⟨rfl,⟨ns,hbk,hin⟩,hg,hj⟩;obtain ⟨a,c,rfl⟩:=hin.shape;have GB:=zY hg;have BB:=zY hbk;have NB:=zY hin;have HX2:=zY (HX.out hj);clear hg hj hbk hin)
  |(go_at_call 85;(with_reducible refine (HS0.out _ G1.out.par).mono ?_);rintro e w2 ⟨rfl,hb⟩;have G2:=zY (G1.out.later hb);have B2:=zY (B1.out.below hb);clear hb)
  |(go_at_call 46;(with_reducible refine HA.out.mono ?_);rintro e w1 ⟨rfl,hb⟩;have NE:=zY hb.size;have hb2:=hb.trans (((Below.refl w1.heap.size w1).alloc (Nat.le_refl _) (.cells #[.int .u8 0,qE,qE,qN,qE,.int .i64 0,.int .i64 0,qE,.int .i64 0,.int .i64 0,.int .i64 pl] 103)).mono hb.size);have G1:=zY (zN.stay HPW.out hb2);have B1:Hid (xZ 103 w1.heap.size (w1.alloc (.cells #[.int .u8 0,qE,qE,qN,qE,.int .i64 0,.int .i64 0,qE,.int .i64 0,.int .i64 0,.int .i64 pl] 103)) (zJ 0 [] [] (qN) zV zV pl)):=yN _ _ _;clear hb hb2))
 exact bodyPost_ret (v:=.agg (zJ x.kind x.name x.tag (.slice a x.nums.length c) x.frm x.tO x.place)) (by simp[results,Tryz.results86,go_sem,r0,r1,r2,r3,r4,r5,r6,r7,r8,r9,r10,zJ]) rfl ⟨⟨a,c,rfl,((((((((((((NC.out.put HWL.out).put HWL.out).put HWL.out).put HWL.out).put HWL.out).put HWL.out).put HWL.out).put HWL.out).put HWL.out).put HWL.out).put HWL.out)).mono (Nat.le_of_lt HWL.out)⟩,((((((((((((show zN P v ts j2 W wc from ⟨GC.out.par,xV HB0.out GC.out.grown⟩).put HBK.out (Nat.le_refl _) _).put HBK.out (Nat.le_refl _) _).put HBK.out (Nat.le_refl _) _).put HBK.out (Nat.le_refl _) _).put HBK.out (Nat.le_refl _) _).put HBK.out (Nat.le_refl _) _).put HBK.out (Nat.le_refl _) _).put HBK.out (Nat.le_refl _) _).put HBK.out (Nat.le_refl _) _).put HBK.out (Nat.le_refl _) _).put HBK.out (Nat.le_refl _) _),HX2.out.1⟩
theorem cN (P:Nat) (v:Value) (ts:List yJ) (i:Nat) (W:World) (h:yH P v ts i W) (hE:yQ ts) (hi:i<ts.length) (hl:ts.length<=2000000) (t0:(zM ts i).text≠[97,99,116,111,114]) (t1:(zM ts i).text=[101,100,103,101]) (j1:Nat) (hr:vF ts i=(none,j1)):
 Calls Tryz.prog 86 #[(qP P)] W (uJ P v ts W (xY ts i)):=by
 have HM:xY ts i=(none,j1):=by unfold xY uK;rw[if_neg t0,if_pos t1,hr,yS]
 rw[HM];show Calls _ _ _ _ (fun e w'=>e=.panicked zH/\zN P v ts j1 W w'/\j1<ts.length)
 clear HM;have hb0:=(Below.refl W.heap.size W).alloc (Nat.le_refl _) (.cells qI 103);have HBK:Hid (v.ownBlock≠some W.heap.size/\P≠W.heap.size):=h.blk (Nat.le_refl _);have HB0:=zY hb0;have hR0:=yN 103 W qI;have hP1:=h.below hb0
 have hWs:(W.alloc (.cells qI 103)).heap.size=W.heap.size+1:=by simp
 have ff:=uF;obtain ⟨W0,hW0⟩:∃W0,W0=W.alloc (.cells qI 103):=⟨_,rfl⟩;rw[<- hW0]at hb0 hR0 hP1 hWs HB0;have HR0:=zY hR0;have HA:=zY (wZ P v ts i W0 hP1 hi hl);have HPW:=zY hP1
 have HBW:Hid (∀ {n:Nat},W0.heap.size<=n->v.ownBlock≠some n/\P≠n):=fun hn=>hP1.blk hn
 have HC:Hid (∀ I w1,W0.heap.size<=I->zN P v ts i W0 w1->xZ 103 I w1 (zJ 0 [] [] (qN) zV zV (zM ts i).place)->Calls Tryz.prog 139 #[(qP P),(qP I)] w1 fun e w'=>e=.panicked zH/\zN P v ts j1 W0 w'/\j1<ts.length):=fun I w1 q1 q2 q3=>by
  have:=cP P v ts i W0 w1 I _ rfl q2 (fun hn=>hP1.blk hn) q1 q3 hE hi hl t1 hP1;rw[hr]at this;exact this
 have HS0:Hid (∀ w1,yH P v ts i w1->Calls Tryz.prog 85 #[(qP P),.string ⟨#[97,99,116,111,114]⟩] w1 fun e w'=>e=.returned (.bool false)/\Below w1.heap.size w1 w'):=fun w1 q=>by
  have:=yA P v ts i w1 q hi hl [97,99,116,111,114];rw[decide_eq_false t0]at this;exact this
 have HS1:Hid (∀ w1,yH P v ts i w1->Calls Tryz.prog 85 #[(qP P),.string ⟨#[101,100,103,101]⟩] w1 fun e w'=>e=.returned (.bool true)/\Below w1.heap.size w1 w'):=fun w1 q=>by
  have:=yA P v ts i w1 q hi hl [101,100,103,101];rw[decide_eq_true t1]at this;exact this
 have HWL:Hid (W.heap.size<W0.heap.size):=by show _<_;rw[hWs];omega
 clear hWs;clear h hb0 hR0 hP1 hr t0 t1;subst hW0;unfold xH at HA;generalize zM ts i=tk at *;obtain ⟨so,tx,nm,pl⟩:=tk;simp only at HA HC
 go_enter Tryz.func86,Tryz.ntmps86
 go_wp2_with (first
  |(go_at_call 139;(with_reducible refine (HC.out _ _ NE.out G3.out B3.out).mono ?_);rintro e wb ⟨rfl,hg,hj⟩;have GB:=zY hg;have HJ:=zY hj;clear hg hj)
  |(go_at_call 85;(with_reducible refine (HS1.out _ G2.out.par).mono ?_);rintro e w3 ⟨rfl,hb⟩;have G3:=zY (G2.out.later hb);have B3:=zY (B2.out.below hb);clear hb)
  |(go_at_call 85;(with_reducible refine (HS0.out _ G1.out.par).mono ?_);rintro e w2 ⟨rfl,hb⟩;have G2:=zY (G1.out.later hb);have B2:=zY (B1.out.below hb);clear hb)
  |(go_at_call 46;(with_reducible refine HA.out.mono ?_);rintro e w1 ⟨rfl,hb⟩;have NE:=zY hb.size;have hb2:=hb.trans (((Below.refl w1.heap.size w1).alloc (Nat.le_refl _) (.cells #[.int .u8 0,qE,qE,qN,qE,.int .i64 0,.int .i64 0,qE,.int .i64 0,.int .i64 0,.int .i64 pl] 103)).mono hb.size);have G1:=zY (zN.stay HPW.out hb2);have B1:Hid (xZ 103 w1.heap.size (w1.alloc (.cells #[.int .u8 0,qE,qE,qN,qE,.int .i64 0,.int .i64 0,qE,.int .i64 0,.int .i64 0,.int .i64 pl] 103)) (zJ 0 [] [] (qN) zV zV pl)):=yN _ _ _;clear hb hb2))
 exact ⟨rfl,rfl,⟨GB.out.par,xV HB0.out GB.out.grown⟩,HJ.out⟩
theorem cM (P:Nat) (v:Value) (ts:List yJ) (i:Nat) (W:World) (h:yH P v ts i W) (hE:yQ ts) (hi:i<ts.length) (hl:ts.length<=2000000) (t0:(zM ts i).text≠[97,99,116,111,114]) (t1:(zM ts i).text=[101,100,103,101]) (x:zF) (j1 j2:Nat) (hr:vF ts i=(some x,j1)) (hs:yX ts [59] j1=(none,j2)):
 Calls Tryz.prog 86 #[(qP P)] W (uJ P v ts W (xY ts i)):=by
 have HM:xY ts i=(none,j2):=by unfold xY uK;rw[if_neg t0,if_pos t1,hr,zO,hs,yS]
 rw[HM];show Calls _ _ _ _ (fun e w'=>e=.panicked zH/\zN P v ts j2 W w'/\j2<ts.length)
 clear HM;have hb0:=(Below.refl W.heap.size W).alloc (Nat.le_refl _) (.cells qI 103);have HBK:Hid (v.ownBlock≠some W.heap.size/\P≠W.heap.size):=h.blk (Nat.le_refl _);have HB0:=zY hb0;have hR0:=yN 103 W qI;have hP1:=h.below hb0
 have hWs:(W.alloc (.cells qI 103)).heap.size=W.heap.size+1:=by simp
 have ff:=uF;obtain ⟨W0,hW0⟩:∃W0,W0=W.alloc (.cells qI 103):=⟨_,rfl⟩;rw[<- hW0]at hb0 hR0 hP1 hWs HB0;have HR0:=zY hR0;have HA:=zY (wZ P v ts i W0 hP1 hi hl);have HPW:=zY hP1
 have HBW:Hid (∀ {n:Nat},W0.heap.size<=n->v.ownBlock≠some n/\P≠n):=fun hn=>hP1.blk hn
 have HC:Hid (∀ I w1,W0.heap.size<=I->zN P v ts i W0 w1->xZ 103 I w1 (zJ 0 [] [] (qN) zV zV (zM ts i).place)->Calls Tryz.prog 139 #[(qP P),(qP I)] w1 fun e w'=>e=.returned (.tuple #[])/\(∃ ns,xZ 103 I w' (zJ x.kind x.name x.tag ns x.frm x.tO x.place)/\yZ W0.heap.size w' ns x.nums)/\zN P v ts j1 W0 w'/\j1<ts.length):=fun I w1 q1 q2 q3=>by
  have:=cP P v ts i W0 w1 I _ rfl q2 (fun hn=>hP1.blk hn) q1 q3 hE hi hl t1 hP1;rw[hr]at this;exact this
 have HS0:Hid (∀ w1,yH P v ts i w1->Calls Tryz.prog 85 #[(qP P),.string ⟨#[97,99,116,111,114]⟩] w1 fun e w'=>e=.returned (.bool false)/\Below w1.heap.size w1 w'):=fun w1 q=>by
  have:=yA P v ts i w1 q hi hl [97,99,116,111,114];rw[decide_eq_false t0]at this;exact this
 have HS1:Hid (∀ w1,yH P v ts i w1->Calls Tryz.prog 85 #[(qP P),.string ⟨#[101,100,103,101]⟩] w1 fun e w'=>e=.returned (.bool true)/\Below w1.heap.size w1 w'):=fun w1 q=>by
  have:=yA P v ts i w1 q hi hl [101,100,103,101];rw[decide_eq_true t1]at this;exact this
 have HX:Hid (j1<ts.length->j2<ts.length/\∀w1,yH P v ts j1 w1->Calls Tryz.prog 83 #[(qP P),.string ⟨#[59]⟩] w1 fun e w'=>e=.panicked zH/\zN P v ts j2 w1 w'):=fun hj1=>⟨(yG hs hj1 hl P v).1,(yG hs hj1 hl P v).2⟩
 have HWL:Hid (W.heap.size<W0.heap.size):=by show _<_;rw[hWs];omega
 clear hWs;clear h hb0 hR0 hP1 hr hs t0 t1;subst hW0;unfold xH at HA;generalize zM ts i=tk at *;obtain ⟨so,tx,nm,pl⟩:=tk;simp only at HA HC
 go_enter Tryz.func86,Tryz.ntmps86
 go_wp2_with (first
  |(go_at_call 83;(with_reducible refine (HX2.out.2 _ GB.out.par).mono ?_);rintro e wc ⟨rfl,hg⟩;have GC:=zY (GB.out.trans hg);clear hg)
  |(go_at_call 139;(with_reducible refine (HC.out _ _ NE.out G3.out B3.out).mono ?_);rintro e wb ⟨rfl,⟨ns,hbk,hin⟩,hg,hj⟩;obtain ⟨a,c,rfl⟩:=hin.shape;have GB:=zY hg;have BB:=zY hbk;have NB:=zY hin;have HX2:=zY (HX.out hj);clear hg hj hbk hin)
  |(go_at_call 85;(with_reducible refine (HS1.out _ G2.out.par).mono ?_);rintro e w3 ⟨rfl,hb⟩;have G3:=zY (G2.out.later hb);have B3:=zY (B2.out.below hb);clear hb)
  |(go_at_call 85;(with_reducible refine (HS0.out _ G1.out.par).mono ?_);rintro e w2 ⟨rfl,hb⟩;have G2:=zY (G1.out.later hb);have B2:=zY (B1.out.below hb);clear hb)
  |(go_at_call 46;(with_reducible refine HA.out.mono ?_);rintro e w1 ⟨rfl,hb⟩;have NE:=zY hb.size;have hb2:=hb.trans (((Below.refl w1.heap.size w1).alloc (Nat.le_refl _) (.cells #[.int .u8 0,qE,qE,qN,qE,.int .i64 0,.int .i64 0,qE,.int .i64 0,.int .i64 0,.int .i64 pl] 103)).mono hb.size);have G1:=zY (zN.stay HPW.out hb2);have B1:Hid (xZ 103 w1.heap.size (w1.alloc (.cells #[.int .u8 0,qE,qE,qN,qE,.int .i64 0,.int .i64 0,qE,.int .i64 0,.int .i64 0,.int .i64 pl] 103)) (zJ 0 [] [] (qN) zV zV pl)):=yN _ _ _;clear hb hb2))
 exact ⟨rfl,rfl,⟨GC.out.par,xV HB0.out GC.out.grown⟩,HX2.out.1⟩
theorem aX (P:Nat) (v:Value) (ts:List yJ) (i:Nat) (W:World) (h:yH P v ts i W) (hE:yQ ts) (hi:i<ts.length) (hl:ts.length<=2000000) (t0:(zM ts i).text≠[97,99,116,111,114]) (t1:(zM ts i).text=[101,100,103,101]) (x:zF) (j1 j2:Nat) (hr:vF ts i=(some x,j1)) (hs:yX ts [59] j1=(some (),j2)):
 Calls Tryz.prog 86 #[(qP P)] W (uJ P v ts W (xY ts i)):=by
 have HM:xY ts i=(some x,j2):=by unfold xY uK;rw[if_neg t0,if_pos t1,hr,zO,hs,zO]
 rw[HM];show Calls _ _ _ _ (fun e w'=>(∃ a c,e=.returned (.agg (zJ x.kind x.name x.tag (.slice a x.nums.length c) x.frm x.tO x.place))/\yZ W.heap.size w' (.slice a x.nums.length c) x.nums)/\zN P v ts j2 W w'/\j2<ts.length)
 clear HM;have hb0:=(Below.refl W.heap.size W).alloc (Nat.le_refl _) (.cells qI 103);have HBK:Hid (v.ownBlock≠some W.heap.size/\P≠W.heap.size):=h.blk (Nat.le_refl _);have HB0:=zY hb0;have hR0:=yN 103 W qI;have hP1:=h.below hb0
 have hWs:(W.alloc (.cells qI 103)).heap.size=W.heap.size+1:=by simp
 have ff:=uF;obtain ⟨W0,hW0⟩:∃W0,W0=W.alloc (.cells qI 103):=⟨_,rfl⟩;rw[<- hW0]at hb0 hR0 hP1 hWs HB0;have HR0:=zY hR0;have HA:=zY (wZ P v ts i W0 hP1 hi hl);have HPW:=zY hP1
 have HBW:Hid (∀ {n:Nat},W0.heap.size<=n->v.ownBlock≠some n/\P≠n):=fun hn=>hP1.blk hn
 have HC:Hid (∀ I w1,W0.heap.size<=I->zN P v ts i W0 w1->xZ 103 I w1 (zJ 0 [] [] (qN) zV zV (zM ts i).place)->Calls Tryz.prog 139 #[(qP P),(qP I)] w1 fun e w'=>e=.returned (.tuple #[])/\(∃ ns,xZ 103 I w' (zJ x.kind x.name x.tag ns x.frm x.tO x.place)/\yZ W0.heap.size w' ns x.nums)/\zN P v ts j1 W0 w'/\j1<ts.length):=fun I w1 q1 q2 q3=>by
  have:=cP P v ts i W0 w1 I _ rfl q2 (fun hn=>hP1.blk hn) q1 q3 hE hi hl t1 hP1;rw[hr]at this;exact this
 have HS0:Hid (∀ w1,yH P v ts i w1->Calls Tryz.prog 85 #[(qP P),.string ⟨#[97,99,116,111,114]⟩] w1 fun e w'=>e=.returned (.bool false)/\Below w1.heap.size w1 w'):=fun w1 q=>by
  have:=yA P v ts i w1 q hi hl [97,99,116,111,114];rw[decide_eq_false t0]at this;exact this
 have HS1:Hid (∀ w1,yH P v ts i w1->Calls Tryz.prog 85 #[(qP P),.string ⟨#[101,100,103,101]⟩] w1 fun e w'=>e=.returned (.bool true)/\Below w1.heap.size w1 w'):=fun w1 q=>by
  have:=yA P v ts i w1 q hi hl [101,100,103,101];rw[decide_eq_true t1]at this;exact this
 have HX:Hid (j1<ts.length->j2<ts.length/\∀w1,yH P v ts j1 w1->Calls Tryz.prog 83 #[(qP P),.string ⟨#[59]⟩] w1 fun e w'=>e=.returned (.tuple #[])/\zN P v ts j2 w1 w'):=fun hj1=>⟨(zS hs hE hj1 hl (by decide) P v).1,(zS hs hE hj1 hl (by decide) P v).2⟩
 have HWL:Hid (W.heap.size<W0.heap.size):=by show _<_;rw[hWs];omega
 clear hWs;clear h hb0 hR0 hP1 hr hs t0 t1;subst hW0;unfold xH at HA;generalize zM ts i=tk at *;obtain ⟨so,tx,nm,pl⟩:=tk;simp only at HA HC
 go_enter Tryz.func86,Tryz.ntmps86
 go_wp2_with (first
  |(go_at_call 83;(with_reducible refine (HX2.out.2 _ GB.out.par).mono ?_);rintro e wc ⟨rfl,hg⟩;have GC:=zY (GB.out.trans hg);have BC:=BB.out.grown hg.grown (fun e=>(HBW.out NE.out).2 (Option.some.inj e).symm);have NC:=zY (NB.out.grown hg.grown HPW.out.lt);have RC:=HR0.out.grown GC.out.grown (fun e=>HBK.out.2 (Option.some.inj e).symm);obtain ⟨c0,c1,c2,c3,c4,c5,c6,c7,c8,c9,c10⟩:=qC11 BC;obtain ⟨r0,r1,r2,r3,r4,r5,r6,r7,r8,r9,r10⟩:=qC11 RC;have f0:=RC.frozen 0;have f1:=RC.frozen 1;have f2:=RC.frozen 2;have f3:=RC.frozen 3;have f4:=RC.frozen 4;have f5:=RC.frozen 5;have f6:=RC.frozen 6;have f7:=RC.frozen 7;have f8:=RC.frozen 8;have f9:=RC.frozen 9;have f10:=RC.frozen 10;clear BC RC;clear hg)
  |(go_at_call 139;(with_reducible refine (HC.out _ _ NE.out G3.out B3.out).mono ?_);rintro e wb ⟨rfl,⟨ns,hbk,hin⟩,hg,hj⟩;obtain ⟨a,c,rfl⟩:=hin.shape;have GB:=zY hg;have BB:=zY hbk;have NB:=zY hin;have HX2:=zY (HX.out hj);clear hg hj hbk hin)
  |(go_at_call 85;(with_reducible refine (HS1.out _ G2.out.par).mono ?_);rintro e w3 ⟨rfl,hb⟩;have G3:=zY (G2.out.later hb);have B3:=zY (B2.out.below hb);clear hb)
  |(go_at_call 85;(with_reducible refine (HS0.out _ G1.out.par).mono ?_);rintro e w2 ⟨rfl,hb⟩;have G2:=zY (G1.out.later hb);have B2:=zY (B1.out.below hb);clear hb)
  |(go_at_call 46;(with_reducible refine HA.out.mono ?_);rintro e w1 ⟨rfl,hb⟩;have NE:=zY hb.size;have hb2:=hb.trans (((Below.refl w1.heap.size w1).alloc (Nat.le_refl _) (.cells #[.int .u8 0,qE,qE,qN,qE,.int .i64 0,.int .i64 0,qE,.int .i64 0,.int .i64 0,.int .i64 pl] 103)).mono hb.size);have G1:=zY (zN.stay HPW.out hb2);have B1:Hid (xZ 103 w1.heap.size (w1.alloc (.cells #[.int .u8 0,qE,qE,qN,qE,.int .i64 0,.int .i64 0,qE,.int .i64 0,.int .i64 0,.int .i64 pl] 103)) (zJ 0 [] [] (qN) zV zV pl)):=yN _ _ _;clear hb hb2))
 exact bodyPost_ret (v:=.agg (zJ x.kind x.name x.tag (.slice a x.nums.length c) x.frm x.tO x.place)) (by simp[results,Tryz.results86,go_sem,r0,r1,r2,r3,r4,r5,r6,r7,r8,r9,r10,zJ]) rfl ⟨⟨a,c,rfl,((((((((((((NC.out.put HWL.out).put HWL.out).put HWL.out).put HWL.out).put HWL.out).put HWL.out).put HWL.out).put HWL.out).put HWL.out).put HWL.out).put HWL.out)).mono (Nat.le_of_lt HWL.out)⟩,((((((((((((show zN P v ts j2 W wc from ⟨GC.out.par,xV HB0.out GC.out.grown⟩).put HBK.out (Nat.le_refl _) _).put HBK.out (Nat.le_refl _) _).put HBK.out (Nat.le_refl _) _).put HBK.out (Nat.le_refl _) _).put HBK.out (Nat.le_refl _) _).put HBK.out (Nat.le_refl _) _).put HBK.out (Nat.le_refl _) _).put HBK.out (Nat.le_refl _) _).put HBK.out (Nat.le_refl _) _).put HBK.out (Nat.le_refl _) _).put HBK.out (Nat.le_refl _) _),HX2.out.1⟩
theorem XR (P:Nat) (v:Value) (ts:List yJ) (i:Nat) (W:World) (h:yH P v ts i W) (hE:yQ ts) (hi:i<ts.length) (hl:ts.length<=2000000) (t0:(zM ts i).text≠[97,99,116,111,114]) (t1:(zM ts i).text≠[101,100,103,101]) (t2:(zM ts i).text=[105,110]) (j1:Nat) (hr:dU ts i=(none,j1)):
 Calls Tryz.prog 86 #[(qP P)] W (uJ P v ts W (xY ts i)):=by
 have HM:xY ts i=(none,j1):=by unfold xY uK;rw[if_neg t0,if_neg t1,if_pos t2,hr,yS]
 rw[HM];show Calls _ _ _ _ (fun e w'=>e=.panicked zH/\zN P v ts j1 W w'/\j1<ts.length)
 clear HM;have hb0:=(Below.refl W.heap.size W).alloc (Nat.le_refl _) (.cells qI 103);have HBK:Hid (v.ownBlock≠some W.heap.size/\P≠W.heap.size):=h.blk (Nat.le_refl _);have HB0:=zY hb0;have hR0:=yN 103 W qI;have hP1:=h.below hb0
 have hWs:(W.alloc (.cells qI 103)).heap.size=W.heap.size+1:=by simp
 have ff:=uF;obtain ⟨W0,hW0⟩:∃W0,W0=W.alloc (.cells qI 103):=⟨_,rfl⟩;rw[<- hW0]at hb0 hR0 hP1 hWs HB0;have HR0:=zY hR0;have HA:=zY (wZ P v ts i W0 hP1 hi hl);have HPW:=zY hP1
 have HBW:Hid (∀ {n:Nat},W0.heap.size<=n->v.ownBlock≠some n/\P≠n):=fun hn=>hP1.blk hn
 have HC:Hid (∀ I w1,W0.heap.size<=I->zN P v ts i W0 w1->xZ 103 I w1 (zJ 0 [] [] (qN) zV zV (zM ts i).place)->Calls Tryz.prog 140 #[(qP P),(qP I)] w1 fun e w'=>e=.panicked zH/\zN P v ts j1 W0 w'/\j1<ts.length):=fun I w1 q1 q2 q3=>by
  have:=XT P v ts i W0 w1 I _ rfl q2 (fun hn=>hP1.blk hn) q1 q3 hE hi hl t2;rw[hr]at this;exact this
 have HS0:Hid (∀ w1,yH P v ts i w1->Calls Tryz.prog 85 #[(qP P),.string ⟨#[97,99,116,111,114]⟩] w1 fun e w'=>e=.returned (.bool false)/\Below w1.heap.size w1 w'):=fun w1 q=>by
  have:=yA P v ts i w1 q hi hl [97,99,116,111,114];rw[decide_eq_false t0]at this;exact this
 have HS1:Hid (∀ w1,yH P v ts i w1->Calls Tryz.prog 85 #[(qP P),.string ⟨#[101,100,103,101]⟩] w1 fun e w'=>e=.returned (.bool false)/\Below w1.heap.size w1 w'):=fun w1 q=>by
  have:=yA P v ts i w1 q hi hl [101,100,103,101];rw[decide_eq_false t1]at this;exact this
 have HS2:Hid (∀ w1,yH P v ts i w1->Calls Tryz.prog 85 #[(qP P),.string ⟨#[105,110]⟩] w1 fun e w'=>e=.returned (.bool true)/\Below w1.heap.size w1 w'):=fun w1 q=>by
  have:=yA P v ts i w1 q hi hl [105,110];rw[decide_eq_true t2]at this;exact this
 have HWL:Hid (W.heap.size<W0.heap.size):=by show _<_;rw[hWs];omega
 clear hWs;clear h hb0 hR0 hP1 hr t0 t1 t2;subst hW0;unfold xH at HA;generalize zM ts i=tk at *;obtain ⟨so,tx,nm,pl⟩:=tk;simp only at HA HC
 go_enter Tryz.func86,Tryz.ntmps86
 go_wp2_with (first
  |(go_at_call 140;(with_reducible refine (HC.out _ _ NE.out G4.out B4.out).mono ?_);rintro e wb ⟨rfl,hg,hj⟩;have GB:=zY hg;have HJ:=zY hj;clear hg hj)
  |(go_at_call 85;(with_reducible refine (HS2.out _ G3.out.par).mono ?_);rintro e w4 ⟨rfl,hb⟩;have G4:=zY (G3.out.later hb);have B4:=zY (B3.out.below hb);clear hb)
  |(go_at_call 85;(with_reducible refine (HS1.out _ G2.out.par).mono ?_);rintro e w3 ⟨rfl,hb⟩;have G3:=zY (G2.out.later hb);have B3:=zY (B2.out.below hb);clear hb)
  |(go_at_call 85;(with_reducible refine (HS0.out _ G1.out.par).mono ?_);rintro e w2 ⟨rfl,hb⟩;have G2:=zY (G1.out.later hb);have B2:=zY (B1.out.below hb);clear hb)
  |(go_at_call 46;(with_reducible refine HA.out.mono ?_);rintro e w1 ⟨rfl,hb⟩;have NE:=zY hb.size;have hb2:=hb.trans (((Below.refl w1.heap.size w1).alloc (Nat.le_refl _) (.cells #[.int .u8 0,qE,qE,qN,qE,.int .i64 0,.int .i64 0,qE,.int .i64 0,.int .i64 0,.int .i64 pl] 103)).mono hb.size);have G1:=zY (zN.stay HPW.out hb2);have B1:Hid (xZ 103 w1.heap.size (w1.alloc (.cells #[.int .u8 0,qE,qE,qN,qE,.int .i64 0,.int .i64 0,qE,.int .i64 0,.int .i64 0,.int .i64 pl] 103)) (zJ 0 [] [] (qN) zV zV pl)):=yN _ _ _;clear hb hb2))
 exact ⟨rfl,rfl,⟨GB.out.par,xV HB0.out GB.out.grown⟩,HJ.out⟩
theorem XQ (P:Nat) (v:Value) (ts:List yJ) (i:Nat) (W:World) (h:yH P v ts i W) (hE:yQ ts) (hi:i<ts.length) (hl:ts.length<=2000000) (t0:(zM ts i).text≠[97,99,116,111,114]) (t1:(zM ts i).text≠[101,100,103,101]) (t2:(zM ts i).text=[105,110]) (x:zF) (j1 j2:Nat) (hr:dU ts i=(some x,j1)) (hs:yX ts [59] j1=(none,j2)):
 Calls Tryz.prog 86 #[(qP P)] W (uJ P v ts W (xY ts i)):=by
 have HM:xY ts i=(none,j2):=by unfold xY uK;rw[if_neg t0,if_neg t1,if_pos t2,hr,zO,hs,yS]
 rw[HM];show Calls _ _ _ _ (fun e w'=>e=.panicked zH/\zN P v ts j2 W w'/\j2<ts.length)
 clear HM;have hb0:=(Below.refl W.heap.size W).alloc (Nat.le_refl _) (.cells qI 103);have HBK:Hid (v.ownBlock≠some W.heap.size/\P≠W.heap.size):=h.blk (Nat.le_refl _);have HB0:=zY hb0;have hR0:=yN 103 W qI;have hP1:=h.below hb0
 have hWs:(W.alloc (.cells qI 103)).heap.size=W.heap.size+1:=by simp
 have ff:=uF;obtain ⟨W0,hW0⟩:∃W0,W0=W.alloc (.cells qI 103):=⟨_,rfl⟩;rw[<- hW0]at hb0 hR0 hP1 hWs HB0;have HR0:=zY hR0;have HA:=zY (wZ P v ts i W0 hP1 hi hl);have HPW:=zY hP1
 have HBW:Hid (∀ {n:Nat},W0.heap.size<=n->v.ownBlock≠some n/\P≠n):=fun hn=>hP1.blk hn
 have HC:Hid (∀ I w1,W0.heap.size<=I->zN P v ts i W0 w1->xZ 103 I w1 (zJ 0 [] [] (qN) zV zV (zM ts i).place)->Calls Tryz.prog 140 #[(qP P),(qP I)] w1 fun e w'=>e=.returned (.tuple #[])/\(∃ ns,xZ 103 I w' (zJ x.kind x.name x.tag ns x.frm x.tO x.place)/\yZ W0.heap.size w' ns x.nums)/\zN P v ts j1 W0 w'/\j1<ts.length):=fun I w1 q1 q2 q3=>by
  have:=XT P v ts i W0 w1 I _ rfl q2 (fun hn=>hP1.blk hn) q1 q3 hE hi hl t2;rw[hr]at this;exact this
 have HS0:Hid (∀ w1,yH P v ts i w1->Calls Tryz.prog 85 #[(qP P),.string ⟨#[97,99,116,111,114]⟩] w1 fun e w'=>e=.returned (.bool false)/\Below w1.heap.size w1 w'):=fun w1 q=>by
  have:=yA P v ts i w1 q hi hl [97,99,116,111,114];rw[decide_eq_false t0]at this;exact this
 have HS1:Hid (∀ w1,yH P v ts i w1->Calls Tryz.prog 85 #[(qP P),.string ⟨#[101,100,103,101]⟩] w1 fun e w'=>e=.returned (.bool false)/\Below w1.heap.size w1 w'):=fun w1 q=>by
  have:=yA P v ts i w1 q hi hl [101,100,103,101];rw[decide_eq_false t1]at this;exact this
 have HS2:Hid (∀ w1,yH P v ts i w1->Calls Tryz.prog 85 #[(qP P),.string ⟨#[105,110]⟩] w1 fun e w'=>e=.returned (.bool true)/\Below w1.heap.size w1 w'):=fun w1 q=>by
  have:=yA P v ts i w1 q hi hl [105,110];rw[decide_eq_true t2]at this;exact this
 have HX:Hid (j1<ts.length->j2<ts.length/\∀w1,yH P v ts j1 w1->Calls Tryz.prog 83 #[(qP P),.string ⟨#[59]⟩] w1 fun e w'=>e=.panicked zH/\zN P v ts j2 w1 w'):=fun hj1=>⟨(yG hs hj1 hl P v).1,(yG hs hj1 hl P v).2⟩
 have HWL:Hid (W.heap.size<W0.heap.size):=by show _<_;rw[hWs];omega
 clear hWs;clear h hb0 hR0 hP1 hr hs t0 t1 t2;subst hW0;unfold xH at HA;generalize zM ts i=tk at *;obtain ⟨so,tx,nm,pl⟩:=tk;simp only at HA HC
 go_enter Tryz.func86,Tryz.ntmps86
 go_wp2_with (first
  |(go_at_call 83;(with_reducible refine (HX2.out.2 _ GB.out.par).mono ?_);rintro e wc ⟨rfl,hg⟩;have GC:=zY (GB.out.trans hg);clear hg)
  |(go_at_call 140;(with_reducible refine (HC.out _ _ NE.out G4.out B4.out).mono ?_);rintro e wb ⟨rfl,⟨ns,hbk,hin⟩,hg,hj⟩;obtain ⟨a,c,rfl⟩:=hin.shape;have GB:=zY hg;have BB:=zY hbk;have NB:=zY hin;have HX2:=zY (HX.out hj);clear hg hj hbk hin)
  |(go_at_call 85;(with_reducible refine (HS2.out _ G3.out.par).mono ?_);rintro e w4 ⟨rfl,hb⟩;have G4:=zY (G3.out.later hb);have B4:=zY (B3.out.below hb);clear hb)
  |(go_at_call 85;(with_reducible refine (HS1.out _ G2.out.par).mono ?_);rintro e w3 ⟨rfl,hb⟩;have G3:=zY (G2.out.later hb);have B3:=zY (B2.out.below hb);clear hb)
  |(go_at_call 85;(with_reducible refine (HS0.out _ G1.out.par).mono ?_);rintro e w2 ⟨rfl,hb⟩;have G2:=zY (G1.out.later hb);have B2:=zY (B1.out.below hb);clear hb)
  |(go_at_call 46;(with_reducible refine HA.out.mono ?_);rintro e w1 ⟨rfl,hb⟩;have NE:=zY hb.size;have hb2:=hb.trans (((Below.refl w1.heap.size w1).alloc (Nat.le_refl _) (.cells #[.int .u8 0,qE,qE,qN,qE,.int .i64 0,.int .i64 0,qE,.int .i64 0,.int .i64 0,.int .i64 pl] 103)).mono hb.size);have G1:=zY (zN.stay HPW.out hb2);have B1:Hid (xZ 103 w1.heap.size (w1.alloc (.cells #[.int .u8 0,qE,qE,qN,qE,.int .i64 0,.int .i64 0,qE,.int .i64 0,.int .i64 0,.int .i64 pl] 103)) (zJ 0 [] [] (qN) zV zV pl)):=yN _ _ _;clear hb hb2))
 exact ⟨rfl,rfl,⟨GC.out.par,xV HB0.out GC.out.grown⟩,HX2.out.1⟩
theorem VX (P:Nat) (v:Value) (ts:List yJ) (i:Nat) (W:World) (h:yH P v ts i W) (hE:yQ ts) (hi:i<ts.length) (hl:ts.length<=2000000) (t0:(zM ts i).text≠[97,99,116,111,114]) (t1:(zM ts i).text≠[101,100,103,101]) (t2:(zM ts i).text=[105,110]) (x:zF) (j1 j2:Nat) (hr:dU ts i=(some x,j1)) (hs:yX ts [59] j1=(some (),j2)):
 Calls Tryz.prog 86 #[(qP P)] W (uJ P v ts W (xY ts i)):=by
 have HM:xY ts i=(some x,j2):=by unfold xY uK;rw[if_neg t0,if_neg t1,if_pos t2,hr,zO,hs,zO]
 rw[HM];show Calls _ _ _ _ (fun e w'=>(∃ a c,e=.returned (.agg (zJ x.kind x.name x.tag (.slice a x.nums.length c) x.frm x.tO x.place))/\yZ W.heap.size w' (.slice a x.nums.length c) x.nums)/\zN P v ts j2 W w'/\j2<ts.length)
 clear HM;have hb0:=(Below.refl W.heap.size W).alloc (Nat.le_refl _) (.cells qI 103);have HBK:Hid (v.ownBlock≠some W.heap.size/\P≠W.heap.size):=h.blk (Nat.le_refl _);have HB0:=zY hb0;have hR0:=yN 103 W qI;have hP1:=h.below hb0
 have hWs:(W.alloc (.cells qI 103)).heap.size=W.heap.size+1:=by simp
 have ff:=uF;obtain ⟨W0,hW0⟩:∃W0,W0=W.alloc (.cells qI 103):=⟨_,rfl⟩;rw[<- hW0]at hb0 hR0 hP1 hWs HB0;have HR0:=zY hR0;have HA:=zY (wZ P v ts i W0 hP1 hi hl);have HPW:=zY hP1
 have HBW:Hid (∀ {n:Nat},W0.heap.size<=n->v.ownBlock≠some n/\P≠n):=fun hn=>hP1.blk hn
 have HC:Hid (∀ I w1,W0.heap.size<=I->zN P v ts i W0 w1->xZ 103 I w1 (zJ 0 [] [] (qN) zV zV (zM ts i).place)->Calls Tryz.prog 140 #[(qP P),(qP I)] w1 fun e w'=>e=.returned (.tuple #[])/\(∃ ns,xZ 103 I w' (zJ x.kind x.name x.tag ns x.frm x.tO x.place)/\yZ W0.heap.size w' ns x.nums)/\zN P v ts j1 W0 w'/\j1<ts.length):=fun I w1 q1 q2 q3=>by
  have:=XT P v ts i W0 w1 I _ rfl q2 (fun hn=>hP1.blk hn) q1 q3 hE hi hl t2;rw[hr]at this;exact this
 have HS0:Hid (∀ w1,yH P v ts i w1->Calls Tryz.prog 85 #[(qP P),.string ⟨#[97,99,116,111,114]⟩] w1 fun e w'=>e=.returned (.bool false)/\Below w1.heap.size w1 w'):=fun w1 q=>by
  have:=yA P v ts i w1 q hi hl [97,99,116,111,114];rw[decide_eq_false t0]at this;exact this
 have HS1:Hid (∀ w1,yH P v ts i w1->Calls Tryz.prog 85 #[(qP P),.string ⟨#[101,100,103,101]⟩] w1 fun e w'=>e=.returned (.bool false)/\Below w1.heap.size w1 w'):=fun w1 q=>by
  have:=yA P v ts i w1 q hi hl [101,100,103,101];rw[decide_eq_false t1]at this;exact this
 have HS2:Hid (∀ w1,yH P v ts i w1->Calls Tryz.prog 85 #[(qP P),.string ⟨#[105,110]⟩] w1 fun e w'=>e=.returned (.bool true)/\Below w1.heap.size w1 w'):=fun w1 q=>by
  have:=yA P v ts i w1 q hi hl [105,110];rw[decide_eq_true t2]at this;exact this
 have HX:Hid (j1<ts.length->j2<ts.length/\∀w1,yH P v ts j1 w1->Calls Tryz.prog 83 #[(qP P),.string ⟨#[59]⟩] w1 fun e w'=>e=.returned (.tuple #[])/\zN P v ts j2 w1 w'):=fun hj1=>⟨(zS hs hE hj1 hl (by decide) P v).1,(zS hs hE hj1 hl (by decide) P v).2⟩
 have HWL:Hid (W.heap.size<W0.heap.size):=by show _<_;rw[hWs];omega
 clear hWs;clear h hb0 hR0 hP1 hr hs t0 t1 t2;subst hW0;unfold xH at HA;generalize zM ts i=tk at *;obtain ⟨so,tx,nm,pl⟩:=tk;simp only at HA HC
 go_enter Tryz.func86,Tryz.ntmps86
 go_wp2_with (first
  |(go_at_call 83;(with_reducible refine (HX2.out.2 _ GB.out.par).mono ?_);rintro e wc ⟨rfl,hg⟩;have GC:=zY (GB.out.trans hg);have BC:=BB.out.grown hg.grown (fun e=>(HBW.out NE.out).2 (Option.some.inj e).symm);have NC:=zY (NB.out.grown hg.grown HPW.out.lt);have RC:=HR0.out.grown GC.out.grown (fun e=>HBK.out.2 (Option.some.inj e).symm);obtain ⟨c0,c1,c2,c3,c4,c5,c6,c7,c8,c9,c10⟩:=qC11 BC;obtain ⟨r0,r1,r2,r3,r4,r5,r6,r7,r8,r9,r10⟩:=qC11 RC;have f0:=RC.frozen 0;have f1:=RC.frozen 1;have f2:=RC.frozen 2;have f3:=RC.frozen 3;have f4:=RC.frozen 4;have f5:=RC.frozen 5;have f6:=RC.frozen 6;have f7:=RC.frozen 7;have f8:=RC.frozen 8;have f9:=RC.frozen 9;have f10:=RC.frozen 10;clear BC RC;clear hg)
  |(go_at_call 140;(with_reducible refine (HC.out _ _ NE.out G4.out B4.out).mono ?_);rintro e wb ⟨rfl,⟨ns,hbk,hin⟩,hg,hj⟩;obtain ⟨a,c,rfl⟩:=hin.shape;have GB:=zY hg;have BB:=zY hbk;have NB:=zY hin;have HX2:=zY (HX.out hj);clear hg hj hbk hin)
  |(go_at_call 85;(with_reducible refine (HS2.out _ G3.out.par).mono ?_);rintro e w4 ⟨rfl,hb⟩;have G4:=zY (G3.out.later hb);have B4:=zY (B3.out.below hb);clear hb)
  |(go_at_call 85;(with_reducible refine (HS1.out _ G2.out.par).mono ?_);rintro e w3 ⟨rfl,hb⟩;have G3:=zY (G2.out.later hb);have B3:=zY (B2.out.below hb);clear hb)
  |(go_at_call 85;(with_reducible refine (HS0.out _ G1.out.par).mono ?_);rintro e w2 ⟨rfl,hb⟩;have G2:=zY (G1.out.later hb);have B2:=zY (B1.out.below hb);clear hb)
  |(go_at_call 46;(with_reducible refine HA.out.mono ?_);rintro e w1 ⟨rfl,hb⟩;have NE:=zY hb.size;have hb2:=hb.trans (((Below.refl w1.heap.size w1).alloc (Nat.le_refl _) (.cells #[.int .u8 0,qE,qE,qN,qE,.int .i64 0,.int .i64 0,qE,.int .i64 0,.int .i64 0,.int .i64 pl] 103)).mono hb.size);have G1:=zY (zN.stay HPW.out hb2);have B1:Hid (xZ 103 w1.heap.size (w1.alloc (.cells #[.int .u8 0,qE,qE,qN,qE,.int .i64 0,.int .i64 0,qE,.int .i64 0,.int .i64 0,.int .i64 pl] 103)) (zJ 0 [] [] (qN) zV zV pl)):=yN _ _ _;clear hb hb2))
 exact bodyPost_ret (v:=.agg (zJ x.kind x.name x.tag (.slice a x.nums.length c) x.frm x.tO x.place)) (by simp[results,Tryz.results86,go_sem,r0,r1,r2,r3,r4,r5,r6,r7,r8,r9,r10,zJ]) rfl ⟨⟨a,c,rfl,((((((((((((NC.out.put HWL.out).put HWL.out).put HWL.out).put HWL.out).put HWL.out).put HWL.out).put HWL.out).put HWL.out).put HWL.out).put HWL.out).put HWL.out)).mono (Nat.le_of_lt HWL.out)⟩,((((((((((((show zN P v ts j2 W wc from ⟨GC.out.par,xV HB0.out GC.out.grown⟩).put HBK.out (Nat.le_refl _) _).put HBK.out (Nat.le_refl _) _).put HBK.out (Nat.le_refl _) _).put HBK.out (Nat.le_refl _) _).put HBK.out (Nat.le_refl _) _).put HBK.out (Nat.le_refl _) _).put HBK.out (Nat.le_refl _) _).put HBK.out (Nat.le_refl _) _).put HBK.out (Nat.le_refl _) _).put HBK.out (Nat.le_refl _) _).put HBK.out (Nat.le_refl _) _),HX2.out.1⟩
theorem aW (P:Nat) (v:Value) (ts:List yJ) (i:Nat) (W:World) (h:yH P v ts i W) (hE:yQ ts) (hi:i<ts.length) (hl:ts.length<=2000000) (t0:(zM ts i).text≠[97,99,116,111,114]) (t1:(zM ts i).text≠[101,100,103,101]) (t2:(zM ts i).text≠[105,110]) (j1:Nat) (hr:rX ts i=(none,j1)):
 Calls Tryz.prog 86 #[(qP P)] W (uJ P v ts W (xY ts i)):=by
 have HM:xY ts i=(none,j1):=by unfold xY uK;rw[if_neg t0,if_neg t1,if_neg t2,hr,yS]
 rw[HM];show Calls _ _ _ _ (fun e w'=>e=.panicked zH/\zN P v ts j1 W w'/\j1<ts.length)
 clear HM;have hb0:=(Below.refl W.heap.size W).alloc (Nat.le_refl _) (.cells qI 103);have HBK:Hid (v.ownBlock≠some W.heap.size/\P≠W.heap.size):=h.blk (Nat.le_refl _);have HB0:=zY hb0;have hR0:=yN 103 W qI;have hP1:=h.below hb0
 have hWs:(W.alloc (.cells qI 103)).heap.size=W.heap.size+1:=by simp
 have ff:=uF;obtain ⟨W0,hW0⟩:∃W0,W0=W.alloc (.cells qI 103):=⟨_,rfl⟩;rw[<- hW0]at hb0 hR0 hP1 hWs HB0;have HR0:=zY hR0;have HA:=zY (wZ P v ts i W0 hP1 hi hl);have HPW:=zY hP1
 have HBW:Hid (∀ {n:Nat},W0.heap.size<=n->v.ownBlock≠some n/\P≠n):=fun hn=>hP1.blk hn
 have HC:Hid (∀ I w1,W0.heap.size<=I->zN P v ts i W0 w1->xZ 103 I w1 (zJ 0 [] [] (qN) zV zV (zM ts i).place)->Calls Tryz.prog 141 #[(qP P),(qP I)] w1 fun e w'=>e=.panicked zH/\zN P v ts j1 W0 w'/\j1<ts.length):=fun I w1 q1 q2 q3=>by
  have:=XS P v ts i W0 w1 I _ rfl q2 (fun hn=>hP1.blk hn) q1 q3 hE hi hl;rw[hr]at this;exact this
 have HS0:Hid (∀ w1,yH P v ts i w1->Calls Tryz.prog 85 #[(qP P),.string ⟨#[97,99,116,111,114]⟩] w1 fun e w'=>e=.returned (.bool false)/\Below w1.heap.size w1 w'):=fun w1 q=>by
  have:=yA P v ts i w1 q hi hl [97,99,116,111,114];rw[decide_eq_false t0]at this;exact this
 have HS1:Hid (∀ w1,yH P v ts i w1->Calls Tryz.prog 85 #[(qP P),.string ⟨#[101,100,103,101]⟩] w1 fun e w'=>e=.returned (.bool false)/\Below w1.heap.size w1 w'):=fun w1 q=>by
  have:=yA P v ts i w1 q hi hl [101,100,103,101];rw[decide_eq_false t1]at this;exact this
 have HS2:Hid (∀ w1,yH P v ts i w1->Calls Tryz.prog 85 #[(qP P),.string ⟨#[105,110]⟩] w1 fun e w'=>e=.returned (.bool false)/\Below w1.heap.size w1 w'):=fun w1 q=>by
  have:=yA P v ts i w1 q hi hl [105,110];rw[decide_eq_false t2]at this;exact this
 have HWL:Hid (W.heap.size<W0.heap.size):=by show _<_;rw[hWs];omega
 clear hWs;clear h hb0 hR0 hP1 hr t0 t1 t2;subst hW0;unfold xH at HA;generalize zM ts i=tk at *;obtain ⟨so,tx,nm,pl⟩:=tk;simp only at HA HC
 go_enter Tryz.func86,Tryz.ntmps86
 go_wp2_with (first
  |(go_at_call 141;(with_reducible refine (HC.out _ _ NE.out G4.out B4.out).mono ?_);rintro e wb ⟨rfl,hg,hj⟩;have GB:=zY hg;have HJ:=zY hj;clear hg hj)
  |(go_at_call 85;(with_reducible refine (HS2.out _ G3.out.par).mono ?_);rintro e w4 ⟨rfl,hb⟩;have G4:=zY (G3.out.later hb);have B4:=zY (B3.out.below hb);clear hb)
  |(go_at_call 85;(with_reducible refine (HS1.out _ G2.out.par).mono ?_);rintro e w3 ⟨rfl,hb⟩;have G3:=zY (G2.out.later hb);have B3:=zY (B2.out.below hb);clear hb)
  |(go_at_call 85;(with_reducible refine (HS0.out _ G1.out.par).mono ?_);rintro e w2 ⟨rfl,hb⟩;have G2:=zY (G1.out.later hb);have B2:=zY (B1.out.below hb);clear hb)
  |(go_at_call 46;(with_reducible refine HA.out.mono ?_);rintro e w1 ⟨rfl,hb⟩;have NE:=zY hb.size;have hb2:=hb.trans (((Below.refl w1.heap.size w1).alloc (Nat.le_refl _) (.cells #[.int .u8 0,qE,qE,qN,qE,.int .i64 0,.int .i64 0,qE,.int .i64 0,.int .i64 0,.int .i64 pl] 103)).mono hb.size);have G1:=zY (zN.stay HPW.out hb2);have B1:Hid (xZ 103 w1.heap.size (w1.alloc (.cells #[.int .u8 0,qE,qE,qN,qE,.int .i64 0,.int .i64 0,qE,.int .i64 0,.int .i64 0,.int .i64 pl] 103)) (zJ 0 [] [] (qN) zV zV pl)):=yN _ _ _;clear hb hb2))
 exact ⟨rfl,rfl,⟨GB.out.par,xV HB0.out GB.out.grown⟩,HJ.out⟩
theorem aV (P:Nat) (v:Value) (ts:List yJ) (i:Nat) (W:World) (h:yH P v ts i W) (hE:yQ ts) (hi:i<ts.length) (hl:ts.length<=2000000) (t0:(zM ts i).text≠[97,99,116,111,114]) (t1:(zM ts i).text≠[101,100,103,101]) (t2:(zM ts i).text≠[105,110]) (x:zF) (j1 j2:Nat) (hr:rX ts i=(some x,j1)) (hs:yX ts [59] j1=(none,j2)):
 Calls Tryz.prog 86 #[(qP P)] W (uJ P v ts W (xY ts i)):=by
 have HM:xY ts i=(none,j2):=by unfold xY uK;rw[if_neg t0,if_neg t1,if_neg t2,hr,zO,hs,yS]
 rw[HM];show Calls _ _ _ _ (fun e w'=>e=.panicked zH/\zN P v ts j2 W w'/\j2<ts.length)
 clear HM;have hb0:=(Below.refl W.heap.size W).alloc (Nat.le_refl _) (.cells qI 103);have HBK:Hid (v.ownBlock≠some W.heap.size/\P≠W.heap.size):=h.blk (Nat.le_refl _);have HB0:=zY hb0;have hR0:=yN 103 W qI;have hP1:=h.below hb0
 have hWs:(W.alloc (.cells qI 103)).heap.size=W.heap.size+1:=by simp
 have ff:=uF;obtain ⟨W0,hW0⟩:∃W0,W0=W.alloc (.cells qI 103):=⟨_,rfl⟩;rw[<- hW0]at hb0 hR0 hP1 hWs HB0;have HR0:=zY hR0;have HA:=zY (wZ P v ts i W0 hP1 hi hl);have HPW:=zY hP1
 have HBW:Hid (∀ {n:Nat},W0.heap.size<=n->v.ownBlock≠some n/\P≠n):=fun hn=>hP1.blk hn
 have HC:Hid (∀ I w1,W0.heap.size<=I->zN P v ts i W0 w1->xZ 103 I w1 (zJ 0 [] [] (qN) zV zV (zM ts i).place)->Calls Tryz.prog 141 #[(qP P),(qP I)] w1 fun e w'=>e=.returned (.tuple #[])/\(∃ ns,xZ 103 I w' (zJ x.kind x.name x.tag ns x.frm x.tO x.place)/\yZ W0.heap.size w' ns x.nums)/\zN P v ts j1 W0 w'/\j1<ts.length):=fun I w1 q1 q2 q3=>by
  have:=XS P v ts i W0 w1 I _ rfl q2 (fun hn=>hP1.blk hn) q1 q3 hE hi hl;rw[hr]at this;exact this
 have HS0:Hid (∀ w1,yH P v ts i w1->Calls Tryz.prog 85 #[(qP P),.string ⟨#[97,99,116,111,114]⟩] w1 fun e w'=>e=.returned (.bool false)/\Below w1.heap.size w1 w'):=fun w1 q=>by
  have:=yA P v ts i w1 q hi hl [97,99,116,111,114];rw[decide_eq_false t0]at this;exact this
 have HS1:Hid (∀ w1,yH P v ts i w1->Calls Tryz.prog 85 #[(qP P),.string ⟨#[101,100,103,101]⟩] w1 fun e w'=>e=.returned (.bool false)/\Below w1.heap.size w1 w'):=fun w1 q=>by
  have:=yA P v ts i w1 q hi hl [101,100,103,101];rw[decide_eq_false t1]at this;exact this
 have HS2:Hid (∀ w1,yH P v ts i w1->Calls Tryz.prog 85 #[(qP P),.string ⟨#[105,110]⟩] w1 fun e w'=>e=.returned (.bool false)/\Below w1.heap.size w1 w'):=fun w1 q=>by
  have:=yA P v ts i w1 q hi hl [105,110];rw[decide_eq_false t2]at this;exact this
 have HX:Hid (j1<ts.length->j2<ts.length/\∀w1,yH P v ts j1 w1->Calls Tryz.prog 83 #[(qP P),.string ⟨#[59]⟩] w1 fun e w'=>e=.panicked zH/\zN P v ts j2 w1 w'):=fun hj1=>⟨(yG hs hj1 hl P v).1,(yG hs hj1 hl P v).2⟩
 have HWL:Hid (W.heap.size<W0.heap.size):=by show _<_;rw[hWs];omega
 clear hWs;clear h hb0 hR0 hP1 hr hs t0 t1 t2;subst hW0;unfold xH at HA;generalize zM ts i=tk at *;obtain ⟨so,tx,nm,pl⟩:=tk;simp only at HA HC
 go_enter Tryz.func86,Tryz.ntmps86
 go_wp2_with (first
  |(go_at_call 83;(with_reducible refine (HX2.out.2 _ GB.out.par).mono ?_);rintro e wc ⟨rfl,hg⟩;have GC:=zY (GB.out.trans hg);clear hg)
  |(go_at_call 141;(with_reducible refine (HC.out _ _ NE.out G4.out B4.out).mono ?_);rintro e wb ⟨rfl,⟨ns,hbk,hin⟩,hg,hj⟩;obtain ⟨a,c,rfl⟩:=hin.shape;have GB:=zY hg;have BB:=zY hbk;have NB:=zY hin;have HX2:=zY (HX.out hj);clear hg hj hbk hin)
  |(go_at_call 85;(with_reducible refine (HS2.out _ G3.out.par).mono ?_);rintro e w4 ⟨rfl,hb⟩;have G4:=zY (G3.out.later hb);have B4:=zY (B3.out.below hb);clear hb)
  |(go_at_call 85;(with_reducible refine (HS1.out _ G2.out.par).mono ?_);rintro e w3 ⟨rfl,hb⟩;have G3:=zY (G2.out.later hb);have B3:=zY (B2.out.below hb);clear hb)
  |(go_at_call 85;(with_reducible refine (HS0.out _ G1.out.par).mono ?_);rintro e w2 ⟨rfl,hb⟩;have G2:=zY (G1.out.later hb);have B2:=zY (B1.out.below hb);clear hb)
  |(go_at_call 46;(with_reducible refine HA.out.mono ?_);rintro e w1 ⟨rfl,hb⟩;have NE:=zY hb.size;have hb2:=hb.trans (((Below.refl w1.heap.size w1).alloc (Nat.le_refl _) (.cells #[.int .u8 0,qE,qE,qN,qE,.int .i64 0,.int .i64 0,qE,.int .i64 0,.int .i64 0,.int .i64 pl] 103)).mono hb.size);have G1:=zY (zN.stay HPW.out hb2);have B1:Hid (xZ 103 w1.heap.size (w1.alloc (.cells #[.int .u8 0,qE,qE,qN,qE,.int .i64 0,.int .i64 0,qE,.int .i64 0,.int .i64 0,.int .i64 pl] 103)) (zJ 0 [] [] (qN) zV zV pl)):=yN _ _ _;clear hb hb2))
 exact ⟨rfl,rfl,⟨GC.out.par,xV HB0.out GC.out.grown⟩,HX2.out.1⟩
theorem XP (P:Nat) (v:Value) (ts:List yJ) (i:Nat) (W:World) (h:yH P v ts i W) (hE:yQ ts) (hi:i<ts.length) (hl:ts.length<=2000000) (t0:(zM ts i).text≠[97,99,116,111,114]) (t1:(zM ts i).text≠[101,100,103,101]) (t2:(zM ts i).text≠[105,110]) (x:zF) (j1 j2:Nat) (hr:rX ts i=(some x,j1)) (hs:yX ts [59] j1=(some (),j2)):
 Calls Tryz.prog 86 #[(qP P)] W (uJ P v ts W (xY ts i)):=by
 have HM:xY ts i=(some x,j2):=by unfold xY uK;rw[if_neg t0,if_neg t1,if_neg t2,hr,zO,hs,zO]
 rw[HM];show Calls _ _ _ _ (fun e w'=>(∃ a c,e=.returned (.agg (zJ x.kind x.name x.tag (.slice a x.nums.length c) x.frm x.tO x.place))/\yZ W.heap.size w' (.slice a x.nums.length c) x.nums)/\zN P v ts j2 W w'/\j2<ts.length)
 clear HM;have hb0:=(Below.refl W.heap.size W).alloc (Nat.le_refl _) (.cells qI 103);have HBK:Hid (v.ownBlock≠some W.heap.size/\P≠W.heap.size):=h.blk (Nat.le_refl _);have HB0:=zY hb0;have hR0:=yN 103 W qI;have hP1:=h.below hb0
 have hWs:(W.alloc (.cells qI 103)).heap.size=W.heap.size+1:=by simp
 have ff:=uF;obtain ⟨W0,hW0⟩:∃W0,W0=W.alloc (.cells qI 103):=⟨_,rfl⟩;rw[<- hW0]at hb0 hR0 hP1 hWs HB0;have HR0:=zY hR0;have HA:=zY (wZ P v ts i W0 hP1 hi hl);have HPW:=zY hP1
 have HBW:Hid (∀ {n:Nat},W0.heap.size<=n->v.ownBlock≠some n/\P≠n):=fun hn=>hP1.blk hn
 have HC:Hid (∀ I w1,W0.heap.size<=I->zN P v ts i W0 w1->xZ 103 I w1 (zJ 0 [] [] (qN) zV zV (zM ts i).place)->Calls Tryz.prog 141 #[(qP P),(qP I)] w1 fun e w'=>e=.returned (.tuple #[])/\(∃ ns,xZ 103 I w' (zJ x.kind x.name x.tag ns x.frm x.tO x.place)/\yZ W0.heap.size w' ns x.nums)/\zN P v ts j1 W0 w'/\j1<ts.length):=fun I w1 q1 q2 q3=>by
  have:=XS P v ts i W0 w1 I _ rfl q2 (fun hn=>hP1.blk hn) q1 q3 hE hi hl;rw[hr]at this;exact this
 have HS0:Hid (∀ w1,yH P v ts i w1->Calls Tryz.prog 85 #[(qP P),.string ⟨#[97,99,116,111,114]⟩] w1 fun e w'=>e=.returned (.bool false)/\Below w1.heap.size w1 w'):=fun w1 q=>by
  have:=yA P v ts i w1 q hi hl [97,99,116,111,114];rw[decide_eq_false t0]at this;exact this
 have HS1:Hid (∀ w1,yH P v ts i w1->Calls Tryz.prog 85 #[(qP P),.string ⟨#[101,100,103,101]⟩] w1 fun e w'=>e=.returned (.bool false)/\Below w1.heap.size w1 w'):=fun w1 q=>by
  have:=yA P v ts i w1 q hi hl [101,100,103,101];rw[decide_eq_false t1]at this;exact this
 have HS2:Hid (∀ w1,yH P v ts i w1->Calls Tryz.prog 85 #[(qP P),.string ⟨#[105,110]⟩] w1 fun e w'=>e=.returned (.bool false)/\Below w1.heap.size w1 w'):=fun w1 q=>by
  have:=yA P v ts i w1 q hi hl [105,110];rw[decide_eq_false t2]at this;exact this
 have HX:Hid (j1<ts.length->j2<ts.length/\∀w1,yH P v ts j1 w1->Calls Tryz.prog 83 #[(qP P),.string ⟨#[59]⟩] w1 fun e w'=>e=.returned (.tuple #[])/\zN P v ts j2 w1 w'):=fun hj1=>⟨(zS hs hE hj1 hl (by decide) P v).1,(zS hs hE hj1 hl (by decide) P v).2⟩
 have HWL:Hid (W.heap.size<W0.heap.size):=by show _<_;rw[hWs];omega
 clear hWs;clear h hb0 hR0 hP1 hr hs t0 t1 t2;subst hW0;unfold xH at HA;generalize zM ts i=tk at *;obtain ⟨so,tx,nm,pl⟩:=tk;simp only at HA HC
 go_enter Tryz.func86,Tryz.ntmps86
 go_wp2_with (first
  |(go_at_call 83;(with_reducible refine (HX2.out.2 _ GB.out.par).mono ?_);rintro e wc ⟨rfl,hg⟩;have GC:=zY (GB.out.trans hg);have BC:=BB.out.grown hg.grown (fun e=>(HBW.out NE.out).2 (Option.some.inj e).symm);have NC:=zY (NB.out.grown hg.grown HPW.out.lt);have RC:=HR0.out.grown GC.out.grown (fun e=>HBK.out.2 (Option.some.inj e).symm);obtain ⟨c0,c1,c2,c3,c4,c5,c6,c7,c8,c9,c10⟩:=qC11 BC;obtain ⟨r0,r1,r2,r3,r4,r5,r6,r7,r8,r9,r10⟩:=qC11 RC;have f0:=RC.frozen 0;have f1:=RC.frozen 1;have f2:=RC.frozen 2;have f3:=RC.frozen 3;have f4:=RC.frozen 4;have f5:=RC.frozen 5;have f6:=RC.frozen 6;have f7:=RC.frozen 7;have f8:=RC.frozen 8;have f9:=RC.frozen 9;have f10:=RC.frozen 10;clear BC RC;clear hg)
  |(go_at_call 141;(with_reducible refine (HC.out _ _ NE.out G4.out B4.out).mono ?_);rintro e wb ⟨rfl,⟨ns,hbk,hin⟩,hg,hj⟩;obtain ⟨a,c,rfl⟩:=hin.shape;have GB:=zY hg;have BB:=zY hbk;have NB:=zY hin;have HX2:=zY (HX.out hj);clear hg hj hbk hin)
  |(go_at_call 85;(with_reducible refine (HS2.out _ G3.out.par).mono ?_);rintro e w4 ⟨rfl,hb⟩;have G4:=zY (G3.out.later hb);have B4:=zY (B3.out.below hb);clear hb)
  |(go_at_call 85;(with_reducible refine (HS1.out _ G2.out.par).mono ?_);rintro e w3 ⟨rfl,hb⟩;have G3:=zY (G2.out.later hb);have B3:=zY (B2.out.below hb);clear hb)
  |(go_at_call 85;(with_reducible refine (HS0.out _ G1.out.par).mono ?_);rintro e w2 ⟨rfl,hb⟩;have G2:=zY (G1.out.later hb);have B2:=zY (B1.out.below hb);clear hb)
  |(go_at_call 46;(with_reducible refine HA.out.mono ?_);rintro e w1 ⟨rfl,hb⟩;have NE:=zY hb.size;have hb2:=hb.trans (((Below.refl w1.heap.size w1).alloc (Nat.le_refl _) (.cells #[.int .u8 0,qE,qE,qN,qE,.int .i64 0,.int .i64 0,qE,.int .i64 0,.int .i64 0,.int .i64 pl] 103)).mono hb.size);have G1:=zY (zN.stay HPW.out hb2);have B1:Hid (xZ 103 w1.heap.size (w1.alloc (.cells #[.int .u8 0,qE,qE,qN,qE,.int .i64 0,.int .i64 0,qE,.int .i64 0,.int .i64 0,.int .i64 pl] 103)) (zJ 0 [] [] (qN) zV zV pl)):=yN _ _ _;clear hb hb2))
 exact bodyPost_ret (v:=.agg (zJ x.kind x.name x.tag (.slice a x.nums.length c) x.frm x.tO x.place)) (by simp[results,Tryz.results86,go_sem,r0,r1,r2,r3,r4,r5,r6,r7,r8,r9,r10,zJ]) rfl ⟨⟨a,c,rfl,((((((((((((NC.out.put HWL.out).put HWL.out).put HWL.out).put HWL.out).put HWL.out).put HWL.out).put HWL.out).put HWL.out).put HWL.out).put HWL.out).put HWL.out)).mono (Nat.le_of_lt HWL.out)⟩,((((((((((((show zN P v ts j2 W wc from ⟨GC.out.par,xV HB0.out GC.out.grown⟩).put HBK.out (Nat.le_refl _) _).put HBK.out (Nat.le_refl _) _).put HBK.out (Nat.le_refl _) _).put HBK.out (Nat.le_refl _) _).put HBK.out (Nat.le_refl _) _).put HBK.out (Nat.le_refl _) _).put HBK.out (Nat.le_refl _) _).put HBK.out (Nat.le_refl _) _).put HBK.out (Nat.le_refl _) _).put HBK.out (Nat.le_refl _) _).put HBK.out (Nat.le_refl _) _),HX2.out.1⟩
end Go.Proofs.YtdcjdnkdeamigaaGreatDoor
