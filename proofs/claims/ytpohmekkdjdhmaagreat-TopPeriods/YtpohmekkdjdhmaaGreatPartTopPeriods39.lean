/- Texts of one chain. -/
import Derived.Test.YtpohmekkdjdhmaaGreatPartQ
import Derived.Test.YtpohmekkdjdhmaaGreatPartTopPeriods34
import Derived.Test.YtpohmekkdjdhmaaGreatPartTopPeriods15
import Derived.Test.YtpohmekkdjdhmaaGreatPartTopPeriods38
import Derived.Laws.AppendOwnNone
set_option maxRecDepth 100000
set_option maxHeartbeats 16000000
namespace Go.Proofs.YtpohmekkdjdhmaaGreat
open Go.ChangeShapes Go.WideShapes Go.ChangeAt Go.RowKit
theorem lY {w:World} {ops:Array Oper} {rest:List Oper} {o:Oper} {a:Act} {Q:Exit->Act->World->Prop} (hgd:o.guard=none) (s x:Operand) (ho:o.op=.call { callee:=.builtin .append,args:=#[s,x],argTypes:=#[27,27] })
 (B:Nat) (d0:Option Addr) (c0:Nat) (zs:List Int) (hs:a.eval s=.slice d0 zs.length c0) (hown:zO B w d0 c0 zs) (ad:Option Addr) (c:Nat) (ys:List Int) (hx:a.eval x=.slice ad ys.length c) (hna:ad=none->ys.length=0/\c=0) (hat:At w ad ys) (hb:(zs.length+ys.length)*8<=140737488355328) (hB:B<=w.heap.size) (m:Nat) (R:List Int) (hm:zs.length+ys.length=m) (hR:zs++ys=R)
 (h:∀d c' w',zO B w' d c' R->Below B w w'->wpList Tryz.prog ops Q rest (a.put o.dst (.slice d m c')) w'):wpList Tryz.prog ops Q (o::rest) a w:=by
 subst hm;subst hR;obtain ⟨i0,hi,hz0,hz1,hz2⟩:=info_parts Tryz.info3
 cases ad with
 |none=>
  obtain ⟨h1,rfl⟩:=hna rfl;have e:ys=[]:=List.eq_nil_of_length_eq_zero h1;subst e;refine wpList_append_own_none hgd s x 27 ho B 3 i0 1 Tryz.underlying27 hi _ zs.length (zs.map (Value.int .i64)) hs hown hx ?_
  have:=h d0 c0 w (by rw[List.append_nil];exact hown) (Below.refl _ _)
  simpa using this
 |some ad=>
  refine wpList_append_own _ hgd s x 27 ho B 3 i0 (.int .i64 0) 1 8 Tryz.underlying27 hi hz0 hz1 hz2 rfl (by decide) _ zs.length (zs.map (Value.int .i64)) hs hown ad ys.length c (ys.map (Value.int .i64)) hx (by simp) (iU hat) (ints_oneCell _ _) (by unfold maxLen;omega) (by omega) hB ?_
  intro v' w1 hown1 hgrow _
  have hown':w1.ownsRow B 3 1 v' (zs.length+ys.length) ((zs++ys).map (Value.int .i64)):=by simpa using hown1
  obtain ⟨a',cap',hv,-,-,-,-,-⟩:=iV (n:=zs.length+ys.length) (zs:=zs++ys) hown';rw[hv]
  refine h a' cap' w1 ?_ ((Below.refl _ _).grown hgrow hB (fun k hk=>(hown.lt ⟨k,0,none⟩ (by
   cases d0 with
   |none=>cases hk
   |some y=>
    rcases hown.2 with ⟨e1,-⟩|⟨g,cap,cur,e1,-⟩
    ·cases e1
    cases e1;cases hk;rfl)).1))
  unfold zO;rw[List.length_append,<-hv];exact hown'
theorem zUW (n:NN) (a:Option Addr) (c:Nat) (w:World) (h:jE w a c n) (hc:zN n=0) (U:World) (hb:Below w.heap.size w U):Calls Tryz.prog 9 #[.agg #[.int .i64 n.nodes,.slice a n.arcs.length c]] U fun e w'=>∃K E,e=.returned (.tuple #[(qP K),.int .i64 0])/\tB U.heap.size E w' K n (zH n) (List.replicate n.nodes.toNat 0)/\Below U.heap.size U w':=by
 refine (PG n a c U (h.lies.below hb) (by have:=h.room;omega) h.none).mono ?_
 intro e w' hh;unfold JS at hh;rw[if_pos hc]at hh;exact hh
theorem zOS (U:World) (a1 a2:Option Addr) (zs:List Int) (c1 c2:Nat) (hl:zs.length<=4611686018427387904) (h1:At U a1 zs) (h2:At U a2 zs):Calls Tryz.prog 12 #[.slice a1 zs.length c1,.slice a2 zs.length c2] U fun e w'=>e=.returned (.bool true)/\Below U.heap.size U w':=
 (zXB a1 a2 zs zs.length c1 c2 U rfl hl h1 h2).mono fun e w' hh=>by
  obtain ⟨n,h1,rfl⟩:=hh;exact ⟨h1,gX (Below.refl _ _) n⟩
theorem tB.mid {B E B' E':Nat} {w w':World} {K:Nat} {n:NN} {T F:List Int} (h:tB B E w K n T F) (hm:uA B' E' w w') (hd:E<=B'\/E'<=B):tB B E w' K n T F:=
 h.keep (fun k h1 h2=>hm.block k (Nat.lt_of_lt_of_le h2 h.low.2) (by omega)) hm.size
structure zNI (w : World) (n : NN) (B1 E1 K1 B2 E2 K2 : Nat) (T F T' F' : List Int) (U : World) : Prop where
 s:tB B1 E1 U K1 n T F
 t:tB B2 E2 U K2 n T' F'
 bel:Below w.heap.size w U
theorem zNI.below {w:World} {n:NN} {B1 E1 K1 B2 E2 K2:Nat} {T F T' F':List Int} {U U':World} (h:zNI w n B1 E1 K1 B2 E2 K2 T F T' F' U) (hb:Below U.heap.size U U'):zNI w n B1 E1 K1 B2 E2 K2 T F T' F' U':=⟨h.s.below hb,h.t.below hb,h.bel.trans (hb.mono h.bel.size)⟩
theorem zUV:(Tryz.prog.info? 30).map (·.size)=some 2:=by kernel_rfl
def gS (m v:Int):Bool:=decide (0<=v)&&decide (v<m)
theorem WL (w:World) (q:Nat):Below w.heap.size w (w.drewN q):=⟨rfl,rfl,rfl,Nat.le_refl _,fun _ _=>rfl⟩
theorem ZX {w0:World} {B g n:Nat} (h:w0.ownsRow B 3 1 (.slice (some ⟨g,0,none⟩) n n) n (madeCells (Value.cells (.int .i64 0)) (n*1)).toList):zO B w0 (some ⟨g,0,none⟩) n (List.replicate n 0):=by
 unfold zO
 have e:(madeCells (Value.cells (.int .i64 0)) (n*1)).toList=(List.replicate n 0).map (Value.int .i64):=by
  show (madeCells #[.int .i64 0] (n*1)).toList=_
  apply List.ext_getElem?
  intro k;rw[Nat.mul_one]
  by_cases hk:k<n<;>simp[madeCells,hk,Nat.mod_one]
 rw[e]at h
 simpa using h
theorem oK {T:TypeId} {b K:Nat} {u u':World} {cs:Array Value} (h:zE T b u cs) (hb:xX K u u') (hK:b≠K):zE T b u' cs:=h.keep (hb.block b h.lt hK)
structure nP (B : Nat) (w : World) (hb lb g n : Nat) (L : Nat -> Nat) : Prop where
 hc:w.cell? ⟨hb,0,none⟩=some (.func (.func 70) #[] #[(qP lb)])
 lc:w.cell? ⟨lb,0,none⟩=some (.slice (some ⟨g,0,none⟩) n n)
 row:zO B w (some ⟨g,0,none⟩) n (yV n L)
 hg:hb≠g
 lg:lb≠g
 hB:B<=hb
 lB:B<=lb
theorem nP.below {B:Nat} {w w':World} {hb lb g n:Nat} {L:Nat->Nat} (h:nP B w hb lb g n L) (hw:Below w.heap.size w w'):nP B w' hb lb g n L:=
 ⟨zW hw h.hc,zW hw h.lc,h.row.later hw,h.hg,h.lg,h.hB,h.lB⟩
theorem nP.cell {B:Nat} {w:World} {hb lb g n:Nat} {L:Nat->Nat} (h:nP B w hb lb g n L) {k:Nat} (hk:k<n):w.cell? ⟨g,k,none⟩=some (.int .i64 (L k:Int)):=by
 rcases h.row.at with e|⟨b,off,e,hc⟩
 ·have:=yY n L
  rw[e]at this;simp at this;omega
 cases e
 have:=hc k (by rw[yY];exact hk);rw[vS hk,Nat.zero_add]at this;exact this
theorem nP.glt {B:Nat} {w:World} {hb lb g n:Nat} {L:Nat->Nat} (h:nP B w hb lb g n L):B<=g/\g<w.heap.size:=h.row.lt _ rfl
theorem nP.set {B:Nat} {w:World} {hb lb g n:Nat} {L:Nat->Nat} (h:nP B w hb lb g n L) {k x:Nat} :nP B (w.setCell ⟨g,k,none⟩ (.int .i64 (x:Int))) hb lb g n (iN L k x):=by
 refine ⟨?_,?_,?_,h.hg,h.lg,h.hB,h.lB⟩
 ·rw [World.cell?_setCell_other _ _ _ _ (fun e=>h.hg (by cases e;rfl))];exact h.hc
 ·rw [World.cell?_setCell_other _ _ _ _ (fun e=>h.lg (by cases e;rfl))];exact h.lc
 rw[<- bR];exact h.row.setAt _
theorem ZW {B:Nat} {w:World} {hb lb g n:Nat} {L H:Nat->Nat} (h:nP B w hb lb g n L) (hU:UfF n L H) (v:Nat) (hv:v<n):
 Calls Tryz.prog 70 #[.int .i64 (v:Int),(qP lb)] w fun e w'=>e=.returned (.int .i64 (H v:Int))/\w'=w:=by
 have lc:=h.lc;have CR:=zZ (fun k (hk:k<n)=>h.cell hk);have HU:=zZ hU;clear h hU
 go_enter Tryz.func70,Tryz.ntmps70
 go_wp2
 go_loopg [0] v (fun gk u wr=>∃q:Nat,q<n/\gk=q/\u=.int .i64 (q:Int)/\H q=H v/\w=wr)
 case atStart=>exact ⟨v,hv,rfl,rfl,rfl,rfl⟩
 case round=>
  obtain ⟨q,hq,rfl,rfl,hH,rfl⟩:=hrel;have HH:=zZ hH;clear hH;have c0:=CR.out gk hq
  have hki:(gk:Int)<(n:Int):=by omega
  have hle:=HU.out.le gk hq;have SM:=zZ (HU.out.same gk hq);have FX:=zZ (HU.out.fix gk hq);generalize L gk=p at *
  by_cases hp:p=gk
  ·have E9:=zZ (FX.out.1 hp)
   subst hp;clear FX SM
   go_wp2
   go_ret
   exact ⟨by rw[<- HH.out,E9.out];rfl,rfl⟩
  have hpi:¬(p:Int)=(gk:Int):=by omega
  go_wp2
  go_roundg p
  case measure=>omega
  case rel=>exact ⟨p,by omega,rfl,rfl,SM.out.trans HH.out,rfl⟩
theorem zUU {B:Nat} {w:World} {hb lb g n:Nat} {L H:Nat->Nat} (h:nP B w hb lb g n L) (hU:UfF n L H) (hH:∀v,H v<=v) (a b:Nat) (ha:a<n) (hb':b<n):
 Calls Tryz.prog 71 #[.int .i64 (a:Int),.int .i64 (b:Int),(qP hb),(qP lb)] w fun e w'=>e=.returned (.bool (!decide (H a=H b)))/\nP B w' hb lb g n (iN L (max (H a) (H b)) (min (H a) (H b)))/\xX g w w':=by
 have hc:=h.hc;have HF:=zZ h
 have Ha:Hid (∀ m,Calls Tryz.prog 70 #[.int .i64 (a:Int),(qP lb)] (w.drewN m) fun e w'=>e=.returned (.int .i64 (H a:Int))/\w'=w.drewN m):=fun m=>ZW (h.below (WL _ _)) hU a ha
 have Hb:Hid (∀ m,Calls Tryz.prog 70 #[.int .i64 (b:Int),(qP lb)] (w.drewN m) fun e w'=>e=.returned (.int .i64 (H b:Int))/\w'=w.drewN m):=fun m=>ZW (h.below (WL _ _)) hU b hb'
 have xa:=hH a;have xb:=hH b;clear h hU hH;generalize H a=x at *;generalize H b=y at *
 go_enter Tryz.func71,Tryz.ntmps71
 go_upto_region 1 with fail
 go_quiet (first|(go_at_call 70;(with_reducible refine Calls.quiet_of_same (Ha.out _)))|(go_at_call 70;(with_reducible refine Calls.quiet_of_same (Hb.out _))))
 have hl:=HF.out.below (WL w nq);have bt:xX g w (w.drewN nq):=xX.of_below (WL w nq);have HL:=zZ hl;have BT:=zZ bt;have lc:=hl.lc;have c9:=hl.cell (k:=max x y) (by omega);have f9:=hl.row.fz (max x y);clear hl bt HF Ha Hb hc;generalize w.drewN nq=W at *
 have hmI:(max x y:Nat)<n:=by omega
 have ST:=zZ (HL.out.set (k:=max x y) (x:=min x y))
 rcases Nat.lt_trichotomy x y with l|l|l
 ·have l':¬y<x:=by omega
  have hne:¬x=y:=by omega
  have L1:Hid (max x y=y):=by show _=_;omega
  have L2:Hid (min x y=x):=by show _=_;omega
  rw[L1.out]at c9 f9 hmI ST;rw[L2.out]at ST
  have hyI:(y:Int)<(n:Int):=by omega
  go_wp2
  go_ret
  exact ⟨by simp[hne];omega,by rw[L1.out,L2.out];exact ST.out,BT.out.trans (xX.set W g y _)⟩
 ·subst l
  have l':¬x<x:=by omega
  have L1:Hid (max x x=x):=by show _=_;omega
  have L2:Hid (min x x=x):=by show _=_;omega
  rw[L1.out]at c9 f9 hmI ST;rw[L2.out]at ST
  have hyI:(x:Int)<(n:Int):=by omega
  go_wp2
  go_ret
  exact ⟨by simp,by first|exact ST.out|(rw [L1.out,L2.out];exact ST.out),BT.out.trans (xX.set W g x _)⟩
 have l':¬x<y:=by omega
 have hne:¬x=y:=by omega
 have L1:Hid (max x y=x):=by show _=_;omega
 have L2:Hid (min x y=y):=by show _=_;omega
 rw[L1.out]at c9 f9 hmI ST;rw[L2.out]at ST
 have hyI:(x:Int)<(n:Int):=by omega
 go_wp2
 go_ret
 exact ⟨by simp[hne];omega,by rw[L1.out,L2.out];exact ST.out,BT.out.trans (xX.set W g x _)⟩
def zNH (w:World) (n:Nat) (e:Ending) (w':World):Prop:=
 ∃hb lb g,e=.returned (.tuple #[.func (.func 71) #[] #[(qP hb),(qP lb)],.func (.func 70) #[] #[(qP lb)]])/\nP w.heap.size w' hb lb g n (fun v=>v)/\Below w.heap.size w w'
theorem zUT {K:Nat} (w:World):xX K w w.drew:=⟨rfl,rfl,rfl,Nat.le_refl _,fun _ _ _=>rfl⟩
theorem zZS {w V0 wr W9 U:World} {hb lb g n:Nat} (hw:w.heap.size=hb) (g0:hb<g) (g1:g<lb) (be:Below w.heap.size w V0) (lx:zE 27 lb V0 #[.slice (some ⟨g,0,none⟩) n n]) (rw':zO g wr (some ⟨g,0,none⟩) n (yV n (fun v=>v))) (bt:xX g V0 wr) (b9:xX hb wr W9) (bu:xX hb W9 U)
 (hc:U.cell? ⟨hb,0,none⟩=some (.func (.func 70) #[] #[(qP lb)])):
 zNH w n (.returned (.tuple #[.func (.func 71) #[] #[(qP hb),(qP lb)],.func (.func 70) #[] #[(qP lb)]])) U:=by
 have l1:=oK (oK (oK lx bt (by omega)) b9 (by omega)) bu (by omega);refine ⟨hb,lb,g,rfl,⟨hc,l1.cell (k:=0) rfl,?_,by omega,by omega,by omega,by omega⟩,?_⟩
 ·have r1:zO g W9 (some ⟨g,0,none⟩) n (yV n (fun v=>v)):=rw'.keep fun x hx=>by
   cases hx
   exact b9.block g (rw'.lt _ rfl).2 (by omega)
  have r2:zO g U (some ⟨g,0,none⟩) n (yV n (fun v=>v)):=r1.keep fun x hx=>by
   cases hx
   exact bu.block g (r1.lt _ rfl).2 (by omega)
  exact r2.mono (by omega)
 have s1:=be.size;have s2:=bt.size;have s3:=b9.size;exact ⟨bu.os.trans (b9.os.trans (bt.os.trans be.os)),bu.tape.trans (b9.tape.trans (bt.tape.trans be.tape)),bu.output.trans (b9.output.trans (bt.output.trans be.output)),Nat.le_trans (Nat.le_trans s1 s2) (Nat.le_trans s3 bu.size),fun k hk=>(bu.block k (by omega) (by omega)).trans ((b9.block k (by omega) (by omega)).trans ((bt.block k (by omega) (by omega)).trans (be.block k hk)))⟩
theorem zZR (n:Nat):List.replicate n (0:Int)=yV n (fun v=>if v<0 then v else 0):=by
 unfold yV
 apply List.ext_getElem
 ·simp
 intro i h1 h2;simp
theorem zZQ {n:Nat} :yV n (fun v=>if v<n then v else 0)=yV n (fun v=>v):=by
 unfold yV
 apply List.map_congr_left
 intro v hv;have:=List.mem_range.1 hv;simp[this]
theorem zZP (q:Nat):iN (fun v=>if v<q then v else 0) q q=fun v=>if v<q+1 then v else 0:=by
 funext v
 show (if v=q then q else if v<q then v else 0)=if v<q+1 then v else 0
 split
 ·rw [if_pos (by omega)];omega
 split
 ·rw [if_pos (by omega)]
 rw[if_neg (by omega)]
theorem zZO (w:World) (n:Nat) (hn:n<=1000):Calls Tryz.prog 39 #[.int .i64 (n:Int)] w (zNH w n):=by
 have hmf:∀(fn:Fn) (first cap:Array Value) (w:World),(Instr.makeFunc fn first cap).run Tryz.prog w=.ok (.func fn first cap) w:=fun _ _ _ _=>rfl
 have hsf:=fun (a:Addr) (fn:Fn) (c:Array Value) (w:World)=>run_store Tryz.prog w a (.func fn #[] c) .plain rfl
 obtain ⟨i0,hi,hz0,hz1,hz2⟩:=info_parts Tryz.info3;have b0:=(Below.refl w.heap.size w).alloc (Nat.le_refl _) (.cells #[.nilFunc] 108);have X0:=zZ (zV 108 w #[.nilFunc]);have B0:=zZ b0;have hs0:(w.alloc (.cells #[.nilFunc] 108)).heap.size=w.heap.size+1:=World.size_alloc _ _;have S0:=zZ hs0;clear b0 hs0;obtain ⟨OE,hOE⟩:∃R,zNH w n=R:=⟨_,rfl⟩;rw[hOE];have HOE:=zZ hOE;clear hOE
 go_enter Tryz.func39,Tryz.ntmps39
 go_upto_region 1 with fail
 generalize w.alloc (.cells #[.nilFunc] 108)=W0 at *
 go_upto_region 2 with (at_make;refine wpList_make_full _ rfl _ _ 27 rfl W0.heap.size 3 i0 (.int .i64 0) 1 Tryz.underlying27 hi hz0 hz1 _ _ _ _ n rfl rfl rfl rfl (by rw[hz2];omega) (by unfold maxLen;omega) (Nat.le_refl _) ?_;intro w1 hown0 hgrow0;have C0:=zZ (ZX hown0);have B1:=zZ ((Below.refl W0.heap.size W0).grown hgrow0 (Nat.le_refl _) (fun k h=>by cases h));clear hown0 hgrow0)
 have b2:=(Below.refl w1.heap.size w1).alloc (Nat.le_refl _) (.cells #[.slice (some ⟨W0.heap.size,0,none⟩) n n] 27);have LX:=zZ (zV 27 w1 #[.slice (some ⟨W0.heap.size,0,none⟩) n n]);have HX:=zZ ((X0.out.below B1.out).below b2);have C1:=zZ (C0.out.later b2);have g1:=(C0.out.lt _ rfl).2;have BE:=zZ ((B0.out.trans (B1.out.mono B0.out.size)).trans (b2.mono (by have:=B0.out.size;have:=B1.out.size;omega)));have g0:w.heap.size<W0.heap.size:=X0.out.lt;simp only at g1;rw[zZR]at C1;clear b2 B1 C0 X0 B0 S0;obtain ⟨hb,hhb⟩:∃q,w.heap.size=q:=⟨_,rfl⟩;obtain ⟨g,hg⟩:∃q,W0.heap.size=q:=⟨_,rfl⟩;obtain ⟨lb,hlb⟩:∃q,w1.heap.size=q:=⟨_,rfl⟩;rw[hhb]at g0 HX ⊢;rw[hg]at g0 g1 LX C1 HX BE ⊢;rw[hlb]at g1 LX ⊢;have HHB:=zZ hhb;generalize w1.alloc (.cells #[.slice (some ⟨g,0,none⟩) n n] 27)=V0 at *;clear hg hlb hhb;have l0:=LX.out.cell (k:=0) rfl;simp only[List.getElem_toArray,List.getElem_cons_zero]at l0
 go_upto_region 3 with fail
 go_loopg [10] n (fun gk u wr=>∃q:Nat,q<=n/\gk=n-q/\u=.int .i64 (q:Int)/\zO g wr (some ⟨g,0,none⟩) n (yV n (fun v=>if v<q then v else 0))/\xX g V0 wr)
 case atStart=>exact ⟨0,Nat.zero_le _,rfl,rfl,C1.out,xX.of_below (Below.refl _ _)⟩
 case round=>
  clear C1 l0;obtain ⟨q,hq,rfl,rfl,hr,hbt⟩:=hrel;have RW:=zZ hr;have BT:=zZ hbt;have l0:=(oK LX.out hbt (by omega)).cell (k:=0) rfl;simp only[List.getElem_toArray,List.getElem_cons_zero]at l0;clear hr hbt
  by_cases hlt:q<n
  ·have hki:(q:Int)<(n:Int):=by omega
   obtain ⟨z,c0⟩:∃z,wr.cell? ⟨g,q,none⟩=some (.int .i64 z):=by
    rcases RW.out.at with e|⟨b,off,e,hc⟩
    ·have:=yY n (fun v=>if v<q then v else 0)
     rw[e]at this;simp at this;omega
    cases e
    have:=hc q (by rw[yY];exact hlt);rw[Nat.zero_add]at this;exact ⟨_,this⟩
   have f0:=RW.out.fz q;have R2:=RW.out.setAt (k:=q) (q:Int);rw[bR,zZP]at R2;have RN:=zZ R2;have BN:=zZ (BT.out.trans (xX.set wr g q (.int .i64 (q:Int))));clear R2 RW BT
   go_wp2
   go_roundg (n-(q+1))
   case measure=>omega
   case rel=>exact ⟨q+1,by omega,rfl,by go_num,RN.out,BN.out⟩
  have ek:q=n:=by omega
  have hki:¬(q:Int)<(n:Int):=by omega
  rw[ek,zZQ]at RW;clear ek;have h0:=oK HX.out BT.out (by omega);have c0:=h0.cell (k:=0) rfl;have f0:=h0.frozen 0;simp only[List.getElem_toArray,List.getElem_cons_zero]at c0;have H0:=zZ h0;clear h0
  go_wp2
  have h9:=H0.out.set 0 (.func (.func 70) #[] #[(qP lb)]);have H9:Hid (zE 108 hb (wr.setCell ⟨hb,0,none⟩ (.func (.func 70) #[] #[(qP lb)])) #[.func (.func 70) #[] #[(qP lb)]]):=h9;have B9:Hid (xX hb wr (wr.setCell ⟨hb,0,none⟩ (.func (.func 70) #[] #[(qP lb)]))):=xX.set wr hb 0 _;clear h9 c0 f0 l0;generalize wr.setCell ⟨hb,0,none⟩ (.func (.func 70) #[] #[(qP lb)])=W9 at *;have c0:=H9.out.cell (k:=0) rfl;have f0:=H9.out.frozen 0;simp only[List.getElem_toArray,List.getElem_cons_zero]at c0;have c1:(W9.setCell ⟨hb,0,none⟩ (.func (.func 70) #[] #[(qP lb)])).cell? ⟨hb,0,none⟩=some (.func (.func 70) #[] #[(qP lb)]):=World.cell?_setCell_same _ _ _ c0
  go_region
  all_goals go_wp2
  all_goals refine bodyPost_ret (v:=.tuple #[.func (.func 71) #[] #[(qP hb),(qP lb)],.func (.func 70) #[] #[(qP lb)]]) (by simp[results,Tryz.results39,go_sem,c1]) rfl ?_
  all_goals rw[<- HOE.out]
  all_goals exact zZS HHB.out g0 g1 BE.out LX.out RW.out BT.out B9.out ((xX.set W9 hb 0 _).trans (zUT _)) c1
def zZN (n:NN) (w:World) (e:Ending) (w':World):Prop:=
 if zN n=0 then ∃d1 c1 d2 c2,e=.returned (.tuple #[.agg #[.slice d1 (yC (yJ n.arcs n.arcs.length)).length c1,.slice d2 (yV n.nodes.toNat (zQ n.arcs n.arcs.length)).length c2],.int .i64 0])/\zO w.heap.size w' d1 c1 (yC (yJ n.arcs n.arcs.length))/\zO w.heap.size w' d2 c2 (yV n.nodes.toNat (zQ n.arcs n.arcs.length))/\(∀ x y,d1=some x->d2=some y->x.block≠y.block)/\Below w.heap.size w w'
 else e=.returned (.tuple #[.agg #[qN,qN],.int .i64 (zN n)])/\Below w.heap.size w w'
structure F1S (n B0 B1 : Nat) (W1 wr : World) (hb lb g fb : Nat) (H : Nat -> Nat) (T : List Nat) (d : Option Addr) (c : Nat) : Prop where
 loo:∃L,nP B0 wr hb lb g n L/\UfF n L H
 blk:zE 69 fb wr #[.slice d (yC T).length c,qN]
 row:zO B1 wr d c (yC T)
 frm:∀k,k<fb->k≠g->wr.heap[k]? =W1.heap[k]?
 os:wr.os=W1.os
 tape:wr.tape=W1.tape
 output:wr.output=W1.output
 size:B1<=wr.heap.size
 low:g<fb/\hb<fb/\lb<fb/\fb<B1
theorem nP.keep {B:Nat} {w w':World} {hb lb g n:Nat} {L:Nat->Nat} (h:nP B w hb lb g n L) (h1:w'.heap[hb]? =w.heap[hb]?) (h2:w'.heap[lb]? =w.heap[lb]?) (h3:w'.heap[g]? =w.heap[g]?):nP B w' hb lb g n L:=by
 refine ⟨?_,?_,h.row.keep (fun x hx=>by cases hx;exact h3),h.hg,h.lg,h.hB,h.lB⟩
 ·have:=h.hc;unfold World.cell? at this ⊢;rw[h1];exact this
 have:=h.lc;unfold World.cell? at this ⊢;rw[h2];exact this
theorem F1S.below {n B0 B1:Nat} {W1 wr w':World} {hb lb g fb:Nat} {H:Nat->Nat} {T:List Nat} {d:Option Addr} {c:Nat} (h:F1S n B0 B1 W1 wr hb lb g fb H T d c) (hw:Below wr.heap.size wr w'):F1S n B0 B1 W1 w' hb lb g fb H T d c:=by
 obtain ⟨L,h1,h2⟩:=h.loo;have l:=h.low;have s:=h.size;exact ⟨⟨L,h1.below hw,h2⟩,h.blk.below hw,h.row.later hw,fun k hk hn=>(hw.block k (by omega)).trans (h.frm k hk hn),hw.os.trans h.os,hw.tape.trans h.tape,hw.output.trans h.output,Nat.le_trans h.size hw.size,h.low⟩
theorem F1S.join {n B0 B1:Nat} {W1 wr w':World} {hb lb g fb:Nat} {H H':Nat->Nat} {T:List Nat} {d:Option Addr} {c:Nat} {L':Nat->Nat} (h:F1S n B0 B1 W1 wr hb lb g fb H T d c) (hl:nP B0 w' hb lb g n L') (hu:UfF n L' H') (hb':xX g wr w'):F1S n B0 B1 W1 w' hb lb g fb H' T d c:=by
 have l:=h.low;have s:=h.size;refine ⟨⟨L',hl,hu⟩,oK h.blk hb' (by omega),h.row.keep (fun x hx=>hb'.block _ (h.row.lt x hx).2 (by have:=(h.row.lt x hx).1;omega)),fun k hk hn=>(hb'.block k (by omega) hn).trans (h.frm k hk hn),hb'.os.trans h.os,hb'.tape.trans h.tape,hb'.output.trans h.output,Nat.le_trans h.size hb'.size,h.low⟩
theorem F1S.grow {n B0 B1:Nat} {W1 wr w':World} {hb lb g fb:Nat} {H:Nat->Nat} {T:List Nat} {d d':Option Addr} {c c':Nat} {j:Nat} (h:F1S n B0 B1 W1 wr hb lb g fb H T d c) (hr:zO B1 w' d' c' (yC T++[(j:Int)])) (hw:Below B1 wr w'):zE 69 fb w' #[.slice d (yC T).length c,qN]/\F1S n B0 B1 W1 (w'.setCell ⟨fb,0,none⟩ (.slice d' ((yC T).length+1) c')) hb lb g fb H (T++[j]) d' c':=by
 have l:=h.low;have s:=h.size;have hbk:zE 69 fb w' #[.slice d (yC T).length c,qN]:=h.blk.keep (hw.block fb (by omega));have bt:=xX.set w' fb 0 (.slice d' ((yC T).length+1) c');have s2:=hw.size;refine ⟨hbk,?_,?_,?_,fun k hk hn=>?_,bt.os.trans (hw.os.trans h.os),bt.tape.trans (hw.tape.trans h.tape),bt.output.trans (hw.output.trans h.output),Nat.le_trans (Nat.le_trans s s2) bt.size,h.low⟩
 ·obtain ⟨L,h1,h2⟩:=h.loo
  exact ⟨L,h1.keep ((bt.block hb (by omega) (by omega)).trans (hw.block hb (by omega))) ((bt.block lb (by omega) (by omega)).trans (hw.block lb (by omega))) ((bt.block g (by omega) (by omega)).trans (hw.block g (by omega))),h2⟩
 ·have:=hbk.set 0 (.slice d' ((yC T).length+1) c')
  rw[jK,List.length_append];exact this
 ·rw [jK]
  exact hr.keep fun x hx=>bt.block _ (hr.lt x hx).2 (by have:=(hr.lt x hx).1;omega)
 exact (bt.block k (by omega) (by omega)).trans ((hw.block k (by omega)).trans (h.frm k hk hn))
structure F2S (n S fb : Nat) (W2 wr : World) (d1 d2 : Option Addr) (c1 c2 : Nat) (l1 : Nat) (R : List Int) : Prop where
 blk:zE 69 fb wr #[.slice d1 l1 c1,.slice d2 R.length c2]
 row:zO S wr d2 c2 R
 but:∀k,k<S->k≠fb->wr.heap[k]? =W2.heap[k]?
 os:wr.os=W2.os
 tape:wr.tape=W2.tape
 output:wr.output=W2.output
 size:S<=wr.heap.size
 low:fb<S
theorem F2S.below {n S fb:Nat} {W2 wr w':World} {d1 d2:Option Addr} {c1 c2 l1:Nat} {R:List Int} (h:F2S n S fb W2 wr d1 d2 c1 c2 l1 R) (hw:Below wr.heap.size wr w'):F2S n S fb W2 w' d1 d2 c1 c2 l1 R:=
 ⟨h.blk.below hw,h.row.later hw,fun k hk hn=>(hw.block k (Nat.lt_of_lt_of_le hk h.size)).trans (h.but k hk hn),hw.os.trans h.os,hw.tape.trans h.tape,hw.output.trans h.output,Nat.le_trans h.size hw.size,h.low⟩
theorem F2S.grow {n S fb:Nat} {W2 wr u:World} {d1 d2 d':Option Addr} {c1 c2 c' l1:Nat} {R:List Int} {x:Int} (h:F2S n S fb W2 wr d1 d2 c1 c2 l1 R) (hg:oL S wr d2 (R++[x]) u d' c'):zE 69 fb u #[.slice d1 l1 c1,.slice d2 R.length c2]/\F2S n S fb W2 (u.setCell ⟨fb,1,none⟩ (.slice d' (R.length+1) c')) d1 d' c1 c' l1 (R++[x]):=by
 have l:=h.low;have s:=h.size
 have far:∀k,k<S->∀y,d2=some y->y.block≠k:=fun k hk y hy e=>by have:=(h.row.lt y hy).1;omega
 have hbk:zE 69 fb u #[.slice d1 l1 c1,.slice d2 R.length c2]:=h.blk.keep (hg.keep fb (by omega) (far fb (by omega)));have bt:=xX.set u fb 1 (.slice d' (R.length+1) c');have s2:=hg.size;refine ⟨hbk,?_,?_,fun k hk hn=>?_,bt.os.trans (hg.os.trans h.os),bt.tape.trans (hg.tape.trans h.tape),bt.output.trans (hg.output.trans h.output),Nat.le_trans (Nat.le_trans s s2) bt.size,h.low⟩
 ·have:=hbk.set 1 (.slice d' (R.length+1) c')
  rw[List.length_append];exact this
 ·exact hg.own.keep fun x hx=>bt.block _ (hg.own.lt x hx).2 (by have:=(hg.own.lt x hx).1;omega)
 exact (bt.block k (by omega) (by omega)).trans ((hg.keep k (by omega) (far k hk)).trans (h.but k hk hn))
theorem zUR:(Tryz.prog.info? 69).map (·.size)=some 2:=by kernel_rfl
theorem vN.lt {w:World} {a:Option Addr} {L:List NA} (h:vN w a L) (hL:0<L.length):∀x,a=some x->x.block<w.heap.size:=by
 intro x hx
 rcases h with e|⟨b,off,e,hc⟩
 ·rw [e]at hL;exact absurd hL (Nat.lt_irrefl _)
 rw[e]at hx
 cases hx
 exact block_lt_of_cell (hc 0 hL).1
theorem F1S.old {n B0 B1:Nat} {w W1 wr:World} {hb lb g fb B:Nat} {H:Nat->Nat} {T:List Nat} {d:Option Addr} {c:Nat} (h:F1S n B0 B1 W1 wr hb lb g fb H T d c) (hw:Below B w W1) (hB:B<=fb) (hg:B<=g) (hs:W1.heap.size<=wr.heap.size):Below B w wr:=
 ⟨h.os.trans hw.os,h.tape.trans hw.tape,h.output.trans hw.output,Nat.le_trans hw.size hs,fun k hk=>(h.frm k (by omega) (by omega)).trans (hw.block k hk)⟩
theorem F2S.old {n S fb B:Nat} {w W2 wr:World} {d1 d2:Option Addr} {c1 c2 l1:Nat} {R:List Int} (h:F2S n S fb W2 wr d1 d2 c1 c2 l1 R) (hw:Below B w W2) (hB:B<=fb) (hs:W2.heap.size<=wr.heap.size):Below B w wr:=
 ⟨h.os.trans hw.os,h.tape.trans hw.tape,h.output.trans hw.output,Nat.le_trans hw.size hs,fun k hk=>(h.but k (by have:=h.low;omega) (by omega)).trans (hw.block k hk)⟩
theorem EM (n:NN) (a:Option Addr) (c:Nat) (w:World) (h:vN w a n.arcs) (hl:n.arcs.length<=4611686018427387904):Calls Tryz.prog 18 #[.agg #[.int .i64 n.nodes,.slice a n.arcs.length c]] w (zZN n w):=by
 obtain ⟨nn,A⟩:=n;simp only at h hl ⊢;have b0:=(Below.refl w.heap.size w).alloc (Nat.le_refl _) (.cells #[.int .i64 nn,.slice a A.length c] 30);have b1:=b0.alloc b0.size (.cells #[qN,qN] 69);have hsz:(w.alloc (.cells #[.int .i64 nn,.slice a A.length c] 30)).heap.size=w.heap.size+1:=World.size_alloc _ _;have XG0:=zZ ((zV 30 w #[.int .i64 nn,.slice a A.length c]).below ((Below.refl _ _).alloc (Nat.le_refl _) (.cells #[qN,qN] 69)));have xz:=zV 69 (w.alloc (.cells #[.int .i64 nn,.slice a A.length c] 30)) #[qN,qN];rw[hsz]at xz;have XZ:=zZ xz;have B1:=zZ b1;have HG:=zZ (h.below b1);have HLT:=zZ (fun hL=>h.lt hL);have CK:=zZ (rS ⟨nn,A⟩ a c _ (h.below b1) hl);have z0:=XG0.out.cell (k:=0) rfl;have z1:=XG0.out.cell (k:=1) rfl;simp only[List.getElem_toArray,List.getElem_cons_zero,List.getElem_cons_succ]at z0 z1;clear b0 b1 xz h hsz;obtain ⟨OE,hOE⟩:∃R,zZN ⟨nn,A⟩ w=R:=⟨_,rfl⟩;rw[hOE];have HOE:=zZ hOE;clear hOE
 by_cases hc:zN ⟨nn,A⟩=0
 ·have hS:=zB hc
  have hN1:=hS.nodes;have hA1:=hS.most;have SA:=zZ hS.arcs;simp only at hN1 hA1;obtain ⟨N,rfl⟩:∃k:Nat,nn=(k:Int):=⟨nn.toNat,by omega⟩
  have hN32:N<=32:=by omega
  have HE:Hid (OE=fun e w'=>∃d1 c1 d2 c2,e=.returned (.tuple #[.agg #[.slice d1 (yC (yJ A A.length)).length c1,.slice d2 (yV N (zQ A A.length)).length c2],.int .i64 0])/\zO w.heap.size w' d1 c1 (yC (yJ A A.length))/\zO w.heap.size w' d2 c2 (yV N (zQ A A.length))/\(∀ x y,d1=some x->d2=some y->x.block≠y.block)/\Below w.heap.size w w'):=by
   show _=_;rw[<- HOE.out]
   funext e w'
   unfold zZN;rw[if_pos hc];rfl
  rw[hc]at CK;clear hS hc HOE hN1
  go_enter Tryz.func18,Tryz.ntmps18
  go_upto_region 1 with fail
  generalize (w.alloc (.cells #[.int .i64 (N:Int),.slice a A.length c] 30)).alloc (.cells #[qN,qN] 69)=W0 at *
  go_upto_region 4 with (go_at_call 22;(with_reducible refine CK.out.mono ?_);rintro e W1 ⟨rfl,bb⟩;have Z1:=zZ (XZ.out.below bb);have G1:=zZ (HG.out.below bb);have XG1:=zZ (XG0.out.below bb);have L1:=zZ (B1.out.trans (bb.mono B1.out.size));clear bb z0 z1)
  have z0:=XG1.out.cell (k:=0) rfl;simp only[List.getElem_toArray,List.getElem_cons_zero]at z0;clear CK XG0 XZ HG B1;have LO:=zZ (zZO W1 N (by omega));have hwW1:w.heap.size+1<W1.heap.size:=Z1.out.lt
  go_upto_region 5 with (go_at_call 39;(with_reducible refine LO.out.mono ?_);rintro e W2 ⟨hb,lb,g,rfl,hl2,bb⟩;have Z2:=zZ (Z1.out.below bb);have G2:=zZ (G1.out.below bb);have XG2:=zZ (XG1.out.below bb);have L2:=zZ (L1.out.trans (bb.mono L1.out.size));have LL:=zZ hl2;have hs1:W1.heap.size<=W2.heap.size:=bb.size;clear bb hl2 z0)
  clear LO Z1 G1 XG1 L1
  go_upto_region 6 with fail
  have b3:=(Below.refl W2.heap.size W2).alloc (Nat.le_refl _) (.cells #[qN,qN] 69);have hz3:(W2.alloc (.cells #[qN,qN] 69)).heap.size=W2.heap.size+1:=World.size_alloc _ _
  have F0:Hid (F1S N W1.heap.size (W2.heap.size+1) (W2.alloc (.cells #[qN,qN] 69)) (W2.alloc (.cells #[qN,qN] 69)) hb lb g W2.heap.size (zQ A 0) (yJ A 0) none 0):=
   ⟨⟨_,LL.out.below b3,zWW N⟩,zV 69 W2 _,World.ownsRow_nil _ _ _ _,fun _ _ _=>rfl,rfl,rfl,rfl,by rw[hz3];exact Nat.le_refl _,LL.out.glt.2,block_lt_of_cell LL.out.hc,block_lt_of_cell LL.out.lc,Nat.lt_succ_self _⟩
  have hgB:=LL.out.glt;have Z3:=zZ (Z2.out.below b3);have G3:=zZ (G2.out.below b3);have XG3:=zZ (XG2.out.below b3);have L3:=zZ (L2.out.trans (b3.mono L2.out.size));have hwW:w.heap.size+1<W2.heap.size:=Z2.out.lt;clear b3 Z2 G2 XG2 L2 LL;obtain ⟨fb,hfb⟩:∃q,W2.heap.size=q:=⟨_,rfl⟩;obtain ⟨B0,hB0⟩:∃q,W1.heap.size=q:=⟨_,rfl⟩;rw[hfb]at F0 hz3 hwW hgB hs1;rw[hB0]at F0 hgB hs1 hwW1;rw[hfb];generalize W2.alloc (.cells #[qN,qN] 69)=V0 at *;clear hfb hB0;have z1:=XG3.out.cell (k:=1) rfl;simp only[List.getElem_toArray,List.getElem_cons_zero,List.getElem_cons_succ]at z1
  go_upto_region 7 with fail
  go_loopg [26] A.length (fun gk u wr=>∃(q c:Nat) (d:Option Addr),q<=A.length/\gk=A.length-q/\u=.int .i64 (q:Int)/\F1S N B0 (fb+1) V0 wr hb lb g fb (zQ A q) (yJ A q) d c)
  case atStart=>exact ⟨0,0,none,Nat.zero_le _,rfl,rfl,F0.out⟩
  case round=>
   clear F0 z1;obtain ⟨q,c',d,hq,rfl,rfl,hF⟩:=hrel;have FI:=zZ hF;have hsz:=hF.size;clear hF;have bw:Below (w.heap.size+2) V0 wr:=FI.out.old (Below.refl _ _) (by omega) (by omega) (by omega)
   by_cases hlt:q<A.length
   ·have hki:(q:Int)<(A.length:Int):=by omega
    have GR:=G3.out
    rcases GR with e|⟨eb,eo,ee,hce⟩
    ·rw [e]at hlt;simp at hlt
    have hla:(eb:Nat)<w.heap.size+2:=by have:=HLT.out (by omega) _ ee;simp only at this;omega
    have hce':=hce q hlt;obtain ⟨e0,e1,e2,e3,e4⟩:=hce';have hsd:=SA.out q hlt;obtain ⟨⟨f0,f1⟩,⟨t0,t1⟩,-,-,-⟩:=hsd;have hfN:fN A q=(zU A q).f.toNat:=rfl;have htN:tN A q=(zU A q).t.toNat:=rfl;clear hce;have j0:=zG bw hla e0;have j1:=zG bw hla e1;have j2:=zG bw hla e2;have j3:=zG bw hla e3;have j4:=zG bw hla e4;clear e0 e1 e2 e3 e4;generalize zU A q=ar at *;obtain ⟨af,at',ag,ak,az⟩:=ar;simp only at j0 j1 j2 j3 j4 f0 f1 t0 t1 hfN htN;obtain ⟨fn,rfl⟩:∃k:Nat,af=(k:Int):=⟨af.toNat,by omega⟩;obtain ⟨tn,rfl⟩:∃k:Nat,at'=(k:Int):=⟨at'.toNat,by omega⟩;simp only[Int.toNat_natCast]at hfN htN;have HFN:=zZ hfN;have HTN:=zZ htN;subst ee;clear hfN htN
    go_upto_region 9 with fail
    have bc:=(Below.refl wr.heap.size wr).alloc (Nat.le_refl _) (.cells #[.int .i64 (fn:Int),.int .i64 (tn:Int),.int .i64 ag,.int .i64 ak,.int .i64 az] 61);have XE:=zZ (zV 61 wr #[.int .i64 (fn:Int),.int .i64 (tn:Int),.int .i64 ag,.int .i64 ak,.int .i64 az]);have FX:=zZ (FI.out.below bc);obtain ⟨xb,hxb⟩:∃q,wr.heap.size=q:=⟨_,rfl⟩;rw[hxb]at XE ⊢;generalize wr.alloc (.cells #[.int .i64 (fn:Int),.int .i64 (tn:Int),.int .i64 ag,.int .i64 ak,.int .i64 az] 61)=V1 at *;have x0:=XE.out.cell (k:=0) rfl;have x1:=XE.out.cell (k:=1) rfl;simp only[List.getElem_toArray,List.getElem_cons_zero,List.getElem_cons_succ]at x0 x1;clear bc j0 j1 j2 j3 j4 hxb bw hsz;obtain ⟨L,hL,hU⟩:=FX.out.loo;have JN:=zZ (zUU hL hU (fun v=>tR) fn tn (by omega) (by omega));have UJ:=zZ (hU.join (fun v=>oV) (a:=fn) (b:=tn) (by have:=tR (A:=A) (k:=q) (v:=fn);omega) (by have:=tR (A:=A) (k:=q) (v:=tn);omega))
    have HH:Hid ((if zQ A q fn=zQ A q tn then zQ A q else tA (zQ A q) (zQ A q fn) (zQ A q tn))=zQ A (q+1)):=by
     show _=(if zQ A q (fN A q)=zQ A q (tN A q) then zQ A q else tA (zQ A q) (zQ A q (fN A q)) (zQ A q (tN A q)));rw[HFN.out,HTN.out]
    have TS:Hid (zQ A q fn=zQ A q tn->yJ A (q+1)=yJ A q):=fun e=>tX (by rw[HFN.out,HTN.out];exact e)
    have TN:Hid (¬ zQ A q fn=zQ A q tn->yJ A (q+1)=yJ A q++[q]):=fun e=>rY (by rw[HFN.out,HTN.out];exact e)
    rw[HH.out]at UJ
    have hTl:(yC (yJ A q)).length<=96:=by have:=iM (A:=A) (k:=q);rw[wM];omega
    clear hL hU HH HFN HTN XE
    by_cases hj:zQ A q fn=zQ A q tn
    ·have TE:=zZ (TS.out hj)
     have hj1:(!decide (zQ A q fn=zQ A q tn))=false:=by simp[hj]
     rw[hj1]at JN;clear TS TN hj hj1
     go_wp2_with (go_at_call 71;(with_reducible refine JN.out.mono ?_);rintro e W3 ⟨rfl,q1,q2⟩;have F9:=zZ (FX.out.join q1 UJ.out q2);clear q1 q2 x0 x1)
     go_roundg (A.length-(q+1))
     case measure=>omega
     case rel=>exact ⟨q+1,c',d,by omega,rfl,by go_num,by rw[TE.out];exact F9.out⟩
    have TE:=zZ (TN.out hj)
    have hj1:(!decide (zQ A q fn=zQ A q tn))=true:=by simp[hj]
    rw[hj1]at JN;clear TS TN hj hj1
    go_upto_region 10 with (go_at_call 71;(with_reducible refine JN.out.mono ?_);rintro e W3 ⟨rfl,q1,q2⟩;have F9:=zZ (FX.out.join q1 UJ.out q2);clear q1 q2 x0 x1)
    have y0:=F9.out.blk.cell (k:=0) rfl;simp only[List.getElem_toArray,List.getElem_cons_zero]at y0;clear FX JN UJ FI;have bx:=(Below.refl W3.heap.size W3).alloc (Nat.le_refl _) (.cells #[.int .i64 (q:Int)] 3);have FA:=zZ (F9.out.below bx)
    have AX:Hid (At (W3.alloc (.cells #[.int .i64 (q:Int)] 3)) (some ⟨W3.heap.size,0,none⟩) [(q:Int)]):=.inr ⟨W3.heap.size,0,rfl,fun k hk=>by
     have e:k=0:=by simp at hk;omega
     subst e
     simp[zS]⟩
    have hs9:=F9.out.size;have hsA:fb+1<=(W3.alloc (.cells #[.int .i64 (q:Int)] 3)).heap.size:=Nat.le_trans hs9 bx.size;clear bx F9
    go_wp2_with (at_builtin;refine lY rfl _ _ rfl (fb+1) d c' (yC (yJ A q)) rfl FA.out.row (some ⟨W3.heap.size,0,none⟩) 1 [(q:Int)] rfl (fun e=>by cases e) AX.out (by simp;omega) hsA ((yC (yJ A q)).length+1) (yC (yJ A q)++[(q:Int)]) rfl rfl ?_;intro d3 c3 W4 hd3 b3;have GW:=zZ (FA.out.grow hd3 b3);have y4:=GW.out.1.cell (k:=0) rfl;have f4:=GW.out.1.frozen 0;simp only[List.getElem_toArray,List.getElem_cons_zero]at y4;have GE:=zZ GW.out.2;clear hd3 b3 y0)
    go_roundg (A.length-(q+1))
    case measure=>omega
    case rel=>exact ⟨q+1,c3,d3,by omega,rfl,by go_num,by rw[TE.out];exact GE.out⟩
   have ek:q=A.length:=by omega
   have hki:¬(q:Int)<(A.length:Int):=by omega
   have Zr:=zZ (Z3.out.keep (bw.block _ (by omega)));have Xr:=zZ (XG3.out.keep (bw.block _ (by omega)));have Lr:=zZ (L3.out.trans (bw.mono (by omega)));have z0:=Xr.out.cell (k:=0) rfl;simp only[List.getElem_toArray,List.getElem_cons_zero]at z0;rw[ek]at FI;clear ek bw
   go_upto_region 13 with fail
   obtain ⟨L,hL,hU⟩:=FI.out.loo;have HL:=zZ hL;have HU:=zZ hU;have FJ:=FI;clear FI hL hU;obtain ⟨W5,hW5⟩:∃q,wr=q:=⟨_,rfl⟩;rw[hW5]at Zr Xr Lr z0 HL FJ hsz ⊢;clear hW5;obtain ⟨T,hT⟩:∃q,yJ A A.length=q:=⟨_,rfl⟩;obtain ⟨H,hH⟩:∃q,zQ A A.length=q:=⟨_,rfl⟩;rw[hT]at FJ HE;rw[hH]at FJ HE HU
   have hHle:∀v,H v<=v:=fun v=>by rw[<- hH];exact tR
   clear hT hH;obtain ⟨l1,hl1⟩:∃q,(yC T).length=q:=⟨_,rfl⟩;obtain ⟨S,hS⟩:∃q,W5.heap.size=q:=⟨_,rfl⟩;have hlow:=FJ.out.low
   have F20:Hid (F2S N S fb W5 W5 d none c' 0 l1 (yV 0 H)):=by
    have hb0:=FJ.out.blk;rw[hl1]at hb0;exact ⟨hb0,World.ownsRow_nil _ _ _ _,fun _ _ _=>rfl,rfl,rfl,rfl,by omega,by omega⟩
   obtain ⟨c1,hc1⟩:∃q,c'=q:=⟨_,rfl⟩;obtain ⟨d1,hd1⟩:∃q,d=q:=⟨_,rfl⟩;rw[hc1,hd1]at F20 FJ;clear hc1 hd1
   go_loopg [46] N (fun gk u wr=>∃(q c2:Nat) (d2:Option Addr),q<=N/\gk=N-q/\u=.int .i64 (q:Int)/\F2S N S fb W5 wr d1 d2 c1 c2 l1 (yV q H))
   case atStart=>exact ⟨0,0,none,Nat.zero_le _,rfl,rfl,F20.out⟩
   case round=>
    clear F20 z0;obtain ⟨q,c2,d2,hq,rfl,rfl,hF⟩:=hrel;have FI:=zZ hF;have hsz2:=hF.size;clear hF
    have hRl:(yV q H).length<=32:=by rw[yY];omega
    by_cases hlt:q<N
    ·have hki:(q:Int)<(N:Int):=by omega
     have hLr:=HL.out.keep (FI.out.but hb (by omega) (by omega)) (FI.out.but lb (by omega) (by omega)) (FI.out.but g (by omega) (by omega))
     have HM:Hid (∀ U,Below wr.heap.size wr U->Calls Tryz.prog 70 #[.int .i64 (q:Int),(qP lb)] U fun e w'=>e=.returned (.int .i64 (H q:Int))/\w'=U):=fun U hU'=>ZW (hLr.below hU') HU.out q hlt
     have RN:=zZ (CJ q H);clear hLr;generalize H q=x at *;generalize yV q H=R at *
     go_upto_region 15 with fail
     refine zM [6,8] (fun d_ i u z=>match i with
      |0=>z=.pointer (some ⟨fb,1,none⟩)
      |1=>z=.slice d2 R.length c2
      |2=>z=.func (.func 70) #[] #[(qP lb)]
      |3=>z=.int .i64 (q:Int)
      |4=>z=.int .i64 (x:Int)
      |5=>(d_ 6=false->∃g,z=.slice (some ⟨g,0,none⟩) 1 1/\u.cell? ⟨g,0,none⟩=some (.int .i64 (x:Int)))
      |6=>(d_ 6=true/\(d_ 8=false->∃dd cc,z=.slice dd (R.length+1) cc/\oL S wr d2 (R++[(x:Int)]) u dd cc))
      |7=>z=.pointer (some ⟨fb,1,none⟩)
      |8=>True
      |_=>True) (fun d_ u=>(d_ 6=false->Below wr.heap.size wr u)/\(d_ 8=true->∃dd cc,F2S N S fb W5 u d1 dd c1 cc l1 (R++[(x:Int)]))) (by kernel_rfl) (by kernel_rfl) (by kernel_rfl) ?_ ?_ ?_ ?_ ?_ ?_ (by kernel_rfl)
     ·intro d_ i w v w' h hb
      match i,h with
      |0,h=>exact h
      |1,h=>exact h
      |2,h=>exact h
      |3,h=>exact h
      |4,h=>exact h
      |5,h=>exact fun e=>by obtain ⟨g,h1,h2⟩:=h e;exact ⟨g,h1,zW hb h2⟩
      |6,h=>exact ⟨h.1,fun e=>by obtain ⟨dd,cc,h1,h2⟩:=h.2 e;exact ⟨dd,cc,h1,h2.later hb⟩⟩
      |7,h=>exact h
      |8,h=>exact h
      |_+9,_=>trivial
     ·intro d_ u u' h hb
      exact ⟨fun e=>(h.1 e).trans (hb.mono (h.1 e).size),fun e=>by obtain ⟨dd,cc,hF⟩:=h.2 e;exact ⟨dd,cc,hF.below hb⟩⟩
     ·exact ⟨fun _=>Below.refl _ _,fun e=>absurd e (by decide)⟩
     ·intro d_ i o ρ w' hm ho hf hg hC hcs hfs hfr zX
      match i,hm,ho,hf,hg,hfr,zX with
      |0,_,ho,hf,hg,hfr,zX=>
       simp only[qS]at ho;subst ho;refine ⟨fun _=>?_,qF⟩
       have ts: ρ (.tmp 7)=(qP fb):=(qR hfr 7);simp[go_sem,ts];exact qB
      |1,_,ho,hf,hg,hfr,zX=>
       simp only[qS]at ho;subst ho;refine ⟨fun _=>?_,qF⟩
       have h6:d_ 6=false:=hf 6 (by decide) (by kernel_rfl);have cc:w'.cell? ⟨fb,1,none⟩=some (.slice d2 R.length c2):=(FI.out.blk.below (hC.1 h6)).cell rfl;have d0: ρ (.tmp 49)=.pointer (some ⟨fb,1,none⟩):=(qH zX 0 49);simp[go_sem,d0,cc];exact qB
      |2,_,ho,hf,hg,hfr,zX=>
       simp only[qS]at ho;subst ho;refine ⟨fun _=>?_,qF⟩
       have ts: ρ (.tmp 6)=.func (.func 70) #[] #[(qP lb)]:=(qR hfr 6);simp[go_sem,ts];exact qB
      |3,_,ho,hf,hg,hfr,zX=>
       simp only[qS]at ho;subst ho;refine ⟨fun _=>?_,qF⟩
       have ts: ρ (.tmp 10)=.int .i64 (q:Int):=(qR hfr 10);simp[go_sem,ts];exact qB
      |4,_,ho,hf,hg,hfr,zX=>
       simp only[qS]at ho;subst ho;refine ⟨fun _=>?_,qF⟩
       have t0: ρ (.tmp 51)=.func (.func 70) #[] #[(qP lb)]:=(qH zX 2 51);have t1: ρ (.tmp 52)=.int .i64 (q:Int):=(qH zX 3 52);have h6:d_ 6=false:=hf 6 (by decide) (by kernel_rfl);simp[go_sem,t0,t1];exact ⟨rfl,(HM.out w' (hC.1 h6)).mono fun e w'' hh=>⟨_,hh.1,by rw[hh.2];exact Below.refl _ _,rfl⟩⟩
      |5,_,ho,hf,hg,hfr,zX=>
       simp only[qS]at ho;subst ho;refine ⟨fun _=>?_,qF⟩
       have t0: ρ (.tmp 53)=.int .i64 (x:Int):=(qH zX 4 53);simp[go_sem,t0];exact ⟨(Below.refl _ _).alloc (Nat.le_refl _) _,fun _=>⟨w'.heap.size,rfl,by simp⟩⟩
      |6,hm,_,_,_,_,_=>exact qD hm
      |7,_,ho,hf,hg,hfr,zX=>
       simp only[qS]at ho;subst ho;refine ⟨fun _=>?_,qF⟩
       have ts: ρ (.tmp 7)=(qP fb):=(qR hfr 7);simp[go_sem,ts];exact qB
      |8,hm,_,_,_,_,_=>exact qD hm
      |n+9,_,ho,_,_,_,_=>simp at ho
     ·intro d_ i o ρ w' hm ho h0 hf hg hC hcs hfs hfr zX
      match i,hm,ho,h0,hf,hg,hfr,zX with
      |0,hm,_,_,_,_,_,_=>exact qD hm
      |1,hm,_,_,_,_,_,_=>exact qD hm
      |2,hm,_,_,_,_,_,_=>exact qD hm
      |3,hm,_,_,_,_,_,_=>exact qD hm
      |4,hm,_,_,_,_,_,_=>exact qD hm
      |5,hm,_,_,_,_,_,_=>exact qD hm
      |6,_,ho,h0,hf,hg,hfr,zX=>
       simp only[qS]at ho;subst ho;have t0: ρ (.tmp 50)=.slice d2 R.length c2:=(qH zX 1 50);obtain ⟨g',t1,cg⟩:∃g,ρ (.tmp 54)=.slice (some ⟨g,0,none⟩) 1 1/\w'.cell? ⟨g,0,none⟩=some (.int .i64 (x:Int)):=(qH zX 5 54) h0;have h8:d_ 8=false:=hf 8 (by decide) (by kernel_rfl);refine ⟨rfl,kR (.tmp 50) (.tmp 54) rfl t0 t1 FI.out.row (hC.1 h0) cg (by omega) FI.out.size ?_⟩
       intro u9 d9 c9 hG;refine ⟨⟨fun e=>absurd e (by rw[zL];decide),fun e=>absurd ((zP d_ (by decide)).symm.trans e) (by rw[h8];decide)⟩,fun _=>⟨zL _ _,fun _=>⟨d9,c9,rfl,hG⟩⟩,?_⟩
       intro j t hj hs
       match j,hs with
       |0,hs=>exact hs
       |1,hs=>exact hs
       |2,hs=>exact hs
       |3,hs=>exact hs
       |4,hs=>exact hs
       |5,hs=>exact fun e=>absurd e (by rw[zL];decide)
       |6,hs=>exact absurd hs.1 (by rw[h0];decide)
       |7,hs=>exact hs
       |8,_=>trivial
       |_+9,_=>trivial
      |7,hm,_,_,_,_,_,_=>exact qD hm
      |8,_,ho,h0,hf,hg,hfr,zX=>
       simp only[qS]at ho;subst ho;have t0: ρ (.tmp 56)=.pointer (some ⟨fb,1,none⟩):=(qH zX 7 56);have t9:d_ 6=true/\(d_ 8=false->∃dd cc,ρ (.tmp 55)=.slice dd (R.length+1) cc/\oL S wr d2 (R++[(x:Int)]) w' dd cc):=(qH zX 6 55);obtain ⟨dd,cc,e9,hG⟩:=t9.2 h0;have hF:=FI.out.grow hG;have c1:w'.cell? ⟨fb,1,none⟩=some (.slice d2 R.length c2):=hF.1.cell rfl;have f1:=hF.1.frozen 1;refine ⟨rfl,wQ (w':=w'.setCell ⟨fb,1,none⟩ (.slice dd (R.length+1) cc)) (by simp[go_sem,t0,e9,c1,f1]) ?_⟩
       refine ⟨⟨fun e=>absurd ((zP d_ (by decide)).symm.trans e) (by rw[t9.1];decide),fun _=>⟨dd,cc,hF.2⟩⟩,fun h=>absurd rfl h,?_⟩
       intro j t hj hs
       match j,hs with
       |0,hs=>exact hs
       |1,hs=>exact hs
       |2,hs=>exact hs
       |3,hs=>exact hs
       |4,hs=>exact hs
       |5,hs=>exact fun e=>absurd ((zP d_ (by decide)).symm.trans e) (by rw[t9.1];decide)
       |6,hs=>exact ⟨(zP d_ (by decide)).trans hs.1,fun e=>absurd e (by rw[zL];decide)⟩
       |7,hs=>exact hs
       |8,_=>trivial
       |_+9,_=>trivial
      |n+9,_,ho,_,_,_,_,_=>simp at ho
     intro U3 w7 hC7 hS;simp only[yP,uM];simp only[Act.put,qU];clear hS;obtain ⟨d',c'',F9⟩:=hC7.2 rfl;have F9h:=zZ F9;rw[<- RN.out]at F9h;clear hC7 F9 FI HM
     go_wp2
     go_roundg (N-(q+1))
     case measure=>omega
     case rel=>exact ⟨q+1,c'',d',by omega,rfl,by go_num,F9h.out⟩
    have ek:q=N:=by omega
    have hki:¬(q:Int)<(N:Int):=by omega
    rw[ek]at FI hRl;clear ek;have y0:=FI.out.blk.cell (k:=0) rfl;have y1:=FI.out.blk.cell (k:=1) rfl;simp only[List.getElem_toArray,List.getElem_cons_zero,List.getElem_cons_succ]at y0 y1;have Z8:=zZ (Zr.out.keep (FI.out.but _ (by omega) (by omega)))
    go_wp2_with (refine xD _ rfl 69 (.tmp 2) (.tmp 58) rfl rfl (w.heap.size+1) 69 _ _ rfl rfl Z8.out zUR rfl rfl ?_;intro w8 hN hU;have N8:=zZ hN;have U8:=zZ hU;clear hN hU)
    have r0:=N8.out.cell (k:=0) rfl;have r1:=N8.out.cell (k:=1) rfl;simp only[List.getElem_toArray,List.getElem_cons_zero,List.getElem_cons_succ]at r0 r1;refine bodyPost_ret (v:=.tuple #[.agg #[.slice d1 l1 c1,.slice d2 (yV N H).length c2],.int .i64 0]) (by simp[results,Tryz.results18,go_sem,r0,r1]) rfl ?_
    rw[HE.out]
    have k1:zO (fb+1) wr d1 c1 (yC T):=FJ.out.row.keep fun x hx=>FI.out.but _ (by have:=(FJ.out.row.lt x hx).2;omega) (by have:=(FJ.out.row.lt x hx).1;omega)
    have k2:=FI.out.row;have e1:zO w.heap.size w8 d1 c1 (yC T):=zO.mono (base:=fb+1) (k1.keep fun x hx=>U8.out.block _ (k1.lt x hx).2 (by have:=(k1.lt x hx).1;omega)) (by omega);have e2:zO w.heap.size w8 d2 c2 (yV N H):=zO.mono (base:=S) (k2.keep fun x hx=>U8.out.block _ (k2.lt x hx).2 (by have:=(k2.lt x hx).1;omega)) (by omega);refine ⟨d1,c1,d2,c2,by rw[hl1],e1,e2,fun x y hx hy=>?_,?_⟩
    ·have:=(FJ.out.row.lt x hx).2
     have:=(k2.lt y hy).1;omega
    have hw8:=FI.out.old (Lr.out.mono (Nat.le_refl _)) (by omega) (by omega);exact hw8.trans (U8.out.below (Nat.le_succ _) (by omega))
 obtain ⟨cd,hcd⟩:∃q,zN ⟨nn,A⟩=q:=⟨_,rfl⟩
 have HE:Hid (OE=fun e w'=>e=.returned (.tuple #[.agg #[qN,qN],.int .i64 cd])/\Below w.heap.size w w'):=by
  show _=_;rw[<- HOE.out]
  funext e w'
  unfold zZN;rw[if_neg hc,hcd]
 rw[hcd]at CK hc
 have hcb:(cd !=0)=true:=by simpa using hc
 clear hcd HOE
 go_enter Tryz.func18,Tryz.ntmps18
 go_upto_region 1 with fail
 generalize (w.alloc (.cells #[.int .i64 nn,.slice a A.length c] 30)).alloc (.cells #[qN,qN] 69)=W0 at *
 go_wp2_with (first
  |(go_at_call 22;(with_reducible refine CK.out.mono ?_);rintro e W1 ⟨rfl,bb⟩;have Z1:=zZ (XZ.out.below bb);have L1:=zZ (B1.out.trans (bb.mono B1.out.size));clear bb)
  |(refine xD _ rfl 69 (.tmp 2) (.tmp 15) rfl rfl (w.heap.size+1) 69 _ _ rfl rfl Z1.out zUR rfl rfl ?_;intro w8 hN hU;have N8:=zZ hN;have U8:=zZ hU;clear hN hU))
 have r0:=N8.out.cell (k:=0) rfl;have r1:=N8.out.cell (k:=1) rfl;simp only[List.getElem_toArray,List.getElem_cons_zero,List.getElem_cons_succ]at r0 r1;refine bodyPost_ret (v:=.tuple #[.agg #[qN,qN],.int .i64 cd]) (by simp[results,Tryz.results18,go_sem,r0,r1]) rfl ?_
 rw[HE.out];exact ⟨rfl,L1.out.trans (U8.out.below (Nat.le_succ _) L1.out.size)⟩
end Go.Proofs.YtpohmekkdjdhmaaGreat
