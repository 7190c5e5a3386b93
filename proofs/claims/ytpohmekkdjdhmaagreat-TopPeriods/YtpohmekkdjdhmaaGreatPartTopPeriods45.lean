/- Texts of one chain. -/
import Derived.Test.YtpohmekkdjdhmaaGreatPartQ
import Derived.Test.YtpohmekkdjdhmaaGreatPartTopPeriods15
import Derived.Test.YtpohmekkdjdhmaaGreatPartTopPeriods39
import Derived.Test.YtpohmekkdjdhmaaGreatPartTopPeriods44
import Derived.WalkMore
import Derived.Test.YtpohmekkdjdhmaaGreatPartTopPeriods12
set_option maxRecDepth 100000
set_option maxHeartbeats 8000000
namespace Go.Proofs.YtpohmekkdjdhmaaGreat
open Go.ChangeShapes Go.WideShapes Go.ChangeAt Go.RowKit
def rB (O:List Int):List Int->List Int
 |[]=>O
 |v::vs=>rB (if v ∈ O then O else O++[v]) vs
def ZR:Nat->List Int
 |0=>[]
 |k+1=>(k:Int)::ZR k
theorem kK:∀ {k:Nat} {v:Int},v ∈ ZR k↔0<=v/\v<(k:Int)
 |0,v=>by simp[ZR]
 |k+1,v=>by
  unfold ZR;rw[List.mem_cons,kK]
  push_cast
  omega
theorem nM:∀ {vs O:List Int} {z:Int},z ∈ rB O vs↔z ∈ O\/z ∈ vs
 |[],O,z=>by rw[rB];simp
 |v::vs,O,z=>by
  rw[rB,nM,List.mem_cons]
  by_cases h:v ∈ O
  ·rw [if_pos h]
   constructor
   ·rintro (h1|h1)
    ·exact .inl h1
    exact .inr (.inr h1)
   rintro (h1|h1|h1)
   ·exact .inl h1
   ·exact .inl (h1 ▸ h)
   exact .inr h1
  rw[if_neg h,List.mem_append,List.mem_singleton,or_assoc]
theorem sF:∀ {vs O:List Int},O.Nodup->(rB O vs).Nodup
 |[],O,h=>by rw[rB];exact h
 |v::vs,O,h=>by
  rw[rB];refine sF ?_
  by_cases hv:v ∈ O
  ·rw [if_pos hv];exact h
  rw[if_neg hv,List.nodup_append];exact ⟨h,by simp,fun a ha b hb e=>hv (by rw[List.mem_singleton]at hb;rw[<- hb,<-e];exact ha)⟩
theorem ZQ:∀ {vs:List Int} {v:Int} {O:List Int},rB O (vs++[v])=if v ∈ rB O vs then rB O vs else rB O vs++[v]
 |[],v,O=>rfl
 |u::vs,v,O=>by
  show rB _ (vs++[v])=_;rw[ZQ];rfl
theorem WC {O:List Int} {N:Nat} (h:O.Nodup) (hi:∀z ∈ O,0<=z/\z<(N:Int)):O.length<=N:=by
 have:=oT N (O.map Int.toNat) (by
  rw[List.nodup_iff_pairwise_ne,List.pairwise_map]
  refine (List.nodup_iff_pairwise_ne.1 h).imp_of_mem fun {x y} hx hy hne e=>hne ?_
  have:=hi x hx;have:=hi y hy
  omega) (fun x hx=>by
  obtain ⟨y,hy,rfl⟩:=List.mem_map.1 hx;have:=hi y hy
  omega)
 rwa[List.length_map]at this
def sP (N:Nat) (P:List Int):List Int:=rB (rB [] P) (ZR N)
theorem JC (a:Option Addr) (zs:List Int) (len cap:Nat) (v:Int) (w:World) (hl:zs.length=len) (hm:len<=4611686018427387904) (h:At w a zs):
 Calls Tryz.prog 123 #[.slice a len cap,.int .i64 v] w fun e w'=>∃x:Int,e=.returned (.int .i64 x)/\(0<=x↔v ∈ zs)/\w=w':=by
 rcases h with h|⟨b,off,rfl,hc⟩
 ·subst h
  subst hl
  go_enter Tryz.func123,Tryz.ntmps123
  go_wp2
  go_loop [8] (fun i=>i=.int .i64 0) (fun _=>0)
  case atStart=>exact rfl
  case round=>
   subst hrel
   go_wp2
   go_ret
   exact ⟨-1,rfl,by simp,rfl⟩
 have HC:=zZ hc;have HL:=zZ hl;clear hc hl
 go_enter Tryz.func123,Tryz.ntmps123
 go_wp2
 go_loop [8] (fun i=>∃k:Nat,k<=len/\i=.int .i64 (k:Int)/\∀j,j<k->zS zs j≠v) (fun i=>match i with|.int _ k=>len-k.toNat|_=>0)
 case atStart=>exact ⟨0,Nat.zero_le _,rfl,fun j hj=>absurd hj (Nat.not_lt_zero _)⟩
 case round=>
  obtain ⟨k,hk,rfl,hs⟩:=hrel;have HS:=zZ hs;clear hs
  by_cases hlt:k<len
  ·have c0:=HC.out k (by rw[HL.out];exact hlt)
   have HM:Hid (zS zs k ∈ zs):=by
    show _ ∈ _;unfold zS;rw[List.getD_eq_getElem?_getD,List.getElem?_eq_getElem (by rw[HL.out];exact hlt)];exact List.getElem_mem _
   by_cases e:v=zS zs k
   ·have HM2:Hid (v ∈ zs):=by show _ ∈ _;rw[e];exact HM.out
    rw[<- e]at c0
    go_wp2
    go_ret
    exact ⟨(k:Int),rfl,⟨fun _=>HM.out,fun _=>by omega⟩,rfl⟩
   have HN:Hid (∀ j,j<k+1->zS zs j≠v):=fun j hj=>by
    rcases Nat.lt_succ_iff_lt_or_eq.1 hj with h1|rfl
    ·exact HS.out j h1
    exact fun h=>e h.symm
   have hb:(v==zS zs k)=false:=by simpa using e
   generalize zS zs k=z at *;clear e
   go_wp2
   go_round
   case measure=>go_num
   case rel=>exact ⟨k+1,by omega,by go_num,HN.out⟩
  have ek:k=len:=by omega
  subst ek
  have HF:Hid (v ∉ zs):=fun hm=>by
   obtain ⟨j,hj,e⟩:=List.getElem_of_mem hm;refine HS.out j (by rw[<- HL.out];exact hj) ?_
   unfold zS;rw[List.getD_eq_getElem?_getD,List.getElem?_eq_getElem hj];exact e
  go_wp2
  go_ret
  exact ⟨-1,rfl,⟨fun h=>qD h,fun h=>absurd h HF.out⟩,rfl⟩
theorem YP (a:Option Addr) (zs:List Int) (len cap:Nat) (v:Int) (w:World) (hl:zs.length=len) (hm:len<=4611686018427387904) (h:At w a zs):
 Calls Tryz.prog 103 #[.slice a len cap,.int .i64 v] w fun e w'=>e=.returned (.bool (decide (v ∈ zs)))/\w=w':=by
 have IX:=zZ (JC a zs len cap v w hl hm h);clear h hl
 by_cases hv:v ∈ zs
 ·rw [decide_eq_true hv]
  go_enter Tryz.func103,Tryz.ntmps103
  go_wp2_with (go_at_call 123;(with_reducible refine IX.out.mono ?_);rintro e w' ⟨x,rfl,hx,rfl⟩;have hx0:=hx.2 hv;clear hx)
  go_ret
  exact ⟨rfl,rfl⟩
 rw[decide_eq_false hv]
 go_enter Tryz.func103,Tryz.ntmps103
 go_wp2_with (go_at_call 123;(with_reducible refine IX.out.mono ?_);rintro e w' ⟨x,rfl,hx,rfl⟩;have hx0:¬(0<=x):=fun h=>hv (hx.1 h);clear hx)
 go_ret
 exact ⟨by simp[hx0],rfl⟩
theorem JB (a:Option Addr) (zs:List Int) (len cap:Nat) (w:World) (hl:zs.length=len) (hm:len<=32) (hw:∀k,k<len->1<=zS zs k/\zS zs k<=4096) (h:At w a zs):
 Calls Tryz.prog 54 #[.slice a len cap] w fun e w'=>e=.returned (.int .i64 (xN zs))/\w=w':=by
 rcases h with h|⟨b,off,rfl,hc⟩
 ·subst h
  subst hl
  go_enter Tryz.func54,Tryz.ntmps54
  go_wp2
  go_loop [3,8] (fun s i=>i=.int .i64 0/\s=.int .i64 0) (fun _ _=>0)
  case atStart=>exact ⟨rfl,rfl⟩
  case round=>
   obtain ⟨rfl,rfl⟩:=hrel
   go_wp2
   go_ret
   exact ⟨rfl,rfl⟩
 have HC:=zZ hc;have HL:=zZ hl;have HW:=zZ hw;clear hc hl hw
 go_enter Tryz.func54,Tryz.ntmps54
 go_wp2
 go_loop [3,8] (fun s i=>∃(k:Nat) (z:Int),k<=len/\i=.int .i64 (k:Int)/\s=.int .i64 z/\0<=z/\z<=4096*(k:Int)/\z+xN (zs.drop k)=xN zs) (fun _ i=>match i with|.int _ k=>len-k.toNat|_=>0)
 case atStart=>exact ⟨0,0,Nat.zero_le _,rfl,rfl,Int.le_refl _,by simp,by rw[List.drop_zero];omega⟩
 case round=>
  obtain ⟨k,z,hk,rfl,rfl,hz0,hz1,hs⟩:=hrel;have HS:=zZ hs;clear hs
  by_cases hlt:k<len
  ·have c0:=HC.out k (by rw[HL.out];exact hlt)
   have HD:Hid (zs.drop k=zS zs k::zs.drop (k+1)):=vD zs k (by rw[HL.out];exact hlt);have hx:=HW.out k hlt;generalize zS zs k=x at *
   have HN:Hid (z+x+xN (zs.drop (k+1))=xN zs):=by
    show _=_;rw[<- HS.out,HD.out];show _=z+(x+xN _)
    omega
   have hwr:IntKind.i64.wrap (z+x)=z+x:=by rw[IntKind.wrap_i64];omega
   go_wp2
   go_round
   case measure=>go_num
   case rel=>exact ⟨k+1,z+x,by omega,by go_num,by first|rfl|rw[hwr],by omega,by push_cast;omega,HN.out⟩
  have ek:k=len:=by omega
  subst ek
  have HF:Hid (xN zs=z):=by
   show _=_;have:=HS.out;rw[List.drop_eq_nil_of_le (by rw[HL.out];exact Nat.le_refl _)]at this;have e0:xN []=0:=rfl;omega
  go_wp2
  go_ret
  exact ⟨by rw[HF.out];rfl,rfl⟩
def uY (n:NN):List Int->Bool
 |[]=>true
 |v::vs=>xT n v&&uY n vs
theorem ZP {n:NN} :∀ {vs:List Int},uY n vs=true↔∀v ∈ vs,xT n v=true
 |[]=>⟨fun _ v hv=>(by cases hv),fun _=>rfl⟩
 |v::vs=>by
  unfold uY;rw[Bool.and_eq_true,ZP];simp
theorem TO (n:NN) (na:Option Addr) (nc:Nat) (a:Option Addr) (zs:List Int) (len cap:Nat) (w:World) (hl:zs.length=len) (hm:len<=4611686018427387904) (h:At w a zs):
 Calls Tryz.prog 55 #[.agg #[.int .i64 n.nodes,.slice na n.arcs.length nc],.slice a len cap] w fun e w'=>e=.returned (.bool (uY n zs))/\Below w.heap.size w w':=by
 have b0:=(Below.refl w.heap.size w).alloc (Nat.le_refl _) (.cells #[.int .i64 n.nodes,.slice na n.arcs.length nc] 30);have X0:=zZ (zV 30 w #[.int .i64 n.nodes,.slice na n.arcs.length nc]);have B0:=zZ b0;have h':=h.below b0;clear b0 h;have y0:=X0.out.cell (k:=0) rfl;simp only[List.getElem_toArray,List.getElem_cons_zero]at y0
 go_enter Tryz.func55,Tryz.ntmps55
 go_upto_region 1 with fail
 generalize w.alloc (.cells #[.int .i64 n.nodes,.slice na n.arcs.length nc] 30)=W0 at *
 rcases h' with h|⟨b,off,rfl,hc⟩
 ·subst h
  subst hl
  go_wp2
  go_loop [9] (fun i=>i=.int .i64 0) (fun _=>0)
  case atStart=>exact rfl
  case round=>
   subst hrel
   go_wp2
   go_ret
   exact ⟨rfl,B0.out⟩
 have HC:=zZ hc;have HL:=zZ hl;clear hc hl
 go_wp2
 go_loop [9] (fun i=>∃k:Nat,k<=len/\i=.int .i64 (k:Int)/\uY n (zs.drop k)=uY n zs) (fun i=>match i with|.int _ k=>len-k.toNat|_=>0)
 case atStart=>exact ⟨0,Nat.zero_le _,rfl,rfl⟩
 case round=>
  obtain ⟨k,hk,rfl,hs⟩:=hrel;have HS:=zZ hs;clear hs
  by_cases hlt:k<len
  ·have c0:=HC.out k (by rw[HL.out];exact hlt)
   have HD:Hid (zs.drop k=zS zs k::zs.drop (k+1)):=vD zs k (by rw[HL.out];exact hlt);generalize zS zs k=z at *
   by_cases h1:z<0
   ·have HF:Hid (uY n zs=false):=by
     show _=_;rw[<- HS.out,HD.out,uY,show xT n z=false from decide_eq_false (by omega)];rfl
    go_wp2
    go_ret
    exact ⟨by rw[HF.out];rfl,B0.out⟩
   by_cases h2:n.nodes<=z
   ·have HF:Hid (uY n zs=false):=by
     show _=_;rw[<- HS.out,HD.out,uY,show xT n z=false from decide_eq_false (by omega)];rfl
    have hge:z≥n.nodes:=h2
    go_wp2
    go_ret
    exact ⟨by rw[HF.out];rfl,B0.out⟩
   have HN:Hid (uY n (zs.drop (k+1))=uY n zs):=by
    show _=_;rw[<- HS.out,HD.out,uY,show xT n z=true from decide_eq_true (by omega),Bool.true_and]
   go_wp2
   go_round
   case measure=>go_num
   case rel=>exact ⟨k+1,by omega,by go_num,HN.out⟩
  have ek:k=len:=by omega
  subst ek
  have HF:Hid (uY n zs=true):=by
   show _=_;rw[<- HS.out,List.drop_eq_nil_of_le (by rw[HL.out];exact Nat.le_refl _)];rfl
  go_wp2
  go_ret
  exact ⟨by rw[HF.out];rfl,B0.out⟩
theorem JA {zs:List Int} {k:Nat} (h:k<zs.length):zs.take (k+1)=zs.take k++[zS zs k]:=YC h
theorem zTY {zs:List Int} {k:Nat} (h:k<zs.length):zS zs k ∈ zs:=by
 unfold zS;rw[List.getD_eq_getElem?_getD,List.getElem?_eq_getElem h];exact List.getElem_mem _
theorem dS (B:Nat) (O:List Int) (d:Option Addr) (cO:Nat) (vs:List Int) (a:Option Addr) (len cap N:Nat) (w:World) (hl:vs.length=len) (hm:len<=4611686018427387904) (hN:N<=32) (hO:O.Nodup) (hOi:∀z ∈ O,0<=z/\z<(N:Int)) (hvi:∀z ∈ vs,0<=z/\z<(N:Int)) (hB:B<=w.heap.size) (hC:zO B w d cO O) (h:At w a vs) (hab:(∀ x,a=some x->vs≠[]->x.block<B)\/len=1):
 Calls Tryz.prog 82 #[.slice d O.length cO,.slice a len cap] w fun e w'=>∃d' c',e=.returned (.slice d' (rB O vs).length c')/\zO B w' d' c' (rB O vs)/\Below B w w':=by
 obtain ⟨RE,hRE⟩:∃R,(fun (e:Ending) (w':World)=>∃d' c',e=.returned (.slice d' (rB O vs).length c')/\zO B w' d' c' (rB O vs)/\Below B w w')=R:=⟨_,rfl⟩;rw[hRE];have HRE:=zZ hRE;have HL:=zZ hl;have HA:=zZ h;have HC:=zZ hC;have HO:=zZ hO;have HOi:=zZ hOi;have HVi:=zZ hvi;clear hRE hl h hC hO hOi hvi
 go_enter Tryz.func82,Tryz.ntmps82
 go_wp2
 go_loopg [0,9] len (fun gk u0 u9 wr=>∃(k c1:Nat) (d1:Option Addr),k<=len/\gk=len-k/\u0=.slice d1 (rB O (vs.take k)).length c1/\u9=.int .i64 (k:Int)/\zO B wr d1 c1 (rB O (vs.take k))/\Below B w wr/\(k<len->At wr a vs))
 case atStart=>exact ⟨0,cO,d,Nat.zero_le _,rfl,rfl,rfl,HC.out,Below.refl _ _,fun _=>HA.out⟩
 case round=>
  obtain ⟨k,c1,d1,hk,rfl,rfl,rfl,hc1,hb1,ha1⟩:=hrel;have C1:=zZ hc1;have B1:=zZ hb1;clear hc1 hb1
  by_cases hlt:k<len
  ·have hkv:k<vs.length:=by rw[HL.out];exact hlt
   have A1:=zZ (ha1 hlt);clear ha1;have hnd1:(rB O (vs.take k)).Nodup:=sF HO.out
   have hin1:∀z ∈ rB O (vs.take k),0<=z/\z<(N:Int):=fun z hz=>by
    rcases nM.1 hz with h1|h1
    ·exact HOi.out z h1
    exact HVi.out z (List.mem_of_mem_take h1)
   have hl1:=WC hnd1 hin1;clear hnd1 hin1;have TS:=zZ (JA hkv)
   have WS:Hid (rB O (vs.take (k+1))=if zS vs k ∈ rB O (vs.take k) then rB O (vs.take k) else rB O (vs.take k)++[zS vs k]):=by show _=_;rw[TS.out,ZQ]
   have hBr:B<=wr.heap.size:=Nat.le_trans hB B1.out.size
   rcases A1.out with e|⟨b,off,rfl,hc⟩
   ·rw [e]at hkv;exact absurd hkv (Nat.not_lt_zero _)
   have c0:=hc k hkv;clear hc TS
   have AN:Hid (∀ W,Below B wr W->k+1<len->At W (some ⟨b,off,none⟩) vs):=fun W hW hk1=>by
    rcases hab with h1|h1
    ·exact A1.out.keep fun x hx=>by cases hx;exact hW.block _ (h1 _ rfl (fun e=>by rw[e]at hkv;exact absurd hkv (Nat.not_lt_zero _)))
    omega
   generalize zS vs k=v at *;generalize hQ:rB O (vs.take k)=Q at *;have CN:=zZ (fun (W:World) (hW:At W d1 Q)=>YP d1 Q Q.length c1 v W rfl (by omega) hW)
   by_cases hv:v ∈ Q
   ·rw [if_pos hv]at WS
    have hdv:decide (v ∈ Q)=true:=decide_eq_true hv;rw[hdv]at CN;clear hdv hv
    go_wp2_with (go_at_call 103;(with_reducible refine (CN.out wr C1.out.at).mono ?_);rintro e w1 ⟨rfl,rfl⟩)
    go_roundg (len-(k+1))
    case measure=>omega
    case rel=>exact ⟨k+1,c1,d1,by omega,rfl,by rw[WS.out],by go_num,by rw[WS.out];exact C1.out,B1.out,AN.out _ (Below.refl _ _)⟩
   rw[if_neg hv]at WS;have hdv:decide (v ∈ Q)=false:=decide_eq_false hv;rw[hdv]at CN;clear hdv hv;have ba:=(Below.refl wr.heap.size wr).alloc (Nat.le_refl _) (.cells #[.int .i64 v] 3);have AX:=zZ (tT wr v);have CX:=zZ (C1.out.later ba);have BX:=zZ (ba.mono hBr);have hBx:B<=(wr.alloc (.cells #[.int .i64 v] 3)).heap.size:=Nat.le_trans hBr ba.size;clear ba
   go_wp2_with (first
    |(go_at_call 103;(with_reducible refine (CN.out wr C1.out.at).mono ?_);rintro e w1 ⟨rfl,rfl⟩)
    |(at_builtin;refine lY rfl _ _ rfl B d1 c1 Q rfl CX.out (some ⟨wr.heap.size,0,none⟩) 1 [v] rfl (fun e=>by cases e) AX.out (by simp;omega) hBx (Q.length+1) (Q++[v]) rfl rfl ?_;intro d3 c3 W3 hd3 b3;have C3:=zZ hd3;have B3:=zZ (BX.out.trans b3);clear hd3 b3))
   go_roundg (len-(k+1))
   case measure=>omega
   case rel=>exact ⟨k+1,c3,d3,by omega,rfl,by rw[WS.out];simp,by go_num,by rw[WS.out];exact C3.out,B1.out.trans B3.out,AN.out _ B3.out⟩
  have ek:k=len:=by omega
  subst ek;clear ha1;have HT:Hid (vs.take k=vs):=List.take_of_length_le (by rw[HL.out];exact Nat.le_refl _);rw[HT.out]at C1 ⊢
  go_wp2
  rw[<- HRE.out];exact ⟨d1,c1,rfl,C1.out,B1.out⟩
theorem IZ (P:List Int) (a:Option Addr) (len cap N:Nat) (w:World) (hl:P.length=len) (hm:len<=4611686018427387904) (hN:N<=32) (hvi:∀z ∈ P,0<=z/\z<(N:Int)) (h:At w a P):
 Calls Tryz.prog 56 #[.int .i64 (N:Int),.slice a len cap] w fun e w'=>∃d' c',e=.returned (.slice d' (sP N P).length c')/\zO w.heap.size w' d' c' (sP N P)/\Below w.heap.size w w':=by
 obtain ⟨RE,hRE⟩:∃R,(fun (e:Ending) (w':World)=>∃d' c',e=.returned (.slice d' (sP N P).length c')/\zO w.heap.size w' d' c' (sP N P)/\Below w.heap.size w w')=R:=⟨_,rfl⟩;rw[hRE];have HRE:=zZ hRE;have WN:Hid (Calls Tryz.prog 82 #[qN,.slice a len cap] w fun e w'=>∃d' c',e=.returned (.slice d' (rB [] P).length c')/\zO w.heap.size w' d' c' (rB [] P)/\Below w.heap.size w w'):=(dS w.heap.size [] none 0 P a len cap N w hl hm hN List.nodup_nil (fun z hz=>by cases hz) hvi (Nat.le_refl _) (World.ownsRow_nil _ _ _ _) h (.inl fun x hx hne=>QN h hne hx))
 have WN1:Hid (∀ (W:World) (O:List Int) (d:Option Addr) (c:Nat) (v:Int),w.heap.size<=W.heap.size->O.Nodup->(∀ z ∈ O,0<=z/\z<(N:Int))->0<=v/\v<(N:Int)->zO w.heap.size W d c O->Calls Tryz.prog 82 #[.slice d O.length c,.slice (some ⟨W.heap.size,0,none⟩) 1 1] (W.alloc (.cells #[.int .i64 v] 3)) fun e w'=>∃d' c',e=.returned (.slice d' (rB O [v]).length c')/\zO w.heap.size w' d' c' (rB O [v])/\Below w.heap.size W w'):=fun W O d c v hs hO hOi hv hC=>by
  have ba:=(Below.refl W.heap.size W).alloc (Nat.le_refl _) (.cells #[.int .i64 v] 3);refine (dS w.heap.size O d c [v] (some ⟨W.heap.size,0,none⟩) 1 1 N _ rfl (by decide) hN hO hOi (fun z hz=>by rw[List.mem_singleton]at hz;rw[hz];exact hv) (Nat.le_trans hs ba.size) (hC.later ba) (tT W v) (.inr rfl)).mono ?_
  rintro e w' ⟨d',c',rfl,h1,h2⟩
  exact ⟨d',c',rfl,h1,(ba.mono hs).trans h2⟩
 have HPi:=zZ hvi;clear hRE hl h hvi
 go_enter Tryz.func56,Tryz.ntmps56
 go_upto_region 2 with (go_at_call 82;(with_reducible refine WN.out.mono ?_);rintro e w1 ⟨d1,c1,rfl,hc1,hb1⟩;have C1:=zZ hc1;have B1:=zZ hb1;clear hc1 hb1)
 clear WN
 go_upto_region 3 with fail
 obtain ⟨BB,hBB⟩:∃q,w.heap.size=q:=⟨_,rfl⟩;have HBB:=zZ hBB
 go_loopg [5,6] N (fun gk u5 u6 wr=>∃(q c:Nat) (d:Option Addr) (L:List Int) (z:Int),q<=N/\gk=q/\z=(q:Int)-1/\u6=.int .i64 z/\ZR N=L++ZR q/\u5=.slice d (rB (rB [] P) L).length c/\zO w.heap.size wr d c (rB (rB [] P) L)/\Below w.heap.size w wr)
 case atStart=>exact ⟨N,c1,d1,[],(N:Int)-1,Nat.le_refl _,rfl,rfl,by first|rfl|go_num,rfl,rfl,C1.out,B1.out⟩
 case round=>
  clear C1 B1;obtain ⟨q,c,d,L,z,hq,rfl,hz,rfl,hf,rfl,hc,hb⟩:=hrel;have C1:=zZ hc;have B1:=zZ hb;have HF:=zZ hf;clear hc hb hf
  cases gk with
  |zero=>
   have hz':z= -1:=by omega
   subst hz';clear hz
   have HL:Hid (rB (rB [] P) L=sP N P):=by
    show _=_;unfold sP;rw[HF.out];show _=rB _ (L++[])
    rw[List.append_nil]
   rw[HL.out]at C1 ⊢
   go_wp2
   rw[<- HRE.out];exact ⟨d,c,rfl,C1.out,B1.out⟩
  |succ k=>
   have hz':z=(k:Int):=by omega
   subst hz';clear hz
   have hkI:(0:Int)<=(k:Int):=by omega
   have hge:(k:Int)≥0:=hkI
   have hFm:∀x ∈ L,0<=x/\x<(N:Int):=fun x hx=>kK.1 (by rw[HF.out];exact List.mem_append_left _ hx)
   have W1:=zZ (WN1.out wr (rB (rB [] P) L) d c (k:Int) B1.out.size (sF (sF List.nodup_nil)) (fun x hx=>by
    rcases nM.1 hx with h1|h1
    ·rcases nM.1 h1 with h2|h2
     ·cases h2
     exact HPi.out x h2
    exact hFm x h1) (by omega) C1.out)
   have HS:Hid (rB (rB (rB [] P) L) [(k:Int)]=rB (rB [] P) (L++[(k:Int)])):=by show _=_;rw[ZQ];rfl
   rw[HS.out]at W1;clear hFm
   go_wp2_with (go_at_call 82;(with_reducible refine W1.out.mono ?_);rintro e w2 ⟨d2,c2,rfl,hc2,hb2⟩;have C2:=zZ hc2;have B2:=zZ (B1.out.trans hb2);clear hc2 hb2)
   go_roundg k
   case measure=>omega
   case rel=>exact ⟨k,c2,d2,L++[(k:Int)],(k:Int)-1,by omega,rfl,rfl,by first|rfl|go_num,by rw[HF.out,List.append_assoc];rfl,rfl,C2.out,B2.out⟩
structure dR (B E : Nat) (w : World) (K0 K gL gO cL cO : Nat) (n : NN) (T F L O : List Int) : Prop where
 st:tB B E w K n T F
 blk:zE 133 K0 w #[(qP K),.slice (some ⟨gL,0,none⟩) L.length cL,.slice (some ⟨gO,0,none⟩) O.length cO]
 lef:zO E w (some ⟨gL,0,none⟩) cL L
 ord:zO E w (some ⟨gO,0,none⟩) cO O
 hK:E<=K0
 nL:K0≠gL
 nO:K0≠gO
 nLO:gL≠gO
 lL:L.length=n.nodes.toNat
 lO:O.length<=32
 nd:∀v ∈ O,xT n v=true
theorem dR.lts {B E:Nat} {w:World} {K0 K gL gO cL cO:Nat} {n:NN} {T F L O:List Int} (h:dR B E w K0 K gL gO cL cO n T F L O):K0<w.heap.size/\(E<=gL/\gL<w.heap.size)/\(E<=gO/\gO<w.heap.size)/\E<=w.heap.size/\B<=w.heap.size:=
 ⟨h.blk.lt,h.lef.lt _ rfl,h.ord.lt _ rfl,h.st.low.2,h.st.low.1⟩
theorem dR.keep {B E Q:Nat} {w w':World} {K0 K gL gO cL cO:Nat} {n:NN} {T F L O:List Int} (h:dR B E w K0 K gL gO cL cO n T F L O) (h0:K0<Q) (h1:gL<Q) (h2:gO<Q) (h3:E<=Q) (hk:∀k,k<Q->w'.heap[k]? =w.heap[k]?) (hs:w.heap.size<=w'.heap.size):dR B E w' K0 K gL gO cL cO n T F L O:=
 ⟨h.st.keep (fun k _ hE=>hk k (by omega)) hs,h.blk.keep (hk _ h0),h.lef.keep (fun x hx=>by cases hx;exact hk _ h1),h.ord.keep (fun x hx=>by cases hx;exact hk _ h2),h.hK,h.nL,h.nO,h.nLO,h.lL,h.lO,h.nd⟩
theorem dR.below {B E:Nat} {w w':World} {K0 K gL gO cL cO:Nat} {n:NN} {T F L O:List Int} (h:dR B E w K0 K gL gO cL cO n T F L O) (hb:Below w.heap.size w w'):dR B E w' K0 K gL gO cL cO n T F L O:=
 h.keep h.lts.1 h.lts.2.1.2 h.lts.2.2.1.2 h.lts.2.2.2.1 (fun k hk=>hb.block k hk) hb.size
theorem dR.fire {B E:Nat} {w w':World} {K0 K gL gO cL cO:Nat} {n:NN} {T F T' F' L O:List Int} (h:dR B E w K0 K gL gO cL cO n T F L O) (hs:tB B E w' K n T' F') (hM:uA B E w w'):dR B E w' K0 K gL gO cL cO n T' F' L O:=
 ⟨hs,h.blk.keep (hM.block _ h.lts.1 (.inr h.hK)),h.lef.keep (fun x hx=>by cases hx;exact hM.block _ h.lts.2.1.2 (.inr h.lts.2.1.1)),h.ord.keep (fun x hx=>by cases hx;exact hM.block _ h.lts.2.2.1.2 (.inr h.lts.2.2.1.1)),h.hK,h.nL,h.nO,h.nLO,h.lL,h.lO,h.nd⟩
theorem dR.left {B E:Nat} {w:World} {K0 K gL gO cL cO:Nat} {n:NN} {T F L O:List Int} (h:dR B E w K0 K gL gO cL cO n T F L O) (k:Nat) (x:Int):dR B E (w.setCell ⟨gL,k,none⟩ (.int .i64 x)) K0 K gL gO cL cO n T F (L.set k x) O:=by
 have hk:∀j,j≠gL->(w.setCell ⟨gL,k,none⟩ (.int .i64 x)).heap[j]? =w.heap[j]? :=fun j hj=>Below.heap_setCell w ⟨gL,k,none⟩ _ j hj
 refine ⟨h.st.keep (fun j _ hE=>hk j (by have:=h.lts.2.1.1;omega)) (by rw[World.size_setCell];exact Nat.le_refl _),?_,h.lef.setAt x,h.ord.keep (fun y hy=>by cases hy;exact hk _ (Ne.symm h.nLO)),h.hK,h.nL,h.nO,h.nLO,by rw[List.length_set];exact h.lL,h.lO,h.nd⟩
 rw[List.length_set];exact h.blk.keep (hk _ h.nL)
def gLU (n:NN) (L T:List Int) (v:Int):Bool:=decide (0<zS L v.toNat)&&wI n T v
def nxI (o:Option Int):Int:=o.getD (-1)
def LfU (n:NN) (R F L:List Int):Prop:=∀k,k<n.nodes.toNat->zS L k=zS R k-zS F k
theorem dQ {p q:Int->Bool} :∀ {O:List Int},(∀ v ∈ O,p v=q v)->O.find? p=O.find? q
 |[],_=>rfl
 |v::O,h=>by
  rw[List.find?_cons,List.find?_cons,h v (List.mem_cons_self ..),dQ fun u hu=>h u (List.mem_cons_of_mem _ hu)]
theorem zTX {n:NN} {R T F L O:List Int} (h:LfU n R F L) (hn:∀v ∈ O,xT n v=true):O.find? (gLU n L T)=mQ n R O T F:=by
 unfold mQ
 refine dQ fun v hv=>?_
 have:=vH (hn v hv);have e:=h v.toNat (by omega);unfold gLU goU CI
 congr 1
 rw[Bool.eq_iff_iff,decide_eq_true_iff,decide_eq_true_iff];omega
theorem zYQ {B E:Nat} (w:World) (K0 K gL gO cL cO:Nat) (n:NN) (T F L O:List Int) (h:dR B E w K0 K gL gO cL cO n T F L O):
 Calls Tryz.prog 57 #[(qP K0)] w fun e w'=>e=.returned (.int .i64 (nxI (O.find? (gLU n L T))))/\Below w.heap.size w w':=by
 obtain ⟨r,hr⟩:∃r,O.find? (gLU n L T)=r:=⟨_,rfl⟩;rw[hr];have H0:=zZ h;have HR:=zZ hr;have hlO:=h.lO;have hlL:=h.lL;have y2:=h.blk.cell (k:=2) rfl;simp only[List.getElem_toArray,List.getElem_cons_zero,List.getElem_cons_succ]at y2;obtain ⟨N,hN⟩:∃N,O.length=N:=⟨_,rfl⟩;rw[hN]at y2 hlO;have HN:=zZ hN;clear h hr hN
 go_enter Tryz.func57,Tryz.ntmps57
 go_wp2
 clear y2
 go_loopg [10] N (fun gk u wr=>∃k:Nat,k<=N/\gk=N-k/\u=.int .i64 (k:Int)/\Below w.heap.size w wr/\(O.drop k).find? (gLU n L T)=r)
 case atStart=>exact ⟨0,Nat.zero_le _,rfl,rfl,Below.refl _ _,HR.out⟩
 case round=>
  obtain ⟨k,hk,rfl,rfl,hb,hs⟩:=hrel;have HS:=zZ hs;have B1:=zZ hb;clear hs hb
  by_cases hlt:k<N
  ·have hko:k<O.length:=by rw[HN.out];exact hlt
   have H1:=zZ (H0.out.below B1.out);have hvO:=zTY hko;have hnb:=H0.out.nd _ hvO;have HD:Hid (O.drop k=zS O k::O.drop (k+1)):=vD O k hko
   rcases H1.out.ord.at with e|⟨ob,oo,eo,hco⟩
   ·rw [e]at hko;exact absurd hko (Nat.not_lt_zero _)
   cases eo
   have c0:=hco k hko;rw[Nat.zero_add]at c0;have hn:=vH hnb;have y0:=H1.out.blk.cell (k:=0) rfl;have y1:=H1.out.blk.cell (k:=1) rfl;simp only[List.getElem_toArray,List.getElem_cons_zero,List.getElem_cons_succ]at y0 y1;clear hco hvO;obtain ⟨m,hm⟩:∃m:Nat,zS O k=(m:Int):=⟨(zS O k).toNat,by omega⟩;rw[hm]at c0 HD hn hnb
   have hmL:m<L.length:=by rw[hlL];omega
   rcases H1.out.lef.at with e|⟨lb,lo,el,hcl⟩
   ·rw [e]at hmL;exact absurd hmL (Nat.not_lt_zero _)
   cases el
   have c1:=hcl m hmL;rw[Nat.zero_add]at c1
   have HG:Hid (gLU n L T (m:Int)=(decide (0<zS L m)&&wI n T (m:Int))):=by show _=_;unfold gLU;rw[Int.toNat_natCast]
   have MY:=zZ (FV wr K n T F H1.out.st (m:Int));generalize zS L m=x at *;generalize L.length=NL at *;clear hcl
   by_cases hx:0<x
   ·cases hb:wI n T (m:Int) with
    |true=>
     have HF:Hid (r=some (m:Int)):=by
      show _=_;rw[<- HS.out,HD.out,List.find?_cons,HG.out,decide_eq_true hx,hb];rfl
     rw[hb]at MY;have hgt:x>0:=hx;clear HG hb
     go_wp2_with (go_at_call 32;(with_reducible refine MY.out.mono ?_);rintro e w1 ⟨rfl,b1⟩;have B2:=zZ (B1.out.trans (b1.mono B1.out.size));clear b1)
     go_ret
     exact ⟨by rw[HF.out];rfl,B2.out⟩
    |false=>
     have HF:Hid ((O.drop (k+1)).find? (gLU n L T)=r):=by
      show _=_;rw[<- HS.out,HD.out,List.find?_cons,HG.out,decide_eq_true hx,hb];rfl
     rw[hb]at MY;have hgt:x>0:=hx;clear HG hb
     go_wp2_with (go_at_call 32;(with_reducible refine MY.out.mono ?_);rintro e w1 ⟨rfl,b1⟩;have B2:=zZ (B1.out.trans (b1.mono B1.out.size));clear b1)
     go_roundg (N-(k+1))
     case measure=>omega
     case rel=>exact ⟨k+1,by omega,rfl,by go_num,B2.out,HF.out⟩
   have HF:Hid ((O.drop (k+1)).find? (gLU n L T)=r):=by
    show _=_;rw[<- HS.out,HD.out,List.find?_cons,HG.out,decide_eq_false hx];rfl
   have hgt:¬x>0:=hx;clear HG MY
   go_wp2
   go_roundg (N-(k+1))
   case measure=>omega
   case rel=>exact ⟨k+1,by omega,rfl,by go_num,B1.out,HF.out⟩
  have ek:k=N:=by omega
  subst ek
  have HF:Hid (r=none):=by
   show _=_;rw[<- HS.out,List.drop_eq_nil_of_le (by rw[HN.out];exact Nat.le_refl _)];rfl
  go_wp2
  go_ret
  exact ⟨by rw[HF.out];rfl,B1.out⟩
theorem zTW {n:NN} {R O T F:List Int} (h:mQ n R O T F=none):nxI (mQ n R O T F)= -1:=by rw[h];rfl
theorem zPS {n:NN} {R F L:List Int} {m:Int} {T:List Int} (h:LfU n R F L) (hq:eC n m T F) (hm:m<=1000000000) (hl:L.length=n.nodes.toNat) {v:Nat} (hv:v<n.nodes.toNat):LfU n R (xS F (v:Int)) (L.set v (zS L v-1)):=by
 intro k hk;rw[nV hq hm (by omega) hk]
 by_cases e:k=v
 ·subst e
  rw[sB (by omega),if_pos rfl,h k hk];omega
 rw[rZ (by omega),if_neg (by omega),h k hk];omega
structure OC (n : NN) (R O : List Int) (f : Nat) (T0 F0 : List Int) (Z T F L : List Int) (m : Int) (f1 : Nat) : Prop where
 lf:LfU n R F L
 eq:eC n m T F
 top:NQ n F R
 sum:xN R-xN F<=(f1:Int)
 few:m+(f1:Int)<=1000000000
 run:uB n R O f T0 F0=(Z++(uB n R O f1 T F).1,(uB n R O f1 T F).2)
 len:Z.length+f1=f
theorem OC.step {n:NN} {R O:List Int} {f:Nat} {T0 F0 Z T F L:List Int} {m:Int} {f1:Nat} (h:OC n R O f T0 F0 Z T F L m f1) (hS:yI n) (hR:R.length=n.nodes.toNat) (hl:L.length=n.nodes.toNat) {v:Nat} (hx:mQ n R O T F=some (v:Int)):∃f2,f1=f2+1/\v<n.nodes.toNat/\0<zS L v/\zS L v<=zS R v/\wI n T (v:Int)=true/\OC n R O f T0 F0 (Z++[(v:Int)]) (wN n T (v:Int)) (xS F (v:Int)) (L.set v (zS L v-1)) (m+1) f2:=by
 obtain ⟨hlt,hv⟩:=mP (mO hx).1;have hnb:=tJ hv;have hn:=vH hnb;rw[Int.toNat_natCast]at hlt
 have hvN:v<n.nodes.toNat:=by omega
 have hs:=VB (F:=F) (R:=R) (j:=v) (by rw[h.eq.lF,hR]) (fun k hk=>h.top k (by rw[<- h.eq.lF];exact hk)) (by rw[h.eq.lF];exact hvN) hlt;have hsum:=h.sum;have hfew:=h.few
 cases f1 with
 |zero=>simp at hsum;omega
 |succ f2=>
  push_cast at hfew hsum
  have hLv:=h.lf v hvN;have hF0:=h.eq.fs v hvN;refine ⟨f2,rfl,hvN,by omega,by omega,hv,zPS h.lf h.eq (by omega) hl hvN,mR hS h.eq (by omega) hv,fun k hk=>?_,?_,by omega,?_,?_⟩
  ·rw [nV h.eq (by omega) (by omega) hk]
   have:=h.top k hk
   by_cases e:k=v
   ·subst e;rw[if_pos rfl];omega
   rw[if_neg (by omega)];omega
  ·rw [iK h.eq (by omega) hnb];omega
  ·rw [h.run,iI hx]
   simp
  have:=h.len;simp;omega
theorem OC.done {n:NN} {R O:List Int} {f:Nat} {T0 F0 Z T F L:List Int} {m:Int} {f1:Nat} (h:OC n R O f T0 F0 Z T F L m f1) (hx:mQ n R O T F=none):uB n R O f T0 F0=(Z,T,F):=by
 rw[h.run]
 cases f1 with
 |zero=>show (Z++[],T,F)=_;rw[List.append_nil]
 |succ f2=>rw[iJ hx];show (Z++[],T,F)=_;rw[List.append_nil]
theorem tB.base {B E:Nat} {w:World} {K:Nat} {n:NN} {T F:List Int} (h:tB B E w K n T F):B<=E:=by
 obtain ⟨aA,cA,H1,H2,D1,D2,E1,E2,aT,cT,gF,h⟩:=h;have:=h.iF;omega
theorem Below.setCell' {B:Nat} (w:World) (a:Addr) (v:Value) (h:B<=a.block):Below B w (w.setCell a v):=⟨rfl,rfl,rfl,by rw[World.size_setCell];exact Nat.le_refl _,fun k hk=>Below.heap_setCell _ _ _ _ (by omega)⟩
theorem OB {B E:Nat} (w:World) (K0 K gL gO cL cO:Nat) (n:NN) (T F L R O:List Int) (f:Nat) (m:Int) (h:dR B E w K0 K gL gO cL cO n T F L O) (hS:yI n) (hR:R.length=n.nodes.toNat) (hRb:∀k,k<n.nodes.toNat->zS R k<=4096) (hf:f<=4096) (hM:OC n R O f T F [] T F L m f):
 Calls Tryz.prog 28 #[(qP K0)] w fun e w'=>∃d c L1,e=.returned (.slice d (uB n R O f T F).1.length c)/\zO w.heap.size w' d c (uB n R O f T F).1/\dR B E w' K0 K gL gO cL cO n (uB n R O f T F).2.1 (uB n R O f T F).2.2 L1 O/\LfU n R (uB n R O f T F).2.2 L1/\Below B w w':=by
 obtain ⟨RE,hRE⟩:∃Q,(fun (e:Ending) (w':World)=>∃d c L1,e=.returned (.slice d (uB n R O f T F).1.length c)/\zO w.heap.size w' d c (uB n R O f T F).1/\dR B E w' K0 K gL gO cL cO n (uB n R O f T F).2.1 (uB n R O f T F).2.2 L1 O/\LfU n R (uB n R O f T F).2.2 L1/\Below B w w')=Q:=⟨_,rfl⟩;rw[hRE];have HRE:=zZ hRE;have H0:=zZ h;have HM:=zZ hM;obtain ⟨Q,hQ⟩:∃q,w.heap.size=q:=⟨_,rfl⟩;have HQ:=zZ hQ;have hlts:=h.lts;rw[hQ]at hlts
 have HNX:Hid (∀ (W:World) (T1 F1 L1:List Int),dR B E W K0 K gL gO cL cO n T1 F1 L1 O->LfU n R F1 L1->Calls Tryz.prog 57 #[(qP K0)] W fun e w'=>e=.returned (.int .i64 (nxI (mQ n R O T1 F1)))/\Below W.heap.size W w'):=fun W T1 F1 L1 hr hl=>by
  have:=zYQ W K0 K gL gO cL cO n T1 F1 L1 O hr;rw[zTX hl hr.nd]at this;exact this
 have N0:=zZ (HNX.out w T F L h hM.lf);clear hRE h hM hQ
 go_enter Tryz.func28,Tryz.ntmps28
 go_upto_region 3 with (go_at_call 57;(with_reducible refine N0.out.mono ?_);rintro e w1 ⟨rfl,b1⟩;have B1:=zZ b1;clear b1)
 clear N0
 go_loopg [3,4] f (fun gk u3 u4 wr=>∃(Z T1 F1 L1:List Int) (d:Option Addr) (c:Nat) (m1 x:Int),u3=.slice d Z.length c/\u4=.int .i64 x/\x=nxI (mQ n R O T1 F1)/\dR B E wr K0 K gL gO cL cO n T1 F1 L1 O/\zO Q wr d c Z/\Below B w wr/\Q<=wr.heap.size/\OC n R O f T F Z T1 F1 L1 m1 gk)
 case atStart=>exact ⟨[],T,F,L,none,0,m,_,rfl,rfl,rfl,H0.out.below B1.out,World.ownsRow_nil _ _ _ _,B1.out.mono H0.out.lts.2.2.2.2,by rw[<- HQ.out];exact B1.out.size,HM.out⟩
 case round=>
  clear B1 H0 HM;obtain ⟨Z,T1,F1,L1,d,c,m1,x,rfl,rfl,hx,hRn,hC,hb,hQr,hMd⟩:=hrel;have R1:=zZ hRn;have C1:=zZ hC;have B1:=zZ hb;have M1:=zZ hMd;clear hRn hC hb hMd
  cases hnx:mQ n R O T1 F1 with
  |none=>
   rw[zTW hnx]at hx;subst hx;have HE:=zZ (M1.out.done hnx);clear hnx
   go_wp2
   rw[<- HRE.out,HE.out];exact ⟨d,c,L1,rfl,by rw[HQ.out];exact C1.out,R1.out,M1.out.lf,B1.out⟩
  |some v0=>
   have hnb:=(mP (mO hnx).1).2;have hn0:=vH (tJ hnb);obtain ⟨v,rfl⟩:∃v:Nat,v0=(v:Int):=⟨v0.toNat,by omega⟩
   have hx':x=(v:Int):=by rw[hx,hnx];rfl
   subst hx';clear hx hnb hn0;obtain ⟨f2,rfl,hvN,hL0,hL1,hmay,hM2⟩:=M1.out.step hS hR R1.out.lL hnx;have M2:=zZ hM2;have hRv:=hRb v hvN;clear hM2 hnx
   have hZl:Z.length<=4096:=by have:=M1.out.len;omega
   have hne:¬((v:Int)= -1):=by omega
   have hneb:((v:Int)!= -1)=true:=by simp
   have y0:=R1.out.blk.cell (k:=0) rfl;simp only[List.getElem_toArray,List.getElem_cons_zero]at y0;have ba:=(Below.refl wr.heap.size wr).alloc (Nat.le_refl _) (.cells #[.int .i64 (v:Int)] 3);have R2:=zZ (R1.out.below ba)
   have FI:Hid (Calls Tryz.prog 11 #[(qP K),.slice (some ⟨wr.heap.size,0,none⟩) 1 1] (wr.alloc (.cells #[.int .i64 (v:Int)] 3)) fun e w'=>e=.returned (.int .i64 1)/\tB B E w' K n (wN n T1 (v:Int)) (xS F1 (v:Int))/\uA B E (wr.alloc (.cells #[.int .i64 (v:Int)] 3)) w'):=by
    have:=kZ (wr.alloc (.cells #[.int .i64 (v:Int)] 3)) K n T1 F1 R2.out.st (some ⟨wr.heap.size,0,none⟩) 1 [(v:Int)] (tT wr (v:Int)) (by simp) (fun y hy _=>by cases hy;exact .inr R1.out.lts.2.2.2.1);rw[lN,if_pos hmay]at this;exact this
   have C2:=zZ (C1.out.later ba);have B2:=zZ (B1.out.trans (ba.mono R1.out.lts.2.2.2.2));have hQ2:Q<=(wr.alloc (.cells #[.int .i64 (v:Int)] 3)).heap.size:=Nat.le_trans hQr ba.size;clear ba hmay
   go_upto_region 6 with (go_at_call 11;(with_reducible refine FI.out.mono ?_);rintro e w3 ⟨rfl,s3,m3⟩;have R3:=zZ (R2.out.fire s3 m3);have C3:=zZ (C2.out.keep fun y hy=>m3.block _ (C2.out.lt y hy).2 (.inr (Nat.le_trans hlts.2.2.2.1 (C2.out.lt y hy).1)));have B3:=zZ (B2.out.trans (m3.below (Nat.le_trans hlts.2.2.2.2 hQ2)));have hQ3:=Nat.le_trans hQ2 m3.size;clear s3 m3)
   clear FI R1 R2 C1 C2 B1 B2 hQ2 y0 hQr;have y1:=R3.out.blk.cell (k:=1) rfl;simp only[List.getElem_toArray,List.getElem_cons_zero,List.getElem_cons_succ]at y1
   have hvL:v<L1.length:=by rw[R3.out.lL];exact hvN
   rcases R3.out.lef.at with e|⟨lb,lo,el,hcl⟩
   ·rw [e]at hvL;exact absurd hvL (Nat.not_lt_zero _)
   cases el
   have c1:=hcl v hvL;rw[Nat.zero_add]at c1;have f1:=R3.out.lef.fz v;have R4:=zZ (R3.out.left v (zS L1 v-1));have C4:=zZ (C3.out.setOther (ad:=⟨gL,v,none⟩) (fun y hy=>by have:=(C3.out.lt y hy).1;have:=hlts.2.1.2;show y.block≠gL;omega) (.int .i64 (zS L1 v-1)));have B4:Hid (Below B w (w3.setCell ⟨gL,v,none⟩ (.int .i64 (zS L1 v-1)))):=B3.out.trans (Below.setCell' w3 ⟨gL,v,none⟩ _ (Nat.le_trans (by have:=R3.out.st;exact tB.base this) R3.out.lts.2.1.1))
   have hQ4:Q<=(w3.setCell ⟨gL,v,none⟩ (.int .i64 (zS L1 v-1))).heap.size:=by rw[World.size_setCell];exact hQ3
   have hwr:IntKind.i64.wrap (zS L1 v-1)=zS L1 v-1:=by rw[IntKind.wrap_i64];omega
   generalize hLx:zS L1 v=z at *;generalize L1.length=NL at *;clear hcl R3 C3 B3 hQ3
   go_upto_region 7 with fail
   generalize w3.setCell ⟨gL,v,none⟩ (.int .i64 (z-1))=w4 at *;have ba:=(Below.refl w4.heap.size w4).alloc (Nat.le_refl _) (.cells #[.int .i64 (v:Int)] 3);have R5:=zZ (R4.out.below ba);have C5:=zZ (C4.out.later ba);have B5:=zZ (B4.out.trans (ba.mono R4.out.lts.2.2.2.2));have A5:=zZ (tT w4 (v:Int));have hQ5:Q<=(w4.alloc (.cells #[.int .i64 (v:Int)] 3)).heap.size:=Nat.le_trans hQ4 ba.size;clear ba R4 C4 B4 c1 y1 f1
   go_wp2_with (first
    |(at_builtin;refine lY rfl _ _ rfl Q d c Z rfl C5.out (some ⟨w4.heap.size,0,none⟩) 1 [(v:Int)] rfl (fun e=>by cases e) A5.out (by simp;omega) hQ5 (Z.length+1) (Z++[(v:Int)]) rfl rfl ?_;intro d6 c6 w6 hd6 b6;have C6:=zZ hd6;have R6:=zZ (R5.out.keep hlts.1 hlts.2.1.2 hlts.2.2.1.2 hlts.2.2.2.1 (fun k hk=>b6.block k hk) b6.size);have B6:=zZ (B5.out.trans (b6.mono hlts.2.2.2.2));have hQ6:=Nat.le_trans hQ5 b6.size;clear hd6 b6;have N6:=zZ (HNX.out w6 _ _ _ R6.out M2.out.lf))
    |(go_at_call 57;(with_reducible refine N6.out.mono ?_);rintro e w7 ⟨rfl,b7⟩;have R7:=zZ (R6.out.below b7);have C7:=zZ (C6.out.later b7);have B7:=zZ (B6.out.trans (b7.mono R6.out.lts.2.2.2.2));have hQ7:=Nat.le_trans hQ6 b7.size;clear b7))
   go_roundg f2
   case measure=>omega
   case rel=>exact ⟨Z++[(v:Int)],_,_,_,d6,c6,m1+1,_,by simp,rfl,rfl,R7.out,C7.out,B7.out,hQ7,M2.out⟩
def oF:NN:=⟨2,[⟨0,1,2,3,0⟩]⟩
theorem ZO:zN oF=0/\vdB oF=1/\rpB oF=[3,2]/\cyB oF=[]:=by decide +kernel
theorem zPR (U:World) (d:Option Addr) (cc:Nat) (h:vN U d oF.arcs):Calls Tryz.prog 6 #[.agg #[.int .i64 2,.slice d 1 cc]] U fun e w'=>∃d1 c1 d2 c2,e=.returned (.tuple #[.agg #[.int .u8 1,.slice d1 2 c1,.slice d2 0 c2],.int .i64 0])/\At w' d1 [3,2]/\Below U.heap.size U w':=
 (kL oF d cc U h (by decide)).mono fun e w' q=>by
  obtain ⟨d1,c1,d2,c2,h1,h2,h3,h4⟩:=q;rw[ZO.1,ZO.2.1,ZO.2.2.1,ZO.2.2.2]at h1;rw[ZO.2.2.1]at h2;exact ⟨d1,c1,d2,c2,h1,h2.at,h4⟩
theorem zYP {n:NN} (hc:zN n=0) (hb:kF n=true) (a:Option Addr) (c:Nat) (w:World) (h:vN w a n.arcs) (hl:n.arcs.length<=4611686018427387904):Calls Tryz.prog 6 #[.agg #[.int .i64 n.nodes,.slice a n.arcs.length c]] w fun e w'=>∃d1 c1 d2 c2,e=.returned (.tuple #[.agg #[.int .u8 3,.slice d1 0 c1,.slice d2 0 c2],.int .i64 0])/\Below w.heap.size w w':=
 (kL n a c w h hl).mono fun e w' q=>by
  obtain ⟨d1,c1,d2,c2,h1,h2,h3,h4⟩:=q;obtain ⟨v1,v2,v3⟩:=EE hc hb;rw[v1,v2,v3,hc]at h1;exact ⟨d1,c1,d2,c2,h1,h4⟩
theorem zYO {n:NN} {i:Nat} (hc:zN n=0) (hb:kF n=false) (hf:jB n.arcs (kM n)=some i) (a:Option Addr) (c:Nat) (w:World) (h:vN w a n.arcs) (hl:n.arcs.length<=4611686018427387904):Calls Tryz.prog 6 #[.agg #[.int .i64 n.nodes,.slice a n.arcs.length c]] w fun e w'=>∃d1 c1 d2 c2,e=.returned (.tuple #[.agg #[.int .u8 2,.slice d1 0 c1,.slice d2 (rJ n i).length c2],.int .i64 0])/\wT w.heap.size w' d2 c2 (rJ n i)/\Below w.heap.size w w':=
 (kL n a c w h hl).mono fun e w' q=>by
  obtain ⟨d1,c1,d2,c2,h1,h2,h3,h4⟩:=q;obtain ⟨v1,v2,v3⟩:=ED hc hb hf;rw[v1,v2,v3,hc]at h1;rw[v3]at h3;exact ⟨d1,c1,d2,c2,h1,h3,h4⟩
theorem IY {n:NN} (hc:zN n=0) (hb:kF n=false) (hf:jB n.arcs (kM n)=none) (a:Option Addr) (c:Nat) (w:World) (h:vN w a n.arcs) (hl:n.arcs.length<=4611686018427387904):Calls Tryz.prog 6 #[.agg #[.int .i64 n.nodes,.slice a n.arcs.length c]] w fun e w'=>∃d1 c1 d2 c2,e=.returned (.tuple #[.agg #[.int .u8 1,.slice d1 n.nodes.toNat c1,.slice d2 0 c2],.int .i64 0])/\zO w.heap.size w' d1 c1 (yV n.nodes.toNat (kM n))/\Below w.heap.size w w':=
 (kL n a c w h hl).mono fun e w' q=>by
  obtain ⟨d1,c1,d2,c2,h1,h2,h3,h4⟩:=q;obtain ⟨v1,v2,v3⟩:=OD hc hb hf;rw[v1,v2,v3,hc,yY]at h1;rw[v2]at h2;exact ⟨d1,c1,d2,c2,h1,h2,h4⟩
theorem NZ (A:List NA) (m:Int) (a:Option Addr) (c:Nat) (L:List (Int × Bool)) (la:Option Addr) (lc:Nat) (w:World) (ha:vN w a A) (hl:JI w la L) (hN:L.length<=4611686018427387904) (hcap:L.length<=lc):
 Calls Tryz.prog 23 #[.agg #[.int .i64 m,.slice a A.length c],.slice la L.length lc] w fun e w'=>e=.returned (.bool (QX A L))/\Below w.heap.size w w':=by
 have b0:=(Below.refl w.heap.size w).alloc (Nat.le_refl _) (.cells #[.int .i64 m,.slice a A.length c] 30);have X0:=zZ (zV 30 w #[.int .i64 m,.slice a A.length c]);have B0:=zZ b0;have HA:=zZ (ha.below b0);have HL:=zZ (hl.below b0);have y0:=X0.out.cell (k:=0) rfl;have y1:=X0.out.cell (k:=1) rfl;simp only[List.getElem_toArray,List.getElem_cons_zero,List.getElem_cons_succ]at y0 y1;clear b0 ha hl;unfold QX
 by_cases h0:0<L.length
 ·have AN:Hid (∀ U,Below (w.alloc (.cells #[.int .i64 m,.slice a A.length c] 30)).heap.size (w.alloc (.cells #[.int .i64 m,.slice a A.length c] 30)) U->Calls Tryz.prog 47 #[.agg #[.int .i64 m,.slice a A.length c],.slice la L.length lc] U fun e w'=>e=.returned (.bool (LJ A L))/\Below U.heap.size U w'):=fun U hU=>TV A m a c L la lc U (HA.out.below hU) (HL.out.below hU) hN
  cases h1:LJ A L with
  |false=>
   rw[h1]at AN;obtain ⟨N,hLN⟩:∃N,L.length=N:=⟨_,rfl⟩;rw[hLN]at AN h0 ⊢
   have hi:(0:Int)<(N:Int):=by omega
   go_enter Tryz.func23,Tryz.ntmps23
   go_upto_region 1 with fail
   generalize w.alloc (.cells #[.int .i64 m,.slice a A.length c] 30)=W0 at *
   go_wp2_with (go_at_call 47;(with_reducible refine (AN.out W0 (Below.refl _ _)).mono ?_);rintro e V1 ⟨rfl,q1⟩;have L1:=zZ q1;clear q1)
   go_ret
   exact ⟨by simp;try rfl,B0.out.trans (L1.out.mono B0.out.size)⟩
  |true=>
   have LH:Hid (∀ U,Below (w.alloc (.cells #[.int .i64 m,.slice a A.length c] 30)).heap.size (w.alloc (.cells #[.int .i64 m,.slice a A.length c] 30)) U->Calls Tryz.prog 48 #[.agg #[.int .i64 m,.slice a A.length c],.slice la L.length lc] U fun e w'=>e=.returned (.bool (hmW A L))/\Below U.heap.size U w'):=fun U hU=>TU A m a c L la lc U (HA.out.below hU) (HL.out.below hU) hN h0 h1
   have TW:Hid (∀ U,Below (w.alloc (.cells #[.int .i64 m,.slice a A.length c] 30)).heap.size (w.alloc (.cells #[.int .i64 m,.slice a A.length c] 30)) U->Calls Tryz.prog 49 #[.agg #[.int .i64 m,.slice a A.length c],.slice la L.length lc] U fun e w'=>e=.returned (.bool (twW A L))/\Below U.heap.size U w'):=fun U hU=>TQ A m a c L la lc U (HA.out.below hU) (HL.out.below hU) hN hcap h1
   rw[h1]at AN;obtain ⟨N,hLN⟩:∃N,L.length=N:=⟨_,rfl⟩;rw[hLN]at AN LH TW h0 ⊢
   have hi:(0:Int)<(N:Int):=by omega
   cases h2:hmW A L with
   |false=>
    rw[h2]at LH
    go_enter Tryz.func23,Tryz.ntmps23
    go_upto_region 1 with fail
    generalize w.alloc (.cells #[.int .i64 m,.slice a A.length c] 30)=W0 at *
    go_wp2_with (first
     |(go_at_call 47;(with_reducible refine (AN.out W0 (Below.refl _ _)).mono ?_);rintro e V1 ⟨rfl,q1⟩;have L1:=zZ q1;clear q1;have y0:=(X0.out.below L1.out).cell (k:=0) rfl;have y1:=(X0.out.below L1.out).cell (k:=1) rfl;simp only[List.getElem_toArray,List.getElem_cons_zero,List.getElem_cons_succ]at y0 y1)
     |(go_at_call 48;(with_reducible refine (LH.out V1 L1.out).mono ?_);rintro e V2 ⟨rfl,q2⟩;have L2:=zZ ((L1.out).trans (q2.mono (L1.out).size));clear q2))
    go_ret
    exact ⟨by simp;try rfl,B0.out.trans (L2.out.mono B0.out.size)⟩
   |true=>
    rw[h2]at LH;obtain ⟨tw,htw⟩:∃b,twW A L=b:=⟨_,rfl⟩;rw[htw]at TW ⊢
    go_enter Tryz.func23,Tryz.ntmps23
    go_upto_region 1 with fail
    generalize w.alloc (.cells #[.int .i64 m,.slice a A.length c] 30)=W0 at *
    go_wp2_with (first
     |(go_at_call 47;(with_reducible refine (AN.out W0 (Below.refl _ _)).mono ?_);rintro e V1 ⟨rfl,q1⟩;have L1:=zZ q1;clear q1;have y0:=(X0.out.below L1.out).cell (k:=0) rfl;have y1:=(X0.out.below L1.out).cell (k:=1) rfl;simp only[List.getElem_toArray,List.getElem_cons_zero,List.getElem_cons_succ]at y0 y1)
     |(go_at_call 48;(with_reducible refine (LH.out V1 L1.out).mono ?_);rintro e V2 ⟨rfl,q2⟩;have L2:=zZ ((L1.out).trans (q2.mono (L1.out).size));clear q2;have y0:=(X0.out.below L2.out).cell (k:=0) rfl;have y1:=(X0.out.below L2.out).cell (k:=1) rfl;simp only[List.getElem_toArray,List.getElem_cons_zero,List.getElem_cons_succ]at y0 y1)
     |(go_at_call 49;(with_reducible refine (TW.out V2 L2.out).mono ?_);rintro e V3 ⟨rfl,q3⟩;have L3:=zZ ((L2.out).trans (q3.mono (L2.out).size));clear q3))
    go_ret
    exact ⟨by simp[h0];try rfl,B0.out.trans (L3.out.mono B0.out.size)⟩
 obtain ⟨N,hLN⟩:∃N,L.length=N:=⟨_,rfl⟩;rw[hLN]at h0 ⊢
 have hi:¬(0:Int)<(N:Int):=by omega
 go_enter Tryz.func23,Tryz.ntmps23
 go_wp2
 go_ret
 exact ⟨by simp,B0.out⟩
theorem TM:∀ {zs:List Int},(∀ z,z ∈ zs->1<=z)->uO zs=true
 |[],_=>rfl
 |z::zs,h=>by
  unfold uO;have h1:=h z (List.mem_cons_self ..)
  have h2:=TM fun y hy=>h y (List.mem_cons_of_mem _ hy)
  simp[h2];omega
theorem zTV {zs:List Int} (h:∀z,z ∈ zs->0<=z/\z<=1000):cQ zs:=by
 intro k;unfold zS;rw[List.getD_eq_getElem?_getD]
 by_cases hk:k<zs.length
 ·rw [List.getElem?_eq_getElem hk]
  have:=h _ (List.getElem_mem hk);simp only[Option.getD_some];omega
 rw[List.getElem?_eq_none (by omega)]
 decide
theorem yI.taken {n:NN} (h:yI n) {x:Int × Bool} (hx:LM n.arcs x=true):(1<=(oE n.arcs x).g/\(oE n.arcs x).g<=64)/\(1<=(oE n.arcs x).k/\(oE n.arcs x).k<=64)/\(0<=jC n.arcs x/\jC n.arcs x<n.nodes)/\(0<=jV n.arcs x/\jV n.arcs x<n.nodes):=by
 obtain ⟨h1,h2⟩:=EJ.1 hx;have hs:=h.arcs x.1.toNat (by omega);unfold jC jV oE
 split
 ·exact ⟨hs.k,hs.g,hs.t,hs.f⟩
 exact ⟨hs.g,hs.k,hs.f,hs.t⟩
theorem yI.rates {n:NN} (h:yI n) {L:List (Int × Bool)} (hm:LJ n.arcs L=true):(∀ z,z ∈ jH n.arcs L->1<=z/\z<=64)/\(∀ z,z ∈ mG n.arcs L->1<=z/\z<=64):=by
 constructor
 ·intro z hz
  obtain ⟨x,hx,rfl⟩:=List.mem_map.1 hz;exact (h.taken (mF.1 hm x hx)).1
 intro z hz;obtain ⟨x,hx,rfl⟩:=List.mem_map.1 hz;exact (h.taken (mF.1 hm x hx)).2.1
theorem WB {A:List NA} {L:List (Int × Bool)} (h:QX A L=true):LJ A L=true:=mF.2 (UX.1 h).named
theorem zTU {n:NN} (h:yI n) {L:List (Int × Bool)} (hm:LJ n.arcs L=true) (hl:L.length<=1000):cE (jH n.arcs L) (mG n.arcs L)=0/\eqB (jH n.arcs L) (mG n.arcs L)=alW n.arcs L/\cQ (jH n.arcs L)/\cQ (mG n.arcs L):=by
 obtain ⟨r1,r2⟩:=h.rates hm;have e:cE (jH n.arcs L) (mG n.arcs L)=0:=zPH (by rw[JH];omega) (by rw[JG];omega) (by rw[TM fun z hz=>(r1 z hz).1,TM fun z hz=>(r2 z hz).1];rfl);refine ⟨e,?_,zTV fun z hz=>?_,zTV fun z hz=>?_⟩
 ·unfold eqB alW
  rw[decide_eq_true e,Bool.true_and]
 ·have:=r1 z hz;omega
 have:=r2 z hz;omega
theorem NY (n:NN) (a:Option Addr) (c:Nat) (L:List (Int × Bool)) (la:Option Addr) (lc:Nat) (w:World) (ha:vN w a n.arcs) (hln:n.arcs.length<=4611686018427387904) (hl:JI w la L) (hN:L.length<=4611686018427387904) (hcap:L.length<=lc):
 Calls Tryz.prog 7 #[.agg #[.int .i64 n.nodes,.slice a n.arcs.length c],.slice la L.length lc] w fun e w'=>e=.returned (.int .i64 (BO n L))/\Below w.heap.size w w':=by
 have b0:=(Below.refl w.heap.size w).alloc (Nat.le_refl _) (.cells #[.int .i64 n.nodes,.slice a n.arcs.length c] 30);have X0:=zZ (zV 30 w #[.int .i64 n.nodes,.slice a n.arcs.length c]);have B0:=zZ b0;have HA:=zZ (ha.below b0);have HL:=zZ (hl.below b0);have CH:=zZ (rS n a c _ (ha.below b0) hln)
 have IC:Hid (∀ U,Below (w.alloc (.cells #[.int .i64 n.nodes,.slice a n.arcs.length c] 30)).heap.size (w.alloc (.cells #[.int .i64 n.nodes,.slice a n.arcs.length c] 30)) U->Calls Tryz.prog 23 #[.agg #[.int .i64 n.nodes,.slice a n.arcs.length c],.slice la L.length lc] U fun e w'=>e=.returned (.bool (QX n.arcs L))/\Below U.heap.size U w'):=fun U hU=>NZ n.arcs n.nodes a c L la lc U (HA.out.below hU) (HL.out.below hU) hN hcap
 have y0:=X0.out.cell (k:=0) rfl;have y1:=X0.out.cell (k:=1) rfl;simp only[List.getElem_toArray,List.getElem_cons_zero,List.getElem_cons_succ]at y0 y1;clear b0 ha hl;obtain ⟨E,hE⟩:∃E,BO n L=E:=⟨_,rfl⟩;rw[hE];unfold BO at hE
 by_cases hc:zN n=0
 ·rw [if_pos hc]at hE
  rw[hc]at CH
  cases h1:QX n.arcs L with
  |false=>
   rw[h1]at IC hE;simp only[Bool.false_eq_true,if_false]at hE;subst hE;generalize L.length=N at *
   go_enter Tryz.func7,Tryz.ntmps7
   go_upto_region 1 with fail
   generalize w.alloc (.cells #[.int .i64 n.nodes,.slice a n.arcs.length c] 30)=W0 at *
   go_wp2_with (first
    |(go_at_call 22;(with_reducible refine CH.out.mono ?_);rintro e V1 ⟨rfl,q1⟩;have L1:=zZ q1;clear q1;have y0:=(X0.out.below L1.out).cell (k:=0) rfl;have y1:=(X0.out.below L1.out).cell (k:=1) rfl;simp only[List.getElem_toArray,List.getElem_cons_zero,List.getElem_cons_succ]at y0 y1)
    |(go_at_call 23;(with_reducible refine (IC.out V1 L1.out).mono ?_);rintro e V2 ⟨rfl,q2⟩;have L2:=zZ (L1.out.trans (q2.mono L1.out.size));clear q2;have y0:=(X0.out.below L2.out).cell (k:=0) rfl;have y1:=(X0.out.below L2.out).cell (k:=1) rfl;simp only[List.getElem_toArray,List.getElem_cons_zero,List.getElem_cons_succ]at y0 y1))
   go_ret
   exact ⟨rfl,B0.out.trans (L2.out.mono B0.out.size)⟩
  |true=>
   have hS:=zB hc
   have hlen:L.length<=1000:=by have:=(UX.1 h1).few;have:=hS.most;omega
   obtain ⟨r0,r1,r2,r3⟩:=zTU hS (WB h1) hlen
   have RA:Hid (∀ U,Below (w.alloc (.cells #[.int .i64 n.nodes,.slice a n.arcs.length c] 30)).heap.size (w.alloc (.cells #[.int .i64 n.nodes,.slice a n.arcs.length c] 30)) U->Calls Tryz.prog 24 #[.agg #[.int .i64 n.nodes,.slice a n.arcs.length c],.slice la L.length lc] U (zQA U (jH n.arcs L) (mG n.arcs L))):=fun U hU=>JF n.arcs n.nodes a c L la lc U (HA.out.below hU) (HL.out.below hU) hlen (WB h1)
   have EQ:Hid (∀ U d1 c1 d2 c2,At U d1 (jH n.arcs L)->At U d2 (mG n.arcs L)->Calls Tryz.prog 25 #[.slice d1 (jH n.arcs L).length c1,.slice d2 (mG n.arcs L).length c2] U fun e w'=>e=.returned (.tuple #[.bool (alW n.arcs L),.int .i64 0])/\Below U.heap.size U w'):=fun U d1 c1 d2 c2 g1 g2=>by
    have q:=DA d1 d2 (jH n.arcs L) (mG n.arcs L) _ c1 _ c2 U rfl rfl (by rw[JH];omega) (by rw[JG];omega) r2 r3 g1 g2;unfold zPG at q;rw[r0,r1]at q;exact q
   unfold zQA at RA;rw[h1]at IC hE;simp only[if_true]at hE;clear hS r0 r1 r2 r3 hc h1;generalize jH n.arcs L=xs at *;generalize mG n.arcs L=ys at *
   cases h2:alW n.arcs L with
   |false=>
    rw[h2]at EQ hE;simp only[Bool.false_eq_true,if_false]at hE;subst hE;generalize L.length=N at *
    go_enter Tryz.func7,Tryz.ntmps7
    go_upto_region 1 with fail
    generalize w.alloc (.cells #[.int .i64 n.nodes,.slice a n.arcs.length c] 30)=W0 at *
    go_wp2_with (first
     |(go_at_call 22;(with_reducible refine CH.out.mono ?_);rintro e V1 ⟨rfl,q1⟩;have L1:=zZ q1;clear q1;have y0:=(X0.out.below L1.out).cell (k:=0) rfl;have y1:=(X0.out.below L1.out).cell (k:=1) rfl;simp only[List.getElem_toArray,List.getElem_cons_zero,List.getElem_cons_succ]at y0 y1)
     |(go_at_call 23;(with_reducible refine (IC.out V1 L1.out).mono ?_);rintro e V2 ⟨rfl,q2⟩;have L2:=zZ (L1.out.trans (q2.mono L1.out.size));clear q2;have y0:=(X0.out.below L2.out).cell (k:=0) rfl;have y1:=(X0.out.below L2.out).cell (k:=1) rfl;simp only[List.getElem_toArray,List.getElem_cons_zero,List.getElem_cons_succ]at y0 y1)
     |(go_at_call 24;(with_reducible refine (RA.out V2 L2.out).mono ?_);rintro e V3 ⟨d1,c1,d2,c2,rfl,q3,q4⟩;have R1:=zZ q3.r1.at;have R2:=zZ q3.r2.at;have L3:=zZ (L2.out.trans (q4.mono L2.out.size));clear q3 q4)
     |(go_at_call 25;(with_reducible refine (EQ.out V3 d1 c1 d2 c2 R1.out R2.out).mono ?_);rintro e V4 ⟨rfl,q4⟩;have L4:=zZ (L3.out.trans (q4.mono L3.out.size));clear q4))
    go_ret
    exact ⟨rfl,B0.out.trans (L4.out.mono B0.out.size)⟩
   |true=>
    rw[h2]at EQ hE;simp only[if_true]at hE;subst hE;generalize L.length=N at *
    go_enter Tryz.func7,Tryz.ntmps7
    go_upto_region 1 with fail
    generalize w.alloc (.cells #[.int .i64 n.nodes,.slice a n.arcs.length c] 30)=W0 at *
    go_wp2_with (first
     |(go_at_call 22;(with_reducible refine CH.out.mono ?_);rintro e V1 ⟨rfl,q1⟩;have L1:=zZ q1;clear q1;have y0:=(X0.out.below L1.out).cell (k:=0) rfl;have y1:=(X0.out.below L1.out).cell (k:=1) rfl;simp only[List.getElem_toArray,List.getElem_cons_zero,List.getElem_cons_succ]at y0 y1)
     |(go_at_call 23;(with_reducible refine (IC.out V1 L1.out).mono ?_);rintro e V2 ⟨rfl,q2⟩;have L2:=zZ (L1.out.trans (q2.mono L1.out.size));clear q2;have y0:=(X0.out.below L2.out).cell (k:=0) rfl;have y1:=(X0.out.below L2.out).cell (k:=1) rfl;simp only[List.getElem_toArray,List.getElem_cons_zero,List.getElem_cons_succ]at y0 y1)
     |(go_at_call 24;(with_reducible refine (RA.out V2 L2.out).mono ?_);rintro e V3 ⟨d1,c1,d2,c2,rfl,q3,q4⟩;have R1:=zZ q3.r1.at;have R2:=zZ q3.r2.at;have L3:=zZ (L2.out.trans (q4.mono L2.out.size));clear q3 q4)
     |(go_at_call 25;(with_reducible refine (EQ.out V3 d1 c1 d2 c2 R1.out R2.out).mono ?_);rintro e V4 ⟨rfl,q4⟩;have L4:=zZ (L3.out.trans (q4.mono L3.out.size));clear q4))
    go_ret
    exact ⟨rfl,B0.out.trans (L4.out.mono B0.out.size)⟩
 rw[if_neg hc]at hE
 have hne:(zN n !=0)=true:=by simpa using hc
 rw[hE]at CH hne;clear hE hc;generalize L.length=N at *
 go_enter Tryz.func7,Tryz.ntmps7
 go_upto_region 1 with fail
 generalize w.alloc (.cells #[.int .i64 n.nodes,.slice a n.arcs.length c] 30)=W0 at *
 go_wp2_with (go_at_call 22;(with_reducible refine CH.out.mono ?_);rintro e V1 ⟨rfl,q1⟩;have L1:=zZ q1;clear q1;have y0:=(X0.out.below L1.out).cell (k:=0) rfl;have y1:=(X0.out.below L1.out).cell (k:=1) rfl;simp only[List.getElem_toArray,List.getElem_cons_zero,List.getElem_cons_succ]at y0 y1)
 go_ret
 exact ⟨rfl,B0.out.trans (L1.out.mono B0.out.size)⟩
theorem zPQ {n:NN} {i:Nat} (hc:zN n=0) (hi:i<n.arcs.length):∃P,rJ n i=(i,false)::P/\rC n.arcs (yJ n.arcs n.arcs.length) (tN n.arcs i) P (fN n.arcs i)/\mS none P:=by
 have hS:=zB hc;have SB:=hS.souB;obtain ⟨e1,e2,-,-,l1,l2,-⟩:=SB.ends i hi;have hN:=hS.nodes;have TL:=cV hS;have hne:vI n.arcs (yJ n.arcs n.arcs.length) (fN n.arcs i) (n.nodes.toNat+1) (tN n.arcs i) none≠none:=(RG (fun j hj=>(TL j hj).1) (fun j hj=>(TL j hj).2) (tN n.arcs i) (fN n.arcs i)).2 ((LY n.arcs n.arcs.length).ends i hi).symm
 cases q:vI n.arcs (yJ n.arcs n.arcs.length) (fN n.arcs i) (n.nodes.toNat+1) (tN n.arcs i) none with
 |none=>exact absurd q hne
 |some P=>
  obtain ⟨p1,p2⟩:=nX q;refine ⟨P,?_,p1,p2⟩
  have eP:(oJ n (zU n.arcs i).t (zU n.arcs i).f).1=P:=by
   unfold oJ;rw[if_pos hc,if_pos ⟨by unfold gS;simp;omega,by unfold gS;simp;omega⟩];unfold gQ;rw[e1,e2,Int.toNat_natCast,Int.toNat_natCast,q]
  unfold rJ;rw[eP]
theorem zPP {n:NN} {i:Nat} (hc:zN n=0) (hf:jB n.arcs (kM n)=some i):BO n (nH (rJ n i))=0:=by
 obtain ⟨hi,hne,-⟩:=OQ hf;have SB:=(zB hc).souB;obtain ⟨P,e,p1,p2⟩:=zPQ hc hi;rw[e];exact LC hc SB.rat (fun j hj=>⟨(SB.ends j hj).1,(SB.ends j hj).2.1⟩) hi hne p1 p2
theorem AtS.toT {w:World} {a:Option Addr} {L:List (Nat × Bool)} (h:AtS w a L):JI w a (nH L):=by
 rcases h with h|⟨b,off,e,hc⟩
 ·exact .inl (by rw[h];rfl)
 refine .inr ⟨b,off,e,fun k hk=>?_⟩
 have hk':k<L.length:=by unfold nH at hk;simpa using hk
 have en:xY (nH L) k=(((JO L k).1:Int),(JO L k).2):=by
  unfold xY JO nH;rw[List.getD_eq_getElem?_getD,List.getD_eq_getElem?_getD,List.getElem?_map,List.getElem?_eq_getElem hk'];rfl
 rw[en];exact hc k hk'
theorem TJ (L:List (Nat × Bool)):(nH L).length=L.length:=by unfold nH;simp
theorem zPO (n:NN) (i:Nat):(rJ n i).length<=34:=by
 have:=WJ n (zU n.arcs i).t (zU n.arcs i).f;unfold rJ;simp;omega
theorem zTT {n:NN} (hc:zN n=0) (hb:kF n=false) (hf:jB n.arcs (kM n)=none):YQ n (yV n.nodes.toNat (kM n))=true/\WF n (yV n.nodes.toNat (kM n))=0:=by
 have hS:=zB hc;have SB:=hS.souB;have hN:=hS.nodes
 have hw:rL (yV n.nodes.toNat (kM n))=true:=by
  show rL (yV n.nodes.toNat (wX n.arcs n.arcs.length))=true;rw[EG fun v=>mK SB.rat (Nat.le_refl _) v];have:gJ (wX n.arcs n.arcs.length) n.nodes.toNat=false:=hb;rw[this];rfl
 obtain ⟨e1,e2⟩:=zOQ (R:=yV n.nodes.toNat (kM n)) hc (by rw[yY];omega) hw;refine ⟨?_,e2⟩
 rw[e1]
 have:jB n.arcs (oG (yV n.nodes.toNat (kM n)))=none:=OS fun j hj=>by
  obtain ⟨q1,q2⟩:=SB.arc j hj;have q:=EL hf j hj;unfold jX at q ⊢
  have k:∀v,v<n.nodes.toNat->oG (yV n.nodes.toNat (kM n)) v=kM n v:=fun v hv=>by
   unfold oG;rw[vS hv];rfl
  rw[k _ q1,k _ q2];exact q
 rw[this];rfl
end Go.Proofs.YtpohmekkdjdhmaaGreat
