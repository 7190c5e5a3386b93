/- Texts of one chain. -/
import Derived.Test.YtpohmekkdjdhmaaGreatPartQ
import Derived.Test.YtpohmekkdjdhmaaGreatPartTopPeriods39
import Derived.WalkSmall
import Derived.Test.YtpohmekkdjdhmaaGreatPartTopPeriods15
import Derived.Deep.LoopGhost
import Derived.Deep.DeepCutAuto
set_option maxRecDepth 100000
set_option maxHeartbeats 16000000
namespace Go.Proofs.YtpohmekkdjdhmaaGreat
open Go.ChangeShapes Go.WideShapes Go.ChangeAt Go.RowKit
def gR (x:Nat × Bool):List Value:=[.int .i64 (x.1:Int),.bool x.2]
def uP:List (Nat × Bool)->List Value
 |[]=>[]
 |x::L=>gR x++uP L
def JO (L:List (Nat × Bool)) (k:Nat):Nat × Bool:=L.getD k (0,false)
def celS (x:Nat × Bool) (j:Nat):Value:=if j=0 then .int .i64 (x.1:Int) else .bool x.2
theorem kP:∀(L:List (Nat × Bool)),(uP L).length=L.length*2
 |[]=>rfl
 |x::L=>by show (gR x++uP L).length=_;rw[List.length_append,kP L,List.length_cons];show 2+_=_;omega
theorem nN:∀(L M:List (Nat × Bool)),uP (L++M)=uP L++uP M
 |[],_=>rfl
 |x::L,M=>by show gR x++uP (L++M)=gR x++uP L++uP M;rw[nN L M,List.append_assoc]
theorem fB:∀ {L:List (Nat × Bool)} {k j:Nat},k<L.length->j<2->(uP L)[k*2+j]? =some (celS (JO L k) j)
 |[],k,j,hk,_=>absurd hk (Nat.not_lt_zero _)
 |a::L,0,j,_,hj=>by
  show (gR a++uP L)[0*2+j]? =_;rw[Nat.zero_mul,Nat.zero_add,List.getElem?_append_left (by show j<2;exact hj)]
  match j,hj with
  |0,_=>rfl
  |1,_=>rfl
 |a::L,k+1,j,hk,hj=>by
  show (gR a++uP L)[(k+1)*2+j]? =_;rw[List.getElem?_append_right (by show 2<=_;omega)]
  have e:(k+1)*2+j-(gR a).length=k*2+j:=by show (k+1)*2+j-2=_;omega
  rw[e];exact fB (Nat.lt_of_succ_lt_succ hk) hj
theorem zZL (L:List (Nat × Bool)):∀u ∈ uP L,u.oneCell'=true:=by
 induction L with
 |nil=>intro u hu;cases hu
 |cons a L ih=>
  intro u hu
  rcases List.mem_append.1 (show u ∈ gR a++uP L from hu) with h|h
  ·simp [gR]at h
   rcases h with rfl|rfl<;>rfl
  exact ih u h
def AtS (w:World) (a:Option Addr) (L:List (Nat × Bool)):Prop:=L=[]\/∃b off,a=some ⟨b,off,none⟩/\∀k,k<L.length->w.cell? ⟨b,off+k*2,none⟩=some (.int .i64 ((JO L k).1:Int))/\w.cell? ⟨b,off+k*2+1,none⟩=some (.bool (JO L k).2)
theorem AtS.below {w w':World} {a:Option Addr} {L:List (Nat × Bool)} (h:AtS w a L) (hb:Below w.heap.size w w'):AtS w' a L:=by
 rcases h with h|⟨b,off,e,hc⟩
 ·exact .inl h
 exact .inr ⟨b,off,e,fun k hk=>⟨zW hb (hc k hk).1,zW hb (hc k hk).2⟩⟩
theorem AtS.flat {w:World} {ad:Addr} {L:List (Nat × Bool)} (h:AtS w (some ad) L):∀j u,(uP L)[j]? =some u->w.cell? (ad.add j)=some u:=by
 intro j u hu
 have hj:j<L.length*2:=by rw[<- kP];exact (List.getElem?_eq_some_iff.1 hu).1
 rcases h with e|⟨b,off,e,hc⟩
 ·subst e;simp at hj
 cases e
 have hk:j / 2<L.length:=by omega
 have e1:j=j / 2*2+j % 2:=by omega
 have hr:j % 2<2:=Nat.mod_lt _ (by decide);have h1:=fB (L:=L) hk hr;rw[<- e1,hu]at h1
 cases h1
 obtain ⟨c0,c1⟩:=hc (j / 2) hk
 have ea:(⟨b,off,none⟩:Addr).add j=⟨b,off+j / 2*2+j % 2,none⟩:=by
  have e2:off+j / 2*2+j % 2=off+j:=by omega
  rw[e2];simp[Addr.add]
 rw[ea];clear ea e1;generalize j / 2=k at *;generalize j % 2=r at *
 match r,hr with
 |0,_=>exact c0
 |1,_=>exact c1
def wT (B:Nat) (w:World) (a:Option Addr) (c:Nat) (L:List (Nat × Bool)):Prop:=w.ownsRow B 122 2 (.slice a L.length c) L.length (uP L)
theorem wT.nil (B:Nat) (w:World):wT B w none 0 []:=World.ownsRow_nil _ _ _ _
theorem wT.at {B:Nat} {w:World} {a:Option Addr} {c:Nat} {L:List (Nat × Bool)} (h:wT B w a c L):AtS w a L:=by
 unfold wT at h
 rcases h.2 with ⟨hv,hn⟩|⟨g,cap,cur,hv,hg,hh,hc,hm,hs,ht⟩
 ·exact .inl (List.eq_nil_of_length_eq_zero hn)
 cases hv
 refine .inr ⟨g,0,rfl,fun k hk=>?_⟩
 have key:∀j,j<2->w.cell? ⟨g,k*2+j,none⟩=some (celS (JO L k) j):=fun j hj=>by
  rw[h.cellAt (k*2+j) (by omega),fB hk hj]
 rw[Nat.zero_add];exact ⟨key 0 (by decide),key 1 (by decide)⟩
theorem wT.lt {B:Nat} {w:World} {a:Option Addr} {c:Nat} {L:List (Nat × Bool)} (h:wT B w a c L):∀x,a=some x->B<=x.block/\x.block<w.heap.size:=by
 intro x hx
 rcases h.2 with ⟨hv,hn⟩|⟨g,cap,cur,hv,hg,hh,hc,hm,hs,ht⟩
 ·simp at hv;rw[hv.1]at hx;cases hx
 cases hv
 cases hx
 exact ⟨hg,(Array.getElem?_eq_some_iff.1 hh).1⟩
theorem wT.none {B:Nat} {w:World} {a:Option Addr} {c:Nat} {L:List (Nat × Bool)} (h:wT B w a c L):a=Option.none->L.length=0/\c=0:=by
 intro e
 rcases h.2 with ⟨hv,hn⟩|⟨g,cap,cur,hv,hg,hh,hc,hm,hs,ht⟩
 ·simp at hv;exact ⟨hn,hv.2.2⟩
 subst e;cases hv
theorem wT.keep {B:Nat} {w w':World} {a:Option Addr} {c:Nat} {L:List (Nat × Bool)} (h:wT B w a c L) (hk:∀x,a=some x->w'.heap[x.block]? =w.heap[x.block]?):wT B w' a c L:=by
 refine ⟨h.1,?_⟩
 rcases h.2 with h2|⟨g,cap,cur,hv,hg,hh,r⟩
 ·exact .inl h2
 refine .inr ⟨g,cap,cur,hv,hg,?_,r⟩
 cases hv
 rw[hk _ rfl];exact hh
theorem wT.later {B:Nat} {w w':World} {a:Option Addr} {c:Nat} {L:List (Nat × Bool)} (h:wT B w a c L) (hb:Below w.heap.size w w'):wT B w' a c L:=h.keep fun x hx=>hb.block _ (h.lt x hx).2
theorem wT.mono {B B':Nat} {w:World} {a:Option Addr} {c:Nat} {L:List (Nat × Bool)} (h:wT B w a c L) (hB:B'<=B):wT B' w a c L:=by
 refine ⟨h.1,?_⟩
 rcases h.2 with h2|⟨g,cap,cur,hv,hg,r⟩
 ·exact .inl h2
 exact .inr ⟨g,cap,cur,hv,Nat.le_trans hB hg,r⟩
theorem wT.pop {B:Nat} {w:World} {a:Option Addr} {c:Nat} {L:List (Nat × Bool)} {x:Nat × Bool} (h:wT B w a c (L++[x])):wT B w a c L:=by
 unfold wT at h ⊢;rw[nN,List.length_append]at h
 rcases h.2 with ⟨hv,hn⟩|⟨g,cap,cur,hv,-⟩
 ·exact absurd hn (Nat.succ_ne_zero _)
 cases hv
 exact ownsRow_pop (kP L) h
theorem wT.room {B:Nat} {w:World} {a:Option Addr} {c:Nat} {L:List (Nat × Bool)} (h:wT B w a c L):L.length<=c/\c<=maxLen:=by
 rcases h.2 with ⟨hv,hn⟩|⟨g,cap,cur,hv,hg,hh,hc,hm,r⟩
 ·simp at hv;exact ⟨by omega,by omega⟩
 cases hv;exact ⟨hc,hm⟩
theorem Tryz.infoStep:(Tryz.prog.info? 122).map (fun i=>(i.zero,i.size,i.bytes))=some (some (.agg #[.int .i64 0,.bool false]),2,16):=by kernel_rfl
theorem dT {w:World} {ops:Array Oper} {rest:List Oper} {o:Oper} {a:Act} {Q:Exit->Act->World->Prop} (hgd:o.guard=none) (s x:Operand) (ho:o.op=.call { callee:=.builtin .append,args:=#[s,x],argTypes:=#[36,36] })
 (B:Nat) (d0:Option Addr) (c0:Nat) (zs:List (Nat × Bool)) (hs:a.eval s=.slice d0 zs.length c0) (hown:wT B w d0 c0 zs) (ad:Option Addr) (c:Nat) (ys:List (Nat × Bool)) (hx:a.eval x=.slice ad ys.length c) (hna:ad=none->ys.length=0/\c=0) (hat:AtS w ad ys) (hb:(zs.length+ys.length)*16<=140737488355328) (hB:B<=w.heap.size) (m:Nat) (R:List (Nat × Bool)) (hm:zs.length+ys.length=m) (hR:zs++ys=R)
 (h:∀d c' w',wT B w' d c' R->Below B w w'->wpList Tryz.prog ops Q rest (a.put o.dst (.slice d m c')) w'):wpList Tryz.prog ops Q (o::rest) a w:=by
 subst hm;subst hR;obtain ⟨i0,hi,hz0,hz1,hz2⟩:=info_parts Tryz.infoStep
 cases ad with
 |none=>
  obtain ⟨h1,rfl⟩:=hna rfl;have e:ys=[]:=List.eq_nil_of_length_eq_zero h1;subst e;refine wpList_append_own_none hgd s x 36 ho B 122 i0 2 Tryz.underlying36 hi _ zs.length (uP zs) hs hown hx ?_
  have:=h d0 c0 w (by rw[List.append_nil];exact hown) (Below.refl _ _)
  simpa using this
 |some ad=>
  refine wpList_append_own _ hgd s x 36 ho B 122 i0 _ 2 16 Tryz.underlying36 hi hz0 hz1 hz2 rfl (by decide) _ zs.length (uP zs) hs hown ad ys.length c (uP ys) hx (by rw[kP]) (AtS.flat hat) (zZL ys) (by unfold maxLen;omega) (by omega) hB ?_
  intro v' w1 hown1 hgrow _
  have hown':w1.ownsRow B 122 2 v' (zs.length+ys.length) (uP (zs++ys)):=by rw[nN];exact hown1
  have hv:∃a' cap',v'=.slice a' (zs.length+ys.length) cap':=by
   rcases hown'.2 with ⟨hv,hn⟩|⟨g,cap,cur,hv,-⟩
   ·exact ⟨none,0,by rw[hv,hn]⟩
   exact ⟨_,_,hv⟩
  obtain ⟨a',cap',rfl⟩:=hv;refine h a' cap' w1 ?_ ((Below.refl _ _).grown hgrow hB (fun k hk=>?_))
  ·unfold wT
   rw[List.length_append];exact hown'
  cases d0 with
  |none=>cases hk
  |some y=>cases hk;exact (hown.lt y rfl).1
def eZ (A:List NA) (j v:Nat):Value:=match yE A j v with
 |some y=>.tuple #[.int .i64 (y.1:Int),.bool y.2,.bool true]
 |none=>.tuple #[.int .i64 0,.bool false,.bool false]
theorem JM (A:List NA) (j v:Nat) (x3 x4 x5:Value) (w:World):Calls Tryz.prog 101 #[.agg #[.int .i64 (fN A j:Int),.int .i64 (tN A j:Int),x3,x4,x5],.int .i64 (v:Int)] w fun e w'=>e=.returned (eZ A j v)/\Below w.heap.size w w':=by
 have ba:=(Below.refl w.heap.size w).alloc (Nat.le_refl _) (.cells #[.int .i64 (fN A j:Int),.int .i64 (tN A j:Int),x3,x4,x5] 61);have X:=zZ (zV 61 w #[.int .i64 (fN A j:Int),.int .i64 (tN A j:Int),x3,x4,x5]);have BA:=zZ ba;unfold eZ yE;generalize fN A j=p at *;generalize tN A j=r at *;have y0:=X.out.cell (k:=0) rfl;have y1:=X.out.cell (k:=1) rfl;simp only[List.getElem_toArray,List.getElem_cons_zero,List.getElem_cons_succ]at y0 y1;clear ba
 by_cases h1:p=v
 ·subst h1
  rw[if_pos rfl]
  go_enter Tryz.func101,Tryz.ntmps101
  go_upto_region 1 with fail
  generalize w.alloc (.cells #[.int .i64 (p:Int),.int .i64 (r:Int),x3,x4,x5] 61)=W0 at *
  go_wp2
  go_ret3
  exact ⟨rfl,BA.out⟩
 rw[if_neg h1]
 by_cases h2:r=v
 ·subst h2
  rw[if_pos rfl]
  have h1':¬r=p:=fun e=>h1 e.symm
  go_enter Tryz.func101,Tryz.ntmps101
  go_upto_region 1 with fail
  generalize w.alloc (.cells #[.int .i64 (p:Int),.int .i64 (r:Int),x3,x4,x5] 61)=W0 at *
  go_wp2
  go_ret3
  exact ⟨rfl,BA.out⟩
 rw[if_neg h2]
 have h1':¬v=p:=fun e=>h1 e.symm
 have h2':¬v=r:=fun e=>h2 e.symm
 go_enter Tryz.func101,Tryz.ntmps101
 go_upto_region 1 with fail
 generalize w.alloc (.cells #[.int .i64 (p:Int),.int .i64 (r:Int),x3,x4,x5] 61)=W0 at *
 go_wp2
 go_ret3
 exact ⟨rfl,BA.out⟩
theorem zZK {A:List NA} {go:Nat->Nat->Option (List (Nat × Bool))} {v:Nat} {came:Option Nat} {j:Nat} {R:List Nat} (h:yE A j v=none):uC A go v came (j::R)=uC A go v came R:=by
 rw[uC,h]
theorem zZJ {A:List NA} {go:Nat->Nat->Option (List (Nat × Bool))} {v:Nat} {came:Option Nat} {j:Nat} {R:List Nat} {y:Nat × Bool} (h:yE A j v=some y) (hc:came=some j):uC A go v came (j::R)=uC A go v came R:=by
 rw[uC,h];simp only;rw[if_pos hc]
theorem zZI {A:List NA} {go:Nat->Nat->Option (List (Nat × Bool))} {v:Nat} {came:Option Nat} {j:Nat} {R:List Nat} {y:Nat × Bool} (h:yE A j v=some y) (hc:came≠some j) (hg:go y.1 j=none):uC A go v came (j::R)=uC A go v came R:=by
 rw[uC,h];simp only;rw[if_neg hc,hg]
theorem zUP {A:List NA} {go:Nat->Nat->Option (List (Nat × Bool))} {v:Nat} {came:Option Nat} {j:Nat} {R:List Nat} {y:Nat × Bool} {P:List (Nat × Bool)} (h:yE A j v=some y) (hc:came≠some j) (hg:go y.1 j=some P):uC A go v came (j::R)=some ((j,y.2)::P):=by
 rw[uC,h];simp only;rw[if_neg hc,hg]
def cmI:Option Nat->Int
 |none=> -1
 |some j=>(j:Int)
theorem zUO {c:Option Nat} {j:Nat} :cmI c=(j:Int)↔c=some j:=by
 cases c with
 | none => constructor
           ·intro h;have:(-1:Int)=(j:Int):=h;omega
           intro h;cases h
 | some i => constructor
             ·intro h;have:(i:Int)=(j:Int):=h;rw[show i=j by omega]
             intro h;cases h;rfl
structure ZH (B K : Nat) (w w' : World) : Prop where
 os:w'.os=w.os
 tape:w'.tape=w.tape
 output:w'.output=w.output
 size:w.heap.size<=w'.heap.size
 block:∀k,k<B->k≠K->w'.heap[k]? =w.heap[k]?
theorem ZH.refl (B K:Nat) (w:World):ZH B K w w:=⟨rfl,rfl,rfl,Nat.le_refl _,fun _ _ _=>rfl⟩
theorem ZH.trans {B K:Nat} {a b c:World} (h:ZH B K a b) (k:ZH B K b c):ZH B K a c:=⟨k.os.trans h.os,k.tape.trans h.tape,k.output.trans h.output,Nat.le_trans h.size k.size,fun i hi hn=>(k.block i hi hn).trans (h.block i hi hn)⟩
theorem ZH.of_below {B K:Nat} {w w':World} (h:Below B w w'):ZH B K w w':=⟨h.os,h.tape,h.output,h.size,fun k hk _=>h.block k hk⟩
theorem ZH.of_but {B K:Nat} {w w':World} (h:xX K w w') (hB:B<=w.heap.size):ZH B K w w':=⟨h.os,h.tape,h.output,h.size,fun k hk hn=>h.block k (Nat.lt_of_lt_of_le hk hB) hn⟩
theorem xO {w w':World} {b o:Nat} {v:Value} (h:w.cell? ⟨b,o,none⟩=some v) (hk:w'.heap[b]? =w.heap[b]?):w'.cell? ⟨b,o,none⟩=some v:=by
 unfold World.cell? at h ⊢;rw[hk];exact h
structure zUN (B : Nat) (w : World) (ob tb nb pb rb : Nat) (A : List NA) (T : List Nat) (e : Nat) (aa ta : Option Addr) (ac tc : Nat) : Prop where
 oc:w.cell? ⟨ob,0,none⟩=some (.int .i64 (e:Int))
 tcl:w.cell? ⟨tb,0,none⟩=some (.slice ta T.length tc)
 nc:w.cell? ⟨nb,1,none⟩=some (.slice aa A.length ac)
 rc:w.cell? ⟨rb,0,none⟩=some (.func (.func 100) #[] #[(qP ob),(qP tb),(qP nb),(qP pb),(qP rb)])
 tat:∀k,k<T.length->∃b off,ta=some ⟨b,off,none⟩/\b<B/\b≠pb/\∀k,(h:k<T.length)->w.cell? ⟨b,off+k,none⟩=some (.int .i64 (T[k]:Int))
 nat:∀k,k<A.length->∃b off,aa=some ⟨b,off,none⟩/\b<B/\b≠pb/\∀k,k<A.length->w.cell? ⟨b,off+k*5,none⟩=some (.int .i64 (zU A k).f)/\w.cell? ⟨b,off+k*5+1,none⟩=some (.int .i64 (zU A k).t)/\w.cell? ⟨b,off+k*5+2,none⟩=some (.int .i64 (zU A k).g)/\w.cell? ⟨b,off+k*5+3,none⟩=some (.int .i64 (zU A k).k)/\w.cell? ⟨b,off+k*5+4,none⟩=some (.int .i64 (zU A k).s)
 lo:ob<B/\tb<B/\nb<B/\rb<B/\pb<B
 ne:ob≠pb/\tb≠pb/\nb≠pb/\rb≠pb
theorem zUN.keep {B:Nat} {w w':World} {ob tb nb pb rb:Nat} {A:List NA} {T:List Nat} {e:Nat} {aa ta:Option Addr} {ac tc:Nat} (h:zUN B w ob tb nb pb rb A T e aa ta ac tc) (k:ZH B pb w w'):zUN B w' ob tb nb pb rb A T e aa ta ac tc:=by
 obtain ⟨l1,l2,l3,l4,l5⟩:=h.lo;obtain ⟨n1,n2,n3,n4⟩:=h.ne;refine ⟨xO h.oc (k.block _ l1 n1),xO h.tcl (k.block _ l2 n2),xO h.nc (k.block _ l3 n3),xO h.rc (k.block _ l4 n4),fun i hi=>?_,fun i hi=>?_,h.lo,h.ne⟩
 ·obtain ⟨b,off,h1,h2,h3,h4⟩:=h.tat i hi
  exact ⟨b,off,h1,h2,h3,fun j hj=>xO (h4 j hj) (k.block _ h2 h3)⟩
 obtain ⟨b,off,h1,h2,h3,h4⟩:=h.nat i hi;have q:=k.block _ h2 h3;exact ⟨b,off,h1,h2,h3,fun j hj=>⟨xO (h4 j hj).1 q,xO (h4 j hj).2.1 q,xO (h4 j hj).2.2.1 q,xO (h4 j hj).2.2.2.1 q,xO (h4 j hj).2.2.2.2 q⟩⟩
structure YT (B : Nat) (w : World) (pb : Nat) (P : List (Nat × Bool)) (d : Option Addr) (c : Nat) : Prop where
 blk:zE 36 pb w #[.slice d P.length c]
 row:wT B w d c P
 size:B<=w.heap.size
 low:pb<B
theorem YT.below {B:Nat} {w w':World} {pb:Nat} {P:List (Nat × Bool)} {d:Option Addr} {c:Nat} (h:YT B w pb P d c) (hb:Below w.heap.size w w'):YT B w' pb P d c:=⟨h.blk.below hb,h.row.later hb,Nat.le_trans h.size hb.size,h.low⟩
theorem YT.put {B:Nat} {w w':World} {pb:Nat} {P R:List (Nat × Bool)} {d d':Option Addr} {c c':Nat} {m:Nat} (h:YT B w pb P d c) (hb:Below B w w') (hr:wT B w' d' c' R) (hm:R.length=m):zE 36 pb w' #[.slice d P.length c]/\YT B (w'.setCell ⟨pb,0,none⟩ (.slice d' m c')) pb R d' c'/\ZH B pb w (w'.setCell ⟨pb,0,none⟩ (.slice d' m c')):=by
 have l:=h.low;have s:=h.size;have hk:zE 36 pb w' #[.slice d P.length c]:=h.blk.keep (hb.block pb l);have bt:=xX.set w' pb 0 (.slice d' m c');have s2:=hb.size;refine ⟨hk,⟨?_,?_,Nat.le_trans (Nat.le_trans s s2) bt.size,l⟩,(ZH.of_below hb).trans (ZH.of_but bt (Nat.le_trans s s2))⟩
 ·subst hm
  exact hk.set 0 (.slice d' R.length c')
 exact hr.keep fun x hx=>bt.block _ (hr.lt x hx).2 (by have:=(hr.lt x hx).1;omega)
def zQG (B:Nat) (w:World) (pb:Nat) (P:List (Nat × Bool)) (r:Option (List (Nat × Bool))) (e:Ending) (w':World):Prop:=∃d' c',e=.returned (.bool r.isSome)/\YT B w' pb (P++r.getD []) d' c'/\ZH B pb w w'
theorem zZH {B ob tb nb pb rb:Nat} {A:List NA} {T:List Nat} {e:Nat} {aa ta:Option Addr} {ac tc:Nat} (hT:∀j,j ∈ T->j<A.length/\(zU A j).f=(fN A j:Int)/\(zU A j).t=(tN A j:Int)) (hTl:T.length<=1000):
 ∀(k v:Nat) (came:Option Nat) (P:List (Nat × Bool)) (d:Option Addr) (c:Nat) (w:World),iO A T k v came->zUN B w ob tb nb pb rb A T e aa ta ac tc->YT B w pb P d c->P.length+k<=1000->
 Calls Tryz.prog 100 #[.int .i64 (v:Int),.int .i64 (cmI came),(qP ob),(qP tb),(qP nb),(qP pb),(qP rb)] w (zQG B w pb P (vI A T e k v came)):=by
 intro k
 induction k with
 |zero=>intro v came P d c w hD;exact absurd hD.pos (Nat.lt_irrefl _)
 |succ k ih=>
  intro v came P d c w hD hR hP hl;have IH:=zZ ih;have HD:=zZ hD;have HR:=zZ hR;have HP:=zZ hP;have HT:=zZ hT;have o0:=hR.oc;have t0:=hR.tcl;clear ih hD hR hP hT
  by_cases hv:v=e
  ·have DE:Hid (vI A T e (k+1) v came=some []):=by show _=_;rw[vI,if_pos hv]
   rw[DE.out];subst hv
   go_enter Tryz.func100,Tryz.ntmps100
   go_wp2
   go_ret
   exact ⟨d,c,rfl,by rw[show (some ([]:List (Nat × Bool))).getD []=[] from rfl,List.append_nil];exact HP.out,ZH.refl _ _ _⟩
  have DE:Hid (vI A T e (k+1) v came=uC A (fun x j=>vI A T e k x (some j)) v came T):=by show _=_;rw[vI,if_neg hv]
  rw[DE.out];clear DE
  have hvi:¬(v:Int)=(e:Int):=by omega
  obtain ⟨RE,hRE⟩:∃R,zQG B w pb P (uC A (fun x j=>vI A T e k x (some j)) v came T)=R:=⟨_,rfl⟩;rw[hRE];have HRE:=zZ hRE;clear hRE;obtain ⟨cm,hcm⟩:∃q,cmI came=q:=⟨_,rfl⟩;rw[hcm]
  have CM:Hid (∀ j:Nat,cm=(j:Int)↔came=some j):=fun j=>by rw[<- hcm];exact zUO
  clear hcm
  go_enter Tryz.func100,Tryz.ntmps100
  go_upto_region 4 with fail
  have hbe:((v:Int)==(e:Int))=false:=by simp;omega
  rw[hbe];clear hbe
  go_loopg [20] T.length (fun gk u wr=>∃(q c':Nat) (d':Option Addr),q<=T.length/\gk=T.length-q/\u=.int .i64 (q:Int)/\uC A (fun x j=>vI A T e k x (some j)) v came (T.drop q)=uC A (fun x j=>vI A T e k x (some j)) v came T/\YT B wr pb P d' c'/\ZH B pb w wr)
  case atStart=>exact ⟨0,c,d,Nat.zero_le _,rfl,rfl,rfl,HP.out,ZH.refl _ _ _⟩
  case round=>
   clear HP o0 t0;obtain ⟨q,c',d',hq,rfl,rfl,htr,hp,hk⟩:=hrel;have PT:=zZ hp;have KP:=zZ hk;have RR:=zZ (HR.out.keep hk);clear hp hk
   by_cases hlt:q<T.length
   ·have hki:(q:Int)<(T.length:Int):=by omega
    rw[List.drop_eq_getElem_cons hlt]at htr;have TR:=zZ htr;clear htr;obtain ⟨tb1,to1,et,-,-,hct⟩:=RR.out.tat q hlt;have c1:=hct q hlt;obtain ⟨j,hj⟩:∃j,T[q]=j:=⟨_,rfl⟩;have hjT:=List.getElem_mem hlt;rw[hj]at c1 TR hjT;obtain ⟨hjA,hjf,hjt⟩:=HT.out j hjT;obtain ⟨nb1,no1,en,-,-,hcn⟩:=RR.out.nat j hjA;obtain ⟨a0,a1,a2,a3,a4⟩:=hcn j hjA;rw[hjf]at a0;rw[hjt]at a1;generalize (zU A j).g=ag at *;generalize (zU A j).k=ak at *;generalize (zU A j).s=az at *;have n1:=RR.out.nc;have r0:=RR.out.rc;have AC:=zZ (JM A j v (.int .i64 ag) (.int .i64 ak) (.int .i64 az) wr)
    have hjI:(j:Int)<(A.length:Int):=by omega
    clear hct hcn hj hjf hjt;subst et;subst en
    cases hcr:yE A j v with
    |none=>
     have CV:Hid (eZ A j v=.tuple #[.int .i64 0,.bool false,.bool false]):=by show _=_;unfold eZ;rw[hcr]
     rw[CV.out]at AC;rw[zZK hcr]at TR;clear hcr CV IH HD
     go_wp2_with (go_at_call 101;(with_reducible refine AC.out.mono ?_);rintro e' W1 ⟨rfl,b1⟩;have P1:=zZ (PT.out.below b1);have K1:=zZ (KP.out.trans (ZH.of_below (b1.mono PT.out.size)));clear b1)
     go_roundg (T.length-(q+1))
     case measure=>omega
     case rel=>exact ⟨q+1,c',d',by omega,rfl,by go_num,TR.out,P1.out,K1.out⟩
    |some y=>
     obtain ⟨x,b⟩:=y
     have CV:Hid (eZ A j v=.tuple #[.int .i64 (x:Int),.bool b,.bool true]):=by show _=_;unfold eZ;rw[hcr]
     rw[CV.out]at AC;clear CV
     by_cases hc:came=some j
     ·rw [zZJ hcr hc]at TR
      have hcj:=(CM.out j).2 hc;subst hcj;clear hcr hc IH HD
      go_wp2_with (go_at_call 101;(with_reducible refine AC.out.mono ?_);rintro e' W1 ⟨rfl,b1⟩;have P1:=zZ (PT.out.below b1);have K1:=zZ (KP.out.trans (ZH.of_below (b1.mono PT.out.size)));clear b1)
      go_roundg (T.length-(q+1))
      case measure=>omega
      case rel=>exact ⟨q+1,c',d',by omega,rfl,by go_num,TR.out,P1.out,K1.out⟩
     have hcn:¬(j:Int)=cm:=fun e=>hc ((CM.out j).1 e.symm)
     have DN:=zZ (HD.out.next hjT hcr hc)
     have GP:Hid (vI A T e k x (some j)=none->uC A (fun x j=>vI A T e k x (some j)) v came (T.drop (q+1))=uC A (fun x j=>vI A T e k x (some j)) v came T):=fun h=>by rw[<- TR.out,zZI hcr hc h]
     have GS:Hid (∀ Q,vI A T e k x (some j)=some Q->uC A (fun x j=>vI A T e k x (some j)) v came T=some ((j,b)::Q)):=fun Q h=>by rw[<- TR.out,zUP hcr hc h]
     clear hcr hc TR HD CM
     go_upto_region 8 with (go_at_call 101;(with_reducible refine AC.out.mono ?_);rintro e' W1 ⟨rfl,b1⟩;have P1:=zZ (PT.out.below b1);have K1:=zZ (KP.out.trans (ZH.of_below (b1.mono PT.out.size)));clear b1)
     clear AC PT KP RR a0 a1 a2 a3 a4 n1 r0 c1;have p0:=P1.out.blk.cell (k:=0) rfl;simp only[List.getElem_toArray,List.getElem_cons_zero]at p0;have bx:=(Below.refl W1.heap.size W1).alloc (Nat.le_refl _) (.cells #[.int .i64 (j:Int),.bool b] 122);have PX:=zZ (P1.out.below bx)
     have AX:Hid (AtS (W1.alloc (.cells #[.int .i64 (j:Int),.bool b] 122)) (some ⟨W1.heap.size,0,none⟩) [(j,b)]):=.inr ⟨W1.heap.size,0,rfl,fun k hk=>by
      have e:k=0:=by simp at hk;omega
      subst e
      exact ⟨(zV 122 W1 #[.int .i64 (j:Int),.bool b]).cell (k:=0) rfl,(zV 122 W1 #[.int .i64 (j:Int),.bool b]).cell (k:=1) rfl⟩⟩
     have KX:=zZ (K1.out.trans (ZH.of_below (bx.mono P1.out.size)));have hsX:B<=(W1.alloc (.cells #[.int .i64 (j:Int),.bool b] 122)).heap.size:=PX.out.size;clear bx P1 K1
     go_upto_region 9 with (at_builtin;refine dT rfl _ _ rfl B d' c' P rfl PX.out.row (some ⟨W1.heap.size,0,none⟩) 1 [(j,b)] rfl (fun e=>by cases e) AX.out (by simp;omega) hsX (P.length+1) (P++[(j,b)]) rfl rfl ?_;intro d3 c3 W2 hd3 b3;have PU:=zZ (PX.out.put (m:=P.length+1) b3 hd3 (by simp));have p2:=PU.out.1.cell (k:=0) rfl;have f2:=PU.out.1.frozen 0;simp only[List.getElem_toArray,List.getElem_cons_zero]at p2;clear hd3 b3 p0)
     have PU2:=zZ PU.out.2.1;have K2:=zZ (KX.out.trans PU.out.2.2);clear PU PX KX AX p2 f2;generalize W2.setCell ⟨pb,0,none⟩ (.slice d3 (P.length+1) c3)=W3 at *;have R3:=zZ (HR.out.keep K2.out);have r0:=R3.out.rc;have CL:=zZ (IH.out x (some j) (P++[(j,b)]) d3 c3 W3 DN.out R3.out PU2.out (by simp;omega));unfold zQG at CL;rw[show cmI (some j)=(j:Int) from rfl]at CL;clear IH DN R3
     cases hdf:vI A T e k x (some j) with
     |some Q=>
      rw[hdf]at CL;have TG:=zZ (GS.out Q hdf);clear hdf GS GP
      go_wp2_with (go_at_call 100;(with_reducible refine CL.out.mono ?_);rintro e' W4 ⟨d4,c4,rfl,q1,q2⟩;have P4:=zZ q1;have K4:=zZ (K2.out.trans q2);clear q1 q2 r0)
      rw[<- HRE.out,TG.out];exact ⟨d4,c4,rfl,by have:=P4.out;rw[List.append_assoc]at this;exact this,K4.out⟩
     |none=>
      rw[hdf]at CL;have TG:=zZ (GP.out hdf);clear hdf GS GP
      go_upto_region 11 with (go_at_call 100;(with_reducible refine CL.out.mono ?_);rintro e' W4 ⟨d4,c4,rfl,q1,q2⟩;have P4:=zZ q1;have K4:=zZ (K2.out.trans q2);clear q1 q2 r0)
      rw[show (none:Option (List (Nat × Bool))).getD []=[] from rfl,List.append_nil]at P4;clear CL PU2 K2
      have hd4:∃g4,d4=some ⟨g4,0,none⟩:=by
       rcases P4.out.row.2 with ⟨hv',hn'⟩|⟨g,cap,cur,hv',-⟩
       ·simp at hn'
       simp at hv';exact ⟨g,hv'.1⟩
      obtain ⟨g4,rfl⟩:=hd4;have hr4:=P4.out.row.room;have p4:=P4.out.blk.cell (k:=0) rfl;have f4:=P4.out.blk.frozen 0;simp only[List.getElem_toArray,List.getElem_cons_zero,List.length_append,List.length_cons,List.length_nil]at p4 hr4;have PP:=zZ (P4.out.put (m:=P.length) (R:=P) (Below.refl _ _) P4.out.row.pop rfl);have PE:=zZ PP.out.2.1;have KE:=zZ (K4.out.trans PP.out.2.2);clear PP P4 K4
      have hc4:(P.length:Int)<=(c4:Int):=by omega
      have hsub:IntKind.i64.wrap (((P.length+1:Nat):Int)-1)=(P.length:Int):=by
       rw[QO];unfold wrap64;omega
      go_wp2
      go_roundg (T.length-(q+1))
      case measure=>omega
      case rel=>exact ⟨q+1,c4,some ⟨g4,0,none⟩,by omega,rfl,by go_num,TG.out,PE.out,KE.out⟩
   have ek:q=T.length:=by omega
   have hki:¬(q:Int)<(T.length:Int):=by omega
   rw[ek,List.drop_length]at htr;have TG:Hid (uC A (fun x j=>vI A T e k x (some j)) v came T=none):=htr.symm;clear ek htr IH HD HR RR
   go_wp2
   rw[<- HRE.out,TG.out];exact ⟨d',c',rfl,by rw[show (none:Option (List (Nat × Bool))).getD []=[] from rfl,List.append_nil];exact PT.out,KP.out⟩
theorem OW (m v:Int) (s:Value) (w:World):Calls Tryz.prog 77 #[.agg #[.int .i64 m,s],.int .i64 v] w fun e w'=>e=.returned (.bool (gS m v))/\Below w.heap.size w w':=by
 have ba:=zZ ((Below.refl w.heap.size w).alloc (Nat.le_refl _) (.cells #[.int .i64 m,s] 30));have z0:=(zV 30 w #[.int .i64 m,s]).cell (k:=0) rfl;simp only[List.getElem_toArray,List.getElem_cons_zero]at z0;unfold gS
 by_cases h1:0<=v
 ·rw [decide_eq_true h1]
  by_cases h2:v<m
  ·rw [decide_eq_true h2]
   go_enter Tryz.func77,Tryz.ntmps77
   go_wp2
   go_ret
   exact ⟨rfl,ba.out⟩
  rw[decide_eq_false h2]
  go_enter Tryz.func77,Tryz.ntmps77
  go_wp2
  go_ret
  exact ⟨rfl,ba.out⟩
 rw[decide_eq_false h1]
 go_enter Tryz.func77,Tryz.ntmps77
 go_wp2
 go_ret
 exact ⟨rfl,ba.out⟩
def WalE (w:World) (P:List (Nat × Bool)) (e:Ending) (w':World):Prop:=∃d c,e=.returned (.slice d P.length c)/\wT w.heap.size w' d c P/\Below w.heap.size w w'
theorem OV {w:World} {ta:Option Addr} {T:List Nat} (h:At w ta (yC T)):∀k,k<T.length->∃b off,ta=some ⟨b,off,none⟩/\b<w.heap.size/\∀k,(h:k<T.length)->w.cell? ⟨b,off+k,none⟩=some (.int .i64 (T[k]:Int)):=by
 intro k hk
 rcases h with e|⟨b,off,e,hc⟩
 ·have:=wM T
  rw[e]at this;simp at this;omega
 have key:∀k,(h:k<T.length)->w.cell? ⟨b,off+k,none⟩=some (.int .i64 (T[k]:Int)):=fun i hi=>by
  have:=hc i (by rw[wM];exact hi);rw[XY hi]at this;exact this
 exact ⟨b,off,e,block_lt_of_cell (key k hk),key⟩
theorem TZ {w:World} {aa:Option Addr} {A:List NA} (h:vN w aa A):∀k,k<A.length->∃b off,aa=some ⟨b,off,none⟩/\b<w.heap.size/\∀k,k<A.length->w.cell? ⟨b,off+k*5,none⟩=some (.int .i64 (zU A k).f)/\w.cell? ⟨b,off+k*5+1,none⟩=some (.int .i64 (zU A k).t)/\w.cell? ⟨b,off+k*5+2,none⟩=some (.int .i64 (zU A k).g)/\w.cell? ⟨b,off+k*5+3,none⟩=some (.int .i64 (zU A k).k)/\w.cell? ⟨b,off+k*5+4,none⟩=some (.int .i64 (zU A k).s):=by
 intro k hk
 rcases h with e|⟨b,off,e,hc⟩
 ·rw [e]at hk;exact absurd hk (Nat.not_lt_zero _)
 exact ⟨b,off,e,block_lt_of_cell (hc k hk).1,hc⟩
theorem JL (w:World) (m:Int) (a ta:Option Addr) (c tc e:Nat) (A:List NA) (T:List Nat) (ha:∀k,k<A.length->∃b off,a=some ⟨b,off,none⟩/\b<w.heap.size/\∀k,k<A.length->w.cell? ⟨b,off+k*5,none⟩=some (.int .i64 (zU A k).f)/\w.cell? ⟨b,off+k*5+1,none⟩=some (.int .i64 (zU A k).t)/\w.cell? ⟨b,off+k*5+2,none⟩=some (.int .i64 (zU A k).g)/\w.cell? ⟨b,off+k*5+3,none⟩=some (.int .i64 (zU A k).k)/\w.cell? ⟨b,off+k*5+4,none⟩=some (.int .i64 (zU A k).s))
 (ht:∀k,k<T.length->∃b off,ta=some ⟨b,off,none⟩/\b<w.heap.size/\∀k,(h:k<T.length)->w.cell? ⟨b,off+k,none⟩=some (.int .i64 (T[k]:Int))):
 zUN (w.heap.size+5) (((((w.alloc (.cells #[.int .i64 m,.slice a A.length c] 30)).alloc (.cells #[.slice ta T.length tc] 27)).alloc (.cells #[.int .i64 (e:Int)] 3)).alloc (.cells #[qN] 36)).alloc (.cells #[(.func (.func 100) #[] #[.pointer (some ⟨w.heap.size+1+1,0,none⟩),(qP (w.heap.size+1)),(qP w.heap.size),.pointer (some ⟨w.heap.size+1+1+1,0,none⟩),.pointer (some ⟨w.heap.size+1+1+1+1,0,none⟩)])] 107)) (w.heap.size+1+1) (w.heap.size+1) w.heap.size (w.heap.size+1+1+1) (w.heap.size+1+1+1+1) A T e a ta c tc/\YT (w.heap.size+5) (((((w.alloc (.cells #[.int .i64 m,.slice a A.length c] 30)).alloc (.cells #[.slice ta T.length tc] 27)).alloc (.cells #[.int .i64 (e:Int)] 3)).alloc (.cells #[qN] 36)).alloc (.cells #[(.func (.func 100) #[] #[.pointer (some ⟨w.heap.size+1+1,0,none⟩),(qP (w.heap.size+1)),(qP w.heap.size),.pointer (some ⟨w.heap.size+1+1+1,0,none⟩),.pointer (some ⟨w.heap.size+1+1+1+1,0,none⟩)])] 107)) (w.heap.size+1+1+1) [] none 0/\Below w.heap.size w (((((w.alloc (.cells #[.int .i64 m,.slice a A.length c] 30)).alloc (.cells #[.slice ta T.length tc] 27)).alloc (.cells #[.int .i64 (e:Int)] 3)).alloc (.cells #[qN] 36)).alloc (.cells #[(.func (.func 100) #[] #[.pointer (some ⟨w.heap.size+1+1,0,none⟩),(qP (w.heap.size+1)),(qP w.heap.size),.pointer (some ⟨w.heap.size+1+1+1,0,none⟩),.pointer (some ⟨w.heap.size+1+1+1+1,0,none⟩)])] 107)):=by
 have s1:(w.alloc (.cells #[.int .i64 m,.slice a A.length c] 30)).heap.size=w.heap.size+1:=World.size_alloc _ _
 have s2:((w.alloc (.cells #[.int .i64 m,.slice a A.length c] 30)).alloc (.cells #[.slice ta T.length tc] 27)).heap.size=w.heap.size+1+1:=by rw[World.size_alloc,s1]
 have s3:(((w.alloc (.cells #[.int .i64 m,.slice a A.length c] 30)).alloc (.cells #[.slice ta T.length tc] 27)).alloc (.cells #[.int .i64 (e:Int)] 3)).heap.size=w.heap.size+1+1+1:=by rw[World.size_alloc,s2]
 have s4:((((w.alloc (.cells #[.int .i64 m,.slice a A.length c] 30)).alloc (.cells #[.slice ta T.length tc] 27)).alloc (.cells #[.int .i64 (e:Int)] 3)).alloc (.cells #[qN] 36)).heap.size=w.heap.size+1+1+1+1:=by rw[World.size_alloc,s3]
 have x1:=zV 30 w #[.int .i64 m,.slice a A.length c];have x2:=zV 27 (w.alloc (.cells #[.int .i64 m,.slice a A.length c] 30)) #[.slice ta T.length tc];have x3:=zV 3 ((w.alloc (.cells #[.int .i64 m,.slice a A.length c] 30)).alloc (.cells #[.slice ta T.length tc] 27)) #[.int .i64 (e:Int)];have x4:=zV 36 (((w.alloc (.cells #[.int .i64 m,.slice a A.length c] 30)).alloc (.cells #[.slice ta T.length tc] 27)).alloc (.cells #[.int .i64 (e:Int)] 3)) #[qN];have x5:=zV 107 ((((w.alloc (.cells #[.int .i64 m,.slice a A.length c] 30)).alloc (.cells #[.slice ta T.length tc] 27)).alloc (.cells #[.int .i64 (e:Int)] 3)).alloc (.cells #[qN] 36)) #[(.func (.func 100) #[] #[.pointer (some ⟨w.heap.size+1+1,0,none⟩),(qP (w.heap.size+1)),(qP w.heap.size),.pointer (some ⟨w.heap.size+1+1+1,0,none⟩),.pointer (some ⟨w.heap.size+1+1+1+1,0,none⟩)])];rw[s1]at x2;rw[s2]at x3;rw[s3]at x4;rw[s4]at x5;have b1:=(Below.refl w.heap.size w).alloc (Nat.le_refl _) (.cells #[.int .i64 m,.slice a A.length c] 30);have b2:=(Below.refl (w.alloc (.cells #[.int .i64 m,.slice a A.length c] 30)).heap.size (w.alloc (.cells #[.int .i64 m,.slice a A.length c] 30))).alloc (Nat.le_refl _) (.cells #[.slice ta T.length tc] 27);have b3:=(Below.refl ((w.alloc (.cells #[.int .i64 m,.slice a A.length c] 30)).alloc (.cells #[.slice ta T.length tc] 27)).heap.size ((w.alloc (.cells #[.int .i64 m,.slice a A.length c] 30)).alloc (.cells #[.slice ta T.length tc] 27))).alloc (Nat.le_refl _) (.cells #[.int .i64 (e:Int)] 3);have b4:=(Below.refl (((w.alloc (.cells #[.int .i64 m,.slice a A.length c] 30)).alloc (.cells #[.slice ta T.length tc] 27)).alloc (.cells #[.int .i64 (e:Int)] 3)).heap.size (((w.alloc (.cells #[.int .i64 m,.slice a A.length c] 30)).alloc (.cells #[.slice ta T.length tc] 27)).alloc (.cells #[.int .i64 (e:Int)] 3))).alloc (Nat.le_refl _) (.cells #[qN] 36);have b5:=(Below.refl ((((w.alloc (.cells #[.int .i64 m,.slice a A.length c] 30)).alloc (.cells #[.slice ta T.length tc] 27)).alloc (.cells #[.int .i64 (e:Int)] 3)).alloc (.cells #[qN] 36)).heap.size ((((w.alloc (.cells #[.int .i64 m,.slice a A.length c] 30)).alloc (.cells #[.slice ta T.length tc] 27)).alloc (.cells #[.int .i64 (e:Int)] 3)).alloc (.cells #[qN] 36))).alloc (Nat.le_refl _) (.cells #[(.func (.func 100) #[] #[.pointer (some ⟨w.heap.size+1+1,0,none⟩),(qP (w.heap.size+1)),(qP w.heap.size),.pointer (some ⟨w.heap.size+1+1+1,0,none⟩),.pointer (some ⟨w.heap.size+1+1+1+1,0,none⟩)])] 107)
 have s5:(((((w.alloc (.cells #[.int .i64 m,.slice a A.length c] 30)).alloc (.cells #[.slice ta T.length tc] 27)).alloc (.cells #[.int .i64 (e:Int)] 3)).alloc (.cells #[qN] 36)).alloc (.cells #[(.func (.func 100) #[] #[.pointer (some ⟨w.heap.size+1+1,0,none⟩),(qP (w.heap.size+1)),(qP w.heap.size),.pointer (some ⟨w.heap.size+1+1+1,0,none⟩),.pointer (some ⟨w.heap.size+1+1+1+1,0,none⟩)])] 107)).heap.size=w.heap.size+5:=by rw[World.size_alloc,s4]
 have y1:=(((x1.below b2).below b3).below b4).below b5;have y2:=((x2.below b3).below b4).below b5;have y3:=(x3.below b4).below b5;have y4:=x4.below b5;have bb:Below w.heap.size w (((((w.alloc (.cells #[.int .i64 m,.slice a A.length c] 30)).alloc (.cells #[.slice ta T.length tc] 27)).alloc (.cells #[.int .i64 (e:Int)] 3)).alloc (.cells #[qN] 36)).alloc (.cells #[(.func (.func 100) #[] #[.pointer (some ⟨w.heap.size+1+1,0,none⟩),(qP (w.heap.size+1)),(qP w.heap.size),.pointer (some ⟨w.heap.size+1+1+1,0,none⟩),.pointer (some ⟨w.heap.size+1+1+1+1,0,none⟩)])] 107)):=(((b1.trans (b2.mono b1.size)).trans (b3.mono (by rw[s2];omega))).trans (b4.mono (by rw[s3];omega))).trans (b5.mono (by rw[s4];omega));clear b1 b2 b3 b4 b5 s1 s2 s3 s4 x1 x2 x3 x4;generalize (((((w.alloc (.cells #[.int .i64 m,.slice a A.length c] 30)).alloc (.cells #[.slice ta T.length tc] 27)).alloc (.cells #[.int .i64 (e:Int)] 3)).alloc (.cells #[qN] 36)).alloc (.cells #[(.func (.func 100) #[] #[.pointer (some ⟨w.heap.size+1+1,0,none⟩),(qP (w.heap.size+1)),(qP w.heap.size),.pointer (some ⟨w.heap.size+1+1+1,0,none⟩),.pointer (some ⟨w.heap.size+1+1+1+1,0,none⟩)])] 107))=W at *;refine ⟨⟨y3.cell (k:=0) rfl,y2.cell (k:=0) rfl,y1.cell (k:=1) rfl,x5.cell (k:=0) rfl,fun k hk=>?_,fun k hk=>?_,by omega,by omega⟩,⟨y4,wT.nil _ _,by omega,by omega⟩,bb⟩
 ·obtain ⟨b,off,h1,h2,h3⟩:=ht k hk
  exact ⟨b,off,h1,by omega,by omega,fun i hi=>zG bb h2 (h3 i hi)⟩
 obtain ⟨b,off,h1,h2,h3⟩:=ha k hk;exact ⟨b,off,h1,by omega,by omega,fun i hi=>⟨zG bb h2 (h3 i hi).1,zG bb h2 (h3 i hi).2.1,zG bb h2 (h3 i hi).2.2.1,zG bb h2 (h3 i hi).2.2.2.1,zG bb h2 (h3 i hi).2.2.2.2⟩⟩
theorem zUM {A:List NA} {T:List Nat} (hT:∀j,j ∈ T->j<A.length/\(zU A j).f=(fN A j:Int)/\(zU A j).t=(tN A j:Int)) (hTl:T.length<=1000) (m:Int) (a ta:Option Addr) (c tc k s e:Nat) (w:World) (ha:vN w a A) (ht:At w ta (yC T)) (hD:iO A T k s none) (hk:k<=1000):
 Calls Tryz.prog 78 #[.agg #[.int .i64 m,.slice a A.length c],.slice ta T.length tc,.int .i64 (s:Int),.int .i64 (e:Int)] w (WalE w ((vI A T e k s none).getD [])):=by
 have hmf:∀(fn:Fn) (first cap:Array Value) (w:World),(Instr.makeFunc fn first cap).run Tryz.prog w=.ok (.func fn first cap) w:=fun _ _ _ _=>rfl
 have hsf:=fun (a:Addr) (fn:Fn) (c:Array Value) (w:World)=>run_store Tryz.prog w a (.func fn #[] c) .plain rfl
 have HT:=zZ hT;have HD:=zZ hD;have ST:=zZ (JL w m a ta c tc e A T (TZ ha) (OV ht));clear hT hD ha ht;obtain ⟨RE,hRE⟩:∃R,WalE w ((vI A T e k s none).getD [])=R:=⟨_,rfl⟩;rw[hRE];have HRE:=zZ hRE;clear hRE
 go_enter Tryz.func78,Tryz.ntmps78
 go_upto_region 4 with fail
 have RR:=zZ ST.out.1;have PP:=zZ ST.out.2.1;have BB:=zZ ST.out.2.2;clear ST;generalize (((((w.alloc (.cells #[.int .i64 m,.slice a A.length c] 30)).alloc (.cells #[.slice ta T.length tc] 27)).alloc (.cells #[.int .i64 (e:Int)] 3)).alloc (.cells #[qN] 36)).alloc (.cells #[(.func (.func 100) #[] #[.pointer (some ⟨w.heap.size+1+1,0,none⟩),(qP (w.heap.size+1)),(qP w.heap.size),.pointer (some ⟨w.heap.size+1+1+1,0,none⟩),.pointer (some ⟨w.heap.size+1+1+1+1,0,none⟩)])] 107))=W at *;have r0:=RR.out.rc;have CL:=zZ (zZH HT.out hTl k s none [] none 0 W HD.out RR.out PP.out (by simp;omega));unfold zQG at CL;rw[show cmI none=(-1:Int) from rfl,List.nil_append]at CL
 go_upto_region 5 with (go_at_call 100;(with_reducible refine CL.out.mono ?_);rintro e' W6 ⟨d,c',rfl,q1,q2⟩;have P6:=zZ q1;have K6:=zZ q2;clear q1 q2 r0)
 have p6:=P6.out.blk.cell (k:=0) rfl;simp only[List.getElem_toArray,List.getElem_cons_zero]at p6;clear CL RR PP HD HT;generalize (vI A T e k s none).getD []=P at *
 go_wp2
 rw[<- HRE.out];exact ⟨d,c',rfl,P6.out.row.mono (by omega),⟨K6.out.os.trans BB.out.os,K6.out.tape.trans BB.out.tape,K6.out.output.trans BB.out.output,Nat.le_trans BB.out.size K6.out.size,fun i hi=>(K6.out.block i (by omega) (by omega)).trans (BB.out.block i hi)⟩⟩
def gQ (A:List NA) (T:List Nat) (N s t:Nat):List (Nat × Bool) × Int:=match vI A T t (N+1) s none with
 |some P=>(P,0)
 |none=>([],110)
def oJ (n:NN) (s t:Int):List (Nat × Bool) × Int:=
 if zN n=0 then (if gS n.nodes s=true/\gS n.nodes t=true then gQ n.arcs (yJ n.arcs n.arcs.length) n.nodes.toNat s.toNat t.toNat else ([],100)) else ([],zN n)
def zUL (p:List (Nat × Bool) × Int) (w:World) (e:Ending) (w':World):Prop:=∃d c,e=.returned (.tuple #[.slice d p.1.length c,.int .i64 p.2])/\wT w.heap.size w' d c p.1/\Below w.heap.size w w'
theorem gP (w w':World) (cd:Int) (hb:Below w.heap.size w w'):zUL ([],cd) w (.returned (.tuple #[qN,.int .i64 cd])) w':=⟨none,0,rfl,wT.nil _ _,hb⟩
theorem zZG {n:NN} (h:yI n):∀j,j ∈ yJ n.arcs n.arcs.length->j<n.arcs.length/\(zU n.arcs j).f=(fN n.arcs j:Int)/\(zU n.arcs j).t=(tN n.arcs j:Int):=fun j hj=>by
 have hl:=uX hj;have hs:=h.arcs j hl;have h1:=hs.f;have h2:=hs.t;unfold fN tN;exact ⟨hl,by omega,by omega⟩
theorem cV {n:NN} (h:yI n):∀j,j ∈ yJ n.arcs n.arcs.length->fN n.arcs j<n.nodes.toNat/\tN n.arcs j<n.nodes.toNat:=fun j hj=>by
 have hs:=h.arcs j (uX hj);have h1:=hs.f;have h2:=hs.t;unfold fN tN;omega
theorem zUK (n:NN) (a:Option Addr) (c:Nat) (s t:Int) (w:World) (h:vN w a n.arcs) (hl:n.arcs.length<=4611686018427387904):Calls Tryz.prog 44 #[.agg #[.int .i64 n.nodes,.slice a n.arcs.length c],.int .i64 s,.int .i64 t] w (zUL (oJ n s t) w):=by
 have b0:=(Below.refl w.heap.size w).alloc (Nat.le_refl _) (.cells #[.int .i64 n.nodes,.slice a n.arcs.length c] 30);have X0:=zZ (zV 30 w #[.int .i64 n.nodes,.slice a n.arcs.length c]);have B0:=zZ b0;have HA:=zZ (h.below b0);have OF:=zZ (EM n a c _ (h.below b0) hl);have y0:=X0.out.cell (k:=0) rfl;have y1:=X0.out.cell (k:=1) rfl;simp only[List.getElem_toArray,List.getElem_cons_zero,List.getElem_cons_succ]at y0 y1;clear b0 h;unfold zZN at OF
 by_cases hc:zN n=0
 ·simp only[if_pos hc]at OF
  have hS:=zB hc;have TA:=zZ (zZG hS);have TL:=zZ (cV hS)
  have hTl:(yJ n.arcs n.arcs.length).length<=1000:=by have:=iM (A:=n.arcs) (k:=n.arcs.length);have:=hS.most;omega
  have hN:=hS.nodes
  have PE:Hid (oJ n s t=if gS n.nodes s=true/\gS n.nodes t=true then gQ n.arcs (yJ n.arcs n.arcs.length) n.nodes.toNat s.toNat t.toNat else ([],100)):=by
   show _=_;unfold oJ;rw[if_pos hc]
  rw[PE.out];clear PE hS hc;obtain ⟨nn,A⟩:=n;simp only at *;obtain ⟨N,rfl⟩:∃k:Nat,nn=(k:Int):=⟨nn.toNat,by omega⟩;simp only[Int.toNat_natCast]at *
  have IN:Hid (∀ v U,Calls Tryz.prog 77 #[.agg #[.int .i64 (N:Int),.slice a A.length c],.int .i64 v] U fun e w'=>e=.returned (.bool (gS (N:Int) v))/\Below U.heap.size U w'):=fun v U=>OW (N:Int) v _ U
  obtain ⟨T,hT⟩:∃q,yJ A A.length=q:=⟨_,rfl⟩;obtain ⟨H,hH⟩:∃q,zQ A A.length=q:=⟨_,rfl⟩
  have DH:Hid (∀ p r:Nat,(vI A T r (N+1) p none≠none)↔H p=H r):=fun p r=>by rw[<- hT,<-hH];exact RG (fun j hj=>(TL.out j hj).1) (fun j hj=>(TL.out j hj).2) p r
  have DP:Hid (∀ p,iO A T (N+1) p none):=fun p=>by rw[<- hT];exact bS (fun j hj=>(TL.out j hj).1) (fun j hj=>(TL.out j hj).2) p none
  rw[hT]at OF TA hTl ⊢;rw[hH]at OF;clear hT hH TL;obtain ⟨RE,hRE⟩:∃R,zUL (if gS (N:Int) s=true/\gS (N:Int) t=true then gQ A T N s.toNat t.toNat else ([],100)) w=R:=⟨_,rfl⟩;rw[hRE];have HRE:=zZ hRE;clear hRE
  go_enter Tryz.func44,Tryz.ntmps44
  go_upto_region 1 with fail
  generalize w.alloc (.cells #[.int .i64 (N:Int),.slice a A.length c] 30)=W0 at *
  go_upto_region 2 with (go_at_call 18;(with_reducible refine OF.out.mono ?_);rintro e W1 ⟨d1,c1,d2,c2,rfl,q1,q2,-,b1⟩;have T1:=zZ q1;have H1:=zZ q2;have L1:=zZ (B0.out.trans (b1.mono B0.out.size));have X1:=zZ (X0.out.below b1);have A1:=zZ (HA.out.below b1);clear q1 q2 b1 y0 y1)
  have b2:=(Below.refl W1.heap.size W1).alloc (Nat.le_refl _) (.cells #[.slice d1 (yC T).length c1,.slice d2 (yV N H).length c2] 69);have F2:=zZ (zV 69 W1 #[.slice d1 (yC T).length c1,.slice d2 (yV N H).length c2]);have L2:=zZ (L1.out.trans (b2.mono L1.out.size));have X2:=zZ (X1.out.below b2);have A2:=zZ (A1.out.below b2);have T2:=zZ (T1.out.at.below b2);have H2:=zZ (H1.out.at.below b2);obtain ⟨fb,hfb⟩:∃q,W1.heap.size=q:=⟨_,rfl⟩;rw[hfb]at F2 ⊢;rw[wM,yY]at F2 ⊢;rw[wM,yY]at L2 X2 A2 T2 H2;generalize W1.alloc (.cells #[.slice d1 T.length c1,.slice d2 N c2] 69)=W2 at *;clear b2 T1 H1 L1 X1 A1 hfb OF X0 HA B0;have y0:=X2.out.cell (k:=0) rfl;have y1:=X2.out.cell (k:=1) rfl;simp only[List.getElem_toArray,List.getElem_cons_zero,List.getElem_cons_succ]at y0 y1;obtain ⟨b1,hb1⟩:∃q,gS (N:Int) s=q:=⟨_,rfl⟩;obtain ⟨b2,hb2⟩:∃q,gS (N:Int) t=q:=⟨_,rfl⟩
  have I1:Hid (∀ U,Calls Tryz.prog 77 #[.agg #[.int .i64 (N:Int),.slice a A.length c],.int .i64 s] U fun e w'=>e=.returned (.bool b1)/\Below U.heap.size U w'):=fun U=>by rw[<- hb1];exact IN.out s U
  have I2:Hid (∀ U,Calls Tryz.prog 77 #[.agg #[.int .i64 (N:Int),.slice a A.length c],.int .i64 t] U fun e w'=>e=.returned (.bool b2)/\Below U.heap.size U w'):=fun U=>by rw[<- hb2];exact IN.out t U
  rw[hb1,hb2]at HRE;clear IN
  cases b1 with
  |false=>
   clear hb1 hb2 I2 DH DP TA;rw[if_neg (by simp)]at HRE
   go_wp2_with (go_at_call 77;(with_reducible refine (I1.out _).mono ?_);rintro e W3 ⟨rfl,b3⟩;have L3:=zZ (L2.out.trans (b3.mono L2.out.size));clear b3)
   rw[<- HRE.out];exact gP _ _ _ L3.out
  |true=>
   cases b2 with
   |false=>
    clear hb1 hb2 DH DP TA;rw[if_neg (by simp)]at HRE
    go_wp2_with (first
     |(go_at_call 77;(with_reducible refine (I2.out _).mono ?_);rintro e W4 ⟨rfl,b4⟩;have L4:=zZ (L3.out.trans (b4.mono L3.out.size));clear b4)
     |(go_at_call 77;(with_reducible refine (I1.out _).mono ?_);rintro e W3 ⟨rfl,b3⟩;have L3:=zZ (L2.out.trans (b3.mono L2.out.size));have X3:=zZ (X2.out.below b3);have z0:=X3.out.cell (k:=0) rfl;have z1:=X3.out.cell (k:=1) rfl;simp only[List.getElem_toArray,List.getElem_cons_zero,List.getElem_cons_succ]at z0 z1;clear b3 y0 y1))
    rw[<- HRE.out];exact gP _ _ _ L4.out
   |true=>
    rw[if_pos ⟨rfl,rfl⟩]at HRE;unfold gS at hb1 hb2;simp only[Bool.and_eq_true,decide_eq_true_eq]at hb1 hb2;obtain ⟨p,rfl⟩:∃k:Nat,s=(k:Int):=⟨s.toNat,by omega⟩;obtain ⟨r,rfl⟩:∃k:Nat,t=(k:Int):=⟨t.toNat,by omega⟩;simp only[Int.toNat_natCast]at HRE
    have hp:p<N:=by omega
    have hr:r<N:=by omega
    have hpI:(p:Int)<(N:Int):=by omega
    have hrI:(r:Int)<(N:Int):=by omega
    clear hb1 hb2
    have PN:Hid (H p≠H r->gQ A T N p r=([],110)):=fun hne=>by
     unfold gQ
     cases q:vI A T r (N+1) p none with
     |none=>rfl
     |some P=>exact absurd ((DH.out p r).1 (by rw[q];exact fun x=>by cases x)) hne
    have PY:Hid (H p=H r->gQ A T N p r=((vI A T r (N+1) p none).getD [],0)):=fun he=>by
     unfold gQ
     cases q:vI A T r (N+1) p none with
     |none=>exact absurd q ((DH.out p r).2 he)
     |some P=>rfl
    go_upto_region 6 with (first
     |(go_at_call 77;(with_reducible refine (I2.out _).mono ?_);rintro e W4 ⟨rfl,b4⟩;have L4:=zZ (L3.out.trans (b4.mono L3.out.size));have K4:=zZ (K3.out.trans (b4.mono K3.out.size));clear b4)
     |(go_at_call 77;(with_reducible refine (I1.out _).mono ?_);rintro e W3 ⟨rfl,b3⟩;have L3:=zZ (L2.out.trans (b3.mono L2.out.size));have K3:=zZ b3;have X3:=zZ (X2.out.below b3);have z0:=X3.out.cell (k:=0) rfl;have z1:=X3.out.cell (k:=1) rfl;simp only[List.getElem_toArray,List.getElem_cons_zero,List.getElem_cons_succ]at z0 z1;clear b3 y0 y1))
    have F4:=zZ (F2.out.below K4.out);have X4:=zZ (X2.out.below K4.out);have A4:=zZ (A2.out.below K4.out);have T4:=zZ (T2.out.below K4.out);have H4:=zZ (H2.out.below K4.out);clear F2 X2 A2 T2 H2 K4 K3 X3 z0 z1 L2 L3 I1 I2;have f1:=F4.out.cell (k:=1) rfl;simp only[List.getElem_toArray,List.getElem_cons_zero,List.getElem_cons_succ]at f1
    rcases H4.out with e|⟨g,off,eg,hcg⟩
    ·have:=yY N H
     rw[e]at this;simp at this;omega
    have hp1:=hcg p (by rw[yY];exact hp);have hr1:=hcg r (by rw[yY];exact hr);rw[vS hp]at hp1;rw[vS hr]at hr1;subst eg;clear hcg H4;generalize H p=x at *;generalize H r=y at *
    by_cases hxy:x=y
    ·have PA:=zZ (PY.out hxy)
     subst hxy;clear PN PY
     go_quiet (fail)
     have K5:=WL W4 nq;have L5:=zZ (L4.out.trans (K5.mono L4.out.size));have F5:=zZ (F4.out.below K5);have X5:=zZ (X4.out.below K5);have A5:=zZ (A4.out.below K5);have T5:=zZ (T4.out.below K5);clear K5 L4 F4 X4 A4 T4 f1 hp1 hr1;generalize W4.drewN nq=W5 at *;have f0:=F5.out.cell (k:=0) rfl;have z0:=X5.out.cell (k:=0) rfl;have z1:=X5.out.cell (k:=1) rfl;simp only[List.getElem_toArray,List.getElem_cons_zero,List.getElem_cons_succ]at f0 z0 z1;have WK:=zZ (zUM TA.out hTl (N:Int) a d1 c c1 (N+1) p r W5 A5.out T5.out (DP.out p) (by omega))
     go_wp2_with (go_at_call 78;(with_reducible refine WK.out.mono ?_);rintro e W6 ⟨d6,c6,rfl,q1,q2⟩;have C6:=zZ q1;have L6:=zZ (L5.out.trans (q2.mono L5.out.size));clear q1 q2)
     rw[<- HRE.out,PA.out];exact ⟨d6,c6,rfl,C6.out.mono L5.out.size,L6.out⟩
    have PA:=zZ (PN.out hxy);clear PN PY
    have hxi:¬(x:Int)=(y:Int):=by omega
    go_quiet (fail)
    have L5:=zZ (L4.out.trans ((WL W4 nq).mono L4.out.size));clear f1 hp1 hr1 F4 X4 A4 T4 L4;generalize W4.drewN nq=W5 at *
    go_wp2
    rw[<- HRE.out,PA.out];exact gP _ _ _ L5.out
 have PE:Hid (oJ n s t=([],zN n)):=by show _=_;unfold oJ;rw[if_neg hc]
 rw[PE.out];simp only[if_neg hc]at OF
 have hcb:(zN n !=0)=true:=by simpa using hc
 clear hc PE HA;generalize zN n=cd at *;generalize n.arcs.length=al at *;generalize n.nodes=m at *;obtain ⟨RE,hRE⟩:∃R,zUL ([],cd) w=R:=⟨_,rfl⟩;rw[hRE];have HRE:=zZ hRE;clear hRE
 go_enter Tryz.func44,Tryz.ntmps44
 go_upto_region 1 with fail
 generalize w.alloc (.cells #[.int .i64 m,.slice a al c] 30)=W0 at *
 go_wp2_with (go_at_call 18;(with_reducible refine OF.out.mono ?_);rintro e W1 ⟨rfl,b1⟩;have L1:=zZ (B0.out.trans (b1.mono B0.out.size));clear b1)
 rw[<- HRE.out];exact gP _ _ _ (L1.out.alloc L1.out.size _)
def zNG (B:Nat) (T:TypeId) (z0 vals:Array Value) (done:Bool) (u:World) (z:Value):Prop:=∃xb,z=(qP xb)/\B<=xb/\zE T xb u (if done then vals else z0)
theorem zNG.later {B:Nat} {T:TypeId} {z0 vals:Array Value} {done:Bool} {u u':World} {z:Value} (h:zNG B T z0 vals done u z) (hb:Below u.heap.size u u'):zNG B T z0 vals done u' z:=by
 obtain ⟨xb,h1,h2,h3⟩:=h;exact ⟨xb,h1,h2,h3.below hb⟩
def SeV (B:Nat) (r:Option (List (Nat × Bool))) (u:World) (z:Value):Prop:=∃d c,z=.tuple #[.slice d (r.getD []).length c,.bool r.isSome]/\wT B u d c (r.getD [])
def SlS (B:Nat) (P:List (Nat × Bool)) (u:World) (z:Value):Prop:=∃d c,z=.slice d P.length c/\wT B u d c P
def ElS (j:Nat) (b:Bool) (u:World) (z:Value):Prop:=∃g,z=.slice (some ⟨g,0,none⟩) 1 1/\u.cell? ⟨g,0,none⟩=some (.int .i64 (j:Int))/\u.cell? ⟨g,1,none⟩=some (.bool b)
theorem SeV.later {B:Nat} {r:Option (List (Nat × Bool))} {u u':World} {z:Value} (h:SeV B r u z) (hb:Below u.heap.size u u'):SeV B r u' z:=by
 obtain ⟨d,c,h1,h2⟩:=h;exact ⟨d,c,h1,h2.later hb⟩
theorem SlS.later {B:Nat} {P:List (Nat × Bool)} {u u':World} {z:Value} (h:SlS B P u z) (hb:Below u.heap.size u u'):SlS B P u' z:=by
 obtain ⟨d,c,h1,h2⟩:=h;exact ⟨d,c,h1,h2.later hb⟩
theorem ElS.later {j:Nat} {b:Bool} {u u':World} {z:Value} (h:ElS j b u z) (hb:Below u.heap.size u u'):ElS j b u' z:=by
 obtain ⟨g,h1,h2,h3⟩:=h;exact ⟨g,h1,zW hb h2,zW hb h3⟩
theorem WJ (n:NN) (s t:Int):(oJ n s t).1.length<=33:=by
 unfold oJ
 split
 ·rename_i hc
  have hS:=zB hc
  split
  ·unfold gQ
   split
   ·rename_i P hP
    have h:=nX hP;have:=bS (fun j hj=>(cV hS j hj).1) (fun j hj=>(cV hS j hj).2) s.toNat none P t.toNat h.1 h.2;have:=hS.nodes;show P.length<=33
    omega
   exact Nat.zero_le _
  exact Nat.zero_le _
 exact Nat.zero_le _
def FoV (T H:List Int) (cd:Int) (u:World) (z:Value):Prop:=∃d1 c1 d2 c2,z=.tuple #[.agg #[.slice d1 T.length c1,.slice d2 H.length c2],.int .i64 cd]/\zO 0 u d1 c1 T
def FaV (T H:List Int) (u:World) (z:Value):Prop:=∃d1 c1 d2 c2,z=.agg #[.slice d1 T.length c1,.slice d2 H.length c2]/\zO 0 u d1 c1 T
def FbB (T H:List Int) (fb:Nat) (done:Bool) (u:World):Prop:=match done with
 |true=>∃d1 c1 d2 c2,zE 69 fb u #[.slice d1 T.length c1,.slice d2 H.length c2]/\zO 0 u d1 c1 T
 |false=>zE 69 fb u #[qN,qN]
def FbV (B:Nat) (T H:List Int) (done:Bool) (u:World) (z:Value):Prop:=∃fb,z=(qP fb)/\B<=fb/\FbB T H fb done u
theorem FoV.later {T H:List Int} {cd:Int} {u u':World} {z:Value} (h:FoV T H cd u z) (hb:Below u.heap.size u u'):FoV T H cd u' z:=by
 obtain ⟨d1,c1,d2,c2,h1,h2⟩:=h;exact ⟨d1,c1,d2,c2,h1,h2.later hb⟩
theorem FaV.later {T H:List Int} {u u':World} {z:Value} (h:FaV T H u z) (hb:Below u.heap.size u u'):FaV T H u' z:=by
 obtain ⟨d1,c1,d2,c2,h1,h2⟩:=h;exact ⟨d1,c1,d2,c2,h1,h2.later hb⟩
theorem FbV.later {B:Nat} {T H:List Int} {done:Bool} {u u':World} {z:Value} (h:FbV B T H done u z) (hb:Below u.heap.size u u'):FbV B T H done u' z:=by
 obtain ⟨fb,h1,h2,h3⟩:=h;refine ⟨fb,h1,h2,?_⟩
 cases done with
 |false=>exact zE.below (show zE 69 fb u #[qN,qN] from h3) hb
 |true=>
  obtain ⟨d1,c1,d2,c2,q1,q2⟩:=h3;exact ⟨d1,c1,d2,c2,q1.below hb,q2.later hb⟩
theorem vN.take {w:World} {a:Option Addr} {A:List NA} (h:vN w a A) (k:Nat):vN w a (A.take k):=by
 rcases h with e|⟨b,off,e,hc⟩
 ·subst e;exact .inl (by simp)
 refine .inr ⟨b,off,e,fun i hi=>?_⟩
 rw[List.length_take]at hi;rw[LU (by omega)];exact hc i (by omega)
end Go.Proofs.YtpohmekkdjdhmaaGreat
