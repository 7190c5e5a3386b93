/- Texts of one chain. -/
import Derived.Test.YtpohmekkdjdhmaaGreatPartQ
import Derived.Test.YtpohmekkdjdhmaaGreatPartTopPeriods36
import Derived.Deep.SlicePairs
import Derived.SizedLaws
import Derived.Test.YtpohmekkdjdhmaaGreatPartTopPeriods13
import Derived.Test.YtpohmekkdjdhmaaGreatPartTopPeriods16
set_option maxRecDepth 100000
namespace Go.Proofs.YtpohmekkdjdhmaaGreat
open Go.ChangeShapes Go.WideShapes Go.ChangeAt Go.RowKit
theorem Tryz.cellsGA:Tryz.prog.cellsOf 65=3:=by kernel_rfl
theorem Tryz.cellsGE:Tryz.prog.cellsOf 59=5:=by kernel_rfl
theorem Tryz.cellsGP:Tryz.prog.cellsOf 67=3:=by kernel_rfl
theorem Tryz.cellsGG:Tryz.prog.cellsOf 26=5:=by kernel_rfl
theorem Tryz.cellsSA:Tryz.prog.cellsOf 22=1:=by kernel_rfl
theorem Tryz.cellsSE:Tryz.prog.cellsOf 23=1:=by kernel_rfl
theorem Tryz.cellsSP:Tryz.prog.cellsOf 24=1:=by kernel_rfl
theorem Tryz.cellsSL:Tryz.prog.cellsOf 27=1:=by kernel_rfl
theorem Tryz.cellsTG:Tryz.prog.cellsOf 63=1:=by kernel_rfl
theorem Tryz.cells9G:Tryz.prog.cellsOf 9=1:=by kernel_rfl
theorem Tryz.cells3G:Tryz.prog.cellsOf 3=1:=by kernel_rfl
theorem Tryz.bytesGA:Tryz.prog.bytesOf 65=48:=by kernel_rfl
theorem Tryz.bytesGE:Tryz.prog.bytesOf 59=56:=by kernel_rfl
theorem Tryz.bytesGP:Tryz.prog.bytesOf 67=32:=by kernel_rfl
theorem Tryz.bytes3G:Tryz.prog.bytesOf 3=8:=by kernel_rfl
theorem zQH {α :Type} {n:Nat} {p:Nat-> α ->Prop} (d: α) (h:∀i,i<n->∃a,p i a):∃f:Nat-> α,∀i,i<n->p i (f i):=
 ⟨fun i=>if hi:i<n then (h i hi).choose else d,fun i hi=>by simp only[hi,dif_pos];exact (h i hi).choose_spec⟩
theorem zZT {W:World} {x:Addr} {v:Value} (h:W.cell? (x.add 0)=some v):x.spot=none:=by
 obtain ⟨b,off,sp⟩:=x
 cases sp with
 |none=>rfl
 |some s=>simp[World.cell?,Addr.add]at h;split at h<;>cases h
structure UA (w : World) (a1 a2 a3 a4 : Option Addr) (c3 c4 : Nat) (g : GG) : Prop where
 gr:NJ w a1 a2 a3 a4 g
 n3:a3=none->c3=0
 n4:a4=none->c4=0
theorem UA.below {w w':World} {a1 a2 a3 a4:Option Addr} {c3 c4:Nat} {g:GG} (h:UA w a1 a2 a3 a4 c3 c4 g) (hb:Below w.heap.size w w'):UA w' a1 a2 a3 a4 c3 c4 g:=⟨h.gr.below hb,h.n3,h.n4⟩
section
variable {H:Type} {enc:TypeId × Value->H} {W:World} {base:Nat} {held:Bool}
theorem WM {P:Program} {e:TypeId} {q:Nat->Bool} :∀ {l:List (DataW H)} {d:DataW H},d ∈ l->(DataW.weightsAll P e l).all q=true->(d.weights P e).all q=true
 |[],_,h,_=>by simp at h
 |d0::l,d,h,hw=>by
  simp only[DataW.weightsAll,List.all_append,Bool.and_eq_true]at hw
  rcases List.mem_cons.1 h with rfl|h
  ·exact hw.1
  exact WM h hw.2
theorem ZZ {n:Nat} {v:Value} {y:DataW H × List MemPlace} (h:DataW.trod enc Tryz.prog W base (fun _=>true) held n 27 [v]=some y) (hw:(y.1.weights Tryz.prog 27).all (· <=reachBytes)=true):
 ∃(ns:List Int) (x:Option Addr) (c:Nat),v=.slice x ns.length c/\ZL W x ns.length c ns:=by
 rcases open_ints Tryz.underlying27 Tryz.underlying3 Tryz.cells3G h with ⟨h1,-⟩|⟨a,len,cap,zs,h1,-,hl,-,hz,hx,hc,hb⟩
 ·simp only[List.cons.injEq,and_true]at h1
  subst h1;exact ⟨[],none,0,rfl,iW⟩
 simp only[List.cons.injEq,and_true]at h1;subst h1;simp only[if_true]at hz
 have hl2:(zs.take len).length=len:=by rw[List.length_take];omega
 have hr:len*8<=140737488351232:=by
  rw[hx]at hw;simp only[DataW.weights,Tryz.underlying27,List.all_cons,Bool.and_eq_true,decide_eq_true_eq,Tryz.bytes3G]at hw;have:=hw.1;simp only[reachBytes,lits,List.length_map,List.length_take,List.length_drop]at this;omega
 refine ⟨zs.take len,some a,cap,by rw[hl2],?_⟩
 rw[hl2];exact MR hl hz hc hb hr
theorem OY {n:Nat} {cs:List Value} {y:DataW H × List MemPlace} (h:DataW.trod enc Tryz.prog W base (fun _=>true) held n 65 cs=some y) (hw:(y.1.weights Tryz.prog 65).all (· <=reachBytes)=true):
 ∃p:GA × Value,cs=aP p/\zNM W p:=by
 obtain ⟨xs,k,hk,hxy,hcl,hxl,hf⟩:=DataW.trod_struct Tryz.underlying65 h;rw[Tryz.cellsGA]at hcl
 match xs,hxl,cs,hcl with
 |[y0,y1,y2],_,[v0,v1,v2],_=>
  have g0:=hf 0 _ rfl;have g1:=hf 1 _ rfl;have g2:=hf 2 _ rfl;simp[Tryz.cells9G,Tryz.cellsTG,Tryz.cellsSL]at g0 g1 g2
  have hw2:(y2.1.weights Tryz.prog 27).all (· <=reachBytes)=true:=by
   rw[hxy]at hw;simp only[DataW.weights,Tryz.underlying65]at hw;rw[List.all_eq_true]at hw ⊢
   exact fun m hm=>hw m (DataW.weights_mem_each (j:=2) (t:=27) (d:=y2.1) rfl rfl m hm)
  obtain ⟨z0,q0,-⟩:=DataW.trod_string Tryz.underlying9 g0;obtain ⟨z1,q1,-,b1⟩:=DataW.trod_int Tryz.underlying63 g1;obtain ⟨ns,x,c,q2,hA⟩:=ZZ g2 hw2;simp only[List.cons.injEq,and_true]at q0 q1;subst q0 q1 q2;have bd:=bounds_u8 b1;obtain ⟨tg,rfl⟩:∃t:Nat,z1=(t:Int):=⟨z1.toNat,by omega⟩;exact ⟨(⟨z0.data.toList,tg,ns⟩,.slice x ns.length c),rfl,by show tg<=255;omega,x,c,rfl,hA⟩
theorem JQ {n:Nat} {cs:List Value} {y:DataW H × List MemPlace} (h:DataW.trod enc Tryz.prog W base (fun _=>true) held n 59 cs=some y) (hw:(y.1.weights Tryz.prog 59).all (· <=reachBytes)=true):
 ∃p:GE × Value,cs=eP p/\zNL W p:=by
 obtain ⟨xs,k,hk,hxy,hcl,hxl,hf⟩:=DataW.trod_struct Tryz.underlying59 h;rw[Tryz.cellsGE]at hcl
 match xs,hxl,cs,hcl with
 |[y0,y1,y2,y3,y4],_,[v0,v1,v2,v3,v4],_=>
  have g0:=hf 0 _ rfl;have g1:=hf 1 _ rfl;have g2:=hf 2 _ rfl;have g3:=hf 3 _ rfl;have g4:=hf 4 _ rfl;simp[Tryz.cells3G,Tryz.cellsSL]at g0 g1 g2 g3 g4
  have hw4:(y4.1.weights Tryz.prog 27).all (· <=reachBytes)=true:=by
   rw[hxy]at hw;simp only[DataW.weights,Tryz.underlying59]at hw;rw[List.all_eq_true]at hw ⊢
   exact fun m hm=>hw m (DataW.weights_mem_each (j:=4) (t:=27) (d:=y4.1) rfl rfl m hm)
  obtain ⟨z0,q0,-,-⟩:=DataW.trod_int Tryz.underlying3 g0;obtain ⟨z1,q1,-,-⟩:=DataW.trod_int Tryz.underlying3 g1;obtain ⟨z2,q2,-,-⟩:=DataW.trod_int Tryz.underlying3 g2;obtain ⟨z3,q3,-,-⟩:=DataW.trod_int Tryz.underlying3 g3;obtain ⟨ns,x,c,q4,hA⟩:=ZZ g4 hw4;simp only[List.cons.injEq,and_true]at q0 q1 q2 q3;subst q0 q1 q2 q3 q4;exact ⟨(⟨z0,z1,z2,z3,ns⟩,.slice x ns.length c),rfl,x,c,rfl,hA⟩
theorem ZY {n:Nat} {cs:List Value} {y:DataW H × List MemPlace} (h:DataW.trod enc Tryz.prog W base (fun _=>true) held n 67 cs=some y):
 ∃p:GP,cs=pP p/\True:=by
 obtain ⟨xs,k,hk,hxy,hcl,hxl,hf⟩:=DataW.trod_struct Tryz.underlying67 h;rw[Tryz.cellsGP]at hcl
 match xs,hxl,cs,hcl with
 |[y0,y1,y2],_,[v0,v1,v2],_=>
  have g0:=hf 0 _ rfl;have g1:=hf 1 _ rfl;have g2:=hf 2 _ rfl;simp[Tryz.cells9G,Tryz.cells3G]at g0 g1 g2;obtain ⟨z0,q0,-⟩:=DataW.trod_string Tryz.underlying9 g0;obtain ⟨z1,q1,-,-⟩:=DataW.trod_int Tryz.underlying3 g1;obtain ⟨z2,q2,-,-⟩:=DataW.trod_int Tryz.underlying3 g2;simp only[List.cons.injEq,and_true]at q0 q1 q2;subst q0 q1 q2;exact ⟨⟨z0.data.toList,z1,z2⟩,rfl,trivial⟩
theorem pR {α :Type} (S T:TypeId) (c bt:Nat) (f: α ->List Value) (hfl:∀x,(f x).length=c) (d0: α) (hS:Tryz.prog.underlying S=some (.slice T)) (hc0:0<c) (hc:Tryz.prog.cellsOf T=c) (hby:Tryz.prog.bytesOf T=bt) (P: α ->Prop)
 (hel:∀ {n:Nat} {cs:List Value} {y:DataW H × List MemPlace},DataW.trod enc Tryz.prog W base (fun _=>true) held n T cs=some y->(y.1.weights Tryz.prog T).all (· <=reachBytes)=true->∃p,cs=f p/\P p)
 {n:Nat} {v:Value} {y:DataW H × List MemPlace} (h:DataW.trod enc Tryz.prog W base (fun _=>true) held n S [v]=some y) (hw:(y.1.weights Tryz.prog S).all (· <=reachBytes)=true):
 ∃(a:Option Addr) (cap:Nat) (L:List α),v=.slice a L.length cap/\(a=none->cap=0)/\L.length*bt<=140737488351232/\(∀ p ∈ L,P p)/\(L=[]\/∃b off,a=some ⟨b,off,none⟩/\∀k (hk:k<L.length),∀j u,(f L[k])[j]? =some u->W.cell? ⟨b,off+k*c+j,none⟩=some u):=by
 rcases Deep.open_slice hS h with ⟨h1,-⟩|⟨x,len,cap,m,n,D,Pl,h1,-,hl,-,hm,hd,hx⟩
 ·simp only[List.cons.injEq,and_true]at h1
  subst h1;exact ⟨none,0,[],rfl,fun _=>rfl,by simp,fun p hp=>(by cases hp),.inl rfl⟩
 simp only[List.cons.injEq,and_true]at h1;subst h1;simp only[if_true]at hm;rw[hd]at hw;simp only[DataW.weights,hS,List.all_cons,List.all_append,Bool.and_eq_true,decide_eq_true_eq,hby]at hw;obtain ⟨wr,we,-⟩:=hw;simp only[reachBytes,List.length_map,List.length_range]at wr
 have each:∀i,i<len->∃p: α,W.cells? base (x.add (i*c)) c=some (f p)/\P p:=by
  intro i hi;obtain ⟨cs',h1,h2⟩:=hx i (by omega);rw[hc]at h1;obtain ⟨p,rfl,hp⟩:=hel h2 (WM (List.mem_map.2 ⟨i,List.mem_range.2 hi,rfl⟩) we);exact ⟨p,h1,hp⟩
 obtain ⟨q,hq⟩:=zQH d0 each
 have hlen:((List.range len).map q).length=len:=by simp
 refine ⟨some x,cap,(List.range len).map q,by rw[hlen],(fun e=>by cases e),?_,fun p hp=>?_,?_⟩
 ·rw [hlen]
  have h2:len*bt<=m*bt:=Nat.mul_le_mul_right _ (by omega);have h3:len*bt<=(len+(m-len))*bt:=Nat.mul_le_mul_right _ (Nat.le_add_right _ _);omega
 ·obtain ⟨i,hi,rfl⟩:=List.mem_map.1 hp
  exact (hq i (List.mem_range.1 hi)).2
 by_cases h0:0<len
 ·right
  have cell:∀i,i<len->∀j u,(f (q i))[j]? =some u->W.cell? ((x.add (i*c)).add j)=some u:=fun i hi j u hu=>by
   obtain ⟨_,hlen,hcc⟩:=World.cells?_some (hq i hi).1
   have hj:j<c:=by
    have:=(List.getElem?_eq_some_iff.1 hu).1;rw[hfl]at this;exact this
   rw[hcc j hj,hu]
  obtain ⟨u0,hu0⟩:∃u,(f (q 0))[0]? =some u:=⟨_,List.getElem?_eq_getElem (by rw[hfl];exact hc0)⟩;have hs:=zZT (W:=W) (x:=x.add (0*c)) (cell 0 h0 0 u0 hu0);obtain ⟨b,off,sp⟩:=x;rw[Nat.zero_mul]at hs
  have hs':sp=none:=by simpa [Addr.add] using hs
  subst hs';refine ⟨b,off,rfl,fun k hk j u hu=>?_⟩
  have hk':k<len:=by simpa using hk
  rw[List.getElem_map,List.getElem_range]at hu;have cc:=cell k hk' j u hu;rw[Addr.add_lit,Addr.add_lit]at cc;exact cc
 left
 have e:len=0:=by omega
 subst e;rfl
theorem JP {r:Reach} {b0:Nat} {v:Value} {d:DataW H} {p:List MemPlace} (hv:Value.okWide Tryz.prog W r b0 26 v) (h:DataW.Trod enc Tryz.prog W base (fun _=>true) held 26 v d p) (hw:(d.weights Tryz.prog 26).all (· <=reachBytes)=true):
 ∃(g:GG) (a1 a2 a3 a4:Option Addr) (c1 c2 c3 c4:Nat),v=.agg #[.string (yG g.name),.slice a1 g.A.length c1,.slice a2 g.E.length c2,.slice a3 g.ins.length c3,.slice a4 g.outs.length c4]/\UA W a1 a2 a3 a4 c3 c4 g:=by
 obtain ⟨cs,rfl,hsz⟩:=okWide_struct Tryz.underlying26 hv;rw[Tryz.cellsGG]at hsz;obtain ⟨fuel,hf⟩:=h;obtain ⟨xs,k,hk,hxy,hcl,hxl,hf⟩:=DataW.trod_struct Tryz.underlying26 hf;obtain ⟨l⟩:=cs
 match xs,hxl,l,hsz with
 |[y0,y1,y2,y3,y4],_,[v0,v1,v2,v3,v4],_=>
  have g0:=hf 0 _ rfl;have g1:=hf 1 _ rfl;have g2:=hf 2 _ rfl;have g3:=hf 3 _ rfl;have g4:=hf 4 _ rfl;simp[Value.cells,Tryz.cells9G,Tryz.cellsSA,Tryz.cellsSE,Tryz.cellsSP]at g0 g1 g2 g3 g4;have hd:=congrArg Prod.fst hxy;simp only at hd;rw[hd]at hw;simp only[DataW.weights,Tryz.underlying26]at hw;rw[List.all_eq_true]at hw
  have w1:(y1.1.weights Tryz.prog 22).all (· <=reachBytes)=true:=by rw[List.all_eq_true];exact fun m hm=>hw m (DataW.weights_mem_each (j:=1) (t:=22) (d:=y1.1) rfl rfl m hm)
  have w2:(y2.1.weights Tryz.prog 23).all (· <=reachBytes)=true:=by rw[List.all_eq_true];exact fun m hm=>hw m (DataW.weights_mem_each (j:=2) (t:=23) (d:=y2.1) rfl rfl m hm)
  have w3:(y3.1.weights Tryz.prog 24).all (· <=reachBytes)=true:=by rw[List.all_eq_true];exact fun m hm=>hw m (DataW.weights_mem_each (j:=3) (t:=24) (d:=y3.1) rfl rfl m hm)
  have w4:(y4.1.weights Tryz.prog 24).all (· <=reachBytes)=true:=by rw[List.all_eq_true];exact fun m hm=>hw m (DataW.weights_mem_each (j:=4) (t:=24) (d:=y4.1) rfl rfl m hm)
  obtain ⟨z0,q0,-⟩:=DataW.trod_string Tryz.underlying9 g0;simp only[List.cons.injEq,and_true]at q0;subst q0;obtain ⟨a1,c1,As,rfl,-,n1,p1,r1⟩:=pR 22 65 3 48 aP aG (⟨[],0,[]⟩,Value.slice none 0 0) Tryz.underlying22 (by decide) Tryz.cellsGA Tryz.bytesGA (zNM W) (fun h hw=>OY h hw) g1 w1;obtain ⟨a2,c2,Es,rfl,-,n2,p2,r2⟩:=pR 23 59 5 56 eP jF (⟨0,0,0,0,[]⟩,Value.slice none 0 0) Tryz.underlying23 (by decide) Tryz.cellsGE Tryz.bytesGE (zNL W) (fun h hw=>JQ h hw) g2 w2;obtain ⟨a3,c3,Ps,rfl,m3,n3,-,r3⟩:=pR 24 67 3 32 pP fD ⟨[],0,0⟩ Tryz.underlying24 (by decide) Tryz.cellsGP Tryz.bytesGP (fun _=>True) (fun h _=>ZY h) g3 w3;obtain ⟨a4,c4,Os,rfl,m4,n4,-,r4⟩:=pR 24 67 3 32 pP fD ⟨[],0,0⟩ Tryz.underlying24 (by decide) Tryz.cellsGP Tryz.bytesGP (fun _=>True) (fun h _=>ZY h) g4 w4;refine ⟨⟨z0.data.toList,As.map Prod.fst,Es.map Prod.fst,Ps,Os⟩,a1,a2,a3,a4,c1,c2,c3,c4,by simp only[List.length_map];rfl,⟨?_,?_,?_,?_,by show (As.map Prod.fst).length<=_;rw[List.length_map];omega,by show (Es.map Prod.fst).length<=_;rw[List.length_map];omega,by show Ps.length<=_;omega,by show Os.length<=_;omega⟩,m3,m4⟩
  ·rcases r1 with rfl|⟨b,off,rfl,hc⟩
   ·exact .inl rfl
   refine .inr ⟨b,off,rfl,fun k hk=>?_⟩
   rw[List.length_map]at hk
   have e:yX (As.map Prod.fst) k=As[k].1:=by rw[aE (by rw[List.length_map];exact hk),List.getElem_map]
   obtain ⟨h1,x,c,h2,h3⟩:=p1 As[k] (List.getElem_mem hk);rw[e];exact ⟨hc k hk 0 _ rfl,hc k hk 1 _ rfl,h1,x,c,hc k hk 2 _ (by rw[<- h2];rfl),h3⟩
  ·rcases r2 with rfl|⟨b,off,rfl,hc⟩
   ·exact .inl rfl
   refine .inr ⟨b,off,rfl,fun k hk=>?_⟩
   rw[List.length_map]at hk
   have e:yD (Es.map Prod.fst) k=Es[k].1:=by rw[aD (by rw[List.length_map];exact hk),List.getElem_map]
   obtain ⟨x,c,h2,h3⟩:=p2 Es[k] (List.getElem_mem hk);rw[e];exact ⟨hc k hk 0 _ rfl,hc k hk 1 _ rfl,hc k hk 2 _ rfl,hc k hk 3 _ rfl,x,c,hc k hk 4 _ (by rw[<- h2];rfl),h3⟩
  ·rcases r3 with rfl|⟨b,off,rfl,hc⟩
   ·exact .inl rfl
   refine .inr ⟨b,off,rfl,fun k hk=>?_⟩
   rw[aB hk];exact ⟨hc k hk 0 _ rfl,hc k hk 1 _ rfl,hc k hk 2 _ rfl⟩
  rcases r4 with rfl|⟨b,off,rfl,hc⟩
  ·exact .inl rfl
  refine .inr ⟨b,off,rfl,fun k hk=>?_⟩
  rw[aB hk];exact ⟨hc k hk 0 _ rfl,hc k hk 1 _ rfl,hc k hk 2 _ rfl⟩
end
structure Light (g : GG) : Prop where
 a:g.A.length<=1048576
 e:g.E.length<=1048576
 i:g.ins.length<=1048576
 o:g.outs.length<=1048576
 pa:∀x ∈ g.A,x.params.length<=1048576
 pe:∀x ∈ g.E,x.start.length<=1048576
theorem GrA.len {w:World} {a:Option Addr} {As:List GA} (h:GrA w a As):∀x ∈ As,x.params.length<=17592186043904:=fun x hx=>by
 obtain ⟨k,hk,rfl⟩:=memA hx
 rcases h with h|⟨b,off,-,hc⟩
 ·rw [h]at hk;exact absurd hk (Nat.not_lt_zero _)
 obtain ⟨-,-,-,y,c,-,h5⟩:=hc k hk;have:=h5.reach;omega
theorem GrE.len {w:World} {a:Option Addr} {As:List GE} (h:GrE w a As):∀x ∈ As,x.start.length<=17592186043904:=fun x hx=>by
 obtain ⟨k,hk,rfl⟩:=memE hx
 rcases h with h|⟨b,off,-,hc⟩
 ·rw [h]at hk;exact absurd hk (Nat.not_lt_zero _)
 obtain ⟨-,-,-,-,y,c,-,h5⟩:=hc k hk;have:=h5.reach;omega
theorem gW {α :Type} (f: α ->List Value) (c:Nat) (hc:∀x,(f x).length=c):∀(L:List α),(L.flatMap f).length=L.length*c
 |[]=>by simp
 |x::r=>by rw[List.flatMap_cons,List.length_append,hc,gW f c hc r,List.length_cons,Nat.succ_mul];omega
theorem fC {w:World} {base T c g n cap:Nat} {xs ys:List Value} {m:Nat} (h:w.ownsRow base T c (.slice (some ⟨g,0,none⟩) n cap) n (xs++ys)) (hm:xs.length=m*c) (hmn:m<=n):w.ownsRow base T c (.slice (some ⟨g,0,none⟩) m cap) m xs:=by
 obtain ⟨h1,h2⟩:=h;refine ⟨hm,?_⟩
 rcases h2 with ⟨hv,-⟩|⟨g',c',cur,hv,hg,hh,hc,hmm,hs,ht⟩
 ·cases hv
 cases hv
 refine .inr ⟨_,_,cur,rfl,hg,hh,by omega,hmm,hs,?_⟩
 have h3:=congrArg (List.take (m*c)) ht;rw[List.take_take,Nat.min_eq_left (Nat.mul_le_mul_right _ hmn)]at h3;rw[h3,<-hm,List.take_left]
def markP:GP:=⟨[109,97,114,107],-7770777,0⟩
def jS (B:Nat) (w:World) (a:Option Addr) (c:Nat) (Ps:List GP):Prop:=∃b,a=some ⟨b,0,none⟩/\B<=b/\Ps.length+1<=c/\w.ownsRow B 67 3 (.slice a (Ps.length+1) c) (Ps.length+1) (Ps.flatMap pP++pP markP)
theorem jS.keep {B:Nat} {w w':World} {a:Option Addr} {c:Nat} {Ps:List GP} (h:jS B w a c Ps) (hk:∀k,B<=k->k<w.heap.size->w'.heap[k]? =w.heap[k]?):jS B w' a c Ps:=by
 obtain ⟨b,h1,h2,h3,h4⟩:=h;exact ⟨b,h1,h2,h3,xB h4 fun k e=>hk k (wF h4 k e) (rM h4 k e)⟩
theorem jS.at {B:Nat} {w:World} {a:Option Addr} {c:Nat} {Ps:List GP} (h:jS B w a c Ps):aQ w a Ps:=by
 obtain ⟨b,rfl,-,-,h4⟩:=h;exact UB (n:=Ps.length) (cp:=c) (fC h4 (gW pP 3 fD Ps) (Nat.le_succ _))
theorem zUY {w w':World} {b k:Nat} (h:w'.heap[b]? =w.heap[b]?):w'.cell? ⟨b,k,none⟩=w.cell? ⟨b,k,none⟩:=by simp[World.cell?,h]
theorem nD.keepB {B:Nat} {w w':World} {g len:Nat} {zs:List Int} (h:nD B w g len zs) (hk:w'.heap[g]? =w.heap[g]?):nD B w' g len zs:=by
 obtain ⟨h1,h2,h3⟩:=h;refine ⟨h1,h2,?_⟩
 rcases h3 with h3|⟨b,off,e,hc⟩
 ·exact .inl h3
 cases e
 exact .inr ⟨g,0,rfl,fun k hk2=>by rw[zUY hk];exact hc k hk2⟩
theorem nD.lt {B:Nat} {w:World} {g len:Nat} {zs:List Int} (h:nD B w g len zs):g<w.heap.size:=block_lt_of_cell (h.cells.2 len (Nat.le_refl _) (by omega))
theorem nD.base {B B':Nat} {w:World} {g len:Nat} {zs:List Int} (h:nD B w g len zs) (hb:B'<=B):nD B' w g len zs:=⟨Nat.le_trans hb h.1,h.2⟩
theorem nD.arg {B:Nat} {w:World} {g:Nat} {zs:List Int} (h:nD B w g zs.length zs) (ho:lZ zs):ZL w (some ⟨g,0,none⟩) zs.length (zs.length+4) zs:=⟨rfl,ho.2,(fun e=>by cases e),ho.1,h.at,by omega⟩
def pQ (B:Nat) (w:World) (q:Value) (ns:List Int):Prop:=∃gq,q=.slice (some ⟨gq,0,none⟩) ns.length (ns.length+4)/\nD B w gq ns.length ns
theorem pQ.lt {B:Nat} {w:World} {q:Value} {ns:List Int} (h:pQ B w q ns):∀k,q.ownBlock=some k->B<=k/\k<w.heap.size:=by
 obtain ⟨gq,rfl,h⟩:=h;intro k e
 cases e
 exact ⟨h.1,h.lt⟩
theorem pQ.keep {B:Nat} {w w':World} {q:Value} {ns:List Int} (h:pQ B w q ns) (hk:∀k,q.ownBlock=some k->w'.heap[k]? =w.heap[k]?):pQ B w' q ns:=by
 obtain ⟨gq,rfl,h⟩:=h;exact ⟨gq,rfl,h.keepB (hk gq rfl)⟩
theorem pQ.base {B B':Nat} {w:World} {q:Value} {ns:List Int} (h:pQ B w q ns) (hb:B'<=B):pQ B' w q ns:=by
 obtain ⟨gq,h1,h2⟩:=h;exact ⟨gq,h1,h2.base hb⟩
def markA:GA × Value:=(⟨[109,97,114,107],99,[]⟩,qN)
def markE:GE × Value:=(⟨-7770777,0,0,0,[]⟩,qN)
structure LtA (w W1 : World) (nm : List UInt8) (u2 u3 u4 v : Value) (M : List (GA × Value)) (wr : World) : Prop where
 ob:zE 26 (w.heap.size+2) wr #[.string (yG nm),v,u2,u3,u4]
 row:wr.ownsRow W1.heap.size 65 3 v M.length (M.flatMap aP)
 qs:∀p ∈ M,pQ W1.heap.size wr p.2 p.1.params
 ap:∀p ∈ M,NB v p.2
 chg:xP (fun k=>k=w.heap.size+2\/W1.heap.size<=k) W1 wr
 hk:w.heap.size+2<W1.heap.size
theorem LtA.put {w W1 nm u2 u3 u4 v M} {V:World} (h:LtA w W1 nm u2 u3 u4 v M V) {w2 w4:World} {p:GA × Value} {v':Value} (hb:Below V.heap.size V w2) (hq:pQ V.heap.size w2 p.2 p.1.params)
 (ho:w4.ownsRow W1.heap.size 65 3 v' (M.length+1) (M.flatMap aP++aP p))
 (ht:(∃ g cap,v=.slice (some ⟨g,0,none⟩) M.length cap/\v'=.slice (some ⟨g,0,none⟩) (M.length+1) cap/\w2.grownBy w4 (some g))\/(∃ cap,v'=.slice (some ⟨w2.heap.size,0,none⟩) (M.length+1) cap/\w2.grownBy w4 none)):
 LtA w W1 nm u2 u3 u4 v' (M++[p]) (w4.setCell ⟨w.heap.size+2,1,none⟩ v')/\zE 26 (w.heap.size+2) w4 #[.string (yG nm),v,u2,u3,u4]:=by
 have hk:=h.hk;have h1:=h.chg.size;have hsz:=hb.size;have tk:=WP ht
 have kp:∀d,d<V.heap.size->v.ownBlock≠some d->w4.heap[d]? =V.heap[d]? :=fun d hd hn=>(tk.2 d (by omega) hn).trans (hb.block d hd)
 have lowr:∀d,d<W1.heap.size->v.ownBlock≠some d:=fun d hd e=>by have:=wF h.row d e;omega
 have b3:=h.ob.keep (kp _ (by omega) (lowr _ hk))
 have set:∀k,k≠w.heap.size+2->(w4.setCell ⟨w.heap.size+2,1,none⟩ v').heap[k]? =w4.heap[k]? :=fun k hk=>Below.heap_setCell w4 ⟨w.heap.size+2,1,none⟩ v' k hk
 have np:NB v p.2:=fun k e1 e2=>by have:=rM h.row k e1;have:=(hq.lt k e2).1;omega
 refine ⟨⟨b3.set 1 v',?_,fun q hq'=>?_,fun q hq'=>?_,?_,hk⟩,b3⟩
 ·rw [PD,List.length_append]
  exact xB ho fun k e=>set k (by have:=wF ho k e;omega)
 ·rcases List.mem_append.1 hq' with hm|hm
  ·have l:=h.qs q hm
   exact l.keep fun k e=>(set k (by have:=(l.lt k e).1;omega)).trans (kp k (l.lt k e).2 (fun e2=>h.ap q hm k e2 e))
  rw[List.mem_singleton.1 hm];exact (hq.keep fun k e=>(set k (by have:=(hq.lt k e).1;omega)).trans (tk.2 k (hq.lt k e).2 (fun e2=>np k e2 e))).base h1
 ·rcases List.mem_append.1 hq' with hm|hm
  ·exact NB.told (h.ap q hm) (fun k e=>Nat.lt_of_lt_of_le ((h.qs q hm).lt k e).2 hsz) ht
  rw[List.mem_singleton.1 hm];exact NB.told np (fun k e=>(hq.lt k e).2) ht
 obtain ⟨row,hg,hrow⟩:=aH ht;have c1:xP (fun k=>k=w.heap.size+2\/W1.heap.size<=k) V w2:=xP.of_below hb
 have c2:xP (fun k=>k=w.heap.size+2\/W1.heap.size<=k) w2 w4:=xP.grown hg fun k e=>.inr (wF h.row k (hrow k e))
 exact ((h.chg.trans' c1).trans' c2).trans' (xP.set w4 (.inl rfl) 1 v')
def gV (B:Nat) (w:World) (a:Option Addr) (c:Nat) (As:List GA):Prop:=∃(b:Nat) (M:List (GA × Value)),a=some ⟨b,0,none⟩/\B<=b/\As.length+1<=c/\M.map Prod.fst=As/\w.ownsRow B 65 3 (.slice a (As.length+1) c) (As.length+1) (M.flatMap aP++aP markA)/\∀p ∈ M,pQ B w p.2 p.1.params
theorem gV.keep {B:Nat} {w w':World} {a:Option Addr} {c:Nat} {As:List GA} (h:gV B w a c As) (hk:∀k,B<=k->k<w.heap.size->w'.heap[k]? =w.heap[k]?):gV B w' a c As:=by
 obtain ⟨b,M,h1,h2,h3,h4,h5,h6⟩:=h;exact ⟨b,M,h1,h2,h3,h4,xB h5 fun k e=>hk k (wF h5 k e) (rM h5 k e),fun p hp=>(h6 p hp).keep fun k e=>hk k ((h6 p hp).lt k e).1 ((h6 p hp).lt k e).2⟩
theorem gV.base {B B':Nat} {w:World} {a:Option Addr} {c:Nat} {As:List GA} (h:gV B w a c As) (hb:B'<=B):gV B' w a c As:=by
 obtain ⟨b,M,h1,h2,h3,h4,h5,h6⟩:=h;exact ⟨b,M,h1,Nat.le_trans hb h2,h3,h4,uQ h5 hb,fun p hp=>(h6 p hp).base hb⟩
theorem gV.gr {B:Nat} {w:World} {a:Option Addr} {c:Nat} {As:List GA} (h:gV B w a c As) (ho:∀x ∈ As,x.tag<=255/\lZ x.params):GrA w a As:=by
 obtain ⟨b,M,rfl,-,-,h4,h5,h6⟩:=h
 have hl:M.length=As.length:=by rw[<- h4,List.length_map]
 rw[<- hl]at h5
 have r:=ES (n:=M.length) (cp:=c) (fC h5 (gW aP 3 aG M) (Nat.le_succ _)) (fun p hp=>by
  have hx:=ho p.1 (by rw[<- h4];exact List.mem_map_of_mem hp);obtain ⟨gq,e,hq⟩:=h6 p hp
  exact ⟨hx.1,_,_,e,hq.arg hx.2⟩)
 rw[h4]at r;exact r
structure LtE (w W1 : World) (nm : List UInt8) (u1 u3 u4 v : Value) (M : List (GE × Value)) (wr : World) : Prop where
 ob:zE 26 (w.heap.size+2) wr #[.string (yG nm),u1,v,u3,u4]
 row:wr.ownsRow W1.heap.size 59 5 v M.length (M.flatMap eP)
 qs:∀p ∈ M,pQ W1.heap.size wr p.2 p.1.start
 ap:∀p ∈ M,NB v p.2
 chg:xP (fun k=>k=w.heap.size+2\/W1.heap.size<=k) W1 wr
 hk:w.heap.size+2<W1.heap.size
theorem LtE.put {w W1 nm u1 u3 u4 v M} {V:World} (h:LtE w W1 nm u1 u3 u4 v M V) {w2 w4:World} {p:GE × Value} {v':Value} (hb:Below V.heap.size V w2) (hq:pQ V.heap.size w2 p.2 p.1.start)
 (ho:w4.ownsRow W1.heap.size 59 5 v' (M.length+1) (M.flatMap eP++eP p))
 (ht:(∃ g cap,v=.slice (some ⟨g,0,none⟩) M.length cap/\v'=.slice (some ⟨g,0,none⟩) (M.length+1) cap/\w2.grownBy w4 (some g))\/(∃ cap,v'=.slice (some ⟨w2.heap.size,0,none⟩) (M.length+1) cap/\w2.grownBy w4 none)):
 LtE w W1 nm u1 u3 u4 v' (M++[p]) (w4.setCell ⟨w.heap.size+2,2,none⟩ v')/\zE 26 (w.heap.size+2) w4 #[.string (yG nm),u1,v,u3,u4]:=by
 have hk:=h.hk;have h1:=h.chg.size;have hsz:=hb.size;have tk:=WP ht
 have kp:∀d,d<V.heap.size->v.ownBlock≠some d->w4.heap[d]? =V.heap[d]? :=fun d hd hn=>(tk.2 d (by omega) hn).trans (hb.block d hd)
 have lowr:∀d,d<W1.heap.size->v.ownBlock≠some d:=fun d hd e=>by have:=wF h.row d e;omega
 have b3:=h.ob.keep (kp _ (by omega) (lowr _ hk))
 have set:∀k,k≠w.heap.size+2->(w4.setCell ⟨w.heap.size+2,2,none⟩ v').heap[k]? =w4.heap[k]? :=fun k hk=>Below.heap_setCell w4 ⟨w.heap.size+2,2,none⟩ v' k hk
 have np:NB v p.2:=fun k e1 e2=>by have:=rM h.row k e1;have:=(hq.lt k e2).1;omega
 refine ⟨⟨b3.set 2 v',?_,fun q hq'=>?_,fun q hq'=>?_,?_,hk⟩,b3⟩
 ·rw [PD,List.length_append]
  exact xB ho fun k e=>set k (by have:=wF ho k e;omega)
 ·rcases List.mem_append.1 hq' with hm|hm
  ·have l:=h.qs q hm
   exact l.keep fun k e=>(set k (by have:=(l.lt k e).1;omega)).trans (kp k (l.lt k e).2 (fun e2=>h.ap q hm k e2 e))
  rw[List.mem_singleton.1 hm];exact (hq.keep fun k e=>(set k (by have:=(hq.lt k e).1;omega)).trans (tk.2 k (hq.lt k e).2 (fun e2=>np k e2 e))).base h1
 ·rcases List.mem_append.1 hq' with hm|hm
  ·exact NB.told (h.ap q hm) (fun k e=>Nat.lt_of_lt_of_le ((h.qs q hm).lt k e).2 hsz) ht
  rw[List.mem_singleton.1 hm];exact NB.told np (fun k e=>(hq.lt k e).2) ht
 obtain ⟨row,hg,hrow⟩:=aH ht;have c1:xP (fun k=>k=w.heap.size+2\/W1.heap.size<=k) V w2:=xP.of_below hb
 have c2:xP (fun k=>k=w.heap.size+2\/W1.heap.size<=k) w2 w4:=xP.grown hg fun k e=>.inr (wF h.row k (hrow k e))
 exact ((h.chg.trans' c1).trans' c2).trans' (xP.set w4 (.inl rfl) 2 v')
def gU (B:Nat) (w:World) (a:Option Addr) (c:Nat) (As:List GE):Prop:=∃(b:Nat) (M:List (GE × Value)),a=some ⟨b,0,none⟩/\B<=b/\As.length+1<=c/\M.map Prod.fst=As/\w.ownsRow B 59 5 (.slice a (As.length+1) c) (As.length+1) (M.flatMap eP++eP markE)/\∀p ∈ M,pQ B w p.2 p.1.start
theorem gU.keep {B:Nat} {w w':World} {a:Option Addr} {c:Nat} {As:List GE} (h:gU B w a c As) (hk:∀k,B<=k->k<w.heap.size->w'.heap[k]? =w.heap[k]?):gU B w' a c As:=by
 obtain ⟨b,M,h1,h2,h3,h4,h5,h6⟩:=h;exact ⟨b,M,h1,h2,h3,h4,xB h5 fun k e=>hk k (wF h5 k e) (rM h5 k e),fun p hp=>(h6 p hp).keep fun k e=>hk k ((h6 p hp).lt k e).1 ((h6 p hp).lt k e).2⟩
theorem gU.base {B B':Nat} {w:World} {a:Option Addr} {c:Nat} {As:List GE} (h:gU B w a c As) (hb:B'<=B):gU B' w a c As:=by
 obtain ⟨b,M,h1,h2,h3,h4,h5,h6⟩:=h;exact ⟨b,M,h1,Nat.le_trans hb h2,h3,h4,uQ h5 hb,fun p hp=>(h6 p hp).base hb⟩
theorem gU.gr {B:Nat} {w:World} {a:Option Addr} {c:Nat} {As:List GE} (h:gU B w a c As) (ho:∀x ∈ As,lZ x.start):GrE w a As:=by
 obtain ⟨b,M,rfl,-,-,h4,h5,h6⟩:=h
 have hl:M.length=As.length:=by rw[<- h4,List.length_map]
 rw[<- hl]at h5
 have r:=EP (n:=M.length) (cp:=c) (fC h5 (gW eP 5 jF M) (Nat.le_succ _)) (fun p hp=>by
  have hx:=ho p.1 (by rw[<- h4];exact List.mem_map_of_mem hp);obtain ⟨gq,e,hq⟩:=h6 p hp
  exact ⟨_,_,e,hq.arg hx⟩)
 rw[h4]at r;exact r
theorem jS.base {B B':Nat} {w:World} {a:Option Addr} {c:Nat} {Ps:List GP} (h:jS B w a c Ps) (hb:B'<=B):jS B' w a c Ps:=by
 obtain ⟨b,h1,h2,h3,h4⟩:=h;exact ⟨b,h1,Nat.le_trans hb h2,h3,uQ h4 hb⟩
structure OX (B : Nat) (w : World) (x1 x2 x3 x4 : Option Addr) (c1 c2 c3 c4 : Nat) (g : GG) : Prop where
 a:gV B w x1 c1 g.A
 e:gU B w x2 c2 g.E
 i:jS B w x3 c3 g.ins
 o:jS B w x4 c4 g.outs
theorem OX.keep {B:Nat} {w w':World} {x1 x2 x3 x4:Option Addr} {c1 c2 c3 c4:Nat} {g:GG} (h:OX B w x1 x2 x3 x4 c1 c2 c3 c4 g) (hk:∀k,B<=k->k<w.heap.size->w'.heap[k]? =w.heap[k]?):OX B w' x1 x2 x3 x4 c1 c2 c3 c4 g:=⟨h.a.keep hk,h.e.keep hk,h.i.keep hk,h.o.keep hk⟩
def zOT (g:GG):Prop:=(∀ x ∈ g.A,x.tag<=255/\lZ x.params)/\(∀ x ∈ g.E,lZ x.start)
theorem NJ.nums {w:World} {a1 a2 a3 a4:Option Addr} {g:GG} (h:NJ w a1 a2 a3 a4 g):zOT g:=by
 refine ⟨fun x hx=>?_,fun x hx=>?_⟩
 ·obtain ⟨k,hk,rfl⟩:=memA hx
  rcases h.A with e|⟨b,off,-,hc⟩
  ·rw [e]at hk;exact absurd hk (Nat.not_lt_zero _)
  obtain ⟨-,-,h3,y,c,-,h5⟩:=hc k hk;exact ⟨h3,h5.fits,h5.reach⟩
 obtain ⟨k,hk,rfl⟩:=memE hx
 rcases h.E with e|⟨b,off,-,hc⟩
 ·rw [e]at hk;exact absurd hk (Nat.not_lt_zero _)
 obtain ⟨-,-,-,-,y,c,-,h5⟩:=hc k hk;exact ⟨h5.fits,h5.reach⟩
theorem OX.gr {B:Nat} {w:World} {x1 x2 x3 x4:Option Addr} {c1 c2 c3 c4:Nat} {g:GG} (h:OX B w x1 x2 x3 x4 c1 c2 c3 c4 g) (ho:zOT g) (hl:Light g):NJ w x1 x2 x3 x4 g:=
 ⟨h.a.gr ho.1,h.e.gr ho.2,h.i.at,h.o.at,Nat.le_trans hl.a (by decide),Nat.le_trans hl.e (by decide),Nat.le_trans hl.i (by decide),Nat.le_trans hl.o (by decide)⟩
structure LB (w : World) (gv : Array Value) (u : World) : Prop where
 i:zE 26 w.heap.size u gv
 r:zE 26 (w.heap.size+1) u #[qE,qN,qN,qN,qN]
 bel:Below w.heap.size w u
theorem LB.below {w gv} {u u':World} (h:LB w gv u) (hb:Below u.heap.size u u'):LB w gv u':=⟨h.i.below hb,h.r.below hb,h.bel.trans (hb.mono h.bel.size)⟩
theorem LB.chg {w gv} {u u':World} {N:Nat} (h:LB w gv u) (hc:xP (fun k=>k=w.heap.size+2\/N<=k) u u') (hN:w.heap.size+2<N):LB w gv u':=
 ⟨h.i.keep (hc.block _ h.i.lt (by omega)),h.r.keep (hc.block _ h.r.lt (by omega)),h.bel.trans (hc.below (L:=w.heap.size) (fun k e=>by omega) h.bel.size)⟩
theorem LB.set {w gv} {u:World} (h:LB w gv u) (f:Nat) (v:Value):LB w gv (u.setCell ⟨w.heap.size+2,f,none⟩ v):=
 ⟨h.i.keep (Below.heap_setCell _ ⟨w.heap.size+2,f,none⟩ _ _ (by show w.heap.size≠w.heap.size+2;omega)),h.r.keep (Below.heap_setCell _ ⟨w.heap.size+2,f,none⟩ _ _ (by show w.heap.size+1≠w.heap.size+2;omega)),h.bel.setCell (p:=⟨w.heap.size+2,f,none⟩) (Nat.le_add_right _ 2) _⟩
def zUX (w:World) (gv:Array Value) (u:World):Prop:=zE 26 w.heap.size u gv/\Below w.heap.size w u
theorem zUX.low {w u:World} {gv:Array Value} (h:zUX w gv u):Below w.heap.size w u:=h.2
theorem zUX.later {w u u':World} {gv:Array Value} (h:zUX w gv u) (hb:Below u.heap.size u u'):zUX w gv u':=⟨h.1.below hb,h.2.trans (hb.mono h.2.size)⟩
end Go.Proofs.YtpohmekkdjdhmaaGreat
