/- Texts of one chain. -/
import Derived.Test.YtpohmekkdjdhmaaGreatPartQ
import Derived.Test.YtpohmekkdjdhmaaGreatPartTopPeriods14
import Derived.Test.YtpohmekkdjdhmaaGreatPartTopPeriods4
import Derived.Test.YtpohmekkdjdhmaaGreatPartTopPeriods13
import Derived.Deep.OwnRows
import Derived.Test.YtpohmekkdjdhmaaGreatPartTopPeriods1
namespace Go.Proofs.YtpohmekkdjdhmaaGreat
open Go.ChangeShapes Go.WideShapes Go.ChangeAt Go.RowKit
def mk (i k:Nat):Int:=(i:Int)*1000003+k
theorem sB {xs:List Int} {k:Nat} {v:Int} (h:k<xs.length):zS (xs.set k v) k=v:=by
 unfold zS;rw[List.getD_eq_getElem?_getD,List.getElem?_set_self h];rfl
theorem rZ {xs:List Int} {k j:Nat} {v:Int} (h:k≠j):zS (xs.set k v) j=zS xs j:=by
 unfold zS;rw[List.getD_eq_getElem?_getD,List.getD_eq_getElem?_getD,List.getElem?_set_ne h]
theorem zO.setAt {base:Nat} {w:World} {g cap k:Nat} {zs:List Int} (x:Int) (h:zO base w (some ⟨g,0,none⟩) cap zs):zO base (w.setCell ⟨g,k,none⟩ (.int .i64 x)) (some ⟨g,0,none⟩) cap (zs.set k x):=by
 have h1:=(World.ownsRow.stored h k (.int .i64 x)).1;unfold zO;rw[List.length_set,List.map_set];exact h1
theorem zO.nthCell {base:Nat} {w:World} {g cap k:Nat} {zs:List Int} (h:zO base w (some ⟨g,0,none⟩) cap zs) (hk:k<zs.length):w.cell? ⟨g,k,none⟩=some (.int .i64 (zS zs k)):=by
 have h1:=World.ownsRow.cellAt h k (by simpa using hk);rw[h1,VN hk]
theorem zO.block {base:Nat} {w w':World} {a:Option Addr} {cap:Nat} {zs:List Int} (h:zO base w a cap zs) (hb:∀x,a=some x->w'.heap[x.block]? =w.heap[x.block]?):zO base w' a cap zs:=by
 refine ⟨h.1,?_⟩
 rcases h.2 with h2|⟨g,c,cur,hv,hg,hh,r⟩
 ·exact .inl h2
 refine .inr ⟨g,c,cur,hv,hg,?_,r⟩
 cases hv
 rw[hb _ rfl];exact hh
theorem At.block {w w':World} {a:Option Addr} {zs:List Int} (h:At w a zs) (hb:∀x,a=some x->w'.heap[x.block]? =w.heap[x.block]?):At w' a zs:=by
 rcases h with h|⟨b,off,rfl,hc⟩
 ·exact .inl h
 refine .inr ⟨b,off,rfl,fun k hk=>?_⟩
 rw[World.cell?_of_block (w:=w) (w':=w') (a:=⟨b,off+k,none⟩) (hb ⟨b,off,none⟩ rfl)];exact hc k hk
theorem At.prefix {w:World} {a:Option Addr} {zs ts:List Int} (h:At w a (zs++ts)):At w a zs:=by
 rcases h with h|⟨b,off,rfl,hc⟩
 ·exact .inl (List.append_eq_nil_iff.1 h).1
 refine .inr ⟨b,off,rfl,fun k hk=>?_⟩
 have:=hc k (by simp;omega);rw[nJ hk]at this;exact this
structure Fam (n G H : Nat) (A : Nat -> Option Addr) : Prop where
 apart:∀j k x y,j<n->k<n->j≠k->A j=some x->A k=some y->x.block≠y.block
 tabs:∀j x,j<n->A j=some x->x.block≠G/\x.block≠H/\x.block<H
 gh:G≠H
def RS (B n H:Nat) (A:Nat->Option Addr) (w wr:World):Prop:=
 Below B w wr/\∀k,k<w.heap.size->k≠H->(∀ j x,j<n->A j=some x->x.block≠k)->wr.heap[k]? =w.heap[k]?
theorem RS.set {B n H:Nat} {A:Nat->Option Addr} {w wr:World} (h:RS B n H A w wr) {g:Nat} (hg:B<=g) (hne:∀k,k<w.heap.size->k≠H->(∀ j x,j<n->A j=some x->x.block≠k)->k≠g) (k:Nat) (v:Value):RS B n H A w (wr.setCell ⟨g,k,none⟩ v):=
 ⟨h.1.setCell (p:=⟨g,k,none⟩) hg v,fun q h1 h2 h3=>(Below.heap_setCell wr ⟨g,k,none⟩ v q (hne q h1 h2 h3)).trans (h.2 q h1 h2 h3)⟩
structure ApA (B n G H off : Nat) (w wr : World) (A : Nat -> Option Addr) (L C : Nat -> Nat) (i : Nat) (Z : Nat -> List Int) : Prop where
 rows:∀j,j<n->zO B wr (A j) (C j) (Z j)/\(Z j).length=L j
 tab:∀j,j<n->wr.cell? ⟨G,off+j,none⟩=some (.slice (A j) (L j) (C j))
 long:wr.rowIs H 27 n (fun j=>if j<i then .slice (A j) (L j) (C j) else qN)
 bel:RS B n H A w wr
 low:B<=H
def oX {α :Type} (f:Nat-> α) (i:Nat) (v: α):Nat-> α :=fun j=>if j=i then v else f j
theorem yN {α :Type} (f:Nat-> α) (i:Nat) (v: α):oX f i v i=v:=if_pos rfl
theorem yZ {α :Type} {f:Nat-> α} {i j:Nat} {v: α} (h:j≠i):oX f i v j=f j:=if_neg h
theorem ApA.mark {B n G H off:Nat} {w wr:World} {A:Nat->Option Addr} {L C:Nat->Nat} {i:Nat} {Z:Nat->List Int} (h:ApA B n G H off w wr A L C i Z) (F:Fam n G H A) {g k:Nat} (hi:i<n) (hA:A i=some ⟨g,0,none⟩) (x:Int):
 ApA B n G H off w (wr.setCell ⟨g,k,none⟩ (.int .i64 x)) A L C i (oX Z i ((Z i).set k x)):=by
 have hg:=(h.rows i hi).1.lt _ hA;refine ⟨fun j hj=>?_,fun j hj=>?_,?_,h.bel.set hg.1 (fun q _ _ h3 e=>h3 i _ hi hA e.symm) k _,h.low⟩
 ·by_cases e:j=i
  ·subst e
   rw[yN,hA];have:=h.rows j hj;rw[hA]at this;exact ⟨this.1.setAt x,by rw[List.length_set];exact this.2⟩
  rw[yZ e];exact ⟨(h.rows j hj).1.setOther (ad:=⟨g,k,none⟩) (fun y hy=>F.apart j i y ⟨g,0,none⟩ hj hi e hy hA) _,(h.rows j hj).2⟩
 ·rw [World.cell?_of_block (w:=wr) (w':=wr.setCell ⟨g,k,none⟩ (.int .i64 x)) (a:=⟨G,off+j,none⟩) (Below.heap_setCell wr ⟨g,k,none⟩ _ G (F.tabs i _ hi hA).1.symm)]
  exact h.tab j hj
 exact h.long.setOther (a:=⟨g,k,none⟩) (F.tabs i _ hi hA).2.1.symm _
theorem ApA.next {B n G H off:Nat} {w wr:World} {A:Nat->Option Addr} {L C:Nat->Nat} {i:Nat} {Z:Nat->List Int} (h:ApA B n G H off w wr A L C i Z) (F:Fam n G H A) (hi:i<n):
 ApA B n G H off w (wr.setCell ⟨H,i,none⟩ (.slice (A i) (L i) (C i))) A L C (i+1) Z:=by
 refine ⟨fun j hj=>⟨(h.rows j hj).1.setOther (ad:=⟨H,i,none⟩) (fun y hy=>(F.tabs j y hj hy).2.1) _,(h.rows j hj).2⟩,fun j hj=>?_,?_,h.bel.set h.low (fun q _ h2 _=>h2) i _,h.low⟩
 ·rw [World.cell?_of_block (w:=wr) (w':=wr.setCell ⟨H,i,none⟩ _) (a:=⟨G,off+j,none⟩) (Below.heap_setCell wr ⟨H,i,none⟩ _ G F.gh)]
  exact h.tab j hj
 refine (h.long.set i _).congr fun j hj=>?_
 by_cases e:j=i
 ·subst e
  rw[if_pos rfl,if_pos (by omega)]
 rw[if_neg e]
 by_cases e2:j<i
 ·rw [if_pos e2,if_pos (by omega)]
 rw[if_neg e2,if_neg (by omega)]
structure ApB (B n G H off : Nat) (w wr : World) (A : Nat -> Option Addr) (L C : Nat -> Nat) (Z : Nat -> List Int) (D : Nat -> Option Addr) (E : Nat -> Nat) (Y : Nat -> List Int) : Prop where
 own:∀j,j<n->zO B wr (D j) (E j) (Y j)
 lie:∀j,j<n->At wr (A j) (Z j)
 tab:∀j,j<n->wr.cell? ⟨G,off+j,none⟩=some (.slice (A j) (L j) (C j))
 long:wr.rowIs H 27 n (fun j=>.slice (D j) (Y j).length (E j))
 pre:∀j,j<n->∃t,Y j=Z j++t
 dd:∀j k x y,j<n->k<n->j≠k->D j=some x->D k=some y->x.block≠y.block
 ad:∀j k x y,j<n->k<n->j≠k->A j=some x->D k=some y->x.block≠y.block
 aa:∀j x y,j<n->A j=some x->D j=some y->x.block=y.block->x=y
 dt:∀j x,j<n->D j=some x->x.block≠G/\x.block≠H
 alt:∀j x,j<n->A j=some x->x.block<wr.heap.size/\x.block≠H
 gh:G≠H/\G<wr.heap.size
 dn:∀j y,j<n->D j=some y->A j=some y\/w.heap.size<=y.block
 bel:RS B n H A w wr
 low:B<=H
theorem ApB.grow {B n G H off:Nat} {w wr w2:World} {A:Nat->Option Addr} {L C:Nat->Nat} {Z:Nat->List Int} {D:Nat->Option Addr} {E:Nat->Nat} {Y:Nat->List Int} (h:ApB B n G H off w wr A L C Z D E Y) {i:Nat} (hi:i<n) {x:Int} {o:Obj} {v':Value}
 (hown:w2.ownsRow B 3 1 v' ((Y i).length+1) ((Y i).map (Value.int .i64)++[.int .i64 x]))
 (hg:(∃ g cap,Value.slice (D i) (Y i).length (E i)=.slice (some ⟨g,0,none⟩) (Y i).length cap/\v'=.slice (some ⟨g,0,none⟩) ((Y i).length+1) cap/\(wr.alloc o).grownBy w2 (some g))\/(∃ cap,v'=.slice (some ⟨(wr.alloc o).heap.size,0,none⟩) ((Y i).length+1) cap/\(wr.alloc o).grownBy w2 none)):
 ∃d c,v'=.slice d ((Y i).length+1) c/\ApB B n G H off w (w2.setCell ⟨H,i,none⟩ v') A L C Z (oX D i d) (oX E i c) (oX Y i (Y i++[x]))/\w2.cell? ⟨H,i,none⟩=some (.slice (D i) (Y i).length (E i))/\w2.frozen? ⟨H,i,none⟩=false:=by
 have hsz:wr.heap.size<(wr.alloc o).heap.size:=by simp
 have hH:=h.long.lt;have hlow:=h.low
 have key:∃d c,v'=.slice d ((Y i).length+1) c/\(∃ row,(wr.alloc o).grownBy w2 row/\(∀ k,row=some k->(∃ y,D i=some y/\y.block=k)/\d=D i))/\(d=D i\/∃y,d=some y/\wr.heap.size<y.block):=by
  rcases hg with ⟨g,cap,e1,e2,e3⟩|⟨cap,e2,e3⟩
  ·injection e1 with e4 e5 e6
   exact ⟨_,_,e2,⟨_,e3,fun k hk=>⟨⟨_,e4,by cases hk;rfl⟩,e4.symm⟩⟩,.inl e4.symm⟩
  exact ⟨_,_,e2,⟨_,e3,fun k hk=>by cases hk⟩,.inr ⟨_,rfl,hsz⟩⟩
 obtain ⟨d,c,rfl,⟨row,hgr,hrow⟩,hd⟩:=key
 have hblk:∀k,k<wr.heap.size->(∀ y,D i=some y->y.block≠k)->w2.heap[k]? =wr.heap[k]? :=fun k hk hne=>by
  rw[hgr.block k (by omega) (fun e=>by obtain ⟨⟨y,hy,e2⟩,-⟩:=hrow k e.symm;exact hne y hy e2)];exact Below.heap_alloc wr o k hk
 have hHb:w2.heap[H]? =wr.heap[H]? :=hblk H hH (fun y hy=>(h.dt i y hi hy).2);have hrowsH:w2.rowIs H 27 n (fun j=>.slice (D j) (Y j).length (E j)):=h.long.of_block hHb;refine ⟨d,c,rfl,?_,hrowsH.cell hi,hrowsH.frozen i⟩
 have hdb:∀y,d=some y->B<=y.block/\y.block<w2.heap.size:=fun y hy=>by
  have:=hown.lt y.block (by rw[hy];rfl);exact this
 have hset:∀k,k≠H->(w2.setCell ⟨H,i,none⟩ (.slice d ((Y i).length+1) c)).heap[k]? =w2.heap[k]? :=fun k hk=>Below.heap_setCell w2 ⟨H,i,none⟩ _ k hk
 have hdH:∀y,d=some y->y.block≠H/\y.block≠G:=fun y hy=>by
  rcases hd with rfl|⟨z,rfl,hz⟩
  ·exact ⟨(h.dt i y hi hy).2,(h.dt i y hi hy).1⟩
  cases hy
  have:=h.gh.2;exact ⟨by omega,by omega⟩
 have hDlt:∀j y,j<n->D j=some y->B<=y.block/\y.block<wr.heap.size:=fun j y hj hy=>(h.own j hj).lt y hy
 have hC:zO B w2 d c (Y i++[x]):=by
  unfold zO;rw[List.map_append,List.length_append];exact hown
 have hsize:wr.heap.size<=w2.heap.size:=by have:=hgr.size;omega
 have hsame:(w2.setCell ⟨H,i,none⟩ (.slice d ((Y i).length+1) c)).heap.size=w2.heap.size:=by simp[World.setCell]
 refine ⟨fun j hj=>?_,fun j hj=>?_,fun j hj=>?_,?_,fun j hj=>?_,?_,?_,?_,?_,fun j y hj hy=>?_,?_,?_,?_,h.low⟩
 ·by_cases e:j=i
  ·subst e
   rw[yN,yN,yN];exact hC.setOther (ad:=⟨H,j,none⟩) (fun y hy=>(hdH y hy).1) _
  rw[yZ e,yZ e,yZ e]
  refine (h.own j hj).block fun y hy=>?_
  rw[hset _ (h.dt j y hj hy).2]
  exact hblk _ (hDlt j y hj hy).2 fun z hz e2=>h.dd j i y z hj hi e hy hz e2.symm
 ·by_cases e:j=i
  ·subst e
   cases ha:A j with
   |none=>
    have:=h.lie j hj;rw[ha]at this
    rcases this with h0|⟨b,o',h1,-⟩
    ·exact .inl h0
    cases h1
   |some y=>
    by_cases hin:∃z,D j=some z/\z.block=y.block
    ·obtain ⟨z,hz,ez⟩:=hin
     have ezy:=h.aa j y z hj ha hz ez.symm;subst ezy
     rcases hd with rfl|⟨z',hz',hlt⟩
     ·have h1:At w2 (D j) (Y j++[x]):=hC.at
      obtain ⟨t,ht⟩:=h.pre j hj;rw[ht,List.append_assoc]at h1;have h2:=At.prefix h1;rw[hz]at h2
      exact h2.block fun z hz2=>by cases hz2;exact hset _ (h.dt j _ hj hz).2
     have h1:=h.lie j hj;rw[ha]at h1
     refine h1.block fun z hz2=>?_
     cases hz2
     rw[hset _ (h.dt j _ hj hz).2]
     rw[hgr.block _ (by have:=(hDlt j _ hj hz).2;omega) (fun e=>by
      obtain ⟨⟨y2,hy2,e2⟩,e3⟩:=hrow _ e.symm;have:=hDlt j y2 hj hy2;rw[hz']at e3;rw[<- e3]at hy2
      cases hy2
      omega)]
     exact Below.heap_alloc wr o _ (hDlt j _ hj hz).2
    have h1:=h.lie j hj;rw[ha]at h1
    refine h1.block fun z hz2=>?_
    cases hz2
    have halt:=h.alt j _ hj ha;rw[hset _ halt.2]
    exact hblk _ halt.1 fun z hz ez=>hin ⟨z,hz,ez⟩
  refine (h.lie j hj).block fun y hy=>?_
  have halt:=h.alt j _ hj hy;rw[hset _ halt.2]
  exact hblk _ halt.1 fun z hz ez=>h.ad j i y z hj hi e hy hz ez.symm
 ·rw [World.cell?_of_block (w:=w2) (w':=w2.setCell ⟨H,i,none⟩ _) (a:=⟨G,off+j,none⟩) (hset G h.gh.1),World.cell?_of_block (w:=wr) (w':=w2) (a:=⟨G,off+j,none⟩) (hblk G h.gh.2 fun y hy=>(h.dt i y hi hy).1)]
  exact h.tab j hj
 ·refine (hrowsH.set i _).congr fun j hj=>?_
  by_cases e:j=i
  ·subst e
   rw[if_pos rfl,yN,yN,yN];simp
  rw[if_neg e,yZ e,yZ e,yZ e]
 ·by_cases e:j=i
  ·subst e
   obtain ⟨t,ht⟩:=h.pre j hj;rw[yN];exact ⟨t++[x],by rw[ht,List.append_assoc]⟩
  rw[yZ e];exact h.pre j hj
 ·intro j k y z hj hk hjk hy hz
  by_cases e1:j=i
  ·subst e1
   rw[yN]at hy;rw[yZ (Ne.symm hjk)]at hz
   rcases hd with rfl|⟨y',rfl,hlt⟩
   ·exact h.dd j k y z hj hk hjk hy hz
   cases hy
   have:=hDlt k z hk hz;omega
  rw[yZ e1]at hy
  by_cases e2:k=i
  ·subst e2
   rw[yN]at hz
   rcases hd with rfl|⟨y',rfl,hlt⟩
   ·exact h.dd j k y z hj hk hjk hy hz
   cases hz
   have:=hDlt j y hj hy;omega
  rw[yZ e2]at hz;exact h.dd j k y z hj hk hjk hy hz
 ·intro j k y z hj hk hjk hy hz
  by_cases e2:k=i
  ·subst e2
   rw[yN]at hz
   rcases hd with rfl|⟨y',rfl,hlt⟩
   ·exact h.ad j k y z hj hk hjk hy hz
   cases hz
   have:=h.alt j y hj hy;omega
  rw[yZ e2]at hz;exact h.ad j k y z hj hk hjk hy hz
 ·intro j y z hj hy hz e
  by_cases e2:j=i
  ·subst e2
   rw[yN]at hz
   rcases hd with rfl|⟨y',rfl,hlt⟩
   ·exact h.aa j y z hj hy hz e
   cases hz
   have:=h.alt j y hj hy;omega
  rw[yZ e2]at hz;exact h.aa j y z hj hy hz e
 ·intro j y hj hy
  by_cases e2:j=i
  ·subst e2
   rw[yN]at hy;exact ⟨(hdH y hy).2,(hdH y hy).1⟩
  rw[yZ e2]at hy;exact h.dt j y hj hy
 ·have:=h.alt j y hj hy
  rw[hsame];exact ⟨by omega,this.2⟩
 ·rw [hsame]
  exact ⟨h.gh.1,by have:=h.gh.2;omega⟩
 ·intro j y hj hy
  by_cases e2:j=i
  ·subst e2
   rw[yN]at hy
   rcases hd with rfl|⟨z,rfl,hz⟩
   ·exact h.dn j y hj hy
   cases hy
   have:=h.bel.1.size;exact .inr (by omega)
  rw[yZ e2]at hy;exact h.dn j y hj hy
 have h1:Below B w w2:=(h.bel.1.alloc (by omega) o).grown hgr (by omega) (fun k hk=>by
  obtain ⟨⟨y,hy,e⟩,-⟩:=hrow k hk;have:=hDlt i y hi hy
  omega)
 refine ⟨h1.setCell (p:=⟨H,i,none⟩) h.low _,fun q q1 q2 q3=>?_⟩
 rw[hset q q2,hblk q (by have:=h.bel.1.size;omega) (fun y hy e=>?_)]
 ·exact h.bel.2 q q1 q2 q3
 rcases h.dn i y hi hy with h2|h2
 ·exact q3 i y hi h2 e
 omega
end Go.Proofs.YtpohmekkdjdhmaaGreat
namespace Go.Proofs.YtpohmekkdjdhmaaGreat
open Go.RowKit
structure NA where
 f:Int
 t:Int
 g:Int
 k:Int
 s:Int
structure NN where
 nodes:Int
 arcs:List NA
def zU (L:List NA) (i:Nat):NA:=L.getD i ⟨0,0,0,0,0⟩
def pI (m:Int) (a:NA):Int:=
 if a.f<0\/m<=a.f\/a.t<0\/m<=a.t then 100 else if a.g<1\/64<a.g\/a.k<1\/64<a.k then 101 else if a.s<0\/256<a.s then 88 else 0
def kB (m:Int):List NA->Int
 |[]=>0
 |a::L=>if pI m a=0 then kB m L else pI m a
def zN (n:NN):Int:=if n.nodes<1\/32<n.nodes then 100 else if 96<n.arcs.length then 81 else kB n.nodes n.arcs
theorem MA (a:NA) (L:List NA):zU (a::L) 0=a:=rfl
theorem fU {m:Int} :∀ {L:List NA},(∀ i,i<L.length->pI m (zU L i)=0)->kB m L=0
 |[],_=>rfl
 |a::L,h=>by
  unfold kB;rw[if_pos (show pI m a=0 from h 0 (Nat.succ_pos _))]
  exact fU fun i hi=>h (i+1) (Nat.succ_lt_succ hi)
theorem YG {m:Int} :∀ {L:List NA} {i:Nat},i<L.length->(∀ j,j<i->pI m (zU L j)=0)->pI m (zU L i)≠0->kB m L=pI m (zU L i)
 |[],i,hi,_,_=>absurd hi (Nat.not_lt_zero _)
 |a::L,0,_,_,h=>by unfold kB;rw[MA]at h ⊢;rw[if_neg h]
 |a::L,i+1,hi,hb,h=>by
  unfold kB;rw[if_pos (show pI m a=0 from hb 0 (Nat.succ_pos _))];exact YG (Nat.lt_of_succ_lt_succ hi) (fun j hj=>hb (j+1) (Nat.succ_lt_succ hj)) h
theorem YF {m:Int} :∀ {L:List NA},kB m L=0->∀i,i<L.length->pI m (zU L i)=0
 |[],_,i,hi=>absurd hi (Nat.not_lt_zero _)
 |a::L,h,i,hi=>by
  unfold kB at h
  by_cases h0:pI m a=0
  ·rw [if_pos h0]at h
   cases i with
   |zero=>exact h0
   |succ i=>exact YF h i (Nat.lt_of_succ_lt_succ hi)
  rw[if_neg h0]at h;exact absurd h h0
structure bZ (m : Int) (a : NA) : Prop where
 f:0<=a.f/\a.f<m
 t:0<=a.t/\a.t<m
 g:1<=a.g/\a.g<=64
 k:1<=a.k/\a.k<=64
 s:0<=a.s/\a.s<=256
structure yI (n : NN) : Prop where
 nodes:1<=n.nodes/\n.nodes<=32
 most:n.arcs.length<=96
 arcs:∀i,i<n.arcs.length->bZ n.nodes (zU n.arcs i)
theorem CS {m:Int} {a:NA} (h:pI m a=0):bZ m a:=by
 unfold pI at h
 split at h
 ·exact qD h
 split at h
 ·exact qD h
 split at h
 ·exact qD h
 exact ⟨by omega,by omega,by omega,by omega,by omega⟩
theorem zB {n:NN} (h:zN n=0):yI n:=by
 unfold zN at h
 split at h
 ·exact qD h
 split at h
 ·exact qD h
 exact ⟨by omega,by omega,fun i hi=>CS (YF h i hi)⟩
def yT (p:NA->Bool) (A:List NA) (q:Nat):List Int:=((List.range q).filter fun j=>p (zU A j)).map Int.ofNat
def lR (v:Int) (a:NA):Bool:=decide (a.t=v)
def wO (v:Int) (a:NA):Bool:=decide (a.f=v)
def yR (n:NN) (v:Int):List Int:=yT (lR v) n.arcs n.arcs.length
def xW (n:NN) (v:Int):List Int:=yT (wO v) n.arcs n.arcs.length
theorem oW {p:NA->Bool} {A:List NA} {q:Nat} (h:p (zU A q)=true):yT p A (q+1)=yT p A q++[(q:Int)]:=by
 simp[yT,List.range_succ,h]
theorem iQ {p:NA->Bool} {A:List NA} {q:Nat} (h:p (zU A q)=false):yT p A (q+1)=yT p A q:=by
 simp[yT,List.range_succ,h]
theorem mU (p:NA->Bool) (A:List NA) (q:Nat):(yT p A q).length<=q:=by
 have:=List.length_filter_le (fun j=>p (zU A j)) (List.range q);simp only[List.length_range]at this
 simpa [yT] using this
theorem vB {p:NA->Bool} {A:List NA} :∀ {q k:Nat},k<(yT p A q).length->∃i:Nat,zS (yT p A q) k=(i:Int)/\i<q/\p (zU A i)=true
 |0,k,h=>absurd h (Nat.not_lt_zero _)
 |q+1,k,h=>by
  cases hp:p (zU A q) with
  |false=>
   rw[iQ hp]at h ⊢;obtain ⟨i,h1,h2,h3⟩:=vB h;exact ⟨i,h1,by omega,h3⟩
  |true=>
   rw[oW hp]at h ⊢
   by_cases hk:k<(yT p A q).length
   ·obtain ⟨i,h1,h2,h3⟩:=vB hk
    refine ⟨i,?_,by omega,h3⟩
    rw[<- h1];unfold zS;rw[List.getD_eq_getElem?_getD,List.getD_eq_getElem?_getD,List.getElem?_append_left hk]
   have e:k=(yT p A q).length:=by simp at h;omega
   subst e;exact ⟨q,by unfold zS;simp,by omega,hp⟩
theorem lQ {p:NA->Bool} {A:List NA} :∀ {q j k:Nat},j<k->k<(yT p A q).length->zS (yT p A q) j<zS (yT p A q) k
 |0,_,_,_,h=>absurd h (Nat.not_lt_zero _)
 |q+1,j,k,hj,h=>by
  cases hp:p (zU A q) with
  |false=>
   rw[iQ hp]at h ⊢;exact lQ hj h
  |true=>
   rw[oW hp]at h ⊢
   by_cases hk:k<(yT p A q).length
   ·have:=lQ (p:=p) (A:=A) (q:=q) hj hk
    unfold zS at this ⊢;rw[List.getD_eq_getElem?_getD,List.getD_eq_getElem?_getD]at this ⊢;rw[List.getElem?_append_left hk,List.getElem?_append_left (by omega)];exact this
   have e:k=(yT p A q).length:=by simp at h;omega
   subst e;obtain ⟨i,h1,h2,_⟩:=vB (p:=p) (A:=A) (q:=q) hj
   have e1:zS (yT p A q++[(q:Int)]) j=zS (yT p A q) j:=by
    unfold zS;rw[List.getD_eq_getElem?_getD,List.getD_eq_getElem?_getD,List.getElem?_append_left hj]
   have e2:zS (yT p A q++[(q:Int)]) (yT p A q).length=(q:Int):=by unfold zS;simp
   rw[e1,e2,h1];omega
theorem bY {p:NA->Bool} {A:List NA} :∀ {q i:Nat},i<q->p (zU A i)=true->∃k,k<(yT p A q).length/\zS (yT p A q) k=(i:Int)
 |0,_,h,_=>absurd h (Nat.not_lt_zero _)
 |q+1,i,h,hi=>by
  by_cases e:i=q
  ·subst e
   rw[oW hi];exact ⟨(yT p A i).length,by simp,by unfold zS;simp⟩
  obtain ⟨k,h1,h2⟩:=bY (p:=p) (A:=A) (q:=q) (i:=i) (by omega) hi
  cases hp:p (zU A q) with
  |false=>rw[iQ hp];exact ⟨k,h1,h2⟩
  |true=>
   rw[oW hp];refine ⟨k,by simp;omega,?_⟩
   rw[<- h2];unfold zS;rw[List.getD_eq_getElem?_getD,List.getD_eq_getElem?_getD,List.getElem?_append_left h1]
def sY (A:List NA) (T:List Int) (i:Int):Bool:=decide (zS T i.toNat<(zU A i.toNat).k)
def uK (A:List NA) (T:List Int):List Int->Int
 |[]=> -1
 |i::R=>if sY A T i=true then i else uK A T R
def xT (n:NN) (v:Int):Bool:=decide (0<=v/\v<n.nodes)
def xQ (n:NN) (T:List Int) (v:Int):Int:=if xT n v=true then uK n.arcs T (yR n v) else -1
def wI (n:NN) (T:List Int) (v:Int):Bool:=xT n v&&decide (uK n.arcs T (yR n v)= -1)
theorem bX {A:List NA} {T:List Int} :∀ {R:List Int} {k:Nat},k<R.length->(∀ j,j<k->sY A T (zS R j)=false)->sY A T (zS R k)=true->uK A T R=zS R k
 |[],k,hk,_,_=>absurd hk (Nat.not_lt_zero _)
 |x::R,0,_,_,h=>by unfold uK;exact if_pos h
 |x::R,k+1,hk,hb,h=>by
  unfold uK;rw[if_neg (by rw[show sY A T x=false from hb 0 (Nat.succ_pos _)];decide)];exact bX (Nat.lt_of_succ_lt_succ hk) (fun j hj=>hb (j+1) (Nat.succ_lt_succ hj)) h
theorem jM {A:List NA} {T:List Int} :∀ {R:List Int},(∀ j,j<R.length->sY A T (zS R j)=false)->uK A T R= -1
 |[],_=>rfl
 |x::R,h=>by
  unfold uK;rw[if_neg (by rw[show sY A T x=false from h 0 (Nat.succ_pos _)];decide)]
  exact jM fun j hj=>h (j+1) (Nat.succ_lt_succ hj)
theorem RQ {A:List NA} {T:List Int} :∀ {R:List Int},(∀ k,k<R.length->0<=zS R k)->uK A T R= -1->∀j,j<R.length->sY A T (zS R j)=false
 |[],_,_,j,hj=>absurd hj (Nat.not_lt_zero _)
 |x::R,h0,h,j,hj=>by
  unfold uK at h
  split at h
  ·have:=h0 0 (Nat.succ_pos _)
   have e:zS (x::R) 0=x:=rfl;omega
  rename_i hx
  cases j with
  |zero=>exact Bool.eq_false_iff.2 hx
  |succ j=>exact RQ (fun k hk=>h0 (k+1) (Nat.succ_lt_succ hk)) h j (Nat.lt_of_succ_lt_succ hj)
def uJ (A:List NA) (R T:List Int):Nat->List Int
 |0=>T
 |q+1=>(uJ A R T q).set (zS R q).toNat (wrap64 (zS (uJ A R T q) (zS R q).toNat-(zU A (zS R q).toNat).k))
def uI (A:List NA) (R T:List Int):Nat->List Int
 |0=>T
 |q+1=>(uI A R T q).set (zS R q).toNat (wrap64 (zS (uI A R T q) (zS R q).toNat+(zU A (zS R q).toNat).g))
theorem lP (A:List NA) (R T:List Int):∀q,(uJ A R T q).length=T.length
 |0=>rfl
 |q+1=>by unfold uJ;rw[List.length_set];exact lP A R T q
theorem fT (A:List NA) (R T:List Int):∀q,(uI A R T q).length=T.length
 |0=>rfl
 |q+1=>by unfold uI;rw[List.length_set];exact fT A R T q
def xS (F:List Int) (v:Int):List Int:=F.set v.toNat (wrap64 (zS F v.toNat+1))
def wN (n:NN) (T:List Int) (v:Int):List Int:=uI n.arcs (xW n v) (uJ n.arcs (yR n v) T (yR n v).length) (xW n v).length
def xZ (n:NN):List Int->List Int->List Int->Nat × List Int × List Int
 |[],T,F=>(0,T,F)
 |v::R,T,F=>if wI n T v=true then ((xZ n R (wN n T v) (xS F v)).1+1,(xZ n R (wN n T v) (xS F v)).2) else (0,T,F)
theorem zXA (n:NN) (T:List Int) (v:Int):(wN n T v).length=T.length:=by unfold wN;rw[fT,lP]
theorem zWZ (F:List Int) (v:Int):(xS F v).length=F.length:=List.length_set
theorem fS (x:Int): -9223372036854775808<=wrap64 x/\wrap64 x<=9223372036854775807:=by unfold wrap64;omega
theorem vZ {x:Int} (h: -9223372036854775808<=x/\x<=9223372036854775807):wrap64 x=x:=by unfold wrap64;omega
theorem RP {xs:List Int} {k:Nat} {x:Int} (h:cQ xs) (hx: -9223372036854775808<=x/\x<=9223372036854775807):cQ (xs.set k x):=by
 intro j
 by_cases hk:k<xs.length
 ·by_cases e:k=j
  ·subst e;rw[sB hk];exact hx
  rw[rZ e];exact h j
 rw[List.set_eq_of_length_le (by omega)];exact h j
theorem YE {A:List NA} {R T:List Int} (hpos:∀k,k<R.length->0<=zS R k) (hr:∀j k,j<k->k<R.length->zS R j<zS R k):∀q,q<=R.length->∀i,i<T.length->zS (uJ A R T q) i=if (∃ p,p<q/\zS R p=(i:Int)) then wrap64 (zS T i-(zU A i).k) else zS T i
 |0,_,i,_=>by rw[if_neg (fun ⟨p,hp,_⟩=>by omega)];rfl
 |q+1,hq,i,hi=>by
  have ih:=YE (A:=A) (T:=T) hpos hr q (by omega);have h0:=hpos q (by omega);show zS ((uJ A R T q).set (zS R q).toNat _) i=_
  by_cases e:(zS R q).toNat=i
  ·have e2:zS R q=(i:Int):=by omega
   rw[e,sB (by rw[lP];exact hi),ih i hi,if_neg (fun ⟨p,hp,hpe⟩=>by have:=hr p q hp (by omega);omega),if_pos ⟨q,by omega,e2⟩]
  rw[rZ e,ih i hi]
  by_cases hx:∃p,p<q/\zS R p=(i:Int)
  ·rw [if_pos hx,if_pos (by obtain ⟨p,hp,h⟩:=hx;exact ⟨p,by omega,h⟩)]
  rw[if_neg hx,if_neg (fun ⟨p,hp,h⟩=>by
   by_cases ep:p=q
   ·subst ep;omega
   exact hx ⟨p,by omega,h⟩)]
theorem YD {A:List NA} {R T:List Int} (hpos:∀k,k<R.length->0<=zS R k) (hr:∀j k,j<k->k<R.length->zS R j<zS R k):∀q,q<=R.length->∀i,i<T.length->zS (uI A R T q) i=if (∃ p,p<q/\zS R p=(i:Int)) then wrap64 (zS T i+(zU A i).g) else zS T i
 |0,_,i,_=>by rw[if_neg (fun ⟨p,hp,_⟩=>by omega)];rfl
 |q+1,hq,i,hi=>by
  have ih:=YD (A:=A) (T:=T) hpos hr q (by omega);have h0:=hpos q (by omega);show zS ((uI A R T q).set (zS R q).toNat _) i=_
  by_cases e:(zS R q).toNat=i
  ·have e2:zS R q=(i:Int):=by omega
   rw[e,sB (by rw[fT];exact hi),ih i hi,if_neg (fun ⟨p,hp,hpe⟩=>by have:=hr p q hp (by omega);omega),if_pos ⟨q,by omega,e2⟩]
  rw[rZ e,ih i hi]
  by_cases hx:∃p,p<q/\zS R p=(i:Int)
  ·rw [if_pos hx,if_pos (by obtain ⟨p,hp,h⟩:=hx;exact ⟨p,by omega,h⟩)]
  rw[if_neg hx,if_neg (fun ⟨p,hp,h⟩=>by
   by_cases ep:p=q
   ·subst ep;omega
   exact hx ⟨p,by omega,h⟩)]
theorem GN {p:NA->Bool} {A:List NA} {q i:Nat} (hi:i<q):(∃ k,k<(yT p A q).length/\zS (yT p A q) k=(i:Int))↔p (zU A i)=true:=by
 constructor
 ·rintro ⟨k,hk,e⟩
  obtain ⟨j,h1,h2,h3⟩:=vB hk
  have:j=i:=by omega
  subst this;exact h3
 exact fun h=>bY hi h
theorem bW {p:NA->Bool} {A:List NA} {q:Nat} :∀k,k<(yT p A q).length->0<=zS (yT p A q) k:=fun k hk=>by
 obtain ⟨j,h1,_,_⟩:=vB hk;omega
def LZ (a:NA) (v:Int) (x:Int):Int:=if a.f=v then wrap64 ((if a.t=v then wrap64 (x-a.k) else x)+a.g) else if a.t=v then wrap64 (x-a.k) else x
theorem zWY {n:NN} {T:List Int} {v:Int} (hT:T.length=n.arcs.length) {i:Nat} (hi:i<T.length):zS (wN n T v) i=LZ (zU n.arcs i) v (zS T i):=by
 have hr1:∀j k,j<k->k<(yR n v).length->zS (yR n v) j<zS (yR n v) k:=fun j k h1 h2=>lQ h1 h2
 have hr2:∀j k,j<k->k<(xW n v).length->zS (xW n v) j<zS (xW n v) k:=fun j k h1 h2=>lQ h1 h2
 have a1:(∃ p,p<(yR n v).length/\zS (yR n v) p=(i:Int))↔(zU n.arcs i).t=v:=by
  refine (GN (by omega)).trans ?_
  unfold lR;exact decide_eq_true_iff
 have a2:(∃ p,p<(xW n v).length/\zS (xW n v) p=(i:Int))↔(zU n.arcs i).f=v:=by
  refine (GN (by omega)).trans ?_
  unfold wO;exact decide_eq_true_iff
 unfold wN LZ;have p1:∀k,k<(yR n v).length->0<=zS (yR n v) k:=bW;have p2:∀k,k<(xW n v).length->0<=zS (xW n v) k:=bW;rw[YD p2 hr2 _ (Nat.le_refl _) i (by rw[lP];exact hi),YE p1 hr1 _ (Nat.le_refl _) i hi];simp only[a1,a2]
theorem tJ {n:NN} {T:List Int} {v:Int} (h:wI n T v=true):xT n v=true:=by unfold wI at h;rw[Bool.and_eq_true]at h;exact h.1
theorem VG {n:NN} {T:List Int} {v:Int} (h:wI n T v=true) {i:Nat} (hi:i<n.arcs.length) (ht:(zU n.arcs i).t=v):(zU n.arcs i).k<=zS T i:=by
 unfold wI at h;rw[Bool.and_eq_true]at h;have h2:uK n.arcs T (yR n v)= -1:=of_decide_eq_true h.2;obtain ⟨k,hk,e⟩:=bY (p:=lR v) (A:=n.arcs) (q:=n.arcs.length) hi (by unfold lR;exact decide_eq_true ht);have h3:=RQ (A:=n.arcs) (T:=T) (R:=yR n v) bW h2 k hk;have e':zS (yR n v) k=(i:Int):=e;rw[e']at h3;unfold sY at h3;rw[Int.toNat_natCast]at h3;have:=of_decide_eq_false h3;omega
theorem zOC {n:NN} {T:List Int} {v:Int} (hv:xT n v=true) (h:∀i,i<n.arcs.length->(zU n.arcs i).t=v->(zU n.arcs i).k<=zS T i):wI n T v=true:=by
 unfold wI;rw[hv,Bool.true_and];refine decide_eq_true (jM fun j hj=>?_)
 obtain ⟨i,h1,h2,h3⟩:=vB (p:=lR v) (A:=n.arcs) (q:=n.arcs.length) hj;have e:zS (yR n v) j=(i:Int):=h1;rw[e];unfold sY;rw[Int.toNat_natCast];refine decide_eq_false ?_
 have:=h i h2 (of_decide_eq_true h3);omega
structure RM (n : NN) (b : Int) (T : List Int) : Prop where
 len:T.length=n.arcs.length
 few:∀i,i<n.arcs.length->0<=zS T i/\zS T i<=b
theorem RM.more {n:NN} {b b':Int} {T:List Int} (h:RM n b T) (hb:b<=b'):RM n b' T:=⟨h.len,fun i hi=>by have:=h.few i hi;omega⟩
theorem bV {n:NN} {T:List Int} {v b:Int} (hS:yI n) (h:RM n b T) (hb:b<=4611686018427387904) (hm:wI n T v=true) {i:Nat} (hi:i<n.arcs.length):
 zS (wN n T v) i=zS T i-(if (zU n.arcs i).t=v then (zU n.arcs i).k else 0)+(if (zU n.arcs i).f=v then (zU n.arcs i).g else 0):=by
 have h1:=h.few i hi;have hs:=hS.arcs i hi;have hk:=hs.k;have hg:=hs.g;rw[zWY h.len (by rw[h.len];exact hi)];unfold LZ
 by_cases e1:(zU n.arcs i).t=v
 ·have h2:=VG hm hi e1
  by_cases e2:(zU n.arcs i).f=v
  ·rw [if_pos e2,if_pos e1,if_pos e1,if_pos e2,vZ (x:=zS T i-_) (by omega),vZ (by omega)]
  rw[if_neg e2,if_pos e1,if_pos e1,if_neg e2,vZ (by omega)];omega
 by_cases e2:(zU n.arcs i).f=v
 ·rw [if_pos e2,if_neg e1,if_neg e1,if_pos e2,vZ (by omega)];omega
 rw[if_neg e2,if_neg e1,if_neg e1,if_neg e2];omega
theorem zWX {n:NN} {T:List Int} {v b:Int} (hS:yI n) (h:RM n b T) (hb:b<=4611686018427387904) (hm:wI n T v=true):RM n (b+64) (wN n T v):=by
 refine ⟨by rw[zXA];exact h.len,fun i hi=>?_⟩
 rw[bV hS h hb hm hi];have h1:=h.few i hi;have hs:=hS.arcs i hi;have hk:=hs.k;have hg:=hs.g
 by_cases e1:(zU n.arcs i).t=v
 ·have h2:=VG hm hi e1
  rw[if_pos e1]
  split<;>omega
 rw[if_neg e1]
 split<;>omega
theorem CP {n:NN} (hS:yI n) {T:List Int} (hT:T=n.arcs.map NA.s):RM n 256 T:=by
 subst hT;refine ⟨List.length_map _,fun i hi=>?_⟩
 have e:zS (n.arcs.map NA.s) i=(zU n.arcs i).s:=by
  unfold zS zU;rw[List.getD_eq_getElem?_getD,List.getD_eq_getElem?_getD,List.getElem?_map,List.getElem?_eq_getElem hi];rfl
 rw[e];exact (hS.arcs i hi).s
theorem iP {xs ys:List Int} (hl:xs.length=ys.length) (h:∀i,i<xs.length->zS xs i=zS ys i):xs=ys:=by
 apply List.ext_getElem hl
 intro i h1 h2;have:=h i h1;unfold zS at this;rw[List.getD_eq_getElem?_getD,List.getD_eq_getElem?_getD,List.getElem?_eq_getElem h1,List.getElem?_eq_getElem h2]at this;exact this
theorem lN (n:NN) (T F:List Int) (v:Int):xZ n [v] T F=if wI n T v=true then (1,wN n T v,xS F v) else (0,T,F):=by
 show (if wI n T v=true then _ else _)=_
 split<;>rfl
def nY (F:List Int):List Int->List Int
 |[]=>F
 |v::R=>nY (xS F v) R
theorem bU:∀(R F:List Int) (v:Int),nY F (R++[v])=xS (nY F R) v
 |[],_,_=>rfl
 |x::R,F,v=>bU R (xS F x) v
theorem eD (n:NN):∀(zs T F:List Int),(xZ n zs T F).2.2=nY F (zs.take (xZ n zs T F).1)/\∀j,j<(xZ n zs T F).1->xT n (zS zs j)=true
 |[],T,F=>⟨rfl,fun j hj=>absurd hj (Nat.not_lt_zero _)⟩
 |v::R,T,F=>by
  have ec:xZ n (v::R) T F=if wI n T v=true then ((xZ n R (wN n T v) (xS F v)).1+1,(xZ n R (wN n T v) (xS F v)).2) else (0,T,F):=rfl;rw[ec]
  cases hm:wI n T v with
  |false=>exact ⟨rfl,fun j hj=>absurd hj (Nat.not_lt_zero _)⟩
  |true=>
   obtain ⟨h1,h2⟩:=eD n R (wN n T v) (xS F v);rw[if_pos rfl];refine ⟨?_,fun j hj=>?_⟩
   ·show _=nY F ((v::R).take (_+1))
    rw[List.take_succ_cons];exact h1
   cases j with
   |zero=>exact tJ hm
   |succ j=>exact h2 j (Nat.lt_of_succ_lt_succ hj)
theorem YC {zs:List Int} {j:Nat} (h:j<zs.length):zs.take (j+1)=zs.take j++[zS zs j]:=by
 rw[List.take_add_one,List.getElem?_eq_getElem h];unfold zS;rw[List.getD_eq_getElem?_getD,List.getElem?_eq_getElem h];rfl
structure eC (n : NN) (m : Int) (T F : List Int) : Prop where
 few:RM n (256+64*m) T
 lF:F.length=n.nodes.toNat
 fs:∀v,v<n.nodes.toNat->0<=zS F v/\zS F v<=m
 eq:∀i,i<n.arcs.length->zS T i=(zU n.arcs i).s+(zU n.arcs i).g*zS F (zU n.arcs i).f.toNat-(zU n.arcs i).k*zS F (zU n.arcs i).t.toNat
theorem eC.more {n:NN} {m m':Int} {T F:List Int} (h:eC n m T F) (hm:m<=m'):eC n m' T F:=⟨h.few.more (by omega),h.lF,fun v hv=>by have:=h.fs v hv;omega,h.eq⟩
theorem RJ {n:NN} (hS:yI n) {T:List Int} (hT:T=n.arcs.map NA.s):eC n 0 T (List.replicate n.nodes.toNat 0):=by
 have z:∀v,zS (List.replicate n.nodes.toNat (0:Int)) v=0:=fun v=>by
  unfold zS;rw[List.getD_eq_getElem?_getD]
  by_cases hk:v<n.nodes.toNat
  ·rw [List.getElem?_replicate,if_pos hk];rfl
  rw[List.getElem?_replicate,if_neg hk];rfl
 refine ⟨(CP hS hT).more (by omega),List.length_replicate,fun v _=>by rw[z];omega,fun i hi=>?_⟩
 subst hT
 have e:zS (n.arcs.map NA.s) i=(zU n.arcs i).s:=by
  unfold zS zU;rw[List.getD_eq_getElem?_getD,List.getD_eq_getElem?_getD,List.getElem?_map,List.getElem?_eq_getElem hi];rfl
 rw[e,z,z,Int.mul_zero,Int.mul_zero];omega
def tA (H:Nat->Nat) (x y:Nat):Nat->Nat:=fun v=>if H v=max x y then min x y else H v
def fN (A:List NA) (j:Nat):Nat:=(zU A j).f.toNat
def tN (A:List NA) (j:Nat):Nat:=(zU A j).t.toNat
def zQ (A:List NA):Nat->Nat->Nat
 |0=>fun v=>v
 |k+1=>if zQ A k (fN A k)=zQ A k (tN A k) then zQ A k else tA (zQ A k) (zQ A k (fN A k)) (zQ A k (tN A k))
def yJ (A:List NA):Nat->List Nat
 |0=>[]
 |k+1=>if zQ A k (fN A k)=zQ A k (tN A k) then yJ A k else yJ A k++[k]
theorem sM {A:List NA} {k:Nat} (h:zQ A k (fN A k)=zQ A k (tN A k)):zQ A (k+1)=zQ A k:=by
 show (if _ then _ else _)=_;rw[if_pos h]
theorem mT {A:List NA} {k:Nat} (h:¬zQ A k (fN A k)=zQ A k (tN A k)):zQ A (k+1)=tA (zQ A k) (zQ A k (fN A k)) (zQ A k (tN A k)):=by
 show (if _ then _ else _)=_;rw[if_neg h]
theorem tX {A:List NA} {k:Nat} (h:zQ A k (fN A k)=zQ A k (tN A k)):yJ A (k+1)=yJ A k:=by
 show (if _ then _ else _)=_;rw[if_pos h]
theorem rY {A:List NA} {k:Nat} (h:¬zQ A k (fN A k)=zQ A k (tN A k)):yJ A (k+1)=yJ A k++[k]:=by
 show (if _ then _ else _)=_;rw[if_neg h]
theorem uX {A:List NA} :∀ {k j:Nat},j ∈ yJ A k->j<k
 |0,j,h=>by cases h
 |k+1,j,h=>by
  by_cases e:zQ A k (fN A k)=zQ A k (tN A k)
  ·rw [tX e]at h;exact Nat.lt_succ_of_lt (uX h)
  rw[rY e]at h
  rcases List.mem_append.1 h with h|h
  ·exact Nat.lt_succ_of_lt (uX h)
  rw[List.mem_singleton.1 h];exact Nat.lt_succ_self _
theorem tR {A:List NA} :∀ {k v:Nat},zQ A k v<=v
 |0,v=>Nat.le_refl _
 |k+1,v=>by
  have h:=tR (A:=A) (k:=k) (v:=v)
  by_cases e:zQ A k (fN A k)=zQ A k (tN A k)
  ·rw [sM e];exact h
  rw[mT e];unfold tA;split<;>omega
theorem oV {A:List NA} :∀ {k v:Nat},zQ A k (zQ A k v)=zQ A k v
 |0,v=>rfl
 |k+1,v=>by
  have h:=@oV A k
  by_cases e:zQ A k (fN A k)=zQ A k (tN A k)
  ·rw [sM e];exact h
  rw[mT e];generalize hx:zQ A k (fN A k)=x at *;generalize hy:zQ A k (tN A k)=y at *
  have ix:zQ A k x=x:=by rw[<- hx];exact h
  have iy:zQ A k y=y:=by rw[<- hy];exact h
  unfold tA
  by_cases q:zQ A k v=max x y
  ·rw [if_pos q]
   rcases Nat.le_total x y with l|l
   ·rw [Nat.min_eq_left l,Nat.max_eq_right l,ix,if_neg e]
   rw[Nat.min_eq_right l,Nat.max_eq_left l,iy,if_neg (fun q=>e q.symm)]
  rw[if_neg q,h,if_neg q]
def dC (A:List NA) (x:Nat × Bool):Nat:=if x.2 then tN A x.1 else fN A x.1
def TD (A:List NA) (x:Nat × Bool):Nat:=if x.2 then fN A x.1 else tN A x.1
def rC (A:List NA) (T:List Nat):Nat->List (Nat × Bool)->Nat->Prop
 |s,[],t=>s=t
 |s,x::W,t=>x.1 ∈ T/\dC A x=s/\rC A T (TD A x) W t
def mS:Option Nat->List (Nat × Bool)->Prop
 |_,[]=>True
 |c,x::W=>c≠some x.1/\mS (some x.1) W
theorem rC.mono {A:List NA} {T T':List Nat} (hT:∀j,j ∈ T->j ∈ T'):∀ {W:List (Nat × Bool)} {s t:Nat},rC A T s W t->rC A T' s W t
 |[],_,_,h=>h
 |_::_,_,_,h=>⟨hT _ h.1,h.2.1,rC.mono hT h.2.2⟩
theorem rC.append {A:List NA} {T:List Nat} {u:Nat} :∀ {W V:List (Nat × Bool)} {s t:Nat},rC A T s W t->rC A T t V u->rC A T s (W++V) u
 |[],_,_,_,h,k=>by cases h;exact k
 |_::_,_,_,_,h,k=>⟨h.1,h.2.1,rC.append h.2.2 k⟩
theorem rC.split {A:List NA} {T:List Nat} {u:Nat} :∀ {W V:List (Nat × Bool)} {s:Nat},rC A T s (W++V) u->∃t,rC A T s W t/\rC A T t V u
 |[],_,s,h=>⟨s,rfl,h⟩
 |_::W,_,_,h=>by
  obtain ⟨t,h1,h2⟩:=rC.split (W:=W) h.2.2;exact ⟨t,⟨h.1,h.2.1,h1⟩,h2⟩
theorem rC.only {A:List NA} {T T':List Nat} :∀ {W:List (Nat × Bool)} {s t:Nat},rC A T s W t->(∀ x,x ∈ W->x.1 ∈ T')->rC A T' s W t
 |[],_,_,h,_=>h
 |x::_,_,_,h,hk=>⟨hk x (List.mem_cons_self ..),h.2.1,rC.only h.2.2 (fun y hy=>hk y (List.mem_cons_of_mem _ hy))⟩
theorem rC.mem {A:List NA} {T:List Nat} :∀ {W:List (Nat × Bool)} {s t:Nat},rC A T s W t->∀x,x ∈ W->x.1 ∈ T
 |[],_,_,_,x,hx=>by cases hx
 |_::_,_,_,h,x,hx=>by
  rcases List.mem_cons.1 hx with rfl|hx
  ·exact h.1
  exact rC.mem h.2.2 x hx
theorem mS.weak:∀ {W:List (Nat × Bool)} {c:Option Nat},mS c W->mS none W
 |[],_,_=>trivial
 |_::_,_,h=>⟨(fun e=>by cases e),h.2⟩
def GM:Option Nat->List (Nat × Bool)->Option Nat
 |c,[]=>c
 |_,x::W=>GM (some x.1) W
theorem mS.split:∀ {W V:List (Nat × Bool)} {c:Option Nat},mS c (W++V)->mS c W/\mS (GM c W) V
 |[],_,_,h=>⟨trivial,h⟩
 |_::W,_,_,h=>⟨⟨h.1,(mS.split (W:=W) h.2).1⟩,(mS.split (W:=W) h.2).2⟩
theorem mS.append:∀ {W V:List (Nat × Bool)} {c:Option Nat},mS c W->mS (GM c W) V->mS c (W++V)
 |[],_,_,_,h=>h
 |_::_,_,_,h,k=>⟨h.1,mS.append h.2 k⟩
theorem YB:∀ {W:List (Nat × Bool)} {c:Option Nat} {j:Nat},GM c W=some j->c=some j\/∃x,x ∈ W/\x.1=j
 |[],_,_,h=>.inl h
 |x::W,_,j,h=>by
  rcases YB (W:=W) h with e|⟨y,hy,e⟩
  ·cases e;exact .inr ⟨x,List.mem_cons_self ..,rfl⟩
  exact .inr ⟨y,List.mem_cons_of_mem _ hy,e⟩
theorem jL (k:Nat):∀(W:List (Nat × Bool)),(∀ x,x ∈ W->x.1≠k)\/∃X x Y,W=X++x::Y/\x.1=k/\∀y,y ∈ X->y.1≠k
 |[]=>.inl fun x hx=>by cases hx
 |z::W=>by
  by_cases e:z.1=k
  ·exact .inr ⟨[],z,W,rfl,e,fun y hy=>by cases hy⟩
  rcases jL k W with h|⟨X,x,Y,h1,h2,h3⟩
  ·refine .inl fun x hx=>?_
   rcases List.mem_cons.1 hx with rfl|hx
   ·exact e
   exact h x hx
  refine .inr ⟨z::X,x,Y,by rw[h1];rfl,h2,fun y hy=>?_⟩
  rcases List.mem_cons.1 hy with rfl|hy
  ·exact e
  exact h3 y hy
structure ForF (A : List NA) (k : Nat) : Prop where
 ends:∀j,j<k->zQ A k (fN A j)=zQ A k (tN A j)
 flat:∀(W:List (Nat × Bool)) (s:Nat),W≠[]->rC A (yJ A k) s W s->mS none W->False
 way:∀s t,zQ A k s=zQ A k t->∃W,rC A (yJ A k) s W t/\mS none W
theorem oU {A:List NA} {k:Nat} (h:∀j,j<k->zQ A k (fN A j)=zQ A k (tN A j)):∀ {W:List (Nat × Bool)} {s t:Nat},rC A (yJ A k) s W t->zQ A k s=zQ A k t
 |[],_,_,e=>by rw[show _=_ from e]
 |(j,b)::W,s,t,e=>by
  have h1:=oU h e.2.2;have h2:=h j (uX e.1);have h3:=e.2.1
  cases b with
  |false=>rw[<- h3,<-h1];exact h2
  |true=>rw[<- h3,<-h1];exact h2.symm
theorem LY:∀(A:List NA) (k:Nat),ForF A k
 |A,0=>by
  refine ⟨fun j hj=>absurd hj (Nat.not_lt_zero _),fun W s hW h _=>?_,fun s t h=>⟨[],h,trivial⟩⟩
  cases W with
  |nil=>exact hW rfl
  |cons x W=>cases h.1
 |A,k+1=>by
  have ih:=LY A k
  by_cases e:zQ A k (fN A k)=zQ A k (tN A k)
  ·refine ⟨?_,?_,?_⟩
   ·intro j hj
    rw[sM e]
    by_cases q:j=k
    ·rw [q];exact e
    exact ih.ends j (by omega)
   ·rw [tX e];exact ih.flat
   rw[tX e,sM e];exact ih.way
  have hk:k ∉ yJ A k:=fun h=>Nat.lt_irrefl _ (uX h)
  have sub:∀ {W:List (Nat × Bool)} {s t:Nat},rC A (yJ A k++[k]) s W t->(∀ x,x ∈ W->x.1≠k)->rC A (yJ A k) s W t:=fun h hn=>h.only fun x hx=>by
   rcases List.mem_append.1 (h.mem x hx) with q|q
   ·exact q
   exact absurd (List.mem_singleton.1 q) (hn x hx)
  have up:∀ {W:List (Nat × Bool)} {s t:Nat},rC A (yJ A k) s W t->rC A (yJ A k++[k]) s W t:=fun h=>h.mono fun j hj=>List.mem_append_left _ hj
  have two:∀x:Nat × Bool,x.1=k->zQ A k (dC A x)≠zQ A k (TD A x):=fun x hx q=>by
   obtain ⟨j,b⟩:=x
   cases hx
   cases b with
   |false=>exact e q
   |true=>exact e q.symm
  refine ⟨?_,?_,?_⟩
  ·intro j hj
   rw[mT e];unfold tA
   by_cases q:j=k
   ·subst q
    rcases Nat.le_total (zQ A j (fN A j)) (zQ A j (tN A j)) with l|l
    ·rw [Nat.max_eq_right l,if_neg e,if_pos rfl,Nat.min_eq_left l]
    rw[Nat.max_eq_left l,if_pos rfl,if_neg (fun q=>e q.symm),Nat.min_eq_right l]
   rw[ih.ends j (by omega)]
  ·rw [rY e]
   intro W s hW hw hn
   rcases jL k W with h0|⟨X,x,Y,rfl,hx,hX⟩
   ·exact ih.flat W s hW (sub hw h0) hn
   obtain ⟨t1,w1,w2⟩:=hw.split;have n1:=(mS.split hn).1;have n2:=(mS.split hn).2
   rcases jL k Y with h0|⟨C,y,D,rfl,hy,hC⟩
   ·have q1:=oU ih.ends (sub w1 hX)
    have q2:=oU ih.ends (sub w2.2.2 h0);exact two x hx (by rw[w2.2.1,<-q1,q2])
   obtain ⟨t2,w3,w4⟩:=w2.2.2.split;have n3:=(mS.split n2.2).1;have n4:=(mS.split n2.2).2;have q3:=oU ih.ends (sub w3 hC);have q4:=w4.2.1
   have hCn:C≠[]:=fun q=>by
    subst q;exact n4.1 (by show some x.1=some y.1;rw[hx,hy])
   have hst:TD A x=t2:=by
    rw[<- q4]at q3 ⊢;obtain ⟨j1,b1⟩:=x;obtain ⟨j2,b2⟩:=y
    cases hx
    cases hy
    cases b1<;>cases b2
    ·exact absurd q3.symm e
    ·rfl
    ·rfl
    exact absurd q3 e
   subst hst;exact ih.flat C _ hCn (sub w3 hC) n3.weak
  rw[rY e,mT e];intro s t h;unfold tA at h
  by_cases q:zQ A k s=zQ A k t
  ·obtain ⟨W,h1,h2⟩:=ih.way s t q
   exact ⟨W,up h1,h2⟩
  have join:∀(b:Bool),zQ A k s=zQ A k (dC A (k,b))->zQ A k (TD A (k,b))=zQ A k t->∃W,rC A (yJ A k++[k]) s W t/\mS none W:=fun b h1 h2=>by
   obtain ⟨W1,v1,m1⟩:=ih.way _ _ h1;obtain ⟨W2,v2,m2⟩:=ih.way _ _ h2;refine ⟨W1++(k,b)::W2,(up v1).append ⟨List.mem_append_right _ (List.mem_singleton.2 rfl),rfl,up v2⟩,mS.append m1 ⟨fun q=>?_,?_⟩⟩
   ·rcases YB q with c|⟨z,hz,c⟩
    ·cases c
    have hm:=v1.mem z hz;rw[show z.1=k from c]at hm;exact hk hm
   cases W2 with
   |nil=>trivial
   |cons z W2=>exact ⟨fun q=>by have hm:=v2.1;rw[<- show k=z.1 from Option.some.inj q]at hm;exact hk hm,m2.2⟩
  have g1:∀(b:Bool),zQ A k s=zQ A k (dC A (k,b))/\zQ A k (TD A (k,b))=zQ A k t->∃W,rC A (yJ A k++[k]) s W t/\mS none W:=fun b h=>join b h.1 h.2
  have c1:(zQ A k s=zQ A k (fN A k)/\zQ A k (tN A k)=zQ A k t)\/(zQ A k s=zQ A k (tN A k)/\zQ A k (fN A k)=zQ A k t):=by
   generalize zQ A k (fN A k)=x at *;generalize zQ A k (tN A k)=y at *;generalize zQ A k s=p at *;generalize zQ A k t=r at *
   split at h<;>split at h<;>omega
  rcases c1 with c|c
  ·exact g1 false c
  exact g1 true c
theorem RH {A:List NA} {k:Nat} {W:List (Nat × Bool)} {s t:Nat} {c:Option Nat} (hW:W≠[]) (h:rC A (yJ A k) s W t) (hn:mS c W):s≠t:=fun e=>by
 subst e;exact (LY A k).flat W s hW h hn.weak
theorem lM {A:List NA} :∀ {k j:Nat},j ∈ yJ A k->fN A j≠tN A j
 |0,j,h=>by cases h
 |k+1,j,h=>by
  by_cases e:zQ A k (fN A k)=zQ A k (tN A k)
  ·rw [tX e]at h;exact lM h
  rw[rY e]at h
  rcases List.mem_append.1 h with h|h
  ·exact lM h
  rw[List.mem_singleton.1 h];exact fun q=>e (by rw[q])
def yE (A:List NA) (j v:Nat):Option (Nat × Bool):=if fN A j=v then some (tN A j,false) else if tN A j=v then some (fN A j,true) else none
def uC (A:List NA) (go:Nat->Nat->Option (List (Nat × Bool))) (v:Nat) (came:Option Nat):List Nat->Option (List (Nat × Bool))
 |[]=>none
 |j::R=>match yE A j v with
  |none=>uC A go v came R
  |some y=>if came=some j then uC A go v came R else match go y.1 j with
   |some P=>some ((j,y.2)::P)
   |none=>uC A go v came R
def vI (A:List NA) (T:List Nat) (e:Nat):Nat->Nat->Option Nat->Option (List (Nat × Bool))
 |0,_,_=>none
 |k+1,v,came=>if v=e then some [] else uC A (fun x j=>vI A T e k x (some j)) v came T
theorem tI {A:List NA} {j v x:Nat} {b:Bool} (h:yE A j v=some (x,b)):dC A (j,b)=v/\TD A (j,b)=x:=by
 unfold yE at h
 split at h
 ·rename_i q;cases h;exact ⟨q,rfl⟩
 split at h
 ·rename_i q;cases h;exact ⟨q,rfl⟩
 cases h
theorem YA {A:List NA} {j:Nat} {b:Bool} (h:fN A j≠tN A j):yE A j (dC A (j,b))=some (TD A (j,b),b):=by
 cases b with
 |false=>show yE A j (fN A j)=some (tN A j,false);unfold yE;rw[if_pos rfl]
 |true=>show yE A j (tN A j)=some (fN A j,true);unfold yE;rw[if_neg h,if_pos rfl]
theorem bT {A:List NA} {go:Nat->Nat->Option (List (Nat × Bool))} {v:Nat} {came:Option Nat} :∀ {R:List Nat} {P:List (Nat × Bool)},uC A go v came R=some P->∃j b Q,P=(j,b)::Q/\j ∈ R/\dC A (j,b)=v/\came≠some j/\go (TD A (j,b)) j=some Q
 |[],_,h=>by cases h
 |j::R,P,h=>by
  unfold uC at h
  have later:uC A go v came R=some P->∃i b Q,P=(i,b)::Q/\i ∈ j::R/\dC A (i,b)=v/\came≠some i/\go (TD A (i,b)) i=some Q:=fun q=>by
   obtain ⟨i,b,Q,h1,h2,h3⟩:=bT q;exact ⟨i,b,Q,h1,List.mem_cons_of_mem _ h2,h3⟩
  split at h
  ·exact later h
  rename_i y hy
  split at h
  ·exact later h
  rename_i hc
  split at h
  ·rename_i Q hQ
   have q:=tI hy
   cases h
   exact ⟨j,y.2,Q,rfl,List.mem_cons_self ..,q.1,hc,by rw[q.2];exact hQ⟩
  exact later h
theorem jZ {A:List NA} {go:Nat->Nat->Option (List (Nat × Bool))} {v:Nat} {came:Option Nat} {j:Nat} {y:Nat × Bool} (hy:yE A j v=some y) (hc:came≠some j) (hg:go y.1 j≠none):∀ {R:List Nat},j ∈ R->uC A go v came R≠none
 |[],h=>by cases h
 |i::R,h=>by
  unfold uC
  by_cases e:i=j
  ·subst e
   rw[hy];simp only;rw[if_neg hc]
   cases q:go y.1 i with
   |none=>exact absurd q hg
   |some P=>exact fun x=>by cases x
  have ih:=jZ hy hc hg (R:=R) ((List.mem_cons.1 h).resolve_left (fun q=>e q.symm))
  split
  ·exact ih
  split
  ·exact ih
  split
  ·exact fun x=>by cases x
  exact ih
theorem nX {A:List NA} {T:List Nat} {e:Nat} :∀ {k v:Nat} {came:Option Nat} {P:List (Nat × Bool)},vI A T e k v came=some P->rC A T v P e/\mS came P
 |0,_,_,_,h=>by cases h
 |k+1,v,came,P,h=>by
  unfold vI at h
  split at h
  ·rename_i q;cases h;exact ⟨q,trivial⟩
  obtain ⟨j,b,Q,rfl,h2,h3,h4,h5⟩:=bT h;have ih:=nX h5;exact ⟨⟨h2,h3,ih.1⟩,h4,ih.2⟩
theorem jY {A:List NA} {T:List Nat} {e:Nat} (hA:∀j,j ∈ T->fN A j≠tN A j):∀ {k v:Nat} {came:Option Nat} {W:List (Nat × Bool)},rC A T v W e->mS came W->W.length<k->vI A T e k v came≠none
 |0,_,_,_,_,_,h=>absurd h (Nat.not_lt_zero _)
 |k+1,v,came,[],h,_,_=>by
  unfold vI;rw[if_pos (show v=e from h)]
  exact fun x=>by cases x
 |k+1,v,came,(j,b)::W,h,n,hl=>by
  unfold vI
  split
  ·exact fun x=>by cases x
  have q:=YA (b:=b) (hA j h.1);rw[h.2.1]at q;exact jZ q n.1 (jY hA h.2.2 n.2 (Nat.lt_of_succ_lt_succ hl)) h.1
def iO (A:List NA) (T:List Nat) (k v:Nat) (came:Option Nat):Prop:=∀W t,rC A T v W t->mS came W->W.length<k
theorem iO.pos {A:List NA} {T:List Nat} {k v:Nat} {came:Option Nat} (h:iO A T k v came):0<k:=h [] v rfl trivial
theorem iO.next {A:List NA} {T:List Nat} {k v:Nat} {came:Option Nat} (h:iO A T (k+1) v came) {j x:Nat} {b:Bool} (hj:j ∈ T) (hx:yE A j v=some (x,b)) (hc:came≠some j):iO A T k x (some j):=fun W t hw hn=>by
 have q:=tI hx;have:=h ((j,b)::W) t ⟨hj,q.1,by rw[q.2];exact hw⟩ ⟨hc,hn⟩;exact Nat.lt_of_succ_lt_succ this
theorem fR {A:List NA} {k:Nat} :∀ {W:List (Nat × Bool)} {s t:Nat} {c:Option Nat},rC A (yJ A k) s W t->mS c W->(W.map (dC A)).Nodup/\t ∉ W.map (dC A)
 |[],_,_,_,_,_=>⟨List.nodup_nil,fun h=>by cases h⟩
 |x::W,s,t,c,h,n=>by
  have ih:=fR h.2.2 n.2;refine ⟨List.nodup_cons.2 ⟨fun q=>?_,ih.1⟩,fun q=>?_⟩
  ·obtain ⟨y,hy,e⟩:=List.mem_map.1 q
   obtain ⟨X,Y,rfl⟩:=List.append_of_mem hy;have h':rC A (yJ A k) s ((x::X)++y::Y) t:=h;have n':mS c ((x::X)++y::Y):=n;obtain ⟨u,h1,h2⟩:=h'.split;exact RH (List.cons_ne_nil _ _) h1 (mS.split n').1 (by rw[<- h2.2.1,e,h.2.1])
  rcases List.mem_cons.1 q with q|q
  ·exact RH (List.cons_ne_nil _ _) h n (by rw[q,h.2.1])
  exact ih.2 q
theorem oT:∀(n:Nat) (l:List Nat),l.Nodup->(∀ x,x ∈ l->x<n)->l.length<=n
 |0,[],_,_=>Nat.le_refl _
 |0,x::l,_,h=>absurd (h x (List.mem_cons_self ..)) (Nat.not_lt_zero _)
 |n+1,l,hn,h=>by
  by_cases hm:n ∈ l
  ·have h1:=oT n (l.erase n) (hn.erase n) (fun x hx=>by
    have h2:=(hn.mem_erase_iff).1 hx;have:=h x h2.2;have:=h2.1
    omega)
   rw[List.length_erase_of_mem hm]at h1;omega
  have:=oT n l hn (fun x hx=>by
   have:=h x hx
   have:x≠n:=fun e=>hm (e ▸ hx)
   omega)
  omega
theorem bS {A:List NA} {k n:Nat} (hf:∀j,j ∈ yJ A k->fN A j<n) (ht:∀j,j ∈ yJ A k->tN A j<n) (v:Nat) (c:Option Nat):iO A (yJ A k) (n+1) v c:=fun W t hw hn=>by
 have h:=oT n (W.map (dC A)) (fR hw hn).1 (fun x hx=>by
  obtain ⟨y,hy,rfl⟩:=List.mem_map.1 hx;have hm:=hw.mem y hy;unfold dC
  split
  ·exact ht _ hm
  exact hf _ hm)
 rw[List.length_map]at h;omega
theorem RG {A:List NA} {k n:Nat} (hf:∀j,j ∈ yJ A k->fN A j<n) (ht:∀j,j ∈ yJ A k->tN A j<n) (s e:Nat):(vI A (yJ A k) e (n+1) s none≠none)↔zQ A k s=zQ A k e:=by
 constructor
 ·intro h
  cases q:vI A (yJ A k) e (n+1) s none with
  |none=>exact absurd q h
  |some P=>exact oU (LY A k).ends (nX q).1
 intro h;obtain ⟨W,h1,h2⟩:=(LY A k).way s e h;exact jY (fun j hj=>lM hj) h1 h2 (bS hf ht s none W e h1 h2)
structure UfF (n : Nat) (L H : Nat -> Nat) : Prop where
 le:∀v,v<n->L v<=v
 fix:∀v,v<n->(L v=v↔H v=v)
 same:∀v,v<n->H (L v)=H v
def iN (f:Nat->Nat) (i x:Nat):Nat->Nat:=fun v=>if v=i then x else f v
theorem zWW (n:Nat):UfF n (fun v=>v) (fun v=>v):=⟨fun _ _=>Nat.le_refl _,fun _ _=>Iff.rfl,fun _ _=>rfl⟩
theorem UfF.join {n:Nat} {L H:Nat->Nat} (h:UfF n L H) (hi:∀v,H (H v)=H v) {a b:Nat} (ha:H a<n) (hb:H b<n):UfF n (iN L (max (H a) (H b)) (min (H a) (H b))) (if H a=H b then H else tA H (H a) (H b)):=by
 have ia:=hi a;have ib:=hi b;generalize H a=x at *;generalize H b=y at *
 by_cases e:x=y
 ·subst e
  rw[if_pos rfl,Nat.max_self,Nat.min_self]
  have hL:iN L x x=L:=by
   funext v
   unfold iN
   split
   ·rename_i q;rw[q];exact ((h.fix x ha).2 ia).symm
   rfl
  rw[hL];exact h
 rw[if_neg e]
 have hmx:max x y<n:=by omega
 have hm:H (max x y)=max x y:=by
  rcases Nat.le_total x y with l|l
  ·rw [Nat.max_eq_right l];exact ib
  rw[Nat.max_eq_left l];exact ia
 have hl:H (min x y)=min x y:=by
  rcases Nat.le_total x y with l|l
  ·rw [Nat.min_eq_left l];exact ia
  rw[Nat.min_eq_right l];exact ib
 have hlt:min x y<max x y:=by omega
 have mer:∀v,tA H x y v=if H v=max x y then min x y else H v:=fun _=>rfl
 generalize tA H x y=G at *;generalize max x y=m at *;generalize min x y=l at *;refine ⟨fun v hv=>?_,fun v hv=>?_,fun v hv=>?_⟩
 ·have:=h.le v hv
  unfold iN
  split<;>omega
 ·have q:=h.fix v hv
  rw[mer];unfold iN
  by_cases c:v=m
  ·subst c
   rw[if_pos rfl,hm,if_pos rfl]
  rw[if_neg c,q]
  by_cases d:H v=m
  ·rw [if_pos d,d]
   constructor
   ·intro e2;exact absurd e2.symm c
   intro e2;rw[<- e2,hl]at d;omega
  rw[if_neg d]
 have q:=h.same v hv;unfold iN
 by_cases c:v=m
 ·subst c
  rw[if_pos rfl,mer,mer,hl,hm,if_pos rfl,if_neg (by omega)]
 rw[if_neg c,mer,mer,q]
def yV (n:Nat) (f:Nat->Nat):List Int:=(List.range n).map fun v=>(f v:Int)
def yC (l:List Nat):List Int:=l.map Int.ofNat
theorem yY (n:Nat) (f:Nat->Nat):(yV n f).length=n:=by simp[yV]
theorem vS {n:Nat} {f:Nat->Nat} {k:Nat} (h:k<n):zS (yV n f) k=(f k:Int):=by
 unfold zS yV;rw[List.getD_eq_getElem?_getD,List.getElem?_map,List.getElem?_range h];rfl
theorem bR {n:Nat} {f:Nat->Nat} {k:Nat} (x:Nat):(yV n f).set k (x:Int)=yV n (iN f k x):=by
 unfold yV
 apply List.ext_getElem
 ·simp
 intro i h1 h2;rw[List.getElem_set];simp only[List.getElem_map,List.getElem_range];unfold iN
 by_cases e:k=i
 ·rw [if_pos e,if_pos e.symm]
 rw[if_neg e,if_neg (fun q=>e q.symm)]
theorem CJ (n:Nat) (f:Nat->Nat):yV (n+1) f=yV n f++[(f n:Int)]:=by simp[yV,List.range_succ]
theorem wM (l:List Nat):(yC l).length=l.length:=by simp[yC]
theorem XY {l:List Nat} {k:Nat} (h:k<l.length):zS (yC l) k=(l[k]:Int):=by
 unfold zS yC;rw[List.getD_eq_getElem?_getD,List.getElem?_map,List.getElem?_eq_getElem h];rfl
theorem jK (l:List Nat) (j:Nat):yC (l++[j])=yC l++[(j:Int)]:=by simp[yC]
theorem iM {A:List NA} :∀ {k:Nat},(yJ A k).length<=k
 |0=>Nat.le_refl _
 |k+1=>by
  have h:=iM (A:=A) (k:=k)
  by_cases e:zQ A k (fN A k)=zQ A k (tN A k)
  ·rw [tX e];omega
  rw[rY e,List.length_append];simp only[List.length_cons,List.length_nil];omega
structure BK where
 n:Int
 f:Int
 a:Int
def wL (L:List BK) (i:Nat):BK:=L.getD i ⟨0,0,0⟩
def isK (v:Int) (b:BK):Bool:=decide (b.n=v)
def rX (L:List BK) (v:Int):Bool:=L.any (isK v)
def ZJ (L:List BK) (v:Int):BK:=(L.find? (isK v)).getD ⟨0,0,0⟩
def inK (m:Int) (b:BK):Bool:=decide (0<=b.n/\b.n<m)
def VF (m:Int) (L:List BK):Bool:=L.all (inK m)&&decide (L.map BK.n).Nodup
def dM (n:NN) (b:BK):NA:=zU n.arcs b.a.toNat
def zWV (n:NN) (b:BK):Bool:=decide (0<=b.f/\b.f<=4096/\0<=b.a/\b.a<(n.arcs.length:Int))
def rW (n:NN) (L:List BK) (b:BK):Bool:=zWV n b&&(decide ((dM n b).t=b.n)&&rX L (dM n b).f)
def dL (n:NN) (L:List BK) (b:BK):Bool:=decide ((dM n b).k*(b.f+1)<=(dM n b).s+(dM n b).g*(ZJ L (dM n b).f).f)
def jJ (n:NN) (L:List BK):Int:=
 if zN n=0 then (if L.length=0\/VF n.nodes L=false\/L.all (rW n L)=false then 140 else if L.any (dL n L)=true then 141 else 0) else zN n
theorem oS {L:List BK} {i:Nat} (h:i<L.length):wL L i=L[i]:=by
 unfold wL;rw[List.getD_eq_getElem?_getD,List.getElem?_eq_getElem h];rfl
theorem lJ {L:List BK} {i:Nat} (h:i<L.length):wL L i ∈ L:=by rw[oS h];exact List.getElem_mem h
theorem fQ {L:List BK} {b:BK} (h:b ∈ L):∃i,i<L.length/\wL L i=b:=by
 obtain ⟨i,hi,e⟩:=List.getElem_of_mem h;exact ⟨i,hi,by rw[oS hi];exact e⟩
theorem nW {v:Int} {b:BK} :isK v b=true↔b.n=v:=by unfold isK;exact decide_eq_true_iff
theorem iL {L:List BK} {v:Int} :rX L v=true↔∃b ∈ L,b.n=v:=by
 unfold rX;rw[List.any_eq_true];exact ⟨fun ⟨b,h1,h2⟩=>⟨b,h1,nW.1 h2⟩,fun ⟨b,h1,h2⟩=>⟨b,h1,nW.2 h2⟩⟩
theorem GL {L:List BK} {v:Int} (h:rX L v=false):∀b ∈ L,b.n≠v:=fun b hb e=>by
 have:rX L v=true:=iL.2 ⟨b,hb,e⟩;rw[h]at this;cases this
theorem dB {m:Int} {L:List BK} :VF m L=true↔(∀ b ∈ L,0<=b.n/\b.n<m)/\(L.map BK.n).Nodup:=by
 unfold VF inK;rw[Bool.and_eq_true,List.all_eq_true,decide_eq_true_iff];simp only[decide_eq_true_iff]
theorem zSJ (m:Int):VF m []=true:=by rw[dB];exact ⟨fun b hb=>(by cases hb),List.nodup_nil⟩
theorem GK {L:List BK} {k:Nat} (h:k<L.length):L.take (k+1)=L.take k++[wL L k]:=by
 rw[List.take_add_one,List.getElem?_eq_getElem h,oS h];rfl
theorem zWU {m:Int} {L:List BK} {k:Nat} (hk:k<L.length) (h:VF m (L.take k)=true) (h1:rX (L.take k) (wL L k).n=false) (h2:0<=(wL L k).n/\(wL L k).n<m):VF m (L.take (k+1))=true:=by
 rw[GK hk];rw[dB]at h ⊢;refine ⟨fun b hb=>?_,?_⟩
 ·rw [List.mem_append,List.mem_singleton]at hb
  rcases hb with hb|rfl
  ·exact h.1 b hb
  exact h2
 rw[List.map_append,List.nodup_append];refine ⟨h.2,by simp,fun x hx y hy=>?_⟩
 obtain ⟨b,hb,rfl⟩:=List.mem_map.1 hx;simp only[List.map_cons,List.map_nil,List.mem_singleton]at hy;rw[hy];exact GL h1 b hb
theorem zSI {m:Int} {L:List BK} {k:Nat} (hk:k<L.length) (h:rX (L.take k) (wL L k).n=true\/¬(0<=(wL L k).n/\(wL L k).n<m)):VF m L=false:=by
 rw[Bool.eq_false_iff];intro ha;rw[dB]at ha
 rcases h with h|h
 ·obtain ⟨b,hb,e⟩:=iL.1 h
  obtain ⟨i,hi,e2⟩:=fQ hb;rw[List.length_take]at hi
  have e3:L[i]'(by omega)=b:=by rw[<- e2,oS (by rw[List.length_take];omega),List.getElem_take]
  have hn:=(List.pairwise_iff_getElem.1 ha.2) i k (by simp;omega) (by simpa using hk) (by omega);rw[List.getElem_map,List.getElem_map,e3,<-oS hk]at hn;exact hn e
 exact h (ha.1 _ (lJ hk))
theorem zOB {L:List BK} (hn:(L.map BK.n).Nodup) {b:BK} (hb:b ∈ L):ZJ L b.n=b:=by
 unfold ZJ
 induction L with
 |nil=>cases hb
 |cons x L ih=>
  rw[List.map_cons,List.nodup_cons]at hn;rw[List.find?_cons]
  by_cases e:x.n=b.n
  ·rw [nW.2 e]
   rcases List.mem_cons.1 hb with rfl|h
   ·rfl
   exact absurd (List.mem_map.2 ⟨b,h,e.symm⟩) hn.1
  have:isK b.n x=false:=by rw[Bool.eq_false_iff];exact fun h=>e (nW.1 h)
  rw[this]
  rcases List.mem_cons.1 hb with rfl|h
  ·exact absurd rfl e
  exact ih hn.2 h
theorem zSH {L:List BK} {v:Int} (h:rX L v=true):ZJ L v ∈ L/\(ZJ L v).n=v:=by
 unfold ZJ
 cases hf:L.find? (isK v) with
 |none=>
  obtain ⟨b,hb,e⟩:=iL.1 h;exact absurd (nW.2 e) (List.find?_eq_none.1 hf b hb)
 |some b=>exact ⟨List.mem_of_find?_eq_some hf,nW.1 (List.find?_some hf)⟩
structure RF (n : NN) (L : List BK) : Prop where
 check:zN n=0
 ne:L.length≠0
 ap:VF n.nodes L=true
 link:∀b ∈ L,rW n L b=true
theorem LV {n:NN} {L:List BK} (h:RF n L):jJ n L=if L.any (dL n L)=true then 141 else 0:=by
 unfold jJ;rw[if_pos h.check,if_neg]
 rintro (e|e|e)
 ·exact h.ne e
 ·rw [h.ap]at e;cases e
 rw[List.all_eq_true.2 h.link]at e;cases e
theorem VE {n:NN} {L:List BK} (hc:zN n=0) (h:¬RF n L):jJ n L=140:=by
 unfold jJ;rw[if_pos hc,if_pos]
 by_cases h1:L.length=0
 ·exact .inl h1
 by_cases h2:VF n.nodes L=true
 ·refine .inr (.inr ?_)
  rw[Bool.eq_false_iff]
  exact fun e=>h ⟨hc,h1,h2,List.all_eq_true.1 e⟩
 exact .inr (.inl (Bool.eq_false_iff.2 h2))
theorem zSG {n:NN} {L:List BK} (h:zN n≠0):jJ n L=zN n:=by unfold jJ;rw[if_neg h]
theorem bQ {n:NN} {b:BK} :zWV n b=true↔0<=b.f/\b.f<=4096/\0<=b.a/\b.a<(n.arcs.length:Int):=by unfold zWV;exact decide_eq_true_iff
structure zWT (n : NN) (L : List BK) (b : BK) : Prop where
 f:0<=b.f/\b.f<=4096
 a:0<=b.a/\b.a<(n.arcs.length:Int)
 t:(dM n b).t=b.n
 has:rX L (dM n b).f=true
theorem fP {n:NN} {L:List BK} {b:BK} :rW n L b=true↔zWT n L b:=by
 unfold rW;rw[Bool.and_eq_true,Bool.and_eq_true,bQ,decide_eq_true_iff];exact ⟨fun h=>⟨⟨h.1.1,h.1.2.1⟩,⟨h.1.2.2.1,h.1.2.2.2⟩,h.2.1,h.2.2⟩,fun h=>⟨⟨h.f.1,h.f.2,h.a.1,h.a.2⟩,h.t,h.has⟩⟩
theorem zWT.lt {n:NN} {L:List BK} {b:BK} (h:zWT n L b):b.a.toNat<n.arcs.length:=by have:=h.a;omega
theorem lH {F:List Int} {v:Int} {m:Int} (hv:0<=v) (hm:m<=1125899906842624) (hF:∀k,k<F.length->0<=zS F k/\zS F k<=m) {k:Nat} (hk:k<F.length):zS (xS F v) k=zS F k+if (k:Int)=v then 1 else 0:=by
 unfold xS
 by_cases e:(k:Int)=v
 ·have e2:v.toNat=k:=by omega
  rw[if_pos e,e2,sB hk];have:=hF k hk;exact vZ (by omega)
 rw[if_neg e,rZ (by omega)];omega
theorem mR {n:NN} {m:Int} {T F:List Int} {v:Int} (hS:yI n) (h:eC n m T F) (hm:m<=1125899906842624) (hv:wI n T v=true):eC n (m+1) (wN n T v) (xS F v):=by
 have hnode:0<=v/\v<n.nodes:=of_decide_eq_true (tJ hv)
 have hF:∀k,k<F.length->0<=zS F k/\zS F k<=m:=fun k hk=>h.fs k (by rw[<- h.lF];exact hk)
 refine ⟨(zWX hS h.few (by omega) hv).more (by omega),by rw[zWZ];exact h.lF,fun k hk=>?_,fun i hi=>?_⟩
 ·rw [lH hnode.1 hm hF (by rw[h.lF];exact hk)]
  have:=h.fs k hk
  split<;>omega
 have ha:=hS.arcs i hi;have hf:=ha.f;have ht:=ha.t;rw[bV hS h.few (by omega) hv hi,h.eq i hi,lH hnode.1 hm hF (by rw[h.lF];omega),lH hnode.1 hm hF (by rw[h.lF];omega)]
 have e1:(((zU n.arcs i).f.toNat:Nat):Int)=(zU n.arcs i).f:=by omega
 have e2:(((zU n.arcs i).t.toNat:Nat):Int)=(zU n.arcs i).t:=by omega
 rw[e1,e2,Int.mul_add,Int.mul_add];generalize (zU n.arcs i).g*zS F (zU n.arcs i).f.toNat=p;generalize (zU n.arcs i).k*zS F (zU n.arcs i).t.toNat=q
 by_cases c1:(zU n.arcs i).t=v<;>by_cases c2:(zU n.arcs i).f=v<;>simp[c1,c2]<;>omega
def CI (R F:List Int) (v:Int):Bool:=decide (zS F v.toNat<zS R v.toNat)
def goU (n:NN) (R T F:List Int) (v:Int):Bool:=CI R F v&&wI n T v
def mQ (n:NN) (R O T F:List Int):Option Int:=O.find? (goU n R T F)
def uB (n:NN) (R O:List Int):Nat->List Int->List Int->List Int × List Int × List Int
 |0,T,F=>([],T,F)
 |f+1,T,F=>match mQ n R O T F with
  |none=>([],T,F)
  |some v=>(v::(uB n R O f (wN n T v) (xS F v)).1,(uB n R O f (wN n T v) (xS F v)).2)
def NQ (n:NN) (F G:List Int):Prop:=∀k,k<n.nodes.toNat->zS F k<=zS G k
def VD (n:NN) (R T F:List Int):Prop:=∀v:Int,xT n v=true->zS F v.toNat<zS R v.toNat->wI n T v=false
structure bP (n n' : NN) : Prop where
 nodes:n'.nodes=n.nodes
 len:n'.arcs.length=n.arcs.length
 f:∀i,i<n.arcs.length->(zU n'.arcs i).f=(zU n.arcs i).f
 t:∀i,i<n.arcs.length->(zU n'.arcs i).t=(zU n.arcs i).t
 g:∀i,i<n.arcs.length->(zU n'.arcs i).g=(zU n.arcs i).g
 k:∀i,i<n.arcs.length->(zU n'.arcs i).k=(zU n.arcs i).k
 s:∀i,i<n.arcs.length->(zU n.arcs i).s<=(zU n'.arcs i).s
theorem bP.refl (n:NN):bP n n:=⟨rfl,rfl,fun _ _=>rfl,fun _ _=>rfl,fun _ _=>rfl,fun _ _=>rfl,fun _ _=>Int.le_refl _⟩
theorem mP {n:NN} {R T F:List Int} {v:Int} (h:goU n R T F v=true):zS F v.toNat<zS R v.toNat/\wI n T v=true:=by
 unfold goU at h;rw[Bool.and_eq_true]at h;exact ⟨of_decide_eq_true h.1,h.2⟩
theorem vH {n:NN} {v:Int} (h:xT n v=true):0<=v/\v<n.nodes:=of_decide_eq_true h
theorem nV {n:NN} {m:Int} {T F:List Int} (h:eC n m T F) (hm:m<=1000000000) {v:Int} (hv:0<=v) {k:Nat} (hk:k<n.nodes.toNat):zS (xS F v) k=zS F k+if (k:Int)=v then 1 else 0:=
 lH hv (m:=m) (by omega) (fun k hk=>h.fs k (by rw[<- h.lF];exact hk)) (by rw[h.lF];exact hk)
theorem GJ {n n':NN} {R T F T1 F1:List Int} {m m1:Int} {v:Int} (hS:yI n) (hM:bP n n') (h:eC n m T F) (h1:eC n' m1 T1 F1) (hE:VD n' R T1 F1) (hm:m<=1000000000) (hl:NQ n F F1) (hg:zS F v.toNat<zS R v.toNat) (hv:wI n T v=true):NQ n (xS F v) F1:=by
 have hnb:=tJ hv;have hnode:=vH hnb;intro k hk;rw[nV h hm hnode.1 hk];have hlk:=hl k hk
 by_cases e:(k:Int)=v
 ·rw [if_pos e]
  have ek:v.toNat=k:=by omega
  by_cases hq:zS F k+1<=zS F1 k
  ·exact hq
  exfalso
  have hqe:zS F1 k=zS F k:=by omega
  have hno:=hE v (by unfold xT at hnb ⊢;rw[hM.nodes];exact hnb) (by rw[ek,hqe,<-ek];exact hg)
  have hyes:wI n' T1 v=true:=by
   refine zOC (by unfold xT at hnb ⊢;rw[hM.nodes];exact hnb) fun i hi ht=>?_
   have hi':i<n.arcs.length:=by rw[<- hM.len];exact hi
   rw[hM.t i hi']at ht;have hh:=VG hv hi' ht;rw[h.eq i hi']at hh;rw[h1.eq i hi,hM.k i hi',hM.g i hi',hM.f i hi',hM.t i hi',ht,ek,hqe];rw[ht,ek]at hh;have hf:=(hS.arcs i hi').f;have hlf:=hl (zU n.arcs i).f.toNat (by omega);have hgg:=(hS.arcs i hi').g;have hss:=hM.s i hi';have:=Int.mul_le_mul_of_nonneg_left hlf (show (0:Int)<=(zU n.arcs i).g by omega);omega
  rw[hno]at hyes
  cases hyes
 rw[if_neg e];omega
theorem mO {n:NN} {R O T F:List Int} {v:Int} (h:mQ n R O T F=some v):goU n R T F v=true/\v ∈ O:=⟨List.find?_some h,List.mem_of_find?_eq_some h⟩
theorem zWS {n:NN} {R O T F:List Int} (h:mQ n R O T F=none):∀v ∈ O,goU n R T F v=false:=fun v hv=>by
 have:=List.find?_eq_none.1 h v hv
 simpa using this
def xN:List Int->Int
 |[]=>0
 |z::zs=>z+xN zs
theorem GH:∀ {F:List Int} {i:Nat} {x:Int},i<F.length->xN (F.set i x)=xN F-zS F i+x
 |[],i,_,h=>absurd h (Nat.not_lt_zero _)
 |z::zs,0,x,_=>by show x+xN zs=z+xN zs-z+x;omega
 |z::zs,i+1,x,h=>by
  show z+xN (zs.set i x)=z+xN zs-zS zs i+x;rw[GH (F:=zs) (Nat.lt_of_succ_lt_succ h)];omega
theorem VC:∀ {F R:List Int},F.length=R.length->(∀ k,k<F.length->zS F k<=zS R k)->xN F<=xN R
 |[],[],_,_=>Int.le_refl _
 |[],_::_,h,_=>by cases h
 |_::_,[],h,_=>by cases h
 |z::zs,x::xs,h,hk=>by
  have h0:z<=x:=hk 0 (Nat.succ_pos _);have:=VC (F:=zs) (R:=xs) (Nat.succ.inj h) (fun k hlt=>hk (k+1) (Nat.succ_lt_succ hlt));show z+xN zs<=x+xN xs
  omega
theorem VB:∀ {F R:List Int} {j:Nat},F.length=R.length->(∀ k,k<F.length->zS F k<=zS R k)->j<F.length->zS F j<zS R j->xN F<xN R
 |[],[],_,_,_,hj,_=>absurd hj (Nat.not_lt_zero _)
 |[],_::_,_,h,_,_,_=>by cases h
 |_::_,[],_,h,_,_,_=>by cases h
 |z::zs,x::xs,0,h,hk,_,hl=>by
  have h0:z<x:=hl;have:=VC (F:=zs) (R:=xs) (Nat.succ.inj h) (fun k hlt=>hk (k+1) (Nat.succ_lt_succ hlt));show z+xN zs<x+xN xs
  omega
 |z::zs,x::xs,j+1,h,hk,hj,hl=>by
  have h0:z<=x:=hk 0 (Nat.succ_pos _);have:=VB (F:=zs) (R:=xs) (j:=j) (Nat.succ.inj h) (fun k hlt=>hk (k+1) (Nat.succ_lt_succ hlt)) (Nat.lt_of_succ_lt_succ hj) hl;show z+xN zs<x+xN xs
  omega
theorem mN:∀N,xN (List.replicate N 0)=0
 |0=>rfl
 |N+1=>by rw[List.replicate_succ];show (0:Int)+xN (List.replicate N 0)=0;rw[mN N];rfl
theorem iK {n:NN} {m:Int} {T F:List Int} (h:eC n m T F) (hm:m<=1000000000) {v:Int} (hv:xT n v=true):xN (xS F v)=xN F+1:=by
 have hn:=vH hv
 have hi:v.toNat<F.length:=by rw[h.lF];omega
 unfold xS;rw[GH hi];have:=h.fs v.toNat (by omega);rw[vZ (by omega)];omega
theorem iJ {n:NN} {R O T F:List Int} {f:Nat} (h:mQ n R O T F=none):uB n R O (f+1) T F=([],T,F):=by
 rw[uB,h]
theorem iI {n:NN} {R O T F:List Int} {f:Nat} {v:Int} (h:mQ n R O T F=some v):uB n R O (f+1) T F=(v::(uB n R O f (wN n T v) (xS F v)).1,(uB n R O f (wN n T v) (xS F v)).2):=by
 rw[uB,h]
structure zPE (n : NN) (R T F : List Int) (m : Int) (r : List Int × List Int × List Int) : Prop where
 eq:eC n (m+(r.1.length:Int)) r.2.1 r.2.2
 top:NQ n F R->NQ n r.2.2 R
 fires:xZ n r.1 T F=(r.1.length,r.2)
 sum:xN r.2.2=xN F+(r.1.length:Int)
 node:∀z ∈ r.1,xT n z=true
theorem RD {n:NN} {R O:List Int} (hS:yI n):∀(f:Nat) (T F:List Int) (m:Int),eC n m T F->m+(f:Int)<=1000000000->zPE n R T F m (uB n R O f T F)
 |0,T,F,m,h,_=>by
  show zPE n R T F m ([],T,F);exact ⟨by simpa using h,fun x=>x,rfl,by simp,fun z hz=>by cases hz⟩
 |f+1,T,F,m,h,hm=>by
  cases hx:mQ n R O T F with
  |none=>
   rw[iJ hx];exact ⟨by simpa using h,fun x=>x,rfl,by simp,fun z hz=>by cases hz⟩
  |some v=>
   rw[iI hx];obtain ⟨hg,hO⟩:=mO hx;obtain ⟨hl,hv⟩:=mP hg;have hnb:=tJ hv;have hn:=vH hnb;have h2:=mR hS h (by omega) hv;have ih:=RD (R:=R) (O:=O) hS f (wN n T v) (xS F v) (m+1) h2 (by push_cast at hm;omega);generalize uB n R O f (wN n T v) (xS F v)=r at ih ⊢;refine ⟨?_,fun ht=>ih.top fun k hk=>?_,?_,?_,fun z hz=>?_⟩
   ·have:=ih.eq
    have e:m+1+(r.1.length:Int)=m+((v::r.1).length:Int):=by simp;omega
    rw[e]at this;exact this
   ·rw [nV h (by omega) hn.1 hk]
    have:=ht k hk
    by_cases e:(k:Int)=v
    ·have e2:v.toNat=k:=by omega
     rw[e2]at hl;rw[if_pos e];omega
    rw[if_neg e];omega
   ·show xZ n (v::r.1) T F=_
    unfold xZ;rw[if_pos hv,ih.fires];rfl
   ·show xN r.2.2=_
    rw[ih.sum,iK h (by omega) hnb];simp;omega
   rcases List.mem_cons.1 hz with rfl|hz
   ·exact hnb
   exact ih.node z hz
theorem zWR {n n':NN} {R O T1 F1:List Int} {m1:Int} (hS:yI n) (hM:bP n n') (h1:eC n' m1 T1 F1) (hE:VD n' R T1 F1):∀(f:Nat) (T F:List Int) (m:Int),eC n m T F->m+(f:Int)<=1000000000->NQ n F F1->NQ n (uB n R O f T F).2.2 F1
 |0,_,_,_,_,_,hl=>hl
 |f+1,T,F,m,h,hm,hl=>by
  cases hx:mQ n R O T F with
  |none=>rw[iJ hx];exact hl
  |some v=>
   rw[iI hx];obtain ⟨hlt,hv⟩:=mP (mO hx).1;exact zWR hS hM h1 hE f _ _ (m+1) (mR hS h (by omega) hv) (by push_cast at hm;omega) (GJ hS hM h h1 hE (by omega) hl hlt hv)
theorem GF {n:NN} {R O:List Int} (hS:yI n) (hR:R.length=n.nodes.toNat) (hO:∀v,xT n v=true->v ∈ O):∀(f:Nat) (T F:List Int) (m:Int),eC n m T F->m+(f:Int)<=1000000000->NQ n F R->xN R-xN F<=(f:Int)->VD n R (uB n R O f T F).2.1 (uB n R O f T F).2.2
 |0,T,F,m,h,_,hl,hs=>by
  intro v hv hlt;have hn:=vH hv
  exfalso
  have:=VB (F:=F) (R:=R) (j:=v.toNat) (by rw[h.lF,hR]) (fun k hk=>hl k (by rw[<- h.lF];exact hk)) (by rw[h.lF];omega) hlt;simp at hs;omega
 |f+1,T,F,m,h,hm,hl,hs=>by
  cases hx:mQ n R O T F with
  |none=>
   rw[iJ hx];intro v hv hlt;have:=zWS hx v (hO v hv);unfold goU CI at this;rw[show decide (zS F v.toNat<zS R v.toNat)=true from decide_eq_true hlt,Bool.true_and]at this;exact this
  |some v=>
   rw[iI hx];obtain ⟨hlt,hv⟩:=mP (mO hx).1;have hnb:=tJ hv;have hn:=vH hnb;refine GF hS hR hO f _ _ (m+1) (mR hS h (by omega) hv) (by push_cast at hm;omega) (fun k hk=>?_) ?_
   ·rw [nV h (by omega) hn.1 hk]
    have:=hl k hk
    by_cases e:(k:Int)=v
    ·have e2:v.toNat=k:=by omega
     rw[e2]at hlt;rw[if_pos e];omega
    rw[if_neg e];omega
   rw[iK h (by omega) hnb];push_cast at hs;omega
def tH (n:NN) (R T F:List Int) (k:Nat):List BK:=((List.range k).filter fun (v:Nat)=>CI R F (v:Int)).map fun (v:Nat)=>⟨(v:Int),zS F v,xQ n T (v:Int)⟩
theorem zWQ {n:NN} {R T F:List Int} {k:Nat} (h:zS F k<zS R k):tH n R T F (k+1)=tH n R T F k++[⟨(k:Int),zS F k,xQ n T (k:Int)⟩]:=by
 have e:CI R F ((k:Nat):Int)=true:=decide_eq_true (by rw[Int.toNat_natCast];exact h);unfold tH;rw[List.range_succ,List.filter_append,List.map_append,List.filter_cons,e];rfl
theorem zSF {n:NN} {R T F:List Int} {k:Nat} (h:¬zS F k<zS R k):tH n R T F (k+1)=tH n R T F k:=by
 have e:CI R F ((k:Nat):Int)=false:=decide_eq_false (by rw[Int.toNat_natCast];exact h);unfold tH;rw[List.range_succ,List.filter_append,List.map_append,List.filter_cons,e];simp
theorem bN (n:NN) (R T F:List Int) (k:Nat):(tH n R T F k).length<=k:=by
 unfold tH;rw[List.length_map];exact Nat.le_trans (List.length_filter_le ..) (by rw[List.length_range];exact Nat.le_refl _)
theorem mM {n:NN} {R T F:List Int} {k:Nat} {b:BK} (h:b ∈ tH n R T F k):∃v:Nat,v<k/\zS F v<zS R v/\b=⟨(v:Int),zS F v,xQ n T (v:Int)⟩:=by
 unfold tH at h;obtain ⟨v,hv,rfl⟩:=List.mem_map.1 h;rw[List.mem_filter,List.mem_range]at hv;have:=of_decide_eq_true hv.2;rw[Int.toNat_natCast]at this;exact ⟨v,hv.1,this,rfl⟩
theorem bM {n:NN} {R T F:List Int} {k v:Nat} (hv:v<k) (h:zS F v<zS R v):(⟨(v:Int),zS F v,xQ n T (v:Int)⟩:BK) ∈ tH n R T F k:=by
 unfold tH;refine List.mem_map.2 ⟨v,?_,rfl⟩
 rw[List.mem_filter,List.mem_range];exact ⟨hv,decide_eq_true (by rw[Int.toNat_natCast];exact h)⟩
theorem zWP {n:NN} {R T F:List Int} {k:Nat} :tH n R T F k=[]↔∀v,v<k->zS R v<=zS F v:=by
 constructor
 ·intro h v hv
  by_cases hl:zS F v<zS R v
  ·have:=bM (n:=n) (T:=T) hv hl
   rw[h]at this;cases this
  omega
 intro h;rw[List.eq_nil_iff_forall_not_mem];intro b hb;obtain ⟨v,hv,hl,-⟩:=mM hb;have:=h v hv;omega
theorem bL (A:List NA) (T:List Int):∀R:List Int,uK A T R= -1\/∃i ∈ R,uK A T R=i/\sY A T i=true
 |[]=>.inl rfl
 |i::R=>by
  unfold uK
  cases hb:sY A T i with
  |true=>exact .inr ⟨i,List.mem_cons_self ..,by simp,hb⟩
  |false=>
   rcases bL A T R with e|⟨j,h1,h2,h3⟩
   ·exact .inl (by simpa using e)
   exact .inr ⟨j,List.mem_cons_of_mem _ h1,by simpa using h2,h3⟩
theorem bK {n:NN} {T:List Int} {v:Int} (hv:xT n v=true) (h:wI n T v=false):∃i:Nat,xQ n T v=(i:Int)/\i<n.arcs.length/\(zU n.arcs i).t=v/\zS T i<(zU n.arcs i).k:=by
 unfold wI at h;rw[hv,Bool.true_and]at h;have h2:=of_decide_eq_false h;unfold xQ;rw[if_pos hv]
 rcases bL n.arcs T (yR n v) with e|⟨i,h3,h4,h5⟩
 ·exact absurd e h2
 obtain ⟨k,hk,ek⟩:=List.getElem_of_mem h3;obtain ⟨j,hj1,hj2,hj3⟩:=vB (p:=lR v) (A:=n.arcs) (q:=n.arcs.length) (k:=k) hk
 have e3:zS (yR n v) k=i:=by unfold zS;rw[List.getD_eq_getElem?_getD,List.getElem?_eq_getElem hk,ek];rfl
 have e4:i=(j:Int):=by rw[<- e3];exact hj1
 subst e4;have h6:=of_decide_eq_true h5;rw[Int.toNat_natCast]at h6;exact ⟨j,h4,hj2,of_decide_eq_true hj3,h6⟩
def BalU (n:NN) (R:List Int):Prop:=∀i,i<n.arcs.length->(zU n.arcs i).g*zS R (zU n.arcs i).f.toNat=(zU n.arcs i).k*zS R (zU n.arcs i).t.toNat
theorem zSE {n:NN} {R T F:List Int} {m:Int} (hc:zN n=0) (hB:BalU n R) (h:eC n m T F) (hE:VD n R T F) (hR:∀k,k<n.nodes.toNat->zS R k<=4096) (hne:tH n R T F n.nodes.toNat≠[]):jJ n (tH n R T F n.nodes.toNat)=0:=by
 have hS:=zB hc
 have key:∀v:Nat,v<n.nodes.toNat->zS F v<zS R v->∃i:Nat,xQ n T (v:Int)=(i:Int)/\i<n.arcs.length/\(zU n.arcs i).t=(v:Int)/\(zU n.arcs i).s+(zU n.arcs i).g*zS F (zU n.arcs i).f.toNat<(zU n.arcs i).k*(zS F v+1)/\zS F (zU n.arcs i).f.toNat<zS R (zU n.arcs i).f.toNat:=by
  intro v hv hl;have hnb:xT n (v:Int)=true:=decide_eq_true (by omega);obtain ⟨i,h1,h2,h3,h4⟩:=bK hnb (hE (v:Int) hnb (by rw[Int.toNat_natCast];exact hl));rw[h.eq i h2,h3,Int.toNat_natCast]at h4;have hb:=hB i h2;rw[h3,Int.toNat_natCast]at hb;have hsa:=hS.arcs i h2;have g1:=hsa.g;have k1:=hsa.k;have s1:=hsa.s;refine ⟨i,h1,h2,h3,by rw[Int.mul_add,Int.mul_one];omega,?_⟩
  have m1:(zU n.arcs i).k*(zS F v+1)<=(zU n.arcs i).k*zS R v:=Int.mul_le_mul_of_nonneg_left (by omega) (by omega);rw[Int.mul_add,Int.mul_one]at m1
  have m2:(zU n.arcs i).g*zS F (zU n.arcs i).f.toNat<(zU n.arcs i).g*zS R (zU n.arcs i).f.toNat:=by omega
  exact Int.lt_of_mul_lt_mul_left m2 (by omega)
 have hnd:((tH n R T F n.nodes.toNat).map BK.n).Nodup:=by
  unfold tH;rw[List.map_map,List.nodup_iff_pairwise_ne,List.pairwise_map];refine (List.Pairwise.filter _ (List.pairwise_lt_range (n:=n.nodes.toNat))).imp ?_
  intro a b hab e;have:(a:Int)=(b:Int):=e;omega
 have hC:RF n (tH n R T F n.nodes.toNat):=by
  refine ⟨hc,fun e=>hne (List.eq_nil_of_length_eq_zero e),dB.2 ⟨fun b hb=>?_,hnd⟩,fun b hb=>?_⟩
  ·obtain ⟨v,hv,-,rfl⟩:=mM hb
   show (0:Int)<=(v:Int)/\(v:Int)<n.nodes;omega
  obtain ⟨v,hv,hl,rfl⟩:=mM hb;obtain ⟨i,h1,h2,h3,h4,h5⟩:=key v hv hl
  have ea:dM n ⟨(v:Int),zS F v,xQ n T (v:Int)⟩=zU n.arcs i:=by unfold dM;show zU n.arcs (xQ n T (v:Int)).toNat=_;rw[h1,Int.toNat_natCast]
  have hf:=(hS.arcs i h2).f;refine fP.2 ⟨⟨(h.fs v hv).1,?_⟩,?_,by rw[ea];exact h3,?_⟩
  ·have:=hR v hv;show zS F v<=4096;omega
  ·show (0:Int)<=xQ n T (v:Int)/\xQ n T (v:Int)<(n.arcs.length:Int)
   rw[h1];omega
  rw[ea];refine iL.2 ⟨_,bM (v:=(zU n.arcs i).f.toNat) (by omega) h5,?_⟩
  show (((zU n.arcs i).f.toNat:Nat):Int)=_;omega
 rw[LV hC,if_neg];intro ha;obtain ⟨b,hb,hlo⟩:=List.any_eq_true.1 ha;obtain ⟨v,hv,hl,rfl⟩:=mM hb;obtain ⟨i,h1,h2,h3,h4,h5⟩:=key v hv hl
 have ea:dM n ⟨(v:Int),zS F v,xQ n T (v:Int)⟩=zU n.arcs i:=by unfold dM;show zU n.arcs (xQ n T (v:Int)).toNat=_;rw[h1,Int.toNat_natCast]
 have hf:=(hS.arcs i h2).f;unfold dL at hlo;rw[ea,decide_eq_true_iff]at hlo;have eb:=zOB hnd (bM (n:=n) (R:=R) (T:=T) (F:=F) (k:=n.nodes.toNat) (v:=(zU n.arcs i).f.toNat) (by omega) h5)
 have ec:(((zU n.arcs i).f.toNat:Nat):Int)=(zU n.arcs i).f:=by omega
 rw[show (⟨(((zU n.arcs i).f.toNat:Nat):Int),zS F (zU n.arcs i).f.toNat,xQ n T (((zU n.arcs i).f.toNat:Nat):Int)⟩:BK).n=(zU n.arcs i).f from ec]at eb;rw[eb]at hlo;have hlo':(zU n.arcs i).k*(zS F v+1)<=(zU n.arcs i).s+(zU n.arcs i).g*zS F (zU n.arcs i).f.toNat:=hlo;omega
theorem LU {A:List NA} {k j:Nat} (h:j<k):zU (A.take k) j=zU A j:=by
 unfold zU;rw[List.getD_eq_getElem?_getD,List.getD_eq_getElem?_getD,List.getElem?_take,if_pos h]
def gN (A:List NA) (j:Nat):Nat:=(zU A j).g.toNat
def kN (A:List NA) (j:Nat):Nat:=(zU A j).k.toNat
def jX (A:List NA) (c:Nat->Nat) (j:Nat):Prop:=gN A j*c (fN A j)=kN A j*c (tN A j)
def jW (H c:Nat->Nat) (a b x y:Nat):Nat->Nat:=fun v=>if H v=a then c v*(y / Nat.gcd x y) else if H v=b then c v*(x / Nat.gcd x y) else c v
def wX (A:List NA):Nat->Nat->Nat
 |0=>fun _=>1
 |k+1=>if zQ A k (fN A k)=zQ A k (tN A k) then wX A k else jW (zQ A k) (wX A k) (zQ A k (fN A k)) (zQ A k (tN A k)) (gN A k*wX A k (fN A k)) (kN A k*wX A k (tN A k))
theorem lG {A:List NA} {k:Nat} (h:zQ A k (fN A k)=zQ A k (tN A k)):wX A (k+1)=wX A k:=by
 show (if _ then _ else _)=_;rw[if_pos h]
theorem iH {A:List NA} {k:Nat} (h:¬zQ A k (fN A k)=zQ A k (tN A k)):wX A (k+1)=jW (zQ A k) (wX A k) (zQ A k (fN A k)) (zQ A k (tN A k)) (gN A k*wX A k (fN A k)) (kN A k*wX A k (tN A k)):=by
 show (if _ then _ else _)=_;rw[if_neg h]
def LT (A:List NA) (n:Nat):Prop:=∀j,j<n->1<=gN A j/\1<=kN A j
theorem mL {x y:Nat} (hx:1<=x):1<=x / Nat.gcd x y:=Nat.div_pos (Nat.le_of_dvd hx (Nat.gcd_dvd_left x y)) (Nat.gcd_pos_of_pos_left y hx)
theorem sS {x y:Nat} (hy:1<=y):1<=y / Nat.gcd x y:=Nat.div_pos (Nat.le_of_dvd hy (Nat.gcd_dvd_right x y)) (Nat.gcd_pos_of_pos_right x hy)
theorem CG {H c:Nat->Nat} {a b x y:Nat} (hc:∀v,1<=c v) (hx:1<=x) (hy:1<=y) (v:Nat):1<=jW H c a b x y v:=by
 unfold jW
 split
 ·exact Nat.mul_pos (hc v) (sS hy)
 split
 ·exact Nat.mul_pos (hc v) (mL hx)
 exact hc v
theorem mK {A:List NA} {n:Nat} (h:LT A n):∀ {k:Nat},k<=n->∀v,1<=wX A k v
 |0,_,_=>Nat.le_refl _
 |k+1,hk,v=>by
  have ih:=mK h (Nat.le_of_succ_le hk)
  by_cases e:zQ A k (fN A k)=zQ A k (tN A k)
  ·rw [lG e];exact ih v
  rw[iH e];obtain ⟨h1,h2⟩:=h k hk;exact CG ih (Nat.mul_pos h1 (ih _)) (Nat.mul_pos h2 (ih _)) v
theorem quot_mul (x y:Nat):x*(y / Nat.gcd x y)=y*(x / Nat.gcd x y):=by
 rw[<- Nat.mul_div_assoc _ (Nat.gcd_dvd_right x y),<-Nat.mul_div_assoc _ (Nat.gcd_dvd_left x y),Nat.mul_comm]
theorem XX {A:List NA} {k j:Nat} (hj:j ∈ yJ A k):zQ A k (fN A j)=zQ A k (tN A j):=(LY A k).ends j (uX hj)
theorem LR {H c:Nat->Nat} {a b x y u v:Nat} (h:H u=H v) {p q:Nat} (e:p*c u=q*c v):p*jW H c a b x y u=q*jW H c a b x y v:=by
 unfold jW;rw[h]
 split
 ·rw [<- Nat.mul_assoc,<-Nat.mul_assoc,e]
 split
 ·rw [<- Nat.mul_assoc,<-Nat.mul_assoc,e]
 exact e
theorem oR {A:List NA} :∀ {k j:Nat},j ∈ yJ A k->jX A (wX A k) j
 |0,j,hj=>by cases hj
 |k+1,j,hj=>by
  by_cases e:zQ A k (fN A k)=zQ A k (tN A k)
  ·rw [tX e]at hj
   rw[lG e];exact oR hj
  rw[rY e]at hj;rw[iH e]
  rcases List.mem_append.1 hj with h|h
  ·exact LR (XX h) (oR h)
  obtain rfl:=List.mem_singleton.1 h;unfold jX jW;rw[if_pos rfl,if_neg (fun q=>e q.symm),if_pos rfl,<-Nat.mul_assoc,<-Nat.mul_assoc];exact quot_mul _ _
theorem RC {x y:Nat} (hx:1<=x):Nat.gcd (x / Nat.gcd x y) (y / Nat.gcd x y)=1:=quo_cop hx
theorem RB {A:List NA} {k:Nat} (e:¬zQ A k (fN A k)=zQ A k (tN A k)) (v:Nat):zQ A (k+1) v=if zQ A k v=zQ A k (fN A k)\/zQ A k v=zQ A k (tN A k) then min (zQ A k (fN A k)) (zQ A k (tN A k)) else zQ A k v:=by
 rw[mT e];unfold tA
 by_cases h1:zQ A k v=zQ A k (fN A k)
 ·rw [if_pos (Or.inl h1:zQ A k v=zQ A k (fN A k)\/zQ A k v=zQ A k (tN A k))]
  split
  ·rfl
  rw[h1]at *;omega
 by_cases h2:zQ A k v=zQ A k (tN A k)
 ·rw [if_pos (Or.inr h2:zQ A k v=zQ A k (fN A k)\/zQ A k v=zQ A k (tN A k))]
  split
  ·rfl
  rw[h2]at *;omega
 rw[if_neg (show ¬(zQ A k v=zQ A k (fN A k)\/zQ A k v=zQ A k (tN A k)) from fun q=>q.elim h1 h2),if_neg (by omega)]
theorem zPD {S:Nat->Prop} {c:Nat->Nat} {d m u:Nat} (hu:S u) (hc:∀v,1<=c v) (hm:1<=m) (h:∀v,S v->d ∣ c v*m) (h1:∀e,(∀ v,S v->e ∣ c v)->e=1):d ∣ m:=by
 have hd:1<=d:=Nat.pos_of_dvd_of_pos (h u hu) (Nat.mul_pos (hc u) hm);have hg:1<=Nat.gcd d m:=Nat.gcd_pos_of_pos_left m hd
 have e1:d / Nat.gcd d m=1:=h1 _ fun v hv=>by
  have q:=h v hv;have cop:=RC (x:=d) (y:=m) hd;have ed:d / Nat.gcd d m*Nat.gcd d m=d:=Nat.div_mul_cancel (Nat.gcd_dvd_left d m);have em:m / Nat.gcd d m*Nat.gcd d m=m:=Nat.div_mul_cancel (Nat.gcd_dvd_right d m);obtain ⟨t,ht⟩:=q;refine Nat.Coprime.dvd_of_dvd_mul_right cop ⟨t,?_⟩
  have:c v*(m / Nat.gcd d m)*Nat.gcd d m=d / Nat.gcd d m*t*Nat.gcd d m:=by
   rw[Nat.mul_assoc,em,ht,Nat.mul_right_comm,ed]
  exact Nat.eq_of_mul_eq_mul_right hg this
 have ed:d / Nat.gcd d m*Nat.gcd d m=d:=Nat.div_mul_cancel (Nat.gcd_dvd_left d m);rw[e1,Nat.one_mul]at ed;rw[<- ed];exact Nat.gcd_dvd_right d m
theorem QZ {A:List NA} {n:Nat} (hR:LT A n):∀ {k:Nat},k<=n->∀(u d:Nat),(∀ v,zQ A k v=zQ A k u->d ∣ wX A k v)->d=1
 |0,_,u,d,h=>Nat.dvd_one.1 (h u rfl)
 |k+1,hk,u,d,h=>by
  have ih:=fun u d=>QZ hR (Nat.le_of_succ_le hk) u d
  have hp:=mK hR (Nat.le_of_succ_le hk)
  by_cases e:zQ A k (fN A k)=zQ A k (tN A k)
  ·rw [lG e,sM e]at h
   exact ih u d h
  obtain ⟨r1,r2⟩:=hR k hk;have px:1<=gN A k*wX A k (fN A k):=Nat.mul_pos r1 (hp _);have py:1<=kN A k*wX A k (tN A k):=Nat.mul_pos r2 (hp _);rw[iH e]at h;simp only[RB e]at h;unfold jW at h
  by_cases g:zQ A k u=zQ A k (fN A k)\/zQ A k u=zQ A k (tN A k)
  ·rw [if_pos g]at h
   have d1:=zPD (S:=fun v=>zQ A k v=zQ A k (fN A k)) (c:=wX A k) (d:=d) rfl hp (sS (x:=gN A k*wX A k (fN A k)) py) (fun v hv=>by
    have q:=h v (by rw[if_pos (.inl hv)])
    rwa[if_pos hv]at q) (fun e' he=>ih (fN A k) e' he)
   have d2:=zPD (S:=fun v=>zQ A k v=zQ A k (tN A k)) (c:=wX A k) (d:=d) rfl hp (mL (y:=kN A k*wX A k (tN A k)) px) (fun v hv=>by
    have q:=h v (by rw[if_pos (.inr hv)])
    rwa[if_neg (by rw[hv];exact fun q=>e q.symm),if_pos hv]at q) (fun e' he=>ih (tN A k) e' he)
   have:=Nat.dvd_gcd d2 d1;rw[RC px]at this;exact Nat.dvd_one.1 this
  rw[if_neg g]at h
  refine ih u d fun v hv=>?_
  have g1:¬zQ A k v=zQ A k (fN A k):=fun q=>g (.inl (hv ▸ q))
  have g2:¬zQ A k v=zQ A k (tN A k):=fun q=>g (.inr (hv ▸ q))
  have q:=h v (by rw[if_neg (fun q=>q.elim g1 g2)];exact hv);rwa[if_neg g1,if_neg g2]at q
end Go.Proofs.YtpohmekkdjdhmaaGreat
