/- Texts of one chain. -/
import Derived.Test.YtdcjdnkdeamigaaGreatDoorPartQ
import Derived.Test.YtdcjdnkdeamigaaGreatDoorPartSourceWhere29
import Derived.Test.YtdcjdnkdeamigaaGreatDoorPartSourceWhere9
import Derived.Test.YtdcjdnkdeamigaaGreatDoorPartSourceWhere7
set_option maxHeartbeats 1000000
namespace Go.Proofs.YtdcjdnkdeamigaaGreatDoor
open Go.ChangeShapes Go.WideShapes Go.ChangeAt Go.RowKit
structure EA where
 name:List UInt8
 port:Int
 place:Int
def eK:EA:=⟨[],0,0⟩
structure wJ where
 kind:Int
 name:List UInt8
 tag:List UInt8
 nums:List Int
 frm:EA
 tgt:EA
 place:Int
theorem XD {base:Nat} {w:World} {e:TypeId} {size n:Nat} {v:Value} {xs:List Value} (h:w.ownsRow base e size v n xs) {k:Nat} (hk:k<base):v.ownBlock≠some k:=by
 rcases h.2 with ⟨rfl,-⟩|⟨g,c,cur,rfl,hg,-⟩
 ·intro e;cases e
 intro e;cases e;exact absurd hk (by simpa using hg)
theorem bM {base:Nat} {w w':World} {e:TypeId} {size n:Nat} {v:Value} {xs:List Value} {b:Nat} (h:w.ownsRow base e size v n xs) (hg:w.grownBy w' (some b)) (hb:b<base):w'.ownsRow base e size v n xs:=World.ownsRow.kept h hg (Or.inr (XD h hb))
theorem yY {base:Nat} {w w':World} {e:TypeId} {size n:Nat} {v:Value} {xs:List Value} (h:w.ownsRow base e size v n xs) (hb:Below w.heap.size w w'):w'.ownsRow base e size v n xs:=by
 refine ⟨h.1,?_⟩
 rcases h.2 with h2|⟨g,cap,cur,hv,hg,hh,r⟩
 ·exact .inl h2
 refine .inr ⟨g,cap,cur,hv,hg,?_,r⟩
 rw[hb.block g (Array.getElem?_eq_some_iff.1 hh).1];exact hh
theorem uQ {base base':Nat} {w:World} {e:TypeId} {size n:Nat} {v:Value} {xs:List Value} (h:w.ownsRow base e size v n xs) (hb:base'<=base):w.ownsRow base' e size v n xs:=by
 refine ⟨h.1,?_⟩
 rcases h.2 with h2|⟨g,cap,cur,hv,hg,r⟩
 ·exact .inl h2
 exact .inr ⟨g,cap,cur,hv,Nat.le_trans hb hg,r⟩
def wU (base:Nat) (w:World) (v:Value) (ns:List Int):Prop:=w.ownsRow base 3 1 v ns.length (ns.map (Value.int .i64))
theorem zQ {base:Nat} {w:World} {e:TypeId} {size n:Nat} {v:Value} {xs:List Value} (h:w.ownsRow base e size v n xs):∀k,v.ownBlock=some k->base<=k:=fun k e=>by
 rcases Nat.lt_or_ge k base with h1|h1
 ·exact absurd e (XD h h1)
 exact h1
def JI (kind:Int) (nm tg:List UInt8) (r:Value) (f t:EA) (pl:Int):Array Value:=
 #[.int .u8 kind,.string (zW nm),.string (zW tg),r,.string (zW f.name),.int .i64 f.port,.int .i64 f.place,.string (zW t.name),.int .i64 t.port,.int .i64 t.place,.int .i64 pl]
theorem wU.mono {base base' w r ns} (h:wU base w r ns) (hb:base'<=base):wU base' w r ns:=uQ h hb
theorem wU.below {base w w' r ns} (h:wU base w r ns) (hb:Below w.heap.size w w'):wU base w' r ns:=yY h hb
theorem wU.grown {base w w' r ns} {b:Nat} (h:wU base w r ns) (hg:w.grownBy w' (some b)) (hb:b<base):wU base w' r ns:=bM h hg hb
theorem wU.put {base w r ns} (h:wU base w r ns) {I k:Nat} {u:Value} (hI:I<base):wU base (w.setCell ⟨I,k,none⟩ u) r ns:=ownsRow_setCell_below h hI u
theorem zI {base:Nat} {w:World} {e:TypeId} {size n:Nat} {v:Value} {xs:List Value} (h:w.ownsRow base e size v n xs):∀k,v.ownBlock=some k->k<w.heap.size:=fun k hk=>by
 rcases h.2 with ⟨rfl,-⟩|⟨g,c,cur,rfl,hg,hh,-⟩
 ·cases hk
 cases hk
 exact (Array.getElem?_eq_some_iff.1 hh).1
theorem wU.kept {base w w' r ns} {row:Option Nat} (h:wU base w r ns) (hg:w.grownBy w' row) (hr:∀k,row=some k->k<base):wU base w' r ns:=by
 refine World.ownsRow.kept h hg ?_
 by_cases e:r.ownBlock=none
 ·exact Or.inl e
 refine Or.inr (fun e2=>?_)
 cases hk:r.ownBlock with
 |none=>exact e hk
 |some k=>
  have h1:=hr k (by rw[<- e2,hk]);exact XD h h1 hk
def lW (p:wJ × Value):List Value:=(JI p.1.kind p.1.name p.1.tag p.2 p.1.frm p.1.tgt p.1.place).toList
structure iY (base : Nat) (w : World) (v : Value) (L : List (wJ × Value)) : Prop where
 row:w.ownsRow base 103 11 v L.length (L.flatMap lW)
 nums:∀p ∈ L,wU base w p.2 p.1.nums
 off:∀p ∈ L,∀k,p.2.ownBlock=some k->v.ownBlock≠some k
 pair:L.Pairwise (fun p q=>∀k,p.2.ownBlock=some k->q.2.ownBlock≠some k)
theorem PK (base:Nat) (w:World):iY base w (qN) []:=⟨World.ownsRow_nil _ _ _ _,fun _ h=>(by cases h),fun _ h=>(by cases h),List.Pairwise.nil⟩
theorem iY.below {base w w' v L} (h:iY base w v L) (hb:Below w.heap.size w w'):iY base w' v L:=⟨yY h.row hb,fun p hp=>(h.nums p hp).below hb,h.off,h.pair⟩
theorem iY.grown {base w w' v L} {b:Nat} (h:iY base w v L) (hg:w.grownBy w' (some b)) (hb:b<base):iY base w' v L:=⟨bM h.row hg hb,fun p hp=>(h.nums p hp).grown hg hb,h.off,h.pair⟩
theorem iY.put {base w v L} (h:iY base w v L) {I k:Nat} {u:Value} (hI:I<base):iY base (w.setCell ⟨I,k,none⟩ u) v L:=⟨ownsRow_setCell_below h.row hI u,fun p hp=>(h.nums p hp).put hI,h.off,h.pair⟩
theorem iY.mono {base base' w v L} (h:iY base w v L) (hb:base'<=base):iY base' w v L:=⟨uQ h.row hb,fun p hp=>(h.nums p hp).mono hb,h.off,h.pair⟩
theorem iY.shape {base w v L} (h:iY base w v L):∃a c,v=.slice a L.length c:=by
 rcases h.row.2 with ⟨rfl,h0⟩|⟨g,cap,cur,rfl,-⟩
 ·exact ⟨none,0,by rw[h0]⟩
 exact ⟨_,_,rfl⟩
theorem iY.app {base w w' v v' L x q} {m:Nat} (h:iY base w v L) (hq:wU m w q x.nums) (hm:∀k,(v.ownBlock=some k\/∃p ∈ L,p.2.ownBlock=some k)->k<m) (hbm:base<=m)
 (ho:w'.ownsRow base 103 11 v' (L.length+1) (L.flatMap lW++lW (x,q)))
 (ht:(∃ g cap,v=.slice (some ⟨g,0,none⟩) L.length cap/\v'=.slice (some ⟨g,0,none⟩) (L.length+1) cap/\w.grownBy w' (some g))\/(∃ cap,v'=.slice (some ⟨w.heap.size,0,none⟩) (L.length+1) cap/\w.grownBy w' none)):
 iY base w' v' (L++[(x,q)]):=by
 have hqb:∀k,q.ownBlock=some k->m<=k:=zQ hq
 have hrow:w'.ownsRow base 103 11 v' (L++[(x,q)]).length ((L++[(x,q)]).flatMap lW):=by
  rw[List.flatMap_append,List.length_append]
  simpa [List.flatMap] using ho
 have hpair:(L++[(x,q)]).Pairwise (fun p q=>∀k,p.2.ownBlock=some k->q.2.ownBlock≠some k):=by
  rw[List.pairwise_append];refine ⟨h.pair,List.pairwise_singleton _ _,fun p hp r hr k e e2=>?_⟩
  have er:r=(x,q):=by simpa using hr
  subst er;have h1:=hm k (Or.inr ⟨p,hp,e⟩);have h2:=hqb k e2;omega
 rcases ht with ⟨g,cap,rfl,rfl,hg⟩|⟨cap,rfl,hg⟩
 ·have hgm:=hm g (Or.inl rfl)
  refine ⟨hrow,fun p hp=>?_,fun p hp k e=>?_,hpair⟩
  ·rcases List.mem_append.1 hp with hp|hp
   ·refine World.ownsRow.kept (h.nums p hp) hg ?_
    by_cases e:p.2.ownBlock=none
    ·exact Or.inl e
    exact Or.inr (fun e2=>h.off p hp g e2 rfl)
   have ep:p=(x,q):=by simpa using hp
   subst ep;exact (hq.kept hg (fun k e=>by cases e;exact hgm)).mono hbm
  rcases List.mem_append.1 hp with hp|hp
  ·exact h.off p hp k e
  have ep:p=(x,q):=by simpa using hp
  subst ep;intro e2;have h2:=hqb k e;have h3:g=k:=Option.some.inj e2;omega
 have hsz:∀ {r:Value} {ns:List Int} {b:Nat},wU b w r ns->∀k,r.ownBlock=some k->k<w.heap.size:=fun hr=>zI hr
 have kp:∀ {r:Value} {ns:List Int} {b:Nat},wU b w r ns->wU b w' r ns:=fun hr=>World.ownsRow.kept hr hg (Classical.em _)
 refine ⟨hrow,fun p hp=>?_,fun p hp k e e2=>?_,hpair⟩
 ·rcases List.mem_append.1 hp with hp|hp
  ·exact kp (h.nums p hp)
  have ep:p=(x,q):=by simpa using hp
  subst ep;exact (kp hq).mono hbm
 have e3:w.heap.size=k:=Option.some.inj e2
 rcases List.mem_append.1 hp with hp|hp
 ·have:=hsz (h.nums p hp) k e
  omega
 have ep:p=(x,q):=by simpa using hp
 subst ep;have:=hsz hq k e;omega
def PJ:wJ:=⟨0,[],[],[],eK,eK,0⟩
def sD (L:List (wJ × Value)) (k:Nat):wJ × Value:=L.getD k (PJ,qN)
structure oY (w : World) (g o : Nat) (p : wJ × Value) : Prop where
 c0:w.cell? ⟨g,o,none⟩=some (.int .u8 p.1.kind)
 c1:w.cell? ⟨g,o+1,none⟩=some (.string (zW p.1.name))
 c2:w.cell? ⟨g,o+2,none⟩=some (.string (zW p.1.tag))
 c3:w.cell? ⟨g,o+3,none⟩=some p.2
 c4:w.cell? ⟨g,o+4,none⟩=some (.string (zW p.1.frm.name))
 c5:w.cell? ⟨g,o+5,none⟩=some (.int .i64 p.1.frm.port)
 c6:w.cell? ⟨g,o+6,none⟩=some (.int .i64 p.1.frm.place)
 c7:w.cell? ⟨g,o+7,none⟩=some (.string (zW p.1.tgt.name))
 c8:w.cell? ⟨g,o+8,none⟩=some (.int .i64 p.1.tgt.port)
 c9:w.cell? ⟨g,o+9,none⟩=some (.int .i64 p.1.tgt.place)
 c10:w.cell? ⟨g,o+10,none⟩=some (.int .i64 p.1.place)
def jF (w:World) (r:Value) (ns:List Int):Prop:=
 ∃a c,r=.slice a ns.length c/\(ns=[]\/∃g off,a=some ⟨g,off,none⟩/\∀k,k<ns.length->w.cell? ⟨g,off+k,none⟩=some (.int .i64 (ns.getD k 0)))
structure YQ (w : World) (a : Option Addr) (L : List (wJ × Value)) : Prop where
 lie:L=[]\/∃g off,a=some ⟨g,off,none⟩/\∀k,k<L.length->oY w g (off+k*11) (sD L k)
 nums:∀p ∈ L,jF w p.2 p.1.nums
theorem zR {w w':World} (hb:Below w.heap.size w w') {p:Addr} {x:Value} (h:w.cell? p=some x):w'.cell? p=some x:=(hb.cell (block_lt_of_cell h)).trans h
theorem oY.below {w w' g o p} (h:oY w g o p) (hb:Below w.heap.size w w'):oY w' g o p:=
 ⟨zR hb h.c0,zR hb h.c1,zR hb h.c2,zR hb h.c3,zR hb h.c4,zR hb h.c5,zR hb h.c6,zR hb h.c7,zR hb h.c8,zR hb h.c9,zR hb h.c10⟩
theorem jF.below {w w' r ns} (h:jF w r ns) (hb:Below w.heap.size w w'):jF w' r ns:=by
 obtain ⟨a,c,rfl,h⟩:=h;refine ⟨a,c,rfl,?_⟩
 rcases h with h|⟨g,off,e,hc⟩
 ·exact Or.inl h
 exact Or.inr ⟨g,off,e,fun k hk=>zR hb (hc k hk)⟩
theorem YQ.below {w w' a L} (h:YQ w a L) (hb:Below w.heap.size w w'):YQ w' a L:=by
 refine ⟨?_,fun p hp=>(h.nums p hp).below hb⟩
 rcases h.lie with h|⟨g,off,e,hc⟩
 ·exact Or.inl h
 exact Or.inr ⟨g,off,e,fun k hk=>(hc k hk).below hb⟩
theorem wU.at5 {base w r ns} (h:wU base w r ns):jF w r ns:=by
 rcases h.2 with ⟨rfl,h0⟩|⟨g,cap,cur,rfl,-⟩
 ·have e:ns=[]:=List.eq_nil_of_length_eq_zero h0
  subst e;exact ⟨none,0,rfl,Or.inl rfl⟩
 refine ⟨_,_,rfl,Or.inr ⟨g,0,rfl,fun k hk=>?_⟩⟩
 have h1:=World.ownsRow.cells h (g:=g) rfl k (.int .i64 (ns.getD k 0)) (by rw[List.getElem?_map,List.getD_eq_getElem?_getD,List.getElem?_eq_getElem hk];rfl)
 have e:(⟨g,0,none⟩:Addr).add k=⟨g,k,none⟩:=by
  unfold Addr.add
  by_cases h0:k=0
  ·subst h0;rfl
  simp[h0]
 rw[e]at h1;rw[Nat.zero_add];exact h1
theorem sQ (g m:Nat):(⟨g,0,none⟩:Addr).add m=⟨g,m,none⟩:=by
 unfold Addr.add
 by_cases h0:m=0
 ·subst h0;rfl
 simp[h0]
theorem RH:∀(L:List (wJ × Value)) (k r:Nat),k<L.length->r<11->(L.flatMap lW)[k*11+r]? =(lW (sD L k))[r]?
 |[],k,r,h,_=>by simp at h
 |t::L,0,r,_,hr=>by
  rw[List.flatMap_cons,List.getElem?_append_left (by show 0*11+r<11;omega),Nat.zero_mul,Nat.zero_add];rfl
 |t::L,k+1,r,h,hr=>by
  rw[List.flatMap_cons,List.getElem?_append_right (by show 11<=(k+1)*11+r;omega)]
  have e:(k+1)*11+r-(lW t).length=k*11+r:=by show (k+1)*11+r-11=_;omega
  rw[e,RH L k r (by simp at h;omega) hr];rfl
theorem iY.at5 {base w a c L} (h:iY base w (.slice a L.length c) L):YQ w a L:=by
 refine ⟨?_,fun p hp=>(h.nums p hp).at5⟩
 rcases h.row.2 with ⟨e,h0⟩|⟨g,cap,cur,e,-⟩
 ·exact Or.inl (List.eq_nil_of_length_eq_zero h0)
 cases e
 refine Or.inr ⟨g,0,rfl,fun k hk=>?_⟩
 have f:∀r u,r<11->(lW (sD L k))[r]? =some u->w.cell? ⟨g,0+k*11+r,none⟩=some u:=fun r u hr hu=>by
  have h1:=World.ownsRow.cells h.row (g:=g) rfl (k*11+r) u (by rw[RH L k r hk hr];exact hu);rw[sQ]at h1;rw[Nat.zero_add];exact h1
 exact ⟨f 0 _ (by decide) rfl,f 1 _ (by decide) rfl,f 2 _ (by decide) rfl,f 3 _ (by decide) rfl,f 4 _ (by decide) rfl,f 5 _ (by decide) rfl,f 6 _ (by decide) rfl,f 7 _ (by decide) rfl,f 8 _ (by decide) rfl,f 9 _ (by decide) rfl,f 10 _ (by decide) rfl⟩
theorem gW {L:List (wJ × Value)} {k:Nat} (h:k<L.length):sD L k ∈ L:=by
 unfold sD;rw[List.getD_eq_getElem?_getD,List.getElem?_eq_getElem h];exact List.getElem_mem h
theorem yT {B:Nat} {a w w':World} {row:Option Nat} (h:Below B a w) (hg:w.grownBy w' row) (hk:∀k,row=some k->B<=k) (hB:B<=w.heap.size):Below B a w':=
 h.trans ⟨hg.os,hg.tape,hg.output,hg.size,fun i hi=>hg.block i (by omega) (fun e=>by have:=hk i e.symm;omega)⟩
structure CN (w : World) (a : Option Addr) (n : Nat) (L : List (wJ × Value)) : Prop where
 size:L.length=n
 lies:YQ w a L
 reach:n<=140737488351232
 nums:∀p ∈ L,p.1.nums.length<=140737488351232
 shp:∀p ∈ L,∃b d,p.2=.slice b p.1.nums.length d/\(b=none->p.1.nums.length=0/\d=0)/\p.1.nums.length<=d
 fits:∀p ∈ L,(-9223372036854775808<=p.1.frm.port/\p.1.frm.port<=9223372036854775807)/\(-9223372036854775808<=p.1.tgt.port/\p.1.tgt.port<=9223372036854775807)/\∀x ∈ p.1.nums,-9223372036854775808<=x/\x<=9223372036854775807
theorem CN.below {w w' a n L} (h:CN w a n L) (hb:Below w.heap.size w w'):CN w' a n L:=⟨h.size,h.lies.below hb,h.reach,h.nums,h.shp,h.fits⟩
theorem YQ.pre {w a L M} (h:YQ w a (L++M)):YQ w a L:=by
 refine ⟨?_,fun p hp=>h.nums p (List.mem_append_left _ hp)⟩
 rcases h.lie with h0|⟨g,off,e,hc⟩
 ·exact .inl (List.append_eq_nil_iff.1 h0).1
 refine .inr ⟨g,off,e,fun k hk=>?_⟩
 have:=hc k (by rw[List.length_append];omega);unfold sD at this ⊢;rw[List.getD_eq_getElem?_getD,List.getElem?_append_left hk]at this;rw[List.getD_eq_getElem?_getD];exact this
theorem MJ {L:List (wJ × Value)} {k:Nat} (h:k<L.length):(L.take (k+1)).map Prod.fst=(L.take k).map Prod.fst++[(sD L k).1]:=by
 rw[List.take_add_one,List.getElem?_eq_getElem h,List.map_append];unfold sD;rw[List.getD_eq_getElem?_getD,List.getElem?_eq_getElem h];rfl
def IB (w:World) (a:Option Addr) (As:List GA):Prop:=As=[]\/∃b off,a=some ⟨b,off,none⟩/\∀k,k<As.length->w.cell? ⟨b,off+k*3,none⟩=some (.string (zW (yI As k).name))/\w.cell? ⟨b,off+k*3+1,none⟩=some (.int .u8 ((yI As k).tag:Int))/\(yI As k).tag<=255/\∃x c,w.cell? ⟨b,off+k*3+2,none⟩=some (.slice x (yI As k).params.length c)/\YF w x (yI As k).params.length c (yI As k).params
def RG (w:World) (a:Option Addr) (Es:List GE):Prop:=Es=[]\/∃b off,a=some ⟨b,off,none⟩/\∀k,k<Es.length->w.cell? ⟨b,off+k*5,none⟩=some (.int .i64 (wK Es k).f)/\w.cell? ⟨b,off+k*5+1,none⟩=some (.int .i64 (wK Es k).fp)/\w.cell? ⟨b,off+k*5+2,none⟩=some (.int .i64 (wK Es k).t)/\w.cell? ⟨b,off+k*5+3,none⟩=some (.int .i64 (wK Es k).tp)/\∃x c,w.cell? ⟨b,off+k*5+4,none⟩=some (.slice x (wK Es k).start.length c)/\YF w x (wK Es k).start.length c (wK Es k).start
theorem IB.at {w:World} {a:Option Addr} {As:List GA} (h:IB w a As):IC w a As:=by
 rcases h with h|⟨b,off,e,hc⟩
 ·exact .inl h
 exact .inr ⟨b,off,e,fun k hk=>by
  obtain ⟨h1,h2,h3,x,c,h4,h5⟩:=hc k hk
  exact ⟨h1,h2,h3,x,c,h4,h5.lies⟩⟩
theorem RG.at {w:World} {a:Option Addr} {As:List GE} (h:RG w a As):DG w a As:=by
 rcases h with h|⟨b,off,e,hc⟩
 ·exact .inl h
 exact .inr ⟨b,off,e,fun k hk=>by
  obtain ⟨h1,h2,h3,h4,x,c,h5,h6⟩:=hc k hk
  exact ⟨h1,h2,h3,h4,x,c,h5,h6.lies⟩⟩
theorem IB.below {w w':World} {a:Option Addr} {As:List GA} (h:IB w a As) (hb:Below w.heap.size w w'):IB w' a As:=by
 rcases h with h|⟨b,off,e,hc⟩
 ·exact .inl h
 exact .inr ⟨b,off,e,fun k hk=>by
  obtain ⟨h1,h2,h3,x,c,h4,h5⟩:=hc k hk
  exact ⟨xE hb h1,xE hb h2,h3,x,c,xE hb h4,h5.below hb⟩⟩
theorem RG.below {w w':World} {a:Option Addr} {As:List GE} (h:RG w a As) (hb:Below w.heap.size w w'):RG w' a As:=by
 rcases h with h|⟨b,off,e,hc⟩
 ·exact .inl h
 exact .inr ⟨b,off,e,fun k hk=>by
  obtain ⟨h1,h2,h3,h4,x,c,h5,h6⟩:=hc k hk
  exact ⟨xE hb h1,xE hb h2,xE hb h3,xE hb h4,x,c,xE hb h5,h6.below hb⟩⟩
structure UH (w : World) (a1 a2 a3 a4 : Option Addr) (g : GG) : Prop where
 A:IB w a1 g.A
 E:RG w a2 g.E
 I:nN w a3 g.ins
 O:nN w a4 g.outs
 l1:g.A.length<=1000000000000000
 l2:g.E.length<=1000000000000000
 l3:g.ins.length<=1000000000000000
 l4:g.outs.length<=1000000000000000
theorem UH.below {w w':World} {a1 a2 a3 a4:Option Addr} {g:GG} (h:UH w a1 a2 a3 a4 g) (hb:Below w.heap.size w w'):UH w' a1 a2 a3 a4 g:=
 ⟨h.A.below hb,h.E.below hb,h.I.below hb,h.O.below hb,h.l1,h.l2,h.l3,h.l4⟩
theorem DZ (a b c d:Value) (w:World):(Instr.field 85 (.agg #[a,b,c,d]) 0).run Tryz.prog w=.ok a w:=by kernel_rfl
set_option maxRecDepth 100000 in
theorem MI (g:GG) (a1 a2 a3 a4:Option Addr) (c1 c2 c3 c4:Nat) (w:World) (h:UH w a1 a2 a3 a4 g):
 Calls Tryz.prog 21 #[.agg #[.string (zW g.name),.slice a1 g.A.length c1,.slice a2 g.E.length c2,.slice a3 g.ins.length c3,.slice a4 g.outs.length c4]] w fun e w'=>e=.returned (.int .i64 (yD g).code)/\Below w.heap.size w w':=by
 have ba:=(Below.refl w.heap.size w).alloc (Nat.le_refl _) (.cells #[.string (zW g.name),.slice a1 g.A.length c1,.slice a2 g.E.length c2,.slice a3 g.ins.length c3,.slice a4 g.outs.length c4] 26);have h2:=h.below ba;have HF:=zZ (jR g a1 a2 a3 a4 c1 c2 c3 c4 _ h2.A.at h2.E.at h2.I h2.O h.l1 h.l2 h.l3 h.l4);obtain ⟨⟨q,k,n,e⟩,hf⟩:∃f,yD g=f:=⟨_,rfl⟩;rw[hf]at HF;rw[hf];unfold WS at HF;have BA:=zZ ba;have gg:=zL 26 w #[.string (zW g.name),.slice a1 g.A.length c1,.slice a2 g.E.length c2,.slice a3 g.ins.length c3,.slice a4 g.outs.length c4];have x0:=gg.cell (k:=0) rfl;have x1:=gg.cell (k:=1) rfl;have x2:=gg.cell (k:=2) rfl;have x3:=gg.cell (k:=3) rfl;have x4:=gg.cell (k:=4) rfl;have f0:=DZ (.int .i64 q) (.int .u8 (k:Int)) (.int .i64 (n:Int)) (.int .u8 (e:Int));clear ba h2 h gg hf
 go_enter Tryz.func21,Tryz.ntmps21
 go_upto_region 1 with fail
 generalize w.alloc (.cells #[.string (zW g.name),.slice a1 g.A.length c1,.slice a2 g.E.length c2,.slice a3 g.ins.length c3,.slice a4 g.outs.length c4] 26)=W0 at *
 go_wp2_with (go_at_call 43;(with_reducible refine HF.out.mono ?_);rintro e w1 ⟨rfl,b1⟩;have B1:=zZ b1;clear b1)
 go_ret
 exact ⟨rfl,BA.out.trans (B1.out.mono BA.out.size)⟩
theorem mN (a:Option Addr) (zs:List Int) (len cap:Nat) (w:World) (h:YF w a len cap zs):
 Calls Tryz.prog 93 #[.slice a len cap] w (kQ w len zs):=by
 obtain ⟨hl,hr,hn,-,hat,-⟩:=h;obtain ⟨i0,hi,hz0,hz1,hz2⟩:=info_parts Tryz.info3
 cases a with
 |none=>
  obtain ⟨rfl,rfl⟩:=hn rfl
  go_enter Tryz.func93,Tryz.ntmps93
  go_wp2_with (at_builtin;refine wpList_append_own_none rfl _ _ 60 rfl w.heap.size 3 i0 1 Tryz.underlying60 hi _ 0 [] rfl (World.ownsRow_nil _ _ _ _) rfl ?_)
  go_ret
  have e:zs=[]:=List.eq_nil_of_length_eq_zero hl;subst e;exact ⟨none,0,rfl,World.ownsRow_nil _ _ _ _,Below.refl _ _⟩
 |some ad=>
  go_enter Tryz.func93,Tryz.ntmps93
  go_wp2_with (at_builtin;refine wpList_append_own _ rfl _ _ 60 rfl w.heap.size 3 i0 (.int .i64 0) 1 8 Tryz.underlying60 hi hz0 hz1 hz2 rfl (by decide) _ 0 [] rfl (World.ownsRow_nil _ _ _ _) ad len cap (zs.map (Value.int .i64)) rfl (by simp[hl]) (WM hat) (ints_oneCell _ _) ?c3 ?c4 (Nat.le_refl _) ?_)
  case c3=>unfold maxLen;omega
  case c4=>omega
  intro v' w1 hown hgrow _
  have hown':w1.ownsRow w.heap.size 3 1 v' len (zs.map (Value.int .i64)):=by simpa using hown
  obtain ⟨a',cap',hv,-,hat',hc',hn',hb'⟩:=dW (n:=len) (zs:=zs) hown';rw[hv]
  go_wp2
  go_ret
  refine ⟨a',cap',rfl,?_,(Below.refl _ _).grown hgrow (Nat.le_refl _) (fun k h=>by cases h)⟩
  unfold xM;rw[hl,<-hv];exact hown'
def ElV (E:World->List Value->Prop) (u:World) (z:Value):Prop:=∃es,z=.agg es.toArray/\E u es
def ElC (E:World->List Value->Prop) (V u:World) (z:Value):Prop:=∃h es,z=.slice (some ⟨h,0,none⟩) 1 1/\V.heap.size<=h/\h<u.heap.size/\(∀ k y,es[k]? =some y->u.cell? ⟨h,k,none⟩=some y)/\E u es
theorem ElV.later {E:World->List Value->Prop} (hE:∀u u' es,E u es->Below u.heap.size u u'->E u' es) {u u':World} {z:Value} (h:ElV E u z) (hb:Below u.heap.size u u'):ElV E u' z:=by
 obtain ⟨es,h1,h2⟩:=h;exact ⟨es,h1,hE _ _ _ h2 hb⟩
theorem ElC.later {E:World->List Value->Prop} {V:World} (hE:∀u u' es,E u es->Below u.heap.size u u'->E u' es) {u u':World} {z:Value} (h:ElC E V u z) (hb:Below u.heap.size u u'):ElC E V u' z:=by
 obtain ⟨g,es,h1,h2,h3,h4,h5⟩:=h;exact ⟨g,es,h1,h2,Nat.lt_of_lt_of_le h3 hb.size,fun k y hy=>zR hb (h4 k y hy),hE _ _ _ h5 hb⟩
structure MH (E : World -> List Value -> Prop) (V : World) (B : Nat) (T : TypeId) (c : Nat) (v : Value) (n : Nat) (xs : List Value) (w1 u1 : World) (es : List Value) (z : Value) : Prop where
 bel:Below V.heap.size V w1
 el:E w1 es
 own:u1.ownsRow B T c z (n+1) (xs++es)
 told:(∃ g cap,v=.slice (some ⟨g,0,none⟩) n cap/\z=.slice (some ⟨g,0,none⟩) (n+1) cap/\w1.grownBy u1 (some g))\/(∃ cap,z=.slice (some ⟨w1.heap.size,0,none⟩) (n+1) cap/\w1.grownBy u1 none)
theorem MH.shape {E V B T c v n xs w1 u1 es z} (h:MH E V B T c v n xs w1 u1 es z):∃g cap,z=.slice (some ⟨g,0,none⟩) (n+1) cap:=by
 rcases h.told with ⟨g,cap,-,e,-⟩|⟨cap,e,-⟩<;>exact ⟨_,_,e⟩
theorem MH.chg {E V B T c v n xs w1 u1 es z} (h:MH E V B T c v n xs w1 u1 es z):wL (fun k=>v.ownBlock=some k) V u1:=by
 rcases h.told with ⟨g,cap,e,-,hg⟩|⟨cap,-,hg⟩
 ·exact (wL.of_below h.bel).trans' (wL.grown hg fun k hk=>by cases hk;rw[e];rfl)
 exact (wL.of_below h.bel).trans' (wL.grown hg fun k hk=>by cases hk)
def DY (E:World->List Value->Prop) (V:World) (B:Nat) (T:TypeId) (c:Nat) (v:Value) (n:Nat) (xs:List Value) (u:World) (z:Value):Prop:=∃es w1 u1,MH E V B T c v n xs w1 u1 es z/\Below u1.heap.size u1 u
theorem DY.later {E V B T c v n xs u u' z} (h:DY E V B T c v n xs u z) (hb:Below u.heap.size u u'):DY E V B T c v n xs u' z:=by
 obtain ⟨es,w1,u1,h1,h2⟩:=h;exact ⟨es,w1,u1,h1,h2.trans (hb.mono h2.size)⟩
theorem DY.size {E V B T c v n xs u z} (h:DY E V B T c v n xs u z):V.heap.size<=u.heap.size:=by
 obtain ⟨es,w1,u1,h1,h2⟩:=h;exact Nat.le_trans h1.chg.size h2.size
theorem DY.shape {E V B T c v n xs u z} (h:DY E V B T c v n xs u z):∃g cap,z=.slice (some ⟨g,0,none⟩) (n+1) cap:=by
 obtain ⟨es,w1,u1,h1,h2⟩:=h;exact h1.shape
theorem DY.chg {E V B T c v n xs u z} (h:DY E V B T c v n xs u z):wL (fun k=>v.ownBlock=some k) V u:=by
 obtain ⟨es,w1,u1,h1,h2⟩:=h;exact h1.chg.trans' (wL.of_below h2)
def RF (E:World->List Value->Prop) (V:World) (B:Nat) (T:TypeId) (c:Nat) (v:Value) (n:Nat) (xs:List Value) (S:TypeId) (b f:Nat) (cs:Array Value) (u:World):Prop:=
 ∃es w1 u1 z,MH E V B T c v n xs w1 u1 es z/\tD b u1 u/\zD S b u (cs.setIfInBounds f z)
theorem RF.later {E V B T c v n xs S b f cs u u'} (h:RF E V B T c v n xs S b f cs u) (hb:Below u.heap.size u u'):RF E V B T c v n xs S b f cs u':=by
 obtain ⟨es,w1,u1,z,h1,h2,h3⟩:=h;exact ⟨es,w1,u1,z,h1,h2.trans (tD.of_below hb),h3.below hb⟩
end Go.Proofs.YtdcjdnkdeamigaaGreatDoor
