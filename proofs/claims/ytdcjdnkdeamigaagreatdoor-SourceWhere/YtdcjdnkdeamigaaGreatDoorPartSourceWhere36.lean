/- Texts of one chain. -/
import Derived.Test.YtdcjdnkdeamigaaGreatDoorPartSourceWhere32
import Derived.Test.YtdcjdnkdeamigaaGreatDoorPartSourceWhere14
import Derived.Deep.LoopGhost
import Derived.Deep.DeepCutAuto
import Derived.Deep.Cut
namespace Go.Proofs.YtdcjdnkdeamigaaGreatDoor
open Go.ChangeShapes Go.WideShapes Go.ChangeAt Go.RowKit
abbrev El:=wJ × Value
theorem jC:∀(L:List El) (k:Nat) (t:El),k<L.length->(((((((((((L.flatMap lW).set (k*11) (.int .u8 t.1.kind)).set (k*11+1) (.string (zW t.1.name))).set (k*11+2) (.string (zW t.1.tag))).set (k*11+3) (t.2)).set (k*11+4) (.string (zW t.1.frm.name))).set (k*11+5) (.int .i64 t.1.frm.port)).set (k*11+6) (.int .i64 t.1.frm.place)).set (k*11+7) (.string (zW t.1.tgt.name))).set (k*11+8) (.int .i64 t.1.tgt.port)).set (k*11+9) (.int .i64 t.1.tgt.place)).set (k*11+10) (.int .i64 t.1.place)=(L.set k t).flatMap lW
 |[],k,t,h=>by simp at h
 |x::r,0,t,_=>by
  rw[List.flatMap_cons];show _=((t::r).flatMap lW)
  rw[List.flatMap_cons];rfl
 |x::r,k+1,t,h=>by
  have e:=jC r k t (by simp at h;omega)
  have e0:(k+1)*11=k*11+11:=by omega
  rw[List.flatMap_cons,e0];show _=((x::r.set k t).flatMap lW)
  rw[List.flatMap_cons,<-e];rfl
def oX (B:Nat) (w:World) (v:Value) (L:List El):Prop:=w.ownsRow B 103 11 v L.length (L.flatMap lW)
def QW (w:World) (a:Option Addr) (L:List El):Prop:=L=[]\/∃g off,a=some ⟨g,off,none⟩/\∀k,k<L.length->oY w g (off+k*11) (sD L k)
theorem QW.below {w w' a L} (h:QW w a L) (hb:Below w.heap.size w w'):QW w' a L:=by
 rcases h with h|⟨g,off,e,hc⟩
 ·exact Or.inl h
 exact Or.inr ⟨g,off,e,fun k hk=>(hc k hk).below hb⟩
theorem oX.below {B w w' v L} (h:oX B w v L) (hb:Below w.heap.size w w'):oX B w' v L:=yY h hb
theorem oX.cellsAt {B w g c n L} (h:oX B w (.slice (some ⟨g,0,none⟩) n c) L) (k:Nat) (hk:k<L.length):oY w g (k*11) (sD L k):=by
 have f:∀r u,r<11->(lW (sD L k))[r]? =some u->w.cell? ⟨g,k*11+r,none⟩=some u:=fun r u hr hu=>by
  have h1:=World.ownsRow.cells h (g:=g) rfl (k*11+r) u (by rw[RH L k r hk hr];exact hu);rw[sQ]at h1;exact h1
 exact ⟨f 0 _ (by decide) rfl,f 1 _ (by decide) rfl,f 2 _ (by decide) rfl,f 3 _ (by decide) rfl,f 4 _ (by decide) rfl,f 5 _ (by decide) rfl,f 6 _ (by decide) rfl,f 7 _ (by decide) rfl,f 8 _ (by decide) rfl,f 9 _ (by decide) rfl,f 10 _ (by decide) rfl⟩
theorem oX.open {B w v L} (h:oX B w v L) (hn:L≠[]):∃g cap,v=.slice (some ⟨g,0,none⟩) L.length cap:=by
 rcases h.2 with ⟨e,h0⟩|⟨g,cap,cur,e,-⟩
 ·exact absurd (List.eq_nil_of_length_eq_zero h0) hn
 exact ⟨g,cap,e⟩
theorem oX.at {B w v L} (h:oX B w v L):∃a cap,v=.slice a L.length cap/\QW w a L:=by
 rcases h.2 with ⟨e,h0⟩|⟨g,cap,cur,e,-⟩
 ·exact ⟨none,0,by rw[e,h0],Or.inl (List.eq_nil_of_length_eq_zero h0)⟩
 subst e;exact ⟨_,cap,rfl,Or.inr ⟨g,0,rfl,fun k hk=>by rw[Nat.zero_add];exact h.cellsAt k hk⟩⟩
theorem LY {L:List El} {n k:Nat} (h:k<n):sD (L.take n) k=sD L k:=by
 unfold sD;rw[List.getD_eq_getElem?_getD,List.getD_eq_getElem?_getD,List.getElem?_take_of_lt h]
theorem QW.take {w a L} (h:QW w a L) (n:Nat):QW w a (L.take n):=by
 rcases h with h|⟨g,off,rfl,hc⟩
 ·exact Or.inl (by rw[h];simp)
 refine Or.inr ⟨g,off,rfl,fun k hk=>?_⟩
 rw[List.length_take]at hk;rw[LY (by omega)];exact hc k (by omega)
theorem oY.block {w w' g o p} (h:oY w g o p) (e:w'.heap[g]? =w.heap[g]?):oY w' g o p:=by
 have f:∀o,w'.cell? ⟨g,o,none⟩=w.cell? ⟨g,o,none⟩:=fun o=>by unfold World.cell?;rw[e]
 exact ⟨(f _).trans h.c0,(f _).trans h.c1,(f _).trans h.c2,(f _).trans h.c3,(f _).trans h.c4,(f _).trans h.c5,(f _).trans h.c6,(f _).trans h.c7,(f _).trans h.c8,(f _).trans h.c9,(f _).trans h.c10⟩
structure TI (B : Nat) (w wr : World) (a b : Option Addr) (As Bs : List El) (c d : Value) (ys zs : List El) : Prop where
 bel:Below B w wr
 tc:oX B wr c ys
 td:oX B wr d zs
 ta:QW wr a As
 tb:QW wr b Bs
 ac:As=[]\/∃g,a=some ⟨g,0,none⟩/\g<wr.heap.size/\d.ownBlock≠some g/\(c.ownBlock=some g->As<+:ys)
 bd:Bs=[]\/∃g,b=some ⟨g,0,none⟩/\g<wr.heap.size/\c.ownBlock≠some g/\(d.ownBlock=some g->Bs<+:zs)
 cd:∀g,c.ownBlock=some g->d.ownBlock≠some g
 low:B<=w.heap.size
theorem QW.block {w w':World} {a:Option Addr} {ts:List El} (h:QW w a ts) (hb:∀x,a=some x->w'.heap[x.block]? =w.heap[x.block]?):QW w' a ts:=by
 rcases h with h|⟨g,off,rfl,hc⟩
 ·exact Or.inl h
 exact Or.inr ⟨g,off,rfl,fun k hk=>(hc k hk).block (hb _ rfl)⟩
theorem QW.pre {w:World} {a:Option Addr} {ts us:List El} (h:QW w a us) (hp:ts<+:us):QW w a ts:=by
 obtain ⟨r,rfl⟩:=hp;have:=h.take ts.length;rwa[List.take_left]at this
theorem oX.own {B w v ts} (h:oX B w v ts) {g:Nat} (hg:v.ownBlock=some g):(∃ n cap,v=.slice (some ⟨g,0,none⟩) n cap)/\B<=g/\g<w.heap.size:=by
 rcases h.2 with ⟨rfl,-⟩|⟨g',cap,cur,rfl,hb,hh,-⟩
 ·cases hg
 cases hg
 exact ⟨⟨_,_,rfl⟩,hb,(Array.getElem?_eq_some_iff.1 hh).1⟩
theorem TI.step {B w wr a b As Bs c d ys zs} (h:TI B w wr a b As Bs c d ys zs) {w2:World} {c':Value} {ys':List El} {g:Nat} (hc:c.ownBlock=some g) (hc':c'.ownBlock=some g) (ho:oX B w2 c' ys') (hg:wr.grownBy w2 (some g)) (hp:ys<+:ys'):TI B w w2 a b As Bs c' d ys' zs:=by
 have hB:B<=g:=(h.tc.own hc).2.1;have hs:w.heap.size<=wr.heap.size:=h.bel.size;have hlow:=h.low;refine ⟨yT h.bel hg (fun k e=>by cases e;exact hB) (by omega),ho,World.ownsRow.kept h.td hg (Or.inr (h.cd g hc)),?_,?_,?_,?_,?_,h.low⟩
 ·rcases h.ac with e|⟨ga,rfl,hlt,hd,hpre⟩
  ·exact Or.inl e
  by_cases e:ga=g
  ·subst e
   obtain ⟨n,cap,rfl⟩:=(ho.own hc').1;obtain ⟨a',cap',he,hat⟩:=ho.at
   cases he
   exact hat.pre ((hpre hc).trans hp)
  exact h.ta.block (fun x hx=>by cases hx;exact hg.block _ hlt (fun e2=>e (Option.some.inj e2)))
 ·rcases h.bd with e|⟨gb,rfl,hlt,hcb,hpre⟩
  ·exact Or.inl e
  exact h.tb.block (fun x hx=>by cases hx;exact hg.block _ hlt (fun e2=>hcb (by rw[hc,e2])))
 ·rcases h.ac with e|⟨ga,rfl,hlt,hd,hpre⟩
  ·exact Or.inl e
  exact Or.inr ⟨ga,rfl,Nat.lt_of_lt_of_le hlt hg.size,hd,fun e=>(hpre (by rw[hc,<-hc',e])).trans hp⟩
 ·rcases h.bd with e|⟨gb,rfl,hlt,hcb,hpre⟩
  ·exact Or.inl e
  exact Or.inr ⟨gb,rfl,Nat.lt_of_lt_of_le hlt hg.size,by rw[hc',<-hc];exact hcb,hpre⟩
 intro g' e;exact h.cd g' (by rw[hc,<-hc',e])
theorem TI.alloc {B w wr a b As Bs c d ys zs} (h:TI B w wr a b As Bs c d ys zs) (o:Obj):TI B w (wr.alloc o) a b As Bs c d ys zs:=by
 have hb:=(Below.refl wr.heap.size wr).alloc (Nat.le_refl _) o;have hs:w.heap.size<=wr.heap.size:=h.bel.size;refine ⟨h.bel.trans (hb.mono (by have:=h.low;omega)),h.tc.below hb,h.td.below hb,h.ta.below hb,h.tb.below hb,?_,?_,h.cd,h.low⟩
 ·rcases h.ac with e|⟨ga,rfl,hlt,r⟩
  ·exact Or.inl e
  exact Or.inr ⟨ga,rfl,Nat.lt_of_lt_of_le hlt hb.size,r⟩
 rcases h.bd with e|⟨gb,rfl,hlt,r⟩
 ·exact Or.inl e
 exact Or.inr ⟨gb,rfl,Nat.lt_of_lt_of_le hlt hb.size,r⟩
theorem TI.grow {B w wr a b As Bs c d ys zs} (h:TI B w wr a b As Bs c d ys zs) {w2:World} {c':Value} {t:El} (hown:w2.ownsRow B 103 11 c' (ys.length+1) (ys.flatMap lW++lW t))
 (ht:(∃ g cap,c=.slice (some ⟨g,0,none⟩) ys.length cap/\c'=.slice (some ⟨g,0,none⟩) (ys.length+1) cap/\wr.grownBy w2 (some g))\/(∃ cap,c'=.slice (some ⟨wr.heap.size,0,none⟩) (ys.length+1) cap/\wr.grownBy w2 none)):
 TI B w w2 a b As Bs c' d (ys++[t]) zs:=by
 have ho:oX B w2 c' (ys++[t]):=by unfold oX;rw[List.flatMap_append,List.length_append];simpa [List.flatMap] using hown
 rcases ht with ⟨g,cap,rfl,rfl,hg⟩|⟨cap,rfl,hg⟩
 ·exact h.step rfl rfl ho hg ⟨[t],rfl⟩
 have hs:w.heap.size<=wr.heap.size:=h.bel.size;have hlow:=h.low
 have hne:∀ {k:Nat},k<wr.heap.size->w2.heap[k]? =wr.heap[k]? :=fun hk=>hg.block _ hk (fun e=>by cases e)
 refine ⟨yT h.bel hg (fun k e=>by cases e) (by omega),ho,World.ownsRow.kept h.td hg (Classical.em (d.ownBlock=none)),?_,?_,?_,?_,?_,h.low⟩
 ·rcases h.ac with e|⟨ga,rfl,hlt,r⟩
  ·exact Or.inl e
  exact h.ta.block (fun x hx=>by cases hx;exact hne hlt)
 ·rcases h.bd with e|⟨gb,rfl,hlt,r⟩
  ·exact Or.inl e
  exact h.tb.block (fun x hx=>by cases hx;exact hne hlt)
 ·rcases h.ac with e|⟨ga,rfl,hlt,hd,-⟩
  ·exact Or.inl e
  refine Or.inr ⟨ga,rfl,Nat.lt_of_lt_of_le hlt hg.size,hd,fun e=>?_⟩
  have:wr.heap.size=ga:=Option.some.inj e;omega
 ·rcases h.bd with e|⟨gb,rfl,hlt,-,r⟩
  ·exact Or.inl e
  refine Or.inr ⟨gb,rfl,Nat.lt_of_lt_of_le hlt hg.size,fun e=>?_,r⟩
  have:wr.heap.size=gb:=Option.some.inj e;omega
 intro g e e2;have h1:wr.heap.size=g:=Option.some.inj e;have:=(h.td.own e2).2.2;omega
theorem TI.put {B w wr b As Bs d zs g n cap} (h:TI B w wr (some ⟨g,0,none⟩) b As Bs (.slice (some ⟨g,0,none⟩) n cap) d As zs) (hn:As.length=n) {k:Nat} (hk:k<n) (t:El):
 TI B w (((((((((((wr.setCell ⟨g,k*11,none⟩ (.int .u8 t.1.kind)).setCell ⟨g,k*11+1,none⟩ (.string (zW t.1.name))).setCell ⟨g,k*11+2,none⟩ (.string (zW t.1.tag))).setCell ⟨g,k*11+3,none⟩ (t.2)).setCell ⟨g,k*11+4,none⟩ (.string (zW t.1.frm.name))).setCell ⟨g,k*11+5,none⟩ (.int .i64 t.1.frm.port)).setCell ⟨g,k*11+6,none⟩ (.int .i64 t.1.frm.place)).setCell ⟨g,k*11+7,none⟩ (.string (zW t.1.tgt.name))).setCell ⟨g,k*11+8,none⟩ (.int .i64 t.1.tgt.port)).setCell ⟨g,k*11+9,none⟩ (.int .i64 t.1.tgt.place)).setCell ⟨g,k*11+10,none⟩ (.int .i64 t.1.place)) (some ⟨g,0,none⟩) b (As.set k t) Bs (.slice (some ⟨g,0,none⟩) n cap) d (As.set k t) zs:=by
 subst hn;obtain ⟨o1,g1⟩:=World.ownsRow.stored h.tc (k*11) (.int .u8 t.1.kind);obtain ⟨o2,g2⟩:=World.ownsRow.stored o1 (k*11+1) (.string (zW t.1.name));obtain ⟨o3,g3⟩:=World.ownsRow.stored o2 (k*11+2) (.string (zW t.1.tag));obtain ⟨o4,g4⟩:=World.ownsRow.stored o3 (k*11+3) (t.2);obtain ⟨o5,g5⟩:=World.ownsRow.stored o4 (k*11+4) (.string (zW t.1.frm.name));obtain ⟨o6,g6⟩:=World.ownsRow.stored o5 (k*11+5) (.int .i64 t.1.frm.port);obtain ⟨o7,g7⟩:=World.ownsRow.stored o6 (k*11+6) (.int .i64 t.1.frm.place);obtain ⟨o8,g8⟩:=World.ownsRow.stored o7 (k*11+7) (.string (zW t.1.tgt.name));obtain ⟨o9,g9⟩:=World.ownsRow.stored o8 (k*11+8) (.int .i64 t.1.tgt.port);obtain ⟨o10,g10⟩:=World.ownsRow.stored o9 (k*11+9) (.int .i64 t.1.tgt.place);obtain ⟨o11,g11⟩:=World.ownsRow.stored o10 (k*11+10) (.int .i64 t.1.place);rw[jC As k t hk]at o11;have hg:=Lib.grownBy_trans (Lib.grownBy_trans (Lib.grownBy_trans (Lib.grownBy_trans (Lib.grownBy_trans (Lib.grownBy_trans (Lib.grownBy_trans (Lib.grownBy_trans (Lib.grownBy_trans (Lib.grownBy_trans g1 g2) g3) g4) g5) g6) g7) g8) g9) g10) g11;generalize ((((((((((wr.setCell ⟨g,k*11,none⟩ (.int .u8 t.1.kind)).setCell ⟨g,k*11+1,none⟩ (.string (zW t.1.name))).setCell ⟨g,k*11+2,none⟩ (.string (zW t.1.tag))).setCell ⟨g,k*11+3,none⟩ (t.2)).setCell ⟨g,k*11+4,none⟩ (.string (zW t.1.frm.name))).setCell ⟨g,k*11+5,none⟩ (.int .i64 t.1.frm.port)).setCell ⟨g,k*11+6,none⟩ (.int .i64 t.1.frm.place)).setCell ⟨g,k*11+7,none⟩ (.string (zW t.1.tgt.name))).setCell ⟨g,k*11+8,none⟩ (.int .i64 t.1.tgt.port)).setCell ⟨g,k*11+9,none⟩ (.int .i64 t.1.tgt.place)).setCell ⟨g,k*11+10,none⟩ (.int .i64 t.1.place)=w2 at *
 have ho:oX B w2 (.slice (some ⟨g,0,none⟩) As.length cap) (As.set k t):=by unfold oX;rw[List.length_set];exact o11
 have hB:B<=g:=(h.tc.own rfl).2.1;have hlt:g<wr.heap.size:=(h.tc.own rfl).2.2;have hs:w.heap.size<=wr.heap.size:=h.bel.size;have hlow:=h.low;refine ⟨yT h.bel hg (fun k e=>by cases e;exact hB) (by omega),ho,World.ownsRow.kept h.td hg (Or.inr (h.cd g rfl)),?_,?_,?_,?_,h.cd,h.low⟩
 ·obtain ⟨a',cap',he,hat⟩:=ho.at
  injection he with e1
  rw[<- e1]at hat;exact hat
 ·rcases h.bd with e|⟨gb,rfl,hlt,hcb,hpre⟩
  ·exact Or.inl e
  exact h.tb.block (fun x hx=>by cases hx;exact hg.block _ hlt (fun e2=>hcb (by rw[e2];rfl)))
 ·exact Or.inr ⟨g,rfl,Nat.lt_of_lt_of_le hlt hg.size,h.cd g rfl,fun _=>⟨[],by simp⟩⟩
 rcases h.bd with e|⟨gb,rfl,hlt,hcb,hpre⟩
 ·exact Or.inl e
 exact Or.inr ⟨gb,rfl,Nat.lt_of_lt_of_le hlt hg.size,hcb,hpre⟩
theorem TI.frozen {B w wr b As Bs d zs ys g n cap} {a:Option Addr} (h:TI B w wr a b As Bs (.slice (some ⟨g,0,none⟩) n cap) d ys zs) (j:Nat):wr.frozen? ⟨g,j,none⟩=false:=by
 rcases h.tc.2 with ⟨h',_⟩|⟨g',cap',cur,h',-,hg,-⟩
 ·cases h'
 cases h'
 simp[World.frozen?,hg]
theorem TI.at {B w wr a b As Bs c d ys zs} (h:TI B w wr a b As Bs c d ys zs) (hn:As≠[]):∃g,a=some ⟨g,0,none⟩/\∀k,k<As.length->oY wr g (k*11) (sD As k):=by
 rcases h.ac with e|⟨g,rfl,-⟩
 ·exact absurd e hn
 refine ⟨g,rfl,fun k hk=>?_⟩
 rcases h.ta with e|⟨g',off,he,hc⟩
 ·exact absurd e hn
 injection he with he
 injection he with e1 e2
 subst e1;subst e2;have:=hc k hk;rwa[Nat.zero_add]at this
structure fK (B : Nat) (w wr : World) (g : Option Nat) (c : Value) (ys : List El) : Prop where
 own:oX B wr c ys
 keep:∀k,k<w.heap.size->g≠some k->wr.heap[k]? =w.heap[k]?
 blk:∀k,c.ownBlock=some k->g=some k\/w.heap.size<=k
 size:w.heap.size<=wr.heap.size
 bel:Below B w wr
 low:B<=w.heap.size
theorem fK.alloc {B w wr g c ys} (h:fK B w wr g c ys) (o:Obj):fK B w (wr.alloc o) g c ys:=by
 have hb:=(Below.refl wr.heap.size wr).alloc (Nat.le_refl _) o;exact ⟨h.own.below hb,fun k hk hg=>(hb.block k (Nat.lt_of_lt_of_le hk h.size)).trans (h.keep k hk hg),h.blk,Nat.le_trans h.size hb.size,h.bel.trans (hb.mono (Nat.le_trans h.low h.size)),h.low⟩
theorem fK.grow {B w wr g c ys} (h:fK B w wr g c ys) {w2:World} {c':Value} {t:El} (hown:w2.ownsRow B 103 11 c' (ys.length+1) (ys.flatMap lW++lW t))
 (ht:(∃ g cap,c=.slice (some ⟨g,0,none⟩) ys.length cap/\c'=.slice (some ⟨g,0,none⟩) (ys.length+1) cap/\wr.grownBy w2 (some g))\/(∃ cap,c'=.slice (some ⟨wr.heap.size,0,none⟩) (ys.length+1) cap/\wr.grownBy w2 none)):
 fK B w w2 g c' (ys++[t]):=by
 have ho:oX B w2 c' (ys++[t]):=by unfold oX;rw[List.flatMap_append,List.length_append];simpa [List.flatMap] using hown
 have hs:=h.size
 rcases ht with ⟨b,cap,rfl,rfl,hg⟩|⟨cap,rfl,hg⟩
 ·refine ⟨ho,fun k hk hne=>?_,fun k hk=>h.blk k hk,Nat.le_trans hs hg.size,yT h.bel hg (fun k e=>by cases e;exact zQ h.own _ rfl) (Nat.le_trans h.low hs),h.low⟩
  rw[hg.block k (by omega) (fun e=>by
   rcases h.blk b rfl with e2|e2
   ·exact hne (e2.trans e.symm)
   cases e;omega)]
  exact h.keep k hk hne
 refine ⟨ho,fun k hk hne=>?_,fun k hk=>Or.inr (by have:wr.heap.size=k:=Option.some.inj hk;omega),Nat.le_trans hs hg.size,yT h.bel hg (fun k e=>by cases e) (Nat.le_trans h.low hs),h.low⟩
 rw[hg.block k (by omega) (fun e=>by cases e)];exact h.keep k hk hne
theorem fK.put {B w wr g n cap As} (h:fK B w wr (some g) (.slice (some ⟨g,0,none⟩) n cap) As) (hn:As.length=n) {k:Nat} (hk:k<n) (t:El):
 fK B w (((((((((((wr.setCell ⟨g,k*11,none⟩ (.int .u8 t.1.kind)).setCell ⟨g,k*11+1,none⟩ (.string (zW t.1.name))).setCell ⟨g,k*11+2,none⟩ (.string (zW t.1.tag))).setCell ⟨g,k*11+3,none⟩ (t.2)).setCell ⟨g,k*11+4,none⟩ (.string (zW t.1.frm.name))).setCell ⟨g,k*11+5,none⟩ (.int .i64 t.1.frm.port)).setCell ⟨g,k*11+6,none⟩ (.int .i64 t.1.frm.place)).setCell ⟨g,k*11+7,none⟩ (.string (zW t.1.tgt.name))).setCell ⟨g,k*11+8,none⟩ (.int .i64 t.1.tgt.port)).setCell ⟨g,k*11+9,none⟩ (.int .i64 t.1.tgt.place)).setCell ⟨g,k*11+10,none⟩ (.int .i64 t.1.place)) (some g) (.slice (some ⟨g,0,none⟩) n cap) (As.set k t):=by
 subst hn;obtain ⟨o1,g1⟩:=World.ownsRow.stored h.own (k*11) (.int .u8 t.1.kind);obtain ⟨o2,g2⟩:=World.ownsRow.stored o1 (k*11+1) (.string (zW t.1.name));obtain ⟨o3,g3⟩:=World.ownsRow.stored o2 (k*11+2) (.string (zW t.1.tag));obtain ⟨o4,g4⟩:=World.ownsRow.stored o3 (k*11+3) (t.2);obtain ⟨o5,g5⟩:=World.ownsRow.stored o4 (k*11+4) (.string (zW t.1.frm.name));obtain ⟨o6,g6⟩:=World.ownsRow.stored o5 (k*11+5) (.int .i64 t.1.frm.port);obtain ⟨o7,g7⟩:=World.ownsRow.stored o6 (k*11+6) (.int .i64 t.1.frm.place);obtain ⟨o8,g8⟩:=World.ownsRow.stored o7 (k*11+7) (.string (zW t.1.tgt.name));obtain ⟨o9,g9⟩:=World.ownsRow.stored o8 (k*11+8) (.int .i64 t.1.tgt.port);obtain ⟨o10,g10⟩:=World.ownsRow.stored o9 (k*11+9) (.int .i64 t.1.tgt.place);obtain ⟨o11,g11⟩:=World.ownsRow.stored o10 (k*11+10) (.int .i64 t.1.place);rw[jC As k t hk]at o11;have hg:=Lib.grownBy_trans (Lib.grownBy_trans (Lib.grownBy_trans (Lib.grownBy_trans (Lib.grownBy_trans (Lib.grownBy_trans (Lib.grownBy_trans (Lib.grownBy_trans (Lib.grownBy_trans (Lib.grownBy_trans g1 g2) g3) g4) g5) g6) g7) g8) g9) g10) g11;generalize ((((((((((wr.setCell ⟨g,k*11,none⟩ (.int .u8 t.1.kind)).setCell ⟨g,k*11+1,none⟩ (.string (zW t.1.name))).setCell ⟨g,k*11+2,none⟩ (.string (zW t.1.tag))).setCell ⟨g,k*11+3,none⟩ (t.2)).setCell ⟨g,k*11+4,none⟩ (.string (zW t.1.frm.name))).setCell ⟨g,k*11+5,none⟩ (.int .i64 t.1.frm.port)).setCell ⟨g,k*11+6,none⟩ (.int .i64 t.1.frm.place)).setCell ⟨g,k*11+7,none⟩ (.string (zW t.1.tgt.name))).setCell ⟨g,k*11+8,none⟩ (.int .i64 t.1.tgt.port)).setCell ⟨g,k*11+9,none⟩ (.int .i64 t.1.tgt.place)).setCell ⟨g,k*11+10,none⟩ (.int .i64 t.1.place)=w2 at *
 have ho:oX B w2 (.slice (some ⟨g,0,none⟩) As.length cap) (As.set k t):=by unfold oX;rw[List.length_set];exact o11
 exact ⟨ho,fun j hj hne=>(hg.block j (Nat.lt_of_lt_of_le hj h.size) (fun e=>hne e.symm)).trans (h.keep j hj hne),h.blk,Nat.le_trans h.size hg.size,yT h.bel hg (fun k e=>by cases e;exact zQ h.own _ rfl) (Nat.le_trans h.low h.size),h.low⟩
theorem fK.frozen {B w wr g c n cap ys} (h:fK B w wr c (.slice (some ⟨g,0,none⟩) n cap) ys) (j:Nat):wr.frozen? ⟨g,j,none⟩=false:=by
 rcases h.own.2 with ⟨h',_⟩|⟨g',cap',cur,h',-,hg,-⟩
 ·cases h'
 cases h'
 simp[World.frozen?,hg]
theorem wU.shape {B w r ns} (h:wU B w r ns):∃a c,r=.slice a ns.length c:=by
 rcases h.2 with ⟨e,h0⟩|⟨g,cap,cur,e,-⟩
 ·exact ⟨none,0,by rw[e,h0]⟩
 exact ⟨_,cap,e⟩
def adO:Value->Option Addr
 |.slice a _ _=>a
 |_=>none
def cpO:Value->Nat
 |.slice _ _ c=>c
 |_=>0
theorem wU.slice {B w r ns} (h:wU B w r ns):r=.slice (adO r) ns.length (cpO r):=by
 obtain ⟨a,c,rfl⟩:=h.shape;rfl
theorem wU.cap {B w r ns} (h:wU B w r ns):xM B w (adO r) (cpO r) ns:=by
 obtain ⟨a,c,rfl⟩:=h.shape;exact h
theorem wU.own {B w r ns} (h:wU B w r ns) {x:Addr} (hx:adO r=some x):r.ownBlock=some x.block:=by
 rcases h.2 with ⟨rfl,-⟩|⟨g,cap,cur,rfl,-⟩
 ·cases hx
 cases hx;rfl
end Go.Proofs.YtdcjdnkdeamigaaGreatDoor
