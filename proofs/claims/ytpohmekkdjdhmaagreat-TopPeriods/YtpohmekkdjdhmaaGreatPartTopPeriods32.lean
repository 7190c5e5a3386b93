/- Texts of one chain. -/
import Derived.Test.YtpohmekkdjdhmaaGreatPartQ
import Derived.Test.YtpohmekkdjdhmaaGreatPartTopPeriods31
import Derived.Test.YtpohmekkdjdhmaaGreatPartTopPeriods18
import Derived.Test.YtpohmekkdjdhmaaGreatPartTopPeriods14
namespace Go.Proofs.YtpohmekkdjdhmaaGreat
open Go.ChangeShapes Go.WideShapes Go.ChangeAt Go.RowKit
structure Plc where
 name:List UInt8
 port:Int
 place:Int
def zOV:Plc:=⟨[],0,0⟩
structure YU where
 kind:Int
 name:List UInt8
 tag:List UInt8
 nums:List Int
 frm:Plc
 tgt:Plc
 place:Int
theorem UG {base:Nat} {w:World} {e:TypeId} {size n:Nat} {v:Value} {xs:List Value} (h:w.ownsRow base e size v n xs) {k:Nat} (hk:k<base):v.ownBlock≠some k:=by
 rcases h.2 with ⟨rfl,-⟩|⟨g,c,cur,rfl,hg,-⟩
 ·intro e;cases e
 intro e;cases e;exact absurd hk (by simpa using hg)
theorem JV {base:Nat} {w w':World} {e:TypeId} {size n:Nat} {v:Value} {xs:List Value} {b:Nat} (h:w.ownsRow base e size v n xs) (hg:w.grownBy w' (some b)) (hb:b<base):w'.ownsRow base e size v n xs:=World.ownsRow.kept h hg (Or.inr (UG h hb))
theorem aK {base:Nat} {w w':World} {e:TypeId} {size n:Nat} {v:Value} {xs:List Value} (h:w.ownsRow base e size v n xs) (hb:Below w.heap.size w w'):w'.ownsRow base e size v n xs:=by
 refine ⟨h.1,?_⟩
 rcases h.2 with h2|⟨g,cap,cur,hv,hg,hh,r⟩
 ·exact .inl h2
 refine .inr ⟨g,cap,cur,hv,hg,?_,r⟩
 rw[hb.block g (Array.getElem?_eq_some_iff.1 hh).1];exact hh
theorem uQ {base base':Nat} {w:World} {e:TypeId} {size n:Nat} {v:Value} {xs:List Value} (h:w.ownsRow base e size v n xs) (hb:base'<=base):w.ownsRow base' e size v n xs:=by
 refine ⟨h.1,?_⟩
 rcases h.2 with h2|⟨g,cap,cur,hv,hg,r⟩
 ·exact .inl h2
 exact .inr ⟨g,cap,cur,hv,Nat.le_trans hb hg,r⟩
def oM (base:Nat) (w:World) (v:Value) (ns:List Int):Prop:=w.ownsRow base 3 1 v ns.length (ns.map (Value.int .i64))
theorem wF {base:Nat} {w:World} {e:TypeId} {size n:Nat} {v:Value} {xs:List Value} (h:w.ownsRow base e size v n xs):∀k,v.ownBlock=some k->base<=k:=fun k e=>by
 rcases Nat.lt_or_ge k base with h1|h1
 ·exact absurd e (UG h h1)
 exact h1
def itC (kind:Int) (nm tg:List UInt8) (r:Value) (f t:Plc) (pl:Int):Array Value:=
 #[.int .u8 kind,.string (yG nm),.string (yG tg),r,.string (yG f.name),.int .i64 f.port,.int .i64 f.place,.string (yG t.name),.int .i64 t.port,.int .i64 t.place,.int .i64 pl]
theorem oM.mono {base base' w r ns} (h:oM base w r ns) (hb:base'<=base):oM base' w r ns:=uQ h hb
theorem oM.below {base w w' r ns} (h:oM base w r ns) (hb:Below w.heap.size w w'):oM base w' r ns:=aK h hb
theorem oM.grown {base w w' r ns} {b:Nat} (h:oM base w r ns) (hg:w.grownBy w' (some b)) (hb:b<base):oM base w' r ns:=JV h hg hb
theorem oM.put {base w r ns} (h:oM base w r ns) {I k:Nat} {u:Value} (hI:I<base):oM base (w.setCell ⟨I,k,none⟩ u) r ns:=ownsRow_setCell_below h hI u
theorem rM {base:Nat} {w:World} {e:TypeId} {size n:Nat} {v:Value} {xs:List Value} (h:w.ownsRow base e size v n xs):∀k,v.ownBlock=some k->k<w.heap.size:=fun k hk=>by
 rcases h.2 with ⟨rfl,-⟩|⟨g,c,cur,rfl,hg,hh,-⟩
 ·cases hk
 cases hk
 exact (Array.getElem?_eq_some_iff.1 hh).1
theorem oM.kept {base w w' r ns} {row:Option Nat} (h:oM base w r ns) (hg:w.grownBy w' row) (hr:∀k,row=some k->k<base):oM base w' r ns:=by
 refine World.ownsRow.kept h hg ?_
 by_cases e:r.ownBlock=none
 ·exact Or.inl e
 refine Or.inr (fun e2=>?_)
 cases hk:r.ownBlock with
 |none=>exact e hk
 |some k=>
  have h1:=hr k (by rw[<- e2,hk]);exact UG h h1 hk
def itP (p:YU × Value):List Value:=(itC p.1.kind p.1.name p.1.tag p.2 p.1.frm p.1.tgt p.1.place).toList
def noItm:YU:=⟨0,[],[],[],zOV,zOV,0⟩
def nthI (L:List (YU × Value)) (k:Nat):YU × Value:=L.getD k (noItm,qN)
structure UE (w : World) (g o : Nat) (p : YU × Value) : Prop where
 c0:w.cell? ⟨g,o,none⟩=some (.int .u8 p.1.kind)
 c1:w.cell? ⟨g,o+1,none⟩=some (.string (yG p.1.name))
 c2:w.cell? ⟨g,o+2,none⟩=some (.string (yG p.1.tag))
 c3:w.cell? ⟨g,o+3,none⟩=some p.2
 c4:w.cell? ⟨g,o+4,none⟩=some (.string (yG p.1.frm.name))
 c5:w.cell? ⟨g,o+5,none⟩=some (.int .i64 p.1.frm.port)
 c6:w.cell? ⟨g,o+6,none⟩=some (.int .i64 p.1.frm.place)
 c7:w.cell? ⟨g,o+7,none⟩=some (.string (yG p.1.tgt.name))
 c8:w.cell? ⟨g,o+8,none⟩=some (.int .i64 p.1.tgt.port)
 c9:w.cell? ⟨g,o+9,none⟩=some (.int .i64 p.1.tgt.place)
 c10:w.cell? ⟨g,o+10,none⟩=some (.int .i64 p.1.place)
def UD (w:World) (r:Value) (ns:List Int):Prop:=
 ∃a c,r=.slice a ns.length c/\(ns=[]\/∃g off,a=some ⟨g,off,none⟩/\∀k,k<ns.length->w.cell? ⟨g,off+k,none⟩=some (.int .i64 (ns.getD k 0)))
structure ItR (w : World) (a : Option Addr) (L : List (YU × Value)) : Prop where
 lie:L=[]\/∃g off,a=some ⟨g,off,none⟩/\∀k,k<L.length->UE w g (off+k*11) (nthI L k)
 nums:∀p ∈ L,UD w p.2 p.1.nums
theorem xR {w w':World} (hb:Below w.heap.size w w') {p:Addr} {x:Value} (h:w.cell? p=some x):w'.cell? p=some x:=(hb.cell (block_lt_of_cell h)).trans h
theorem UE.below {w w' g o p} (h:UE w g o p) (hb:Below w.heap.size w w'):UE w' g o p:=
 ⟨xR hb h.c0,xR hb h.c1,xR hb h.c2,xR hb h.c3,xR hb h.c4,xR hb h.c5,xR hb h.c6,xR hb h.c7,xR hb h.c8,xR hb h.c9,xR hb h.c10⟩
theorem UD.below {w w' r ns} (h:UD w r ns) (hb:Below w.heap.size w w'):UD w' r ns:=by
 obtain ⟨a,c,rfl,h⟩:=h;refine ⟨a,c,rfl,?_⟩
 rcases h with h|⟨g,off,e,hc⟩
 ·exact Or.inl h
 exact Or.inr ⟨g,off,e,fun k hk=>xR hb (hc k hk)⟩
theorem ItR.below {w w' a L} (h:ItR w a L) (hb:Below w.heap.size w w'):ItR w' a L:=by
 refine ⟨?_,fun p hp=>(h.nums p hp).below hb⟩
 rcases h.lie with h|⟨g,off,e,hc⟩
 ·exact Or.inl h
 exact Or.inr ⟨g,off,e,fun k hk=>(hc k hk).below hb⟩
theorem WU (g m:Nat):(⟨g,0,none⟩:Addr).add m=⟨g,m,none⟩:=by
 unfold Addr.add
 by_cases h0:m=0
 ·subst h0;rfl
 simp[h0]
structure zNP (w : World) (a : Option Addr) (n : Nat) (L : List (YU × Value)) : Prop where
 size:L.length=n
 lies:ItR w a L
 reach:n<=140737488351232
 nums:∀p ∈ L,p.1.nums.length<=140737488351232
 shp:∀p ∈ L,∃b d,p.2=.slice b p.1.nums.length d/\(b=none->p.1.nums.length=0/\d=0)/\p.1.nums.length<=d
 fits:∀p ∈ L,(-9223372036854775808<=p.1.frm.port/\p.1.frm.port<=9223372036854775807)/\(-9223372036854775808<=p.1.tgt.port/\p.1.tgt.port<=9223372036854775807)/\∀x ∈ p.1.nums,-9223372036854775808<=x/\x<=9223372036854775807
theorem zNP.below {w w' a n L} (h:zNP w a n L) (hb:Below w.heap.size w w'):zNP w' a n L:=⟨h.size,h.lies.below hb,h.reach,h.nums,h.shp,h.fits⟩
theorem ItR.pre {w a L M} (h:ItR w a (L++M)):ItR w a L:=by
 refine ⟨?_,fun p hp=>h.nums p (List.mem_append_left _ hp)⟩
 rcases h.lie with h0|⟨g,off,e,hc⟩
 ·exact .inl (List.append_eq_nil_iff.1 h0).1
 refine .inr ⟨g,off,e,fun k hk=>?_⟩
 have:=hc k (by rw[List.length_append];omega);unfold nthI at this ⊢;rw[List.getD_eq_getElem?_getD,List.getElem?_append_left hk]at this;rw[List.getD_eq_getElem?_getD];exact this
def GrA (w:World) (a:Option Addr) (As:List GA):Prop:=As=[]\/∃b off,a=some ⟨b,off,none⟩/\∀k,k<As.length->w.cell? ⟨b,off+k*3,none⟩=some (.string (yG (yX As k).name))/\w.cell? ⟨b,off+k*3+1,none⟩=some (.int .u8 ((yX As k).tag:Int))/\(yX As k).tag<=255/\∃x c,w.cell? ⟨b,off+k*3+2,none⟩=some (.slice x (yX As k).params.length c)/\ZL w x (yX As k).params.length c (yX As k).params
def GrE (w:World) (a:Option Addr) (Es:List GE):Prop:=Es=[]\/∃b off,a=some ⟨b,off,none⟩/\∀k,k<Es.length->w.cell? ⟨b,off+k*5,none⟩=some (.int .i64 (yD Es k).f)/\w.cell? ⟨b,off+k*5+1,none⟩=some (.int .i64 (yD Es k).fp)/\w.cell? ⟨b,off+k*5+2,none⟩=some (.int .i64 (yD Es k).t)/\w.cell? ⟨b,off+k*5+3,none⟩=some (.int .i64 (yD Es k).tp)/\∃x c,w.cell? ⟨b,off+k*5+4,none⟩=some (.slice x (yD Es k).start.length c)/\ZL w x (yD Es k).start.length c (yD Es k).start
theorem GrA.at {w:World} {a:Option Addr} {As:List GA} (h:GrA w a As):AtA w a As:=by
 rcases h with h|⟨b,off,e,hc⟩
 ·exact .inl h
 exact .inr ⟨b,off,e,fun k hk=>by
  obtain ⟨h1,h2,h3,x,c,h4,h5⟩:=hc k hk
  exact ⟨h1,h2,h3,x,c,h4,h5.lies⟩⟩
theorem GrE.at {w:World} {a:Option Addr} {As:List GE} (h:GrE w a As):AtE w a As:=by
 rcases h with h|⟨b,off,e,hc⟩
 ·exact .inl h
 exact .inr ⟨b,off,e,fun k hk=>by
  obtain ⟨h1,h2,h3,h4,x,c,h5,h6⟩:=hc k hk
  exact ⟨h1,h2,h3,h4,x,c,h5,h6.lies⟩⟩
theorem GrA.below {w w':World} {a:Option Addr} {As:List GA} (h:GrA w a As) (hb:Below w.heap.size w w'):GrA w' a As:=by
 rcases h with h|⟨b,off,e,hc⟩
 ·exact .inl h
 exact .inr ⟨b,off,e,fun k hk=>by
  obtain ⟨h1,h2,h3,x,c,h4,h5⟩:=hc k hk
  exact ⟨xH hb h1,xH hb h2,h3,x,c,xH hb h4,h5.below hb⟩⟩
theorem GrE.below {w w':World} {a:Option Addr} {As:List GE} (h:GrE w a As) (hb:Below w.heap.size w w'):GrE w' a As:=by
 rcases h with h|⟨b,off,e,hc⟩
 ·exact .inl h
 exact .inr ⟨b,off,e,fun k hk=>by
  obtain ⟨h1,h2,h3,h4,x,c,h5,h6⟩:=hc k hk
  exact ⟨xH hb h1,xH hb h2,xH hb h3,xH hb h4,x,c,xH hb h5,h6.below hb⟩⟩
structure NJ (w : World) (a1 a2 a3 a4 : Option Addr) (g : GG) : Prop where
 A:GrA w a1 g.A
 E:GrE w a2 g.E
 I:aQ w a3 g.ins
 O:aQ w a4 g.outs
 l1:g.A.length<=1000000000000000
 l2:g.E.length<=1000000000000000
 l3:g.ins.length<=1000000000000000
 l4:g.outs.length<=1000000000000000
theorem NJ.below {w w':World} {a1 a2 a3 a4:Option Addr} {g:GG} (h:NJ w a1 a2 a3 a4 g) (hb:Below w.heap.size w w'):NJ w' a1 a2 a3 a4 g:=
 ⟨h.A.below hb,h.E.below hb,h.I.below hb,h.O.below hb,h.l1,h.l2,h.l3,h.l4⟩
theorem zQL (a b c d:Value) (w:World):(Instr.field 104 (.agg #[a,b,c,d]) 0).run Tryz.prog w=.ok a w:=by kernel_rfl
set_option maxRecDepth 100000 in
set_option maxHeartbeats 1000000 in
theorem AB (g:GG) (a1 a2 a3 a4:Option Addr) (c1 c2 c3 c4:Nat) (w:World) (h:NJ w a1 a2 a3 a4 g):
 Calls Tryz.prog 16 #[.agg #[.string (yG g.name),.slice a1 g.A.length c1,.slice a2 g.E.length c2,.slice a3 g.ins.length c3,.slice a4 g.outs.length c4]] w fun e w'=>e=.returned (.int .i64 (yH g).code)/\Below w.heap.size w w':=by
 have ba:=(Below.refl w.heap.size w).alloc (Nat.le_refl _) (.cells #[.string (yG g.name),.slice a1 g.A.length c1,.slice a2 g.E.length c2,.slice a3 g.ins.length c3,.slice a4 g.outs.length c4] 26);have h2:=h.below ba;have HF:=zY (YV g a1 a2 a3 a4 c1 c2 c3 c4 _ h2.A.at h2.E.at h2.I h2.O h.l1 h.l2 h.l3 h.l4);obtain ⟨⟨q,k,n,e⟩,hf⟩:∃f,yH g=f:=⟨_,rfl⟩;rw[hf]at HF;rw[hf];unfold NK at HF;have BA:=zY ba;have gg:=zV 26 w #[.string (yG g.name),.slice a1 g.A.length c1,.slice a2 g.E.length c2,.slice a3 g.ins.length c3,.slice a4 g.outs.length c4];have x0:=gg.cell (k:=0) rfl;have x1:=gg.cell (k:=1) rfl;have x2:=gg.cell (k:=2) rfl;have x3:=gg.cell (k:=3) rfl;have x4:=gg.cell (k:=4) rfl;have f0:=zQL (.int .i64 q) (.int .u8 (k:Int)) (.int .i64 (n:Int)) (.int .u8 (e:Int));clear ba h2 h gg hf
 go_enter Tryz.func16,Tryz.ntmps16
 go_upto_region 1 with fail
 generalize w.alloc (.cells #[.string (yG g.name),.slice a1 g.A.length c1,.slice a2 g.E.length c2,.slice a3 g.ins.length c3,.slice a4 g.outs.length c4] 26)=W0 at *
 go_wp2_with (go_at_call 37;(with_reducible refine HF.out.mono ?_);rintro e w1 ⟨rfl,b1⟩;have B1:=zY b1;clear b1)
 go_ret
 exact ⟨rfl,BA.out.trans (B1.out.mono BA.out.size)⟩
def ElV (E:World->List Value->Prop) (u:World) (z:Value):Prop:=∃es,z=.agg es.toArray/\E u es
def ElC (E:World->List Value->Prop) (V u:World) (z:Value):Prop:=∃h es,z=.slice (some ⟨h,0,none⟩) 1 1/\V.heap.size<=h/\h<u.heap.size/\(∀ k y,es[k]? =some y->u.cell? ⟨h,k,none⟩=some y)/\E u es
theorem ElV.later {E:World->List Value->Prop} (hE:∀u u' es,E u es->Below u.heap.size u u'->E u' es) {u u':World} {z:Value} (h:ElV E u z) (hb:Below u.heap.size u u'):ElV E u' z:=by
 obtain ⟨es,h1,h2⟩:=h;exact ⟨es,h1,hE _ _ _ h2 hb⟩
theorem ElC.later {E:World->List Value->Prop} {V:World} (hE:∀u u' es,E u es->Below u.heap.size u u'->E u' es) {u u':World} {z:Value} (h:ElC E V u z) (hb:Below u.heap.size u u'):ElC E V u' z:=by
 obtain ⟨g,es,h1,h2,h3,h4,h5⟩:=h;exact ⟨g,es,h1,h2,Nat.lt_of_lt_of_le h3 hb.size,fun k y hy=>xR hb (h4 k y hy),hE _ _ _ h5 hb⟩
theorem zQK {E:World->List Value->Prop} {V u:World} (hE:∀u u' es,E u es->Below u.heap.size u u'->E u' es) (T:TypeId) {es:List Value} (h:E u es) (hV:V.heap.size<=u.heap.size):ElC E V (u.alloc (.cells es.toArray T)) (.slice (some ⟨u.heap.size,0,none⟩) 1 1):=
 ⟨u.heap.size,es,rfl,hV,by rw[World.size_alloc];omega,fun k y hy=>(zV T u es.toArray).cell (by rw[List.getElem?_toArray];exact hy),hE _ _ _ h ((Below.refl _ _).alloc (Nat.le_refl _) _)⟩
structure AA (E : World -> List Value -> Prop) (V : World) (B : Nat) (T : TypeId) (c : Nat) (v : Value) (n : Nat) (xs : List Value) (w1 u1 : World) (es : List Value) (z : Value) : Prop where
 bel:Below V.heap.size V w1
 el:E w1 es
 own:u1.ownsRow B T c z (n+1) (xs++es)
 told:(∃ g cap,v=.slice (some ⟨g,0,none⟩) n cap/\z=.slice (some ⟨g,0,none⟩) (n+1) cap/\w1.grownBy u1 (some g))\/(∃ cap,z=.slice (some ⟨w1.heap.size,0,none⟩) (n+1) cap/\w1.grownBy u1 none)
theorem AA.shape {E V B T c v n xs w1 u1 es z} (h:AA E V B T c v n xs w1 u1 es z):∃g cap,z=.slice (some ⟨g,0,none⟩) (n+1) cap:=by
 rcases h.told with ⟨g,cap,-,e,-⟩|⟨cap,e,-⟩<;>exact ⟨_,_,e⟩
theorem AA.chg {E V B T c v n xs w1 u1 es z} (h:AA E V B T c v n xs w1 u1 es z):xP (fun k=>v.ownBlock=some k) V u1:=by
 rcases h.told with ⟨g,cap,e,-,hg⟩|⟨cap,-,hg⟩
 ·exact (xP.of_below h.bel).trans' (xP.grown hg fun k hk=>by cases hk;rw[e];rfl)
 exact (xP.of_below h.bel).trans' (xP.grown hg fun k hk=>by cases hk)
def ElA (E:World->List Value->Prop) (V:World) (B:Nat) (T:TypeId) (c:Nat) (v:Value) (n:Nat) (xs:List Value) (u:World) (z:Value):Prop:=∃es w1 u1,AA E V B T c v n xs w1 u1 es z/\Below u1.heap.size u1 u
theorem ElA.later {E V B T c v n xs u u' z} (h:ElA E V B T c v n xs u z) (hb:Below u.heap.size u u'):ElA E V B T c v n xs u' z:=by
 obtain ⟨es,w1,u1,h1,h2⟩:=h;exact ⟨es,w1,u1,h1,h2.trans (hb.mono h2.size)⟩
theorem ElA.size {E V B T c v n xs u z} (h:ElA E V B T c v n xs u z):V.heap.size<=u.heap.size:=by
 obtain ⟨es,w1,u1,h1,h2⟩:=h;exact Nat.le_trans h1.chg.size h2.size
theorem ElA.shape {E V B T c v n xs u z} (h:ElA E V B T c v n xs u z):∃g cap,z=.slice (some ⟨g,0,none⟩) (n+1) cap:=by
 obtain ⟨es,w1,u1,h1,h2⟩:=h;exact h1.shape
theorem ElA.chg {E V B T c v n xs u z} (h:ElA E V B T c v n xs u z):xP (fun k=>v.ownBlock=some k) V u:=by
 obtain ⟨es,w1,u1,h1,h2⟩:=h;exact h1.chg.trans' (xP.of_below h2)
def zZY (E:World->List Value->Prop) (V:World) (B:Nat) (T:TypeId) (c:Nat) (v:Value) (n:Nat) (xs:List Value) (S:TypeId) (b f:Nat) (cs:Array Value) (u:World):Prop:=
 ∃es w1 u1 z,AA E V B T c v n xs w1 u1 es z/\xX b u1 u/\zE S b u (cs.setIfInBounds f z)
theorem zZY.later {E V B T c v n xs S b f cs u u'} (h:zZY E V B T c v n xs S b f cs u) (hb:Below u.heap.size u u'):zZY E V B T c v n xs S b f cs u':=by
 obtain ⟨es,w1,u1,z,h1,h2,h3⟩:=h;exact ⟨es,w1,u1,z,h1,h2.trans (xX.of_below hb),h3.below hb⟩
theorem JU {E V B T c v n xs S b f cs u z} (h:ElA E V B T c v n xs u z) (hb:zE S b V cs) (hv:v.ownBlock≠some b):zZY E V B T c v n xs S b f cs (u.setCell ⟨b,f,none⟩ z)/\zE S b u cs:=by
 have hk:=hb.keep (h.chg.block b hb.lt hv);obtain ⟨es,w1,u1,h1,h2⟩:=h;exact ⟨⟨es,w1,u1,z,h1,(xX.of_below h2).trans (xX.set u b f z),hk.set f z⟩,hk⟩
theorem zZX {E:World->List Value->Prop} {V w:World} {o:Oper} {ρ :Operand->Value} (s x:Operand) (t T:TypeId) (i:TypeInfo) (zz:Value) (c bytes:Nat) (ho:o.op=.call { callee:=.builtin .append,args:=#[s,x],argTypes:=#[t,t] }) (ht:Tryz.prog.underlying t=some (.slice T)) (hi:Tryz.prog.info? T=some i) (hz:i.zero=some zz) (hsize:i.size=c) (hby:i.bytes=bytes) (hzs:zz.cells.size=c) (hsz:0<c)
 {v z:Value} {B n:Nat} {xs:List Value} (hs: ρ s=v) (hx: ρ x=z) (hown:V.ownsRow B T c v n xs) (hb:Below V.heap.size V w) (hE1:∀u es,E u es->es.length=c/\∀y ∈ es,y.oneCell'=true) (hc:ElC E V w z) (hB:B<=V.heap.size) (hn:(n+1)*bytes<=140737488355328) (hn2:n+1<=4611686018427387904)
 {Q:World->Value->Prop} (h:∀w' v',ElA E V B T c v n xs w' v'->Q w' v'):zC Tryz.prog w Q ((execOp ρ o).run Tryz.prog w):=by
 obtain ⟨g,es,rfl,h1,h2,h3,h4⟩:=hc;obtain ⟨v',w',hr,q2,q3⟩:=wD (P:=Tryz.prog) w B t o.type T i zz c bytes ht hi hz hsize hby hzs hsz v n xs (aK hown hb) ⟨g,0,none⟩ 1 1 (by decide) es (by rw[(hE1 _ _ h4).1,Nat.one_mul]) (fun j u hu=>by rw[WU];exact h3 j u hu) (hE1 _ _ h4).2 (by unfold maxLen;omega) hn (Nat.le_trans hB hb.size);unfold execOp;simp only[ho,resolve,invoke,builtin,Sem.run_bind,Sem.run_pure,Result.andThen_ok,List.map_toArray,List.map_cons,List.map_nil,hs,hx,hr];exact h w' v' ⟨es,w,w',⟨hb,h4,q2,q3⟩,Below.refl _ _⟩
end Go.Proofs.YtpohmekkdjdhmaaGreat
