/- Texts of one chain. -/
import Derived.Test.YtpohmekkdjdhmaaGreatPartQ
import Derived.Test.YtpohmekkdjdhmaaGreatPartTopPeriods35
import Derived.Maps.OwnSet
namespace Go.Proofs.YtpohmekkdjdhmaaGreat
open Go.ChangeShapes Go.WideShapes Go.ChangeAt Go.RowKit
def dU (w:World) (m:Nat) (ns:List (List UInt8)):Prop:=
 ∃(n:Nat) (D:DataW Unit),w.ownsMap Tryz.prog 9 (plainElem Tryz.prog 3) m n D/\n<=ns.length/\Maps.IsMap D/\∀l:List UInt8,Maps.has D (.string l)=decide (l ∈ ns)/\(l ∈ ns->D.atKey (.string l) (.lit (.int .i64 0))=.lit (.int .i64 (zUZ ns l)))
theorem dU.lt {w:World} {m:Nat} {ns:List (List UInt8)} (h:dU w m ns):m<w.heap.size:=by
 obtain ⟨n,D,h1,-⟩:=h;exact h1.lt
theorem dU.keep {w w':World} {m:Nat} {ns:List (List UInt8)} (h:dU w m ns) (hb:w'.heap[m]? =w.heap[m]?):dU w' m ns:=by
 obtain ⟨n,D,⟨es,clock,h1,h2⟩,h3⟩:=h;exact ⟨n,D,⟨es,clock,hb.trans h1,h2⟩,h3⟩
theorem dU.below {w w':World} {m:Nat} {ns:List (List UInt8)} (h:dU w m ns) (hb:Below w.heap.size w w'):dU w' m ns:=h.keep (hb.block m h.lt)
def aP (p:GA × Value):List Value:=[.string (yG p.1.name),.int .u8 (p.1.tag:Int),p.2]
def eP (p:GE × Value):List Value:=[.int .i64 p.1.f,.int .i64 p.1.fp,.int .i64 p.1.t,.int .i64 p.1.tp,p.2]
def pP (p:GP):List Value:=[.string (yG p.name),.int .i64 p.actor,.int .i64 p.port]
theorem ET {α :Type} (f: α ->List Value) (c:Nat) (hc:∀x,(f x).length=c):∀(L:List α) (k r:Nat) (h:k<L.length),r<c->(L.flatMap f)[k*c+r]? =(f L[k])[r]?
 |[],k,r,h,_=>by simp at h
 |t::L,0,r,_,hr=>by
  rw[List.flatMap_cons,List.getElem?_append_left (by rw[hc];omega),Nat.zero_mul,Nat.zero_add];rfl
 |t::L,k+1,r,h,hr=>by
  have e0:(k+1)*c=k*c+c:=Nat.succ_mul k c;rw[List.flatMap_cons,List.getElem?_append_right (by rw[hc];omega)]
  have e:(k+1)*c+r-(f t).length=k*c+r:=by rw[hc];omega
  rw[e,ET f c hc L k r (by simp at h;omega) hr];rfl
theorem vO {α :Type} {f: α ->List Value} {c:Nat} (hc:∀x,(f x).length=c) {B:Nat} {w:World} {T:TypeId} {g n cp:Nat} {L:List α} (h:w.ownsRow B T c (.slice (some ⟨g,0,none⟩) n cp) L.length (L.flatMap f)) {k r:Nat} (hk:k<L.length) (hr:r<c) {u:Value} (hu:(f L[k])[r]? =some u):w.cell? ⟨g,k*c+r,none⟩=some u:=by
 have h1:=World.ownsRow.cells h (g:=g) rfl (k*c+r) u (by rw[ET f c hc L k r hk hr];exact hu);rw[WU]at h1;exact h1
def NB (a b:Value):Prop:=∀k,a.ownBlock=some k->b.ownBlock≠some k
theorem NB.symm {a b:Value} (h:NB a b):NB b a:=fun k h1 h2=>h k h2 h1
theorem aI {w:World} {B T c n:Nat} {a:Option Addr} {m cp:Nat} {xs:List Value} (h:w.ownsRow B T c (.slice a m cp) n xs) (hn:0<n):∃g,a=some ⟨g,0,none⟩/\B<=g/\g<w.heap.size:=by
 rcases h.2 with ⟨e,h0⟩|⟨g,cap,cur,e,hg,hh,-⟩
 ·omega
 cases e
 exact ⟨g,rfl,hg,(Array.getElem?_eq_some_iff.1 hh).1⟩
theorem NB.told {v v' u:Value} {n:Nat} {w2 w4:World} (h:NB v u) (hu:∀k,u.ownBlock=some k->k<w2.heap.size) (ht:(∃ g cap,v=.slice (some ⟨g,0,none⟩) n cap/\v'=.slice (some ⟨g,0,none⟩) (n+1) cap/\w2.grownBy w4 (some g))\/(∃ cap,v'=.slice (some ⟨w2.heap.size,0,none⟩) (n+1) cap/\w2.grownBy w4 none)):NB v' u:=by
 intro k hk hk2
 rcases ht with ⟨g,cap,rfl,rfl,-⟩|⟨cap,rfl,-⟩
 ·cases hk
  exact h g rfl hk2
 cases hk
 exact absurd (hu _ hk2) (Nat.lt_irrefl _)
theorem WP {v v':Value} {n:Nat} {w2 w4:World} (ht:(∃ g cap,v=.slice (some ⟨g,0,none⟩) n cap/\v'=.slice (some ⟨g,0,none⟩) (n+1) cap/\w2.grownBy w4 (some g))\/(∃ cap,v'=.slice (some ⟨w2.heap.size,0,none⟩) (n+1) cap/\w2.grownBy w4 none)):w2.heap.size<=w4.heap.size/\∀k,k<w2.heap.size->v.ownBlock≠some k->w4.heap[k]? =w2.heap[k]? :=by
 rcases ht with ⟨g,cap,rfl,rfl,hg⟩|⟨cap,rfl,hg⟩
 ·exact ⟨hg.size,fun k hk hn=>hg.block k hk (fun e=>hn e.symm)⟩
 exact ⟨hg.size,fun k hk _=>hg.block k hk (fun e=>by cases e)⟩
theorem aH {v v':Value} {n:Nat} {w2 w4:World} (ht:(∃ g cap,v=.slice (some ⟨g,0,none⟩) n cap/\v'=.slice (some ⟨g,0,none⟩) (n+1) cap/\w2.grownBy w4 (some g))\/(∃ cap,v'=.slice (some ⟨w2.heap.size,0,none⟩) (n+1) cap/\w2.grownBy w4 none)):∃row,w2.grownBy w4 row/\∀k,row=some k->v.ownBlock=some k:=by
 rcases ht with ⟨g,cap,rfl,rfl,hg⟩|⟨cap,rfl,hg⟩
 ·exact ⟨_,hg,fun k e=>e⟩
 exact ⟨_,hg,fun k e=>by cases e⟩
theorem aG (x:GA × Value):(aP x).length=3:=rfl
theorem jF (x:GE × Value):(eP x).length=5:=rfl
theorem fD (x:GP):(pP x).length=3:=rfl
theorem aE {As:List GA} {k:Nat} (h:k<As.length):yX As k=As[k]:=by
 unfold yX;rw[List.getD_eq_getElem?_getD,List.getElem?_eq_getElem h];rfl
theorem aD {As:List GE} {k:Nat} (h:k<As.length):yD As k=As[k]:=by
 unfold yD;rw[List.getD_eq_getElem?_getD,List.getElem?_eq_getElem h];rfl
theorem aB {As:List GP} {k:Nat} (h:k<As.length):uG As k=As[k]:=by
 unfold uG;rw[List.getD_eq_getElem?_getD,List.getElem?_eq_getElem h];rfl
theorem ES {B:Nat} {w:World} {a:Option Addr} {n cp:Nat} {As:List (GA × Value)} (h:w.ownsRow B 65 3 (.slice a n cp) As.length (As.flatMap aP)) (hp:∀p ∈ As,p.1.tag<=255/\∃x c,p.2=.slice x p.1.params.length c/\ZL w x p.1.params.length c p.1.params):GrA w a (As.map Prod.fst):=by
 by_cases h0:As.length=0
 ·exact .inl (by rw[List.eq_nil_of_length_eq_zero h0];rfl)
 obtain ⟨g,rfl,-⟩:=aI h (by omega);refine .inr ⟨g,0,rfl,fun k hk=>?_⟩
 rw[List.length_map]at hk
 have e:yX (As.map Prod.fst) k=As[k].1:=by rw[aE (by rw[List.length_map];exact hk),List.getElem_map]
 obtain ⟨h1,x,c,h2,h3⟩:=hp As[k] (List.getElem_mem hk);rw[e,Nat.zero_add];refine ⟨vO aG h hk (r:=0) (by decide) rfl,vO aG h hk (r:=1) (by decide) rfl,h1,x,c,vO aG h hk (r:=2) (by decide) ?_,h3⟩
 rw[<- h2];rfl
theorem EP {B:Nat} {w:World} {a:Option Addr} {n cp:Nat} {As:List (GE × Value)} (h:w.ownsRow B 59 5 (.slice a n cp) As.length (As.flatMap eP)) (hp:∀p ∈ As,∃x c,p.2=.slice x p.1.start.length c/\ZL w x p.1.start.length c p.1.start):GrE w a (As.map Prod.fst):=by
 by_cases h0:As.length=0
 ·exact .inl (by rw[List.eq_nil_of_length_eq_zero h0];rfl)
 obtain ⟨g,rfl,-⟩:=aI h (by omega);refine .inr ⟨g,0,rfl,fun k hk=>?_⟩
 rw[List.length_map]at hk
 have e:yD (As.map Prod.fst) k=As[k].1:=by rw[aD (by rw[List.length_map];exact hk),List.getElem_map]
 obtain ⟨x,c,h2,h3⟩:=hp As[k] (List.getElem_mem hk);rw[e,Nat.zero_add];refine ⟨vO jF h hk (r:=0) (by decide) rfl,vO jF h hk (r:=1) (by decide) rfl,vO jF h hk (r:=2) (by decide) rfl,vO jF h hk (r:=3) (by decide) rfl,x,c,vO jF h hk (r:=4) (by decide) ?_,h3⟩
 rw[<- h2];rfl
theorem UB {B:Nat} {w:World} {a:Option Addr} {n cp:Nat} {As:List GP} (h:w.ownsRow B 67 3 (.slice a n cp) As.length (As.flatMap pP)):aQ w a As:=by
 by_cases h0:As.length=0
 ·exact .inl (List.eq_nil_of_length_eq_zero h0)
 obtain ⟨g,rfl,-⟩:=aI h (by omega);refine .inr ⟨g,0,rfl,fun k hk=>?_⟩
 rw[aB hk,Nat.zero_add];exact ⟨vO fD h hk (r:=0) (by decide) rfl,vO fD h hk (r:=1) (by decide) rfl,vO fD h hk (r:=2) (by decide) rfl⟩
theorem PD {α :Type} (f: α ->List Value) (L:List α) (x: α):(L++[x]).flatMap f=L.flatMap f++f x:=by simp[List.flatMap]
structure ItO (w : World) (L : List (YU × Value)) : Prop where
 args:∀p ∈ L,∃x c,p.2=.slice x p.1.nums.length c/\ZL w x p.1.nums.length c p.1.nums
 names:∀p ∈ L,p.1.name.length<=140737488355328/\p.1.frm.name.length<=140737488355328/\p.1.tgt.name.length<=140737488355328
theorem ItO.below {w w':World} {L:List (YU × Value)} (h:ItO w L) (hb:Below w.heap.size w w'):ItO w' L:=
 ⟨fun p hp=>by obtain ⟨x,c,h1,h2⟩:=h.args p hp;exact ⟨x,c,h1,h2.below hb⟩,h.names⟩
def zNM (w:World) (p:GA × Value):Prop:=p.1.tag<=255/\∃x c,p.2=.slice x p.1.params.length c/\ZL w x p.1.params.length c p.1.params
def zNL (w:World) (p:GE × Value):Prop:=∃x c,p.2=.slice x p.1.start.length c/\ZL w x p.1.start.length c p.1.start
structure LuL (w : World) (ns : List (List UInt8)) (L : List YU) (As : List (GA × Value)) (Es : List (GE × Value)) (Ps Os : List GP) : Prop where
 a:As.map Prod.fst=(PF 1 L).map luA
 e:Es.map Prod.fst=(PF 2 L).map (luE ns)
 i:Ps=(PF 3 L).map (luI ns)
 o:Os=(PF 4 L).map (luO ns)
 pa:∀p ∈ As,zNM w p
 pe:∀p ∈ Es,zNL w p
theorem LuL.len {w ns L As Es Ps Os} (h:LuL w ns L As Es Ps Os):As.length<=L.length/\Es.length<=L.length/\Ps.length<=L.length/\Os.length<=L.length:=by
 have h1:=congrArg List.length h.a;have h2:=congrArg List.length h.e;have h3:=congrArg List.length h.i;have h4:=congrArg List.length h.o;simp only[List.length_map]at h1 h2 h3 h4;have:=kQ 1 L;have:=kQ 2 L;have:=kQ 3 L;have:=kQ 4 L;omega
structure PC (B : Nat) (w : World) (v1 v2 v3 v4 : Value) (As : List (GA × Value)) (Es : List (GE × Value)) (Ps Os : List GP) : Prop where
 r1:w.ownsRow B 65 3 v1 As.length (As.flatMap aP)
 r2:w.ownsRow B 59 5 v2 Es.length (Es.flatMap eP)
 r3:w.ownsRow B 67 3 v3 Ps.length (Ps.flatMap pP)
 r4:w.ownsRow B 67 3 v4 Os.length (Os.flatMap pP)
 n12:NB v1 v2
 n13:NB v1 v3
 n14:NB v1 v4
 n23:NB v2 v3
 n24:NB v2 v4
 n34:NB v3 v4
def zNK (u:World) (p:GP) (v:Value):Prop:=∃h,v=.slice (some ⟨h,0,none⟩) 1 1/\∀j y,(pP p)[j]? =some y->u.cell? ((⟨h,0,none⟩:Addr).add j)=some y
theorem zNK.later {u u':World} {p:GP} {v:Value} (h:zNK u p v) (hb:Below u.heap.size u u'):zNK u' p v:=by
 obtain ⟨g,h1,h2⟩:=h;exact ⟨g,h1,fun j y hy=>xR hb (h2 j y hy)⟩
structure OZ (B : Nat) (w : World) (v1 v2 v3 v4 : Value) (As : List (GA × Value)) (Es : List (GE × Value)) (Ps Os : List GP) : Prop where
 rw:PC B w v1 v2 v3 v4 As Es Ps Os
 n1:∀p ∈ As,oM B w p.2 p.1.params
 n2:∀p ∈ Es,oM B w p.2 p.1.start
 ap:(As.map Prod.snd++Es.map Prod.snd).Pairwise NB
 av:∀q ∈ As.map Prod.snd++Es.map Prod.snd,NB v1 q/\NB v2 q/\NB v3 q/\NB v4 q
theorem PC.keep {B w w' v1 v2 v3 v4 As Es Ps Os} (h:PC B w v1 v2 v3 v4 As Es Ps Os) (hk:∀k,B<=k->k<w.heap.size->w'.heap[k]? =w.heap[k]?):PC B w' v1 v2 v3 v4 As Es Ps Os:=
 ⟨xB h.r1 fun k e=>hk k (wF h.r1 k e) (rM h.r1 k e),xB h.r2 fun k e=>hk k (wF h.r2 k e) (rM h.r2 k e),xB h.r3 fun k e=>hk k (wF h.r3 k e) (rM h.r3 k e),xB h.r4 fun k e=>hk k (wF h.r4 k e) (rM h.r4 k e),h.n12,h.n13,h.n14,h.n23,h.n24,h.n34⟩
theorem OZ.keep {B w w' v1 v2 v3 v4 As Es Ps Os} (h:OZ B w v1 v2 v3 v4 As Es Ps Os) (hk:∀k,B<=k->k<w.heap.size->w'.heap[k]? =w.heap[k]?):OZ B w' v1 v2 v3 v4 As Es Ps Os:=
 ⟨h.rw.keep hk,fun p hp=>xB (h.n1 p hp) fun k e=>hk k (wF (h.n1 p hp) k e) (rM (h.n1 p hp) k e),fun p hp=>xB (h.n2 p hp) fun k e=>hk k (wF (h.n2 p hp) k e) (rM (h.n2 p hp) k e),h.ap,h.av⟩
theorem PC.mono {B B' w v1 v2 v3 v4 As Es Ps Os} (h:PC B w v1 v2 v3 v4 As Es Ps Os) (hb:B'<=B):PC B' w v1 v2 v3 v4 As Es Ps Os:=
 ⟨uQ h.r1 hb,uQ h.r2 hb,uQ h.r3 hb,uQ h.r4 hb,h.n12,h.n13,h.n14,h.n23,h.n24,h.n34⟩
theorem OZ.mono {B B' w v1 v2 v3 v4 As Es Ps Os} (h:OZ B w v1 v2 v3 v4 As Es Ps Os) (hb:B'<=B):OZ B' w v1 v2 v3 v4 As Es Ps Os:=
 ⟨h.rw.mono hb,fun p hp=>(h.n1 p hp).mono hb,fun p hp=>(h.n2 p hp).mono hb,h.ap,h.av⟩
structure OwS (w0 w : World) (nm : List UInt8) (v1 v2 v3 v4 : Value) (A0 : List (GA × Value)) (E0 : List (GE × Value)) (Ps Os : List GP) (ka ke : Nat) (As : List (GA × Value)) (Es : List (GE × Value)) (wr : World) : Prop where
 gb:zE 26 w.heap.size wr #[.string (yG nm),v1,v2,v3,v4]
 rb:zE 26 (w.heap.size+1) wr #[qE,qN,qN,qN,qN]
 rw:PC w0.heap.size wr v1 v2 v3 v4 As Es Ps Os
 fa:As.map Prod.fst=A0.map Prod.fst
 fe:Es.map Prod.fst=E0.map Prod.fst
 da:As.drop ka=A0.drop ka
 de:Es.drop ke=E0.drop ke
 na:∀p ∈ As.take ka,oM (w.heap.size+2) wr p.2 p.1.params
 ne:∀p ∈ Es.take ke,oM (w.heap.size+2) wr p.2 p.1.start
 ap:((As.take ka).map Prod.snd++(Es.take ke).map Prod.snd).Pairwise NB
 bel:Below w0.heap.size w0 wr
 l1:∀k,v1.ownBlock=some k->k<w.heap.size
 l2:∀k,v2.ownBlock=some k->k<w.heap.size
 l3:∀k,v3.ownBlock=some k->k<w.heap.size
 l4:∀k,v4.ownBlock=some k->k<w.heap.size
 big:w.heap.size+2<=wr.heap.size
 lo:w0.heap.size<=w.heap.size
theorem OwS.below {w0 w nm v1 v2 v3 v4 A0 E0 Ps Os ka ke As Es} {wr w2:World} (h:OwS w0 w nm v1 v2 v3 v4 A0 E0 Ps Os ka ke As Es wr) (hb:Below wr.heap.size wr w2):OwS w0 w nm v1 v2 v3 v4 A0 E0 Ps Os ka ke As Es w2:=
 ⟨h.gb.below hb,h.rb.below hb,h.rw.keep fun k _ hk=>hb.block k hk,h.fa,h.fe,h.da,h.de,fun p hp=>(h.na p hp).below hb,fun p hp=>(h.ne p hp).below hb,h.ap,h.bel.trans (hb.mono h.bel.size),h.l1,h.l2,h.l3,h.l4,Nat.le_trans h.big hb.size,h.lo⟩
def lZ (ns:List Int):Prop:=cQ ns/\ns.length*8<=140737488351232
def zNJ (tp:Int) (outs:List GP):GG:=⟨[103],[⟨[97],2,[2]⟩,⟨[98],8,[]⟩],[⟨0,0,1,tp,[7]⟩],[⟨[120],0,0⟩],outs⟩
structure SmB (b : Nat) (tp : Int) (w : World) : Prop where
 i2:zE 3 (b+1) w #[.int .i64 2]
 ac:zE 65 (b+2) w #[.string ⟨#[97]⟩,.int .u8 2,.slice (some ⟨b+1,0,none⟩) 1 1,.string ⟨#[98]⟩,.int .u8 8,qN]
 i7:zE 3 (b+3) w #[.int .i64 7]
 ed:zE 59 (b+4) w #[.int .i64 0,.int .i64 0,.int .i64 1,.int .i64 tp,.slice (some ⟨b+3,0,none⟩) 1 1]
 pi:zE 67 (b+5) w #[.string ⟨#[120]⟩,.int .i64 0,.int .i64 0]
 po:zE 67 (b+6) w #[.string ⟨#[121]⟩,.int .i64 1,.int .i64 0]
theorem SmB.below {b:Nat} {tp:Int} {w w':World} (h:SmB b tp w) (hb:Below w.heap.size w w'):SmB b tp w':=⟨h.i2.below hb,h.ac.below hb,h.i7.below hb,h.ed.below hb,h.pi.below hb,h.po.below hb⟩
theorem SmB.set {b:Nat} {tp:Int} {w:World} (h:SmB b tp w) (x:Int):SmB b x (w.setCell ⟨b+4,3,none⟩ (.int .i64 x)):=by
 have set:∀k,k≠b+4->(w.setCell ⟨b+4,3,none⟩ (.int .i64 x)).heap[k]? =w.heap[k]? :=fun k hk=>Below.heap_setCell w ⟨b+4,3,none⟩ _ k hk
 exact ⟨h.i2.keep (set _ (by omega)),h.ac.keep (set _ (by omega)),h.i7.keep (set _ (by omega)),h.ed.set 3 _,h.pi.keep (set _ (by omega)),h.po.keep (set _ (by omega))⟩
theorem zQI {z:Int} (h: -9223372036854775808<=z/\z<=9223372036854775807):cQ [z]:=fun k=>by
 match k with
 |0=>exact h
 |k+1=>exact (by decide:(-9223372036854775808:Int)<=0/\(0:Int)<=9223372036854775807)
theorem cW {w:World} {g:Nat} {z:Int} (h:zE 3 g w #[.int .i64 z]) (hz: -9223372036854775808<=z/\z<=9223372036854775807):ZL w (some ⟨g,0,none⟩) 1 1 [z]:=
 ⟨rfl,by decide,(fun e=>by cases e),zQI hz,.inr ⟨g,0,rfl,fun k hk=>by
  have e:k=0:=by simp at hk;omega
  subst e
  exact h.cell rfl⟩,Nat.le_refl _⟩
theorem SmB.gr {b:Nat} {tp:Int} {w:World} (h:SmB b tp w):NJ w (some ⟨b+2,0,none⟩) (some ⟨b+4,0,none⟩) (some ⟨b+5,0,none⟩) (some ⟨b+6,0,none⟩) (zNJ tp [⟨[121],1,0⟩]):=by
 refine ⟨.inr ⟨b+2,0,rfl,fun k hk=>?_⟩,.inr ⟨b+4,0,rfl,fun k hk=>?_⟩,.inr ⟨b+5,0,rfl,fun k hk=>?_⟩,.inr ⟨b+6,0,rfl,fun k hk=>?_⟩,by show 2<=1000000000000000;decide,by show 1<=1000000000000000;decide,by show 1<=1000000000000000;decide,by show 1<=1000000000000000;decide⟩
 ·match k,hk with
  |0,_=>exact ⟨h.ac.cell (k:=0) rfl,h.ac.cell (k:=1) rfl,by show 2<=255;decide,_,_,h.ac.cell (k:=2) rfl,cW h.i2 (by decide)⟩
  |1,_=>exact ⟨h.ac.cell (k:=3) rfl,h.ac.cell (k:=4) rfl,by show 8<=255;decide,_,_,h.ac.cell (k:=5) rfl,iW⟩
  |k+2,hk=>exact absurd hk (by show ¬k+2<2;omega)
 ·match k,hk with
  |0,_=>exact ⟨h.ed.cell (k:=0) rfl,h.ed.cell (k:=1) rfl,h.ed.cell (k:=2) rfl,h.ed.cell (k:=3) rfl,_,_,h.ed.cell (k:=4) rfl,cW h.i7 (by decide)⟩
  |k+1,hk=>exact absurd hk (by show ¬k+1<1;omega)
 ·match k,hk with
  |0,_=>exact ⟨h.pi.cell (k:=0) rfl,h.pi.cell (k:=1) rfl,h.pi.cell (k:=2) rfl⟩
  |k+1,hk=>exact absurd hk (by show ¬k+1<1;omega)
 match k,hk with
 |0,_=>exact ⟨h.po.cell (k:=0) rfl,h.po.cell (k:=1) rfl,h.po.cell (k:=2) rfl⟩
 |k+1,hk=>exact absurd hk (by show ¬k+1<1;omega)
theorem WO {B:Nat} {w:World} {q:Value} {ns:List Int} (h:oM B w q ns) (ho:lZ ns):∃x c,q=.slice x ns.length c/\ZL w x ns.length c ns:=by
 obtain ⟨a,cap,e,-,h1,h2,h3,-⟩:=iV (n:=ns.length) (zs:=ns) h;exact ⟨a,cap,e,⟨rfl,ho.2,h3,ho.1,h1,h2⟩⟩
theorem memA {As:List GA} {x:GA} (h:x ∈ As):∃k,k<As.length/\x=yX As k:=by
 obtain ⟨k,hk,rfl⟩:=List.mem_iff_getElem.1 h;exact ⟨k,hk,(aE hk).symm⟩
theorem memE {As:List GE} {x:GE} (h:x ∈ As):∃k,k<As.length/\x=yD As k:=by
 obtain ⟨k,hk,rfl⟩:=List.mem_iff_getElem.1 h;exact ⟨k,hk,(aD hk).symm⟩
theorem OZ.gr {B:Nat} {w:World} {x1 x2 x3 x4:Option Addr} {n1 n2 n3 n4 d1 d2 d3 d4:Nat} {nm:List UInt8} {As:List (GA × Value)} {Es:List (GE × Value)} {Ps Os:List GP} (h:OZ B w (.slice x1 n1 d1) (.slice x2 n2 d2) (.slice x3 n3 d3) (.slice x4 n4 d4) As Es Ps Os) (ha:∀p ∈ As,p.1.tag<=255/\lZ p.1.params) (he:∀p ∈ Es,lZ p.1.start)
 (l1:As.length<=1000000000000000) (l2:Es.length<=1000000000000000) (l3:Ps.length<=1000000000000000) (l4:Os.length<=1000000000000000):NJ w x1 x2 x3 x4 ⟨nm,As.map Prod.fst,Es.map Prod.fst,Ps,Os⟩:=
 ⟨ES h.rw.r1 (fun p hp=>⟨(ha p hp).1,WO (h.n1 p hp) (ha p hp).2⟩),EP h.rw.r2 (fun p hp=>WO (h.n2 p hp) (he p hp)),UB h.rw.r3,UB h.rw.r4,by show (As.map Prod.fst).length<=_;rw[List.length_map];exact l1,by show (Es.map Prod.fst).length<=_;rw[List.length_map];exact l2,l3,l4⟩
end Go.Proofs.YtpohmekkdjdhmaaGreat
