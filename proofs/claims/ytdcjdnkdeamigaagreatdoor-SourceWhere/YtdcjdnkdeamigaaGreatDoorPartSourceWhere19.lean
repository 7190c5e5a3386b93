/- Texts of one chain. -/
import Derived.Test.YtdcjdnkdeamigaaGreatDoorPartQ
import Derived.Test.YtdcjdnkdeamigaaGreatDoorPartSourceWhere18
import Derived.Test.YtdcjdnkdeamigaaGreatDoorPartSourceWhere5
set_option maxRecDepth 100000
set_option maxHeartbeats 8000000
namespace Go.Proofs.YtdcjdnkdeamigaaGreatDoor
open Go.ChangeShapes Go.WideShapes Go.ChangeAt Go.RowKit
theorem KJ (P:Nat) (v:Value) (ts:List yJ) (i:Nat) (W:World) (h:yH P v ts i W) (hE:yQ ts) (hi:i<ts.length) (hl:ts.length<=2000000):
 Calls Tryz.prog 86 #[(qP P)] W (uJ P v ts W (xY ts i)):=by
 by_cases t0:(zM ts i).text=[97,99,116,111,114]
 ·rcases hr:vN ts i with ⟨_|x,j1⟩
  ·exact eH P v ts i W h hE hi hl t0 j1 hr
  rcases hs:yX ts [59] j1 with ⟨_|⟨⟩,j2⟩
  ·exact eG P v ts i W h hE hi hl t0 x j1 j2 hr hs
  exact cO P v ts i W h hE hi hl t0 x j1 j2 hr hs
 by_cases t1:(zM ts i).text=[101,100,103,101]
 ·rcases hr:vF ts i with ⟨_|x,j1⟩
  ·exact cN P v ts i W h hE hi hl t0 t1 j1 hr
  rcases hs:yX ts [59] j1 with ⟨_|⟨⟩,j2⟩
  ·exact cM P v ts i W h hE hi hl t0 t1 x j1 j2 hr hs
  exact aX P v ts i W h hE hi hl t0 t1 x j1 j2 hr hs
 by_cases t2:(zM ts i).text=[105,110]
 ·rcases hr:dU ts i with ⟨_|x,j1⟩
  ·exact XR P v ts i W h hE hi hl t0 t1 t2 j1 hr
  rcases hs:yX ts [59] j1 with ⟨_|⟨⟩,j2⟩
  ·exact XQ P v ts i W h hE hi hl t0 t1 t2 x j1 j2 hr hs
  exact VX P v ts i W h hE hi hl t0 t1 t2 x j1 j2 hr hs
 rcases hr:rX ts i with ⟨_|x,j1⟩
 ·exact aW P v ts i W h hE hi hl t0 t1 t2 j1 hr
 rcases hs:yX ts [59] j1 with ⟨_|⟨⟩,j2⟩
 ·exact aV P v ts i W h hE hi hl t0 t1 t2 x j1 j2 hr hs
 exact XP P v ts i W h hE hi hl t0 t1 t2 x j1 j2 hr hs
theorem zU {α β :Type} {r:Rd α} {f: α ->Nat->Rd β} {b: β} {k:Nat} (h:andThen r f=(some b,k)):∃a j,r=(some a,j)/\f a j=(some b,k):=by
 rcases r with ⟨_|a,j⟩
 ·cases h
 exact ⟨a,j,rfl,h⟩
theorem uW {ts:List yJ} {x:List UInt8} {i j:Nat} {u:Unit} (h:yX ts x i=(some u,j)):j=i+1:=by
 unfold yX at h
 split at h
 ·cases h;rfl
 cases h
theorem uD {ts:List yJ} {i j:Nat} {n:List UInt8} (h:wY ts i=(some n,j)):j=i+1:=by
 unfold wY at h
 split at h
 ·cases h;rfl
 cases h
theorem dS {ts:List yJ} {i j:Nat} {n:Int} (h:nX ts i=(some n,j)):j=i+1:=by
 unfold nX at h
 split at h
 ·cases h;rfl
 cases h
theorem kL {ts:List yJ} {i j:Nat} {p:vZ} (h:xP ts i=(some p,j)):i<j:=by
 unfold xP at h;obtain ⟨a1,j1,h1,h⟩:=zU h;obtain ⟨a2,j2,h2,h⟩:=zU h;obtain ⟨a3,j3,h3,h⟩:=zU h
 cases h
 have:=uD h1;have:=uW h2;have:=dS h3;omega
theorem VW {ts:List yJ} {i j:Nat} {p:List Int} (h:mE ts i=(some p,j)):i<=j:=by
 unfold mE at h
 split at h
 ·obtain ⟨a1,j1,h1,h⟩:=zU h
  have:=dS h1
  cases h
  omega
 cases h
 exact Nat.le_refl _
theorem VV {ts:List yJ} {i j:Nat} {x:zF} (h:uK ts i=(some x,j)):i<j:=by
 unfold uK at h
 split at h
 ·unfold vN at h
  obtain ⟨a1,j1,h1,h⟩:=zU h;obtain ⟨a2,j2,h2,h⟩:=zU h;obtain ⟨a3,j3,h3,h⟩:=zU h;obtain ⟨a4,j4,h4,h⟩:=zU h;have:=uW h1;have:=uD h2;have:=uW h3;have:=uD h4
  cases h
  omega
 split at h
 ·unfold vF at h
  obtain ⟨a1,j1,h1,h⟩:=zU h;obtain ⟨a2,j2,h2,h⟩:=zU h;obtain ⟨a3,j3,h3,h⟩:=zU h;obtain ⟨a4,j4,h4,h⟩:=zU h;obtain ⟨a5,j5,h5,h⟩:=zU h;have:=uW h1;have:=kL h2;have:=uW h3;have:=kL h4;have:=VW h5
  cases h
  omega
 split at h
 ·unfold dU at h
  obtain ⟨a1,j1,h1,h⟩:=zU h;obtain ⟨a2,j2,h2,h⟩:=zU h;obtain ⟨a3,j3,h3,h⟩:=zU h;obtain ⟨a4,j4,h4,h⟩:=zU h;have:=uW h1;have:=uD h2;have:=uW h3;have:=kL h4
  cases h
  omega
 unfold rX at h;obtain ⟨a1,j1,h1,h⟩:=zU h;obtain ⟨a2,j2,h2,h⟩:=zU h;obtain ⟨a3,j3,h3,h⟩:=zU h;obtain ⟨a4,j4,h4,h⟩:=zU h;have:=uW h1;have:=kL h2;have:=uW h3;have:=uD h4
 cases h
 omega
theorem KI {ts:List yJ} {i j:Nat} {x:zF} (h:xY ts i=(some x,j)):i<j:=by
 unfold xY at h;obtain ⟨a1,j1,h1,h⟩:=zU h;obtain ⟨a2,j2,h2,h⟩:=zU h;have:=VV h1;have:=uW h2
 cases h
 omega
theorem tM {ts:List yJ} {x:List UInt8} {i:Nat} (hE:yQ ts) (hi:i<ts.length) (hx:x≠[]):(yX ts x i).2<ts.length:=by
 unfold yX
 split
 ·rename_i h;exact hE.text_lt hi hx h
 exact hi
theorem rM {ts:List yJ} {i:Nat} (hE:yQ ts) (hi:i<ts.length):(wY ts i).2<ts.length:=by
 unfold wY
 split
 ·rename_i h;exact hE.sort_lt hi (by decide) h
 exact hi
theorem QA {ts:List yJ} {i:Nat} (hE:yQ ts) (hi:i<ts.length):(nX ts i).2<ts.length:=by
 unfold nX
 split
 ·rename_i h;exact hE.sort_lt hi (by decide) h
 exact hi
theorem wW {α β :Type} {r:Rd α} {f: α ->Nat->Rd β} {n:Nat} (h:r.2<n) (hf:∀a j,j<n->(f a j).2<n):(andThen r f).2<n:=by
 rcases r with ⟨_|a,j⟩
 ·exact h
 exact hf a j h
theorem kK {ts:List yJ} {i:Nat} (hE:yQ ts) (hi:i<ts.length):(xP ts i).2<ts.length:=
 wW (rM hE hi) fun _ _ h1=>wW (tM hE h1 (by decide)) fun _ _ h2=>wW (QA hE h2) fun _ _ h3=>h3
theorem VU {ts:List yJ} {j:Nat} (hE:yQ ts) (hj:j<ts.length):j+(yM ts j).length<ts.length:=XW hE ts.length j (by omega) hj
theorem KH {ts:List yJ} {i:Nat} (hE:yQ ts) (hi:i<ts.length):(mE ts i).2<ts.length:=by
 unfold mE
 split
 ·rename_i h
  exact wW (QA hE (hE.text_lt hi (by decide) h)) fun _ _ h1=>VU hE h1
 exact hi
theorem KG {ts:List yJ} {i:Nat} (hE:yQ ts) (hi:i<ts.length):(uK ts i).2<ts.length:=by
 unfold uK
 split
 ·exact wW (tM hE hi (by decide)) fun _ _ h1=>wW (rM hE h1) fun _ _ h2=>wW (tM hE h2 (by decide)) fun _ _ h3=>wW (rM hE h3) fun _ _ h4=>VU hE h4
 split
 ·exact wW (tM hE hi (by decide)) fun _ _ h1=>wW (kK hE h1) fun _ _ h2=>wW (tM hE h2 (by decide)) fun _ _ h3=>wW (kK hE h3) fun _ _ h4=>wW (KH hE h4) fun _ _ h5=>h5
 split
 ·exact wW (tM hE hi (by decide)) fun _ _ h1=>wW (rM hE h1) fun _ _ h2=>wW (tM hE h2 (by decide)) fun _ _ h3=>wW (kK hE h3) fun _ _ h4=>h4
 exact wW (tM hE hi (by decide)) fun _ _ h1=>wW (kK hE h1) fun _ _ h2=>wW (tM hE h2 (by decide)) fun _ _ h3=>wW (rM hE h3) fun _ _ h4=>h4
theorem VT {ts:List yJ} {i:Nat} (hE:yQ ts) (hi:i<ts.length):(xY ts i).2<ts.length:=
 wW (KG hE hi) fun _ _ h1=>wW (tM hE h1 (by decide)) fun _ _ h2=>h2
theorem NV {ts:List yJ} {i j:Nat} (h:xY ts i=(none,j)) (hE:yQ ts) (hi:i<ts.length):j<ts.length:=by
 have:=VT hE hi;rw[h]at this;exact this
theorem cL {ts:List yJ} {i j:Nat} {x:zF} (h:xY ts i=(some x,j)) (hE:yQ ts) (hi:i<ts.length):j<ts.length:=by
 have:=VT hE hi;rw[h]at this;exact this
def SJ (xs:List zF) (r:Rd (List zF)):Rd (List zF):=
 match r with
 |(some ys,k)=>(some (xs++ys),k)
 |(none,k)=>(none,k)
theorem KF (r:Rd (List zF)):SJ [] r=r:=by
 rcases r with ⟨_|ys,k⟩<;>rfl
theorem oO {ts:List yJ} {f i:Nat} (h:(zM ts i).text≠[125]):vT (f+1) ts i=andThen (xY ts i) fun x j=>andThen (vT f ts j) fun xs k=>(some (x::xs),k):=by
 show (if _ then _ else _)=_;rw[if_neg h]
theorem NU {ts:List yJ} {f i j:Nat} {x:zF} {done:List zF} (h:(zM ts i).text≠[125]) (hx:xY ts i=(some x,j)):SJ done (vT (f+1) ts i)=SJ (done++[x]) (vT f ts j):=by
 rw[oO h,hx,zO]
 rcases vT f ts j with ⟨_|ys,k⟩
 ·rfl
 show (some (done++(x::ys)),k)=(some (done++[x]++ys),k);rw[List.append_assoc];rfl
theorem KE {ts:List yJ} {f i j:Nat} {done:List zF} (h:(zM ts i).text≠[125]) (hx:xY ts i=(none,j)):SJ done (vT (f+1) ts i)=(none,j):=by
 rw[oO h,hx,yS];rfl
theorem KD {ts:List yJ} {f i:Nat} {done:List zF} (h:(zM ts i).text=[125]):SJ done (vT (f+1) ts i)=(some done,i):=by
 have e:vT (f+1) ts i=(some [],i):=by
  show (if _ then _ else _)=_;rw[if_pos h]
 rw[e];show (some (done++[]),i)=_
 rw[List.append_nil]
def tL (p:zF × Value):List Value:=(zJ p.1.kind p.1.name p.1.tag p.2 p.1.frm p.1.tO p.1.place).toList
structure vY (base : Nat) (w : World) (v : Value) (L : List (zF × Value)) : Prop where
 row:w.ownsRow base 103 11 v L.length (L.flatMap tL)
 nums:∀p ∈ L,yZ base w p.2 p.1.nums
 off:∀p ∈ L,∀k,p.2.ownBlock=some k->v.ownBlock≠some k
 pair:L.Pairwise (fun p q=>∀k,p.2.ownBlock=some k->q.2.ownBlock≠some k)
theorem NT (base:Nat) (w:World):vY base w (qN) []:=⟨World.ownsRow_nil _ _ _ _,fun _ h=>(by cases h),fun _ h=>(by cases h),List.Pairwise.nil⟩
theorem vY.below {base w w' v L} (h:vY base w v L) (hb:Below w.heap.size w w'):vY base w' v L:=⟨tW h.row hb,fun p hp=>(h.nums p hp).below hb,h.off,h.pair⟩
theorem vY.grown {base w w' v L} {b:Nat} (h:vY base w v L) (hg:w.grownBy w' (some b)) (hb:b<base):vY base w' v L:=⟨mX h.row hg hb,fun p hp=>(h.nums p hp).grown hg hb,h.off,h.pair⟩
theorem vY.put {base w v L} (h:vY base w v L) {I k:Nat} {u:Value} (hI:I<base):vY base (w.setCell ⟨I,k,none⟩ u) v L:=⟨ownsRow_setCell_below h.row hI u,fun p hp=>(h.nums p hp).put hI,h.off,h.pair⟩
theorem vY.mono {base base' w v L} (h:vY base w v L) (hb:base'<=base):vY base' w v L:=⟨eX h.row hb,fun p hp=>(h.nums p hp).mono hb,h.off,h.pair⟩
theorem vY.shape {base w v L} (h:vY base w v L):∃a c,v=.slice a L.length c:=by
 rcases h.row.2 with ⟨rfl,h0⟩|⟨g,cap,cur,rfl,-⟩
 ·exact ⟨none,0,by rw[h0]⟩
 exact ⟨_,_,rfl⟩
theorem vY.app {base w w' v v' L x q} {m:Nat} (h:vY base w v L) (hq:yZ m w q x.nums) (hm:∀k,(v.ownBlock=some k\/∃p ∈ L,p.2.ownBlock=some k)->k<m) (hbm:base<=m)
 (ho:w'.ownsRow base 103 11 v' (L.length+1) (L.flatMap tL++tL (x,q)))
 (ht:(∃ g cap,v=.slice (some ⟨g,0,none⟩) L.length cap/\v'=.slice (some ⟨g,0,none⟩) (L.length+1) cap/\w.grownBy w' (some g))\/(∃ cap,v'=.slice (some ⟨w.heap.size,0,none⟩) (L.length+1) cap/\w.grownBy w' none)):
 vY base w' v' (L++[(x,q)]):=by
 have hqb:∀k,q.ownBlock=some k->m<=k:=kM hq
 have hrow:w'.ownsRow base 103 11 v' (L++[(x,q)]).length ((L++[(x,q)]).flatMap tL):=by
  rw[List.flatMap_append,List.length_append]
  simpa [List.flatMap] using ho
 have hpair:(L++[(x,q)]).Pairwise (fun p q=>∀k,p.2.ownBlock=some k->q.2.ownBlock≠some k):=by
  rw[List.pairwise_append];refine ⟨h.pair,List.pairwise_singleton _ _,fun p hp r hr k e e2=>?_⟩
  have er:r=(x,q):=by simpa using hr
  subst er;have h1:=hm k (Or.inr ⟨p,hp,e⟩);have h2:=hqb k e2;omega
 rcases ht with ⟨g,cap,rfl,rfl,hg⟩|⟨cap,rfl,hg⟩
 ·have hgm:=hm g (Or.inl rfl)
  refine ⟨hrow,fun p hp=>?_,fun p hp k e=>?_,hpair⟩
  ·rcases List.mem_append.1 hp with hp|hp
   ·refine World.ownsRow.kept (h.nums p hp) hg ?_
    by_cases e:p.2.ownBlock=none
    ·exact Or.inl e
    exact Or.inr (fun e2=>h.off p hp g e2 rfl)
   have ep:p=(x,q):=by simpa using hp
   subst ep;exact (hq.kept hg (fun k e=>by cases e;exact hgm)).mono hbm
  rcases List.mem_append.1 hp with hp|hp
  ·exact h.off p hp k e
  have ep:p=(x,q):=by simpa using hp
  subst ep;intro e2;have h2:=hqb k e;have h3:g=k:=Option.some.inj e2;omega
 have hsz:∀ {r:Value} {ns:List Int} {b:Nat},yZ b w r ns->∀k,r.ownBlock=some k->k<w.heap.size:=fun hr=>nW hr
 have kp:∀ {r:Value} {ns:List Int} {b:Nat},yZ b w r ns->yZ b w' r ns:=fun hr=>World.ownsRow.kept hr hg (Classical.em _)
 refine ⟨hrow,fun p hp=>?_,fun p hp k e e2=>?_,hpair⟩
 ·rcases List.mem_append.1 hp with hp|hp
  ·exact kp (h.nums p hp)
  have ep:p=(x,q):=by simpa using hp
  subst ep;exact (kp hq).mono hbm
 have e3:w.heap.size=k:=Option.some.inj e2
 rcases List.mem_append.1 hp with hp|hp
 ·have:=hsz (h.nums p hp) k e
  omega
 have ep:p=(x,q):=by simpa using hp
 subst ep;have:=hsz hq k e;omega
theorem Tryz.infoIT_k:(Tryz.prog.info? 103).map (fun i=>(i.zero,i.size,i.bytes))=some (some (.agg qI),11,136):=by kernel_rfl
theorem SH {w w':World} (h:w.grownBy w' none) (row:Option Nat):w.grownBy w' row:=⟨h.os,h.tape,h.output,h.size,fun k hk _=>h.block k hk (fun e=>by cases e)⟩
theorem NS (x:zF) (a:Option Addr) (n c:Nat):∀u ∈ tL (x,.slice a n c),u.oneCell'=true:=by
 intro u hu;simp only[tL,zJ,List.mem_cons,List.not_mem_nil,or_false]at hu
 rcases hu with rfl|rfl|rfl|rfl|rfl|rfl|rfl|rfl|rfl|rfl|rfl<;>rfl
theorem SF (B:Nat) (w:World) (a:Option Addr) (c:Nat) (L:List (zF × Value)) (x:zF) (q:Value) (b:Nat) (h:w.ownsRow B 103 11 (.slice a L.length c) L.length (L.flatMap tL)) (hc:∀k y,(tL (x,q))[k]? =some y->w.cell? ⟨b,k,none⟩=some y) (hl:L.length<=2000000) (hb:B<=w.heap.size) (hq:∃a n c,q=.slice a n c:=by exact ⟨_,_,_,rfl⟩):
 ∃r' w',(Builtin.append_ #[50,50] 50 #[.slice a L.length c,.slice (some ⟨b,0,none⟩) 1 1]).run Tryz.prog w=.ok r' w'/\w'.ownsRow B 103 11 r' (L.length+1) (L.flatMap tL++tL (x,q))/\
  ((∃ g cap,Value.slice a L.length c=.slice (some ⟨g,0,none⟩) L.length cap/\r'=.slice (some ⟨g,0,none⟩) (L.length+1) cap/\w.grownBy w' (some g))\/(∃ cap,r'=.slice (some ⟨w.heap.size,0,none⟩) (L.length+1) cap/\w.grownBy w' none)):=by
 obtain ⟨i0,hi,hz0,hz1,hz2⟩:=info_parts Tryz.infoIT_k;obtain ⟨a1,n1,c1,rfl⟩:=hq
 exact pZ (P:=Tryz.prog) w B 50 50 103 i0 _ 11 136 Tryz.underlying50 hi hz0 hz1 hz2 rfl (by decide) _ _ _ h ⟨b,0,none⟩ 1 1 (by decide) (tL (x,.slice a1 n1 c1)) rfl (fun j u hu=>by
  have e:(⟨b,0,none⟩:Addr).add j=⟨b,j,none⟩:=by
   unfold Addr.add
   by_cases h0:j=0
   ·subst h0;rfl
   simp[h0]
  rw[e]
  exact hc j u hu) (NS x a1 n1 c1) (by unfold maxLen;omega) (by omega) hb
def rW (P:Nat) (v:Value) (ts:List yJ) (W:World) (r:Rd jU) (e:Ending) (w':World):Prop:=
 match r with
 |(some s,j)=>(∃ a c L,e=.returned (.agg #[.string (zW s.name),.slice a s.items.length c])/\s.items=L.map Prod.fst/\vY W.heap.size w' (.slice a s.items.length c) L)/\zN P v ts j W w'
 |(none,j)=>e=.panicked zH/\zN P v ts j W w'/\j<ts.length
theorem SE (P:Nat) (v:Value) (ts:List yJ) (W:World) (h:yH P v ts 0 W) (hE:yQ ts) (hl:ts.length<=2000000) (j1:Nat) (h1:yX ts [103,114,97,112,104] 0=(none,j1)):
 Calls Tryz.prog 47 #[(qP P)] W (rW P v ts W (yB ts)):=by
 have HM:yB ts=(none,j1):=by unfold yB;rw[h1,yS]
 rw[HM];show Calls _ _ _ _ (fun e w'=>e=.panicked zH/\zN P v ts j1 W w'/\j1<ts.length)
 clear HM;have hb0:=(Below.refl W.heap.size W).alloc (Nat.le_refl _) (.cells #[qE,qN] 52);have HG0:=zY (zN.stay h hb0)
 have HBK:Hid (∀ {n:Nat},W.heap.size<=n->v.ownBlock≠some n/\P≠n):=fun hn=>h.blk hn
 have H1:Hid (∀ w1,yH P v ts 0 w1->Calls Tryz.prog 83 #[(qP P),.string ⟨#[103,114,97,112,104]⟩] w1 fun e w'=>e=.panicked zH/\zN P v ts j1 w1 w'):=(yG h1 hE.pos hl P v).2;have hj1:j1<ts.length:=(yG h1 hE.pos hl P v).1;clear h hb0 h1
 go_enter Tryz.func47,Tryz.ntmps47
 go_wp2_with (first
  |(go_at_call 83;(with_reducible refine (H1.out _ HG0.out.par).mono ?_);rintro e w1 ⟨rfl,hg⟩;have G1:=zY (HG0.out.trans hg);clear hg))
 exact ⟨rfl,rfl,G1.out,hj1⟩
theorem SD (P:Nat) (v:Value) (ts:List yJ) (W:World) (h:yH P v ts 0 W) (hE:yQ ts) (hl:ts.length<=2000000) (j1:Nat) (h1:yX ts [103,114,97,112,104] 0=(some (),j1)) (j2:Nat) (h2:wY ts j1=(none,j2)):
 Calls Tryz.prog 47 #[(qP P)] W (rW P v ts W (yB ts)):=by
 have HM:yB ts=(none,j2):=by unfold yB;rw[h1,zO,h2,yS]
 rw[HM];show Calls _ _ _ _ (fun e w'=>e=.panicked zH/\zN P v ts j2 W w'/\j2<ts.length)
 clear HM;have hb0:=(Below.refl W.heap.size W).alloc (Nat.le_refl _) (.cells #[qE,qN] 52);have HG0:=zY (zN.stay h hb0)
 have HBK:Hid (∀ {n:Nat},W.heap.size<=n->v.ownBlock≠some n/\P≠n):=fun hn=>h.blk hn
 have H1:Hid (∀ w1,yH P v ts 0 w1->Calls Tryz.prog 83 #[(qP P),.string ⟨#[103,114,97,112,104]⟩] w1 fun e w'=>e=.returned (.tuple #[])/\zN P v ts j1 w1 w'):=(zS h1 hE hE.pos hl (by decide) P v).2;have hj1:j1<ts.length:=(zS h1 hE hE.pos hl (by decide) P v).1;have H2:Hid (∀ w1,yH P v ts j1 w1->Calls Tryz.prog 84 #[(qP P)] w1 fun e w'=>e=.panicked zH/\zN P v ts j2 w1 w'):=(uU h2 hj1 hl P v).2;have hj2:j2<ts.length:=(uU h2 hj1 hl P v).1;clear h hb0 h1 h2
 go_enter Tryz.func47,Tryz.ntmps47
 go_wp2_with (first
  |(go_at_call 84;(with_reducible refine (H2.out _ G1.out.par).mono ?_);rintro e w2 ⟨rfl,hg⟩;have G2:=zY (G1.out.trans hg);clear hg)
  |(go_at_call 83;(with_reducible refine (H1.out _ HG0.out.par).mono ?_);rintro e w1 ⟨rfl,hg⟩;have G1:=zY (HG0.out.trans hg);clear hg))
 exact ⟨rfl,rfl,G2.out,hj2⟩
theorem SC (P:Nat) (v:Value) (ts:List yJ) (W:World) (h:yH P v ts 0 W) (hE:yQ ts) (hl:ts.length<=2000000) (j1:Nat) (h1:yX ts [103,114,97,112,104] 0=(some (),j1)) (nam:List UInt8) (j2:Nat) (h2:wY ts j1=(some nam,j2)) (j3:Nat) (h3:yX ts [123] j2=(none,j3)):
 Calls Tryz.prog 47 #[(qP P)] W (rW P v ts W (yB ts)):=by
 have HM:yB ts=(none,j3):=by unfold yB;rw[h1,zO,h2,zO,h3,yS]
 rw[HM];show Calls _ _ _ _ (fun e w'=>e=.panicked zH/\zN P v ts j3 W w'/\j3<ts.length)
 clear HM;have hb0:=(Below.refl W.heap.size W).alloc (Nat.le_refl _) (.cells #[qE,qN] 52);have HG0:=zY (zN.stay h hb0)
 have HBK:Hid (∀ {n:Nat},W.heap.size<=n->v.ownBlock≠some n/\P≠n):=fun hn=>h.blk hn
 have H1:Hid (∀ w1,yH P v ts 0 w1->Calls Tryz.prog 83 #[(qP P),.string ⟨#[103,114,97,112,104]⟩] w1 fun e w'=>e=.returned (.tuple #[])/\zN P v ts j1 w1 w'):=(zS h1 hE hE.pos hl (by decide) P v).2;have hj1:j1<ts.length:=(zS h1 hE hE.pos hl (by decide) P v).1;have H2:Hid (∀ w1,yH P v ts j1 w1->Calls Tryz.prog 84 #[(qP P)] w1 fun e w'=>e=.returned (.string (zW nam))/\zN P v ts j2 w1 w'):=(xN h2 hE hj1 hl P v).2;have hj2:j2<ts.length:=(xN h2 hE hj1 hl P v).1;have H3:Hid (∀ w1,yH P v ts j2 w1->Calls Tryz.prog 83 #[(qP P),.string ⟨#[123]⟩] w1 fun e w'=>e=.panicked zH/\zN P v ts j3 w1 w'):=(yG h3 hj2 hl P v).2;have hj3:j3<ts.length:=(yG h3 hj2 hl P v).1;clear h hb0 h1 h2 h3
 go_enter Tryz.func47,Tryz.ntmps47
 go_wp2_with (first
  |(go_at_call 83;(with_reducible refine (H3.out _ G2a.out.par).mono ?_);rintro e w3 ⟨rfl,hg⟩;have G3:=zY (G2a.out.trans hg);clear hg)
  |(go_at_call 84;(with_reducible refine (H2.out _ G1.out.par).mono ?_);rintro e w2 ⟨rfl,hg⟩;have G2:=zY (G1.out.trans hg);have G2a:=zY (G2.out.later ((Below.refl w2.heap.size w2).alloc (Nat.le_refl _) (.cells #[.string (zW nam),qN] 52)));clear hg)
  |(go_at_call 83;(with_reducible refine (H1.out _ HG0.out.par).mono ?_);rintro e w1 ⟨rfl,hg⟩;have G1:=zY (HG0.out.trans hg);clear hg))
 exact ⟨rfl,rfl,G3.out,hj3⟩
theorem SA (P:Nat) (v:Value) (ts:List yJ) (W:World) (h:yH P v ts 0 W) (hE:yQ ts) (hl:ts.length<=2000000) (j1:Nat) (h1:yX ts [103,114,97,112,104] 0=(some (),j1)) (nam:List UInt8) (j2:Nat) (h2:wY ts j1=(some nam,j2)) (j3:Nat) (h3:yX ts [123] j2=(some (),j3)):
 Calls Tryz.prog 47 #[(qP P)] W (rW P v ts W (yB ts)):=by
 have HSK:Hid (yB ts=andThen (vT ts.length ts j3) fun xs i=>andThen (yX ts [125] i) fun _ i=>if (zM ts i).sort=0 then (some ⟨nam,xs⟩,i+1) else (none,i)):=by
  show _=_;unfold yB;rw[h1,zO,h2,zO,h3,zO]
 have hb0:=(Below.refl W.heap.size W).alloc (Nat.le_refl _) (.cells #[qE,qN] 52);have HG0:=zY (zN.stay h hb0)
 have HBK:Hid (∀ {n:Nat},W.heap.size<=n->v.ownBlock≠some n/\P≠n):=fun hn=>h.blk hn
 have H1:Hid (∀ w1,yH P v ts 0 w1->Calls Tryz.prog 83 #[(qP P),.string ⟨#[103,114,97,112,104]⟩] w1 fun e w'=>e=.returned (.tuple #[])/\zN P v ts j1 w1 w'):=(zS h1 hE hE.pos hl (by decide) P v).2;have hj1:j1<ts.length:=(zS h1 hE hE.pos hl (by decide) P v).1;have H2:Hid (∀ w1,yH P v ts j1 w1->Calls Tryz.prog 84 #[(qP P)] w1 fun e w'=>e=.returned (.string (zW nam))/\zN P v ts j2 w1 w'):=(xN h2 hE hj1 hl P v).2;have hj2:j2<ts.length:=(xN h2 hE hj1 hl P v).1;have H3:Hid (∀ w1,yH P v ts j2 w1->Calls Tryz.prog 83 #[(qP P),.string ⟨#[123]⟩] w1 fun e w'=>e=.returned (.tuple #[])/\zN P v ts j3 w1 w'):=(zS h3 hE hj2 hl (by decide) P v).2;have hj3:j3<ts.length:=(zS h3 hE hj2 hl (by decide) P v).1;have HP0:=zY h;have hR0:=yN 52 W #[qE,qN];have HR0:=zY hR0
 have HRP:Hid (W.heap.size≠P):=fun e=>(HBK.out (Nat.le_refl _)).2 e.symm
 clear h hb0 hR0 h1 h2 h3
 go_enter Tryz.func47,Tryz.ntmps47
 go_wp2_with (first
  |(go_at_call 83;(with_reducible refine (H3.out _ G2a.out.par).mono ?_);rintro e w3 ⟨rfl,hg⟩;have G3:=zY (G2a.out.trans hg);have HSP:Hid (w2.heap.size≠P):=fun e=>(HBK.out HWS.out).2 e.symm;have R3:=zY (R2.out.grown hg.grown (fun e=>HRP.out (Option.some.inj e)));have S3:=zY (S2.out.grown hg.grown (fun e=>HSP.out (Option.some.inj e)));have hsz:=hg.grown.size;have HSZ:Hid (w2.heap.size+1<=w3.heap.size):=by { have q:=hg.grown.size;simp at q;exact q };clear hg hsz)
  |(go_at_call 84;(with_reducible refine (H2.out _ G1.out.par).mono ?_);rintro e w2 ⟨rfl,hg⟩;have G2:=zY (G1.out.trans hg);have G2a:=zY (G2.out.later ((Below.refl w2.heap.size w2).alloc (Nat.le_refl _) (.cells #[.string (zW nam),qN] 52)));have R2:=zY ((R1.out.grown hg.grown (fun e=>HRP.out (Option.some.inj e))).below ((Below.refl w2.heap.size w2).alloc (Nat.le_refl _) (.cells #[.string (zW nam),qN] 52)));have S2:=zY (yN 52 w2 #[.string (zW nam),qN]);have HWS:Hid (W.heap.size<=w2.heap.size):=G2.out.grown.size;have HRL:Hid (W.heap.size<w2.heap.size):=(R1.out.grown hg.grown (fun e=>HRP.out (Option.some.inj e))).lt;clear hg)
  |(go_at_call 83;(with_reducible refine (H1.out _ HG0.out.par).mono ?_);rintro e w1 ⟨rfl,hg⟩;have G1:=zY (HG0.out.trans hg);have R1:=zY (HR0.out.grown hg.grown (fun e=>HRP.out (Option.some.inj e)));clear hg))
 have HB:∃B,B=w2.heap.size+1:=⟨_,rfl⟩;obtain ⟨B,hB⟩:=HB
 have HSB:Hid (w2.heap.size<B):=by show _<_;omega
 have HWB:Hid (W.heap.size<=B):=by have:=HWS.out;show _<=_;omega
 have HRB:Hid (W.heap.size<B):=by have:=HWS.out;show _<_;omega
 have HPB:Hid (P<B):=by have:=HP0.out.lt;have:=HWS.out;show _<_;omega
 have HRS:Hid (W.heap.size≠w2.heap.size):=by
  have q3:=HRL.out;show _≠_
  omega
 go_loopg [] ts.length (fun gk wr=>∃(j:Nat) (L:List (zF × Value)) (a:Option Addr) (c:Nat),j<ts.length/\L.length+gk=ts.length/\j3+L.length<=j/\SJ (L.map Prod.fst) (vT gk ts j)=vT ts.length ts j3/\zN P v ts j W wr/\xZ 52 w2.heap.size wr #[.string (zW nam),.slice a L.length c]/\vY B wr (.slice a L.length c) L/\xZ 52 W.heap.size wr #[qE,qN]/\B<=wr.heap.size)
 case atStart=>exact ⟨j3,[],none,0,hj3,by simp,by simp,by rw[List.map_nil,KF],G3.out,S3.out,NT _ _,R3.out,by rw[hB];exact HSZ.out⟩
 case round=>
  obtain ⟨j,L,a,c,hj,hLg,hjL,hpre,hgo,hsb,hits,hrb,hsz⟩:=hrel;have HGO:=zY hgo;have HSBK:=zY hsb;have HITS:=zY hits;have HRBK:=zY hrb;have HSZ2:=zY hsz;have HPRE:=zY hpre;clear hgo hsb hits hrb hpre hsz;obtain ⟨f,hf⟩:∃f,gk=f+1:=⟨gk-1,by omega⟩;subst hf
  by_cases he:(zM ts j).text=[125]
  ·have HSY:Hid (∀ w1,yH P v ts j w1->Calls Tryz.prog 85 #[(qP P),.string ⟨#[125]⟩] w1 fun e w'=>e=.returned (.bool true)/\Below w1.heap.size w1 w'):=fun w1 q=>by
    have:=yA P v ts j w1 q hj hl [125];rw[decide_eq_true he]at this;exact this
   have hj4:j+1<ts.length:=hE.text_lt hj (by decide) he
   have HX:Hid (∀ w1,yH P v ts j w1->Calls Tryz.prog 83 #[(qP P),.string ⟨#[125]⟩] w1 fun e w'=>e=.returned (.tuple #[])/\zN P v ts (j+1) w1 w'):=fun w1 q=>mY P v ts j w1 q hj hl [125] he
   have HEQ:Hid (yB ts=if (zM ts (j+1)).sort=0 then (some ⟨nam,L.map Prod.fst⟩,j+1+1) else (none,j+1)):=by
    show _=_;rw[HSK.out,<-HPRE.out,KD he,zO];unfold yX;rw[if_pos he,zO]
   have HIS:Hid (∀ w1,yH P v ts (j+1) w1->Calls Tryz.prog 88 #[(qP P),.int .u8 0] w1 fun e w'=>e=.returned (.bool (decide ((zM ts (j+1)).sort=0)))/\Below w1.heap.size w1 w'):=fun w1 q=>ZN P v ts (j+1) w1 q hj4 hl 0
   have HNY:Hid (∀ w1,yH P v ts (j+1) w1->Calls Tryz.prog 87 #[(qP P),.bool true] w1 fun e w'=>e=.returned (xH (zM ts (j+1)))/\zN P v ts (j+1+1) w1 w'):=fun w1 q=>iJ P v ts (j+1) w1 q hj4 hl
   have HNN:=zY dT;clear he HPRE hLg hjL
   by_cases hs:(zM ts (j+1)).sort=0
   ·rw [if_pos hs]at HEQ
    rw[decide_eq_true hs]at HIS;clear hs HNN
    go_wp2_with (first
     |(go_at_call 87;(with_reducible refine (HNY.out _ G6.out.par).mono ?_);rintro e w7 ⟨rfl,hg⟩;have G7:=zY (G6.out.trans hg);have S7:=S6.out.grown hg.grown (fun e=>HSP.out (Option.some.inj e));have R7:=R6.out.grown hg.grown (fun e=>HRP.out (Option.some.inj e));have I7:=zY (I6.out.grown hg.grown HPB.out);have c0:w7.cell? ⟨w2.heap.size,0,none⟩=some (.string (zW nam)):=S7.cell (k:=0) rfl;have c1:w7.cell? ⟨w2.heap.size,1,none⟩=some (.slice a L.length c):=S7.cell (k:=1) rfl;have r0:w7.cell? ⟨W.heap.size,0,none⟩=some (qE):=R7.cell (k:=0) rfl;have r1:w7.cell? ⟨W.heap.size,1,none⟩=some (qN):=R7.cell (k:=1) rfl;have f0:=R7.frozen 0;have f1:=R7.frozen 1;clear hg S7 R7)
     |(go_at_call 88;(with_reducible refine (HIS.out _ G5.out.par).mono ?_);rintro e w6 ⟨rfl,hb⟩;have G6:=zY (G5.out.later hb);have S6:=zY (S5.out.below hb);have R6:=zY (R5.out.below hb);have I6:=zY (I5.out.below hb);clear hb)
     |(go_at_call 83;(with_reducible refine (HX.out _ G4.out.par).mono ?_);rintro e w5 ⟨rfl,hg⟩;have G5:=zY (G4.out.trans hg);have S5:=zY (S4.out.grown hg.grown (fun e=>HSP.out (Option.some.inj e)));have R5:=zY (R4.out.grown hg.grown (fun e=>HRP.out (Option.some.inj e)));have I5:=zY (I4.out.grown hg.grown HPB.out);clear hg)
     |(go_at_call 85;(with_reducible refine (HSY.out _ HGO.out.par).mono ?_);rintro e w4 ⟨rfl,hb⟩;have G4:=zY (HGO.out.later hb);have S4:=zY (HSBK.out.below hb);have R4:=zY (HRBK.out.below hb);have I4:=zY (HITS.out.below hb);clear hb))
    exact bodyPost_ret (v:=.agg #[.string (zW nam),.slice a L.length c]) (by simp[results,Tryz.results47,go_sem,r0,r1]) rfl (by
     rw[HEQ.out];refine ⟨⟨a,c,L,by simp,rfl,?_⟩,(G7.out.put (HBK.out (Nat.le_refl _)) (Nat.le_refl _) _).put (HBK.out (Nat.le_refl _)) (Nat.le_refl _) _⟩
     rw[List.length_map]
     exact ((I7.out.put HRB.out).put HRB.out).mono HWB.out)
   rw[if_neg hs]at HEQ;rw[decide_eq_false hs]at HIS;clear hs HNY
   go_wp2_with (first
    |(go_at_call 87;(with_reducible refine (HNN.out _ _).mono ?_);rintro e w7 ⟨rfl,hb⟩;have G7:=zY (G6.out.later hb);clear hb)
    |(go_at_call 88;(with_reducible refine (HIS.out _ G5.out.par).mono ?_);rintro e w6 ⟨rfl,hb⟩;have G6:=zY (G5.out.later hb);clear hb)
    |(go_at_call 83;(with_reducible refine (HX.out _ G4.out.par).mono ?_);rintro e w5 ⟨rfl,hg⟩;have G5:=zY (G4.out.trans hg);clear hg)
    |(go_at_call 85;(with_reducible refine (HSY.out _ HGO.out.par).mono ?_);rintro e w4 ⟨rfl,hb⟩;have G4:=zY (HGO.out.later hb);clear hb))
   exact ⟨rfl,by rw[HEQ.out];exact ⟨rfl,G7.out,hj4⟩⟩
  have HSY:Hid (∀ w1,yH P v ts j w1->Calls Tryz.prog 85 #[(qP P),.string ⟨#[125]⟩] w1 fun e w'=>e=.returned (.bool false)/\Below w1.heap.size w1 w'):=fun w1 q=>by
   have:=yA P v ts j w1 q hj hl [125];rw[decide_eq_false he]at this;exact this
  have HIT:Hid (∀ w1,yH P v ts j w1->Calls Tryz.prog 86 #[(qP P)] w1 (uJ P v ts w1 (xY ts j))):=fun w1 q=>KJ P v ts j w1 q hE hj hl
  have HLL:Hid (L.length<=2000000):=by show _<=_;omega
  rcases hir:xY ts j with ⟨_|x,j2⟩
  ·have HEQ:Hid (yB ts=(none,j2)):=by
    show _=_;rw[HSK.out,<-HPRE.out,KE he hir,yS]
   rw[hir]at HIT;have hj2:j2<ts.length:=NV hir hE hj;clear he HPRE hLg hjL hir
   go_wp2_with (go_at_call 85;(with_reducible refine (HSY.out _ HGO.out.par).mono ?_);rintro e w5 ⟨rfl,hb⟩;have G5:=zY (HGO.out.later hb);have S5:=zY (HSBK.out.below hb);have R5:=zY (HRBK.out.below hb);have I5:=zY (HITS.out.below hb);clear hb)
   have x:zF:=⟨0,[],[],[],zV,zV,0⟩
   refine tP [3,5,7] (fun d i u z=>match i with
    |0=>z=.pointer (some ⟨w2.heap.size,1,none⟩)
    |1=>z=.slice a L.length c
    |2=>z=(qP P)
    |3=>False
    |4=>False
    |5=>False
    |6=>z=.pointer (some ⟨w2.heap.size,1,none⟩)
    |7=>True
    |_=>True) (fun d u=>(d 3=true->zN P v ts j2 W u)/\(d 3=false->zN P v ts j W u)/\(d 5=false->vY B u (.slice a L.length c) L)/\(d 7=true->∃q a2 c2,xZ 52 w2.heap.size u #[.string (zW nam),.slice a2 (L.length+1) c2]/\vY B u (.slice a2 (L.length+1) c2) (L++[(x,q)]))/\(d 7=false->xZ 52 w2.heap.size u #[.string (zW nam),.slice a L.length c])/\xZ 52 W.heap.size u #[qE,qN]/\w5.heap.size<=u.heap.size) (Z:=fun c u=>c=zH/\zN P v ts j2 W u) ?_ (by kernel_rfl) (by kernel_rfl) (by kernel_rfl) ?_ ?_ ?_ ?_ ?_ ?_ (by kernel_rfl)
   ·rintro c a' w' hd ⟨rfl,hz⟩
    exact ⟨hd,by rw[HEQ.out];exact ⟨rfl,hz,hj2⟩⟩
   ·intro d i w v w' h hb
    match i,h with
    |0,h=>exact h
    |1,h=>exact h
    |2,h=>exact h
    |3,h=>exact h
    |4,h=>exact h
    |5,h=>exact h
    |6,h=>exact h
    |7,h=>exact h
    |_+8,_=>trivial
   ·intro d u u' h hb
    exact ⟨fun h1=>(h.1 h1).later hb,fun h1=>(h.2.1 h1).later hb,fun h1=>(h.2.2.1 h1).below hb,fun h1=>by { obtain ⟨q,a2,c2,q1,q2⟩:=h.2.2.2.1 h1;exact ⟨q,a2,c2,q1.below hb,q2.below hb⟩ },fun h1=>(h.2.2.2.2.1 h1).below hb,h.2.2.2.2.2.1.below hb,Nat.le_trans h.2.2.2.2.2.2 hb.size⟩
   ·exact ⟨fun h=>qD h,fun _=>G5.out,fun _=>I5.out,fun h=>qD h,fun _=>S5.out,R5.out,Nat.le_refl _⟩
   ·intro d i o ρ w' hm ho hf hg hC hcs hfs hfr zX
    match i,hm,ho,hf,hg,hfr,zX with
    |0,_,ho,hf,hg,hfr,zX=>
     simp only[qS]at ho;subst ho;refine ⟨fun _=>?_,qF⟩
     have tq: ρ (.tmp 3)=(qP w2.heap.size):=(qR hfr 3);simp[go_sem,tq];exact qB
    |1,_,ho,hf,hg,hfr,zX=>
     simp only[qS]at ho;subst ho;refine ⟨fun _=>?_,qF⟩
     have Bk:=hC.2.2.2.2.1 (hf 7 (by decide) (by kernel_rfl));have c3:w'.cell? ⟨w2.heap.size,1,none⟩=some (.slice a L.length c):=Bk.cell (k:=1) rfl;have d0: ρ (.tmp 16)=.pointer (some ⟨w2.heap.size,1,none⟩):=(qH zX 0 16);simp[go_sem,d0,c3];exact qB
    |2,_,ho,hf,hg,hfr,zX=>
     simp only[qS]at ho;subst ho;refine ⟨fun _=>?_,qF⟩
     have ts: ρ (.tmp 0)=(qP P):=(qR hfr 0);simp[go_sem,ts];exact qB
    |3,hm,_,_,_,_,_=>exact qD hm
    |4,_,ho,hf,hg,hfr,zX=>
     simp only[qS]at ho;subst ho;refine ⟨fun _=>?_,qF⟩
     exact ((qH zX 3 19)).elim
    |5,hm,_,_,_,_,_=>exact qD hm
    |6,_,ho,hf,hg,hfr,zX=>
     simp only[qS]at ho;subst ho;refine ⟨fun _=>?_,qF⟩
     have tq: ρ (.tmp 3)=(qP w2.heap.size):=(qR hfr 3);simp[go_sem,tq];exact qB
    |7,hm,_,_,_,_,_=>exact qD hm
    |n+8,_,ho,_,_,_,_=>simp at ho
   ·intro d i o ρ w' hm ho h0 hf hg hC hcs hfs hfr zX
    match i,hm,ho,h0,hf,hg,hfr,zX with
    |0,hm,_,_,_,_,_,_=>exact qD hm
    |1,hm,_,_,_,_,_,_=>exact qD hm
    |2,hm,_,_,_,_,_,_=>exact qD hm
    |3,_,ho,h0,hf,hg,hfr,zX=>
     simp only[qS]at ho;subst ho;refine ⟨rfl,?_⟩
     have tq: ρ (.tmp 18)=(qP P):=(qH zX 2 18);simp[go_sem,tq,hfs];refine ⟨rfl,(HIT.out _ (hC.2.1 h0).par).mono ?_⟩
     rintro e u ⟨rfl,hg,-⟩
     exact Or.inr ⟨_,rfl,rfl,(hC.2.1 h0).trans hg⟩
    |4,hm,_,_,_,_,_,_=>exact qD hm
    |5,_,ho,h0,hf,hg,hfr,zX=>
     simp only[qS]at ho;subst ho;exact ((qH zX 4 20):False).elim
    |6,hm,_,_,_,_,_,_=>exact qD hm
    |7,_,ho,h0,hf,hg,hfr,zX=>
     simp only[qS]at ho;subst ho;exact ((qH zX 5 21):False).elim
    |n+8,_,ho,_,_,_,_,_=>simp at ho
   intro V w9 hC9 hS;exact (hS 3 (by decide) (by intro h;cases h)).elim
  have HEQ:Hid (SJ ((L++[(x,Value.slice none 0 0)]).map Prod.fst) (vT f ts j2)=vT ts.length ts j3):=by
   show _=_;rw[<- HPRE.out,NU he hir,List.map_append];rfl
  have hjlt:=KI hir;have hj2:j2<ts.length:=cL hir hE hj;rw[hir]at HIT;clear he HPRE hir
  go_wp2_with (go_at_call 85;(with_reducible refine (HSY.out _ HGO.out.par).mono ?_);rintro e w5 ⟨rfl,hb⟩;have G5:=zY (HGO.out.later hb);have S5:=zY (HSBK.out.below hb);have R5:=zY (HRBK.out.below hb);have I5:=zY (HITS.out.below hb);have HB5:Hid (B<=w5.heap.size):=Nat.le_trans HSZ2.out hb.size;clear hb)
  have HP5:Hid (P<w5.heap.size):=G5.out.par.lt;have HS5:Hid (w2.heap.size<w5.heap.size):=S5.out.lt
  have HLOW:Hid (∀ k,((Value.slice a L.length c).ownBlock=some k\/∃p ∈ L,p.2.ownBlock=some k)->k<w5.heap.size):=fun k e=>by
   rcases e with e|⟨p,hp,e⟩
   ·exact nW I5.out.row k e
   exact nW (I5.out.nums p hp) k e
  refine tP [3,5,7] (fun d i u z=>match i with
   |0=>z=.pointer (some ⟨w2.heap.size,1,none⟩)
   |1=>z=.slice a L.length c
   |2=>z=(qP P)
   |3=>d 3=true/\∃a' c',z=.agg (zJ x.kind x.name x.tag (.slice a' x.nums.length c') x.frm x.tO x.place)/\yZ w5.heap.size u (.slice a' x.nums.length c') x.nums
   |4=>∃b,z=.slice (some ⟨b,0,none⟩) 1 1/\w5.heap.size<=b/\b<u.heap.size/\∃a' c',(∀ k y,(tL (x,.slice a' x.nums.length c'))[k]? =some y->u.cell? ⟨b,k,none⟩=some y)/\yZ w5.heap.size u (.slice a' x.nums.length c') x.nums
   |5=>d 5=true/\∃q a2 c2,z=.slice a2 (L.length+1) c2/\vY B u (.slice a2 (L.length+1) c2) (L++[(x,q)])
   |6=>z=.pointer (some ⟨w2.heap.size,1,none⟩)
   |7=>True
   |_=>True) (fun d u=>(d 3=true->zN P v ts j2 W u)/\(d 3=false->zN P v ts j W u)/\(d 5=false->vY B u (.slice a L.length c) L)/\(d 7=true->∃q a2 c2,xZ 52 w2.heap.size u #[.string (zW nam),.slice a2 (L.length+1) c2]/\vY B u (.slice a2 (L.length+1) c2) (L++[(x,q)]))/\(d 7=false->xZ 52 w2.heap.size u #[.string (zW nam),.slice a L.length c])/\xZ 52 W.heap.size u #[qE,qN]/\w5.heap.size<=u.heap.size) (Z:=fun _ _=>False) ?_ (by kernel_rfl) (by kernel_rfl) (by kernel_rfl) ?_ ?_ ?_ ?_ ?_ ?_ (by kernel_rfl)
  ·intro c a' w' _ h
   cases h
  ·intro d i w v w' h hb
   match i,h with
   |0,h=>exact h
   |1,h=>exact h
   |2,h=>exact h
   |3,h=>obtain ⟨q0,a',c',q1,q2⟩:=h;exact ⟨q0,a',c',q1,q2.below hb⟩
   |4,h=>obtain ⟨b,q1,q2,q3,a',c',q4,q5⟩:=h;exact ⟨b,q1,q2,Nat.lt_of_lt_of_le q3 hb.size,a',c',fun k y hy=>(hb.cell (p:=⟨b,k,none⟩) q3).trans (q4 k y hy),q5.below hb⟩
   |5,h=>obtain ⟨q0,q,a2,c2,q1,q2⟩:=h;exact ⟨q0,q,a2,c2,q1,q2.below hb⟩
   |6,h=>exact h
   |7,h=>exact h
   |_+8,_=>trivial
  ·intro d u u' h hb
   exact ⟨fun h1=>(h.1 h1).later hb,fun h1=>(h.2.1 h1).later hb,fun h1=>(h.2.2.1 h1).below hb,fun h1=>by { obtain ⟨q,a2,c2,q1,q2⟩:=h.2.2.2.1 h1;exact ⟨q,a2,c2,q1.below hb,q2.below hb⟩ },fun h1=>(h.2.2.2.2.1 h1).below hb,h.2.2.2.2.2.1.below hb,Nat.le_trans h.2.2.2.2.2.2 hb.size⟩
  ·exact ⟨fun h=>qD h,fun _=>G5.out,fun _=>I5.out,fun h=>qD h,fun _=>S5.out,R5.out,Nat.le_refl _⟩
  ·intro d i o ρ w' hm ho hf hg hC hcs hfs hfr zX
   match i,hm,ho,hf,hg,hfr,zX with
   |0,_,ho,hf,hg,hfr,zX=>
    simp only[qS]at ho;subst ho;refine ⟨fun _=>?_,qF⟩
    have tq: ρ (.tmp 3)=(qP w2.heap.size):=(qR hfr 3);simp[go_sem,tq];exact qB
   |1,_,ho,hf,hg,hfr,zX=>
    simp only[qS]at ho;subst ho;refine ⟨fun _=>?_,qF⟩
    have Bk:=hC.2.2.2.2.1 (hf 7 (by decide) (by kernel_rfl));have c3:w'.cell? ⟨w2.heap.size,1,none⟩=some (.slice a L.length c):=Bk.cell (k:=1) rfl;have d0: ρ (.tmp 16)=.pointer (some ⟨w2.heap.size,1,none⟩):=(qH zX 0 16);simp[go_sem,d0,c3];exact qB
   |2,_,ho,hf,hg,hfr,zX=>
    simp only[qS]at ho;subst ho;refine ⟨fun _=>?_,qF⟩
    have ts: ρ (.tmp 0)=(qP P):=(qR hfr 0);simp[go_sem,ts];exact qB
   |3,hm,_,_,_,_,_=>exact qD hm
   |4,_,ho,hf,hg,hfr,zX=>
    simp only[qS]at ho;subst ho;refine ⟨fun _=>?_,qF⟩
    obtain ⟨-,a',c',e3,hin⟩:d 3=true/\∃a' c',ρ (.tmp 19)=.agg (zJ x.kind x.name x.tag (.slice a' x.nums.length c') x.frm x.tO x.place)/\yZ w5.heap.size w' (.slice a' x.nums.length c') x.nums:=(qH zX 3 19);simp[go_sem,e3,zJ];refine ⟨(Below.refl _ _).alloc (Nat.le_refl _) _,_,rfl,hC.2.2.2.2.2.2,by simp,a',c',fun k y hy=>?_,hin.below ((Below.refl _ _).alloc (Nat.le_refl _) _)⟩
    exact (show xZ 103 w'.heap.size _ (zJ x.kind x.name x.tag (.slice a' x.nums.length c') x.frm x.tO x.place) from yN 103 w' _).cell (by rw[<- Array.getElem?_toList];exact hy)
   |5,hm,_,_,_,_,_=>exact qD hm
   |6,_,ho,hf,hg,hfr,zX=>
    simp only[qS]at ho;subst ho;refine ⟨fun _=>?_,qF⟩
    have tq: ρ (.tmp 3)=(qP w2.heap.size):=(qR hfr 3);simp[go_sem,tq];exact qB
   |7,hm,_,_,_,_,_=>exact qD hm
   |n+8,_,ho,_,_,_,_=>simp at ho
  ·intro d i o ρ w' hm ho h0 hf hg hC hcs hfs hfr zX
   match i,hm,ho,h0,hf,hg,hfr,zX with
   |0,hm,_,_,_,_,_,_=>exact qD hm
   |1,hm,_,_,_,_,_,_=>exact qD hm
   |2,hm,_,_,_,_,_,_=>exact qD hm
   |3,_,ho,h0,hf,hg,hfr,zX=>
    simp only[qS]at ho;subst ho;refine ⟨rfl,?_⟩
    have tq: ρ (.tmp 18)=(qP P):=(qH zX 2 18);simp[go_sem,tq,hfs];refine ⟨rfl,(HIT.out _ (hC.2.1 h0).par).mono ?_⟩
    rintro e u ⟨⟨a',c',rfl,hin⟩,hg,-⟩
    refine Or.inl ⟨_,rfl,⟨fun _=>(hC.2.1 h0).trans hg,fun h=>absurd h (by simp[zA]),fun h=>(hC.2.2.1 (by simpa [zA] using h)).grown hg.grown HPB.out,fun h=>?_,fun h=>?_,hC.2.2.2.2.2.1.grown hg.grown (fun e=>HRP.out (Option.some.inj e)),Nat.le_trans hC.2.2.2.2.2.2 hg.grown.size⟩,⟨by simp[zA],a',c',rfl,hin.mono hC.2.2.2.2.2.2⟩,?_⟩
    ·obtain ⟨q,a2,c2,q1,q2⟩:=hC.2.2.2.1 (by simpa [zA] using h)
     exact ⟨q,a2,c2,q1.grown hg.grown (fun e=>HSP.out (Option.some.inj e)),q2.grown hg.grown HPB.out⟩
    ·exact (hC.2.2.2.2.1 (by simpa [zA] using h)).grown hg.grown (fun e=>HSP.out (Option.some.inj e))
    intro j t _ hs
    match j,hs with
    |0,hs=>exact hs
    |1,hs=>exact hs
    |2,hs=>exact hs
    |3,hs=>exact absurd (h0.symm.trans hs.1) (by decide)
    |4,hs=>obtain ⟨b,q1,q2,q3,a',c',q4,q5⟩:=hs;exact ⟨b,q1,q2,Nat.lt_of_lt_of_le q3 hg.grown.size,a',c',fun k y hy=>hg.grown.cell (q4 k y hy) (fun e=>by have h1:=Option.some.inj e;have h2:=HP5.out;dsimp only at h1;omega),q5.grown hg.grown HP5.out⟩
    |5,hs=>obtain ⟨q0,q,a2,c2,q1,q2⟩:=hs;exact ⟨by simpa [zA] using q0,q,a2,c2,q1,q2.grown hg.grown HPB.out⟩
    |6,hs=>exact hs
    |7,hs=>exact hs
    |_+8,_=>trivial
   |4,hm,_,_,_,_,_,_=>exact qD hm
   |5,_,ho,h0,hf,hg,hfr,zX=>
    simp only[qS]at ho;subst ho;refine ⟨rfl,?_⟩
    obtain ⟨b,e4,q2,q3,a',c',q4,q5⟩:∃b,ρ (.tmp 20)=.slice (some ⟨b,0,none⟩) 1 1/\w5.heap.size<=b/\b<w'.heap.size/\∃a' c',(∀ k y,(tL (x,.slice a' x.nums.length c'))[k]? =some y->w'.cell? ⟨b,k,none⟩=some y)/\yZ w5.heap.size w' (.slice a' x.nums.length c') x.nums:=(qH zX 4 20);have tq: ρ (.tmp 17)=.slice a L.length c:=(qH zX 1 17);have hN:=hC.2.2.1 h0;have hlB:B<=w'.heap.size:=Nat.le_trans HB5.out hC.2.2.2.2.2.2;obtain ⟨r',w'',hr,ho,hg⟩:=SF B w' a c L x (.slice a' x.nums.length c') b hN.row q4 HLL.out hlB;unfold execOp;simp only[resolve,invoke,builtin,Sem.run_bind,Sem.run_pure,Result.andThen_ok,List.map_toArray,List.map_cons,List.map_nil,tq,e4,hr];have hA:=vY.app hN q5 HLOW.out HB5.out ho hg;obtain ⟨a2,c2,rfl⟩:=hA.shape
    have hlen:(L++[(x,Value.slice a' x.nums.length c')]).length=L.length+1:=by simp
    rw[hlen]at hA ho hg ⊢
    have hgr:w'.grownBy w'' (Value.slice a L.length c).ownBlock:=by rcases hg with ⟨g,cap,e1,_,h2⟩|⟨cap,_,h2⟩<;>first|(rw [e1];exact h2)|exact SH h2 _
    have hrow:∀k,(Value.slice a L.length c).ownBlock=some k->B<=k:=kM hN.row
    have hlow:∀k,(Value.slice a L.length c).ownBlock=some k->k<w5.heap.size:=fun k e=>HLOW.out k (Or.inl e)
    have hd7:=hf 7 (by decide) (by kernel_rfl);refine ⟨⟨fun h=>(hC.1 (by simpa [zA] using h)).own HP0.out hgr (fun k e=>Nat.le_trans HWB.out (hrow k e)),fun h=>(hC.2.1 (by simpa [zA] using h)).own HP0.out hgr (fun k e=>Nat.le_trans HWB.out (hrow k e)),fun h=>absurd h (by simp[zA]),fun h=>absurd (hd7.symm.trans (by simpa [zA] using h)) (by decide),fun _=>(hC.2.2.2.2.1 hd7).grown hgr (fun e=>by have h1:=hrow _ e.symm;have h2:=HSB.out;omega),hC.2.2.2.2.2.1.grown hgr (fun e=>by have h1:=hrow _ e.symm;have h2:=HRB.out;omega),Nat.le_trans hC.2.2.2.2.2.2 hgr.size⟩,fun _=>⟨by simp[zA],_,a2,c2,rfl,hA⟩,?_⟩
    intro j t _ hs
    match j,hs with
    |0,hs=>exact hs
    |1,hs=>exact hs
    |2,hs=>exact hs
    |3,hs=>obtain ⟨q0,a',c',q1,q2⟩:=hs;exact ⟨by simpa [zA] using q0,a',c',q1,q2.kept hgr hlow⟩
    |4,hs=>obtain ⟨b,q1,q2,q3,a',c',q4,q5⟩:=hs;exact ⟨b,q1,q2,Nat.lt_of_lt_of_le q3 hgr.size,a',c',fun k y hy=>hgr.cell (q4 k y hy) (fun e=>by have h1:=hlow _ e.symm;dsimp only at h1;omega),q5.kept hgr hlow⟩
    |5,hs=>exact absurd (h0.symm.trans hs.1) (by decide)
    |6,hs=>exact hs
    |7,hs=>exact hs
    |_+8,_=>trivial
   |6,hm,_,_,_,_,_,_=>exact qD hm
   |7,_,ho,h0,hf,hg,hfr,zX=>
    simp only[qS]at ho;subst ho;refine ⟨rfl,?_⟩
    have t1: ρ (.tmp 22)=.pointer (some ⟨w2.heap.size,1,none⟩):=(qH zX 6 22);obtain ⟨hd5,q,a2,c2,e5,hn5⟩:d 5=true/\∃q a2 c2,ρ (.tmp 21)=.slice a2 (L.length+1) c2/\vY B w' (.slice a2 (L.length+1) c2) (L++[(x,q)]):=(qH zX 5 21);have Bk:=hC.2.2.2.2.1 h0;have c3:=Bk.cell (k:=1) rfl;have f3:=Bk.frozen 1;simp[go_sem,t1,e5,c3,f3];refine ⟨⟨fun h=>(hC.1 (by simpa [zA] using h)).put (HBK.out HWS.out) HWS.out _,fun h=>(hC.2.1 (by simpa [zA] using h)).put (HBK.out HWS.out) HWS.out _,fun h=>absurd (hd5.symm.trans (by simpa [zA] using h)) (by decide),fun _=>⟨q,a2,c2,Bk.set 1 _,hn5.put HSB.out⟩,fun h=>absurd h (by simp[zA]),hC.2.2.2.2.2.1.other HRS.out _,by rw[World.size_setCell];exact hC.2.2.2.2.2.2⟩,?_⟩
    intro j t _ hs
    match j,hs with
    |0,hs=>exact hs
    |1,hs=>exact hs
    |2,hs=>exact hs
    |3,hs=>obtain ⟨q0,a',c',q1,q2⟩:=hs;exact ⟨by simpa [zA] using q0,a',c',q1,q2.put HS5.out⟩
    |4,hs=>obtain ⟨b,q1,q2,q3,a',c',q4,q5⟩:=hs;exact ⟨b,q1,q2,by rw[World.size_setCell];exact q3,a',c',fun k y hy=>by rw[World.cell?_setCell_other _ _ _ _ (fun e=>by have h1:=congrArg Addr.block e;have h2:=HS5.out;dsimp only at h1;omega)];exact q4 k y hy,q5.put HS5.out⟩
    |5,hs=>obtain ⟨q0,q,a2,c2,q1,q2⟩:=hs;exact ⟨by simpa [zA] using q0,q,a2,c2,q1,q2.put HSB.out⟩
    |6,hs=>exact hs
    |7,hs=>exact hs
    |_+8,_=>trivial
   |n+8,_,ho,_,_,_,_,_=>simp at ho
  intro V w9 hC9 hS;simp only[xA,uH];simp only[Act.put,qU];clear hS;obtain ⟨q,a2,c2,hS9,hI9⟩:=hC9.2.2.2.1 rfl;have G9:=zY (hC9.1 rfl);have R9:=zY hC9.2.2.2.2.2.1;have HS9:=zY hS9;have HI9:=zY hI9;have Z9:Hid (B<=w9.heap.size):=Nat.le_trans HB5.out hC9.2.2.2.2.2.2;clear hC9 hS9 hI9
  go_wp2
  go_roundg f
  case measure=>omega
  case rel=>exact ⟨j2,L++[(x,q)],a2,c2,hj2,by simp;omega,by simp;omega,by have:=HEQ.out;rw[List.map_append]at this ⊢;exact this,G9.out,by rw[List.length_append];exact HS9.out,by rw[List.length_append];exact HI9.out,R9.out,Z9.out⟩
theorem RZ (P:Nat) (v:Value) (ts:List yJ) (W:World) (h:yH P v ts 0 W) (hE:yQ ts) (hl:ts.length<=2000000):
 Calls Tryz.prog 47 #[(qP P)] W (rW P v ts W (yB ts)):=by
 rcases h1:yX ts [103,114,97,112,104] 0 with ⟨_|⟨⟩,j1⟩
 ·exact SE P v ts W h hE hl j1 h1
 rcases h2:wY ts j1 with ⟨_|nam,j2⟩
 ·exact SD P v ts W h hE hl j1 h1 j2 h2
 rcases h3:yX ts [123] j2 with ⟨_|⟨⟩,j3⟩
 ·exact SC P v ts W h hE hl j1 h1 nam j2 h2 j3 h3
 exact SA P v ts W h hE hl j1 h1 nam j2 h2 j3 h3
theorem NQ (t:yJ) (h1:t.sort=0) (h2:t.text=[]):yQ [t]:=⟨Nat.zero_lt_one,h1,h2⟩
theorem yQ.cons {ts:List yJ} (h:yQ ts) (t:yJ):yQ (t::ts):=by
 have hp:=h.pos
 have e:zM (t::ts) ((t::ts).length-1)=zM ts (ts.length-1):=by
  unfold zM;rw[List.length_cons,Nat.add_sub_cancel];obtain ⟨m,hm⟩:∃m,ts.length=m+1:=⟨ts.length-1,by omega⟩;rw[hm,List.getD_cons_succ,Nat.add_sub_cancel]
 exact ⟨by simp,by rw[e];exact h.sort,by rw[e];exact h.text⟩
theorem ZL:∀(n p:Nat) (x:List UInt8),x.length<=n->(vH p x).err=0->yQ (vH p x).toks
 |n,p,x,hn,he=>by
  by_cases h1:x.drop (zK false x)=[]
  ·rw [sM h1]
   exact NQ _ rfl rfl
  by_cases h2:(yL (x.drop (zK false x))).err=0
  ·obtain ⟨h3,h4,-⟩:=tT h2
   rw[List.length_drop]at h4;rw[sK h1 h2]at he ⊢;unfold gM.cons at he ⊢
   split at he
   ·rename_i h5
    rw[if_pos h5]
    match n,hn with
    |0,hn=>omega
    |n+1,hn=>exact (ZL n _ _ (by rw[List.length_drop];omega) h5).cons _
   rename_i h5
   exact absurd he h5
  rw[sL h1 h2]at he;exact absurd he h2
theorem pD {l:List UInt8} (h:(yE l).err=0):yQ (yE l).toks:=by
 unfold yE at h ⊢
 split at h
 ·cases h
 rename_i h1
 rw[if_neg h1];exact ZL l.length 0 l (Nat.le_refl _) h
theorem VS:∀(n p:Nat) (x:List UInt8),x.length<=n->(vH p x).toks.length<=x.length+1
 |n,p,x,h=>by
  by_cases h1:x.drop (zK false x)=[]
  ·rw [sM h1];simp
  by_cases h2:(yL (x.drop (zK false x))).err=0
  ·obtain ⟨h3,h4,-⟩:=tT h2
   rw[List.length_drop]at h4
   match n,h with
   |0,h=>omega
   |n+1,h=>
    have ih:=VS n (p+zK false x+(yL (x.drop (zK false x))).n) (x.drop (zK false x+(yL (x.drop (zK false x))).n)) (by rw[List.length_drop];omega);rw[List.length_drop]at ih;rw[sK h1 h2];unfold gM.cons
    split
    ·show (_::_).length<=_
     rw[List.length_cons];omega
    omega
  rw[sL h1 h2];simp
theorem kJ (l:List UInt8):(yE l).toks.length<=2000000:=by
 unfold yE
 split
 ·simp
 have:=VS l.length 0 l (Nat.le_refl _);omega
theorem xZ.two {T n w x y} (h:xZ T n w #[x,y]):w.cell? ⟨n,0,none⟩=some x/\w.cell? ⟨n,1,none⟩=some y/\w.frozen? ⟨n,0,none⟩=false/\w.frozen? ⟨n,1,none⟩=false:=⟨h.cell rfl,h.cell rfl,h.frozen 0,h.frozen 1⟩
theorem xZ.set2 {T n w x y} (h:xZ T n w #[x,y]) (a b:Value):xZ T n ((w.setCell ⟨n,0,none⟩ a).setCell ⟨n,1,none⟩ b) #[a,b]:=(h.set 0 a).set 1 b
theorem VR (P S F:Nat) (v:Value) (ts:List yJ) (j:Nat) (w:World) (x0 x1 y0 y1:Value) (hp:yH P v ts j w) (hj:j<ts.length) (hl:ts.length<=2000000) (hS:xZ 52 S w #[x0,x1]) (hF:xZ 33 F w #[y0,y1]) (hne:S≠F):
 CallsD Tryz.prog 45 #[(qP P),(qP S),(qP F)] (.panicking zH) w fun e u' w'=>
  e=.returned (.tuple #[])/\u'=.panicking [{ v:=.iface 31 (.int .i64 50),recovered:=true }]/\xZ 52 S w' #[qE,qN]/\xZ 33 F w' #[.int .i64 50,.int .i64 (zM ts j).place]/\∀B,B<=S->B<=F->B<=w.heap.size->Below B w w':=by
 have HA:=zY (wZ P v ts j w hp hj hl);have HS:=zY hS;have HF:=zY hF;have HNE:=zY hne;clear hp hS hF hne;unfold xH at HA;generalize zM ts j=t at *;obtain ⟨so,tx,nm,pl⟩:=t;simp only at HA ⊢;have ff:=uF
 refine callsD_of_wpS Tryz.func45 rfl fun c₀ cs hu=>?_
 apply wpS_seq
 apply wpS_region
 simp[wpOpsS,go_sem,recoverD,hu,Tryz.ntmps45,Exit.thenS,zH];refine wpS_cond (t:=true) (by simp[Act.eval,Array.replicate]) ?_
 simp only[if_true];refine wpS_of_wp ?_
 go_wp2_with (go_at_call 46;(with_reducible refine HA.out.mono ?_);rintro e w1 ⟨rfl,hb⟩;obtain ⟨a0,a1,af0,af1⟩:=(HS.out.below hb).two;obtain ⟨b0,b1,bf0,bf1⟩:=(((HF.out.below hb).other (m:=S) (k:=0) (fun e=>HNE.out e.symm) (qE)).other (m:=S) (k:=1) (fun e=>HNE.out e.symm) (qN)).two;have HB:=zY hb;clear hb)
 refine ⟨rfl,_,rfl,.tuple #[],by simp[results,Tryz.results45,go_sem],rfl,rfl,?_,?_,fun B h1 h2 h3=>?_⟩
 ·exact (((HS.out.below HB.out).set2 _ _).other HNE.out _).other HNE.out _
 ·exact (((HF.out.below HB.out).other (fun e=>HNE.out e.symm) _).other (fun e=>HNE.out e.symm) _).set2 _ _
 exact ((((HB.out.mono h3).setCell (p:=⟨S,0,none⟩) h1 _).setCell (p:=⟨S,1,none⟩) h1 _).setCell (p:=⟨F,0,none⟩) h2 _).setCell (p:=⟨F,1,none⟩) h2 _
theorem RY (p s f:Value) (w:World):
 CallsD Tryz.prog 45 #[p,s,f] .returning w fun e u' w'=>e=.returned (.tuple #[])/\u'=.returning/\w'=w:=by
 refine callsD_of_wpS Tryz.func45 rfl fun c₀ cs hu=>?_
 apply wpS_seq
 apply wpS_region
 simp[wpOpsS,go_sem,recoverD,hu,Tryz.ntmps45,Exit.thenS];refine wpS_cond (t:=false) (by simp[Act.eval,Array.replicate]) ?_
 simp only[Bool.false_eq_true,if_false];refine wpS_of_wp (wp_skip ?_)
 cases c₀
 simp_all [bodyPostS,results,Tryz.results45]
def rL (W:World) (l:List UInt8) (e:Ending) (w':World):Prop:=
 (((yE l).err≠0/\e=.returned (.tuple #[.agg #[qE,qN],.agg #[.int .i64 (yE l).err,.int .i64 (yE l).place]]))\/
  ((yE l).err=0/\∃j,(yB (yE l).toks)=(none,j)/\e=.returned (.tuple #[.agg #[qE,qN],.agg #[.int .i64 50,.int .i64 (zM (yE l).toks j).place]]))\/
  ((yE l).err=0/\∃s j a c L,(yB (yE l).toks)=(some s,j)/\e=.returned (.tuple #[.agg #[.string (zW s.name),.slice a s.items.length c],.agg #[.int .i64 0,.int .i64 0]])/\s.items=L.map Prod.fst/\vY W.heap.size w' (.slice a s.items.length c) L))/\Below W.heap.size W w'
theorem sO.par {base w v ts} (h:sO base w v ts) (hn:ts≠[]):yH w.heap.size v ts 0 (w.alloc (.cells #[v,.int .i64 0] 93)):=by
 have hb:=(Below.refl w.heap.size w).alloc (Nat.le_refl _) (.cells #[v,.int .i64 0] 93);obtain ⟨g,cap,he,hc⟩:=h.open hn;refine ⟨by show (w.heap.push _)[w.heap.size]? =_;simp,g,cap,he,?_,?_,fun k hk=>?_⟩
 ·have:=(nW h g (by rw[he];rfl));omega
 ·have:=(nW h g (by rw[he];rfl));exact Nat.lt_of_lt_of_le this hb.size
 have f:∀r u,r<4->(jZ (zM ts k))[r]? =some u->w.cell? ⟨g,k*4+r,none⟩=some u:=fun r u hr hu=>hc _ u (by rw[cT ts k r hk hr];exact hu)
 exact (show iK w g (k*4) (zM ts k) from ⟨f 0 _ (by decide) rfl,f 1 _ (by decide) rfl,f 2 _ (by decide) rfl,f 3 _ (by decide) rfl⟩).below hb
theorem hmf5:∀(fn:Fn) (first cap:Array Value) (w:World),(Instr.makeFunc fn first cap).run Tryz.prog w=.ok (.func fn first cap) w:=fun _ _ _ _=>rfl
theorem RX (l:List UInt8) (W:World) (hE:sE W) (her:(yE l).err=0):Calls Tryz.prog 22 #[.string (zW l)] W (rL W l):=by
 suffices H:∀R:Ending->World->Prop,(∀ e w',rL W l e w'->R e w')->Calls Tryz.prog 22 #[.string (zW l)] W R from H _ (fun _ _ h=>h)
 intro R hR;have HR:=zY hR;clear hR;have hpl:=ZP her;have HEND:=zY (pD her);have HLEN:=zY (kJ l);have hb0:Below W.heap.size W ((W.alloc (.cells #[qE,qN] 52)).alloc (.cells #[.int .i64 0,.int .i64 0] 33)):=((Below.refl _ _).alloc (Nat.le_refl _) _).alloc (by simp) _;have HB0:=zY hb0
 have HA:Hid (∀ W1,sE W1->Calls Tryz.prog 44 #[.string (zW l)] W1 (lM W1 l)):=fun W1 h=>QD l W1 h
 have HE1:=zY (hE.below hb0);have HS0:Hid (xZ 52 W.heap.size ((W.alloc (.cells #[qE,qN] 52)).alloc (.cells #[.int .i64 0,.int .i64 0] 33)) #[qE,qN]):=(yN 52 W _).below ((Below.refl _ _).alloc (Nat.le_refl _) _)
 have HF0:Hid (xZ 33 (W.heap.size+1) ((W.alloc (.cells #[qE,qN] 52)).alloc (.cells #[.int .i64 0,.int .i64 0] 33)) #[.int .i64 0,.int .i64 0]):=by
  have h1:=yN 33 (W.alloc (.cells #[qE,qN] 52)) #[.int .i64 0,.int .i64 0]
  have h2:(W.alloc (.cells #[qE,qN] 52)).heap.size=W.heap.size+1:=by simp
  rw[h2]at h1;exact h1
 have HZ:Hid (W.heap.size+2<=((W.alloc (.cells #[qE,qN] 52)).alloc (.cells #[.int .i64 0,.int .i64 0] 33)).heap.size):=by show _<=_;simp
 unfold lM at HA;unfold rL at HR;clear hb0 hE;generalize yE l=G at *;obtain ⟨ts,er,pl⟩:=G;simp only at her hpl HEND HLEN HA HR;subst her;subst hpl
 have HSK:Hid (∀ P v W1,yH P v ts 0 W1->Calls Tryz.prog 47 #[(qP P)] W1 (rW P v ts W1 (yB ts))):=fun P v W1 h=>RZ P v ts W1 h HEND.out HLEN.out
 have HNN:Hid (ts≠[]):=by intro e;have:=HEND.out.pos;rw[e]at this;simp at this
 have hmf:=hmf5
 go_enter_defers Tryz.func22,Tryz.ntmps22
 go_wp2_with (go_at_call 44;(with_reducible refine (HA.out _ HE1.out).mono ?_);rintro e w1 ⟨vt,rfl,ht,hb⟩;obtain ⟨at0,ct0,rfl⟩:=ht.shape;have HT:=zY ht;have HB:=zY hb;obtain ⟨f0,f1,ff0,ff1⟩:=(HF0.out.below hb).two;clear ht hb)
 clear f0 f1 ff0 ff1;have hFZ:W.heap.size+1<((W.alloc (.cells #[qE,qN] 52)).alloc (.cells #[.int .i64 0,.int .i64 0] 33)).heap.size:=HZ.out
 have hsz:((w1.setCell ⟨W.heap.size+1,0,none⟩ (.int .i64 0)).setCell ⟨W.heap.size+1,1,none⟩ (.int .i64 0)).heap.size=w1.heap.size:=by simp
 have T2:sO ((W.alloc (.cells #[qE,qN] 52)).alloc (.cells #[.int .i64 0,.int .i64 0] 33)).heap.size ((w1.setCell ⟨W.heap.size+1,0,none⟩ (.int .i64 0)).setCell ⟨W.heap.size+1,1,none⟩ (.int .i64 0)) (.slice at0 ts.length ct0) ts:=ownsRow_setCell_below (ownsRow_setCell_below HT.out hFZ _) hFZ _;have hp:=T2.par HNN.out;rw[hsz]at hp;have S1:=zY ((((HS0.out.below HB.out).other (m:=W.heap.size+1) (k:=0) (by omega) (.int .i64 0)).other (m:=W.heap.size+1) (k:=1) (by omega) (.int .i64 0)).below ((Below.refl _ _).alloc (Nat.le_refl _) (.cells #[.slice at0 ts.length ct0,.int .i64 0] 93)));have F1:=zY (((HF0.out.below HB.out).set2 (.int .i64 0) (.int .i64 0)).below ((Below.refl _ _).alloc (Nat.le_refl _) (.cells #[.slice at0 ts.length ct0,.int .i64 0] 93)));have hbw:=((HB0.out.trans (HB.out.mono HB0.out.size)).setCell (p:=⟨W.heap.size+1,0,none⟩) (Nat.le_succ _) (.int .i64 0)).setCell (p:=⟨W.heap.size+1,1,none⟩) (Nat.le_succ _) (.int .i64 0);have BW:=zY (hbw.alloc hbw.size (.cells #[.slice at0 ts.length ct0,.int .i64 0] 93));have hW1:W.heap.size+2<=w1.heap.size:=Nat.le_trans HZ.out HB.out.size;have H12:=zY hW1;clear hsz T2 hbw HT hFZ;generalize hW3:(((w1.setCell ⟨W.heap.size+1,0,none⟩ (.int .i64 0)).setCell ⟨W.heap.size+1,1,none⟩ (.int .i64 0)).alloc (.cells #[.slice at0 ts.length ct0,.int .i64 0] 93))=W3 at *;clear hW3;refine (HSK.out _ _ _ hp).mono ?_
 clear hp HSK;unfold rW
 have HGB:Hid (∀ {j w3},zN w1.heap.size (.slice at0 ts.length ct0) ts j W3 w3->Below W.heap.size W w3):=fun hg=>lN BW.out hg.grown (by omega) BW.out.size
 rcases hsr:yB ts with ⟨_|s,j⟩
 ·rintro e w3 ⟨rfl,hG,hj⟩
  refine leaves_cons (f:=45) (args:=#[(qP w1.heap.size),(qP W.heap.size),(qP (W.heap.size+1))]) (by simp[zH]) (by simp[go_sem]) ?_
  have gS:=S1.out.grown hG.grown (fun e=>by have:=Option.some.inj e;omega);have gF:=F1.out.grown hG.grown (fun e=>by have:=Option.some.inj e;omega);refine (VR _ _ _ _ _ _ _ _ _ _ _ hG.par hj HLEN.out gS gF (by omega)).mono ?_
  rintro e u' w4 ⟨rfl,rfl,k1,k2,k3⟩
  obtain ⟨a0,a1,-,-⟩:=k1.two;obtain ⟨b0,b1,-,-⟩:=k2.two;have hb3:=HGB.out hG;simp[Leaves,settle,results,Tryz.results22,go_sem,a0,a1,b0,b1];exact HR.out _ _ ⟨Or.inr (Or.inl ⟨trivial,j,hsr,rfl⟩),hb3.trans (k3 _ (Nat.le_refl _) (Nat.le_succ _) hb3.size)⟩
 rintro e w3 ⟨⟨a,c,L,rfl,hL,hI⟩,hG⟩
 have gS:=S1.out.grown hG.grown (fun e=>by have:=Option.some.inj e;omega);have gF:=F1.out.grown hG.grown (fun e=>by have:=Option.some.inj e;omega);obtain ⟨a0,a1,af0,af1⟩:=gS.two;obtain ⟨b0,b1,bf0,bf1⟩:=((gF.other (m:=W.heap.size) (k:=0) (by omega) (.string (zW s.name))).other (m:=W.heap.size) (k:=1) (by omega) (.slice a s.items.length c)).two;have q1:=zY ((((gS.set2 (.string (zW s.name)) (.slice a s.items.length c)).other (m:=W.heap.size+1) (k:=0) (by omega) (.int .i64 0)).other (m:=W.heap.size+1) (k:=1) (by omega) (.int .i64 0)));have q2:=zY (((gF.other (m:=W.heap.size) (k:=0) (by omega) (.string (zW s.name))).other (m:=W.heap.size) (k:=1) (by omega) (.slice a s.items.length c)).set2 (.int .i64 0) (.int .i64 0));have HB3:=zY (HGB.out hG);have HI:=zY hI;have HL:=zY hL
 have HW3:Hid (W.heap.size+2<=W3.heap.size):=by have:=S1.out.lt;have:=F1.out.lt;show _<=_;omega
 clear gS gF hI hL hG
 go_wp2
 refine leaves_cons (f:=45) (args:=#[(qP w1.heap.size),(qP W.heap.size),(qP (W.heap.size+1))]) (by simp) (by simp[go_sem]) ?_
 refine (RY _ _ _ _).mono ?_
 rintro e u' w4 ⟨rfl,rfl,rfl⟩
 obtain ⟨k0,k1,-,-⟩:=q1.out.two;obtain ⟨k2,k3,-,-⟩:=q2.out.two;simp[Leaves,settle,results,Tryz.results22,go_sem,k0,k1,k2,k3];refine HR.out _ _ ⟨Or.inr (Or.inr ⟨trivial,s,j,a,c,L,hsr,rfl,HL.out,?_⟩),?_⟩
 ·have h2:=HW3.out
  exact (((((HI.out.put (I:=W.heap.size) (by omega)).put (I:=W.heap.size) (by omega)).put (I:=W.heap.size+1) (by omega)).put (I:=W.heap.size+1) (by omega)).mono (by omega))
 exact (((HB3.out.setCell (p:=⟨W.heap.size,0,none⟩) (Nat.le_refl _) _).setCell (p:=⟨W.heap.size,1,none⟩) (Nat.le_refl _) _).setCell (p:=⟨W.heap.size+1,0,none⟩) (Nat.le_succ _) _).setCell (p:=⟨W.heap.size+1,1,none⟩) (Nat.le_succ _) _
theorem NP (l:List UInt8) (W:World) (hE:sE W) (her:(yE l).err≠0):Calls Tryz.prog 22 #[.string (zW l)] W (rL W l):=by
 suffices H:∀R:Ending->World->Prop,(∀ e w',rL W l e w'->R e w')->Calls Tryz.prog 22 #[.string (zW l)] W R from H _ (fun _ _ h=>h)
 intro R hR;have HR:=zY hR;clear hR;have hb0:Below W.heap.size W ((W.alloc (.cells #[qE,qN] 52)).alloc (.cells #[.int .i64 0,.int .i64 0] 33)):=((Below.refl _ _).alloc (Nat.le_refl _) _).alloc (by simp) _;have HB0:=zY hb0
 have HA:Hid (∀ W1,sE W1->Calls Tryz.prog 44 #[.string (zW l)] W1 (lM W1 l)):=fun W1 h=>QD l W1 h
 have HE1:=zY (hE.below hb0);have HS0:Hid (xZ 52 W.heap.size ((W.alloc (.cells #[qE,qN] 52)).alloc (.cells #[.int .i64 0,.int .i64 0] 33)) #[qE,qN]):=(yN 52 W _).below ((Below.refl _ _).alloc (Nat.le_refl _) _)
 have HF0:Hid (xZ 33 (W.heap.size+1) ((W.alloc (.cells #[qE,qN] 52)).alloc (.cells #[.int .i64 0,.int .i64 0] 33)) #[.int .i64 0,.int .i64 0]):=by
  have h1:=yN 33 (W.alloc (.cells #[qE,qN] 52)) #[.int .i64 0,.int .i64 0]
  have h2:(W.alloc (.cells #[qE,qN] 52)).heap.size=W.heap.size+1:=by simp
  rw[h2]at h1;exact h1
 have HZ:Hid (W.heap.size+2<=((W.alloc (.cells #[qE,qN] 52)).alloc (.cells #[.int .i64 0,.int .i64 0] 33)).heap.size):=by show _<=_;simp
 unfold lM at HA;unfold rL at HR;clear hb0 hE;generalize yE l=G at *;obtain ⟨ts,er,pl⟩:=G;simp only at her HA HR
 have x1:(er==0)=false:=by simpa using her
 have x2:(er !=0)=true:=by simpa using her
 go_enter_defers Tryz.func22,Tryz.ntmps22
 go_wp2_with (go_at_call 44;(with_reducible refine (HA.out _ HE1.out).mono ?_);rintro e w1 ⟨vt,rfl,ht,hb⟩;obtain ⟨at0,ct0,rfl⟩:=ht.shape;have HB:=zY hb;obtain ⟨f0,f1,ff0,ff1⟩:=(HF0.out.below hb).two;clear ht hb)
 clear f0 f1 ff0 ff1;have HS2:=zY (((HS0.out.below HB.out).other (m:=W.heap.size+1) (k:=0) (by omega) (.int .i64 er)).other (m:=W.heap.size+1) (k:=1) (by omega) (.int .i64 pl));have HF2:=zY ((HF0.out.below HB.out).set2 (.int .i64 er) (.int .i64 pl));have HB2:=zY (((HB0.out.trans (HB.out.mono HB0.out.size)).setCell (p:=⟨W.heap.size+1,0,none⟩) (Nat.le_succ _) (.int .i64 er)).setCell (p:=⟨W.heap.size+1,1,none⟩) (Nat.le_succ _) (.int .i64 pl))
 refine yP [2,3] (fun d i u z=>match i with
  |0=>z=.agg #[qE,qN]
  |1=>z=.agg #[.int .i64 er,.int .i64 pl]
  |2=>True
  |3=>True
  |_=>True) (fun _ u=>xZ 52 W.heap.size u #[qE,qN]/\xZ 33 (W.heap.size+1) u #[.int .i64 er,.int .i64 pl]/\Below W.heap.size W u) (by kernel_rfl) (by kernel_rfl) (by kernel_rfl) ?_ ?_ ?_ ?_ ?_ ?_ (by kernel_rfl)
 ·intro d i w v w' h hb
  match i,h with
  |0,h=>exact h
  |1,h=>exact h
  |2,h=>exact h
  |3,h=>exact h
  |_+4,_=>trivial
 ·intro d u u' h hb
  exact ⟨h.1.below hb,h.2.1.below hb,h.2.2.trans (hb.mono h.2.2.size)⟩
 ·exact ⟨HS2.out,HF2.out,HB2.out⟩
 ·intro d i o ρ w' hm ho hf hg hC hcs hfs hfr zX
  match i,hm,ho,hf,hg,hfr,zX with
  |0,_,ho,hf,hg,hfr,zX=>
   simp only[qS]at ho;subst ho;refine ⟨fun _=>?_,qF⟩
   simp[go_sem];exact qB
  |1,_,ho,hf,hg,hfr,zX=>
   simp only[qS]at ho;subst ho;refine ⟨fun _=>?_,qF⟩
   have tq: ρ (.tmp 3)=(qP (W.heap.size+1)):=(qR hfr 3);obtain ⟨c0,c1,-,-⟩:=hC.2.1.two;simp[go_sem,tq,c0,c1];exact qB
  |2,hm,_,_,_,_,_=>exact qD hm
  |3,hm,_,_,_,_,_=>exact qD hm
  |n+4,_,ho,_,_,_,_=>simp at ho
 ·intro d i o ρ w' hm ho h0 hf hg hC hcs hfs hfr zX
  match i,hm,ho,h0,hf,hg,hfr,zX with
  |0,hm,_,_,_,_,_,_=>exact qD hm
  |1,hm,_,_,_,_,_,_=>exact qD hm
  |2,_,ho,h0,hf,hg,hfr,zX=>
   simp only[qS]at ho;subst ho;refine ⟨rfl,?_⟩
   have tq: ρ (.tmp 2)=(qP W.heap.size):=(qR hfr 2);have t0: ρ (.tmp 14)=.agg #[qE,qN]:=(qH zX 0 14);obtain ⟨c0,c1,f0,f1⟩:=hC.1.two;simp[go_sem,tq,t0,c0,c1,f0,f1];exact ⟨hC.1.set2 _ _,(hC.2.1.other (by omega) _).other (by omega) _,(hC.2.2.setCell (p:=⟨W.heap.size,0,none⟩) (Nat.le_refl _) _).setCell (p:=⟨W.heap.size,1,none⟩) (Nat.le_refl _) _⟩
  |3,_,ho,h0,hf,hg,hfr,zX=>
   simp only[qS]at ho;subst ho;refine ⟨rfl,?_⟩
   have tq: ρ (.tmp 3)=(qP (W.heap.size+1)):=(qR hfr 3);have t0: ρ (.tmp 15)=.agg #[.int .i64 er,.int .i64 pl]:=(qH zX 1 15);obtain ⟨c0,c1,f0,f1⟩:=hC.2.1.two;simp[go_sem,tq,t0,c0,c1,f0,f1];exact ⟨(hC.1.other (by omega) _).other (by omega) _,hC.2.1.set2 _ _,(hC.2.2.setCell (p:=⟨W.heap.size+1,0,none⟩) (Nat.le_succ _) _).setCell (p:=⟨W.heap.size+1,1,none⟩) (Nat.le_succ _) _⟩
  |n+4,_,ho,_,_,_,_,_=>simp at ho
 intro V w9 hC9 hS;simp only[xA,uH];simp only[Act.put,qU];clear hS
 go_wp2
 obtain ⟨k0,k1,-,-⟩:=hC9.1.two;obtain ⟨k2,k3,-,-⟩:=hC9.2.1.two;exact ⟨.tuple #[.agg #[qE,qN],.agg #[.int .i64 er,.int .i64 pl]],by simp[results,Tryz.results22,go_sem,k0,k1,k2,k3],HR.out _ _ ⟨Or.inl ⟨her,rfl⟩,hC9.2.2⟩⟩
theorem ZK (l:List UInt8) (W:World) (hE:sE W):Calls Tryz.prog 22 #[.string (zW l)] W (rL W l):=by
 by_cases h:(yE l).err=0
 ·exact RX l W hE h
 exact NP l W hE h
def oW (p:vZ):Bool:=decide (p.name=[])&&decide (p.port=0)
def mD (x:zF):Bool:=decide (x.tag=[])&&decide (x.nums.length=0)
def xU (x:zF):Bool:=
 if x.kind=1 then yO x.name&&(yO x.tag&&(oW x.frm&&oW x.tO))
 else if x.kind=2 then decide (x.name=[])&&(decide (x.tag=[])&&(yO x.frm.name&&yO x.tO.name))
 else if x.kind=3 then yO x.name&&(mD x&&(oW x.frm&&yO x.tO.name))
 else if x.kind=4 then yO x.name&&(mD x&&(yO x.frm.name&&oW x.tO))
 else false
theorem iI (l m:List UInt8):(l==m)=decide (l=m):=by
 by_cases h:l=m
 ·simp [h]
 rw[decide_eq_false h];simpa using h
theorem fX:(ByteArray.mk #[]).toList=([]:List UInt8):=sJ []
theorem mW (p:vZ) (w:World):Calls Tryz.prog 153 #[plV p] w fun e w'=>e=.returned (.bool (oW p))/\Below w.heap.size w w':=by
 obtain ⟨nm,po,pl⟩:=p;unfold plV oW;simp only;have e1:=sJ nm;have e2:=fX;have e3:=iI nm []
 have ba:Hid (∀ o,Below w.heap.size w (w.alloc o)):=fun o=>(Below.refl _ _).alloc (Nat.le_refl _) o
 by_cases h1:nm=[]
 ·rw [decide_eq_true h1]at e3 ⊢
  by_cases h2:po=0
  ·subst h2
   go_enter Tryz.func153,Tryz.ntmps153
   go_wp2
   go_ret
   exact ⟨by simp,ba.out _⟩
  have h2':(po==0)=false:=by simpa using h2
  rw[decide_eq_false h2]
  go_enter Tryz.func153,Tryz.ntmps153
  go_wp2
  go_ret
  exact ⟨by simp,ba.out _⟩
 rw[decide_eq_false h1]at e3 ⊢
 go_enter Tryz.func153,Tryz.ntmps153
 go_wp2
 go_ret
 exact ⟨by simp,ba.out _⟩
theorem iH (x:zF) (a:Option Addr) (c:Nat) (w:World):Calls Tryz.prog 154 #[.agg (zJ x.kind x.name x.tag (.slice a x.nums.length c) x.frm x.tO x.place)] w fun e w'=>e=.returned (.bool (mD x))/\Below w.heap.size w w':=by
 obtain ⟨ki,nm,tg,ns,fr,tO,pl⟩:=x;unfold zJ mD;simp only;have e1:=sJ tg;have e2:=fX;have e3:=iI tg []
 have ba:Hid (∀ o,Below w.heap.size w (w.alloc o)):=fun o=>(Below.refl _ _).alloc (Nat.le_refl _) o
 generalize ns.length=n at *
 by_cases h1:tg=[]
 ·rw [decide_eq_true h1]at e3 ⊢
  by_cases h2:n=0
  ·subst h2
   go_enter Tryz.func154,Tryz.ntmps154
   go_wp2
   go_ret
   exact ⟨by simp,ba.out _⟩
  have h3:¬((n:Int)=0):=by omega
  have h2':((n:Int)==0)=false:=by simpa using h3
  rw[decide_eq_false h2]
  go_enter Tryz.func154,Tryz.ntmps154
  go_wp2
  go_ret
  exact ⟨by simp,ba.out _⟩
 rw[decide_eq_false h1]at e3 ⊢
 go_enter Tryz.func154,Tryz.ntmps154
 go_wp2
 go_ret
 exact ⟨by simp,ba.out _⟩
theorem NN (x:zF) (a:Option Addr) (c:Nat) (w:World) (hk:x.kind=1):Calls Tryz.prog 110 #[.agg (zJ x.kind x.name x.tag (.slice a x.nums.length c) x.frm x.tO x.place)] w fun e w'=>e=.returned (.bool (xU x))/\Below w.heap.size w w':=by
 have HBare:=zY (fun W=>iH x a c W)
 have HR:xU x=(yO x.name&&(yO x.tag&&(oW x.frm&&oW x.tO))):=by unfold xU;rw[if_pos hk]
 rw[HR];clear HR;obtain ⟨ki,nm,tg,ns,⟨fn,fp,fl⟩,⟨tn,tp,tl⟩,pl⟩:=x;unfold zJ at HBare ⊢;simp only at hk HBare ⊢;subst hk;have HB0:=zY (yN 103 w #[.int .u8 1,.string (zW nm),.string (zW tg),.slice a ns.length c,.string (zW fn),.int .i64 fp,.int .i64 fl,.string (zW tn),.int .i64 tp,.int .i64 tl,.int .i64 pl]);have hbb:Hid (Below w.heap.size w (w.alloc (.cells #[.int .u8 1,.string (zW nm),.string (zW tg),.slice a ns.length c,.string (zW fn),.int .i64 fp,.int .i64 fl,.string (zW tn),.int .i64 tp,.int .i64 tl,.int .i64 pl] 103))):=(Below.refl _ _).alloc (Nat.le_refl _) _
 have H0:Hid (∀ W,Calls Tryz.prog 111 #[.string (zW nm)] W fun e w'=>e=.returned (.bool (yO nm))/\Below W.heap.size W w'):=fun W=>uG nm W
 have H1:Hid (∀ W,Calls Tryz.prog 111 #[.string (zW tg)] W fun e w'=>e=.returned (.bool (yO tg))/\Below W.heap.size W w'):=fun W=>uG tg W
 have H2:Hid (∀ W,Calls Tryz.prog 153 #[.agg #[.string (zW fn),.int .i64 fp,.int .i64 fl]] W fun e w'=>e=.returned (.bool (oW ⟨fn,fp,fl⟩))/\Below W.heap.size W w'):=fun W=>mW ⟨fn,fp,fl⟩ W
 have H3:Hid (∀ W,Calls Tryz.prog 153 #[.agg #[.string (zW tn),.int .i64 tp,.int .i64 tl]] W fun e w'=>e=.returned (.bool (oW ⟨tn,tp,tl⟩))/\Below W.heap.size W w'):=fun W=>mW ⟨tn,tp,tl⟩ W
 generalize hb0:yO nm=b0 at *;generalize hb1:yO tg=b1 at *;generalize hb2:oW ⟨fn,fp,fl⟩=b2 at *;generalize hb3:oW ⟨tn,tp,tl⟩=b3 at *;generalize ns.length=n at *
 cases b0
 ·go_enter Tryz.func110,Tryz.ntmps110
  go_wp2_with (first
   |(go_at_call 111;(with_reducible refine (H0.out _).mono ?_);rintro e w0 ⟨rfl,hb⟩;have B0:=zY (HB0.out.below hb);have G0:=zY (hbb.out.trans (hb.mono hbb.out.size));obtain ⟨c0_0,c0_1,c0_2,c0_3,c0_4,c0_5,c0_6,c0_7,c0_8,c0_9,c0_10⟩:=qC11 B0.out;clear hb))
  go_ret
  exact ⟨by simp,G0.out⟩
 cases b1
 ·go_enter Tryz.func110,Tryz.ntmps110
  go_wp2_with (first
   |(go_at_call 111;(with_reducible refine (H1.out _).mono ?_);rintro e w1 ⟨rfl,hb⟩;have B1:=zY (B0.out.below hb);have G1:=zY (G0.out.trans (hb.mono G0.out.size));obtain ⟨c1_0,c1_1,c1_2,c1_3,c1_4,c1_5,c1_6,c1_7,c1_8,c1_9,c1_10⟩:=qC11 B1.out;clear hb)
   |(go_at_call 111;(with_reducible refine (H0.out _).mono ?_);rintro e w0 ⟨rfl,hb⟩;have B0:=zY (HB0.out.below hb);have G0:=zY (hbb.out.trans (hb.mono hbb.out.size));obtain ⟨c0_0,c0_1,c0_2,c0_3,c0_4,c0_5,c0_6,c0_7,c0_8,c0_9,c0_10⟩:=qC11 B0.out;clear hb))
  go_ret
  exact ⟨by simp,G1.out⟩
 cases b2
 ·go_enter Tryz.func110,Tryz.ntmps110
  go_wp2_with (first
   |(go_at_call 153;(with_reducible refine (H2.out _).mono ?_);rintro e w2 ⟨rfl,hb⟩;have B2:=zY (B1.out.below hb);have G2:=zY (G1.out.trans (hb.mono G1.out.size));obtain ⟨c2_0,c2_1,c2_2,c2_3,c2_4,c2_5,c2_6,c2_7,c2_8,c2_9,c2_10⟩:=qC11 B2.out;clear hb)
   |(go_at_call 111;(with_reducible refine (H1.out _).mono ?_);rintro e w1 ⟨rfl,hb⟩;have B1:=zY (B0.out.below hb);have G1:=zY (G0.out.trans (hb.mono G0.out.size));obtain ⟨c1_0,c1_1,c1_2,c1_3,c1_4,c1_5,c1_6,c1_7,c1_8,c1_9,c1_10⟩:=qC11 B1.out;clear hb)
   |(go_at_call 111;(with_reducible refine (H0.out _).mono ?_);rintro e w0 ⟨rfl,hb⟩;have B0:=zY (HB0.out.below hb);have G0:=zY (hbb.out.trans (hb.mono hbb.out.size));obtain ⟨c0_0,c0_1,c0_2,c0_3,c0_4,c0_5,c0_6,c0_7,c0_8,c0_9,c0_10⟩:=qC11 B0.out;clear hb))
  go_ret
  exact ⟨by simp,G2.out⟩
 cases b3
 ·go_enter Tryz.func110,Tryz.ntmps110
  go_wp2_with (first
   |(go_at_call 153;(with_reducible refine (H3.out _).mono ?_);rintro e w3 ⟨rfl,hb⟩;have B3:=zY (B2.out.below hb);have G3:=zY (G2.out.trans (hb.mono G2.out.size));obtain ⟨c3_0,c3_1,c3_2,c3_3,c3_4,c3_5,c3_6,c3_7,c3_8,c3_9,c3_10⟩:=qC11 B3.out;clear hb)
   |(go_at_call 153;(with_reducible refine (H2.out _).mono ?_);rintro e w2 ⟨rfl,hb⟩;have B2:=zY (B1.out.below hb);have G2:=zY (G1.out.trans (hb.mono G1.out.size));obtain ⟨c2_0,c2_1,c2_2,c2_3,c2_4,c2_5,c2_6,c2_7,c2_8,c2_9,c2_10⟩:=qC11 B2.out;clear hb)
   |(go_at_call 111;(with_reducible refine (H1.out _).mono ?_);rintro e w1 ⟨rfl,hb⟩;have B1:=zY (B0.out.below hb);have G1:=zY (G0.out.trans (hb.mono G0.out.size));obtain ⟨c1_0,c1_1,c1_2,c1_3,c1_4,c1_5,c1_6,c1_7,c1_8,c1_9,c1_10⟩:=qC11 B1.out;clear hb)
   |(go_at_call 111;(with_reducible refine (H0.out _).mono ?_);rintro e w0 ⟨rfl,hb⟩;have B0:=zY (HB0.out.below hb);have G0:=zY (hbb.out.trans (hb.mono hbb.out.size));obtain ⟨c0_0,c0_1,c0_2,c0_3,c0_4,c0_5,c0_6,c0_7,c0_8,c0_9,c0_10⟩:=qC11 B0.out;clear hb))
  go_ret
  exact ⟨by simp,G3.out⟩
 go_enter Tryz.func110,Tryz.ntmps110
 go_wp2_with (first
  |(go_at_call 153;(with_reducible refine (H3.out _).mono ?_);rintro e w3 ⟨rfl,hb⟩;have B3:=zY (B2.out.below hb);have G3:=zY (G2.out.trans (hb.mono G2.out.size));obtain ⟨c3_0,c3_1,c3_2,c3_3,c3_4,c3_5,c3_6,c3_7,c3_8,c3_9,c3_10⟩:=qC11 B3.out;clear hb)
  |(go_at_call 153;(with_reducible refine (H2.out _).mono ?_);rintro e w2 ⟨rfl,hb⟩;have B2:=zY (B1.out.below hb);have G2:=zY (G1.out.trans (hb.mono G1.out.size));obtain ⟨c2_0,c2_1,c2_2,c2_3,c2_4,c2_5,c2_6,c2_7,c2_8,c2_9,c2_10⟩:=qC11 B2.out;clear hb)
  |(go_at_call 111;(with_reducible refine (H1.out _).mono ?_);rintro e w1 ⟨rfl,hb⟩;have B1:=zY (B0.out.below hb);have G1:=zY (G0.out.trans (hb.mono G0.out.size));obtain ⟨c1_0,c1_1,c1_2,c1_3,c1_4,c1_5,c1_6,c1_7,c1_8,c1_9,c1_10⟩:=qC11 B1.out;clear hb)
  |(go_at_call 111;(with_reducible refine (H0.out _).mono ?_);rintro e w0 ⟨rfl,hb⟩;have B0:=zY (HB0.out.below hb);have G0:=zY (hbb.out.trans (hb.mono hbb.out.size));obtain ⟨c0_0,c0_1,c0_2,c0_3,c0_4,c0_5,c0_6,c0_7,c0_8,c0_9,c0_10⟩:=qC11 B0.out;clear hb))
 go_ret
 exact ⟨by simp,G3.out⟩
theorem NL (x:zF) (a:Option Addr) (c:Nat) (w:World) (hk:x.kind=2):Calls Tryz.prog 110 #[.agg (zJ x.kind x.name x.tag (.slice a x.nums.length c) x.frm x.tO x.place)] w fun e w'=>e=.returned (.bool (xU x))/\Below w.heap.size w w':=by
 have HBare:=zY (fun W=>iH x a c W)
 have HR:xU x=(decide (x.name=[])&&(decide (x.tag=[])&&(yO x.frm.name&&yO x.tO.name))):=by unfold xU;rw[if_neg (by rw[hk];decide),if_pos hk]
 rw[HR];clear HR;obtain ⟨ki,nm,tg,ns,⟨fn,fp,fl⟩,⟨tn,tp,tl⟩,pl⟩:=x;unfold zJ at HBare ⊢;simp only at hk HBare ⊢;subst hk;have HB0:=zY (yN 103 w #[.int .u8 2,.string (zW nm),.string (zW tg),.slice a ns.length c,.string (zW fn),.int .i64 fp,.int .i64 fl,.string (zW tn),.int .i64 tp,.int .i64 tl,.int .i64 pl]);have hbb:Hid (Below w.heap.size w (w.alloc (.cells #[.int .u8 2,.string (zW nm),.string (zW tg),.slice a ns.length c,.string (zW fn),.int .i64 fp,.int .i64 fl,.string (zW tn),.int .i64 tp,.int .i64 tl,.int .i64 pl] 103))):=(Below.refl _ _).alloc (Nat.le_refl _) _;have q0:=sJ nm;have p0:=iI nm [];have q1:=sJ tg;have p1:=iI tg []
 have H2:Hid (∀ W,Calls Tryz.prog 111 #[.string (zW fn)] W fun e w'=>e=.returned (.bool (yO fn))/\Below W.heap.size W w'):=fun W=>uG fn W
 have H3:Hid (∀ W,Calls Tryz.prog 111 #[.string (zW tn)] W fun e w'=>e=.returned (.bool (yO tn))/\Below W.heap.size W w'):=fun W=>uG tn W
 have e0:=fX;generalize hb0:decide (nm=[])=b0 at *;generalize hb1:decide (tg=[])=b1 at *;generalize hb2:yO fn=b2 at *;generalize hb3:yO tn=b3 at *;generalize ns.length=n at *
 cases b0
 ·go_enter Tryz.func110,Tryz.ntmps110
  go_wp2
  go_ret
  exact ⟨by simp,hbb.out⟩
 cases b1
 ·go_enter Tryz.func110,Tryz.ntmps110
  go_wp2
  go_ret
  exact ⟨by simp,hbb.out⟩
 cases b2
 ·go_enter Tryz.func110,Tryz.ntmps110
  go_wp2_with (first
   |(go_at_call 111;(with_reducible refine (H2.out _).mono ?_);rintro e w2 ⟨rfl,hb⟩;have B2:=zY (HB0.out.below hb);have G2:=zY (hbb.out.trans (hb.mono hbb.out.size));obtain ⟨c2_0,c2_1,c2_2,c2_3,c2_4,c2_5,c2_6,c2_7,c2_8,c2_9,c2_10⟩:=qC11 B2.out;clear hb))
  go_ret
  exact ⟨by simp,G2.out⟩
 cases b3
 ·go_enter Tryz.func110,Tryz.ntmps110
  go_wp2_with (first
   |(go_at_call 111;(with_reducible refine (H3.out _).mono ?_);rintro e w3 ⟨rfl,hb⟩;have B3:=zY (B2.out.below hb);have G3:=zY (G2.out.trans (hb.mono G2.out.size));obtain ⟨c3_0,c3_1,c3_2,c3_3,c3_4,c3_5,c3_6,c3_7,c3_8,c3_9,c3_10⟩:=qC11 B3.out;clear hb)
   |(go_at_call 111;(with_reducible refine (H2.out _).mono ?_);rintro e w2 ⟨rfl,hb⟩;have B2:=zY (HB0.out.below hb);have G2:=zY (hbb.out.trans (hb.mono hbb.out.size));obtain ⟨c2_0,c2_1,c2_2,c2_3,c2_4,c2_5,c2_6,c2_7,c2_8,c2_9,c2_10⟩:=qC11 B2.out;clear hb))
  go_ret
  exact ⟨by simp,G3.out⟩
 go_enter Tryz.func110,Tryz.ntmps110
 go_wp2_with (first
  |(go_at_call 111;(with_reducible refine (H3.out _).mono ?_);rintro e w3 ⟨rfl,hb⟩;have B3:=zY (B2.out.below hb);have G3:=zY (G2.out.trans (hb.mono G2.out.size));obtain ⟨c3_0,c3_1,c3_2,c3_3,c3_4,c3_5,c3_6,c3_7,c3_8,c3_9,c3_10⟩:=qC11 B3.out;clear hb)
  |(go_at_call 111;(with_reducible refine (H2.out _).mono ?_);rintro e w2 ⟨rfl,hb⟩;have B2:=zY (HB0.out.below hb);have G2:=zY (hbb.out.trans (hb.mono hbb.out.size));obtain ⟨c2_0,c2_1,c2_2,c2_3,c2_4,c2_5,c2_6,c2_7,c2_8,c2_9,c2_10⟩:=qC11 B2.out;clear hb))
 go_ret
 exact ⟨by simp,G3.out⟩
theorem NK (x:zF) (a:Option Addr) (c:Nat) (w:World) (hk:x.kind=3):Calls Tryz.prog 110 #[.agg (zJ x.kind x.name x.tag (.slice a x.nums.length c) x.frm x.tO x.place)] w fun e w'=>e=.returned (.bool (xU x))/\Below w.heap.size w w':=by
 have HBare:=zY (fun W=>iH x a c W)
 have HR:xU x=(yO x.name&&(mD x&&(oW x.frm&&yO x.tO.name))):=by unfold xU;rw[if_neg (by rw[hk];decide),if_neg (by rw[hk];decide),if_pos hk]
 rw[HR];clear HR;obtain ⟨ki,nm,tg,ns,⟨fn,fp,fl⟩,⟨tn,tp,tl⟩,pl⟩:=x;unfold zJ at HBare ⊢;simp only at hk HBare ⊢;subst hk;have HB0:=zY (yN 103 w #[.int .u8 3,.string (zW nm),.string (zW tg),.slice a ns.length c,.string (zW fn),.int .i64 fp,.int .i64 fl,.string (zW tn),.int .i64 tp,.int .i64 tl,.int .i64 pl]);have hbb:Hid (Below w.heap.size w (w.alloc (.cells #[.int .u8 3,.string (zW nm),.string (zW tg),.slice a ns.length c,.string (zW fn),.int .i64 fp,.int .i64 fl,.string (zW tn),.int .i64 tp,.int .i64 tl,.int .i64 pl] 103))):=(Below.refl _ _).alloc (Nat.le_refl _) _
 have H0:Hid (∀ W,Calls Tryz.prog 111 #[.string (zW nm)] W fun e w'=>e=.returned (.bool (yO nm))/\Below W.heap.size W w'):=fun W=>uG nm W
 have H2:Hid (∀ W,Calls Tryz.prog 153 #[.agg #[.string (zW fn),.int .i64 fp,.int .i64 fl]] W fun e w'=>e=.returned (.bool (oW ⟨fn,fp,fl⟩))/\Below W.heap.size W w'):=fun W=>mW ⟨fn,fp,fl⟩ W
 have H3:Hid (∀ W,Calls Tryz.prog 111 #[.string (zW tn)] W fun e w'=>e=.returned (.bool (yO tn))/\Below W.heap.size W w'):=fun W=>uG tn W
 generalize hb0:yO nm=b0 at *;generalize hb1:mD ⟨3,nm,tg,ns,⟨fn,fp,fl⟩,⟨tn,tp,tl⟩,pl⟩=b1 at *;generalize hb2:oW ⟨fn,fp,fl⟩=b2 at *;generalize hb3:yO tn=b3 at *;generalize ns.length=n at *
 cases b0
 ·go_enter Tryz.func110,Tryz.ntmps110
  go_wp2_with (first
   |(go_at_call 111;(with_reducible refine (H0.out _).mono ?_);rintro e w0 ⟨rfl,hb⟩;have B0:=zY (HB0.out.below hb);have G0:=zY (hbb.out.trans (hb.mono hbb.out.size));obtain ⟨c0_0,c0_1,c0_2,c0_3,c0_4,c0_5,c0_6,c0_7,c0_8,c0_9,c0_10⟩:=qC11 B0.out;clear hb))
  go_ret
  exact ⟨by simp,G0.out⟩
 cases b1
 ·go_enter Tryz.func110,Tryz.ntmps110
  go_wp2_with (first
   |(go_at_call 154;(with_reducible refine (HBare.out _).mono ?_);rintro e w1 ⟨rfl,hb⟩;have B1:=zY (B0.out.below hb);have G1:=zY (G0.out.trans (hb.mono G0.out.size));obtain ⟨c1_0,c1_1,c1_2,c1_3,c1_4,c1_5,c1_6,c1_7,c1_8,c1_9,c1_10⟩:=qC11 B1.out;clear hb)
   |(go_at_call 111;(with_reducible refine (H0.out _).mono ?_);rintro e w0 ⟨rfl,hb⟩;have B0:=zY (HB0.out.below hb);have G0:=zY (hbb.out.trans (hb.mono hbb.out.size));obtain ⟨c0_0,c0_1,c0_2,c0_3,c0_4,c0_5,c0_6,c0_7,c0_8,c0_9,c0_10⟩:=qC11 B0.out;clear hb))
  go_ret
  exact ⟨by simp,G1.out⟩
 cases b2
 ·go_enter Tryz.func110,Tryz.ntmps110
  go_wp2_with (first
   |(go_at_call 153;(with_reducible refine (H2.out _).mono ?_);rintro e w2 ⟨rfl,hb⟩;have B2:=zY (B1.out.below hb);have G2:=zY (G1.out.trans (hb.mono G1.out.size));obtain ⟨c2_0,c2_1,c2_2,c2_3,c2_4,c2_5,c2_6,c2_7,c2_8,c2_9,c2_10⟩:=qC11 B2.out;clear hb)
   |(go_at_call 154;(with_reducible refine (HBare.out _).mono ?_);rintro e w1 ⟨rfl,hb⟩;have B1:=zY (B0.out.below hb);have G1:=zY (G0.out.trans (hb.mono G0.out.size));obtain ⟨c1_0,c1_1,c1_2,c1_3,c1_4,c1_5,c1_6,c1_7,c1_8,c1_9,c1_10⟩:=qC11 B1.out;clear hb)
   |(go_at_call 111;(with_reducible refine (H0.out _).mono ?_);rintro e w0 ⟨rfl,hb⟩;have B0:=zY (HB0.out.below hb);have G0:=zY (hbb.out.trans (hb.mono hbb.out.size));obtain ⟨c0_0,c0_1,c0_2,c0_3,c0_4,c0_5,c0_6,c0_7,c0_8,c0_9,c0_10⟩:=qC11 B0.out;clear hb))
  go_ret
  exact ⟨by simp,G2.out⟩
 cases b3
 ·go_enter Tryz.func110,Tryz.ntmps110
  go_wp2_with (first
   |(go_at_call 111;(with_reducible refine (H3.out _).mono ?_);rintro e w3 ⟨rfl,hb⟩;have B3:=zY (B2.out.below hb);have G3:=zY (G2.out.trans (hb.mono G2.out.size));obtain ⟨c3_0,c3_1,c3_2,c3_3,c3_4,c3_5,c3_6,c3_7,c3_8,c3_9,c3_10⟩:=qC11 B3.out;clear hb)
   |(go_at_call 153;(with_reducible refine (H2.out _).mono ?_);rintro e w2 ⟨rfl,hb⟩;have B2:=zY (B1.out.below hb);have G2:=zY (G1.out.trans (hb.mono G1.out.size));obtain ⟨c2_0,c2_1,c2_2,c2_3,c2_4,c2_5,c2_6,c2_7,c2_8,c2_9,c2_10⟩:=qC11 B2.out;clear hb)
   |(go_at_call 154;(with_reducible refine (HBare.out _).mono ?_);rintro e w1 ⟨rfl,hb⟩;have B1:=zY (B0.out.below hb);have G1:=zY (G0.out.trans (hb.mono G0.out.size));obtain ⟨c1_0,c1_1,c1_2,c1_3,c1_4,c1_5,c1_6,c1_7,c1_8,c1_9,c1_10⟩:=qC11 B1.out;clear hb)
   |(go_at_call 111;(with_reducible refine (H0.out _).mono ?_);rintro e w0 ⟨rfl,hb⟩;have B0:=zY (HB0.out.below hb);have G0:=zY (hbb.out.trans (hb.mono hbb.out.size));obtain ⟨c0_0,c0_1,c0_2,c0_3,c0_4,c0_5,c0_6,c0_7,c0_8,c0_9,c0_10⟩:=qC11 B0.out;clear hb))
  go_ret
  exact ⟨by simp,G3.out⟩
 go_enter Tryz.func110,Tryz.ntmps110
 go_wp2_with (first
  |(go_at_call 111;(with_reducible refine (H3.out _).mono ?_);rintro e w3 ⟨rfl,hb⟩;have B3:=zY (B2.out.below hb);have G3:=zY (G2.out.trans (hb.mono G2.out.size));obtain ⟨c3_0,c3_1,c3_2,c3_3,c3_4,c3_5,c3_6,c3_7,c3_8,c3_9,c3_10⟩:=qC11 B3.out;clear hb)
  |(go_at_call 153;(with_reducible refine (H2.out _).mono ?_);rintro e w2 ⟨rfl,hb⟩;have B2:=zY (B1.out.below hb);have G2:=zY (G1.out.trans (hb.mono G1.out.size));obtain ⟨c2_0,c2_1,c2_2,c2_3,c2_4,c2_5,c2_6,c2_7,c2_8,c2_9,c2_10⟩:=qC11 B2.out;clear hb)
  |(go_at_call 154;(with_reducible refine (HBare.out _).mono ?_);rintro e w1 ⟨rfl,hb⟩;have B1:=zY (B0.out.below hb);have G1:=zY (G0.out.trans (hb.mono G0.out.size));obtain ⟨c1_0,c1_1,c1_2,c1_3,c1_4,c1_5,c1_6,c1_7,c1_8,c1_9,c1_10⟩:=qC11 B1.out;clear hb)
  |(go_at_call 111;(with_reducible refine (H0.out _).mono ?_);rintro e w0 ⟨rfl,hb⟩;have B0:=zY (HB0.out.below hb);have G0:=zY (hbb.out.trans (hb.mono hbb.out.size));obtain ⟨c0_0,c0_1,c0_2,c0_3,c0_4,c0_5,c0_6,c0_7,c0_8,c0_9,c0_10⟩:=qC11 B0.out;clear hb))
 go_ret
 exact ⟨by simp,G3.out⟩
theorem NJ (x:zF) (a:Option Addr) (c:Nat) (w:World) (hk:x.kind=4):Calls Tryz.prog 110 #[.agg (zJ x.kind x.name x.tag (.slice a x.nums.length c) x.frm x.tO x.place)] w fun e w'=>e=.returned (.bool (xU x))/\Below w.heap.size w w':=by
 have HBare:=zY (fun W=>iH x a c W)
 have HR:xU x=(yO x.name&&(mD x&&(yO x.frm.name&&oW x.tO))):=by unfold xU;rw[if_neg (by rw[hk];decide),if_neg (by rw[hk];decide),if_neg (by rw[hk];decide),if_pos hk]
 rw[HR];clear HR;obtain ⟨ki,nm,tg,ns,⟨fn,fp,fl⟩,⟨tn,tp,tl⟩,pl⟩:=x;unfold zJ at HBare ⊢;simp only at hk HBare ⊢;subst hk;have HB0:=zY (yN 103 w #[.int .u8 4,.string (zW nm),.string (zW tg),.slice a ns.length c,.string (zW fn),.int .i64 fp,.int .i64 fl,.string (zW tn),.int .i64 tp,.int .i64 tl,.int .i64 pl]);have hbb:Hid (Below w.heap.size w (w.alloc (.cells #[.int .u8 4,.string (zW nm),.string (zW tg),.slice a ns.length c,.string (zW fn),.int .i64 fp,.int .i64 fl,.string (zW tn),.int .i64 tp,.int .i64 tl,.int .i64 pl] 103))):=(Below.refl _ _).alloc (Nat.le_refl _) _
 have H0:Hid (∀ W,Calls Tryz.prog 111 #[.string (zW nm)] W fun e w'=>e=.returned (.bool (yO nm))/\Below W.heap.size W w'):=fun W=>uG nm W
 have H2:Hid (∀ W,Calls Tryz.prog 111 #[.string (zW fn)] W fun e w'=>e=.returned (.bool (yO fn))/\Below W.heap.size W w'):=fun W=>uG fn W
 have H3:Hid (∀ W,Calls Tryz.prog 153 #[.agg #[.string (zW tn),.int .i64 tp,.int .i64 tl]] W fun e w'=>e=.returned (.bool (oW ⟨tn,tp,tl⟩))/\Below W.heap.size W w'):=fun W=>mW ⟨tn,tp,tl⟩ W
 generalize hb0:yO nm=b0 at *;generalize hb1:mD ⟨4,nm,tg,ns,⟨fn,fp,fl⟩,⟨tn,tp,tl⟩,pl⟩=b1 at *;generalize hb2:yO fn=b2 at *;generalize hb3:oW ⟨tn,tp,tl⟩=b3 at *;generalize ns.length=n at *
 cases b0
 ·go_enter Tryz.func110,Tryz.ntmps110
  go_wp2_with (first
   |(go_at_call 111;(with_reducible refine (H0.out _).mono ?_);rintro e w0 ⟨rfl,hb⟩;have B0:=zY (HB0.out.below hb);have G0:=zY (hbb.out.trans (hb.mono hbb.out.size));obtain ⟨c0_0,c0_1,c0_2,c0_3,c0_4,c0_5,c0_6,c0_7,c0_8,c0_9,c0_10⟩:=qC11 B0.out;clear hb))
  go_ret
  exact ⟨by simp,G0.out⟩
 cases b1
 ·go_enter Tryz.func110,Tryz.ntmps110
  go_wp2_with (first
   |(go_at_call 154;(with_reducible refine (HBare.out _).mono ?_);rintro e w1 ⟨rfl,hb⟩;have B1:=zY (B0.out.below hb);have G1:=zY (G0.out.trans (hb.mono G0.out.size));obtain ⟨c1_0,c1_1,c1_2,c1_3,c1_4,c1_5,c1_6,c1_7,c1_8,c1_9,c1_10⟩:=qC11 B1.out;clear hb)
   |(go_at_call 111;(with_reducible refine (H0.out _).mono ?_);rintro e w0 ⟨rfl,hb⟩;have B0:=zY (HB0.out.below hb);have G0:=zY (hbb.out.trans (hb.mono hbb.out.size));obtain ⟨c0_0,c0_1,c0_2,c0_3,c0_4,c0_5,c0_6,c0_7,c0_8,c0_9,c0_10⟩:=qC11 B0.out;clear hb))
  go_ret
  exact ⟨by simp,G1.out⟩
 cases b2
 ·go_enter Tryz.func110,Tryz.ntmps110
  go_wp2_with (first
   |(go_at_call 111;(with_reducible refine (H2.out _).mono ?_);rintro e w2 ⟨rfl,hb⟩;have B2:=zY (B1.out.below hb);have G2:=zY (G1.out.trans (hb.mono G1.out.size));obtain ⟨c2_0,c2_1,c2_2,c2_3,c2_4,c2_5,c2_6,c2_7,c2_8,c2_9,c2_10⟩:=qC11 B2.out;clear hb)
   |(go_at_call 154;(with_reducible refine (HBare.out _).mono ?_);rintro e w1 ⟨rfl,hb⟩;have B1:=zY (B0.out.below hb);have G1:=zY (G0.out.trans (hb.mono G0.out.size));obtain ⟨c1_0,c1_1,c1_2,c1_3,c1_4,c1_5,c1_6,c1_7,c1_8,c1_9,c1_10⟩:=qC11 B1.out;clear hb)
   |(go_at_call 111;(with_reducible refine (H0.out _).mono ?_);rintro e w0 ⟨rfl,hb⟩;have B0:=zY (HB0.out.below hb);have G0:=zY (hbb.out.trans (hb.mono hbb.out.size));obtain ⟨c0_0,c0_1,c0_2,c0_3,c0_4,c0_5,c0_6,c0_7,c0_8,c0_9,c0_10⟩:=qC11 B0.out;clear hb))
  go_ret
  exact ⟨by simp,G2.out⟩
 cases b3
 ·go_enter Tryz.func110,Tryz.ntmps110
  go_wp2_with (first
   |(go_at_call 153;(with_reducible refine (H3.out _).mono ?_);rintro e w3 ⟨rfl,hb⟩;have B3:=zY (B2.out.below hb);have G3:=zY (G2.out.trans (hb.mono G2.out.size));obtain ⟨c3_0,c3_1,c3_2,c3_3,c3_4,c3_5,c3_6,c3_7,c3_8,c3_9,c3_10⟩:=qC11 B3.out;clear hb)
   |(go_at_call 111;(with_reducible refine (H2.out _).mono ?_);rintro e w2 ⟨rfl,hb⟩;have B2:=zY (B1.out.below hb);have G2:=zY (G1.out.trans (hb.mono G1.out.size));obtain ⟨c2_0,c2_1,c2_2,c2_3,c2_4,c2_5,c2_6,c2_7,c2_8,c2_9,c2_10⟩:=qC11 B2.out;clear hb)
   |(go_at_call 154;(with_reducible refine (HBare.out _).mono ?_);rintro e w1 ⟨rfl,hb⟩;have B1:=zY (B0.out.below hb);have G1:=zY (G0.out.trans (hb.mono G0.out.size));obtain ⟨c1_0,c1_1,c1_2,c1_3,c1_4,c1_5,c1_6,c1_7,c1_8,c1_9,c1_10⟩:=qC11 B1.out;clear hb)
   |(go_at_call 111;(with_reducible refine (H0.out _).mono ?_);rintro e w0 ⟨rfl,hb⟩;have B0:=zY (HB0.out.below hb);have G0:=zY (hbb.out.trans (hb.mono hbb.out.size));obtain ⟨c0_0,c0_1,c0_2,c0_3,c0_4,c0_5,c0_6,c0_7,c0_8,c0_9,c0_10⟩:=qC11 B0.out;clear hb))
  go_ret
  exact ⟨by simp,G3.out⟩
 go_enter Tryz.func110,Tryz.ntmps110
 go_wp2_with (first
  |(go_at_call 153;(with_reducible refine (H3.out _).mono ?_);rintro e w3 ⟨rfl,hb⟩;have B3:=zY (B2.out.below hb);have G3:=zY (G2.out.trans (hb.mono G2.out.size));obtain ⟨c3_0,c3_1,c3_2,c3_3,c3_4,c3_5,c3_6,c3_7,c3_8,c3_9,c3_10⟩:=qC11 B3.out;clear hb)
  |(go_at_call 111;(with_reducible refine (H2.out _).mono ?_);rintro e w2 ⟨rfl,hb⟩;have B2:=zY (B1.out.below hb);have G2:=zY (G1.out.trans (hb.mono G1.out.size));obtain ⟨c2_0,c2_1,c2_2,c2_3,c2_4,c2_5,c2_6,c2_7,c2_8,c2_9,c2_10⟩:=qC11 B2.out;clear hb)
  |(go_at_call 154;(with_reducible refine (HBare.out _).mono ?_);rintro e w1 ⟨rfl,hb⟩;have B1:=zY (B0.out.below hb);have G1:=zY (G0.out.trans (hb.mono G0.out.size));obtain ⟨c1_0,c1_1,c1_2,c1_3,c1_4,c1_5,c1_6,c1_7,c1_8,c1_9,c1_10⟩:=qC11 B1.out;clear hb)
  |(go_at_call 111;(with_reducible refine (H0.out _).mono ?_);rintro e w0 ⟨rfl,hb⟩;have B0:=zY (HB0.out.below hb);have G0:=zY (hbb.out.trans (hb.mono hbb.out.size));obtain ⟨c0_0,c0_1,c0_2,c0_3,c0_4,c0_5,c0_6,c0_7,c0_8,c0_9,c0_10⟩:=qC11 B0.out;clear hb))
 go_ret
 exact ⟨by simp,G3.out⟩
theorem ET (x:zF) (a:Option Addr) (c:Nat) (w:World) (h1:x.kind≠1) (h2:x.kind≠2) (h3:x.kind≠3) (h4:x.kind≠4):Calls Tryz.prog 110 #[.agg (zJ x.kind x.name x.tag (.slice a x.nums.length c) x.frm x.tO x.place)] w fun e w'=>e=.returned (.bool (xU x))/\Below w.heap.size w w':=by
 have HR:xU x=false:=by unfold xU;rw[if_neg h1,if_neg h2,if_neg h3,if_neg h4]
 rw[HR];clear HR;obtain ⟨ki,nm,tg,ns,⟨fn,fp,fl⟩,⟨tn,tp,tl⟩,pl⟩:=x;unfold zJ;simp only at h1 h2 h3 h4 ⊢
 have k1:(ki==1)=false:=by simpa using h1
 have k2:(ki==2)=false:=by simpa using h2
 have k3:(ki==3)=false:=by simpa using h3
 have k4:(ki==4)=false:=by simpa using h4
 go_enter Tryz.func110,Tryz.ntmps110
 go_wp2
 go_ret
 exact ⟨rfl,(Below.refl _ _).alloc (Nat.le_refl _) _⟩
theorem aU (x:zF) (a:Option Addr) (c:Nat) (w:World):Calls Tryz.prog 110 #[.agg (zJ x.kind x.name x.tag (.slice a x.nums.length c) x.frm x.tO x.place)] w fun e w'=>e=.returned (.bool (xU x))/\Below w.heap.size w w':=by
 by_cases h1:x.kind=1
 ·exact NN x a c w h1
 by_cases h2:x.kind=2
 ·exact NL x a c w h2
 by_cases h3:x.kind=3
 ·exact NK x a c w h3
 by_cases h4:x.kind=4
 ·exact NJ x a c w h4
 exact ET x a c w h1 h2 h3 h4
def ER:zF:=⟨0,[],[],[],zV,zV,0⟩
def wG (L:List (zF × Value)) (k:Nat):zF × Value:=L.getD k (ER,qN)
structure iG (w : World) (g o : Nat) (p : zF × Value) : Prop where
 c0:w.cell? ⟨g,o,none⟩=some (.int .u8 p.1.kind)
 c1:w.cell? ⟨g,o+1,none⟩=some (.string (zW p.1.name))
 c2:w.cell? ⟨g,o+2,none⟩=some (.string (zW p.1.tag))
 c3:w.cell? ⟨g,o+3,none⟩=some p.2
 c4:w.cell? ⟨g,o+4,none⟩=some (.string (zW p.1.frm.name))
 c5:w.cell? ⟨g,o+5,none⟩=some (.int .i64 p.1.frm.port)
 c6:w.cell? ⟨g,o+6,none⟩=some (.int .i64 p.1.frm.place)
 c7:w.cell? ⟨g,o+7,none⟩=some (.string (zW p.1.tO.name))
 c8:w.cell? ⟨g,o+8,none⟩=some (.int .i64 p.1.tO.port)
 c9:w.cell? ⟨g,o+9,none⟩=some (.int .i64 p.1.tO.place)
 c10:w.cell? ⟨g,o+10,none⟩=some (.int .i64 p.1.place)
def uZ (w:World) (r:Value) (ns:List Int):Prop:=
 ∃a c,r=.slice a ns.length c/\(ns=[]\/∃g off,a=some ⟨g,off,none⟩/\∀k,k<ns.length->w.cell? ⟨g,off+k,none⟩=some (.int .i64 (ns.getD k 0)))
structure eU (w : World) (a : Option Addr) (L : List (zF × Value)) : Prop where
 lie:L=[]\/∃g off,a=some ⟨g,off,none⟩/\∀k,k<L.length->iG w g (off+k*11) (wG L k)
 nums:∀p ∈ L,uZ w p.2 p.1.nums
theorem wT {w w':World} (hb:Below w.heap.size w w') {p:Addr} {x:Value} (h:w.cell? p=some x):w'.cell? p=some x:=(hb.cell (block_lt_of_cell h)).trans h
theorem iG.below {w w' g o p} (h:iG w g o p) (hb:Below w.heap.size w w'):iG w' g o p:=
 ⟨wT hb h.c0,wT hb h.c1,wT hb h.c2,wT hb h.c3,wT hb h.c4,wT hb h.c5,wT hb h.c6,wT hb h.c7,wT hb h.c8,wT hb h.c9,wT hb h.c10⟩
theorem uZ.below {w w' r ns} (h:uZ w r ns) (hb:Below w.heap.size w w'):uZ w' r ns:=by
 obtain ⟨a,c,rfl,h⟩:=h;refine ⟨a,c,rfl,?_⟩
 rcases h with h|⟨g,off,e,hc⟩
 ·exact Or.inl h
 exact Or.inr ⟨g,off,e,fun k hk=>wT hb (hc k hk)⟩
theorem eU.below {w w' a L} (h:eU w a L) (hb:Below w.heap.size w w'):eU w' a L:=by
 refine ⟨?_,fun p hp=>(h.nums p hp).below hb⟩
 rcases h.lie with h|⟨g,off,e,hc⟩
 ·exact Or.inl h
 exact Or.inr ⟨g,off,e,fun k hk=>(hc k hk).below hb⟩
theorem yZ.at5 {base w r ns} (h:yZ base w r ns):uZ w r ns:=by
 rcases h.2 with ⟨rfl,h0⟩|⟨g,cap,cur,rfl,-⟩
 ·have e:ns=[]:=List.eq_nil_of_length_eq_zero h0
  subst e;exact ⟨none,0,rfl,Or.inl rfl⟩
 refine ⟨_,_,rfl,Or.inr ⟨g,0,rfl,fun k hk=>?_⟩⟩
 have h1:=World.ownsRow.cells h (g:=g) rfl k (.int .i64 (ns.getD k 0)) (by rw[List.getElem?_map,List.getD_eq_getElem?_getD,List.getElem?_eq_getElem hk];rfl)
 have e:(⟨g,0,none⟩:Addr).add k=⟨g,k,none⟩:=by
  unfold Addr.add
  by_cases h0:k=0
  ·subst h0;rfl
  simp[h0]
 rw[e]at h1;rw[Nat.zero_add];exact h1
theorem VQ (g m:Nat):(⟨g,0,none⟩:Addr).add m=⟨g,m,none⟩:=by
 unfold Addr.add
 by_cases h0:m=0
 ·subst h0;rfl
 simp[h0]
theorem VP:∀(L:List (zF × Value)) (k r:Nat),k<L.length->r<11->(L.flatMap tL)[k*11+r]? =(tL (wG L k))[r]?
 |[],k,r,h,_=>by simp at h
 |t::L,0,r,_,hr=>by
  rw[List.flatMap_cons,List.getElem?_append_left (by show 0*11+r<11;omega),Nat.zero_mul,Nat.zero_add];rfl
 |t::L,k+1,r,h,hr=>by
  rw[List.flatMap_cons,List.getElem?_append_right (by show 11<=(k+1)*11+r;omega)]
  have e:(k+1)*11+r-(tL t).length=k*11+r:=by show (k+1)*11+r-11=_;omega
  rw[e,VP L k r (by simp at h;omega) hr];rfl
theorem vY.at5 {base w a c L} (h:vY base w (.slice a L.length c) L):eU w a L:=by
 refine ⟨?_,fun p hp=>(h.nums p hp).at5⟩
 rcases h.row.2 with ⟨e,h0⟩|⟨g,cap,cur,e,-⟩
 ·exact Or.inl (List.eq_nil_of_length_eq_zero h0)
 cases e
 refine Or.inr ⟨g,0,rfl,fun k hk=>?_⟩
 have f:∀r u,r<11->(tL (wG L k))[r]? =some u->w.cell? ⟨g,0+k*11+r,none⟩=some u:=fun r u hr hu=>by
  have h1:=World.ownsRow.cells h.row (g:=g) rfl (k*11+r) u (by rw[VP L k r hk hr];exact hu);rw[VQ]at h1;rw[Nat.zero_add];exact h1
 exact ⟨f 0 _ (by decide) rfl,f 1 _ (by decide) rfl,f 2 _ (by decide) rfl,f 3 _ (by decide) rfl,f 4 _ (by decide) rfl,f 5 _ (by decide) rfl,f 6 _ (by decide) rfl,f 7 _ (by decide) rfl,f 8 _ (by decide) rfl,f 9 _ (by decide) rfl,f 10 _ (by decide) rfl⟩
def pC (L:List (zF × Value)):Bool:=L.all fun p=>xU p.1
theorem jK {L:List (zF × Value)} {k:Nat} (h:k<L.length):wG L k ∈ L:=by
 unfold wG;rw[List.getD_eq_getElem?_getD,List.getElem?_eq_getElem h];exact List.getElem_mem h
theorem VO {L:List (zF × Value)} {k:Nat} (h:k<L.length) (hr:xU (wG L k).1=false):pC L=false:=by
 unfold pC;rw[List.all_eq_false];exact ⟨_,jK h,by rw[hr];decide⟩
theorem RW {L:List (zF × Value)} (h:∀k,k<L.length->xU (wG L k).1=true):pC L=true:=by
 unfold pC;rw[List.all_eq_true];intro p hp;obtain ⟨k,hk,rfl⟩:=List.mem_iff_getElem.1 hp;have:=h k hk;unfold wG at this;rw[List.getD_eq_getElem?_getD,List.getElem?_eq_getElem hk]at this;exact this
theorem VN (nm:List UInt8) (a:Option Addr) (n c:Nat) (L:List (zF × Value)) (w:World) (hn:L.length=n) (h:eU w a L) (hl:n<=2000000):
 Calls Tryz.prog 67 #[.agg #[.string (zW nm),.slice a n c]] w fun e w'=>e=.returned (.bool (pC L&&yO nm))/\Below w.heap.size w w':=by
 have hb0:=(Below.refl w.heap.size w).alloc (Nat.le_refl _) (.cells #[.string (zW nm),.slice a n c] 52);have HB0:=zY hb0;have HK0:=zY (yN 52 w #[.string (zW nm),.slice a n c]);have HR0:=zY (h.below hb0)
 have HN:Hid (∀ W,Calls Tryz.prog 111 #[.string (zW nm)] W fun e w'=>e=.returned (.bool (yO nm))/\Below W.heap.size W w'):=fun W=>uG nm W
 have hI:(n:Int)<=2000000:=by omega
 clear h hb0
 go_enter Tryz.func67,Tryz.ntmps67
 go_wp2
 go_loopg [8] n (fun gk v wr=>∃(k:Nat),k<=n/\gk=n-k/\v=.int .i64 (k:Int)/\Below w.heap.size w wr/\xZ 52 w.heap.size wr #[.string (zW nm),.slice a n c]/\eU wr a L/\∀j,j<k->xU (wG L j).1=true)
 case atStart=>exact ⟨0,Nat.zero_le _,rfl,rfl,HB0.out,HK0.out,HR0.out,fun j hj=>by omega⟩
 case round=>
  clear HB0 HK0 HR0;obtain ⟨k,hk,rfl,rfl,hbe,hbk,hit,hall⟩:=hrel;have HBE:=zY hbe;have HBK:=zY hbk;have HIT:=zY hit;have HALL:=zY hall;clear hbe hbk hit hall
  by_cases hlt:k<n
  ·have hki:(k:Int)<(n:Int):=by omega
   rcases HIT.out.lie with e|⟨g,off,rfl,hc⟩
   ·rw [e]at hn;simp at hn;omega
   obtain ⟨c0,c1,c2,c3,c4,c5,c6,c7,c8,c9,c10⟩:=hc k (by omega);obtain ⟨a1,k1,e2,-⟩:=HIT.out.nums _ (jK (L:=L) (k:=k) (by omega));rw[e2]at c3
   have HRI:Hid (∀ W,Calls Tryz.prog 110 #[.agg (zJ (wG L k).1.kind (wG L k).1.name (wG L k).1.tag (.slice a1 (wG L k).1.nums.length k1) (wG L k).1.frm (wG L k).1.tO (wG L k).1.place)] W fun e w'=>e=.returned (.bool (xU (wG L k).1))/\Below W.heap.size W w'):=fun W=>aU _ a1 k1 W
   unfold zJ at HRI
   cases hr:xU (wG L k).1 with
   |false=>
    have HF:=zY (VO (L:=L) (k:=k) (by omega) hr);rw[hr]at HRI;clear hr hc e2;generalize (wG L k).1=x at *
    go_wp2_with (go_at_call 110;(with_reducible refine (HRI.out _).mono ?_);rintro e w5 ⟨rfl,hb⟩;have B5:=zY hb;clear hb)
    go_ret
    have b1:=HBE.out.alloc HBE.out.size (.cells #[.int .u8 x.kind,.string (zW x.name),.string (zW x.tag),.slice a1 x.nums.length k1,.string (zW x.frm.name),.int .i64 x.frm.port,.int .i64 x.frm.place,.string (zW x.tO.name),.int .i64 x.tO.port,.int .i64 x.tO.place,.int .i64 x.place] 103);exact ⟨by rw[HF.out];rfl,b1.trans (B5.out.mono b1.size)⟩
   |true=>
    have HT:Hid (∀ j,j<k+1->xU (wG L j).1=true):=fun j hj=>by
     by_cases e:j<k
     ·exact HALL.out j e
     have:j=k:=by omega
     subst this;exact hr
    rw[hr]at HRI;clear hr hc e2;generalize (wG L k).1=x at *
    go_wp2_with (go_at_call 110;(with_reducible refine (HRI.out _).mono ?_);rintro e w5 ⟨rfl,hb⟩;have B5:=zY (((Below.refl wr.heap.size wr).alloc (Nat.le_refl _) _).trans (hb.mono ((Below.refl wr.heap.size wr).alloc (Nat.le_refl _) _).size));clear hb)
    go_roundg (n-(k+1))
    case measure=>omega
    case rel=>exact ⟨k+1,by omega,rfl,by go_num,HBE.out.trans (B5.out.mono HBE.out.size),HBK.out.below B5.out,HIT.out.below B5.out,HT.out⟩
  have ek:k=n:=by omega
  subst ek
  have hki:¬((k:Int)<(k:Int)):=by omega
  have HT:=zY (RW (L:=L) (fun j hj=>HALL.out j (by omega)));have d0:wr.cell? ⟨w.heap.size,0,none⟩=some (.string (zW nm)):=HBK.out.cell (k:=0) rfl
  go_wp2_with (go_at_call 111;(with_reducible refine (HN.out _).mono ?_);rintro e w5 ⟨rfl,hb⟩;have B5:=zY hb;clear hb)
  go_ret
  exact ⟨by rw[HT.out,Bool.true_and];rfl,HBE.out.trans (B5.out.mono HBE.out.size)⟩
end Go.Proofs.YtdcjdnkdeamigaaGreatDoor
