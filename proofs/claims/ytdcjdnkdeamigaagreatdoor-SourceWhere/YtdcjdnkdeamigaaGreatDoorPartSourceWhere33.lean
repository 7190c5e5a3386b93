/- Texts of one chain. -/
import Derived.Test.YtdcjdnkdeamigaaGreatDoorPartQ
import Derived.Test.YtdcjdnkdeamigaaGreatDoorPartSourceWhere32
import Derived.Maps.OwnSet
set_option maxRecDepth 100000
set_option maxHeartbeats 16000000
namespace Go.Proofs.YtdcjdnkdeamigaaGreatDoor
open Go.ChangeShapes Go.WideShapes Go.ChangeAt Go.RowKit
def oH (w:World) (m:Nat) (ns:List (List UInt8)):Prop:=
 ∃(n:Nat) (D:DataW Unit),w.ownsMap Tryz.prog 9 (plainElem Tryz.prog 3) m n D/\n<=ns.length/\Maps.IsMap D/\∀l:List UInt8,Maps.has D (.string l)=decide (l ∈ ns)/\(l ∈ ns->D.atKey (.string l) (.lit (.int .i64 0))=.lit (.int .i64 (vG ns l)))
theorem MD (w:World):oH (w.alloc (.map #[] 0)) w.heap.size []:=⟨0,.map [],World.ownsMap_made _ _ _ _,Nat.le_refl _,⟨_,rfl⟩,fun l=>⟨by simp[Maps.has],fun h=>absurd h (by simp)⟩⟩
theorem oH.lt {w:World} {m:Nat} {ns:List (List UInt8)} (h:oH w m ns):m<w.heap.size:=by
 obtain ⟨n,D,h1,-⟩:=h;exact h1.lt
theorem oH.keep {w w':World} {m:Nat} {ns:List (List UInt8)} (h:oH w m ns) (hb:w'.heap[m]? =w.heap[m]?):oH w' m ns:=by
 obtain ⟨n,D,⟨es,clock,h1,h2⟩,h3⟩:=h;exact ⟨n,D,⟨es,clock,hb.trans h1,h2⟩,h3⟩
theorem oH.below {w w':World} {m:Nat} {ns:List (List UInt8)} (h:oH w m ns) (hb:Below w.heap.size w w'):oH w' m ns:=h.keep (hb.block m h.lt)
theorem MC {D:DataW Unit} {ns:List (List UInt8)} (hD:Maps.IsMap D) (h:∀l:List UInt8,Maps.has D (.string l)=decide (l ∈ ns)/\(l ∈ ns->D.atKey (.string l) (.lit (.int .i64 0))=.lit (.int .i64 (vG ns l)))) (s l:List UInt8):
 Maps.has (D.put (.string s) (.lit (.int .i64 (ns.length:Int)))) (.string l)=decide (l ∈ ns++[s])/\(l ∈ ns++[s]->(D.put (.string s) (.lit (.int .i64 (ns.length:Int)))).atKey (.string l) (.lit (.int .i64 0))=.lit (.int .i64 (vG (ns++[s]) l))):=by
 by_cases e:l=s
 ·subst e
  rw[Maps.has_put_same hD (by trivial),Maps.atKey_put_same hD (by trivial),UE,if_pos rfl];exact ⟨by simp,fun _=>rfl⟩
 rw[Maps.has_put_other (by simpa using e),Maps.atKey_put_other (by simpa using e),UE,if_neg (Ne.symm e),(h l).1];exact ⟨by simp[e],fun q=>(h l).2 (by simpa [e] using q)⟩
theorem WZ (w:World) (m:Nat) (ns:List (List UInt8)) (l:List UInt8) (h:oH w m ns) (hl:l.length<=140737488355328):
 Calls Tryz.prog 91 #[.map (some m),.string (zW l)] w fun e w'=>e=.returned (.int .i64 (vG ns l))/\Below w.heap.size w w':=by
 obtain ⟨n,D,h1,-,-,h4⟩:=h;have hk9:=WideMaps.keyOf_string_mk (P:=Tryz.prog) (k:=9) (s:=zW l) Tryz.underlying9 (by rw[zB];unfold maxLen;omega)
 have e9:(zW l).data.toList=l:=by simp[zW]
 rw[e9]at hk9;have HK9:=zZ hk9;have HO:=zZ h1;have HH:=zZ (h4 l);clear h1 h4 hk9 e9
 by_cases hm:l ∈ ns
 ·have e1:Maps.has D (.string l)=true:=by rw[HH.out.1];exact decide_eq_true hm
  have e2:=HH.out.2 hm;have E2:=zZ e2;clear HH hm e2
  go_enter Tryz.func91,Tryz.ntmps91
  go_wp2_with (at_lookup;refine wpList_lookup_own_ok_int _ rfl _ _ 136 rfl 9 3 .i64 fR Tryz.underlying136 Tryz.underlying3 (JY _) m n D rfl HO.out _ (.string l) rfl HK9.out ?_;intro c hat _;have hc:c=vG ns l:=(by have q:=hat.symm.trans E2.out;exact (Lit.int.inj (DataW.lit.inj q)).2);subst hc;clear hat)
  go_ret
  exact ⟨rfl,Below.refl _ _⟩
 have e1:Maps.has D (.string l)=false:=by rw[HH.out.1];exact decide_eq_false hm
 rw[ME hm];clear HH hm
 go_enter Tryz.func91,Tryz.ntmps91
 go_wp2_with (at_lookup;refine wpList_lookup_own_ok_int _ rfl _ _ 136 rfl 9 3 .i64 fR Tryz.underlying136 Tryz.underlying3 (JY _) m n D rfl HO.out _ (.string l) rfl HK9.out ?_;intro c hat _;clear hat)
 go_ret
 exact ⟨rfl,Below.refl _ _⟩
theorem YN {L:List (wJ × Value)} {k:Nat} (h:k<L.length):(L.map Prod.fst).take (k+1)=(L.map Prod.fst).take k++[(sD L k).1]:=by
 rw[<- List.map_take,<-List.map_take];exact MJ h
theorem JC (L:List wJ) (x:wJ):lV (L++[x])=if x.kind=1 then lV L++[x.name] else lV L:=by
 unfold lV;rw[yR]
 by_cases h:x.kind=1
 ·rw [if_pos h,if_pos h,List.map_append];rfl
 rw[if_neg h,if_neg h]
theorem UC (a:Option Addr) (n c:Nat) (L:List (wJ × Value)) (w:World) (hn:L.length=n) (h:YQ w a L) (hl:n<=4000000) (hs:∀p ∈ L,p.1.name.length<=140737488355328):
 Calls Tryz.prog 89 #[.slice a n c] w fun e w'=>∃m,e=.returned (.map (some m))/\oH w' m (lV (L.map Prod.fst))/\w.heap.size<=m/\Below w.heap.size w w':=by
 have HR:=zZ h;have HL:=zZ hn;have HS:=zZ hs
 have hnI:(n:Int)<=4000000:=by omega
 have hmm:=@run_makeMap Tryz.prog;have K0:=zZ (MD w);have B0:=zZ ((Below.refl w.heap.size w).alloc (Nat.le_refl _) (.map #[] 0));clear h hn hs
 go_enter Tryz.func89,Tryz.ntmps89
 go_wp2
 go_loopg [4,10] n (fun gk nv v wr=>∃k:Nat,k<=n/\gk=n-k/\v=.int .i64 (k:Int)/\nv=.int .i64 ((lV ((L.map Prod.fst).take k)).length:Int)/\oH wr w.heap.size (lV ((L.map Prod.fst).take k))/\Below w.heap.size w wr)
 case atStart=>exact ⟨0,Nat.zero_le _,rfl,rfl,rfl,K0.out,B0.out⟩
 case round=>
  clear K0 B0;obtain ⟨k,hk,rfl,rfl,rfl,hK,hB⟩:=hrel;have HK:=zZ hK;have HB:=zZ hB
  have hlen:(lV ((L.map Prod.fst).take k)).length<=n:=by
   unfold lV;rw[List.length_map];have h1:=pI 1 ((L.map Prod.fst).take k);rw[List.length_take]at h1;omega
  have hlenI:((lV ((L.map Prod.fst).take k)).length:Int)<=4000000:=by omega
  clear hK hB
  by_cases hlt:k<n
  ·have hki:(k:Int)<(n:Int):=by omega
   have hr:=HR.out.below HB.out
   rcases hr.lie with e|⟨g,off,rfl,hc⟩
   ·have:=HL.out;rw[e]at this;simp at this;omega
   obtain ⟨c0,c1,c2,c3,c4,c5,c6,c7,c8,c9,c10⟩:=hc k (by have:=HL.out;omega);have hmem:=gW (L:=L) (k:=k) (by have:=HL.out;omega);obtain ⟨qa,qn,qc,hq⟩:=(hr.nums _ hmem).slc;rw[hq]at c3;have hnm:=HS.out _ hmem
   have HT:Hid (lV ((L.map Prod.fst).take (k+1))=if (sD L k).1.kind=1 then lV ((L.map Prod.fst).take k)++[(sD L k).1.name] else lV ((L.map Prod.fst).take k)):=by
    show _=_;rw[YN (by have:=HL.out;omega),JC]
   generalize (sD L k).1=x at *;obtain ⟨ki,xn,xt,ns,⟨fn,fp,fa⟩,⟨tn,tp,ta⟩,pl⟩:=x;simp only at c0 c1 c2 c3 c4 c5 c6 c7 c8 c9 c10 hnm HT;have bv:=(Below.refl wr.heap.size wr).alloc (Nat.le_refl _) (.cells #[.int .u8 ki,.string (zW xn),.string (zW xt),.slice qa qn qc,.string (zW fn),.int .i64 fp,.int .i64 fa,.string (zW tn),.int .i64 tp,.int .i64 ta,.int .i64 pl] 103);have BV:=zZ (HB.out.trans (bv.mono HB.out.size));have KV:=zZ (HK.out.below bv);generalize lV ((L.map Prod.fst).take k)=P at *;clear hc hr hq bv hmem
   by_cases h1:ki=1
   ·subst h1
    rw[if_pos rfl]at HT;obtain ⟨kn,D,k1,k2,k3,k4⟩:=KV.out;have KO:=zZ k1;have hk9:=WideMaps.keyOf_string_mk (P:=Tryz.prog) (k:=9) (s:=zW xn) Tryz.underlying9 (by rw[zB];unfold maxLen;omega)
    have e9:(zW xn).data.toList=xn:=by simp[zW]
    rw[e9]at hk9;have HK9:=zZ hk9
    have hw1:(Lit.int .i64 (P.length:Int)).wf=true:=by
     show (decide ((-9223372036854775808:Int)<=(P.length:Int))&&decide ((P.length:Int)<=9223372036854775807))=true;rw[decide_eq_true (by omega),decide_eq_true (by omega)];rfl
    have HPE:=zZ (plainElem_int (H:=Unit) (P:=Tryz.prog) (e:=3) Tryz.underlying3 hw1)
    have HKP:Hid (∀ w2,w2.ownsMap Tryz.prog 9 (plainElem Tryz.prog 3) w.heap.size (kn+1) (D.put (.string xn) (.lit (.int .i64 (P.length:Int))))->oH w2 w.heap.size (P++[xn])):=fun w2 q=>⟨kn+1,_,q,by simp;omega,k3.put _ _,fun l=>MC k3 k4 xn l⟩
    have hn9:kn<maxLen:=by unfold maxLen;omega
    clear k1 k2 k3 k4 hk9 e9 hw1
    go_wp2_with (at_mapUpdate;refine wpList_mapUpdate_own _ rfl _ _ _ 136 rfl 9 3 fR Tryz.underlying136 _ w.heap.size kn D rfl KO.out hn9 _ _ (.string xn) rfl rfl HK9.out _ [] HPE.out ?_;intro w2 hown2 hgrow2;have K2:=zZ (HKP.out w2 hown2);have B2:=zZ (iL BV.out hgrow2 (Nat.le_refl _) BV.out.size);clear hown2 hgrow2)
    go_roundg (n-(k+1))
    case measure=>omega
    case rel=>exact ⟨k+1,by omega,rfl,by go_num,by rw[HT.out,List.length_append];go_num,by rw[HT.out];exact K2.out,B2.out⟩
   rw[if_neg h1]at HT
   have e1:(ki==1)=false:=by simpa using h1
   go_wp2
   go_roundg (n-(k+1))
   case measure=>omega
   case rel=>exact ⟨k+1,by omega,rfl,by go_num,by rw[HT.out],by rw[HT.out];exact KV.out,BV.out⟩
  have hki:¬(k:Int)<(n:Int):=by omega
  go_wp2
  go_ret
  refine ⟨w.heap.size,rfl,?_,Nat.le_refl _,HB.out⟩
  have:=HK.out;rw[List.take_of_length_le (by rw[List.length_map,HL.out];omega)]at this;exact this
def aP (p:GA × Value):List Value:=[.string (zW p.1.name),.int .u8 (p.1.tag:Int),p.2]
def eP (p:GE × Value):List Value:=[.int .i64 p.1.f,.int .i64 p.1.fp,.int .i64 p.1.t,.int .i64 p.1.tp,p.2]
def pP (p:GP):List Value:=[.string (zW p.name),.int .i64 p.actor,.int .i64 p.port]
theorem Tryz.infoA:(Tryz.prog.info? 62).map (fun i=>(i.zero,i.size,i.bytes))=some (some (.agg #[qE,.int .u8 0,qN]),3,48):=by kernel_rfl
theorem Tryz.infoE:(Tryz.prog.info? 65).map (fun i=>(i.zero,i.size,i.bytes))=some (some (.agg #[.int .i64 0,.int .i64 0,.int .i64 0,.int .i64 0,qN]),5,56):=by kernel_rfl
theorem Tryz.infoP:(Tryz.prog.info? 81).map (fun i=>(i.zero,i.size,i.bytes))=some (some (.agg #[qE,.int .i64 0,.int .i64 0]),3,32):=by kernel_rfl
theorem PH {α :Type} (f: α ->List Value) (c:Nat) (hc:∀x,(f x).length=c):∀(L:List α) (k r:Nat) (h:k<L.length),r<c->(L.flatMap f)[k*c+r]? =(f L[k])[r]?
 |[],k,r,h,_=>by simp at h
 |t::L,0,r,_,hr=>by
  rw[List.flatMap_cons,List.getElem?_append_left (by rw[hc];omega),Nat.zero_mul,Nat.zero_add];rfl
 |t::L,k+1,r,h,hr=>by
  have e0:(k+1)*c=k*c+c:=Nat.succ_mul k c;rw[List.flatMap_cons,List.getElem?_append_right (by rw[hc];omega)]
  have e:(k+1)*c+r-(f t).length=k*c+r:=by rw[hc];omega
  rw[e,PH f c hc L k r (by simp at h;omega) hr];rfl
theorem wQ {α :Type} {f: α ->List Value} {c:Nat} (hc:∀x,(f x).length=c) {B:Nat} {w:World} {T:TypeId} {g n cp:Nat} {L:List α} (h:w.ownsRow B T c (.slice (some ⟨g,0,none⟩) n cp) L.length (L.flatMap f)) {k r:Nat} (hk:k<L.length) (hr:r<c) {u:Value} (hu:(f L[k])[r]? =some u):w.cell? ⟨g,k*c+r,none⟩=some u:=by
 have h1:=World.ownsRow.cells h (g:=g) rfl (k*c+r) u (by rw[PH f c hc L k r hk hr];exact hu);rw[sQ]at h1;exact h1
def NB (a b:Value):Prop:=∀k,a.ownBlock=some k->b.ownBlock≠some k
theorem NB.symm {a b:Value} (h:NB a b):NB b a:=fun k h1 h2=>h k h2 h1
theorem NB.nilL (b:Value):NB (qN) b:=fun k h=>by cases h
theorem xD {w:World} {B T c n:Nat} {v:Value} {xs:List Value} (h:w.ownsRow B T c v n xs):∃a cp,v=.slice a n cp:=by
 rcases h.2 with ⟨rfl,h0⟩|⟨g,cap,cur,rfl,-⟩
 ·exact ⟨none,0,by rw[h0]⟩
 exact ⟨_,_,rfl⟩
theorem kY {w:World} {B T c n:Nat} {a:Option Addr} {m cp:Nat} {xs:List Value} (h:w.ownsRow B T c (.slice a m cp) n xs) (hn:0<n):∃g,a=some ⟨g,0,none⟩/\B<=g/\g<w.heap.size:=by
 rcases h.2 with ⟨e,h0⟩|⟨g,cap,cur,e,hg,hh,-⟩
 ·omega
 cases e
 exact ⟨g,rfl,hg,(Array.getElem?_eq_some_iff.1 hh).1⟩
theorem NB.told {v v' u:Value} {n:Nat} {w2 w4:World} (h:NB v u) (hu:∀k,u.ownBlock=some k->k<w2.heap.size) (ht:(∃ g cap,v=.slice (some ⟨g,0,none⟩) n cap/\v'=.slice (some ⟨g,0,none⟩) (n+1) cap/\w2.grownBy w4 (some g))\/(∃ cap,v'=.slice (some ⟨w2.heap.size,0,none⟩) (n+1) cap/\w2.grownBy w4 none)):NB v' u:=by
 intro k hk hk2
 rcases ht with ⟨g,cap,rfl,rfl,-⟩|⟨cap,rfl,-⟩
 ·cases hk
  exact h g rfl hk2
 cases hk
 exact absurd (hu _ hk2) (Nat.lt_irrefl _)
theorem vW {v v':Value} {n:Nat} {w2 w4:World} (ht:(∃ g cap,v=.slice (some ⟨g,0,none⟩) n cap/\v'=.slice (some ⟨g,0,none⟩) (n+1) cap/\w2.grownBy w4 (some g))\/(∃ cap,v'=.slice (some ⟨w2.heap.size,0,none⟩) (n+1) cap/\w2.grownBy w4 none)):w2.heap.size<=w4.heap.size/\∀k,k<w2.heap.size->v.ownBlock≠some k->w4.heap[k]? =w2.heap[k]? :=by
 rcases ht with ⟨g,cap,rfl,rfl,hg⟩|⟨cap,rfl,hg⟩
 ·exact ⟨hg.size,fun k hk hn=>hg.block k hk (fun e=>hn e.symm)⟩
 exact ⟨hg.size,fun k hk _=>hg.block k hk (fun e=>by cases e)⟩
theorem wV {v v':Value} {n:Nat} {w2 w4:World} (ht:(∃ g cap,v=.slice (some ⟨g,0,none⟩) n cap/\v'=.slice (some ⟨g,0,none⟩) (n+1) cap/\w2.grownBy w4 (some g))\/(∃ cap,v'=.slice (some ⟨w2.heap.size,0,none⟩) (n+1) cap/\w2.grownBy w4 none)):∃row,w2.grownBy w4 row/\∀k,row=some k->v.ownBlock=some k:=by
 rcases ht with ⟨g,cap,rfl,rfl,hg⟩|⟨cap,rfl,hg⟩
 ·exact ⟨_,hg,fun k e=>e⟩
 exact ⟨_,hg,fun k e=>by cases e⟩
theorem jD (x:GA × Value):(aP x).length=3:=rfl
theorem mL (x:GE × Value):(eP x).length=5:=rfl
theorem bJ (x:GP):(pP x).length=3:=rfl
theorem gV {As:List GA} {k:Nat} (h:k<As.length):yI As k=As[k]:=by
 unfold yI;rw[List.getD_eq_getElem?_getD,List.getElem?_eq_getElem h];rfl
theorem gU {As:List GE} {k:Nat} (h:k<As.length):wK As k=As[k]:=by
 unfold wK;rw[List.getD_eq_getElem?_getD,List.getElem?_eq_getElem h];rfl
theorem UB {As:List GP} {k:Nat} (h:k<As.length):wN As k=As[k]:=by
 unfold wN;rw[List.getD_eq_getElem?_getD,List.getElem?_eq_getElem h];rfl
theorem WY {B:Nat} {w:World} {a:Option Addr} {n cp:Nat} {As:List (GA × Value)} (h:w.ownsRow B 62 3 (.slice a n cp) As.length (As.flatMap aP)) (hp:∀p ∈ As,p.1.tag<=255/\∃x c,p.2=.slice x p.1.params.length c/\YF w x p.1.params.length c p.1.params):IB w a (As.map Prod.fst):=by
 by_cases h0:As.length=0
 ·exact .inl (by rw[List.eq_nil_of_length_eq_zero h0];rfl)
 obtain ⟨g,rfl,-⟩:=kY h (by omega);refine .inr ⟨g,0,rfl,fun k hk=>?_⟩
 rw[List.length_map]at hk
 have e:yI (As.map Prod.fst) k=As[k].1:=by rw[gV (by rw[List.length_map];exact hk),List.getElem_map]
 obtain ⟨h1,x,c,h2,h3⟩:=hp As[k] (List.getElem_mem hk);rw[e,Nat.zero_add];refine ⟨wQ jD h hk (r:=0) (by decide) rfl,wQ jD h hk (r:=1) (by decide) rfl,h1,x,c,wQ jD h hk (r:=2) (by decide) ?_,h3⟩
 rw[<- h2];rfl
theorem WX {B:Nat} {w:World} {a:Option Addr} {n cp:Nat} {As:List (GE × Value)} (h:w.ownsRow B 65 5 (.slice a n cp) As.length (As.flatMap eP)) (hp:∀p ∈ As,∃x c,p.2=.slice x p.1.start.length c/\YF w x p.1.start.length c p.1.start):RG w a (As.map Prod.fst):=by
 by_cases h0:As.length=0
 ·exact .inl (by rw[List.eq_nil_of_length_eq_zero h0];rfl)
 obtain ⟨g,rfl,-⟩:=kY h (by omega);refine .inr ⟨g,0,rfl,fun k hk=>?_⟩
 rw[List.length_map]at hk
 have e:wK (As.map Prod.fst) k=As[k].1:=by rw[gU (by rw[List.length_map];exact hk),List.getElem_map]
 obtain ⟨x,c,h2,h3⟩:=hp As[k] (List.getElem_mem hk);rw[e,Nat.zero_add];refine ⟨wQ mL h hk (r:=0) (by decide) rfl,wQ mL h hk (r:=1) (by decide) rfl,wQ mL h hk (r:=2) (by decide) rfl,wQ mL h hk (r:=3) (by decide) rfl,x,c,wQ mL h hk (r:=4) (by decide) ?_,h3⟩
 rw[<- h2];rfl
theorem gT {B:Nat} {w:World} {a:Option Addr} {n cp:Nat} {As:List GP} (h:w.ownsRow B 81 3 (.slice a n cp) As.length (As.flatMap pP)):nN w a As:=by
 by_cases h0:As.length=0
 ·exact .inl (List.eq_nil_of_length_eq_zero h0)
 obtain ⟨g,rfl,-⟩:=kY h (by omega);refine .inr ⟨g,0,rfl,fun k hk=>?_⟩
 rw[UB hk,Nat.zero_add];exact ⟨wQ bJ h hk (r:=0) (by decide) rfl,wQ bJ h hk (r:=1) (by decide) rfl,wQ bJ h hk (r:=2) (by decide) rfl⟩
structure TZ (w : World) (m B : Nat) (sk : Array Value) (nm : List UInt8) (ns : List (List UInt8)) (v1 v2 v3 v4 : Value) (As : List (GA × Value)) (Es : List (GE × Value)) (Ps Os : List GP) (wr : World) : Prop where
 sb:zD 52 w.heap.size wr sk
 rb:zD 26 (w.heap.size+1) wr #[qE,qN,qN,qN,qN]
 gb:zD 26 (w.heap.size+2) wr #[.string (zW nm),v1,v2,v3,v4]
 kn:oH wr m ns
 r1:wr.ownsRow B 62 3 v1 As.length (As.flatMap aP)
 r2:wr.ownsRow B 65 5 v2 Es.length (Es.flatMap eP)
 r3:wr.ownsRow B 81 3 v3 Ps.length (Ps.flatMap pP)
 r4:wr.ownsRow B 81 3 v4 Os.length (Os.flatMap pP)
 n12:NB v1 v2
 n13:NB v1 v3
 n14:NB v1 v4
 n23:NB v2 v3
 n24:NB v2 v4
 n34:NB v3 v4
 bel:Below w.heap.size w wr
 hm:w.heap.size+2<m
 hB:m<B
 big:B<=wr.heap.size
theorem TZ.below {w m B sk nm ns v1 v2 v3 v4 As Es Ps Os} {wr w2:World} (h:TZ w m B sk nm ns v1 v2 v3 v4 As Es Ps Os wr) (hb:Below wr.heap.size wr w2):TZ w m B sk nm ns v1 v2 v3 v4 As Es Ps Os w2:=
 ⟨h.sb.below hb,h.rb.below hb,h.gb.below hb,h.kn.below hb,yY h.r1 hb,yY h.r2 hb,yY h.r3 hb,yY h.r4 hb,h.n12,h.n13,h.n14,h.n23,h.n24,h.n34,h.bel.trans (hb.mono h.bel.size),h.hm,h.hB,Nat.le_trans h.big hb.size⟩
theorem fN (W:World) (T:TypeId) (cs:List Value):∀j u,cs[j]? =some u->(W.alloc (.cells cs.toArray T)).cell? ((⟨W.heap.size,0,none⟩:Addr).add j)=some u:=by
 intro j u hu;rw[sQ];exact (zL T W cs.toArray).cell (by rw[List.getElem?_toArray];exact hu)
theorem tG {α :Type} (f: α ->List Value) (L:List α) (x: α):(L++[x]).flatMap f=L.flatMap f++f x:=by simp[List.flatMap]
theorem TZ.put1 {w m B sk nm ns v1 v2 v3 v4 As Es Ps Os} {V:World} (h:TZ w m B sk nm ns v1 v2 v3 v4 As Es Ps Os V) {w2 w4:World} {p:(GA × Value)} {v':Value} (hb:Below V.heap.size V w2)
 (ho:w4.ownsRow B 62 3 v' (As.length+1) (As.flatMap aP++aP p))
 (ht:(∃ g cap,v1=.slice (some ⟨g,0,none⟩) As.length cap/\v'=.slice (some ⟨g,0,none⟩) (As.length+1) cap/\w2.grownBy w4 (some g))\/(∃ cap,v'=.slice (some ⟨w2.heap.size,0,none⟩) (As.length+1) cap/\w2.grownBy w4 none)):
 TZ w m B sk nm ns v' v2 v3 v4 (As++[p]) Es Ps Os (w4.setCell ⟨w.heap.size+2,1,none⟩ v')/\zD 26 (w.heap.size+2) w4 #[.string (zW nm),v1,v2,v3,v4]:=by
 have hbig:=h.big;have hm:=h.hm;have hB:=h.hB;have hsz:=hb.size;have tk:=vW ht
 have kp:∀d,d<V.heap.size->v1.ownBlock≠some d->w4.heap[d]? =V.heap[d]? :=fun d hd hn=>(tk.2 d (by omega) hn).trans (hb.block d hd)
 have lowr:∀d,d<B->v1.ownBlock≠some d:=fun d hd e=>by have:=zQ h.r1 d e;omega
 have b3:=h.gb.keep (kp (w.heap.size+2) (by omega) (lowr _ (by omega)))
 have set:∀k,k≠w.heap.size+2->(w4.setCell ⟨w.heap.size+2,1,none⟩ v').heap[k]? =w4.heap[k]? :=fun k hk=>Below.heap_setCell w4 ⟨w.heap.size+2,1,none⟩ v' k hk
 have rI:(w4.setCell ⟨w.heap.size+2,1,none⟩ v').ownsRow B 62 3 v' (As++[p]).length ((As++[p]).flatMap aP):=by
  rw[tG,List.length_append]
  exact zT ho fun k e=>set k (by have:=zQ ho k e;omega)
 obtain ⟨row,hg,hrow⟩:=wV ht;refine ⟨⟨h.sb.keep ((set _ (by omega)).trans (kp _ (by omega) (lowr _ (by omega)))),h.rb.keep ((set _ (by omega)).trans (kp _ (by omega) (lowr _ (by omega)))),b3.set 1 v',h.kn.keep ((set _ (by omega)).trans (kp _ (by omega) (lowr _ (by omega)))),rI,(zT h.r2 fun k e=>(set k (by have:=zQ h.r2 k e;omega)).trans (kp k (zI h.r2 k e) (fun q=>h.n12 k q e))),(zT h.r3 fun k e=>(set k (by have:=zQ h.r3 k e;omega)).trans (kp k (zI h.r3 k e) (fun q=>h.n13 k q e))),(zT h.r4 fun k e=>(set k (by have:=zQ h.r4 k e;omega)).trans (kp k (zI h.r4 k e) (fun q=>h.n14 k q e))),(NB.told (h.n12) (fun k e=>Nat.lt_of_lt_of_le (zI h.r2 k e) hsz) ht),(NB.told (h.n13) (fun k e=>Nat.lt_of_lt_of_le (zI h.r3 k e) hsz) ht),(NB.told (h.n14) (fun k e=>Nat.lt_of_lt_of_le (zI h.r4 k e) hsz) ht),h.n23,h.n24,h.n34,?_,h.hm,h.hB,?_⟩,b3⟩
 ·have h1:Below w.heap.size w w2:=h.bel.trans (hb.mono h.bel.size)
  exact (yT h1 hg (fun k hk=>by have:=zQ h.r1 k (hrow k hk);omega) h1.size).setCell (p:=⟨w.heap.size+2,1,none⟩) (by show w.heap.size<=w.heap.size+2;omega) _
 have:=tk.1;rw[World.size_setCell];omega
theorem TZ.put2 {w m B sk nm ns v1 v2 v3 v4 As Es Ps Os} {V:World} (h:TZ w m B sk nm ns v1 v2 v3 v4 As Es Ps Os V) {w2 w4:World} {p:(GE × Value)} {v':Value} (hb:Below V.heap.size V w2)
 (ho:w4.ownsRow B 65 5 v' (Es.length+1) (Es.flatMap eP++eP p))
 (ht:(∃ g cap,v2=.slice (some ⟨g,0,none⟩) Es.length cap/\v'=.slice (some ⟨g,0,none⟩) (Es.length+1) cap/\w2.grownBy w4 (some g))\/(∃ cap,v'=.slice (some ⟨w2.heap.size,0,none⟩) (Es.length+1) cap/\w2.grownBy w4 none)):
 TZ w m B sk nm ns v1 v' v3 v4 As (Es++[p]) Ps Os (w4.setCell ⟨w.heap.size+2,2,none⟩ v')/\zD 26 (w.heap.size+2) w4 #[.string (zW nm),v1,v2,v3,v4]:=by
 have hbig:=h.big;have hm:=h.hm;have hB:=h.hB;have hsz:=hb.size;have tk:=vW ht
 have kp:∀d,d<V.heap.size->v2.ownBlock≠some d->w4.heap[d]? =V.heap[d]? :=fun d hd hn=>(tk.2 d (by omega) hn).trans (hb.block d hd)
 have lowr:∀d,d<B->v2.ownBlock≠some d:=fun d hd e=>by have:=zQ h.r2 d e;omega
 have b3:=h.gb.keep (kp (w.heap.size+2) (by omega) (lowr _ (by omega)))
 have set:∀k,k≠w.heap.size+2->(w4.setCell ⟨w.heap.size+2,2,none⟩ v').heap[k]? =w4.heap[k]? :=fun k hk=>Below.heap_setCell w4 ⟨w.heap.size+2,2,none⟩ v' k hk
 have rI:(w4.setCell ⟨w.heap.size+2,2,none⟩ v').ownsRow B 65 5 v' (Es++[p]).length ((Es++[p]).flatMap eP):=by
  rw[tG,List.length_append]
  exact zT ho fun k e=>set k (by have:=zQ ho k e;omega)
 obtain ⟨row,hg,hrow⟩:=wV ht;refine ⟨⟨h.sb.keep ((set _ (by omega)).trans (kp _ (by omega) (lowr _ (by omega)))),h.rb.keep ((set _ (by omega)).trans (kp _ (by omega) (lowr _ (by omega)))),b3.set 2 v',h.kn.keep ((set _ (by omega)).trans (kp _ (by omega) (lowr _ (by omega)))),(zT h.r1 fun k e=>(set k (by have:=zQ h.r1 k e;omega)).trans (kp k (zI h.r1 k e) (fun q=>h.n12.symm k q e))),rI,(zT h.r3 fun k e=>(set k (by have:=zQ h.r3 k e;omega)).trans (kp k (zI h.r3 k e) (fun q=>h.n23 k q e))),(zT h.r4 fun k e=>(set k (by have:=zQ h.r4 k e;omega)).trans (kp k (zI h.r4 k e) (fun q=>h.n24 k q e))),(NB.told (h.n12.symm) (fun k e=>Nat.lt_of_lt_of_le (zI h.r1 k e) hsz) ht).symm,h.n13,h.n14,(NB.told (h.n23) (fun k e=>Nat.lt_of_lt_of_le (zI h.r3 k e) hsz) ht),(NB.told (h.n24) (fun k e=>Nat.lt_of_lt_of_le (zI h.r4 k e) hsz) ht),h.n34,?_,h.hm,h.hB,?_⟩,b3⟩
 ·have h1:Below w.heap.size w w2:=h.bel.trans (hb.mono h.bel.size)
  exact (yT h1 hg (fun k hk=>by have:=zQ h.r2 k (hrow k hk);omega) h1.size).setCell (p:=⟨w.heap.size+2,2,none⟩) (by show w.heap.size<=w.heap.size+2;omega) _
 have:=tk.1;rw[World.size_setCell];omega
theorem TZ.put3 {w m B sk nm ns v1 v2 v3 v4 As Es Ps Os} {V:World} (h:TZ w m B sk nm ns v1 v2 v3 v4 As Es Ps Os V) {w2 w4:World} {p:GP} {v':Value} (hb:Below V.heap.size V w2)
 (ho:w4.ownsRow B 81 3 v' (Ps.length+1) (Ps.flatMap pP++pP p))
 (ht:(∃ g cap,v3=.slice (some ⟨g,0,none⟩) Ps.length cap/\v'=.slice (some ⟨g,0,none⟩) (Ps.length+1) cap/\w2.grownBy w4 (some g))\/(∃ cap,v'=.slice (some ⟨w2.heap.size,0,none⟩) (Ps.length+1) cap/\w2.grownBy w4 none)):
 TZ w m B sk nm ns v1 v2 v' v4 As Es (Ps++[p]) Os (w4.setCell ⟨w.heap.size+2,3,none⟩ v')/\zD 26 (w.heap.size+2) w4 #[.string (zW nm),v1,v2,v3,v4]:=by
 have hbig:=h.big;have hm:=h.hm;have hB:=h.hB;have hsz:=hb.size;have tk:=vW ht
 have kp:∀d,d<V.heap.size->v3.ownBlock≠some d->w4.heap[d]? =V.heap[d]? :=fun d hd hn=>(tk.2 d (by omega) hn).trans (hb.block d hd)
 have lowr:∀d,d<B->v3.ownBlock≠some d:=fun d hd e=>by have:=zQ h.r3 d e;omega
 have b3:=h.gb.keep (kp (w.heap.size+2) (by omega) (lowr _ (by omega)))
 have set:∀k,k≠w.heap.size+2->(w4.setCell ⟨w.heap.size+2,3,none⟩ v').heap[k]? =w4.heap[k]? :=fun k hk=>Below.heap_setCell w4 ⟨w.heap.size+2,3,none⟩ v' k hk
 have rI:(w4.setCell ⟨w.heap.size+2,3,none⟩ v').ownsRow B 81 3 v' (Ps++[p]).length ((Ps++[p]).flatMap pP):=by
  rw[tG,List.length_append]
  exact zT ho fun k e=>set k (by have:=zQ ho k e;omega)
 obtain ⟨row,hg,hrow⟩:=wV ht;refine ⟨⟨h.sb.keep ((set _ (by omega)).trans (kp _ (by omega) (lowr _ (by omega)))),h.rb.keep ((set _ (by omega)).trans (kp _ (by omega) (lowr _ (by omega)))),b3.set 3 v',h.kn.keep ((set _ (by omega)).trans (kp _ (by omega) (lowr _ (by omega)))),(zT h.r1 fun k e=>(set k (by have:=zQ h.r1 k e;omega)).trans (kp k (zI h.r1 k e) (fun q=>h.n13.symm k q e))),(zT h.r2 fun k e=>(set k (by have:=zQ h.r2 k e;omega)).trans (kp k (zI h.r2 k e) (fun q=>h.n23.symm k q e))),rI,(zT h.r4 fun k e=>(set k (by have:=zQ h.r4 k e;omega)).trans (kp k (zI h.r4 k e) (fun q=>h.n34 k q e))),h.n12,(NB.told (h.n13.symm) (fun k e=>Nat.lt_of_lt_of_le (zI h.r1 k e) hsz) ht).symm,h.n14,(NB.told (h.n23.symm) (fun k e=>Nat.lt_of_lt_of_le (zI h.r2 k e) hsz) ht).symm,h.n24,(NB.told (h.n34) (fun k e=>Nat.lt_of_lt_of_le (zI h.r4 k e) hsz) ht),?_,h.hm,h.hB,?_⟩,b3⟩
 ·have h1:Below w.heap.size w w2:=h.bel.trans (hb.mono h.bel.size)
  exact (yT h1 hg (fun k hk=>by have:=zQ h.r3 k (hrow k hk);omega) h1.size).setCell (p:=⟨w.heap.size+2,3,none⟩) (by show w.heap.size<=w.heap.size+2;omega) _
 have:=tk.1;rw[World.size_setCell];omega
theorem TZ.put4 {w m B sk nm ns v1 v2 v3 v4 As Es Ps Os} {V:World} (h:TZ w m B sk nm ns v1 v2 v3 v4 As Es Ps Os V) {w2 w4:World} {p:GP} {v':Value} (hb:Below V.heap.size V w2)
 (ho:w4.ownsRow B 81 3 v' (Os.length+1) (Os.flatMap pP++pP p))
 (ht:(∃ g cap,v4=.slice (some ⟨g,0,none⟩) Os.length cap/\v'=.slice (some ⟨g,0,none⟩) (Os.length+1) cap/\w2.grownBy w4 (some g))\/(∃ cap,v'=.slice (some ⟨w2.heap.size,0,none⟩) (Os.length+1) cap/\w2.grownBy w4 none)):
 TZ w m B sk nm ns v1 v2 v3 v' As Es Ps (Os++[p]) (w4.setCell ⟨w.heap.size+2,4,none⟩ v')/\zD 26 (w.heap.size+2) w4 #[.string (zW nm),v1,v2,v3,v4]:=by
 have hbig:=h.big;have hm:=h.hm;have hB:=h.hB;have hsz:=hb.size;have tk:=vW ht
 have kp:∀d,d<V.heap.size->v4.ownBlock≠some d->w4.heap[d]? =V.heap[d]? :=fun d hd hn=>(tk.2 d (by omega) hn).trans (hb.block d hd)
 have lowr:∀d,d<B->v4.ownBlock≠some d:=fun d hd e=>by have:=zQ h.r4 d e;omega
 have b3:=h.gb.keep (kp (w.heap.size+2) (by omega) (lowr _ (by omega)))
 have set:∀k,k≠w.heap.size+2->(w4.setCell ⟨w.heap.size+2,4,none⟩ v').heap[k]? =w4.heap[k]? :=fun k hk=>Below.heap_setCell w4 ⟨w.heap.size+2,4,none⟩ v' k hk
 have rI:(w4.setCell ⟨w.heap.size+2,4,none⟩ v').ownsRow B 81 3 v' (Os++[p]).length ((Os++[p]).flatMap pP):=by
  rw[tG,List.length_append]
  exact zT ho fun k e=>set k (by have:=zQ ho k e;omega)
 obtain ⟨row,hg,hrow⟩:=wV ht;refine ⟨⟨h.sb.keep ((set _ (by omega)).trans (kp _ (by omega) (lowr _ (by omega)))),h.rb.keep ((set _ (by omega)).trans (kp _ (by omega) (lowr _ (by omega)))),b3.set 4 v',h.kn.keep ((set _ (by omega)).trans (kp _ (by omega) (lowr _ (by omega)))),(zT h.r1 fun k e=>(set k (by have:=zQ h.r1 k e;omega)).trans (kp k (zI h.r1 k e) (fun q=>h.n14.symm k q e))),(zT h.r2 fun k e=>(set k (by have:=zQ h.r2 k e;omega)).trans (kp k (zI h.r2 k e) (fun q=>h.n24.symm k q e))),(zT h.r3 fun k e=>(set k (by have:=zQ h.r3 k e;omega)).trans (kp k (zI h.r3 k e) (fun q=>h.n34.symm k q e))),rI,h.n12,h.n13,(NB.told (h.n14.symm) (fun k e=>Nat.lt_of_lt_of_le (zI h.r1 k e) hsz) ht).symm,h.n23,(NB.told (h.n24.symm) (fun k e=>Nat.lt_of_lt_of_le (zI h.r2 k e) hsz) ht).symm,(NB.told (h.n34.symm) (fun k e=>Nat.lt_of_lt_of_le (zI h.r3 k e) hsz) ht).symm,?_,h.hm,h.hB,?_⟩,b3⟩
 ·have h1:Below w.heap.size w w2:=h.bel.trans (hb.mono h.bel.size)
  exact (yT h1 hg (fun k hk=>by have:=zQ h.r4 k (hrow k hk);omega) h1.size).setCell (p:=⟨w.heap.size+2,4,none⟩) (by show w.heap.size<=w.heap.size+2;omega) _
 have:=tk.1;rw[World.size_setCell];omega
theorem PG (x:List UInt8):∀(n t:Nat),t+n<=12->(WK n t x).1<=11
 |0,_,_=>by show 0<=11;omega
 |n+1,t,h=>by
  show (if uL t=x then (t,(0:Int)) else WK n (t+1) x).1<=11
  by_cases e:uL t=x
  ·rw [if_pos e];show t<=11;omega
  rw[if_neg e];exact PG x n (t+1) (by omega)
theorem DW (x:List UInt8):(gD x).1<=11:=PG x 11 1 (by omega)
structure LR (w : World) (L : List (wJ × Value)) : Prop where
 args:∀p ∈ L,∃x c,p.2=.slice x p.1.nums.length c/\YF w x p.1.nums.length c p.1.nums
 names:∀p ∈ L,p.1.name.length<=140737488355328/\p.1.frm.name.length<=140737488355328/\p.1.tgt.name.length<=140737488355328
theorem LR.below {w w':World} {L:List (wJ × Value)} (h:LR w L) (hb:Below w.heap.size w w'):LR w' L:=
 ⟨fun p hp=>by obtain ⟨x,c,h1,h2⟩:=h.args p hp;exact ⟨x,c,h1,h2.below hb⟩,h.names⟩
def CJ (w:World) (p:GA × Value):Prop:=p.1.tag<=255/\∃x c,p.2=.slice x p.1.params.length c/\YF w x p.1.params.length c p.1.params
def CI (w:World) (p:GE × Value):Prop:=∃x c,p.2=.slice x p.1.start.length c/\YF w x p.1.start.length c p.1.start
structure WR (w : World) (ns : List (List UInt8)) (L : List wJ) (As : List (GA × Value)) (Es : List (GE × Value)) (Ps Os : List GP) : Prop where
 a:As.map Prod.fst=(tH 1 L).map CL
 e:Es.map Prod.fst=(tH 2 L).map (luE ns)
 i:Ps=(tH 3 L).map (luI ns)
 o:Os=(tH 4 L).map (luO ns)
 pa:∀p ∈ As,CJ w p
 pe:∀p ∈ Es,CI w p
theorem DU (w:World) (ns:List (List UInt8)):WR w ns [] [] [] [] []:=⟨rfl,rfl,rfl,rfl,fun _ h=>(by cases h),fun _ h=>(by cases h)⟩
theorem WR.len {w ns L As Es Ps Os} (h:WR w ns L As Es Ps Os):As.length<=L.length/\Es.length<=L.length/\Ps.length<=L.length/\Os.length<=L.length:=by
 have h1:=congrArg List.length h.a;have h2:=congrArg List.length h.e;have h3:=congrArg List.length h.i;have h4:=congrArg List.length h.o;simp only[List.length_map]at h1 h2 h3 h4;have:=pI 1 L;have:=pI 2 L;have:=pI 3 L;have:=pI 4 L;omega
theorem WR.addA {w ns L As Es Ps Os} (h:WR w ns L As Es Ps Os) {x:wJ} (hk:x.kind=1) {q:Value} (hq:CJ w (CL x,q)):WR w ns (L++[x]) (As++[(CL x,q)]) Es Ps Os:=by
 refine ⟨?_,?_,?_,?_,fun p hp=>?_,h.pe⟩
 ·rw [yR,if_pos hk,List.map_append,List.map_append,h.a];rfl
 ·rw [yR,if_neg (by rw[hk];decide)];exact h.e
 ·rw [yR,if_neg (by rw[hk];decide)];exact h.i
 ·rw [yR,if_neg (by rw[hk];decide)];exact h.o
 rcases List.mem_append.1 hp with hp|hp
 ·exact h.pa p hp
 rw[List.mem_singleton.1 hp];exact hq
theorem WR.addE {w ns L As Es Ps Os} (h:WR w ns L As Es Ps Os) {x:wJ} (hk:x.kind=2) {q:Value} (hq:CI w (luE ns x,q)):WR w ns (L++[x]) As (Es++[(luE ns x,q)]) Ps Os:=by
 refine ⟨?_,?_,?_,?_,h.pa,fun p hp=>?_⟩
 ·rw [yR,if_neg (by rw[hk];decide)];exact h.a
 ·rw [yR,if_pos hk,List.map_append,List.map_append,h.e];rfl
 ·rw [yR,if_neg (by rw[hk];decide)];exact h.i
 ·rw [yR,if_neg (by rw[hk];decide)];exact h.o
 rcases List.mem_append.1 hp with hp|hp
 ·exact h.pe p hp
 rw[List.mem_singleton.1 hp];exact hq
theorem WR.addI {w ns L As Es Ps Os} (h:WR w ns L As Es Ps Os) {x:wJ} (hk:x.kind=3):WR w ns (L++[x]) As Es (Ps++[luI ns x]) Os:=by
 refine ⟨?_,?_,?_,?_,h.pa,h.pe⟩
 ·rw [yR,if_neg (by rw[hk];decide)];exact h.a
 ·rw [yR,if_neg (by rw[hk];decide)];exact h.e
 ·rw [yR,if_pos hk,List.map_append,h.i];rfl
 rw[yR,if_neg (by rw[hk];decide)];exact h.o
theorem WR.addO {w ns L As Es Ps Os} (h:WR w ns L As Es Ps Os) {x:wJ} (hk:x.kind=4):WR w ns (L++[x]) As Es Ps (Os++[luO ns x]):=by
 refine ⟨?_,?_,?_,?_,h.pa,h.pe⟩
 ·rw [yR,if_neg (by rw[hk];decide)];exact h.a
 ·rw [yR,if_neg (by rw[hk];decide)];exact h.e
 ·rw [yR,if_neg (by rw[hk];decide)];exact h.i
 rw[yR,if_pos hk,List.map_append,h.o];rfl
structure aH (B : Nat) (w : World) (v1 v2 v3 v4 : Value) (As : List (GA × Value)) (Es : List (GE × Value)) (Ps Os : List GP) : Prop where
 r1:w.ownsRow B 62 3 v1 As.length (As.flatMap aP)
 r2:w.ownsRow B 65 5 v2 Es.length (Es.flatMap eP)
 r3:w.ownsRow B 81 3 v3 Ps.length (Ps.flatMap pP)
 r4:w.ownsRow B 81 3 v4 Os.length (Os.flatMap pP)
 n12:NB v1 v2
 n13:NB v1 v3
 n14:NB v1 v4
 n23:NB v2 v3
 n24:NB v2 v4
 n34:NB v3 v4
def DC (w:World) (nm:List UInt8) (L:List wJ) (e:Ending) (w':World):Prop:=
 ∃v1 v2 v3 v4 As Es Ps Os,e=.returned (.agg #[.string (zW nm),v1,v2,v3,v4])/\aH w.heap.size w' v1 v2 v3 v4 As Es Ps Os/\WR w (lV L) L As Es Ps Os/\Below w.heap.size w w'
def aG (u:World) (p:GP) (v:Value):Prop:=∃h,v=.slice (some ⟨h,0,none⟩) 1 1/\∀j y,(pP p)[j]? =some y->u.cell? ((⟨h,0,none⟩:Addr).add j)=some y
theorem aG.later {u u':World} {p:GP} {v:Value} (h:aG u p v) (hb:Below u.heap.size u u'):aG u' p v:=by
 obtain ⟨g,h1,h2⟩:=h;exact ⟨g,h1,fun j y hy=>zR hb (h2 j y hy)⟩
theorem TY (u:World) (p:GP):aG (u.alloc (.cells #[.string (zW p.name),.int .i64 p.actor,.int .i64 p.port] 81)) p (.slice (some ⟨u.heap.size,0,none⟩) 1 1):=⟨u.heap.size,rfl,fN u 81 (pP p)⟩
theorem CH (x:GA) (a:Option Addr) (n c:Nat):∀u ∈ aP (x,.slice a n c),u.oneCell'=true:=by
 intro u hu;simp only[aP,List.mem_cons,List.not_mem_nil,or_false]at hu
 rcases hu with rfl|rfl|rfl<;>rfl
theorem CG (x:GE) (a:Option Addr) (n c:Nat):∀u ∈ eP (x,.slice a n c),u.oneCell'=true:=by
 intro u hu;simp only[eP,List.mem_cons,List.not_mem_nil,or_false]at hu
 rcases hu with rfl|rfl|rfl|rfl|rfl<;>rfl
theorem JB (x:GP):∀u ∈ pP x,u.oneCell'=true:=by
 intro u hu;simp only[pP,List.mem_cons,List.not_mem_nil,or_false]at hu
 rcases hu with rfl|rfl|rfl<;>rfl
theorem QY (nm:List UInt8) (a:Option Addr) (n c:Nat) (L:List (wJ × Value)) (w:World) (hn:L.length=n) (h:YQ w a L) (hO:LR w L) (hl:n<=2000000) (hk:∀p ∈ L,1<=p.1.kind/\p.1.kind<=4):
 Calls Tryz.prog 50 #[.agg #[.string (zW nm),.slice a n c]] w (DC w nm (L.map Prod.fst)):=by
 have ba:=(((Below.refl w.heap.size w).alloc (Nat.le_refl _) (.cells #[.string (zW nm),.slice a n c] 52)).alloc (by simp) (.cells #[qE,qN,qN,qN,qN] 26)).alloc (by simp;omega) (.cells #[.string (zW nm),qN,qN,qN,qN] 26);have sb:=((zL 52 w #[.string (zW nm),.slice a n c]).below ((Below.refl _ _).alloc (Nat.le_refl _) (.cells #[qE,qN,qN,qN,qN] 26))).below ((Below.refl _ _).alloc (Nat.le_refl _) (.cells #[.string (zW nm),qN,qN,qN,qN] 26))
 have rb:zD 26 (w.heap.size+1) (((w.alloc (.cells #[.string (zW nm),.slice a n c] 52)).alloc (.cells #[qE,qN,qN,qN,qN] 26)).alloc (.cells #[.string (zW nm),qN,qN,qN,qN] 26)) #[qE,qN,qN,qN,qN]:=by
  have h3:=(zL 26 (w.alloc (.cells #[.string (zW nm),.slice a n c] 52)) #[qE,qN,qN,qN,qN]).below ((Below.refl _ _).alloc (Nat.le_refl _) (.cells #[.string (zW nm),qN,qN,qN,qN] 26));rw[World.size_alloc]at h3;exact h3
 have gb:zD 26 (w.heap.size+2) (((w.alloc (.cells #[.string (zW nm),.slice a n c] 52)).alloc (.cells #[qE,qN,qN,qN,qN] 26)).alloc (.cells #[.string (zW nm),qN,qN,qN,qN] 26)) #[.string (zW nm),qN,qN,qN,qN]:=by
  have h3:=zL 26 ((w.alloc (.cells #[.string (zW nm),.slice a n c] 52)).alloc (.cells #[qE,qN,qN,qN,qN] 26)) #[.string (zW nm),qN,qN,qN,qN];rw[World.size_alloc,World.size_alloc]at h3;exact h3
 have NB0:=zZ (UC a n c L _ hn (h.below ba) (by omega) (fun p hp=>(hO.names p hp).1));have BA:=zZ ba;have SB:=zZ sb;have RB:=zZ rb;have GB:=zZ gb;have HR:=zZ h;have HO:=zZ hO;have HL:=zZ hn;have HK:=zZ hk
 have hnI:(n:Int)<=2000000:=by omega
 have y1:=sb.cell (k:=1) rfl;obtain ⟨iA,hiA,hzA0,hzA1,hzA2⟩:=info_parts Tryz.infoA;have JA:=zZ hiA;have JA0:=zZ hzA0;have JA1:=zZ hzA1;have JA2:=zZ hzA2;obtain ⟨iE,hiE,hzE0,hzE1,hzE2⟩:=info_parts Tryz.infoE;have JE:=zZ hiE;have JE0:=zZ hzE0;have JE1:=zZ hzE1;have JE2:=zZ hzE2;obtain ⟨iP,hiP,hzP0,hzP1,hzP2⟩:=info_parts Tryz.infoP;have JP:=zZ hiP;have JP0:=zZ hzP0;have JP1:=zZ hzP1;have JP2:=zZ hzP2;clear ba sb rb gb h hO hn hk hiA hzA0 hzA1 hzA2 hiE hzE0 hzE1 hzE2 hiP hzP0 hzP1 hzP2
 go_enter Tryz.func50,Tryz.ntmps50
 go_upto_region 2 with fail
 generalize ((w.alloc (.cells #[.string (zW nm),.slice a n c] 52)).alloc (.cells #[qE,qN,qN,qN,qN] 26)).alloc (.cells #[.string (zW nm),qN,qN,qN,qN] 26)=W1 at *
 go_upto_region 3 with (go_at_call 89;(with_reducible refine NB0.out.mono ?_);rintro e w1 ⟨m,rfl,hK,hm,b1⟩;have K1:=zZ hK;have M1:=zZ hm;have B1:=zZ b1;clear hK hm b1 y1)
 have D0:Hid (TZ w m w1.heap.size #[.string (zW nm),.slice a n c] nm (lV (L.map Prod.fst)) (qN) (qN) (qN) (qN) [] [] [] [] w1):=by
  have hm3:w.heap.size+2<W1.heap.size:=GB.out.lt;exact ⟨SB.out.below B1.out,RB.out.below B1.out,GB.out.below B1.out,K1.out,World.ownsRow_nil _ _ _ _,World.ownsRow_nil _ _ _ _,World.ownsRow_nil _ _ _ _,World.ownsRow_nil _ _ _ _,NB.nilL _,NB.nilL _,NB.nilL _,NB.nilL _,NB.nilL _,NB.nilL _,BA.out.trans (B1.out.mono BA.out.size),Nat.lt_of_lt_of_le hm3 M1.out,K1.out.lt,Nat.le_refl _⟩
 have y1:w1.cell? ⟨w.heap.size,1,none⟩=some (.slice a n c):=D0.out.sb.cell rfl;generalize hns:lV (L.map Prod.fst)=ns at *;have HNS:=zZ hns;obtain ⟨B,hBe⟩:∃B,w1.heap.size=B:=⟨_,rfl⟩;rw[hBe]at D0;clear NB0 B1 M1 K1 BA SB RB GB hns hBe
 go_wp2
 go_loopg [20] n (fun gk v wr=>∃(k:Nat) (v1 v2 v3 v4:Value) (As:List (GA × Value)) (Es:List (GE × Value)) (Ps Os:List GP),k<=n/\gk=n-k/\v=.int .i64 (k:Int)/\TZ w m B #[.string (zW nm),.slice a n c] nm ns v1 v2 v3 v4 As Es Ps Os wr/\WR w ns ((L.map Prod.fst).take k) As Es Ps Os)
 case atStart=>exact ⟨0,_,_,_,_,[],[],[],[],Nat.zero_le _,rfl,rfl,D0.out,DU _ _⟩
 case round=>
  clear D0;obtain ⟨k,v1,v2,v3,v4,As,Es,Ps,Os,hk,rfl,rfl,hD,hLl⟩:=hrel;obtain ⟨x1,d1,rfl⟩:=xD hD.r1;obtain ⟨x2,d2,rfl⟩:=xD hD.r2;obtain ⟨x3,d3,rfl⟩:=xD hD.r3;obtain ⟨x4,d4,rfl⟩:=xD hD.r4;have DD:=zZ hD;have LL:=zZ hLl
  have LN:As.length<=2000000/\Es.length<=2000000/\Ps.length<=2000000/\Os.length<=2000000:=by
   have q:=hLl.len;rw[List.length_take,List.length_map]at q;omega
  clear hD hLl
  by_cases hlt:k<n
  ·have hki:(k:Int)<(n:Int):=by omega
   have hr:=HR.out.below DD.out.bel
   have hkl:k<L.length:=by have:=HL.out;omega
   rcases hr.lie with e|⟨g,off,rfl,hc⟩
   ·rw [e]at hkl;exact absurd hkl (Nat.not_lt_zero _)
   obtain ⟨c0,c1,c2,c3,c4,c5,c6,c7,c8,c9,c10⟩:=hc k hkl;have hmem:=gW (L:=L) hkl;obtain ⟨qa,qc,hq,hqa⟩:=HO.out.args _ hmem;rw[hq]at c3;have HQA:=zZ hqa;obtain ⟨hn1,hn2,hn3⟩:=HO.out.names _ hmem;have HNfn:=zZ hn2;have HNtn:=zZ hn3;have hkk:=HK.out _ hmem;have TK:=zZ (YN hkl);generalize (sD L k).1=x at *;obtain ⟨ki,xn,xt,nu,⟨fn,fp,fa⟩,⟨tn,tp,ta⟩,pl⟩:=x;obtain ⟨qn,hqn⟩:∃q,nu.length=q:=⟨_,rfl⟩;have HQN:=zZ hqn;simp only at c0 c1 c2 c3 c4 c5 c6 c7 c8 c9 c10 HQA HNfn HNtn hkk;rw[hqn]at c3 HQA;clear hc hr hq hqa hn1 hn2 hn3 hmem hqn;have bv:=(Below.refl wr.heap.size wr).alloc (Nat.le_refl _) (.cells #[.int .u8 ki,.string (zW xn),.string (zW xt),.slice qa qn qc,.string (zW fn),.int .i64 fp,.int .i64 fa,.string (zW tn),.int .i64 tp,.int .i64 ta,.int .i64 pl] 103);have DV:=zZ (DD.out.below bv);have bx:=zL 103 wr #[.int .u8 ki,.string (zW xn),.string (zW xt),.slice qa qn qc,.string (zW fn),.int .i64 fp,.int .i64 fa,.string (zW tn),.int .i64 tp,.int .i64 ta,.int .i64 pl];have bb0:=bx.cell (k:=0) rfl;have bb1:=bx.cell (k:=1) rfl;have bb2:=bx.cell (k:=2) rfl;have bb3:=bx.cell (k:=3) rfl;have bb4:=bx.cell (k:=4) rfl;have bb5:=bx.cell (k:=5) rfl;have bb6:=bx.cell (k:=6) rfl;have bb7:=bx.cell (k:=7) rfl;have bb8:=bx.cell (k:=8) rfl;have bb9:=bx.cell (k:=9) rfl;have bb10:=bx.cell (k:=10) rfl;have BX:=zZ bx
   have NO:Hid (∀ U,Below (wr.alloc (.cells #[.int .u8 ki,.string (zW xn),.string (zW xt),.slice qa qn qc,.string (zW fn),.int .i64 fp,.int .i64 fa,.string (zW tn),.int .i64 tp,.int .i64 ta,.int .i64 pl] 103)).heap.size (wr.alloc (.cells #[.int .u8 ki,.string (zW xn),.string (zW xt),.slice qa qn qc,.string (zW fn),.int .i64 fp,.int .i64 fa,.string (zW tn),.int .i64 tp,.int .i64 ta,.int .i64 pl] 103)) U->∀l:List UInt8,l.length<=140737488355328->Calls Tryz.prog 91 #[.map (some m),.string (zW l)] U fun e w'=>e=.returned (.int .i64 (vG ns l))/\Below U.heap.size U w'):=fun U hb l hl=>WZ U m ns l (DV.out.kn.below hb) hl
   obtain ⟨-,gg1,gg2,gg3,gg4⟩:=qC5 DV.out.gb;clear bv bx
   have hcase:ki=1\/ki=2\/ki=3\/ki=4:=by omega
   clear hkk
   rcases hcase with rfl|rfl|rfl|rfl
   ·have TG:Hid (∀ U,Calls Tryz.prog 90 #[.string (zW xt)] U fun e w'=>e=.returned (.tuple #[.int .u8 ((gD xt).1:Int),.int .i64 (gD xt).2])/\Below U.heap.size U w'):=fun U=>FJ xt U
    have HTL:=zZ (DW xt)
    have HLU:Hid (CL ⟨1,xn,xt,nu,⟨fn,fp,fa⟩,⟨tn,tp,ta⟩,pl⟩=⟨xn,(gD xt).1,nu⟩):=by rfl
    have GZ0:=zZ DV.out.gb;generalize (gD xt).2=te at *;generalize (gD xt).1=tg at *
    go_upto_region 8 with fail
    generalize wr.alloc (.cells #[.int .u8 1,.string (zW xn),.string (zW xt),.slice qa qn qc,.string (zW fn),.int .i64 fp,.int .i64 fa,.string (zW tn),.int .i64 tp,.int .i64 ta,.int .i64 pl] 103)=V at *;clear c0 c1 c2 c3 c4 c5 c6 c7 c8 c9 c10
    have HN1:Hid (∀ U,Below V.heap.size V U->U.cell? ⟨wr.heap.size,1,none⟩=some (.string (zW xn))/\U.cell? ⟨wr.heap.size,3,none⟩=some (.slice qa qn qc)/\U.cell? ⟨w.heap.size+2,1,none⟩=some (.slice x1 As.length d1)):=fun U hb=>⟨zR hb bb1,zR hb bb3,zR hb gg1⟩
    clear bb0 bb1 bb3 bb4 bb5 bb6 bb7 bb8 bb9 bb10 gg1 gg2 gg3 gg4
    go_wp2_with (first
     |(at_builtin;refine xL _ rfl (.tmp 35) (.tmp 42) 22 rfl B 62 iA (.agg #[qE,.int .u8 0,qN]) 3 48 Tryz.underlying22 JA.out JA0.out JA1.out JA2.out rfl (by decide) (.slice x1 As.length d1) As.length (As.flatMap aP) rfl (yY DV.out.r1 (B5.out.alloc B5.out.size (.cells #[.string (zW xn),.int .u8 (tg:Int),.slice qa qn qc] 62))) ⟨w5.heap.size,0,none⟩ 1 1 (by decide) (aP (⟨xn,tg,nu⟩,.slice qa qn qc)) rfl rfl (fN w5 62 (aP (⟨xn,tg,nu⟩,.slice qa qn qc))) (CH _ _ _ _) (by unfold maxLen;omega) (by omega) (Nat.le_trans DV.out.big ((B5.out.alloc B5.out.size (.cells #[.string (zW xn),.int .u8 (tg:Int),.slice qa qn qc] 62))).size) ?_;intro v' w4 ho ht;obtain ⟨D10,bk⟩:=DV.out.put1 (B5.out.alloc B5.out.size (.cells #[.string (zW xn),.int .u8 (tg:Int),.slice qa qn qc] 62)) ho ht;obtain ⟨va4,vc4,rfl⟩:=tZ ht;have E10:=zZ D10;have s1:w4.cell? ⟨w.heap.size+2,1,none⟩=some (.slice x1 As.length d1):=bk.cell rfl;have f1:=bk.frozen 1;clear ho ht D10 bk)
     |(go_at_call 90;(with_reducible refine (TG.out _).mono ?_);rintro e w5 ⟨rfl,b5⟩;obtain ⟨z1,z3,zg⟩:=HN1.out w5 b5;have B5:=zZ b5;clear b5 bb2))
    go_roundg (n-(k+1))
    case measure=>omega
    case rel=>exact ⟨k+1,_,_,_,_,As++[(⟨xn,tg,nu⟩,.slice qa qn qc)],Es,Ps,Os,by omega,rfl,by go_num,E10.out,by rw[TK.out];exact (by have r:=LL.out.addA (x:=⟨1,xn,xt,nu,⟨fn,fp,fa⟩,⟨tn,tp,ta⟩,pl⟩) rfl (q:=.slice qa qn qc) (by rw[HLU.out];exact ⟨by show tg<=255;have:=HTL.out;omega,qa,qc,by rw[HQN.out],by rw[HQN.out];exact HQA.out⟩);rw[HLU.out]at r;exact r)⟩
   ·go_upto_region 11 with fail
    generalize wr.alloc (.cells #[.int .u8 2,.string (zW xn),.string (zW xt),.slice qa qn qc,.string (zW fn),.int .i64 fp,.int .i64 fa,.string (zW tn),.int .i64 tp,.int .i64 ta,.int .i64 pl] 103)=V at *;clear c0 c1 c2 c3 c4 c5 c6 c7 c8 c9 c10
    refine yK 10 (fun i u v=>match i with
     |0=>v=.map (some m)
     |1=>v=.pointer (some ⟨wr.heap.size,4,none⟩)
     |2=>v=.pointer (some ⟨wr.heap.size,4,none⟩)
     |3=>v=.string (zW fn)
     |4=>v=.int .i64 (vG ns fn)
     |5=>v=.map (some m)
     |6=>v=.pointer (some ⟨wr.heap.size,7,none⟩)
     |7=>v=.pointer (some ⟨wr.heap.size,7,none⟩)
     |8=>v=.string (zW tn)
     |9=>v=.int .i64 (vG ns tn)
     |_=>True) (by kernel_rfl) (by kernel_rfl) (by kernel_rfl) (by kernel_rfl) ?_ ?_ ?_
    ·intro i w v w' h hb
     match i,h with
     |0,h=>exact h
     |1,h=>exact h
     |2,h=>exact h
     |3,h=>exact h
     |4,h=>exact h
     |5,h=>exact h
     |6,h=>exact h
     |7,h=>exact h
     |8,h=>exact h
     |9,h=>exact h
     |_+10,_=>trivial
    ·intro i o ρ w' hi ho hb hc hf hfr zX
     have b4:=zR hb bb4;have b7:=zR hb bb7
     match i,hi with
     |0,_=>
      simp only[qS]at ho;subst ho;have ts: ρ (.tmp 4)=.map (some m):=(qR hfr 4);simp[go_sem,ts];exact qB
     |1,_=>
      simp only[qS]at ho;subst ho;have ts: ρ (.tmp 6)=(qP wr.heap.size):=(qR hfr 6);simp[go_sem,ts];exact qB
     |2,_=>
      simp only[qS]at ho;subst ho;have ts: ρ (.tmp 48)=.pointer (some ⟨wr.heap.size,4,none⟩):=(qH zX 1 48);simp[go_sem,ts];exact qB
     |3,_=>
      simp only[qS]at ho;subst ho;have ts: ρ (.tmp 49)=.pointer (some ⟨wr.heap.size,4,none⟩):=(qH zX 2 49);simp[go_sem,ts,b4];exact qB
     |4,_=>
      simp only[qS]at ho;subst ho;have t0: ρ (.tmp 47)=.map (some m):=(qH zX 0 47);have t1: ρ (.tmp 50)=.string (zW fn):=(qH zX 3 50);simp[go_sem,t0,t1,hf];exact ⟨rfl,(NO.out w' hb fn HNfn.out).mono fun e w'' hh=>⟨_,hh.1,hh.2,rfl⟩⟩
     |5,_=>
      simp only[qS]at ho;subst ho;have ts: ρ (.tmp 4)=.map (some m):=(qR hfr 4);simp[go_sem,ts];exact qB
     |6,_=>
      simp only[qS]at ho;subst ho;have ts: ρ (.tmp 6)=(qP wr.heap.size):=(qR hfr 6);simp[go_sem,ts];exact qB
     |7,_=>
      simp only[qS]at ho;subst ho;have ts: ρ (.tmp 53)=.pointer (some ⟨wr.heap.size,7,none⟩):=(qH zX 6 53);simp[go_sem,ts];exact qB
     |8,_=>
      simp only[qS]at ho;subst ho;have ts: ρ (.tmp 54)=.pointer (some ⟨wr.heap.size,7,none⟩):=(qH zX 7 54);simp[go_sem,ts,b7];exact qB
     |9,_=>
      simp only[qS]at ho;subst ho;have t0: ρ (.tmp 52)=.map (some m):=(qH zX 5 52);have t1: ρ (.tmp 55)=.string (zW tn):=(qH zX 8 55);simp[go_sem,t0,t1,hf];exact ⟨rfl,(NO.out w' hb tn HNtn.out).mono fun e w'' hh=>⟨_,hh.1,hh.2,rfl⟩⟩
    intro V9 w9 q9 hS;have e0:V9 0=.map (some m):=hS 0 (by decide);have e1:V9 1=.pointer (some ⟨wr.heap.size,4,none⟩):=hS 1 (by decide);have e2:V9 2=.pointer (some ⟨wr.heap.size,4,none⟩):=hS 2 (by decide);have e3:V9 3=.string (zW fn):=hS 3 (by decide);have e4:V9 4=.int .i64 (vG ns fn):=hS 4 (by decide);have e5:V9 5=.map (some m):=hS 5 (by decide);have e6:V9 6=.pointer (some ⟨wr.heap.size,7,none⟩):=hS 6 (by decide);have e7:V9 7=.pointer (some ⟨wr.heap.size,7,none⟩):=hS 7 (by decide);have e8:V9 8=.string (zW tn):=hS 8 (by decide);have e9:V9 9=.int .i64 (vG ns tn):=hS 9 (by decide);simp only[List.drop_succ_cons,List.drop_zero,List.take_succ_cons,List.take_zero,xA,e0,e1,e2,e3,e4,e5,e6,e7,e8,e9];clear hS e0 e1 e2 e3 e4 e5 e6 e7 e8 e9 V9;simp only[Act.put,qU];have B5:=zZ q9;have z5:=zR q9 bb5;have z8:=zR q9 bb8;have z3:=zR q9 bb3;have zg:=zR q9 gg2;clear q9 bb0 bb1 bb2 bb3 bb4 bb5 bb6 bb7 bb8 bb9 bb10 gg1 gg2 gg3 gg4 NO
    have HLU:Hid (luE ns ⟨2,xn,xt,nu,⟨fn,fp,fa⟩,⟨tn,tp,ta⟩,pl⟩=⟨vG ns fn,fp,vG ns tn,tp,nu⟩):=by rfl
    generalize vG ns fn=u1 at *;generalize vG ns tn=u2 at *
    go_wp2_with (at_builtin;refine xL _ rfl (.tmp 58) (.tmp 70) 23 rfl B 65 iE (.agg #[.int .i64 0,.int .i64 0,.int .i64 0,.int .i64 0,qN]) 5 56 Tryz.underlying23 JE.out JE0.out JE1.out JE2.out rfl (by decide) (.slice x2 Es.length d2) Es.length (Es.flatMap eP) rfl (yY DV.out.r2 (B5.out.alloc B5.out.size (.cells #[.int .i64 u1,.int .i64 fp,.int .i64 u2,.int .i64 tp,.slice qa qn qc] 65))) ⟨w9.heap.size,0,none⟩ 1 1 (by decide) (eP (⟨u1,fp,u2,tp,nu⟩,.slice qa qn qc)) rfl rfl (fN w9 65 (eP (⟨u1,fp,u2,tp,nu⟩,.slice qa qn qc))) (CG _ _ _ _) (by unfold maxLen;omega) (by omega) (Nat.le_trans DV.out.big ((B5.out.alloc B5.out.size (.cells #[.int .i64 u1,.int .i64 fp,.int .i64 u2,.int .i64 tp,.slice qa qn qc] 65))).size) ?_;intro v' w4 ho ht;obtain ⟨D10,bk⟩:=DV.out.put2 (B5.out.alloc B5.out.size (.cells #[.int .i64 u1,.int .i64 fp,.int .i64 u2,.int .i64 tp,.slice qa qn qc] 65)) ho ht;obtain ⟨va4,vc4,rfl⟩:=tZ ht;have E10:=zZ D10;have s1:w4.cell? ⟨w.heap.size+2,2,none⟩=some (.slice x2 Es.length d2):=bk.cell rfl;have f1:=bk.frozen 2;clear ho ht D10 bk)
    go_roundg (n-(k+1))
    case measure=>omega
    case rel=>exact ⟨k+1,_,_,_,_,As,Es++[(⟨u1,fp,u2,tp,nu⟩,.slice qa qn qc)],Ps,Os,by omega,rfl,by go_num,E10.out,by rw[TK.out];exact (by have r:=LL.out.addE (x:=⟨2,xn,xt,nu,⟨fn,fp,fa⟩,⟨tn,tp,ta⟩,pl⟩) rfl (q:=.slice qa qn qc) (by rw[HLU.out];exact ⟨qa,qc,by rw[HQN.out],by rw[HQN.out];exact HQA.out⟩);rw[HLU.out]at r;exact r)⟩
   ·go_upto_region 14 with fail
    generalize wr.alloc (.cells #[.int .u8 3,.string (zW xn),.string (zW xt),.slice qa qn qc,.string (zW fn),.int .i64 fp,.int .i64 fa,.string (zW tn),.int .i64 tp,.int .i64 ta,.int .i64 pl] 103)=V at *;clear c0 c1 c2 c3 c4 c5 c6 c7 c8 c9 c10
    refine yK 14 (fun i u v=>match i with
     |0=>v=.pointer (some ⟨w.heap.size+2,3,none⟩)
     |1=>v=.slice x3 Ps.length d3
     |2=>v=.pointer (some ⟨wr.heap.size,1,none⟩)
     |3=>v=.string (zW xn)
     |4=>v=.map (some m)
     |5=>v=.pointer (some ⟨wr.heap.size,7,none⟩)
     |6=>v=.pointer (some ⟨wr.heap.size,7,none⟩)
     |7=>v=.string (zW tn)
     |8=>v=.int .i64 (vG ns tn)
     |9=>v=.pointer (some ⟨wr.heap.size,7,none⟩)
     |10=>v=.pointer (some ⟨wr.heap.size,8,none⟩)
     |11=>v=.int .i64 tp
     |12=>v=.agg #[.string (zW xn),.int .i64 (vG ns tn),.int .i64 tp]
     |13=>aG u ⟨xn,vG ns tn,tp⟩ v
     |_=>True) (by kernel_rfl) (by kernel_rfl) (by kernel_rfl) (by kernel_rfl) ?_ ?_ ?_
    ·intro i w v w' h hb
     match i,h with
     |0,h=>exact h
     |1,h=>exact h
     |2,h=>exact h
     |3,h=>exact h
     |4,h=>exact h
     |5,h=>exact h
     |6,h=>exact h
     |7,h=>exact h
     |8,h=>exact h
     |9,h=>exact h
     |10,h=>exact h
     |11,h=>exact h
     |12,h=>exact h
     |13,h=>exact aG.later h hb
     |_+14,_=>trivial
    ·intro i o ρ w' hi ho hb hc hf hfr zX
     have b1:=zR hb bb1;have b7:=zR hb bb7;have b8:=zR hb bb8;have g3:=zR hb gg3
     match i,hi with
     |0,_=>
      simp only[qS]at ho;subst ho;have ts: ρ (.tmp 3)=(qP (w.heap.size+2)):=(qR hfr 3);simp[go_sem,ts];exact qB
     |1,_=>
      simp only[qS]at ho;subst ho;have ts: ρ (.tmp 75)=.pointer (some ⟨w.heap.size+2,3,none⟩):=(qH zX 0 75);simp[go_sem,ts,g3];exact qB
     |2,_=>
      simp only[qS]at ho;subst ho;have ts: ρ (.tmp 6)=(qP wr.heap.size):=(qR hfr 6);simp[go_sem,ts];exact qB
     |3,_=>
      simp only[qS]at ho;subst ho;have ts: ρ (.tmp 77)=.pointer (some ⟨wr.heap.size,1,none⟩):=(qH zX 2 77);simp[go_sem,ts,b1];exact qB
     |4,_=>
      simp only[qS]at ho;subst ho;have ts: ρ (.tmp 4)=.map (some m):=(qR hfr 4);simp[go_sem,ts];exact qB
     |5,_=>
      simp only[qS]at ho;subst ho;have ts: ρ (.tmp 6)=(qP wr.heap.size):=(qR hfr 6);simp[go_sem,ts];exact qB
     |6,_=>
      simp only[qS]at ho;subst ho;have ts: ρ (.tmp 80)=.pointer (some ⟨wr.heap.size,7,none⟩):=(qH zX 5 80);simp[go_sem,ts];exact qB
     |7,_=>
      simp only[qS]at ho;subst ho;have ts: ρ (.tmp 81)=.pointer (some ⟨wr.heap.size,7,none⟩):=(qH zX 6 81);simp[go_sem,ts,b7];exact qB
     |8,_=>
      simp only[qS]at ho;subst ho;have t0: ρ (.tmp 79)=.map (some m):=(qH zX 4 79);have t1: ρ (.tmp 82)=.string (zW tn):=(qH zX 7 82);simp[go_sem,t0,t1,hf];exact ⟨rfl,(NO.out w' hb tn HNtn.out).mono fun e w'' hh=>⟨_,hh.1,hh.2,rfl⟩⟩
     |9,_=>
      simp only[qS]at ho;subst ho;have ts: ρ (.tmp 6)=(qP wr.heap.size):=(qR hfr 6);simp[go_sem,ts];exact qB
     |10,_=>
      simp only[qS]at ho;subst ho;have ts: ρ (.tmp 84)=.pointer (some ⟨wr.heap.size,7,none⟩):=(qH zX 9 84);simp[go_sem,ts];exact qB
     |11,_=>
      simp only[qS]at ho;subst ho;have ts: ρ (.tmp 85)=.pointer (some ⟨wr.heap.size,8,none⟩):=(qH zX 10 85);simp[go_sem,ts,b8];exact qB
     |12,_=>
      simp only[qS]at ho;subst ho;have t0: ρ (.tmp 78)=.string (zW xn):=(qH zX 3 78);have t1: ρ (.tmp 83)=.int .i64 (vG ns tn):=(qH zX 8 83);have t2: ρ (.tmp 86)=.int .i64 tp:=(qH zX 11 86);simp[go_sem,t0,t1,t2];exact qB
     |13,_=>
      simp only[qS]at ho;subst ho;have t0: ρ (.tmp 87)=.agg #[.string (zW xn),.int .i64 (vG ns tn),.int .i64 tp]:=(qH zX 12 87);simp[go_sem,t0];exact ⟨(Below.refl _ _).alloc (Nat.le_refl _) _,TY w' ⟨xn,vG ns tn,tp⟩⟩
    intro V9 w9 q9 hS;have e0:V9 0=.pointer (some ⟨w.heap.size+2,3,none⟩):=hS 0 (by decide);have e1:V9 1=.slice x3 Ps.length d3:=hS 1 (by decide);have e2:V9 2=.pointer (some ⟨wr.heap.size,1,none⟩):=hS 2 (by decide);have e3:V9 3=.string (zW xn):=hS 3 (by decide);have e4:V9 4=.map (some m):=hS 4 (by decide);have e5:V9 5=.pointer (some ⟨wr.heap.size,7,none⟩):=hS 5 (by decide);have e6:V9 6=.pointer (some ⟨wr.heap.size,7,none⟩):=hS 6 (by decide);have e7:V9 7=.string (zW tn):=hS 7 (by decide);have e8:V9 8=.int .i64 (vG ns tn):=hS 8 (by decide);have e9:V9 9=.pointer (some ⟨wr.heap.size,7,none⟩):=hS 9 (by decide);have e10:V9 10=.pointer (some ⟨wr.heap.size,8,none⟩):=hS 10 (by decide);have e11:V9 11=.int .i64 tp:=hS 11 (by decide);have e12:V9 12=.agg #[.string (zW xn),.int .i64 (vG ns tn),.int .i64 tp]:=hS 12 (by decide);obtain ⟨hx,e13,Q1⟩:aG w9 ⟨xn,vG ns tn,tp⟩ (V9 13):=hS 13 (by decide);simp only[List.drop_succ_cons,List.drop_zero,List.take_succ_cons,List.take_zero,xA,e0,e1,e2,e3,e4,e5,e6,e7,e8,e9,e10,e11,e12,e13];clear hS e0 e1 e2 e3 e4 e5 e6 e7 e8 e9 e10 e11 e12 e13 V9;simp only[Act.put,qU];have B5:=zZ q9;have QC:=zZ Q1;clear q9 Q1 bb0 bb1 bb2 bb3 bb4 bb5 bb6 bb7 bb8 bb9 bb10 gg1 gg2 gg3 gg4 NO
    have HLU:Hid (luI ns ⟨3,xn,xt,nu,⟨fn,fp,fa⟩,⟨tn,tp,ta⟩,pl⟩=⟨xn,vG ns tn,tp⟩):=by rfl
    go_wp2_with (at_builtin;refine xL _ rfl (.tmp 76) (.tmp 88) 24 rfl B 81 iP (.agg #[qE,.int .i64 0,.int .i64 0]) 3 32 Tryz.underlying24 JP.out JP0.out JP1.out JP2.out rfl (by decide) (.slice x3 Ps.length d3) Ps.length (Ps.flatMap pP) rfl (yY DV.out.r3 B5.out) ⟨hx,0,none⟩ 1 1 (by decide) (pP ⟨xn,vG ns tn,tp⟩) rfl rfl QC.out (JB _) (by unfold maxLen;omega) (by omega) (Nat.le_trans DV.out.big (B5.out).size) ?_;intro v' w4 ho ht;obtain ⟨D10,bk⟩:=DV.out.put3 B5.out ho ht;obtain ⟨va4,vc4,rfl⟩:=tZ ht;have E10:=zZ D10;have s1:w4.cell? ⟨w.heap.size+2,3,none⟩=some (.slice x3 Ps.length d3):=bk.cell rfl;have f1:=bk.frozen 3;clear ho ht D10 bk)
    go_roundg (n-(k+1))
    case measure=>omega
    case rel=>exact ⟨k+1,_,_,_,_,As,Es,Ps++[⟨xn,vG ns tn,tp⟩],Os,by omega,rfl,by go_num,E10.out,by rw[TK.out];exact (by have r:=LL.out.addI (x:=⟨3,xn,xt,nu,⟨fn,fp,fa⟩,⟨tn,tp,ta⟩,pl⟩) rfl;rw[HLU.out]at r;exact r)⟩
   go_upto_region 16 with fail
   generalize wr.alloc (.cells #[.int .u8 4,.string (zW xn),.string (zW xt),.slice qa qn qc,.string (zW fn),.int .i64 fp,.int .i64 fa,.string (zW tn),.int .i64 tp,.int .i64 ta,.int .i64 pl] 103)=V at *;clear c0 c1 c2 c3 c4 c5 c6 c7 c8 c9 c10
   refine yK 14 (fun i u v=>match i with
    |0=>v=.pointer (some ⟨w.heap.size+2,4,none⟩)
    |1=>v=.slice x4 Os.length d4
    |2=>v=.pointer (some ⟨wr.heap.size,1,none⟩)
    |3=>v=.string (zW xn)
    |4=>v=.map (some m)
    |5=>v=.pointer (some ⟨wr.heap.size,4,none⟩)
    |6=>v=.pointer (some ⟨wr.heap.size,4,none⟩)
    |7=>v=.string (zW fn)
    |8=>v=.int .i64 (vG ns fn)
    |9=>v=.pointer (some ⟨wr.heap.size,4,none⟩)
    |10=>v=.pointer (some ⟨wr.heap.size,5,none⟩)
    |11=>v=.int .i64 fp
    |12=>v=.agg #[.string (zW xn),.int .i64 (vG ns fn),.int .i64 fp]
    |13=>aG u ⟨xn,vG ns fn,fp⟩ v
    |_=>True) (by kernel_rfl) (by kernel_rfl) (by kernel_rfl) (by kernel_rfl) ?_ ?_ ?_
   ·intro i w v w' h hb
    match i,h with
    |0,h=>exact h
    |1,h=>exact h
    |2,h=>exact h
    |3,h=>exact h
    |4,h=>exact h
    |5,h=>exact h
    |6,h=>exact h
    |7,h=>exact h
    |8,h=>exact h
    |9,h=>exact h
    |10,h=>exact h
    |11,h=>exact h
    |12,h=>exact h
    |13,h=>exact aG.later h hb
    |_+14,_=>trivial
   ·intro i o ρ w' hi ho hb hc hf hfr zX
    have b1:=zR hb bb1;have b4:=zR hb bb4;have b5:=zR hb bb5;have g4:=zR hb gg4
    match i,hi with
    |0,_=>
     simp only[qS]at ho;subst ho;have ts: ρ (.tmp 3)=(qP (w.heap.size+2)):=(qR hfr 3);simp[go_sem,ts];exact qB
    |1,_=>
     simp only[qS]at ho;subst ho;have ts: ρ (.tmp 93)=.pointer (some ⟨w.heap.size+2,4,none⟩):=(qH zX 0 93);simp[go_sem,ts,g4];exact qB
    |2,_=>
     simp only[qS]at ho;subst ho;have ts: ρ (.tmp 6)=(qP wr.heap.size):=(qR hfr 6);simp[go_sem,ts];exact qB
    |3,_=>
     simp only[qS]at ho;subst ho;have ts: ρ (.tmp 95)=.pointer (some ⟨wr.heap.size,1,none⟩):=(qH zX 2 95);simp[go_sem,ts,b1];exact qB
    |4,_=>
     simp only[qS]at ho;subst ho;have ts: ρ (.tmp 4)=.map (some m):=(qR hfr 4);simp[go_sem,ts];exact qB
    |5,_=>
     simp only[qS]at ho;subst ho;have ts: ρ (.tmp 6)=(qP wr.heap.size):=(qR hfr 6);simp[go_sem,ts];exact qB
    |6,_=>
     simp only[qS]at ho;subst ho;have ts: ρ (.tmp 98)=.pointer (some ⟨wr.heap.size,4,none⟩):=(qH zX 5 98);simp[go_sem,ts];exact qB
    |7,_=>
     simp only[qS]at ho;subst ho;have ts: ρ (.tmp 99)=.pointer (some ⟨wr.heap.size,4,none⟩):=(qH zX 6 99);simp[go_sem,ts,b4];exact qB
    |8,_=>
     simp only[qS]at ho;subst ho;have t0: ρ (.tmp 97)=.map (some m):=(qH zX 4 97);have t1: ρ (.tmp 100)=.string (zW fn):=(qH zX 7 100);simp[go_sem,t0,t1,hf];exact ⟨rfl,(NO.out w' hb fn HNfn.out).mono fun e w'' hh=>⟨_,hh.1,hh.2,rfl⟩⟩
    |9,_=>
     simp only[qS]at ho;subst ho;have ts: ρ (.tmp 6)=(qP wr.heap.size):=(qR hfr 6);simp[go_sem,ts];exact qB
    |10,_=>
     simp only[qS]at ho;subst ho;have ts: ρ (.tmp 102)=.pointer (some ⟨wr.heap.size,4,none⟩):=(qH zX 9 102);simp[go_sem,ts];exact qB
    |11,_=>
     simp only[qS]at ho;subst ho;have ts: ρ (.tmp 103)=.pointer (some ⟨wr.heap.size,5,none⟩):=(qH zX 10 103);simp[go_sem,ts,b5];exact qB
    |12,_=>
     simp only[qS]at ho;subst ho;have t0: ρ (.tmp 96)=.string (zW xn):=(qH zX 3 96);have t1: ρ (.tmp 101)=.int .i64 (vG ns fn):=(qH zX 8 101);have t2: ρ (.tmp 104)=.int .i64 fp:=(qH zX 11 104);simp[go_sem,t0,t1,t2];exact qB
    |13,_=>
     simp only[qS]at ho;subst ho;have t0: ρ (.tmp 105)=.agg #[.string (zW xn),.int .i64 (vG ns fn),.int .i64 fp]:=(qH zX 12 105);simp[go_sem,t0];exact ⟨(Below.refl _ _).alloc (Nat.le_refl _) _,TY w' ⟨xn,vG ns fn,fp⟩⟩
   intro V9 w9 q9 hS;have e0:V9 0=.pointer (some ⟨w.heap.size+2,4,none⟩):=hS 0 (by decide);have e1:V9 1=.slice x4 Os.length d4:=hS 1 (by decide);have e2:V9 2=.pointer (some ⟨wr.heap.size,1,none⟩):=hS 2 (by decide);have e3:V9 3=.string (zW xn):=hS 3 (by decide);have e4:V9 4=.map (some m):=hS 4 (by decide);have e5:V9 5=.pointer (some ⟨wr.heap.size,4,none⟩):=hS 5 (by decide);have e6:V9 6=.pointer (some ⟨wr.heap.size,4,none⟩):=hS 6 (by decide);have e7:V9 7=.string (zW fn):=hS 7 (by decide);have e8:V9 8=.int .i64 (vG ns fn):=hS 8 (by decide);have e9:V9 9=.pointer (some ⟨wr.heap.size,4,none⟩):=hS 9 (by decide);have e10:V9 10=.pointer (some ⟨wr.heap.size,5,none⟩):=hS 10 (by decide);have e11:V9 11=.int .i64 fp:=hS 11 (by decide);have e12:V9 12=.agg #[.string (zW xn),.int .i64 (vG ns fn),.int .i64 fp]:=hS 12 (by decide);obtain ⟨hx,e13,Q1⟩:aG w9 ⟨xn,vG ns fn,fp⟩ (V9 13):=hS 13 (by decide);simp only[List.drop_succ_cons,List.drop_zero,List.take_succ_cons,List.take_zero,xA,e0,e1,e2,e3,e4,e5,e6,e7,e8,e9,e10,e11,e12,e13];clear hS e0 e1 e2 e3 e4 e5 e6 e7 e8 e9 e10 e11 e12 e13 V9;simp only[Act.put,qU];have B5:=zZ q9;have QC:=zZ Q1;clear q9 Q1 bb0 bb1 bb2 bb3 bb4 bb5 bb6 bb7 bb8 bb9 bb10 gg1 gg2 gg3 gg4 NO
   have HLU:Hid (luO ns ⟨4,xn,xt,nu,⟨fn,fp,fa⟩,⟨tn,tp,ta⟩,pl⟩=⟨xn,vG ns fn,fp⟩):=by rfl
   go_wp2_with (at_builtin;refine xL _ rfl (.tmp 94) (.tmp 106) 24 rfl B 81 iP (.agg #[qE,.int .i64 0,.int .i64 0]) 3 32 Tryz.underlying24 JP.out JP0.out JP1.out JP2.out rfl (by decide) (.slice x4 Os.length d4) Os.length (Os.flatMap pP) rfl (yY DV.out.r4 B5.out) ⟨hx,0,none⟩ 1 1 (by decide) (pP ⟨xn,vG ns fn,fp⟩) rfl rfl QC.out (JB _) (by unfold maxLen;omega) (by omega) (Nat.le_trans DV.out.big (B5.out).size) ?_;intro v' w4 ho ht;obtain ⟨D10,bk⟩:=DV.out.put4 B5.out ho ht;obtain ⟨va4,vc4,rfl⟩:=tZ ht;have E10:=zZ D10;have s1:w4.cell? ⟨w.heap.size+2,4,none⟩=some (.slice x4 Os.length d4):=bk.cell rfl;have f1:=bk.frozen 4;clear ho ht D10 bk)
   go_roundg (n-(k+1))
   case measure=>omega
   case rel=>exact ⟨k+1,_,_,_,_,As,Es,Ps,Os++[⟨xn,vG ns fn,fp⟩],by omega,rfl,by go_num,E10.out,by rw[TK.out];exact (by have r:=LL.out.addO (x:=⟨4,xn,xt,nu,⟨fn,fp,fa⟩,⟨tn,tp,ta⟩,pl⟩) rfl;rw[HLU.out]at r;exact r)⟩
  have hki:¬(k:Int)<(n:Int):=by omega
  obtain ⟨s0,s1,s2,s3,s4⟩:=qC5 DD.out.gb
  go_wp2_with (refine xI _ rfl 26 (.tmp 2) (.tmp 110) rfl rfl (w.heap.size+1) 26 _ _ rfl rfl DD.out.rb MG rfl rfl ?_;intro w8 hN hU;have N8:=zZ hN;have U8:=zZ hU;clear hN hU)
  obtain ⟨t0,t1,t2,t3,t4⟩:=qC5 N8.out;refine bodyPost_ret (v:=.agg #[.string (zW nm),.slice x1 As.length d1,.slice x2 Es.length d2,.slice x3 Ps.length d3,.slice x4 Os.length d4]) (by simp[results,Tryz.results50,go_sem,t0,t1,t2,t3,t4]) rfl ?_
  have d:=DD.out;have hs:=d.bel.size;have lo:w.heap.size<=B:=Nat.le_trans (Nat.le_trans (Nat.le_add_right _ 2) (Nat.le_of_lt d.hm)) (Nat.le_of_lt d.hB);have bl:w.heap.size+1<B:=Nat.lt_trans (Nat.lt_succ_self _) (Nat.lt_trans d.hm d.hB)
  have kp:∀ {T c n:Nat} {v:Value} {xs:List Value},wr.ownsRow B T c v n xs->w8.ownsRow w.heap.size T c v n xs:=fun r=>uQ (zT r fun k e=>U8.out.block k (zI r k e) (fun q=>by have:=zQ r k e;omega)) lo
  refine ⟨_,_,_,_,As,Es,Ps,Os,rfl,⟨kp d.r1,kp d.r2,kp d.r3,kp d.r4,d.n12,d.n13,d.n14,d.n23,d.n24,d.n34⟩,?_,d.bel.trans (U8.out.below (Nat.le_succ _) d.bel.size)⟩
  have r:=LL.out;rw[List.take_of_length_le (by rw[List.length_map,HL.out];omega)]at r;rw[HNS.out];exact r
theorem YM:∀(L:List (GA × Value)) (k:Nat) (h:k<L.length) (q:Value),(L.flatMap aP).set (k*3+2) q=(L.set k (L[k].1,q)).flatMap aP
 |[],k,h,_=>by simp at h
 |x::r,0,_,q=>rfl
 |x::r,k+1,h,q=>by
  have h':k<r.length:=by simp at h;omega
  have e:=YM r k h' q
  have e0:(k+1)*3+2=(k*3+2)+3:=by omega
  rw[List.flatMap_cons,e0];show _=((x::r.set k (r[k].1,q)).flatMap aP)
  rw[List.flatMap_cons,<-e];rfl
theorem YL:∀(L:List (GE × Value)) (k:Nat) (h:k<L.length) (q:Value),(L.flatMap eP).set (k*5+4) q=(L.set k (L[k].1,q)).flatMap eP
 |[],k,h,_=>by simp at h
 |x::r,0,_,q=>rfl
 |x::r,k+1,h,q=>by
  have h':k<r.length:=by simp at h;omega
  have e:=YL r k h' q
  have e0:(k+1)*5+4=(k*5+4)+5:=by omega
  rw[List.flatMap_cons,e0];show _=((x::r.set k (r[k].1,q)).flatMap eP)
  rw[List.flatMap_cons,<-e];rfl
theorem kE {α :Type} (L:List α) {k:Nat} (h:k<L.length) (x: α):(L.set k x).take (k+1)=L.take k++[x]:=by
 rw[List.take_add_one,List.getElem?_set_self h,List.take_set_of_le (Nat.le_refl _)];rfl
theorem YK {α :Type} (L:List α) (k:Nat) (x: α):(L.set k x).drop (k+1)=L.drop (k+1):=List.drop_set_of_lt (Nat.lt_succ_self _)
theorem TX {α :Type} {L:List (α × Value)} {k:Nat} (h:k<L.length) (q:Value):(L.set k (L[k].1,q)).map Prod.fst=L.map Prod.fst:=by
 rw[List.map_set];have:(L.map Prod.fst)[k]'(by rw[List.length_map];exact h)=L[k].1:=List.getElem_map _;show (L.map Prod.fst).set k L[k].1=_
 rw[<- this,List.set_getElem_self]
theorem TW {l:List Value} {q:Value} {N:Nat} (h:l.Pairwise NB) (hl:∀v ∈ l,∀k,v.ownBlock=some k->k<N) (hq:∀k,q.ownBlock=some k->N<=k):(l++[q]).Pairwise NB:=by
 rw[List.pairwise_append];refine ⟨h,List.pairwise_singleton _ _,fun a ha b hb=>?_⟩
 rw[List.mem_singleton.1 hb]
 exact fun k h1 h2=>absurd (hl a ha k h1) (by have:=hq k h2;omega)
structure eE (B : Nat) (w : World) (v1 v2 v3 v4 : Value) (As : List (GA × Value)) (Es : List (GE × Value)) (Ps Os : List GP) : Prop where
 rw:aH B w v1 v2 v3 v4 As Es Ps Os
 n1:∀p ∈ As,wU B w p.2 p.1.params
 n2:∀p ∈ Es,wU B w p.2 p.1.start
 ap:(As.map Prod.snd++Es.map Prod.snd).Pairwise NB
 av:∀q ∈ As.map Prod.snd++Es.map Prod.snd,NB v1 q/\NB v2 q/\NB v3 q/\NB v4 q
theorem aH.keep {B w w' v1 v2 v3 v4 As Es Ps Os} (h:aH B w v1 v2 v3 v4 As Es Ps Os) (hk:∀k,B<=k->k<w.heap.size->w'.heap[k]? =w.heap[k]?):aH B w' v1 v2 v3 v4 As Es Ps Os:=
 ⟨zT h.r1 fun k e=>hk k (zQ h.r1 k e) (zI h.r1 k e),zT h.r2 fun k e=>hk k (zQ h.r2 k e) (zI h.r2 k e),zT h.r3 fun k e=>hk k (zQ h.r3 k e) (zI h.r3 k e),zT h.r4 fun k e=>hk k (zQ h.r4 k e) (zI h.r4 k e),h.n12,h.n13,h.n14,h.n23,h.n24,h.n34⟩
theorem eE.keep {B w w' v1 v2 v3 v4 As Es Ps Os} (h:eE B w v1 v2 v3 v4 As Es Ps Os) (hk:∀k,B<=k->k<w.heap.size->w'.heap[k]? =w.heap[k]?):eE B w' v1 v2 v3 v4 As Es Ps Os:=
 ⟨h.rw.keep hk,fun p hp=>zT (h.n1 p hp) fun k e=>hk k (zQ (h.n1 p hp) k e) (zI (h.n1 p hp) k e),fun p hp=>zT (h.n2 p hp) fun k e=>hk k (zQ (h.n2 p hp) k e) (zI (h.n2 p hp) k e),h.ap,h.av⟩
theorem aH.mono {B B' w v1 v2 v3 v4 As Es Ps Os} (h:aH B w v1 v2 v3 v4 As Es Ps Os) (hb:B'<=B):aH B' w v1 v2 v3 v4 As Es Ps Os:=
 ⟨uQ h.r1 hb,uQ h.r2 hb,uQ h.r3 hb,uQ h.r4 hb,h.n12,h.n13,h.n14,h.n23,h.n24,h.n34⟩
theorem eE.mono {B B' w v1 v2 v3 v4 As Es Ps Os} (h:eE B w v1 v2 v3 v4 As Es Ps Os) (hb:B'<=B):eE B' w v1 v2 v3 v4 As Es Ps Os:=
 ⟨h.rw.mono hb,fun p hp=>(h.n1 p hp).mono hb,fun p hp=>(h.n2 p hp).mono hb,h.ap,h.av⟩
structure PF (w0 w : World) (nm : List UInt8) (v1 v2 v3 v4 : Value) (A0 : List (GA × Value)) (E0 : List (GE × Value)) (Ps Os : List GP) (ka ke : Nat) (As : List (GA × Value)) (Es : List (GE × Value)) (wr : World) : Prop where
 gb:zD 26 w.heap.size wr #[.string (zW nm),v1,v2,v3,v4]
 rb:zD 26 (w.heap.size+1) wr #[qE,qN,qN,qN,qN]
 rw:aH w0.heap.size wr v1 v2 v3 v4 As Es Ps Os
 fa:As.map Prod.fst=A0.map Prod.fst
 fe:Es.map Prod.fst=E0.map Prod.fst
 da:As.drop ka=A0.drop ka
 de:Es.drop ke=E0.drop ke
 na:∀p ∈ As.take ka,wU (w.heap.size+2) wr p.2 p.1.params
 ne:∀p ∈ Es.take ke,wU (w.heap.size+2) wr p.2 p.1.start
 ap:((As.take ka).map Prod.snd++(Es.take ke).map Prod.snd).Pairwise NB
 bel:Below w0.heap.size w0 wr
 l1:∀k,v1.ownBlock=some k->k<w.heap.size
 l2:∀k,v2.ownBlock=some k->k<w.heap.size
 l3:∀k,v3.ownBlock=some k->k<w.heap.size
 l4:∀k,v4.ownBlock=some k->k<w.heap.size
 big:w.heap.size+2<=wr.heap.size
 lo:w0.heap.size<=w.heap.size
theorem PF.below {w0 w nm v1 v2 v3 v4 A0 E0 Ps Os ka ke As Es} {wr w2:World} (h:PF w0 w nm v1 v2 v3 v4 A0 E0 Ps Os ka ke As Es wr) (hb:Below wr.heap.size wr w2):PF w0 w nm v1 v2 v3 v4 A0 E0 Ps Os ka ke As Es w2:=
 ⟨h.gb.below hb,h.rb.below hb,h.rw.keep fun k _ hk=>hb.block k hk,h.fa,h.fe,h.da,h.de,fun p hp=>(h.na p hp).below hb,fun p hp=>(h.ne p hp).below hb,h.ap,h.bel.trans (hb.mono h.bel.size),h.l1,h.l2,h.l3,h.l4,Nat.le_trans h.big hb.size,h.lo⟩
theorem PF.putA {w0 w nm v2 v1 v3 v4 A0 E0 Ps Os ka ke As Es} {V w2:World} {g n cp:Nat} (h:PF w0 w nm v1 v2 v3 v4 A0 E0 Ps Os ka ke As Es V) (hv:v1=.slice (some ⟨g,0,none⟩) n cp) (hke:ke=0) (hk:ka<As.length) (hb:Below V.heap.size V w2) {q:Value} (hq:wU V.heap.size w2 q As[ka].1.params):
 PF w0 w nm v1 v2 v3 v4 A0 E0 Ps Os (ka+1) ke (As.set ka (As[ka].1,q)) Es (w2.setCell ⟨g,ka*3+2,none⟩ q):=by
 have hbig:=h.big;have hlo:=h.lo;have hgl:g<w.heap.size:=h.l1 g (by rw[hv];rfl);have hg0:w0.heap.size<=g:=zQ h.rw.r1 g (by rw[hv];rfl);have hsz:=hb.size
 have set:∀k,k≠g->(w2.setCell ⟨g,ka*3+2,none⟩ q).heap[k]? =w2.heap[k]? :=fun k hk=>Below.heap_setCell w2 ⟨g,ka*3+2,none⟩ q k hk
 have kp:∀k,k<V.heap.size->k≠g->(w2.setCell ⟨g,ka*3+2,none⟩ q).heap[k]? =V.heap[k]? :=fun k h1 h2=>(set k h2).trans (hb.block k h1)
 have st:∀ {T c n:Nat} {u:Value} {xs:List Value},V.ownsRow w0.heap.size T c u n xs->NB v1 u->(w2.setCell ⟨g,ka*3+2,none⟩ q).ownsRow w0.heap.size T c u n xs:=fun ru nb=>zT ru fun k e=>kp k (zI ru k e) (fun e2=>nb g (by rw[hv];rfl) (by rw[<- e2];exact e))
 have rI:(w2.setCell ⟨g,ka*3+2,none⟩ q).ownsRow w0.heap.size 62 3 v1 (As.set ka (As[ka].1,q)).length ((As.set ka (As[ka].1,q)).flatMap aP):=by
  have r0:=yY h.rw.r1 hb
  have hn:n=As.length:=by
   obtain ⟨a',c',e⟩:=xD r0;rw[hv]at e
   cases e
   rfl
  subst hn;rw[hv]at r0 ⊢;have r1:=(World.ownsRow.stored r0 (ka*3+2) q).1;rw[YM As ka hk q]at r1;rw[List.length_set];exact r1
 have nk:∀ {u:Value} {ns:List Int},wU (w.heap.size+2) V u ns->wU (w.heap.size+2) (w2.setCell ⟨g,ka*3+2,none⟩ q) u ns:=fun hu=>zT hu fun k e=>kp k (zI hu k e) (fun e2=>by have:=zQ hu k e;omega)
 have hq2:wU (w.heap.size+2) (w2.setCell ⟨g,ka*3+2,none⟩ q) q As[ka].1.params:=wU.mono (zT hq fun k e=>set k (fun e2=>by have:=zQ hq k e;omega)) hbig
 have nI:∀p ∈ (As.set ka (As[ka].1,q)).take (ka+1),wU (w.heap.size+2) (w2.setCell ⟨g,ka*3+2,none⟩ q) p.2 p.1.params:=fun p hp=>by
  rw[kE As hk]at hp
  rcases List.mem_append.1 hp with hp|hp
  ·exact nk (h.na p hp)
  rw[List.mem_singleton.1 hp];exact hq2
 have da:(As.set ka (As[ka].1,q)).drop (ka+1)=A0.drop (ka+1):=by
  rw[YK,<-List.drop_drop,h.da,List.drop_drop]
 refine ⟨h.gb.keep (kp _ (by omega) (by omega)),h.rb.keep (kp _ (by omega) (by omega)),⟨rI,(st h.rw.r2 h.rw.n12),(st h.rw.r3 h.rw.n13),(st h.rw.r4 h.rw.n14),h.rw.n12,h.rw.n13,h.rw.n14,h.rw.n23,h.rw.n24,h.rw.n34⟩,(TX hk q).trans h.fa,h.fe,da,h.de,nI,fun p hp=>nk (h.ne p hp),?_,?_,h.l1,h.l2,h.l3,h.l4,by rw[World.size_setCell];omega,h.lo⟩
 ·have hl:∀v ∈ (As.take ka).map Prod.snd++(Es.take ke).map Prod.snd,∀k,v.ownBlock=some k->k<V.heap.size:=fun v hv k e=>by
   rcases List.mem_append.1 hv with hv|hv
   ·obtain ⟨p,hp,rfl⟩:=List.mem_map.1 hv;exact zI (h.na p hp) k e
   obtain ⟨p,hp,rfl⟩:=List.mem_map.1 hv;exact zI (h.ne p hp) k e
  have r:=TW h.ap hl (fun k e=>zQ hq k e);subst hke;rw[kE As hk,List.map_append];simp only[List.take_zero,List.map_nil,List.append_nil]at r ⊢;exact r
 have h1:Below w0.heap.size w0 w2:=h.bel.trans (hb.mono h.bel.size);exact h1.setCell (p:=⟨g,ka*3+2,none⟩) hg0 _
theorem PF.putE {w0 w nm v2 v1 v3 v4 A0 E0 Ps Os ka ke As Es} {V w2 : World} {g n cp : Nat} (h : PF w0 w nm v1 v2 v3 v4 A0 E0 Ps Os ka ke As Es V) (hv : v2 = .slice (some ⟨g, 0, none⟩) n cp)  (hk : ke < Es.length) (hb : Below V.heap.size V w2) {q : Value} (hq : wU V.heap.size w2 q Es[ke].1.start) :
 PF w0 w nm v1 v2 v3 v4 A0 E0 Ps Os ka (ke+1) As (Es.set ke (Es[ke].1,q)) (w2.setCell ⟨g,ke*5+4,none⟩ q):=by
 have hbig:=h.big;have hlo:=h.lo;have hgl:g<w.heap.size:=h.l2 g (by rw[hv];rfl);have hg0:w0.heap.size<=g:=zQ h.rw.r2 g (by rw[hv];rfl);have hsz:=hb.size
 have set:∀k,k≠g->(w2.setCell ⟨g,ke*5+4,none⟩ q).heap[k]? =w2.heap[k]? :=fun k hk=>Below.heap_setCell w2 ⟨g,ke*5+4,none⟩ q k hk
 have kp:∀k,k<V.heap.size->k≠g->(w2.setCell ⟨g,ke*5+4,none⟩ q).heap[k]? =V.heap[k]? :=fun k h1 h2=>(set k h2).trans (hb.block k h1)
 have st:∀ {T c n:Nat} {u:Value} {xs:List Value},V.ownsRow w0.heap.size T c u n xs->NB v2 u->(w2.setCell ⟨g,ke*5+4,none⟩ q).ownsRow w0.heap.size T c u n xs:=fun ru nb=>zT ru fun k e=>kp k (zI ru k e) (fun e2=>nb g (by rw[hv];rfl) (by rw[<- e2];exact e))
 have rI:(w2.setCell ⟨g,ke*5+4,none⟩ q).ownsRow w0.heap.size 65 5 v2 (Es.set ke (Es[ke].1,q)).length ((Es.set ke (Es[ke].1,q)).flatMap eP):=by
  have r0:=yY h.rw.r2 hb
  have hn:n=Es.length:=by
   obtain ⟨a',c',e⟩:=xD r0;rw[hv]at e
   cases e
   rfl
  subst hn;rw[hv]at r0 ⊢;have r1:=(World.ownsRow.stored r0 (ke*5+4) q).1;rw[YL Es ke hk q]at r1;rw[List.length_set];exact r1
 have nk:∀ {u:Value} {ns:List Int},wU (w.heap.size+2) V u ns->wU (w.heap.size+2) (w2.setCell ⟨g,ke*5+4,none⟩ q) u ns:=fun hu=>zT hu fun k e=>kp k (zI hu k e) (fun e2=>by have:=zQ hu k e;omega)
 have hq2:wU (w.heap.size+2) (w2.setCell ⟨g,ke*5+4,none⟩ q) q Es[ke].1.start:=wU.mono (zT hq fun k e=>set k (fun e2=>by have:=zQ hq k e;omega)) hbig
 have nI:∀p ∈ (Es.set ke (Es[ke].1,q)).take (ke+1),wU (w.heap.size+2) (w2.setCell ⟨g,ke*5+4,none⟩ q) p.2 p.1.start:=fun p hp=>by
  rw[kE Es hk]at hp
  rcases List.mem_append.1 hp with hp|hp
  ·exact nk (h.ne p hp)
  rw[List.mem_singleton.1 hp];exact hq2
 have da:(Es.set ke (Es[ke].1,q)).drop (ke+1)=E0.drop (ke+1):=by
  rw[YK,<-List.drop_drop,h.de,List.drop_drop]
 refine ⟨h.gb.keep (kp _ (by omega) (by omega)),h.rb.keep (kp _ (by omega) (by omega)),⟨(st h.rw.r1 h.rw.n12.symm),rI,(st h.rw.r3 h.rw.n23),(st h.rw.r4 h.rw.n24),h.rw.n12,h.rw.n13,h.rw.n14,h.rw.n23,h.rw.n24,h.rw.n34⟩,h.fa,(TX hk q).trans h.fe,h.da,da,fun p hp=>nk (h.na p hp),nI,?_,?_,h.l1,h.l2,h.l3,h.l4,by rw[World.size_setCell];omega,h.lo⟩
 ·have hl:∀v ∈ (As.take ka).map Prod.snd++(Es.take ke).map Prod.snd,∀k,v.ownBlock=some k->k<V.heap.size:=fun v hv k e=>by
   rcases List.mem_append.1 hv with hv|hv
   ·obtain ⟨p,hp,rfl⟩:=List.mem_map.1 hv;exact zI (h.na p hp) k e
   obtain ⟨p,hp,rfl⟩:=List.mem_map.1 hv;exact zI (h.ne p hp) k e
  have r:=TW h.ap hl (fun k e=>zQ hq k e);rw[kE Es hk,List.map_append,<-List.append_assoc];exact r
 have h1:Below w0.heap.size w0 w2:=h.bel.trans (hb.mono h.bel.size);exact h1.setCell (p:=⟨g,ke*5+4,none⟩) hg0 _
def OwnE (w0:World) (nm:List UInt8) (v1 v2 v3 v4:Value) (A0:List (GA × Value)) (E0:List (GE × Value)) (Ps Os:List GP) (e:Ending) (w':World):Prop:=
 ∃As Es,e=.returned (.agg #[.string (zW nm),v1,v2,v3,v4])/\eE w0.heap.size w' v1 v2 v3 v4 As Es Ps Os/\As.map Prod.fst=A0.map Prod.fst/\Es.map Prod.fst=E0.map Prod.fst/\Below w0.heap.size w0 w'
theorem WW (nm:List UInt8) (v1 v2 v3 v4:Value) (A0:List (GA × Value)) (E0:List (GE × Value)) (Ps Os:List GP) (w0 w:World) (hb:Below w0.heap.size w0 w) (hG:aH w0.heap.size w v1 v2 v3 v4 A0 E0 Ps Os) (pa:∀p ∈ A0,CJ w0 p) (pe:∀p ∈ E0,CI w0 p) (na:A0.length<=1000) (ne:E0.length<=1000):
 Calls Tryz.prog 52 #[.agg #[.string (zW nm),v1,v2,v3,v4]] w (OwnE w0 nm v1 v2 v3 v4 A0 E0 Ps Os):=by
 obtain ⟨x1,d1,rfl⟩:=xD hG.r1;obtain ⟨x2,d2,rfl⟩:=xD hG.r2;obtain ⟨x3,d3,rfl⟩:=xD hG.r3;obtain ⟨x4,d4,rfl⟩:=xD hG.r4
 have D0:Hid (PF w0 w nm (.slice x1 A0.length d1) (.slice x2 E0.length d2) (.slice x3 Ps.length d3) (.slice x4 Os.length d4) A0 E0 Ps Os 0 0 A0 E0 ((w.alloc (.cells #[.string (zW nm),.slice x1 A0.length d1,.slice x2 E0.length d2,.slice x3 Ps.length d3,.slice x4 Os.length d4] 26)).alloc (.cells #[qE,qN,qN,qN,qN] 26))):=by
  have ba:=((Below.refl w.heap.size w).alloc (Nat.le_refl _) (.cells #[.string (zW nm),.slice x1 A0.length d1,.slice x2 E0.length d2,.slice x3 Ps.length d3,.slice x4 Os.length d4] 26)).alloc (by simp) (.cells #[qE,qN,qN,qN,qN] 26)
  have rb:zD 26 (w.heap.size+1) ((w.alloc (.cells #[.string (zW nm),.slice x1 A0.length d1,.slice x2 E0.length d2,.slice x3 Ps.length d3,.slice x4 Os.length d4] 26)).alloc (.cells #[qE,qN,qN,qN,qN] 26)) #[qE,qN,qN,qN,qN]:=by
   have h3:=zL 26 (w.alloc (.cells #[.string (zW nm),.slice x1 A0.length d1,.slice x2 E0.length d2,.slice x3 Ps.length d3,.slice x4 Os.length d4] 26)) #[qE,qN,qN,qN,qN];rw[World.size_alloc]at h3;exact h3
  exact ⟨(zL 26 w #[.string (zW nm),.slice x1 A0.length d1,.slice x2 E0.length d2,.slice x3 Ps.length d3,.slice x4 Os.length d4]).below ((Below.refl _ _).alloc (Nat.le_refl _) (.cells #[qE,qN,qN,qN,qN] 26)),rb,hG.keep fun k _ hk=>ba.block k hk,rfl,rfl,rfl,rfl,fun p hp=>(by simp at hp),fun p hp=>(by simp at hp),List.Pairwise.nil,hb.trans (ba.mono hb.size),zI hG.r1,zI hG.r2,zI hG.r3,zI hG.r4,by simp,hb.size⟩
 have PA:=zZ pa;have PE:=zZ pe
 have naI:(A0.length:Int)<=1000:=by omega
 have neI:(E0.length:Int)<=1000:=by omega
 clear pa pe hG hb
 go_enter Tryz.func52,Tryz.ntmps52
 go_upto_region 1 with fail
 generalize (w.alloc (.cells #[.string (zW nm),.slice x1 A0.length d1,.slice x2 E0.length d2,.slice x3 Ps.length d3,.slice x4 Os.length d4] 26)).alloc (.cells #[qE,qN,qN,qN,qN] 26)=W0 at *;have y1:W0.cell? ⟨w.heap.size,1,none⟩=some (.slice x1 A0.length d1):=D0.out.gb.cell rfl
 go_wp2
 go_loopg [8] A0.length (fun gk v wr=>∃(k:Nat) (As:List (GA × Value)) (Es:List (GE × Value)),k<=A0.length/\gk=A0.length-k/\v=.int .i64 (k:Int)/\PF w0 w nm (.slice x1 A0.length d1) (.slice x2 E0.length d2) (.slice x3 Ps.length d3) (.slice x4 Os.length d4) A0 E0 Ps Os k 0 As Es wr)
 case atStart=>exact ⟨0,A0,E0,Nat.zero_le _,rfl,rfl,D0.out⟩
 case round=>
  clear D0 y1;obtain ⟨k,As,Es,hk,rfl,rfl,hD⟩:=hrel;have DD:=zZ hD;have g1:wr.cell? ⟨w.heap.size,1,none⟩=some (.slice x1 A0.length d1):=hD.gb.cell rfl;clear hD
  by_cases hlt:k<A0.length
  ·have hki:(k:Int)<(A0.length:Int):=by omega
   have hkL:k<As.length:=by have e:=congrArg List.length DD.out.fa;rw[List.length_map,List.length_map]at e;omega
   have r0:=DD.out.rw.r1;obtain ⟨gb,hgb,hlow,-⟩:=kY r0 (by omega);subst hgb
   have el:As.length=A0.length:=by have e:=congrArg List.length DD.out.fa;rw[List.length_map,List.length_map]at e;exact e
   have hel:As[k]=A0[k]:=by
    have e:=DD.out.da;rw[List.drop_eq_getElem_cons hkL,List.drop_eq_getElem_cons hlt]at e;exact (List.cons.inj e).1
   have hpar:=PA.out A0[k] (List.getElem_mem hlt);rw[<- hel]at hpar;obtain ⟨_,qa,qc,hq,hqa⟩:=hpar;have q1:=wQ jD r0 hkL (r:=2) (by decide) (u:=.slice qa As[k].1.params.length qc) (by rw[<- hq];rfl);have HQA:=zZ hqa
   have HPUT:Hid (∀ w2 q,Below wr.heap.size wr w2->wU wr.heap.size w2 q As[k].1.params->PF w0 w nm (.slice (some ⟨gb,0,none⟩) A0.length d1) (.slice x2 E0.length d2) (.slice x3 Ps.length d3) (.slice x4 Os.length d4) A0 E0 Ps Os (k+1) 0 (As.set k (As[k].1,q)) Es (w2.setCell ⟨gb,k*3+2,none⟩ q)):=fun w2 q hb hq=>DD.out.putA rfl rfl hkL hb hq
   have HRC:Hid (∀ w2,Below wr.heap.size wr w2->w2.cell? ⟨gb,k*3+2,none⟩=some (.slice qa As[k].1.params.length qc)/\w2.frozen? ⟨gb,k*3+2,none⟩=false):=fun w2 hb=>⟨zR hb q1,by
    have r2:=yY r0 hb;rw[el]at r2
    exact World.ownsRow.frozenAt r2 _⟩
   generalize hzs:As[k].1.params=zs at *
   have CO:Hid (∀ U,Below wr.heap.size wr U->Calls Tryz.prog 93 #[.slice qa zs.length qc] U (kQ U zs.length zs)):=fun U hb=>mN qa zs zs.length qc U ((HQA.out.below (DD.out.bel.mono (Nat.le_refl _))).below hb)
   clear r0 hel hq hqa hlow hzs el
   go_upto_region 4 with fail
   refine yK 10 (fun i u v=>match i with
    |0=>v=.pointer (some ⟨w.heap.size,1,none⟩)
    |1=>v=.slice (some ⟨gb,0,none⟩) A0.length d1
    |2=>v=.int .i64 (k:Int)
    |3=>v=.pointer (some ⟨w.heap.size,1,none⟩)
    |4=>v=.slice (some ⟨gb,0,none⟩) A0.length d1
    |5=>v=.int .i64 (k:Int)
    |6=>v=.pointer (some ⟨gb,k*3,none⟩)
    |7=>v=.pointer (some ⟨gb,k*3+2,none⟩)
    |8=>v=.slice qa zs.length qc
    |9=>oV wr zs u v
    |_=>True) (by kernel_rfl) (by kernel_rfl) (by kernel_rfl) (by kernel_rfl) ?_ ?_ ?_
   ·intro i w v w' h hb
    match i,h with
    |0,h=>exact h
    |1,h=>exact h
    |2,h=>exact h
    |3,h=>exact h
    |4,h=>exact h
    |5,h=>exact h
    |6,h=>exact h
    |7,h=>exact h
    |8,h=>exact h
    |9,h=>exact oV.later h hb
    |_+10,_=>trivial
   ·intro i o ρ w' hi ho hb hc hf hfr zX
    have g1:=zR hb g1;have q1:=zR hb q1
    match i,hi with
    |0,_=>
     simp only[qS]at ho;subst ho;have ts: ρ (.tmp 1)=(qP w.heap.size):=(qR hfr 1);simp[go_sem,ts];exact qB
    |1,_=>
     simp only[qS]at ho;subst ho;have ts: ρ (.tmp 11)=.pointer (some ⟨w.heap.size,1,none⟩):=(qH zX 0 11);simp[go_sem,ts,g1];exact qB
    |2,_=>
     simp only[qS]at ho;subst ho;have ts: ρ (.tmp 3)=.int .i64 (k:Int):=(qR hfr 3);simp[go_sem,ts];exact qB
    |3,_=>
     simp only[qS]at ho;subst ho;have ts: ρ (.tmp 1)=(qP w.heap.size):=(qR hfr 1);simp[go_sem,ts];exact qB
    |4,_=>
     simp only[qS]at ho;subst ho;have ts: ρ (.tmp 14)=.pointer (some ⟨w.heap.size,1,none⟩):=(qH zX 3 14);simp[go_sem,ts,g1];exact qB
    |5,_=>
     simp only[qS]at ho;subst ho;have ts: ρ (.tmp 3)=.int .i64 (k:Int):=(qR hfr 3);simp[go_sem,ts];exact qB
    |6,_=>
     simp only[qS]at ho;subst ho;have t0: ρ (.tmp 15)=.slice (some ⟨gb,0,none⟩) A0.length d1:=(qH zX 4 15);have t1: ρ (.tmp 16)=.int .i64 (k:Int):=(qH zX 5 16);simp[go_sem,t0,t1,hki];exact qB
    |7,_=>
     simp only[qS]at ho;subst ho;have ts: ρ (.tmp 17)=.pointer (some ⟨gb,k*3,none⟩):=(qH zX 6 17);simp[go_sem,ts];exact qB
    |8,_=>
     simp only[qS]at ho;subst ho;have ts: ρ (.tmp 18)=.pointer (some ⟨gb,k*3+2,none⟩):=(qH zX 7 18);simp[go_sem,ts,q1];exact qB
    |9,_=>
     simp only[qS]at ho;subst ho;have ts: ρ (.tmp 19)=.slice qa zs.length qc:=(qH zX 8 19);simp[go_sem,ts,hf];exact ⟨rfl,(CO.out w' hb).mono fun e w'' hh=>dQ hh hb.size⟩
   intro V9 w9 q9 hS;have e0:V9 0=.pointer (some ⟨w.heap.size,1,none⟩):=hS 0 (by decide);have e1:V9 1=.slice (some ⟨gb,0,none⟩) A0.length d1:=hS 1 (by decide);have e2:V9 2=.int .i64 (k:Int):=hS 2 (by decide);have e3:V9 3=.pointer (some ⟨w.heap.size,1,none⟩):=hS 3 (by decide);have e4:V9 4=.slice (some ⟨gb,0,none⟩) A0.length d1:=hS 4 (by decide);have e5:V9 5=.int .i64 (k:Int):=hS 5 (by decide);have e6:V9 6=.pointer (some ⟨gb,k*3,none⟩):=hS 6 (by decide);have e7:V9 7=.pointer (some ⟨gb,k*3+2,none⟩):=hS 7 (by decide);have e8:V9 8=.slice qa zs.length qc:=hS 8 (by decide);obtain ⟨ca,cc,e9,Q1⟩:oV wr zs w9 (V9 9):=hS 9 (by decide);simp only[List.drop_succ_cons,List.drop_zero,List.take_succ_cons,List.take_zero,xA,e0,e1,e2,e3,e4,e5,e6,e7,e8,e9];clear hS e0 e1 e2 e3 e4 e5 e6 e7 e8 e9 V9;simp only[Act.put,qU];have E10:=zZ (HPUT.out w9 (.slice ca zs.length cc) q9 Q1);obtain ⟨s1,f1⟩:=HRC.out w9 q9;clear q9 Q1 q1 HPUT HRC CO
   go_wp2
   go_roundg (A0.length-(k+1))
   case measure=>omega
   case rel=>exact ⟨k+1,_,_,by omega,rfl,by go_num,E10.out⟩
  have hki:¬(k:Int)<(A0.length:Int):=by omega
  have ek:k=A0.length:=by omega
  subst ek;have y2:wr.cell? ⟨w.heap.size,2,none⟩=some (.slice x2 E0.length d2):=DD.out.gb.cell rfl
  go_wp2
  go_loopg [27] E0.length (fun gk v wr=>∃(k:Nat) (As:List (GA × Value)) (Es:List (GE × Value)),k<=E0.length/\gk=E0.length-k/\v=.int .i64 (k:Int)/\PF w0 w nm (.slice x1 A0.length d1) (.slice x2 E0.length d2) (.slice x3 Ps.length d3) (.slice x4 Os.length d4) A0 E0 Ps Os A0.length k As Es wr)
  case atStart=>exact ⟨0,As,Es,Nat.zero_le _,rfl,rfl,DD.out⟩
  case round=>
   clear DD;obtain ⟨k,As,Es,hk,rfl,rfl,hD⟩:=hrel;have DD:=zZ hD;have g1:wr.cell? ⟨w.heap.size,2,none⟩=some (.slice x2 E0.length d2):=hD.gb.cell rfl;clear hD
   by_cases hlt:k<E0.length
   ·have hki:(k:Int)<(E0.length:Int):=by omega
    have hkL:k<Es.length:=by have e:=congrArg List.length DD.out.fe;rw[List.length_map,List.length_map]at e;omega
    have r0:=DD.out.rw.r2;obtain ⟨gb,hgb,hlow,-⟩:=kY r0 (by omega);subst hgb
    have el:Es.length=E0.length:=by have e:=congrArg List.length DD.out.fe;rw[List.length_map,List.length_map]at e;exact e
    have hel:Es[k]=E0[k]:=by
     have e:=DD.out.de;rw[List.drop_eq_getElem_cons hkL,List.drop_eq_getElem_cons hlt]at e;exact (List.cons.inj e).1
    have hpar:=PE.out E0[k] (List.getElem_mem hlt);rw[<- hel]at hpar;obtain ⟨qa,qc,hq,hqa⟩:=hpar;have q1:=wQ mL r0 hkL (r:=4) (by decide) (u:=.slice qa Es[k].1.start.length qc) (by rw[<- hq];rfl);have HQA:=zZ hqa
    have HPUT:Hid (∀ w2 q,Below wr.heap.size wr w2->wU wr.heap.size w2 q Es[k].1.start->PF w0 w nm (.slice x1 A0.length d1) (.slice (some ⟨gb,0,none⟩) E0.length d2) (.slice x3 Ps.length d3) (.slice x4 Os.length d4) A0 E0 Ps Os A0.length (k+1) As (Es.set k (Es[k].1,q)) (w2.setCell ⟨gb,k*5+4,none⟩ q)):=fun w2 q hb hq=>DD.out.putE rfl hkL hb hq
    have HRC:Hid (∀ w2,Below wr.heap.size wr w2->w2.cell? ⟨gb,k*5+4,none⟩=some (.slice qa Es[k].1.start.length qc)/\w2.frozen? ⟨gb,k*5+4,none⟩=false):=fun w2 hb=>⟨zR hb q1,by
     have r2:=yY r0 hb;rw[el]at r2
     exact World.ownsRow.frozenAt r2 _⟩
    generalize hzs:Es[k].1.start=zs at *
    have CO:Hid (∀ U,Below wr.heap.size wr U->Calls Tryz.prog 93 #[.slice qa zs.length qc] U (kQ U zs.length zs)):=fun U hb=>mN qa zs zs.length qc U ((HQA.out.below (DD.out.bel.mono (Nat.le_refl _))).below hb)
    clear r0 hel hq hqa hlow hzs el
    go_upto_region 9 with fail
    refine yK 10 (fun i u v=>match i with
     |0=>v=.pointer (some ⟨w.heap.size,2,none⟩)
     |1=>v=.slice (some ⟨gb,0,none⟩) E0.length d2
     |2=>v=.int .i64 (k:Int)
     |3=>v=.pointer (some ⟨w.heap.size,2,none⟩)
     |4=>v=.slice (some ⟨gb,0,none⟩) E0.length d2
     |5=>v=.int .i64 (k:Int)
     |6=>v=.pointer (some ⟨gb,k*5,none⟩)
     |7=>v=.pointer (some ⟨gb,k*5+4,none⟩)
     |8=>v=.slice qa zs.length qc
     |9=>oV wr zs u v
     |_=>True) (by kernel_rfl) (by kernel_rfl) (by kernel_rfl) (by kernel_rfl) ?_ ?_ ?_
    ·intro i w v w' h hb
     match i,h with
     |0,h=>exact h
     |1,h=>exact h
     |2,h=>exact h
     |3,h=>exact h
     |4,h=>exact h
     |5,h=>exact h
     |6,h=>exact h
     |7,h=>exact h
     |8,h=>exact h
     |9,h=>exact oV.later h hb
     |_+10,_=>trivial
    ·intro i o ρ w' hi ho hb hc hf hfr zX
     have g1:=zR hb g1;have q1:=zR hb q1
     match i,hi with
     |0,_=>
      simp only[qS]at ho;subst ho;have ts: ρ (.tmp 1)=(qP w.heap.size):=(qR hfr 1);simp[go_sem,ts];exact qB
     |1,_=>
      simp only[qS]at ho;subst ho;have ts: ρ (.tmp 30)=.pointer (some ⟨w.heap.size,2,none⟩):=(qH zX 0 30);simp[go_sem,ts,g1];exact qB
     |2,_=>
      simp only[qS]at ho;subst ho;have ts: ρ (.tmp 4)=.int .i64 (k:Int):=(qR hfr 4);simp[go_sem,ts];exact qB
     |3,_=>
      simp only[qS]at ho;subst ho;have ts: ρ (.tmp 1)=(qP w.heap.size):=(qR hfr 1);simp[go_sem,ts];exact qB
     |4,_=>
      simp only[qS]at ho;subst ho;have ts: ρ (.tmp 33)=.pointer (some ⟨w.heap.size,2,none⟩):=(qH zX 3 33);simp[go_sem,ts,g1];exact qB
     |5,_=>
      simp only[qS]at ho;subst ho;have ts: ρ (.tmp 4)=.int .i64 (k:Int):=(qR hfr 4);simp[go_sem,ts];exact qB
     |6,_=>
      simp only[qS]at ho;subst ho;have t0: ρ (.tmp 34)=.slice (some ⟨gb,0,none⟩) E0.length d2:=(qH zX 4 34);have t1: ρ (.tmp 35)=.int .i64 (k:Int):=(qH zX 5 35);simp[go_sem,t0,t1,hki];exact qB
     |7,_=>
      simp only[qS]at ho;subst ho;have ts: ρ (.tmp 36)=.pointer (some ⟨gb,k*5,none⟩):=(qH zX 6 36);simp[go_sem,ts];exact qB
     |8,_=>
      simp only[qS]at ho;subst ho;have ts: ρ (.tmp 37)=.pointer (some ⟨gb,k*5+4,none⟩):=(qH zX 7 37);simp[go_sem,ts,q1];exact qB
     |9,_=>
      simp only[qS]at ho;subst ho;have ts: ρ (.tmp 38)=.slice qa zs.length qc:=(qH zX 8 38);simp[go_sem,ts,hf];exact ⟨rfl,(CO.out w' hb).mono fun e w'' hh=>dQ hh hb.size⟩
    intro V9 w9 q9 hS;have e0:V9 0=.pointer (some ⟨w.heap.size,2,none⟩):=hS 0 (by decide);have e1:V9 1=.slice (some ⟨gb,0,none⟩) E0.length d2:=hS 1 (by decide);have e2:V9 2=.int .i64 (k:Int):=hS 2 (by decide);have e3:V9 3=.pointer (some ⟨w.heap.size,2,none⟩):=hS 3 (by decide);have e4:V9 4=.slice (some ⟨gb,0,none⟩) E0.length d2:=hS 4 (by decide);have e5:V9 5=.int .i64 (k:Int):=hS 5 (by decide);have e6:V9 6=.pointer (some ⟨gb,k*5,none⟩):=hS 6 (by decide);have e7:V9 7=.pointer (some ⟨gb,k*5+4,none⟩):=hS 7 (by decide);have e8:V9 8=.slice qa zs.length qc:=hS 8 (by decide);obtain ⟨ca,cc,e9,Q1⟩:oV wr zs w9 (V9 9):=hS 9 (by decide);simp only[List.drop_succ_cons,List.drop_zero,List.take_succ_cons,List.take_zero,xA,e0,e1,e2,e3,e4,e5,e6,e7,e8,e9];clear hS e0 e1 e2 e3 e4 e5 e6 e7 e8 e9 V9;simp only[Act.put,qU];have E10:=zZ (HPUT.out w9 (.slice ca zs.length cc) q9 Q1);obtain ⟨s1,f1⟩:=HRC.out w9 q9;clear q9 Q1 q1 HPUT HRC CO
    go_wp2
    go_roundg (E0.length-(k+1))
    case measure=>omega
    case rel=>exact ⟨k+1,_,_,by omega,rfl,by go_num,E10.out⟩
   have hki:¬(k:Int)<(E0.length:Int):=by omega
   have ek:k=E0.length:=by omega
   subst ek;obtain ⟨s0,s1,s2,s3,s4⟩:=qC5 DD.out.gb
   go_wp2_with (refine xI _ rfl 26 (.tmp 2) (.tmp 43) rfl rfl (w.heap.size+1) 26 _ _ rfl rfl DD.out.rb MG rfl rfl ?_;intro w8 hN hU;have N8:=zZ hN;have U8:=zZ hU;clear hN hU)
   obtain ⟨t0,t1,t2,t3,t4⟩:=qC5 N8.out;refine bodyPost_ret (v:=.agg #[.string (zW nm),.slice x1 A0.length d1,.slice x2 E0.length d2,.slice x3 Ps.length d3,.slice x4 Os.length d4]) (by simp[results,Tryz.results52,go_sem,t0,t1,t2,t3,t4]) rfl ?_
   have d:=DD.out
   have l1:As.length=A0.length:=by have e:=congrArg List.length d.fa;rw[List.length_map,List.length_map]at e;exact e
   have l2:Es.length=E0.length:=by have e:=congrArg List.length d.fe;rw[List.length_map,List.length_map]at e;exact e
   have ta:As.take A0.length=As:=List.take_of_length_le (by omega);have te:Es.take E0.length=Es:=List.take_of_length_le (by omega);have na':=d.na;have ne':=d.ne;have ap':=d.ap;rw[ta]at na' ap';rw[te]at ne' ap';have U:=U8.out;have lo:=d.lo
   have kp:∀ {T c n B:Nat} {v:Value} {xs:List Value},wr.ownsRow B T c v n xs->(∀ k,v.ownBlock=some k->k≠w.heap.size+1)->w8.ownsRow B T c v n xs:=fun r hn=>zT r fun k e=>U.block k (zI r k e) (hn k e)
   refine ⟨As,Es,rfl,⟨⟨kp d.rw.r1 fun k e=>Nat.ne_of_lt (Nat.lt_succ_of_lt (d.l1 k e)),kp d.rw.r2 fun k e=>Nat.ne_of_lt (Nat.lt_succ_of_lt (d.l2 k e)),kp d.rw.r3 fun k e=>Nat.ne_of_lt (Nat.lt_succ_of_lt (d.l3 k e)),kp d.rw.r4 fun k e=>Nat.ne_of_lt (Nat.lt_succ_of_lt (d.l4 k e)),d.rw.n12,d.rw.n13,d.rw.n14,d.rw.n23,d.rw.n24,d.rw.n34⟩,fun p hp=>?_,fun p hp=>?_,ap',fun q hq=>?_⟩,d.fa,d.fe,?_⟩
   ·exact wU.mono (kp (na' p hp) fun k e=>Nat.ne_of_gt (zQ (na' p hp) k e)) (Nat.le_trans lo (Nat.le_add_right _ 2))
   ·exact wU.mono (kp (ne' p hp) fun k e=>Nat.ne_of_gt (zQ (ne' p hp) k e)) (Nat.le_trans lo (Nat.le_add_right _ 2))
   ·have hq2:∀k,q.ownBlock=some k->w.heap.size+2<=k:=fun k e=>by
     rcases List.mem_append.1 hq with hq|hq
     ·obtain ⟨p,hp,rfl⟩:=List.mem_map.1 hq;exact zQ (na' p hp) k e
     obtain ⟨p,hp,rfl⟩:=List.mem_map.1 hq;exact zQ (ne' p hp) k e
    exact ⟨fun k h1 h2=>absurd (d.l1 k h1) (Nat.not_lt_of_ge (Nat.le_trans (Nat.le_add_right _ 2) (hq2 k h2))),fun k h1 h2=>absurd (d.l2 k h1) (Nat.not_lt_of_ge (Nat.le_trans (Nat.le_add_right _ 2) (hq2 k h2))),fun k h1 h2=>absurd (d.l3 k h1) (Nat.not_lt_of_ge (Nat.le_trans (Nat.le_add_right _ 2) (hq2 k h2))),fun k h1 h2=>absurd (d.l4 k h1) (Nat.not_lt_of_ge (Nat.le_trans (Nat.le_add_right _ 2) (hq2 k h2)))⟩
   exact d.bel.trans (U.below (Nat.le_trans lo (Nat.le_succ _)) d.bel.size)
theorem oG {w:World} {o:Oper} {ρ :Operand->Value} (ty:TypeId) (x y:Operand) (ho:o.op=.store ty x y) (b:Nat) (S:TypeId) (old cells:Array Value) (hx: ρ x=(qP b)) (hy: ρ y=.agg cells) (hB:zD S b w old) (hi:(Tryz.prog.info? ty).map (·.size)=some cells.size) (hold:old.size=cells.size) (h1:cells.toList.all (·.oneCell')=true)
 {Q:World->Value->Prop} (h:∀w',zD S b w' cells->tD b w w'->Q w' undef):vC Tryz.prog w Q ((execOp ρ o).run Tryz.prog w):=by
 have hr:=run_storeVar_row (P:=Tryz.prog) w b S ty old cells hB hi hold (by rw[<- Array.all_toList];exact h1);unfold execOp;simp only[ho,hx,hy,Instr.storeAt,Instr.sureAddr,Sem.run_bind,Sem.run_pure,Result.andThen_ok,hr];exact h _ (setRow_heap w b old cells S _ hB) (jE w b cells)
structure Bx (w : World) (sk gz uz : Array Value) (u : World) : Prop where
 s:zD 52 w.heap.size u sk
 g:zD 26 (w.heap.size+1) u gz
 f:zD 33 (w.heap.size+2) u uz
 bel:Below w.heap.size w u
theorem Bx.below {w sk gz uz} {u u':World} (h:Bx w sk gz uz u) (hb:Below u.heap.size u u'):Bx w sk gz uz u':=⟨h.s.below hb,h.g.below hb,h.f.below hb,h.bel.trans (hb.mono h.bel.size)⟩
theorem Bx.setG {w sk gz uz gz'} {u u':World} (h:Bx w sk gz uz u) (hB:zD 26 (w.heap.size+1) u' gz') (hU:tD (w.heap.size+1) u u'):Bx w sk gz' uz u':=
 ⟨h.s.keep (hU.block _ h.s.lt (by omega)),hB,h.f.keep (hU.block _ h.f.lt (by omega)),h.bel.trans (hU.below (Nat.le_succ _) h.bel.size)⟩
theorem Bx.setF {w sk gz uz uz'} {u u':World} (h:Bx w sk gz uz u) (hB:zD 33 (w.heap.size+2) u' uz') (hU:tD (w.heap.size+2) u u'):Bx w sk gz uz' u':=
 ⟨h.s.keep (hU.block _ h.s.lt (by omega)),h.g.keep (hU.block _ h.g.lt (by omega)),hB,h.bel.trans (hU.below (Nat.le_trans (Nat.le_succ _) (Nat.le_succ _)) h.bel.size)⟩
def vE (ns:List Int):Prop:=InR ns/\ns.length*8<=140737488351232
def bH (w:World) (nm:List UInt8) (L:List wJ) (e:Ending) (w':World):Prop:=
 if (vS nm L).2.1=0 then ∃v1 v2 v3 v4 As Es,e=.returned (.tuple #[.agg #[.string (zW nm),v1,v2,v3,v4],.agg #[.int .i64 0,.int .i64 0]])/\eE w.heap.size w' v1 v2 v3 v4 As Es (vS nm L).1.ins (vS nm L).1.outs/\As.map Prod.fst=(vS nm L).1.A/\Es.map Prod.fst=(vS nm L).1.E/\(∀ p ∈ As,p.1.tag<=255/\vE p.1.params)/\(∀ p ∈ Es,vE p.1.start)/\Below w.heap.size w w'
 else e=.returned (.tuple #[.agg #[qE,qN,qN,qN,qN],.agg #[.int .i64 (vS nm L).2.1,.int .i64 (vS nm L).2.2]])/\Below w.heap.size w w'
theorem TV:∀(L:List wJ) (i:Nat),pR L i= -1->∀x ∈ L,1<=x.kind/\x.kind<=4
 |[],_,_,x,hx=>by cases hx
 |y::r,i,h,x,hx=>by
  have e0:pR (y::r) i=if kZ y=true then (i:Int) else pR r (i+1):=rfl;rw[e0]at h
  by_cases hy:kZ y=true
  ·rw [if_pos hy]at h;omega
  rw[if_neg hy]at h
  rcases List.mem_cons.1 hx with rfl|hx
  ·unfold kZ at hy
   simp only[Bool.or_eq_true,decide_eq_true_eq,not_or]at hy;omega
  exact TV r (i+1) h x hx
theorem IY {L:List (wJ × Value)} {k:Nat} (h:k<L.length):(L.map Prod.fst).getD k PJ=(sD L k).1:=by
 unfold sD;rw[List.getD_eq_getElem?_getD,List.getElem?_map,List.getD_eq_getElem?_getD,List.getElem?_eq_getElem h];rfl
theorem WV (g:GG):(yD g).number<=96:=by
 by_cases h0:(rZ g).code=0
 ·have hh:=mO h0
  have lp:∀(n i:Nat) (f:Nat->Int × Nat) (k:Nat),(xB n i f k).number<=i+n:=by
   intro n
   induction n with
   |zero=>intro i f k;exact Nat.zero_le _
   |succ n ih=>
    intro i f k;have e:xB (n+1) i f k=if (f i).1≠0 then ⟨(f i).1,k,i,(f i).2⟩ else xB n (i+1) f k:=rfl;rw[e]
    split
    ·show i<=i+(n+1);omega
    have:=ih (i+1) f k;omega
  rw[bQ];unfold PS;rw[if_neg (by rw[h0];decide)]
  split
  ·have:=lp g.A.length 0 (fun i=>(uN g i,0)) 1;omega
  split
  ·have:=lp g.E.length 0 (tJ g) 2;omega
  split
  ·have:=lp g.ins.length 0 (UM g) 3;omega
  split
  ·have:=lp g.outs.length 0 (lD g) 4;omega
  have:=lp g.A.length 0 (mC g) 1;omega
 have e:yD g=rZ g:=by unfold yD;rw[if_pos h0]
 rw[e];unfold rZ
 repeat' split
 all_goals (first|(show (0:Nat)<=96;decide)|(show (32:Nat)<=96;decide)|(show (96:Nat)<=96;decide)|(show (16:Nat)<=96;decide))
theorem Bx.moved {w sk gz uz} {u u':World} (h:Bx w sk gz uz u) (hb:Below u.heap.size u u'):Bx w sk gz uz u':=h.below hb
theorem IW {w ns L As Es Ps Os} (h:WR w ns L As Es Ps Os):(∀ x ∈ As.map Prod.fst,x.tag<=255/\vE x.params)/\(∀ x ∈ Es.map Prod.fst,vE x.start):=by
 refine ⟨fun x hx=>?_,fun x hx=>?_⟩
 ·obtain ⟨p,hp,rfl⟩:=List.mem_map.1 hx
  obtain ⟨h1,y,c,-,h3⟩:=h.pa p hp;exact ⟨h1,h3.fits,h3.reach⟩
 obtain ⟨p,hp,rfl⟩:=List.mem_map.1 hx;obtain ⟨y,c,-,h3⟩:=h.pe p hp;exact ⟨h3.fits,h3.reach⟩
theorem MB (nm:List UInt8) (a:Option Addr) (n c:Nat) (L:List (wJ × Value)) (w:World) (hn:L.length=n) (h:YQ w a L) (hO:LR w L) (hl:n<=2000000):
 Calls Tryz.prog 23 #[.agg #[.string (zW nm),.slice a n c]] w (bH w nm (L.map Prod.fst)):=by
 have ba:=(((Below.refl w.heap.size w).alloc (Nat.le_refl _) (.cells #[.string (zW nm),.slice a n c] 52)).alloc (by simp) (.cells #[qE,qN,qN,qN,qN] 26)).alloc (by simp;omega) (.cells #[.int .i64 0,.int .i64 0] 33)
 have B0:Hid (Bx w #[.string (zW nm),.slice a n c] #[qE,qN,qN,qN,qN] #[.int .i64 0,.int .i64 0] (((w.alloc (.cells #[.string (zW nm),.slice a n c] 52)).alloc (.cells #[qE,qN,qN,qN,qN] 26)).alloc (.cells #[.int .i64 0,.int .i64 0] 33))):=by
  have sb:=((zL 52 w #[.string (zW nm),.slice a n c]).below ((Below.refl _ _).alloc (Nat.le_refl _) (.cells #[qE,qN,qN,qN,qN] 26))).below ((Below.refl _ _).alloc (Nat.le_refl _) (.cells #[.int .i64 0,.int .i64 0] 33))
  have rb:zD 26 (w.heap.size+1) (((w.alloc (.cells #[.string (zW nm),.slice a n c] 52)).alloc (.cells #[qE,qN,qN,qN,qN] 26)).alloc (.cells #[.int .i64 0,.int .i64 0] 33)) #[qE,qN,qN,qN,qN]:=by
   have h3:=(zL 26 (w.alloc (.cells #[.string (zW nm),.slice a n c] 52)) #[qE,qN,qN,qN,qN]).below ((Below.refl _ _).alloc (Nat.le_refl _) (.cells #[.int .i64 0,.int .i64 0] 33));rw[World.size_alloc]at h3;exact h3
  have gb:zD 33 (w.heap.size+2) (((w.alloc (.cells #[.string (zW nm),.slice a n c] 52)).alloc (.cells #[qE,qN,qN,qN,qN] 26)).alloc (.cells #[.int .i64 0,.int .i64 0] 33)) #[.int .i64 0,.int .i64 0]:=by
   have h3:=zL 33 ((w.alloc (.cells #[.string (zW nm),.slice a n c] 52)).alloc (.cells #[qE,qN,qN,qN,qN] 26)) #[.int .i64 0,.int .i64 0];rw[World.size_alloc,World.size_alloc]at h3;exact h3
  exact ⟨sb,rb,gb,ba⟩
 have IX:=zZ (QZ a n c L _ hn (h.below ba) (by omega));have HR:=zZ h;have HO:=zZ hO;have HL:=zZ hn;have y1:=B0.out.s.cell (k:=1) rfl
 have hnI:(n:Int)<=2000000:=by omega
 have hrg:=bK (L.map Prod.fst) 0;rw[List.length_map,hn]at hrg;obtain ⟨ix,hix⟩:∃q,pR (L.map Prod.fst) 0=q:=⟨_,rfl⟩;have HIX:=zZ hix;rw[hix]at IX hrg;clear ba h hO hn hix
 rcases hrg with hrg|hrg
 ·subst hrg
  have LU:Hid (∀ U,Below w.heap.size w U->Calls Tryz.prog 50 #[.agg #[.string (zW nm),.slice a n c]] U (DC U nm (L.map Prod.fst))):=fun U hb=>QY nm a n c L U HL.out (HR.out.below hb) (HO.out.below hb) hl (fun p hp=>TV _ _ HIX.out p.1 (List.mem_map_of_mem hp))
  have HBS:Hid (vS nm (L.map Prod.fst)=if (yD (sG nm (L.map Prod.fst))).code≠0 then (IA,(yD (sG nm (L.map Prod.fst))).code,tU (L.map Prod.fst) 0 (yD (sG nm (L.map Prod.fst)))) else (sG nm (L.map Prod.fst),0,0)):=by
   show _=_;unfold vS;rw[HIX.out,if_neg (by decide)]
  obtain ⟨⟨fc,fk,fnr,fs⟩,hff⟩:∃f,yD (sG nm (L.map Prod.fst))=f:=⟨_,rfl⟩
  have HNR:fnr<=96:=by have q:=WV (sG nm (L.map Prod.fst));rw[hff]at q;exact q
  have PL:Hid (∀ U,Below w.heap.size w U->Calls Tryz.prog 51 #[.agg #[.int .i64 fc,.int .u8 (fk:Int),.int .i64 (fnr:Int),.int .u8 (fs:Int)],.slice a n c] U fun e w'=>e=.returned (.int .i64 (tU (L.map Prod.fst) 0 ⟨fc,fk,fnr,fs⟩))/\Below U.heap.size U w'):=fun U hb=>UD ⟨fc,fk,fnr,fs⟩ a n c L U HL.out (HR.out.below hb) (by omega) (by show fnr<=1000;omega)
  rw[hff]at HBS;have HFF:=zZ hff;clear hff
  go_enter Tryz.func23,Tryz.ntmps23
  go_upto_region 1 with fail
  generalize ((w.alloc (.cells #[.string (zW nm),.slice a n c] 52)).alloc (.cells #[qE,qN,qN,qN,qN] 26)).alloc (.cells #[.int .i64 0,.int .i64 0] 33)=W0 at *
  go_upto_region 4 with (go_at_call 48;(with_reducible refine IX.out.mono ?_);rintro e w1 ⟨rfl,b1⟩;have B1:=zZ (B0.out.below b1);clear b1 y1)
  have y0:w1.cell? ⟨w.heap.size,0,none⟩=some (.string (zW nm)):=B1.out.s.cell rfl;have y1:w1.cell? ⟨w.heap.size,1,none⟩=some (.slice a n c):=B1.out.s.cell rfl;have LU1:=zZ (LU.out w1 B1.out.bel);clear LU IX B0
  go_upto_region 5 with (go_at_call 50;(with_reducible refine LU1.out.mono ?_);rintro e w2 ⟨v1,v2,v3,v4,As,Es,Ps,Os,rfl,hG,hL,b2⟩;obtain ⟨x1,d1,rfl⟩:=xD hG.r1;obtain ⟨x2,d2,rfl⟩:=xD hG.r2;obtain ⟨x3,d3,rfl⟩:=xD hG.r3;obtain ⟨x4,d4,rfl⟩:=xD hG.r4;have HGR:=zZ hG;have HLL:=zZ hL;have B2:=zZ b2;clear hG hL b2 y0 y1)
  have bv:=(Below.refl w2.heap.size w2).alloc (Nat.le_refl _) (.cells #[.string (zW nm),.slice x1 As.length d1,.slice x2 Es.length d2,.slice x3 Ps.length d3,.slice x4 Os.length d4] 26);have BXV:=zZ ((B1.out.below B2.out).below bv);have G5:=zZ (zL 26 w2 #[.string (zW nm),.slice x1 As.length d1,.slice x2 Es.length d2,.slice x3 Ps.length d3,.slice x4 Os.length d4]);obtain ⟨z0,z1,z2,z3,z4⟩:=qC5 G5.out
  have hgg:(⟨nm,As.map Prod.fst,Es.map Prod.fst,Ps,Os⟩:GG)=sG nm (L.map Prod.fst):=by
   have q:=HLL.out;unfold sG DE;rw[<- q.a,<-q.e,<-q.i,<-q.o]
  have HGG:=zZ hgg;have hlen:=HLL.out.len;rw[List.length_map,HL.out]at hlen
  have FF:Hid (Calls Tryz.prog 43 #[.agg #[.string (zW nm),.slice x1 As.length d1,.slice x2 Es.length d2,.slice x3 Ps.length d3,.slice x4 Os.length d4]] (w2.alloc (.cells #[.string (zW nm),.slice x1 As.length d1,.slice x2 Es.length d2,.slice x3 Ps.length d3,.slice x4 Os.length d4] 26)) fun e w'=>e=.returned (.agg #[.int .i64 fc,.int .u8 (fk:Int),.int .i64 (fnr:Int),.int .u8 (fs:Int)])/\Below (w2.alloc (.cells #[.string (zW nm),.slice x1 As.length d1,.slice x2 Es.length d2,.slice x3 Ps.length d3,.slice x4 Os.length d4] 26)).heap.size (w2.alloc (.cells #[.string (zW nm),.slice x1 As.length d1,.slice x2 Es.length d2,.slice x3 Ps.length d3,.slice x4 Os.length d4] 26)) w'):=by
   have gr:=HGR.out.keep (w':=w2.alloc (.cells #[.string (zW nm),.slice x1 As.length d1,.slice x2 Es.length d2,.slice x3 Ps.length d3,.slice x4 Os.length d4] 26)) fun k _ hk=>bv.block k hk
   have b12:=B2.out.trans (bv.mono B2.out.size);have ga:=WY gr.r1 (fun p hp=>by obtain ⟨p1,x,c,p2,p3⟩:=HLL.out.pa p hp;exact ⟨p1,x,c,p2,p3.below b12⟩);have ge:=WX gr.r2 (fun p hp=>by obtain ⟨x,c,p2,p3⟩:=HLL.out.pe p hp;exact ⟨x,c,p2,p3.below b12⟩);have r:=jR ⟨nm,As.map Prod.fst,Es.map Prod.fst,Ps,Os⟩ x1 x2 x3 x4 d1 d2 d3 d4 (w2.alloc (.cells #[.string (zW nm),.slice x1 As.length d1,.slice x2 Es.length d2,.slice x3 Ps.length d3,.slice x4 Os.length d4] 26)) ga.at ge.at (gT gr.r3) (gT gr.r4) (by show (As.map Prod.fst).length<=_;rw[List.length_map];omega) (by show (Es.map Prod.fst).length<=_;rw[List.length_map];omega) (by show Ps.length<=_;omega) (by show Os.length<=_;omega);rw[hgg,HFF.out]at r;rw[<- hgg]at r;simp only[List.length_map]at r;exact r
  have BV2:=zZ bv;clear bv hgg LU1;generalize w2.alloc (.cells #[.string (zW nm),.slice x1 As.length d1,.slice x2 Es.length d2,.slice x3 Ps.length d3,.slice x4 Os.length d4] 26)=V2 at *
  go_upto_region 6 with (first
   |(refine xI _ rfl 85 (.tmp 6) (.tmp 23) rfl rfl w3.heap.size 85 _ _ rfl rfl (zL 85 w3 #[.int .i64 0,.int .u8 0,.int .i64 0,.int .u8 0]) sizF rfl rfl ?_;intro w4 hN hU;have N4:=zZ hN;have U4:=zZ hU;clear hN hU)
   |(go_at_call 43;(with_reducible refine FF.out.mono ?_);rintro e w3 ⟨rfl,b3⟩;have B3:=zZ b3;clear b3 z0 z1 z2 z3 z4))
  have B34:Hid (Below V2.heap.size V2 w4):=by
   have q:=B3.out.alloc B3.out.size (.cells #[.int .i64 0,.int .u8 0,.int .i64 0,.int .u8 0] 85);exact q.trans (U4.out.below B3.out.size q.size)
  have B6:=zZ (BXV.out.below B34.out);have G6:=zZ (G5.out.below B34.out);have F6:=N4;obtain ⟨b6,hb6⟩:∃q,w3.heap.size=q:=⟨_,rfl⟩
  have N61:Hid (b6≠w.heap.size+1):=by
   have h1:=BXV.out.g.lt;have h2:=B3.out.size;show _≠_
   omega
  have N62:Hid (b6≠w.heap.size+2):=by
   have h1:=BXV.out.f.lt;have h2:=B3.out.size;show _≠_
   omega
  rw[hb6]at F6;have f0:w4.cell? ⟨b6,0,none⟩=some (.int .i64 fc):=F6.out.cell rfl;clear FF B3 U4 N4
  by_cases hfc:fc=0
  ·subst hfc
   have hBS:vS nm (L.map Prod.fst)=(sG nm (L.map Prod.fst),0,0):=by rw[HBS.out,if_neg (by decide)]
   have hso:=mO ((nL (sG nm (L.map Prod.fst))).1 (by rw[HFF.out])).head;rw[<- HGG.out]at hso
   have ha32:As.length<=32:=by have q:(As.map Prod.fst).length<=32:=hso.2.2.1;rw[List.length_map]at q;exact q
   have he96:Es.length<=96:=by have q:(Es.map Prod.fst).length<=96:=hso.2.2.2.1;rw[List.length_map]at q;exact q
   have B14:Hid (Below w1.heap.size w1 w4):=by
    have q1:=B2.out;have q2:Below w2.heap.size w2 V2:=BV2.out;exact (q1.trans (q2.mono q1.size)).trans (B34.out.mono (Nat.le_trans q1.size q2.size))
   have OW:Hid (Calls Tryz.prog 52 #[.agg #[.string (zW nm),.slice x1 As.length d1,.slice x2 Es.length d2,.slice x3 Ps.length d3,.slice x4 Os.length d4]] w4 (OwnE w1 nm (.slice x1 As.length d1) (.slice x2 Es.length d2) (.slice x3 Ps.length d3) (.slice x4 Os.length d4) As Es Ps Os)):=
    WW nm _ _ _ _ As Es Ps Os w1 w4 B14.out (HGR.out.keep fun k _ hk=>(B34.out.block k (Nat.lt_of_lt_of_le hk BV2.out.size)).trans (BV2.out.block k hk)) HLL.out.pa HLL.out.pe (by omega) (by omega)
   obtain ⟨z0,z1,z2,z3,z4⟩:=qC5 G6.out;rw[hb6]
   go_wp2_with (first
    |(refine xI _ rfl 33 (.tmp 3) (.tmp 37) rfl rfl (w.heap.size+2) 33 _ _ rfl rfl BY.out.f MF rfl rfl ?_;intro w8 hN hU;have BZ:=zZ (BY.out.setF hN hU);have U8:=zZ hU;clear hN hU)
    |(refine xI _ rfl 26 (.tmp 2) (.tmp 36) rfl rfl (w.heap.size+1) 26 _ _ rfl rfl B7.out.g MG rfl rfl ?_;intro w6 hN hU;have BY:=zZ (B7.out.setG hN hU);have U6:=zZ hU;clear hN hU)
    |(go_at_call 52;(with_reducible refine OW.out.mono ?_);rintro e w5 ⟨As',Es',rfl,hW,hfa,hfe,b5⟩;have HW:=zZ hW;have HFA:=zZ hfa;have HFE:=zZ hfe;have B5:=zZ b5;have B7:=zZ (Bx.moved B1.out b5);clear hW hfa hfe b5 z0 z1 z2 z3 z4))
   obtain ⟨r0,r1,r2,r3,r4⟩:=qC5 BZ.out.g;have u0:w8.cell? ⟨w.heap.size+2,0,none⟩=some (.int .i64 0):=BZ.out.f.cell rfl;have u1:w8.cell? ⟨w.heap.size+2,1,none⟩=some (.int .i64 0):=BZ.out.f.cell rfl;refine bodyPost_ret (v:=.tuple #[.agg #[.string (zW nm),.slice x1 As.length d1,.slice x2 Es.length d2,.slice x3 Ps.length d3,.slice x4 Os.length d4],.agg #[.int .i64 0,.int .i64 0]]) (by simp[results,Tryz.results23,go_sem,r0,r1,r2,r3,r4,u0,u1]) rfl ?_
   unfold bH;rw[hBS,if_pos rfl,<-HGG.out];have hw1:w.heap.size+2<w1.heap.size:=B1.out.f.lt;have hnums:=IW HLL.out;refine ⟨_,_,_,_,As',Es',rfl,?_,HFA.out,HFE.out,fun p hp=>?_,fun p hp=>?_,BZ.out.bel⟩
   ·exact (HW.out.keep fun k h1 h2=>((U8.out.block k (Nat.lt_of_lt_of_le h2 U6.out.size) (Nat.ne_of_gt (Nat.lt_of_lt_of_le hw1 h1))).trans (U6.out.block k h2 (Nat.ne_of_gt (Nat.lt_of_lt_of_le (Nat.lt_trans (Nat.lt_succ_self _) hw1) h1))))).mono B1.out.bel.size
   ·exact hnums.1 p.1 (by rw[<- HFA.out];exact List.mem_map_of_mem hp)
   exact hnums.2 p.1 (by rw[<- HFE.out];exact List.mem_map_of_mem hp)
  have hfb:(fc !=0)=true:=by simpa using hfc
  have hBS:vS nm (L.map Prod.fst)=(IA,fc,tU (L.map Prod.fst) 0 ⟨fc,fk,fnr,fs⟩):=by rw[HBS.out,if_pos hfc]
  have HB9:=zZ hBS;clear hBS HGR HLL HGG HBS;generalize tU (L.map Prod.fst) 0 ⟨fc,fk,fnr,fs⟩=at9 at *;rw[hb6];clear hb6
  go_upto_region 7 with fail
  refine yP [8,9] (fun d i u z=>match i with
   |0=>z=.agg #[qE,qN,qN,qN,qN]
   |1=>z=(qP b6)
   |2=>z=.int .i64 fc
   |3=>z=.agg #[.int .i64 fc,.int .u8 (fk:Int),.int .i64 (fnr:Int),.int .u8 (fs:Int)]
   |4=>z=.pointer (some ⟨w.heap.size,1,none⟩)
   |5=>z=.slice a n c
   |6=>z=.int .i64 at9
   |7=>z=.agg #[.int .i64 fc,.int .i64 at9]
   |8=>True
   |9=>True
   |_=>True) (fun d u=>(d 9=true->Bx w #[.string (zW nm),.slice a n c] #[qE,qN,qN,qN,qN] #[.int .i64 fc,.int .i64 at9] u)/\(d 9=false->Bx w #[.string (zW nm),.slice a n c] #[qE,qN,qN,qN,qN] #[.int .i64 0,.int .i64 0] u)/\zD 85 b6 u #[.int .i64 fc,.int .u8 (fk:Int),.int .i64 (fnr:Int),.int .u8 (fs:Int)]) (by kernel_rfl) (by kernel_rfl) (by kernel_rfl) ?_ ?_ ?_ ?_ ?_ ?_ (by kernel_rfl)
  ·intro d i w v w' h hb
   match i,h with
   |0,h=>exact h
   |1,h=>exact h
   |2,h=>exact h
   |3,h=>exact h
   |4,h=>exact h
   |5,h=>exact h
   |6,h=>exact h
   |7,h=>exact h
   |8,h=>exact h
   |9,h=>exact h
   |_+10,_=>trivial
  ·intro d u u' h hb
   exact ⟨fun e=>(h.1 e).below hb,fun e=>(h.2.1 e).below hb,h.2.2.below hb⟩
  ·exact ⟨fun e=>absurd e (by decide),fun _=>B6.out,F6.out⟩
  ·intro d i o ρ w' hm ho hf hg hC hcs hfs hfr zX
   match i,hm,ho,hf,hg,hfr,zX with
   |0,_,ho,hf,hg,hfr,zX=>
    simp only[qS]at ho;subst ho;refine ⟨fun _=>?_,qF⟩
    simp[go_sem];exact qB
   |1,_,ho,hf,hg,hfr,zX=>
    simp only[qS]at ho;subst ho;refine ⟨fun _=>?_,qF⟩
    have ts: ρ (.tmp 6)=(qP b6):=(qR hfr 6);simp[go_sem,ts];exact qB
   |2,_,ho,hf,hg,hfr,zX=>
    simp only[qS]at ho;subst ho;refine ⟨fun _=>?_,qF⟩
    have cc:w'.cell? ⟨b6,0,none⟩=some (.int .i64 fc):=hC.2.2.cell rfl;have d0: ρ (.tmp 28)=(qP b6):=(qH zX 1 28);simp[go_sem,d0,cc];exact qB
   |3,_,ho,hf,hg,hfr,zX=>
    simp only[qS]at ho;subst ho;refine ⟨fun _=>?_,qF⟩
    have ts: ρ (.tmp 6)=(qP b6):=(qR hfr 6);have cc0:w'.cell? ⟨b6,0,none⟩=some (.int .i64 fc):=hC.2.2.cell rfl;have cc1:w'.cell? ⟨b6,1,none⟩=some (.int .u8 (fk:Int)):=hC.2.2.cell rfl;have cc2:w'.cell? ⟨b6,2,none⟩=some (.int .i64 (fnr:Int)):=hC.2.2.cell rfl;have cc3:w'.cell? ⟨b6,3,none⟩=some (.int .u8 (fs:Int)):=hC.2.2.cell rfl;simp[go_sem,ts,cc0,cc1,cc2,cc3];exact qB
   |4,_,ho,hf,hg,hfr,zX=>
    simp only[qS]at ho;subst ho;refine ⟨fun _=>?_,qF⟩
    have ts: ρ (.tmp 1)=(qP w.heap.size):=(qR hfr 1);simp[go_sem,ts];exact qB
   |5,_,ho,hf,hg,hfr,zX=>
    simp only[qS]at ho;subst ho;refine ⟨fun _=>?_,qF⟩
    have bx:Bx w #[.string (zW nm),.slice a n c] #[qE,qN,qN,qN,qN] #[.int .i64 0,.int .i64 0] w':=hC.2.1 (hf 9 (by decide) (by kernel_rfl));have cc:w'.cell? ⟨w.heap.size,1,none⟩=some (.slice a n c):=bx.s.cell rfl;have d0: ρ (.tmp 31)=.pointer (some ⟨w.heap.size,1,none⟩):=(qH zX 4 31);simp[go_sem,d0,cc];exact qB
   |6,_,ho,hf,hg,hfr,zX=>
    simp only[qS]at ho;subst ho;refine ⟨fun _=>?_,qF⟩
    have bx:Bx w #[.string (zW nm),.slice a n c] #[qE,qN,qN,qN,qN] #[.int .i64 0,.int .i64 0] w':=hC.2.1 (hf 9 (by decide) (by kernel_rfl));have t0: ρ (.tmp 30)=.agg #[.int .i64 fc,.int .u8 (fk:Int),.int .i64 (fnr:Int),.int .u8 (fs:Int)]:=(qH zX 3 30);have t1: ρ (.tmp 32)=.slice a n c:=(qH zX 5 32);simp[go_sem,t0,t1,hfs];exact ⟨rfl,(PL.out w' bx.bel).mono fun e w'' hh=>⟨_,hh.1,hh.2,rfl⟩⟩
   |7,_,ho,hf,hg,hfr,zX=>
    simp only[qS]at ho;subst ho;refine ⟨fun _=>?_,qF⟩
    have d0: ρ (.tmp 29)=.int .i64 fc:=(qH zX 2 29);have d1: ρ (.tmp 33)=.int .i64 at9:=(qH zX 6 33);simp[go_sem,d0,d1];exact qB
   |8,hm,_,_,_,_,_=>exact qD hm
   |9,hm,_,_,_,_,_=>exact qD hm
   |n+10,_,ho,_,_,_,_=>simp at ho
  ·intro d i o ρ w' hm ho h0 hf hg hC hcs hfs hfr zX
   match i,hm,ho,h0,hf,hg,hfr,zX with
   |0,hm,_,_,_,_,_,_=>exact qD hm
   |1,hm,_,_,_,_,_,_=>exact qD hm
   |2,hm,_,_,_,_,_,_=>exact qD hm
   |3,hm,_,_,_,_,_,_=>exact qD hm
   |4,hm,_,_,_,_,_,_=>exact qD hm
   |5,hm,_,_,_,_,_,_=>exact qD hm
   |6,hm,_,_,_,_,_,_=>exact qD hm
   |7,hm,_,_,_,_,_,_=>exact qD hm
   |8,_,ho,h0,hf,hg,hfr,zX=>
    simp only[qS]at ho;subst ho;refine ⟨rfl,?_⟩
    have t0: ρ (.tmp 27)=.agg #[qE,qN,qN,qN,qN]:=(qH zX 0 27);have tp: ρ (.tmp 2)=(qP (w.heap.size+1)):=(qR hfr 2);refine oG 26 (.tmp 2) (.tmp 27) rfl (w.heap.size+1) 26 _ _ tp t0 (hC.2.1 (hf 9 (by decide) (by kernel_rfl))).g MG rfl rfl ?_
    intro w8 hB8 hU8;refine ⟨⟨fun e=>absurd ((hf 9 (by decide) (by kernel_rfl)).symm.trans (by simpa [zA] using e)) (by decide),fun _=>(hC.2.1 (hf 9 (by decide) (by kernel_rfl))).setG hB8 hU8,hC.2.2.keep (hU8.block _ hC.2.2.lt N61.out)⟩,fun h=>absurd rfl h,?_⟩
    intro j t _ hs
    match j,hs with
    |0,hs=>exact hs
    |1,hs=>exact hs
    |2,hs=>exact hs
    |3,hs=>exact hs
    |4,hs=>exact hs
    |5,hs=>exact hs
    |6,hs=>exact hs
    |7,hs=>exact hs
    |8,hs=>exact hs
    |9,hs=>exact hs
    |_+10,_=>trivial
   |9,_,ho,h0,hf,hg,hfr,zX=>
    simp only[qS]at ho;subst ho;refine ⟨rfl,?_⟩
    have t0: ρ (.tmp 34)=.agg #[.int .i64 fc,.int .i64 at9]:=(qH zX 7 34);have tp: ρ (.tmp 3)=(qP (w.heap.size+2)):=(qR hfr 3);refine oG 33 (.tmp 3) (.tmp 34) rfl (w.heap.size+2) 33 _ _ tp t0 (hC.2.1 h0).f MF rfl rfl ?_
    intro w8 hB8 hU8;refine ⟨⟨fun _=>(hC.2.1 h0).setF hB8 hU8,fun e=>absurd e (by simp[zA]),hC.2.2.keep (hU8.block _ hC.2.2.lt N62.out)⟩,fun h=>absurd rfl h,?_⟩
    intro j t _ hs
    match j,hs with
    |0,hs=>exact hs
    |1,hs=>exact hs
    |2,hs=>exact hs
    |3,hs=>exact hs
    |4,hs=>exact hs
    |5,hs=>exact hs
    |6,hs=>exact hs
    |7,hs=>exact hs
    |8,hs=>exact hs
    |9,hs=>exact hs
    |_+10,_=>trivial
   |n+10,_,ho,_,_,_,_,_=>simp at ho
  intro V w9 hC9 hS;simp only[xA,uH];simp only[Act.put,qU];clear hS;have BZ:=zZ (hC9.1 rfl);clear hC9
  go_wp2
  obtain ⟨r0,r1,r2,r3,r4⟩:=qC5 BZ.out.g;have u0:w9.cell? ⟨w.heap.size+2,0,none⟩=some (.int .i64 fc):=BZ.out.f.cell rfl;have u1:w9.cell? ⟨w.heap.size+2,1,none⟩=some (.int .i64 at9):=BZ.out.f.cell rfl;refine bodyPost_ret (v:=.tuple #[.agg #[qE,qN,qN,qN,qN],.agg #[.int .i64 fc,.int .i64 at9]]) (by simp[results,Tryz.results23,go_sem,r0,r1,r2,r3,r4,u0,u1]) rfl ?_
  unfold bH;rw[HB9.out,if_neg (by exact hfc)];exact ⟨rfl,BZ.out.bel⟩
 obtain ⟨k,rfl⟩:∃k:Nat,ix=(k:Int):=⟨ix.toNat,by omega⟩
 have hk:k<n:=by omega
 have hki:(k:Int)<(n:Int):=by omega
 have hk0:(0:Int)<=(k:Int):=by omega
 rcases HR.out.lie with e|⟨gb,off,rfl,hc⟩
 ·have:=HL.out;rw[e]at this;simp at this;omega
 obtain ⟨pl,hpl⟩:∃q,(sD L k).1.place=q:=⟨_,rfl⟩;have HPL:=zZ (hc k (by have:=HL.out;omega)).c10;rw[hpl]at HPL
 have hBS:vS nm (L.map Prod.fst)=(IA,1,pl):=by
  unfold vS;rw[HIX.out,if_pos hk0,Int.toNat_natCast,IY (by have:=HL.out;omega),hpl]
 have HB9:=zZ hBS;clear hBS hpl hc
 go_enter Tryz.func23,Tryz.ntmps23
 go_upto_region 1 with fail
 generalize ((w.alloc (.cells #[.string (zW nm),.slice (some ⟨gb,off,none⟩) n c] 52)).alloc (.cells #[qE,qN,qN,qN,qN] 26)).alloc (.cells #[.int .i64 0,.int .i64 0] 33)=W0 at *
 go_upto_region 3 with (go_at_call 48;(with_reducible refine IX.out.mono ?_);rintro e w1 ⟨rfl,b1⟩;have B1:=zZ (B0.out.below b1);clear b1 y1)
 clear IX B0
 refine yP [8,9] (fun d i u z=>match i with
  |0=>z=.agg #[qE,qN,qN,qN,qN]
  |1=>z=.pointer (some ⟨w.heap.size,1,none⟩)
  |2=>z=.slice (some ⟨gb,off,none⟩) n c
  |3=>z=.int .i64 (k:Int)
  |4=>z=.pointer (some ⟨gb,off+k*11,none⟩)
  |5=>z=.pointer (some ⟨gb,off+k*11+10,none⟩)
  |6=>z=.int .i64 pl
  |7=>z=.agg #[.int .i64 1,.int .i64 pl]
  |8=>True
  |9=>True
  |_=>True) (fun d u=>(d 9=true->Bx w #[.string (zW nm),.slice (some ⟨gb,off,none⟩) n c] #[qE,qN,qN,qN,qN] #[.int .i64 1,.int .i64 pl] u)/\(d 9=false->Bx w #[.string (zW nm),.slice (some ⟨gb,off,none⟩) n c] #[qE,qN,qN,qN,qN] #[.int .i64 0,.int .i64 0] u)) (by kernel_rfl) (by kernel_rfl) (by kernel_rfl) ?_ ?_ ?_ ?_ ?_ ?_ (by kernel_rfl)
 ·intro d i w v w' h hb
  match i,h with
  |0,h=>exact h
  |1,h=>exact h
  |2,h=>exact h
  |3,h=>exact h
  |4,h=>exact h
  |5,h=>exact h
  |6,h=>exact h
  |7,h=>exact h
  |8,h=>exact h
  |9,h=>exact h
  |_+10,_=>trivial
 ·intro d u u' h hb
  exact ⟨fun e=>(h.1 e).below hb,fun e=>(h.2 e).below hb⟩
 ·exact ⟨fun e=>absurd e (by decide),fun _=>B1.out⟩
 ·intro d i o ρ w' hm ho hf hg hC hcs hfs hfr zX
  match i,hm,ho,hf,hg,hfr,zX with
  |0,_,ho,hf,hg,hfr,zX=>
   simp only[qS]at ho;subst ho;refine ⟨fun _=>?_,qF⟩
   simp[go_sem];exact qB
  |1,_,ho,hf,hg,hfr,zX=>
   simp only[qS]at ho;subst ho;refine ⟨fun _=>?_,qF⟩
   have ts: ρ (.tmp 1)=(qP w.heap.size):=(qR hfr 1);simp[go_sem,ts];exact qB
  |2,_,ho,hf,hg,hfr,zX=>
   simp only[qS]at ho;subst ho;refine ⟨fun _=>?_,qF⟩
   have bx:Bx w #[.string (zW nm),.slice (some ⟨gb,off,none⟩) n c] #[qE,qN,qN,qN,qN] #[.int .i64 0,.int .i64 0] w':=hC.2 (hf 9 (by decide) (by kernel_rfl));have cc:w'.cell? ⟨w.heap.size,1,none⟩=some (.slice (some ⟨gb,off,none⟩) n c):=bx.s.cell rfl;have d0: ρ (.tmp 13)=.pointer (some ⟨w.heap.size,1,none⟩):=(qH zX 1 13);simp[go_sem,d0,cc];exact qB
  |3,_,ho,hf,hg,hfr,zX=>
   simp only[qS]at ho;subst ho;refine ⟨fun _=>?_,qF⟩
   have ts: ρ (.tmp 4)=.int .i64 (k:Int):=(qR hfr 4);simp[go_sem,ts];exact qB
  |4,_,ho,hf,hg,hfr,zX=>
   simp only[qS]at ho;subst ho;refine ⟨fun _=>?_,qF⟩
   have d0: ρ (.tmp 14)=.slice (some ⟨gb,off,none⟩) n c:=(qH zX 2 14);have d1: ρ (.tmp 15)=.int .i64 (k:Int):=(qH zX 3 15);simp[go_sem,d0,d1,hki];exact qB
  |5,_,ho,hf,hg,hfr,zX=>
   simp only[qS]at ho;subst ho;refine ⟨fun _=>?_,qF⟩
   have d0: ρ (.tmp 16)=.pointer (some ⟨gb,off+k*11,none⟩):=(qH zX 4 16);simp[go_sem,d0];exact qB
  |6,_,ho,hf,hg,hfr,zX=>
   simp only[qS]at ho;subst ho;refine ⟨fun _=>?_,qF⟩
   have bx:Bx w #[.string (zW nm),.slice (some ⟨gb,off,none⟩) n c] #[qE,qN,qN,qN,qN] #[.int .i64 0,.int .i64 0] w':=hC.2 (hf 9 (by decide) (by kernel_rfl));have cc:w'.cell? ⟨gb,off+k*11+10,none⟩=some (.int .i64 pl):=zR bx.bel HPL.out;have d0: ρ (.tmp 17)=.pointer (some ⟨gb,off+k*11+10,none⟩):=(qH zX 5 17);simp[go_sem,d0,cc];exact qB
  |7,_,ho,hf,hg,hfr,zX=>
   simp only[qS]at ho;subst ho;refine ⟨fun _=>?_,qF⟩
   have d0: ρ (.tmp 18)=.int .i64 pl:=(qH zX 6 18);simp[go_sem,d0,hcs];exact qB
  |8,hm,_,_,_,_,_=>exact qD hm
  |9,hm,_,_,_,_,_=>exact qD hm
  |n+10,_,ho,_,_,_,_=>simp at ho
 ·intro d i o ρ w' hm ho h0 hf hg hC hcs hfs hfr zX
  match i,hm,ho,h0,hf,hg,hfr,zX with
  |0,hm,_,_,_,_,_,_=>exact qD hm
  |1,hm,_,_,_,_,_,_=>exact qD hm
  |2,hm,_,_,_,_,_,_=>exact qD hm
  |3,hm,_,_,_,_,_,_=>exact qD hm
  |4,hm,_,_,_,_,_,_=>exact qD hm
  |5,hm,_,_,_,_,_,_=>exact qD hm
  |6,hm,_,_,_,_,_,_=>exact qD hm
  |7,hm,_,_,_,_,_,_=>exact qD hm
  |8,_,ho,h0,hf,hg,hfr,zX=>
   simp only[qS]at ho;subst ho;refine ⟨rfl,?_⟩
   have t0: ρ (.tmp 12)=.agg #[qE,qN,qN,qN,qN]:=(qH zX 0 12);have tp: ρ (.tmp 2)=(qP (w.heap.size+1)):=(qR hfr 2);refine oG 26 (.tmp 2) (.tmp 12) rfl (w.heap.size+1) 26 _ _ tp t0 (hC.2 (hf 9 (by decide) (by kernel_rfl))).g MG rfl rfl ?_
   intro w8 hB8 hU8;refine ⟨⟨fun e=>absurd ((hf 9 (by decide) (by kernel_rfl)).symm.trans (by simpa [zA] using e)) (by decide),fun _=>(hC.2 (hf 9 (by decide) (by kernel_rfl))).setG hB8 hU8⟩,fun h=>absurd rfl h,?_⟩
   intro j t _ hs
   match j,hs with
   |0,hs=>exact hs
   |1,hs=>exact hs
   |2,hs=>exact hs
   |3,hs=>exact hs
   |4,hs=>exact hs
   |5,hs=>exact hs
   |6,hs=>exact hs
   |7,hs=>exact hs
   |8,hs=>exact hs
   |9,hs=>exact hs
   |_+10,_=>trivial
  |9,_,ho,h0,hf,hg,hfr,zX=>
   simp only[qS]at ho;subst ho;refine ⟨rfl,?_⟩
   have t0: ρ (.tmp 19)=.agg #[.int .i64 1,.int .i64 pl]:=(qH zX 7 19);have tp: ρ (.tmp 3)=(qP (w.heap.size+2)):=(qR hfr 3);refine oG 33 (.tmp 3) (.tmp 19) rfl (w.heap.size+2) 33 _ _ tp t0 (hC.2 h0).f MF rfl rfl ?_
   intro w8 hB8 hU8;refine ⟨⟨fun _=>(hC.2 h0).setF hB8 hU8,fun e=>absurd e (by simp[zA])⟩,fun h=>absurd rfl h,?_⟩
   intro j t _ hs
   match j,hs with
   |0,hs=>exact hs
   |1,hs=>exact hs
   |2,hs=>exact hs
   |3,hs=>exact hs
   |4,hs=>exact hs
   |5,hs=>exact hs
   |6,hs=>exact hs
   |7,hs=>exact hs
   |8,hs=>exact hs
   |9,hs=>exact hs
   |_+10,_=>trivial
  |n+10,_,ho,_,_,_,_,_=>simp at ho
 intro V w9 hC9 hS;simp only[xA,uH];simp only[Act.put,qU];clear hS;have BZ:=zZ (hC9.1 rfl);clear hC9
 go_wp2
 obtain ⟨r0,r1,r2,r3,r4⟩:=qC5 BZ.out.g;have u0:w9.cell? ⟨w.heap.size+2,0,none⟩=some (.int .i64 1):=BZ.out.f.cell rfl;have u1:w9.cell? ⟨w.heap.size+2,1,none⟩=some (.int .i64 pl):=BZ.out.f.cell rfl;refine bodyPost_ret (v:=.tuple #[.agg #[qE,qN,qN,qN,qN],.agg #[.int .i64 1,.int .i64 pl]]) (by simp[results,Tryz.results23,go_sem,r0,r1,r2,r3,r4,u0,u1]) rfl ?_
 unfold bH;rw[HB9.out,if_neg (by show ¬(1:Int)=0;decide)];exact ⟨rfl,BZ.out.bel⟩
theorem tY {B:Nat} {a w:World} (h:Below B a w) (n:Nat):Below B a (w.drewN n):=h.trans ⟨rfl,rfl,rfl,Nat.le_refl _,fun _ _=>rfl⟩
theorem jQ (Ps:List GP) (a b:Option Addr) (n c d:Nat) (w:World) (hn:Ps.length=n) (h1:nN w a Ps) (h2:nN w b Ps) (hl:n<=1000000000000000):
 Calls Tryz.prog 29 #[.slice a n c,.slice b n d] w fun e w'=>e=.returned (.bool true)/\Below w.heap.size w w':=by
 have H1:=zZ h1;have H2:=zZ h2;have HL:=zZ hn
 have hee:((n:Int)!=(n:Int))=false:=by simp
 have hnI:(n:Int)<=1000000000000000:=by omega
 clear h1 h2 hn
 go_enter Tryz.func29,Tryz.ntmps29
 go_wp2
 go_loopg [5] n (fun gk v wr=>∃k:Nat,k<=n/\gk=n-k/\v=.int .i64 (k:Int)/\Below w.heap.size w wr)
 case atStart=>exact ⟨0,Nat.zero_le _,rfl,rfl,Below.refl _ _⟩
 case round=>
  obtain ⟨k,hk,rfl,rfl,hB⟩:=hrel;have HB:=zZ hB;clear hB
  by_cases hlt:k<n
  ·have hki:(k:Int)<(n:Int):=by omega
   have hkl:k<Ps.length:=by have:=HL.out;omega
   rcases H1.out.below HB.out with e|⟨g1,o1,rfl,hc1⟩
   ·rw [e]at hkl;exact absurd hkl (Nat.not_lt_zero _)
   rcases H2.out.below HB.out with e|⟨g2,o2,rfl,hc2⟩
   ·rw [e]at hkl;exact absurd hkl (Nat.not_lt_zero _)
   obtain ⟨x0,x1,x2⟩:=hc1 k hkl;obtain ⟨y0,y1,y2⟩:=hc2 k hkl;generalize wN Ps k=E at *;obtain ⟨nm,ac,po⟩:=E;simp only at x0 x1 x2 y0 y1 y2;clear hc1 hc2
   go_wp2
   go_quiet (fail)
   go_wp2
   go_roundg (n-(k+1))
   case measure=>omega
   case rel=>exact ⟨k+1,by omega,rfl,by go_num,tY HB.out _⟩
  have hki:¬(k:Int)<(n:Int):=by omega
  go_wp2
  go_ret
  exact ⟨rfl,HB.out⟩
theorem aF (g:GG) (a1 a2 a3 a4 b1 b2 b3 b4:Option Addr) (c1 c2 c3 c4 d1 d2 d3 d4:Nat) (w:World) (hA1:IC w a1 g.A) (hE1:DG w a2 g.E) (hI1:nN w a3 g.ins) (hO1:nN w a4 g.outs) (hA2:IC w b1 g.A) (hE2:DG w b2 g.E) (hI2:nN w b3 g.ins) (hO2:nN w b4 g.outs)
 (l1:g.A.length<=1000000000000000) (l2:g.E.length<=1000000000000000) (l3:g.ins.length<=1000000000000000) (l4:g.outs.length<=1000000000000000) (m1:∀x ∈ g.A,x.params.length<=4611686018427387904) (m2:∀x ∈ g.E,x.start.length<=4611686018427387904):
 Calls Tryz.prog 12 #[.agg #[.string (zW g.name),.slice a1 g.A.length c1,.slice a2 g.E.length c2,.slice a3 g.ins.length c3,.slice a4 g.outs.length c4],.agg #[.string (zW g.name),.slice b1 g.A.length d1,.slice b2 g.E.length d2,.slice b3 g.ins.length d3,.slice b4 g.outs.length d4]] w fun e w'=>e=.returned (.bool true)/\Below w.heap.size w w':=by
 have ba:=((Below.refl w.heap.size w).alloc (Nat.le_refl _) (.cells #[.string (zW g.name),.slice a1 g.A.length c1,.slice a2 g.E.length c2,.slice a3 g.ins.length c3,.slice a4 g.outs.length c4] 26)).alloc (by simp) (.cells #[.string (zW g.name),.slice b1 g.A.length d1,.slice b2 g.E.length d2,.slice b3 g.ins.length d3,.slice b4 g.outs.length d4] 26)
 have BX0:Hid (zD 26 w.heap.size ((w.alloc (.cells #[.string (zW g.name),.slice a1 g.A.length c1,.slice a2 g.E.length c2,.slice a3 g.ins.length c3,.slice a4 g.outs.length c4] 26)).alloc (.cells #[.string (zW g.name),.slice b1 g.A.length d1,.slice b2 g.E.length d2,.slice b3 g.ins.length d3,.slice b4 g.outs.length d4] 26)) #[.string (zW g.name),.slice a1 g.A.length c1,.slice a2 g.E.length c2,.slice a3 g.ins.length c3,.slice a4 g.outs.length c4]/\zD 26 (w.heap.size+1) ((w.alloc (.cells #[.string (zW g.name),.slice a1 g.A.length c1,.slice a2 g.E.length c2,.slice a3 g.ins.length c3,.slice a4 g.outs.length c4] 26)).alloc (.cells #[.string (zW g.name),.slice b1 g.A.length d1,.slice b2 g.E.length d2,.slice b3 g.ins.length d3,.slice b4 g.outs.length d4] 26)) #[.string (zW g.name),.slice b1 g.A.length d1,.slice b2 g.E.length d2,.slice b3 g.ins.length d3,.slice b4 g.outs.length d4]/\Below w.heap.size w ((w.alloc (.cells #[.string (zW g.name),.slice a1 g.A.length c1,.slice a2 g.E.length c2,.slice a3 g.ins.length c3,.slice a4 g.outs.length c4] 26)).alloc (.cells #[.string (zW g.name),.slice b1 g.A.length d1,.slice b2 g.E.length d2,.slice b3 g.ins.length d3,.slice b4 g.outs.length d4] 26))):=by
  refine ⟨(zL 26 w #[.string (zW g.name),.slice a1 g.A.length c1,.slice a2 g.E.length c2,.slice a3 g.ins.length c3,.slice a4 g.outs.length c4]).below ((Below.refl _ _).alloc (Nat.le_refl _) (.cells #[.string (zW g.name),.slice b1 g.A.length d1,.slice b2 g.E.length d2,.slice b3 g.ins.length d3,.slice b4 g.outs.length d4] 26)),?_,ba⟩
  have h3:=zL 26 (w.alloc (.cells #[.string (zW g.name),.slice a1 g.A.length c1,.slice a2 g.E.length c2,.slice a3 g.ins.length c3,.slice a4 g.outs.length c4] 26)) #[.string (zW g.name),.slice b1 g.A.length d1,.slice b2 g.E.length d2,.slice b3 g.ins.length d3,.slice b4 g.outs.length d4];rw[World.size_alloc]at h3;exact h3
 have A1:=zZ hA1;have E1:=zZ hE1;have A2:=zZ hA2;have E2:=zZ hE2;have M1:=zZ m1;have M2:=zZ m2
 have PI:Hid (∀ U,Below w.heap.size w U->Calls Tryz.prog 29 #[.slice a3 g.ins.length c3,.slice b3 g.ins.length d3] U fun e w'=>e=.returned (.bool true)/\Below U.heap.size U w'):=fun U hb=>jQ g.ins a3 b3 _ c3 d3 U rfl (hI1.below hb) (hI2.below hb) l3
 have PO:Hid (∀ U,Below w.heap.size w U->Calls Tryz.prog 29 #[.slice a4 g.outs.length c4,.slice b4 g.outs.length d4] U fun e w'=>e=.returned (.bool true)/\Below U.heap.size U w'):=fun U hb=>jQ g.outs a4 b4 _ c4 d4 U rfl (hO1.below hb) (hO2.below hb) l4
 have hstr:((zW g.name).toList==(zW g.name).toList)=true:=by simp
 have hstr2:((zW g.name).toList !=(zW g.name).toList)=false:=by simp
 clear ba hA1 hE1 hI1 hO1 hA2 hE2 hI2 hO2 m1 m2
 have n1:(g.A.length:Int)<=1000000000000000:=by omega
 have n2:(g.E.length:Int)<=1000000000000000:=by omega
 have e1:((g.A.length:Int)!=(g.A.length:Int))=false:=by simp
 have e2:((g.E.length:Int)!=(g.E.length:Int))=false:=by simp
 have q0:=BX0.out.1.cell (k:=0) rfl;have r0:=BX0.out.2.1.cell (k:=0) rfl;have q1:=BX0.out.1.cell (k:=1) rfl;have r1:=BX0.out.2.1.cell (k:=1) rfl;have q2:=BX0.out.1.cell (k:=2) rfl;have r2:=BX0.out.2.1.cell (k:=2) rfl
 go_enter Tryz.func12,Tryz.ntmps12
 go_upto_region 1 with fail
 generalize (w.alloc (.cells #[.string (zW g.name),.slice a1 g.A.length c1,.slice a2 g.E.length c2,.slice a3 g.ins.length c3,.slice a4 g.outs.length c4] 26)).alloc (.cells #[.string (zW g.name),.slice b1 g.A.length d1,.slice b2 g.E.length d2,.slice b3 g.ins.length d3,.slice b4 g.outs.length d4] 26)=W0 at *
 go_wp2
 go_loopg [5] g.A.length (fun gk v wr=>∃k:Nat,k<=g.A.length/\gk=g.A.length-k/\v=.int .i64 (k:Int)/\zD 26 w.heap.size wr #[.string (zW g.name),.slice a1 g.A.length c1,.slice a2 g.E.length c2,.slice a3 g.ins.length c3,.slice a4 g.outs.length c4]/\zD 26 (w.heap.size+1) wr #[.string (zW g.name),.slice b1 g.A.length d1,.slice b2 g.E.length d2,.slice b3 g.ins.length d3,.slice b4 g.outs.length d4]/\Below w.heap.size w wr)
 case atStart=>exact ⟨0,Nat.zero_le _,rfl,rfl,BX0.out⟩
 case round=>
  clear BX0 q0 q1 q2 r0 r1 r2;obtain ⟨k,hk,rfl,rfl,hX⟩:=hrel;have BX:=zZ hX;clear hX;obtain ⟨-,p1,p2,p3,p4⟩:=qC5 BX.out.1;obtain ⟨-,q1,q2,q3,q4⟩:=qC5 BX.out.2.1
  by_cases hlt:k<g.A.length
  ·have hki:(k:Int)<(g.A.length:Int):=by omega
   rcases A1.out.below BX.out.2.2 with e|⟨g1,o1,rfl,hc1⟩
   ·rw [e]at hlt;exact absurd hlt (Nat.not_lt_zero _)
   rcases A2.out.below BX.out.2.2 with e|⟨g2,o2,rfl,hc2⟩
   ·rw [e]at hlt;exact absurd hlt (Nat.not_lt_zero _)
   obtain ⟨x0,x1,-,xa,xc,x2,x3⟩:=hc1 k hlt;obtain ⟨y0,y1,-,ya,yc,y2,y3⟩:=hc2 k hlt;have hm:=M1.out (yI g.A k) (by rw[gV hlt];exact List.getElem_mem hlt);generalize yI g.A k=E at *;obtain ⟨en,tg,ps⟩:=E;simp only at x0 x1 x2 x3 y0 y1 y2 y3 hm;have bv:=((Below.refl wr.heap.size wr).alloc (Nat.le_refl _) (.cells #[.string (zW en),.int .u8 (tg:Int),.slice xa ps.length xc] 62)).alloc (by simp) (.cells #[.string (zW en),.int .u8 (tg:Int),.slice ya ps.length yc] 62);have SI:=zZ (WB xa ya ps ps.length xc yc _ rfl hm (x3.below bv) (y3.below bv));have BV:=zZ bv
   have es:((zW en).toList==(zW en).toList)=true:=by simp
   have et:((tg:Int)!=(tg:Int))=false:=by simp
   have zq:(wr.alloc (.cells #[.string (zW en),.int .u8 (tg:Int),.slice xa ps.length xc] 62)).cell? ⟨w.heap.size+1,1,none⟩=some (.slice (some ⟨g2,o2,none⟩) g.A.length d1):=(BX.out.2.1.below ((Below.refl _ _).alloc (Nat.le_refl _) _)).cell rfl;have k1:=(Below.refl wr.heap.size wr).alloc (Nat.le_refl _) (.cells #[.string (zW en),.int .u8 (tg:Int),.slice xa ps.length xc] 62);have y0:=xE k1 y0;have y1:=xE k1 y1;have y2:=xE k1 y2;clear hc1 hc2 x3 y3 bv hm k1
   go_wp2_with (go_at_call 28;(with_reducible refine SI.out.mono ?_);rintro e w5 ⟨n5,rfl,rfl⟩)
   go_roundg (g.A.length-(k+1))
   case measure=>omega
   case rel=>exact ⟨k+1,by omega,rfl,by go_num,(BX.out.1.below (tY BV.out _)),(BX.out.2.1.below (tY BV.out _)),tY (BX.out.2.2.trans (BV.out.mono BX.out.2.2.size)) _⟩
  have hki:¬(k:Int)<(g.A.length:Int):=by omega
  go_wp2
  go_loopg [8] g.E.length (fun gk v wr=>∃k:Nat,k<=g.E.length/\gk=g.E.length-k/\v=.int .i64 (k:Int)/\zD 26 w.heap.size wr #[.string (zW g.name),.slice a1 g.A.length c1,.slice a2 g.E.length c2,.slice a3 g.ins.length c3,.slice a4 g.outs.length c4]/\zD 26 (w.heap.size+1) wr #[.string (zW g.name),.slice b1 g.A.length d1,.slice b2 g.E.length d2,.slice b3 g.ins.length d3,.slice b4 g.outs.length d4]/\Below w.heap.size w wr)
  case atStart=>exact ⟨0,Nat.zero_le _,rfl,rfl,BX.out⟩
  case round=>
   clear BX p1 p2 p3 p4 q1 q2 q3 q4 hki hlt;obtain ⟨k,hk,rfl,rfl,hX⟩:=hrel;have BX:=zZ hX;clear hX;obtain ⟨-,p1,p2,p3,p4⟩:=qC5 BX.out.1;obtain ⟨-,q1,q2,q3,q4⟩:=qC5 BX.out.2.1
   by_cases hlt:k<g.E.length
   ·have hki:(k:Int)<(g.E.length:Int):=by omega
    rcases E1.out.below BX.out.2.2 with e|⟨g1,o1,rfl,hc1⟩
    ·rw [e]at hlt;exact absurd hlt (Nat.not_lt_zero _)
    rcases E2.out.below BX.out.2.2 with e|⟨g2,o2,rfl,hc2⟩
    ·rw [e]at hlt;exact absurd hlt (Nat.not_lt_zero _)
    obtain ⟨x0,x1,x2,x3,xa,xc,x4,x5⟩:=hc1 k hlt;obtain ⟨y0,y1,y2,y3,ya,yc,y4,y5⟩:=hc2 k hlt;have hm:=M2.out (wK g.E k) (by rw[gU hlt];exact List.getElem_mem hlt);generalize wK g.E k=E at *;obtain ⟨ef,efp,et,etp,ps⟩:=E;simp only at x0 x1 x2 x3 x4 x5 y0 y1 y2 y3 y4 y5 hm;have bv:=((Below.refl wr.heap.size wr).alloc (Nat.le_refl _) (.cells #[.int .i64 ef,.int .i64 efp,.int .i64 et,.int .i64 etp,.slice xa ps.length xc] 65)).alloc (by simp) (.cells #[.int .i64 ef,.int .i64 efp,.int .i64 et,.int .i64 etp,.slice ya ps.length yc] 65);have SI:=zZ (WB xa ya ps ps.length xc yc _ rfl hm (x5.below bv) (y5.below bv));have BV:=zZ bv
    have s1:(ef !=ef)=false:=by simp
    have s2:(efp !=efp)=false:=by simp
    have s3:(et !=et)=false:=by simp
    have s4:(etp !=etp)=false:=by simp
    have zq:(wr.alloc (.cells #[.int .i64 ef,.int .i64 efp,.int .i64 et,.int .i64 etp,.slice xa ps.length xc] 65)).cell? ⟨w.heap.size+1,2,none⟩=some (.slice (some ⟨g2,o2,none⟩) g.E.length d2):=(BX.out.2.1.below ((Below.refl _ _).alloc (Nat.le_refl _) _)).cell rfl;have k1:=(Below.refl wr.heap.size wr).alloc (Nat.le_refl _) (.cells #[.int .i64 ef,.int .i64 efp,.int .i64 et,.int .i64 etp,.slice xa ps.length xc] 65);have y0:=xE k1 y0;have y1:=xE k1 y1;have y2:=xE k1 y2;have y3:=xE k1 y3;have y4:=xE k1 y4;clear hc1 hc2 x5 y5 bv hm k1
    go_wp2_with (go_at_call 28;(with_reducible refine SI.out.mono ?_);rintro e w5 ⟨n5,rfl,rfl⟩)
    go_roundg (g.E.length-(k+1))
    case measure=>omega
    case rel=>exact ⟨k+1,by omega,rfl,by go_num,(BX.out.1.below (tY BV.out _)),(BX.out.2.1.below (tY BV.out _)),tY (BX.out.2.2.trans (BV.out.mono BX.out.2.2.size)) _⟩
   have hki:¬(k:Int)<(g.E.length:Int):=by omega
   go_wp2_with (first
    |(go_at_call 29;(with_reducible refine (PO.out _ BI.out).mono ?_);rintro e w7 ⟨rfl,b7⟩;have BO:=zZ (BI.out.trans (b7.mono BI.out.size));clear b7)
    |(go_at_call 29;(with_reducible refine (PI.out _ BX.out.2.2).mono ?_);rintro e w6 ⟨rfl,b6⟩;have BI:=zZ (BX.out.2.2.trans (b6.mono BX.out.2.2.size));have p4:=xE b6 p4;have q4:=xE b6 q4;clear b6))
   go_ret
   exact ⟨rfl,BO.out⟩
def CF (tp:Int) (outs:List GP):GG:=⟨[103],[⟨[97],2,[2]⟩,⟨[98],8,[]⟩],[⟨0,0,1,tp,[7]⟩],[⟨[120],0,0⟩],outs⟩
structure MA (b : Nat) (tp : Int) (w : World) : Prop where
 i2:zD 3 (b+1) w #[.int .i64 2]
 ac:zD 62 (b+2) w #[.string ⟨#[97]⟩,.int .u8 2,.slice (some ⟨b+1,0,none⟩) 1 1,.string ⟨#[98]⟩,.int .u8 8,qN]
 i7:zD 3 (b+3) w #[.int .i64 7]
 ed:zD 65 (b+4) w #[.int .i64 0,.int .i64 0,.int .i64 1,.int .i64 tp,.slice (some ⟨b+3,0,none⟩) 1 1]
 pi:zD 81 (b+5) w #[.string ⟨#[120]⟩,.int .i64 0,.int .i64 0]
 po:zD 81 (b+6) w #[.string ⟨#[121]⟩,.int .i64 1,.int .i64 0]
theorem MA.below {b:Nat} {tp:Int} {w w':World} (h:MA b tp w) (hb:Below w.heap.size w w'):MA b tp w':=⟨h.i2.below hb,h.ac.below hb,h.i7.below hb,h.ed.below hb,h.pi.below hb,h.po.below hb⟩
theorem MA.set {b:Nat} {tp:Int} {w:World} (h:MA b tp w) (x:Int):MA b x (w.setCell ⟨b+4,3,none⟩ (.int .i64 x)):=by
 have set:∀k,k≠b+4->(w.setCell ⟨b+4,3,none⟩ (.int .i64 x)).heap[k]? =w.heap[k]? :=fun k hk=>Below.heap_setCell w ⟨b+4,3,none⟩ _ k hk
 exact ⟨h.i2.keep (set _ (by omega)),h.ac.keep (set _ (by omega)),h.i7.keep (set _ (by omega)),h.ed.set 3 _,h.pi.keep (set _ (by omega)),h.po.keep (set _ (by omega))⟩
theorem DT {z:Int} (h: -9223372036854775808<=z/\z<=9223372036854775807):InR [z]:=fun k=>by
 match k with
 |0=>exact h
 |k+1=>exact (by decide:(-9223372036854775808:Int)<=0/\(0:Int)<=9223372036854775807)
theorem WU {w:World} {g:Nat} {z:Int} (h:zD 3 g w #[.int .i64 z]) (hz: -9223372036854775808<=z/\z<=9223372036854775807):YF w (some ⟨g,0,none⟩) 1 1 [z]:=
 ⟨rfl,by decide,(fun e=>by cases e),DT hz,.inr ⟨g,0,rfl,fun k hk=>by
  have e:k=0:=by simp at hk;omega
  subst e
  exact h.cell rfl⟩,Nat.le_refl _⟩
theorem MA.gr {b:Nat} {tp:Int} {w:World} (h:MA b tp w):UH w (some ⟨b+2,0,none⟩) (some ⟨b+4,0,none⟩) (some ⟨b+5,0,none⟩) (some ⟨b+6,0,none⟩) (CF tp [⟨[121],1,0⟩]):=by
 refine ⟨.inr ⟨b+2,0,rfl,fun k hk=>?_⟩,.inr ⟨b+4,0,rfl,fun k hk=>?_⟩,.inr ⟨b+5,0,rfl,fun k hk=>?_⟩,.inr ⟨b+6,0,rfl,fun k hk=>?_⟩,by show 2<=1000000000000000;decide,by show 1<=1000000000000000;decide,by show 1<=1000000000000000;decide,by show 1<=1000000000000000;decide⟩
 ·match k,hk with
  |0,_=>exact ⟨h.ac.cell (k:=0) rfl,h.ac.cell (k:=1) rfl,by show 2<=255;decide,_,_,h.ac.cell (k:=2) rfl,WU h.i2 (by decide)⟩
  |1,_=>exact ⟨h.ac.cell (k:=3) rfl,h.ac.cell (k:=4) rfl,by show 8<=255;decide,_,_,h.ac.cell (k:=5) rfl,QK⟩
  |k+2,hk=>exact absurd hk (by show ¬k+2<2;omega)
 ·match k,hk with
  |0,_=>exact ⟨h.ed.cell (k:=0) rfl,h.ed.cell (k:=1) rfl,h.ed.cell (k:=2) rfl,h.ed.cell (k:=3) rfl,_,_,h.ed.cell (k:=4) rfl,WU h.i7 (by decide)⟩
  |k+1,hk=>exact absurd hk (by show ¬k+1<1;omega)
 ·match k,hk with
  |0,_=>exact ⟨h.pi.cell (k:=0) rfl,h.pi.cell (k:=1) rfl,h.pi.cell (k:=2) rfl⟩
  |k+1,hk=>exact absurd hk (by show ¬k+1<1;omega)
 match k,hk with
 |0,_=>exact ⟨h.po.cell (k:=0) rfl,h.po.cell (k:=1) rfl,h.po.cell (k:=2) rfl⟩
 |k+1,hk=>exact absurd hk (by show ¬k+1<1;omega)
theorem IV {l:List UInt8} (h:yO l=true):l.length<=16:=by
 unfold yO at h;simp only[Bool.and_eq_true,decide_eq_true_eq]at h;exact h.1
theorem fM {B:Nat} {w:World} {q:Value} {ns:List Int} (h:wU B w q ns) (ho:vE ns):∃x c,q=.slice x ns.length c/\YF w x ns.length c ns:=by
 obtain ⟨a,cap,e,-,h1,h2,h3,-⟩:=dW (n:=ns.length) (zs:=ns) h;exact ⟨a,cap,e,⟨rfl,ho.2,h3,ho.1,h1,h2⟩⟩
theorem memA {As:List GA} {x:GA} (h:x ∈ As):∃k,k<As.length/\x=yI As k:=by
 obtain ⟨k,hk,rfl⟩:=List.mem_iff_getElem.1 h;exact ⟨k,hk,(gV hk).symm⟩
theorem CE {As:List GE} {x:GE} (h:x ∈ As):∃k,k<As.length/\x=wK As k:=by
 obtain ⟨k,hk,rfl⟩:=List.mem_iff_getElem.1 h;exact ⟨k,hk,(gU hk).symm⟩
theorem memP {As:List GP} {x:GP} (h:x ∈ As):∃k,k<As.length/\x=wN As k:=by
 obtain ⟨k,hk,rfl⟩:=List.mem_iff_getElem.1 h;exact ⟨k,hk,(UB hk).symm⟩
theorem eE.gr {B:Nat} {w:World} {x1 x2 x3 x4:Option Addr} {n1 n2 n3 n4 d1 d2 d3 d4:Nat} {nm:List UInt8} {As:List (GA × Value)} {Es:List (GE × Value)} {Ps Os:List GP} (h:eE B w (.slice x1 n1 d1) (.slice x2 n2 d2) (.slice x3 n3 d3) (.slice x4 n4 d4) As Es Ps Os) (ha:∀p ∈ As,p.1.tag<=255/\vE p.1.params) (he:∀p ∈ Es,vE p.1.start)
 (l1:As.length<=1000000000000000) (l2:Es.length<=1000000000000000) (l3:Ps.length<=1000000000000000) (l4:Os.length<=1000000000000000):UH w x1 x2 x3 x4 ⟨nm,As.map Prod.fst,Es.map Prod.fst,Ps,Os⟩:=
 ⟨WY h.rw.r1 (fun p hp=>⟨(ha p hp).1,fM (h.n1 p hp) (ha p hp).2⟩),WX h.rw.r2 (fun p hp=>fM (h.n2 p hp) (he p hp)),gT h.rw.r3,gT h.rw.r4,by show (As.map Prod.fst).length<=_;rw[List.length_map];exact l1,by show (Es.map Prod.fst).length<=_;rw[List.length_map];exact l2,l3,l4⟩
end Go.Proofs.YtdcjdnkdeamigaaGreatDoor
