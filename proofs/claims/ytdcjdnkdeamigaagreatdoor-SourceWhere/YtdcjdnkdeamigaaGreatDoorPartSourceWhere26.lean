/- Texts of one chain. -/
import Derived.Test.YtdcjdnkdeamigaaGreatDoorPartQ
import Derived.Test.YtdcjdnkdeamigaaGreatDoorPartSourceWhere24
import Derived.Test.YtdcjdnkdeamigaaGreatDoorPartSourceWhere25
import Derived.Test.YtdcjdnkdeamigaaGreatDoorPartSourceWhere5
import Derived.Maps.Own
import Derived.Maps.Views
import Derived.Deep.OwnRows
import Derived.Deep.LoopGhost
import Derived.Deep.DeepCutAuto
import Derived.Test.YtdcjdnkdeamigaaGreatDoorPartSourceWhere4
import Derived.Test.YtdcjdnkdeamigaaGreatDoorPartSourceWhere8
set_option maxRecDepth 100000
set_option maxHeartbeats 4000000
namespace Go.Proofs.YtdcjdnkdeamigaaGreatDoor
open Go.ChangeShapes Go.WideShapes Go.ChangeAt Go.RowKit
def jT (w:World) (m:Nat) (ns:List (List UInt8)):Prop:=
 ∃(n:Nat) (D:DataW Unit),w.ownsMap Tryz.prog 9 (plainElem Tryz.prog 3) m n D/\n<=ns.length/\Maps.IsMap D/\∀l:List UInt8,D.atKey (.string l) (.lit (.int .i64 0))=.lit (.int .i64 (ns.count l:Nat))
theorem MQ (w:World):jT (w.alloc (.map #[] 0)) w.heap.size []:=⟨0,.map [],World.ownsMap_made _ _ _ _,Nat.le_refl _,⟨_,rfl⟩,fun _=>rfl⟩
theorem jT.lt {w:World} {m:Nat} {ns:List (List UInt8)} (h:jT w m ns):m<w.heap.size:=by
 obtain ⟨n,D,h1,-⟩:=h;exact h1.lt
theorem jT.keep {w w':World} {m:Nat} {ns:List (List UInt8)} (h:jT w m ns) (hb:w'.heap[m]? =w.heap[m]?):jT w' m ns:=by
 obtain ⟨n,D,⟨es,clock,h1,h2⟩,h3⟩:=h;exact ⟨n,D,⟨es,clock,hb.trans h1,h2⟩,h3⟩
theorem fR:Maps.Keyed Tryz.prog 9:=Maps.string_keyed Tryz.underlying9
theorem JY (w:World):(zeroValue 3).run Tryz.prog w=.ok (.int .i64 0) w:=by kernel_rfl
theorem jT.look {w:World} {m:Nat} {ns:List (List UInt8)} (h:jT w m ns) (l:List UInt8) (hl:l.length<=16):(Instr.lookup 136 (.map (some m)) (.string (zW l)) false).run Tryz.prog w=.ok (.int .i64 ((ns.count l:Nat):Int)) w:=by
 obtain ⟨n,D,h1,-,-,h4⟩:=h;obtain ⟨c,h5,h6,-⟩:=h1.lookup_int fR Tryz.underlying136 Tryz.underlying3 (JY w) (Go.WideMaps.keyOf_string_mk (s:=zW l) Tryz.underlying9 (by rw[zB];unfold maxLen;omega))
 have e:(zW l).data.toList=l:=by simp[zW]
 rw[e,h4]at h6;obtain ⟨-,h8⟩:=Lit.int.inj (DataW.lit.inj h6);rw[h5,h8]
theorem MP {D:DataW Unit} {ns:List (List UInt8)} (hD:Maps.IsMap D) (h:∀l:List UInt8,D.atKey (.string l) (.lit (.int .i64 0))=.lit (.int .i64 (ns.count l:Nat))) (s l:List UInt8):(D.put (.string s) (.lit (.int .i64 ((ns.count s:Nat)+1:Int)))).atKey (.string l) (.lit (.int .i64 0))=.lit (.int .i64 ((s::ns).count l:Nat)):=by
 by_cases e:l=s
 ·subst e
  rw[Maps.atKey_put_same hD (by trivial)];simp
 rw[Maps.atKey_put_other (by simpa using e),h];simp[Ne.symm e]
def aO (A:Nat->Nat) (R:List (List Bool)):List Value:=(List.range R.length).map fun j=>.slice (some ⟨A j,0,none⟩) (wD R j).length (wD R j).length
structure BTA (L : Nat) (F : Nat -> Prop) (w : World) (v : Value) (R : List (List Bool)) (A : Nat -> Nat) : Prop where
 tab:w.ownsRow L 222 1 v R.length (aO A R)
 rows:∀j,j<R.length->w.rowIs (A j) 4 (wD R j).length (fun i=>.bool ((wD R j).getD i false))
 rF:∀j,j<R.length->F (A j)
 rr:∀j k,j<R.length->k<R.length->j≠k->A j≠A k
 tF:∀k,v.ownBlock=some k->F k/\∀j,j<R.length->A j≠k
 low:∀k,F k->L<=k/\k<w.heap.size
def BT (L:Nat) (F:Nat->Prop) (w:World) (v:Value) (R:List (List Bool)):Prop:=∃A,BTA L F w v R A
theorem JX (L:Nat) (w:World):BT L (fun _=>False) w (qN) []:=⟨fun _=>0,World.ownsRow_nil _ _ _ _,fun j hj=>absurd hj (Nat.not_lt_zero _),fun j hj=>absurd hj (Nat.not_lt_zero _),fun j k hj=>absurd hj (Nat.not_lt_zero _),fun k hk=>(by cases hk),fun k hk=>hk.elim⟩
theorem zT {B e size n:Nat} {v:Value} {xs:List Value} {w w':World} (h:w.ownsRow B e size v n xs) (hk:∀k,v.ownBlock=some k->w'.heap[k]? =w.heap[k]?):w'.ownsRow B e size v n xs:=by
 refine ⟨h.1,?_⟩
 rcases h.2 with h2|⟨g,cap,cur,hv,hg,hh,r⟩
 ·exact .inl h2
 exact .inr ⟨g,cap,cur,hv,hg,by rw[hk g (by rw[hv];rfl)];exact hh,r⟩
theorem BT.keep {L:Nat} {F:Nat->Prop} {w w':World} {v:Value} {R:List (List Bool)} (h:BT L F w v R) (hk:∀k,F k->w'.heap[k]? =w.heap[k]?) (hs:w.heap.size<=w'.heap.size):BT L F w' v R:=by
 obtain ⟨A,h⟩:=h;exact ⟨A,zT h.tab fun k e=>hk k (h.tF k e).1,fun j hj=>(h.rows j hj).of_block (hk _ (h.rF j hj)),h.rF,h.rr,h.tF,fun k e=>⟨(h.low k e).1,Nat.lt_of_lt_of_le (h.low k e).2 hs⟩⟩
theorem BT.low {L:Nat} {F:Nat->Prop} {w:World} {v:Value} {R:List (List Bool)} (h:BT L F w v R):∀k,F k->L<=k/\k<w.heap.size:=by
 obtain ⟨A,h⟩:=h;exact h.low
theorem hJ {L:Nat} {F:Nat->Prop} {w:World} {v:Value} {R:List (List Bool)} (h:BT L F w v R):(v=qN/\R=[])\/∃g c,v=.slice (some ⟨g,0,none⟩) R.length c:=by
 obtain ⟨A,h⟩:=h
 rcases h.tab.2 with ⟨h1,h2⟩|⟨g,cap,cur,hv,-⟩
 ·exact .inl ⟨h1,List.eq_nil_of_length_eq_zero h2⟩
 exact .inr ⟨g,cap,hv⟩
theorem UV {A:Nat->Nat} {R:List (List Bool)} {j:Nat} (h:j<R.length):(aO A R)[j]? =some (.slice (some ⟨A j,0,none⟩) (wD R j).length (wD R j).length):=by
 unfold aO;rw[List.getElem?_map,List.getElem?_range h];rfl
theorem BT.cell {L:Nat} {F:Nat->Prop} {w:World} {v:Value} {R:List (List Bool)} (h:BT L F w v R) {j:Nat} (hj:j<R.length):∃G c g,v=.slice (some ⟨G,0,none⟩) R.length c/\w.cell? ⟨G,j,none⟩=some (.slice (some ⟨g,0,none⟩) (wD R j).length (wD R j).length)/\w.rowIs g 4 (wD R j).length (fun i=>.bool ((wD R j).getD i false))/\F g:=by
 rcases hJ h with ⟨-,h2⟩|⟨G,c,hv⟩
 ·rw [h2]at hj;exact absurd hj (Nat.not_lt_zero _)
 obtain ⟨A,h⟩:=h;subst hv;exact ⟨G,c,A j,rfl,by rw[World.ownsRow.cellAt h.tab j (by simpa using hj),UV hj],h.rows j hj,h.rF j hj⟩
theorem rG (R:List (List Bool)) (a p:Nat):(bY R a p).length=R.length:=by unfold bY;rw[List.length_set]
theorem lF {R:List (List Bool)} {a p:Nat} (j:Nat) (ha:a<R.length):wD (bY R a p) j=if j=a then (wD R a).set p true else wD R j:=by
 unfold wD bY
 by_cases e:j=a
 ·subst e
  rw[if_pos rfl,List.getD_eq_getElem?_getD,List.getElem?_set_self ha];rfl
 rw[if_neg e,List.getD_eq_getElem?_getD,List.getElem?_set_ne (Ne.symm e),List.getD_eq_getElem?_getD]
theorem JW {A:Nat->Nat} {R:List (List Bool)} {a p:Nat} (ha:a<R.length):aO A (bY R a p)=aO A R:=by
 unfold aO;rw[rG]
 refine List.map_congr_left fun j hj=>?_
 rw[lF j ha]
 by_cases e:j=a
 ·subst e;rw[if_pos rfl,List.length_set]
 rw[if_neg e]
theorem BT.take {L:Nat} {F:Nat->Prop} {w:World} {v:Value} {R:List (List Bool)} (h:BT L F w v R) {a p g G c:Nat} (ha:a<R.length) (hp:p<(wD R a).length) (hv:v=.slice (some ⟨G,0,none⟩) R.length c) (hc:w.cell? ⟨G,a,none⟩=some (.slice (some ⟨g,0,none⟩) (wD R a).length (wD R a).length)):
 BT L F (w.setCell ⟨g,p,none⟩ (.bool true)) v (bY R a p)/\F g/\L<=g:=by
 obtain ⟨A,h⟩:=h
 have e1:w.cell? ⟨G,a,none⟩=some (.slice (some ⟨A a,0,none⟩) (wD R a).length (wD R a).length):=by
  subst hv;rw[World.ownsRow.cellAt h.tab a (by simpa using ha),UV ha]
 have e2:A a=g:=by
  rw[hc]at e1
  cases e1
  rfl
 subst e2
 have hk:∀k,k≠A a->(w.setCell ⟨A a,p,none⟩ (.bool true)).heap[k]? =w.heap[k]? :=fun k hk=>Below.heap_setCell w ⟨A a,p,none⟩ _ k hk
 refine ⟨⟨A,?_,fun j hj=>?_,fun j hj=>?_,fun j k hj hk'=>?_,fun k e=>?_,fun k e=>?_⟩,h.rF a ha,(h.low _ (h.rF a ha)).1⟩
 ·rw [rG,JW ha]
  exact zT h.tab fun k e=>hk k (Ne.symm ((h.tF k e).2 a ha))
 ·rw [rG]at hj
  rw[lF j ha]
  by_cases e:j=a
  ·subst e
   rw[if_pos rfl,List.length_set]
   refine ((h.rows j hj).set p _).congr fun i hi=>?_
   by_cases e2:i=p
   ·subst e2
    rw[if_pos rfl,List.getD_eq_getElem?_getD,List.getElem?_set_self hp];rfl
   rw[if_neg e2,List.getD_eq_getElem?_getD,List.getD_eq_getElem?_getD,List.getElem?_set_ne (Ne.symm e2)]
  rw[if_neg e];exact (h.rows j hj).of_block (hk _ (h.rr j a hj ha e))
 ·rw [rG]at hj;exact h.rF j hj
 ·rw [rG]at hj hk';exact h.rr j k hj hk'
 ·rw [rG];exact h.tF k e
 have:=h.low k e;rw[World.size_setCell];exact this
structure wL (F : Nat -> Prop) (w w' : World) : Prop where
 os:w'.os=w.os
 tape:w'.tape=w.tape
 output:w'.output=w.output
 size:w.heap.size<=w'.heap.size
 block:∀k,k<w.heap.size->¬F k->w'.heap[k]? =w.heap[k]?
theorem wL.of_below {F:Nat->Prop} {w w':World} (h:Below w.heap.size w w'):wL F w w':=⟨h.os,h.tape,h.output,h.size,fun k hk _=>h.block k hk⟩
theorem wL.trans {F F':Nat->Prop} {a b c:World} (h:wL F a b) (k:wL F' b c) (hF:∀k,F' k->F k\/a.heap.size<=k):wL F a c:=
 ⟨k.os.trans h.os,k.tape.trans h.tape,k.output.trans h.output,Nat.le_trans h.size k.size,fun i hi hn=>(k.block i (by have:=h.size;omega) (fun e=>(hF i e).elim hn (fun e2=>by omega))).trans (h.block i hi hn)⟩
theorem wL.trans' {F:Nat->Prop} {a b c:World} (h:wL F a b) (k:wL F b c):wL F a c:=h.trans k fun _ e=>.inl e
theorem wL.below {F:Nat->Prop} {w w':World} {L:Nat} (h:wL F w w') (hF:∀k,F k->L<=k) (hL:L<=w.heap.size):Below L w w':=⟨h.os,h.tape,h.output,h.size,fun k hk=>h.block k (by omega) (fun e=>by have:=hF k e;omega)⟩
theorem wL.set {F:Nat->Prop} (w:World) {g:Nat} (hF:F g) (k:Nat) (u:Value):wL F w (w.setCell ⟨g,k,none⟩ u):=⟨rfl,rfl,rfl,by rw[World.size_setCell];exact Nat.le_refl _,fun i _ hn=>Below.heap_setCell w ⟨g,k,none⟩ u i (fun e=>hn (by rw[e];exact hF))⟩
theorem wL.grown {F:Nat->Prop} {w w':World} {row:Option Nat} (h:w.grownBy w' row) (hF:∀k,row=some k->F k):wL F w w':=⟨h.os,h.tape,h.output,h.size,fun k hk hn=>h.block k hk (fun e=>hn (hF k e.symm))⟩
structure aN (F : Nat -> Prop) (w : World) (b m : Nat) (v1 v2 : Value) (F1 F2 : Nat -> Prop) (s : LS) : Prop where
 blk:zD 140 b w #[.map (some m),v1,v2]
 names:jT w m s.ns
 ins:BT 0 F1 w v1 s.I
 outs:BT 0 F2 w v2 s.O
 bm:b≠m
 d1:∀k,F1 k->k≠b/\k≠m/\¬F2 k
 d2:∀k,F2 k->k≠b/\k≠m
 fb:F b
 fm:F m
 f1:∀k,F1 k->F k
 f2:∀k,F2 k->F k
 low:∀k,F k->k<w.heap.size
def jX (F:Nat->Prop) (w:World) (b:Nat) (s:LS):Prop:=∃m v1 v2 F1 F2,aN F w b m v1 v2 F1 F2 s
theorem jX.keep {F:Nat->Prop} {w w':World} {b:Nat} {s:LS} (h:jX F w b s) (hk:∀k,F k->w'.heap[k]? =w.heap[k]?) (hs:w.heap.size<=w'.heap.size):jX F w' b s:=by
 obtain ⟨m,v1,v2,F1,F2,h⟩:=h;exact ⟨m,v1,v2,F1,F2,h.blk.keep (hk b h.fb),h.names.keep (hk m h.fm),h.ins.keep (fun k e=>hk k (h.f1 k e)) hs,h.outs.keep (fun k e=>hk k (h.f2 k e)) hs,h.bm,h.d1,h.d2,h.fb,h.fm,h.f1,h.f2,fun k e=>Nat.lt_of_lt_of_le (h.low k e) hs⟩
theorem jX.low {F:Nat->Prop} {w:World} {b:Nat} {s:LS} (h:jX F w b s):∀k,F k->k<w.heap.size:=by
 obtain ⟨m,v1,v2,F1,F2,h⟩:=h;exact h.low
theorem jX.below {F:Nat->Prop} {w w':World} {b:Nat} {s:LS} (h:jX F w b s) (hb:Below w.heap.size w w'):jX F w' b s:=h.keep (fun k hk=>hb.block k (h.low k hk)) hb.size
theorem zZ {p:Prop} (h:p):Hid p:=h
theorem rU (F:Nat->Prop) (w:World) (b:Nat) (s:LS) (l:List UInt8) (h:jX F w b s) (hn:s.ns.length<=1000):
 Calls Tryz.prog 123 #[(qP b),.string (zW l)] w fun e w'=>e=.returned (.int .i64 (zC s.ns l).1)/\jX F w' b ⟨(zC s.ns l).2,s.I,s.O⟩/\wL F w w':=by
 have NM:=zZ (uG l w);have HL:=zZ h;unfold zC
 by_cases hb:yO l=true
 ·have hl16:l.length<=16:=by
   unfold yO at hb;simp only[Bool.and_eq_true,decide_eq_true_eq]at hb;exact hb.1
  rw[if_pos hb];rw[hb]at NM;obtain ⟨c,hc⟩:∃c,s.ns.count l=c:=⟨_,rfl⟩
  have hc2:c<=1000:=by rw[<- hc];exact Nat.le_trans List.count_le_length hn
  have HC:=zZ hc
  have hcI:(c:Int)<=1000:=by omega
  rw[hc]
  have key:Hid (∀ w1,Below w.heap.size w w1->∃m,∃n,∃D:DataW Unit,w1.cell? ⟨b,0,none⟩=some (.map (some m))/\(Instr.lookup 136 (.map (some m)) (.string (zW l)) false).run Tryz.prog w1=.ok (.int .i64 (c:Int)) w1/\w1.ownsMap Tryz.prog 9 (plainElem Tryz.prog 3) m n D/\n<maxLen/\
   ∀w2,w2.ownsMap Tryz.prog 9 (plainElem Tryz.prog 3) m (n+1) (D.put (.string l) (.lit (.int .i64 ((c:Int)+1))))->w1.grownBy w2 (some m)->w2.cell? ⟨b,0,none⟩=some (.map (some m))/\(Instr.lookup 136 (.map (some m)) (.string (zW l)) false).run Tryz.prog w2=.ok (.int .i64 ((c:Int)+1)) w2/\jX F w2 b ⟨l::s.ns,s.I,s.O⟩/\wL F w w2):=fun w1 hb1=>by
   obtain ⟨m,v1,v2,F1,F2,h1⟩:=HL.out.below hb1;obtain ⟨n,D,k1,k2,k3,k4⟩:=id h1.names;refine ⟨m,n,D,h1.blk.cell rfl,?_,k1,?_,fun w2 g1 g2=>?_⟩
   ·have:=h1.names.look l hl16
    rw[HC.out]at this;exact this
   ·unfold maxLen;omega
   have hbk:w2.heap[b]? =w1.heap[b]? :=g2.block b h1.blk.lt (fun e=>h1.bm (Option.some.inj e))
   have hN:jT w2 m (l::s.ns):=⟨n+1,_,g1,by simpa using k2,by obtain ⟨es,rfl⟩:=k3;exact ⟨_,rfl⟩,fun q=>by
    have:=MP k3 k4 l q;rw[HC.out]at this
    exact this⟩
   have hlk:=hN.look l hl16
   have ec:((l::s.ns).count l:Nat)=c+1:=by rw[List.count_cons_self,HC.out]
   rw[ec]at hlk;have hb2:=h1.blk.keep hbk;refine ⟨hb2.cell rfl,by exact_mod_cast hlk,⟨m,v1,v2,F1,F2,hb2,hN,h1.ins.keep (fun k e=>g2.block k (h1.ins.low k e).2 (fun e2=>(h1.d1 k e).2.1 (Option.some.inj e2))) g2.size,h1.outs.keep (fun k e=>g2.block k (h1.outs.low k e).2 (fun e2=>(h1.d2 k e).2 (Option.some.inj e2))) g2.size,h1.bm,h1.d1,h1.d2,h1.fb,h1.fm,h1.f1,h1.f2,fun k e=>Nat.lt_of_lt_of_le (h1.low k e) g2.size⟩,(wL.of_below hb1).trans' (wL.grown g2 fun k e=>by cases e;exact h1.fm)⟩
  have kS:=ChangeMaps.putKey (H:=Unit);clear kS;have hk9:=WideMaps.keyOf_string_mk (P:=Tryz.prog) (k:=9) (s:=zW l) Tryz.underlying9 (by rw[zB];unfold maxLen;omega)
  have e9:(zW l).data.toList=l:=by simp[zW]
  rw[e9]at hk9;have HK9:=zZ hk9
  have hw1:(Lit.int .i64 ((c:Int)+1)).wf=true:=by
   show (decide ((-9223372036854775808:Int)<=(c:Int)+1)&&decide ((c:Int)+1<=9223372036854775807))=true;rw[decide_eq_true (by omega),decide_eq_true (by omega)];rfl
  have HPE:=zZ (plainElem_int (H:=Unit) (P:=Tryz.prog) (e:=3) Tryz.underlying3 hw1)
  by_cases hc0:0<c
  ·obtain ⟨d,hd⟩:∃d:Int,(c:Int)+1=d:=⟨_,rfl⟩
   have q1:(1:Int)<d:=by omega
   have q2:d<=1001:=by omega
   rw[hd]at key HPE;rw[if_pos hc0];clear hk9 e9 hw1 hc h hb hc0 hc2
   go_enter Tryz.func123,Tryz.ntmps123
   go_wp2_with (first
    |(at_mapUpdate;refine wpList_mapUpdate_own _ rfl _ _ _ 136 rfl 9 3 fR Tryz.underlying136 _ m n D rfl KO.out hn9 _ _ (.string l) rfl rfl HK9.out _ [] HPE.out ?_;intro w2 hown2 hgrow2;obtain ⟨c2,lk2,hL2,hB2⟩:=KK.out w2 hown2 hgrow2;have HL2:=zZ hL2;have HB2:=zZ hB2;clear hown2 hgrow2 hL2 hB2 c1 lk1)
    |(go_at_call 111;(with_reducible refine NM.out.mono ?_);rintro e w1 ⟨rfl,hb1⟩;obtain ⟨m,n,D,c1,lk1,ko,hn9,kk⟩:=key.out w1 hb1;have KO:=zZ ko;have KK:=zZ kk;clear ko kk hb1))
   go_ret
   refine ⟨?_,HL2.out,HB2.out⟩
   show _=Ending.returned (.int .i64 83);rfl
  obtain ⟨d,hd⟩:∃d:Int,(c:Int)+1=d:=⟨_,rfl⟩
  have q1:¬(1:Int)<d:=by omega
  have q2:0<=d:=by omega
  rw[hd]at key HPE;rw[if_neg hc0];clear hk9 e9 hw1 hc h hb hc0 hc2
  go_enter Tryz.func123,Tryz.ntmps123
  go_wp2_with (first
   |(at_mapUpdate;refine wpList_mapUpdate_own _ rfl _ _ _ 136 rfl 9 3 fR Tryz.underlying136 _ m n D rfl KO.out hn9 _ _ (.string l) rfl rfl HK9.out _ [] HPE.out ?_;intro w2 hown2 hgrow2;obtain ⟨c2,lk2,hL2,hB2⟩:=KK.out w2 hown2 hgrow2;have HL2:=zZ hL2;have HB2:=zZ hB2;clear hown2 hgrow2 hL2 hB2 c1 lk1)
   |(go_at_call 111;(with_reducible refine NM.out.mono ?_);rintro e w1 ⟨rfl,hb1⟩;obtain ⟨m,n,D,c1,lk1,ko,hn9,kk⟩:=key.out w1 hb1;have KO:=zZ ko;have KK:=zZ kk;clear ko kk hb1))
  go_ret
  exact ⟨rfl,HL2.out,HB2.out⟩
 have hb':yO l=false:=by simpa using hb
 rw[if_neg hb];rw[hb']at NM;clear h hb hb'
 go_enter Tryz.func123,Tryz.ntmps123
 go_wp2_with (go_at_call 111;(with_reducible refine NM.out.mono ?_);rintro e w1 ⟨rfl,hb1⟩)
 go_ret
 exact ⟨rfl,HL.out.below hb1,wL.of_below hb1⟩
def DH (F:Nat->Prop) (w:World) (v:Value) (R:List (List Bool)) (a p:Int) (e:Ending) (w':World):Prop:=
 e=.returned (.int .i64 (yU R a p))/\BT 0 F w' v (xJ R a p)/\wL F w w'
theorem pA {F:Nat->Prop} {w:World} {v:Value} {R:List (List Bool)} {a p cd:Int} (h:BT 0 F w v R) (hc:yU R a p=cd) (h0:cd≠0):DH F w v R a p (.returned (.int .i64 cd)) w:=by
 subst hc;exact ⟨rfl,by unfold xJ;rw[if_neg h0];exact h,wL.of_below (Below.refl _ _)⟩
theorem gZ (F:Nat->Prop) (w:World) (v:Value) (R:List (List Bool)) (a p:Int) (h:BT 0 F w v R) (hR:R.length<=1000) (hr:∀j,(wD R j).length<=100000):
 Calls Tryz.prog 125 #[v,.int .i64 a,.int .i64 p] w (DH F w v R a p):=by
 obtain ⟨x,c,rfl⟩:∃x c,v=.slice x R.length c:=by
  rcases hJ h with ⟨h1,h2⟩|⟨g,c,h1⟩
  ·exact ⟨none,0,by rw[h1,h2];rfl⟩
  exact ⟨_,_,h1⟩
 have HB:=zZ h
 have hRI:(R.length:Int)<=1000:=by omega
 by_cases h1:a<0
 ·have HT:=zZ (show yU R a p=84 by unfold yU;rw[if_pos (.inl h1)])
  clear h
  go_enter Tryz.func125,Tryz.ntmps125
  go_wp2
  go_ret
  exact pA HB.out HT.out (by decide)
 by_cases h2:(R.length:Int)<=a
 ·have HT:=zZ (show yU R a p=84 by unfold yU;rw[if_pos (.inr h2)])
  clear h
  go_enter Tryz.func125,Tryz.ntmps125
  go_wp2
  go_ret
  exact pA HB.out HT.out (by decide)
 obtain ⟨k,rfl⟩:∃k:Nat,a=(k:Int):=⟨a.toNat,by omega⟩
 have hk:k<R.length:=by omega
 have hkI:(k:Int)<(R.length:Int):=by omega
 obtain ⟨G,c',g,hv,hc1,hrow,hFg⟩:=h.cell hk
 cases hv
 have hrl:=hr k;obtain ⟨N,hN⟩:∃N,(wD R k).length=N:=⟨_,rfl⟩
 have hNI:(N:Int)<=100000:=by omega
 have t0:yU R (k:Int) p=if p<0\/(N:Int)<=p then 85 else if mR R k p.toNat=true then 86 else 0:=by
  unfold yU;rw[if_neg (by omega),Int.toNat_natCast,hN]
 by_cases h3:p<0
 ·have HT:=zZ (show yU R (k:Int) p=85 by rw[t0,if_pos (.inl h3)])
  clear h hrow t0
  go_enter Tryz.func125,Tryz.ntmps125
  go_wp2
  go_ret
  exact pA HB.out HT.out (by decide)
 have HC:=zZ hc1;rw[hN]at hc1 hrow
 by_cases h4:(N:Int)<=p
 ·have HT:=zZ (show yU R (k:Int) p=85 by rw[t0,if_pos (.inr h4)])
  clear h hrow t0
  go_enter Tryz.func125,Tryz.ntmps125
  go_wp2
  go_ret
  exact pA HB.out HT.out (by decide)
 obtain ⟨q,rfl⟩:∃q:Nat,p=(q:Int):=⟨p.toNat,by omega⟩
 have hq:q<N:=by omega
 have hqI:(q:Int)<(N:Int):=by omega
 have c2:=hrow.cell hq;have f2:=hrow.frozen q;rw[if_neg (by omega),Int.toNat_natCast]at t0;have t1:(wD R k).getD q false=mR R k q:=rfl;rw[t1]at c2
 by_cases h5:mR R k q=true
 ·have HT:=zZ (show yU R (k:Int) (q:Int)=86 by rw[t0,if_pos h5])
  rw[h5]at c2;clear h hrow t0
  go_enter Tryz.func125,Tryz.ntmps125
  go_wp2
  go_ret
  exact pA HB.out HT.out (by decide)
 have HT:=zZ (show yU R (k:Int) (q:Int)=0 by rw[t0,if_neg h5])
 have h6:mR R k q=false:=by simpa using h5
 rw[h6]at c2;have HN:=zZ hN;clear h hrow t0
 go_enter Tryz.func125,Tryz.ntmps125
 go_wp2
 go_ret
 have r:=HB.out.take (a:=k) (p:=q) hk (by rw[HN.out];exact hq) rfl HC.out;refine ⟨by rw[HT.out];rfl,?_,wL.set w r.2.1 q _⟩
 unfold xJ;rw[if_pos HT.out,Int.toNat_natCast,Int.toNat_natCast];exact r.1
theorem Tryz.infoSB:(Tryz.prog.info? 222).map (fun i=>(i.zero,i.size,i.bytes))=some (some (qN),1,24):=by kernel_rfl
theorem Tryz.infoB4:(Tryz.prog.info? 4).map (fun i=>(i.zero,i.size,i.bytes))=some (some (.bool false),1,1):=by kernel_rfl
def IdxB (k:Int) (l:List Bool):Prop:=decide (0<=k)=l.contains false
theorem RK (w:World) (g n c:Nat) (l:List Bool) (hl:l.length=n) (h:w.rowIs g 4 n (fun i=>.bool (l.getD i false))) (hn:n<=100000):
 Calls Tryz.prog 178 #[.slice (some ⟨g,0,none⟩) n c,.bool false] w fun e w'=>(∃ k:Int,e=.returned (.int .i64 k)/\IdxB k l)/\w'=w:=by
 have HR:=zZ h;have HL:=zZ hl
 have hnI:(n:Int)<=100000:=by omega
 clear h hl
 go_enter Tryz.func178,Tryz.ntmps178
 go_wp2
 go_loopg [8] n (fun gk v wr=>∃i:Nat,i<=n/\gk=n-i/\v=.int .i64 (i:Int)/\wr=w/\∀j,j<i->l.getD j false=true)
 case atStart=>exact ⟨0,Nat.zero_le _,rfl,rfl,rfl,fun j hj=>absurd hj (Nat.not_lt_zero _)⟩
 case round=>
  obtain ⟨i,hi,rfl,rfl,rfl,hall⟩:=hrel;have HA:=zZ hall;clear hall
  by_cases hlt:i<n
  ·have hii:(i:Int)<(n:Int):=by omega
   have c1:=HR.out.cell hlt;obtain ⟨q,hq⟩:∃q,l.getD i false=q:=⟨_,rfl⟩;rw[hq]at c1;have HQ:=zZ hq;clear hq
   cases q
   ·go_wp2
    go_ret
    refine ⟨⟨(i:Int),rfl,?_⟩,rfl⟩
    have hm:false ∈ l:=by
     have h1:=HQ.out;rw[List.getD_eq_getElem?_getD,List.getElem?_eq_getElem (by rw[HL.out];exact hlt)]at h1;exact h1 ▸ List.getElem_mem _
    show decide (0<=(i:Int))=l.contains false;rw[List.contains_iff_mem.2 hm];exact decide_eq_true (by omega)
   go_wp2
   go_roundg (n-(i+1))
   case measure=>omega
   case rel=>exact ⟨i+1,by omega,rfl,by go_num,rfl,fun j hj=>by
    by_cases e:j<i
    ·exact HA.out j e
    have:j=i:=by omega
    subst this
    exact HQ.out⟩
  have hii:¬(i:Int)<(n:Int):=by omega
  go_wp2
  go_ret
  refine ⟨⟨-1,rfl,?_⟩,rfl⟩
  have hm:l.contains false=false:=by
   cases hb:l.contains false with
   |false=>rfl
   |true=>
    exfalso
    obtain ⟨k,hk,hk2⟩:=List.getElem_of_mem (List.contains_iff_mem.1 hb);have h1:=HA.out k (by rw[HL.out]at hk;omega);rw[List.getD_eq_getElem?_getD,List.getElem?_eq_getElem hk,hk2]at h1
    cases h1
  show decide (0<=(-1:Int))=l.contains false;rw[hm];rfl
theorem aM (w:World) (g n c:Nat) (l:List Bool) (hl:l.length=n) (h:w.rowIs g 4 n (fun i=>.bool (l.getD i false))) (hn:n<=100000):
 Calls Tryz.prog 160 #[.slice (some ⟨g,0,none⟩) n c,.bool false] w fun e w'=>e=.returned (.bool (l.contains false))/\w'=w:=by
 have IX:=zZ (RK w g n c l hl h hn);clear h hl
 go_enter Tryz.func160,Tryz.ntmps160
 go_wp2_with (go_at_call 178;(with_reducible refine IX.out.mono ?_);rintro e w' ⟨⟨k,rfl,hk⟩,rfl⟩;have HK:=zZ hk;clear hk)
 go_ret
 exact ⟨by rw[<- (show decide (0<=k)=l.contains false from HK.out)];rfl,rfl⟩
theorem PT (F:Nat->Prop) (w:World) (v:Value) (R:List (List Bool)) (a:Nat) (h:BT 0 F w v R) (ha:a<R.length) (hR:R.length<=1000) (hr:∀j,(wD R j).length<=100000):
 Calls Tryz.prog 126 #[v,.int .i64 (a:Int)] w fun e w'=>e=.returned (.bool (hY R a))/\w'=w:=by
 obtain ⟨G,c,g,rfl,hc,hrow,-⟩:=h.cell ha
 have haI:(a:Int)<(R.length:Int):=by omega
 have hrI:(R.length:Int)<=1000:=by omega
 have CB:=zZ (aM w g (wD R a).length (wD R a).length (wD R a) rfl hrow (hr a));have HG:hY R a=(wD R a).contains false:=rfl;rw[HG];clear h hrow HG;generalize (wD R a).contains false=q at *
 go_enter Tryz.func126,Tryz.ntmps126
 go_wp2_with (go_at_call 160;(with_reducible refine CB.out.mono ?_);rintro e w' ⟨rfl,rfl⟩)
 go_ret
 exact ⟨rfl,rfl⟩
theorem pM {R:List (List Bool)} {l:List Bool} {j:Nat} (h:j<R.length):wD (R++[l]) j=wD R j:=by
 unfold wD;rw[List.getD_eq_getElem?_getD,List.getD_eq_getElem?_getD,List.getElem?_append_left h]
theorem nP (R:List (List Bool)) (l:List Bool):wD (R++[l]) R.length=l:=by
 unfold wD;rw[List.getD_eq_getElem?_getD,List.getElem?_append_right (Nat.le_refl _),Nat.sub_self];rfl
def EM (f:Nat->Nat) (i v:Nat):Nat->Nat:=fun j=>if j=i then v else f j
theorem kH (f:Nat->Nat) (i v:Nat):EM f i v i=v:=if_pos rfl
theorem mP {f:Nat->Nat} {i j v:Nat} (h:j≠i):EM f i v j=f j:=if_neg h
theorem JV (A:Nat->Nat) (R:List (List Bool)) (l:List Bool) (g:Nat):aO (EM A R.length g) (R++[l])=aO A R++[.slice (some ⟨g,0,none⟩) l.length l.length]:=by
 unfold aO;rw[List.length_append,List.length_singleton,List.range_succ,List.map_append]
 congr 1
 ·refine List.map_congr_left fun j hj=>?_
  have hj':=List.mem_range.1 hj;rw[pM hj',mP (by omega)]
 rw[List.map_singleton,nP,kH]
theorem EL {B e size n:Nat} {v:Value} {xs:List Value} {w:World} (h:w.ownsRow B e size v n xs) {k:Nat} (hk:v.ownBlock=some k):k<w.heap.size:=by
 rcases h.2 with ⟨h2,-⟩|⟨g,cap,cur,hv,hg,hh,-⟩
 ·rw [h2]at hk;cases hk
 rw[hv]at hk;cases hk;exact (Array.getElem?_eq_some_iff.1 hh).1
theorem BTA.app {F:Nat->Prop} {V u w4:World} {v v':Value} {R:List (List Bool)} {A:Nat->Nat} {l:List Bool} {g:Nat} (h:BTA 0 F u v R A) (hF:∀k,F k->k<V.heap.size) (hV:V.heap.size<=u.heap.size) (hg:u.rowIs g 4 l.length (fun i=>.bool (l.getD i false))) (hgV:V.heap.size<=g)
 (ho:w4.ownsRow 0 222 1 v' (R.length+1) (aO A R++[.slice (some ⟨g,0,none⟩) l.length l.length]))
 (ht:(∃ g cap,v=.slice (some ⟨g,0,none⟩) R.length cap/\v'=.slice (some ⟨g,0,none⟩) (R.length+1) cap/\u.grownBy w4 (some g))\/(∃ cap,v'=.slice (some ⟨u.heap.size,0,none⟩) (R.length+1) cap/\u.grownBy w4 none)):
 BT 0 (fun k=>F k\/(V.heap.size<=k/\k<w4.heap.size)) w4 v' (R++[l])/\wL F u w4:=by
 have hgl:=hg.lt
 have key:∀k,k<u.heap.size->v.ownBlock≠some k->w4.heap[k]? =u.heap[k]? :=fun k hk hn=>by
  rcases ht with ⟨g,cap,e,-,hg⟩|⟨cap,-,hg⟩
  ·exact hg.block k hk (fun e2=>hn (by rw[e];exact e2.symm))
  exact hg.block k hk (fun e2=>by cases e2)
 have hsz:u.heap.size<=w4.heap.size:=by
  rcases ht with ⟨g,cap,e,-,hg⟩|⟨cap,-,hg⟩
  ·exact hg.size
  exact hg.size
 have hl:(R++[l]).length=R.length+1:=by simp
 have gne:v.ownBlock≠some g:=fun e=>by
  have:=hF g (h.tF g e).1;omega
 have hvb:∀k,v'.ownBlock=some k->(F k\/(V.heap.size<=k/\k<w4.heap.size))/\k≠g/\∀j,j<R.length->A j≠k:=fun k hk=>by
  rcases ht with ⟨g',cap,e,e',hg'⟩|⟨cap,e',hg'⟩
  ·rw [e']at hk;cases hk
   have t:=h.tF g' (by rw[e];rfl);exact ⟨.inl t.1,fun e3=>gne (by rw[e,<-e3];rfl),t.2⟩
  rw[e']at hk;cases hk
  have hlt:u.heap.size<w4.heap.size:=(by
   have:=EL ho (k:=u.heap.size) (by rw[e'];rfl)
   exact this)
  exact ⟨.inr ⟨hV,hlt⟩,(by show u.heap.size≠g;omega),fun j hj=>by have:=hF _ (h.rF j hj);show A j≠u.heap.size;omega⟩
 refine ⟨⟨EM A R.length g,?_,fun j hj=>?_,fun j hj=>?_,fun j k hj hk hn=>?_,fun k hk=>?_,fun k hk=>?_⟩,?_⟩
 ·rw [hl,JV];exact ho
 ·rw [hl]at hj
  by_cases e:j=R.length
  ·subst e
   rw[kH,nP];exact hg.of_block (key g hgl gne)
  rw[mP e,pM (by omega)];exact (h.rows j (by omega)).of_block (key _ (h.rows j (by omega)).lt (fun e2=>(h.tF _ e2).2 j (by omega) rfl))
 ·rw [hl]at hj
  by_cases e:j=R.length
  ·subst e
   rw[kH];exact .inr ⟨hgV,by omega⟩
  rw[mP e];exact .inl (h.rF j (by omega))
 ·rw [hl]at hj hk
  by_cases e1:j=R.length
  ·subst e1
   rw[kH,mP (by omega)];have:=hF _ (h.rF k (by omega));omega
  rw[mP e1]
  by_cases e2:k=R.length
  ·subst e2
   rw[kH];have:=hF _ (h.rF j (by omega));omega
  rw[mP e2];exact h.rr j k (by omega) (by omega) hn
 ·have t:=hvb k hk
  refine ⟨t.1,fun j hj=>?_⟩
  rw[hl]at hj
  by_cases e:j=R.length
  ·subst e;rw[kH];exact Ne.symm t.2.1
  rw[mP e];exact t.2.2 j (by omega)
 ·rcases hk with q|q
  ·have:=hF k q
   exact ⟨Nat.zero_le _,by omega⟩
  exact ⟨Nat.zero_le _,q.2⟩
 rcases ht with ⟨g',cap,e,-,hg'⟩|⟨cap,-,hg'⟩
 ·exact wL.grown hg' fun k hk=>by cases hk;exact (h.tF g' (by rw[e];rfl)).1
 exact wL.grown hg' fun k hk=>by cases hk
theorem JU (t:Nat) (ht:1<=t/\t<=11) (zs:List Int) (hk:iZ t zs=true):(kA t zs).length<=1024:=by
 have many:∀n x:Int,n<=16->(QJ n x).length<=1024:=fun n x hn=>by unfold QJ;simp;omega
 revert hk
 revert t
 refine cY ?_ ?_ ?_ ?_ ?_ ?_ ?_ ?_ ?_ ?_ ?_
 ·exact fun _=>by show (1:Nat)<=1024;decide
 ·exact fun _=>by show (1:Nat)<=1024;decide
 ·exact fun _=>by show (1:Nat)<=1024;decide
 ·intro hk;have:=(gE rfl hk).2;exact many _ _ this.1.2
 ·exact fun _=>by show (1:Nat)<=1024;decide
 ·intro hk;have:=(nB rfl hk).2;exact many _ _ this.2
 ·exact fun _=>by show (2:Nat)<=1024;decide
 ·exact fun _=>by show (1:Nat)<=1024;decide
 ·exact fun _=>by show (1:Nat)<=1024;decide
 ·exact fun _=>by show (0:Nat)<=1024;decide
 exact fun _=>by show (1:Nat)<=1024;decide
theorem MO (t:Nat) (ht:1<=t/\t<=11) (zs:List Int) (hk:iZ t zs=true):(pY t zs).length<=1024:=by
 revert hk
 revert t
 refine cY ?_ ?_ ?_ ?_ ?_ ?_ ?_ ?_ ?_ ?_ ?_
 ·exact fun _=>by show (1:Nat)<=1024;decide
 ·exact fun _=>by show (1:Nat)<=1024;decide
 ·exact fun _=>by show (1:Nat)<=1024;decide
 ·exact fun _=>by show (1:Nat)<=1024;decide
 ·intro hk;have:=(gE rfl hk).2;show (List.replicate _ _).length<=1024;simp;omega
 ·exact fun _=>by show (1:Nat)<=1024;decide
 ·exact fun _=>by show (1:Nat)<=1024;decide
 ·exact fun _=>by show (1:Nat)<=1024;decide
 ·intro hk;have:=(nB rfl hk).2;show (List.replicate _ _).length<=1024;simp;omega
 ·exact fun _=>by show (1:Nat)<=1024;decide
 exact fun _=>by show (0:Nat)<=1024;decide
theorem UU (t:Nat) (zs:List Int):(aY t zs).1.length<=1024/\(aY t zs).2.1.length<=1024:=by
 unfold aY
 by_cases h1:1<=t/\t<=11
 ·rw [if_pos h1]
  by_cases h2:iZ t zs=true
  ·rw [if_pos h2];exact ⟨JU t h1 zs h2,MO t h1 zs h2⟩
  rw[if_neg h2];exact ⟨Nat.zero_le _,Nat.zero_le _⟩
 rw[if_neg h1];exact ⟨Nat.zero_le _,Nat.zero_le _⟩
def XJ (V u:World) (n:Nat) (z:Value):Prop:=∃g,z=.slice (some ⟨g,0,none⟩) n n/\u.rowIs g 4 n (fun _=>.bool false)/\V.heap.size<=g
def jS (V u:World) (n:Nat) (z:Value):Prop:=∃h g,z=.slice (some ⟨h,0,none⟩) 1 1/\u.cell? ⟨h,0,none⟩=some (.slice (some ⟨g,0,none⟩) n n)/\u.rowIs g 4 n (fun _=>.bool false)/\V.heap.size<=g
theorem XJ.later {V u u':World} {n:Nat} {z:Value} (h:XJ V u n z) (hb:Below u.heap.size u u'):XJ V u' n z:=by
 obtain ⟨g,h1,h2,h3⟩:=h;exact ⟨g,h1,h2.of_block (hb.block g h2.lt),h3⟩
theorem jS.later {V u u':World} {n:Nat} {z:Value} (h:jS V u n z) (hb:Below u.heap.size u u'):jS V u' n z:=by
 obtain ⟨q,g,h1,h2,h3,h4⟩:=h;exact ⟨q,g,h1,by rw[hb.cell (block_lt_of_cell h2)];exact h2,h3.of_block (hb.block g h3.lt),h4⟩
def tV (F:Nat->Prop) (V:World) (R:List (List Bool)) (u:World) (z:Value):Prop:=∃F',BT 0 F' u z R/\(∀ k,F' k->F k\/V.heap.size<=k)/\wL F V u
theorem tV.later {F:Nat->Prop} {V u u':World} {R:List (List Bool)} {z:Value} (h:tV F V R u z) (hb:Below u.heap.size u u'):tV F V R u' z:=by
 obtain ⟨F',h1,h2,h3⟩:=h;exact ⟨F',h1.keep (fun k hk=>hb.block k (h1.low k hk).2) hb.size,h2,h3.trans' (wL.of_below hb)⟩
theorem tV.size {F:Nat->Prop} {V u:World} {R:List (List Bool)} {z:Value} (h:tV F V R u z):V.heap.size<=u.heap.size:=by
 obtain ⟨F',h1,h2,h3⟩:=h;exact h3.size
theorem YY {V w:World} {o:Oper} {ρ :Operand->Value} (s x:Operand) (ho:o.op=.call { callee:=.builtin .append,args:=#[s,x],argTypes:=#[138,138] }) {F:Nat->Prop} {v z:Value} {R:List (List Bool)} {n:Nat} (hs: ρ s=v) (hx: ρ x=z) (hT:BT 0 F V v R) (hb:Below V.heap.size V w) (hz:jS V w n z) (hR:R.length<=1000)
 {T:World->Value->Prop} (h:∀w' v',tV F V (R++[List.replicate n false]) w' v'->T w' v'):vC Tryz.prog w T ((execOp ρ o).run Tryz.prog w):=by
 obtain ⟨i1,hi1,hy0,hy1,hy2⟩:=info_parts Tryz.infoSB;obtain ⟨q,g,rfl,hc,hg,hgV⟩:=hz;obtain ⟨A,hA⟩:=hT.keep (fun k hk=>hb.block k (hT.low k hk).2) hb.size
 obtain ⟨v',w',hr,h2,h3⟩:=pZ (P:=Tryz.prog) w 0 138 o.type 222 i1 (qN) 1 24 Tryz.underlying138 hi1 hy0 hy1 hy2 rfl (by decide) v R.length _ hA.tab ⟨q,0,none⟩ 1 1 (by decide) [.slice (some ⟨g,0,none⟩) n n] rfl (fun j u hu=>by
  match j,hu with
  |0,hu=>
   simp at hu;subst hu
   simpa [Addr.add] using hc) (fun u hu=>by simp at hu;subst hu;rfl) (by unfold maxLen;omega) (by omega) (Nat.zero_le _)
 have hl:(List.replicate n false).length=n:=List.length_replicate;have r:=hA.app (V:=V) (l:=List.replicate n false) (g:=g) (v':=v') (w4:=w') (fun k hk=>(hT.low k hk).2) hb.size (by rw[hl];exact hg.congr fun i hi=>by simp[List.getD_eq_getElem?_getD,hi]) hgV (by rw[hl];exact h2) h3;unfold execOp;simp only[ho,resolve,invoke,builtin,Sem.run_bind,Sem.run_pure,Result.andThen_ok,List.map_toArray,List.map_cons,List.map_nil,hs,hx,hr];exact h w' v' ⟨_,r.1,fun k hk=>hk.imp id And.left,(wL.of_below hb).trans' r.2⟩
def bX (F:Nat->Prop) (V:World) (b:Nat) (s:LS) (u:World):Prop:=∃F',jX F' u b s/\(∀ k,F' k->F k\/V.heap.size<=k)/\wL F V u
theorem bX.later {F:Nat->Prop} {V u u':World} {b:Nat} {s:LS} (h:bX F V b s u) (hb:Below u.heap.size u u'):bX F V b s u':=by
 obtain ⟨F',h1,h2,h3⟩:=h;exact ⟨F',h1.below hb,h2,h3.trans' (wL.of_below hb)⟩
theorem wL.wider {F F':Nat->Prop} {w w':World} (h:wL F w w') (hF:∀k,F k->F' k):wL F' w w':=⟨h.os,h.tape,h.output,h.size,fun k hk hn=>h.block k hk (fun e=>hn (hF k e))⟩
theorem UT {F F1 F2:Nat->Prop} {V u:World} {b m:Nat} {v1 v2 z:Value} {s:LS} {R:List (List Bool)} (hP:aN F V b m v1 v2 F1 F2 s) (hG:tV F1 V R u z):bX F V b ⟨s.ns,R,s.O⟩ (u.setCell ⟨b,1,none⟩ z):=by
 obtain ⟨F',h1,h2,h3⟩:=hG;have hsz:=h3.size
 have nb:¬F1 b:=fun e=>(hP.d1 b e).1 rfl
 have nm:¬F1 m:=fun e=>(hP.d1 m e).2.1 rfl
 have hbl:=hP.low b hP.fb;have hml:=hP.low m hP.fm;have hb:zD 140 b u #[.map (some m),v1,v2]:=hP.blk.keep (h3.block b hbl nb)
 have set:∀k,k≠b->(u.setCell ⟨b,1,none⟩ z).heap[k]? =u.heap[k]? :=fun k hk=>Below.heap_setCell u ⟨b,1,none⟩ z k hk
 have nF':∀k,F' k->k≠b/\k≠m/\¬F2 k:=fun k hk=>by
  rcases h2 k hk with q|q
  ·exact hP.d1 k q
  exact ⟨by omega,by omega,fun e=>by have:=(hP.outs.low k e).2;omega⟩
 refine ⟨fun k=>F k\/(V.heap.size<=k/\k<u.heap.size),⟨m,z,v2,F',F2,hb.set 1 z,?_,?_,?_,hP.bm,nF',hP.d2,.inl hP.fb,.inl hP.fm,fun k hk=>?_,fun k hk=>.inl (hP.f2 k hk),fun k hk=>?_⟩,fun k hk=>hk.imp id And.left,(h3.wider hP.f1).trans' (wL.set u hP.fb 1 z)⟩
 ·exact hP.names.keep ((set m (Ne.symm hP.bm)).trans (h3.block m hml nm))
 ·exact h1.keep (fun k hk=>set k (nF' k hk).1) (by rw[World.size_setCell];exact Nat.le_refl _)
 ·exact hP.outs.keep (fun k hk=>(set k (hP.d2 k hk).1).trans (h3.block k (hP.outs.low k hk).2 (fun e=>(hP.d1 k e).2.2 hk))) (by rw[World.size_setCell];exact hsz)
 ·exact (h2 k hk).imp (hP.f1 k) (fun q=>⟨q,(h1.low k hk).2⟩)
 rw[World.size_setCell]
 rcases hk with q|q
 ·have:=hP.low k q
  omega
 exact q.2
theorem US {F F1 F2:Nat->Prop} {V u:World} {b m:Nat} {v1 v2 z:Value} {s:LS} {R:List (List Bool)} (hP:aN F V b m v1 v2 F1 F2 s) (hG:tV F2 V R u z):bX F V b ⟨s.ns,s.I,R⟩ (u.setCell ⟨b,2,none⟩ z):=by
 obtain ⟨F',h1,h2,h3⟩:=hG;have hsz:=h3.size
 have nb:¬F2 b:=fun e=>(hP.d2 b e).1 rfl
 have nm:¬F2 m:=fun e=>(hP.d2 m e).2 rfl
 have hbl:=hP.low b hP.fb;have hml:=hP.low m hP.fm;have hb:zD 140 b u #[.map (some m),v1,v2]:=hP.blk.keep (h3.block b hbl nb)
 have set:∀k,k≠b->(u.setCell ⟨b,2,none⟩ z).heap[k]? =u.heap[k]? :=fun k hk=>Below.heap_setCell u ⟨b,2,none⟩ z k hk
 have nF':∀k,F' k->k≠b/\k≠m/\¬F1 k:=fun k hk=>by
  rcases h2 k hk with q|q
  ·exact ⟨(hP.d2 k q).1,(hP.d2 k q).2,fun e=>(hP.d1 k e).2.2 q⟩
  exact ⟨by omega,by omega,fun e=>by have:=(hP.ins.low k e).2;omega⟩
 refine ⟨fun k=>F k\/(V.heap.size<=k/\k<u.heap.size),⟨m,v1,z,F1,F',hb.set 2 z,?_,?_,?_,hP.bm,fun k hk=>⟨(hP.d1 k hk).1,(hP.d1 k hk).2.1,fun e=>(nF' k e).2.2 hk⟩,fun k hk=>⟨(nF' k hk).1,(nF' k hk).2.1⟩,.inl hP.fb,.inl hP.fm,fun k hk=>.inl (hP.f1 k hk),fun k hk=>?_,fun k hk=>?_⟩,fun k hk=>hk.imp id And.left,(h3.wider hP.f2).trans' (wL.set u hP.fb 2 z)⟩
 ·exact hP.names.keep ((set m (Ne.symm hP.bm)).trans (h3.block m hml nm))
 ·exact hP.ins.keep (fun k hk=>(set k (hP.d1 k hk).1).trans (h3.block k (hP.ins.low k hk).2 (hP.d1 k hk).2.2)) (by rw[World.size_setCell];exact hsz)
 ·exact h1.keep (fun k hk=>set k (nF' k hk).1) (by rw[World.size_setCell];exact Nat.le_refl _)
 ·exact (h2 k hk).imp (hP.f2 k) (fun q=>⟨q,(h1.low k hk).2⟩)
 rw[World.size_setCell]
 rcases hk with q|q
 ·have:=hP.low k q
  omega
 exact q.2
theorem tV.shape {F:Nat->Prop} {V u:World} {R:List (List Bool)} {z:Value} (h:tV F V R u z):∃x c,z=.slice x R.length c:=by
 obtain ⟨F',h1,-⟩:=h
 rcases hJ h1 with ⟨h2,h3⟩|⟨g,c,h2⟩
 ·exact ⟨none,0,by rw[h2,h3];rfl⟩
 exact ⟨_,_,h2⟩
theorem BT.slice {F:Nat->Prop} {w:World} {R:List (List Bool)} {v:Value} (h:BT 0 F w v R):∃x c,v=.slice x R.length c:=by
 rcases hJ h with ⟨h2,h3⟩|⟨g,c,h2⟩
 ·exact ⟨none,0,by rw[h2,h3];rfl⟩
 exact ⟨_,_,h2⟩
theorem JT {F F1 F2:Nat->Prop} {V u:World} {b m:Nat} {v1 v2 z:Value} {s:LS} {R:List (List Bool)} (hP:aN F V b m v1 v2 F1 F2 s) (hG:tV F1 V R u z):u.cell? ⟨b,1,none⟩=some v1/\u.frozen? ⟨b,1,none⟩=false:=by
 obtain ⟨F',h1,h2,h3⟩:=hG;have hb:zD 140 b u #[.map (some m),v1,v2]:=hP.blk.keep (h3.block b (hP.low b hP.fb) (fun e=>(hP.d1 b e).1 rfl));exact ⟨hb.cell rfl,hb.frozen 1⟩
theorem JS {F F1 F2:Nat->Prop} {V u:World} {b m:Nat} {v1 v2 z:Value} {s:LS} {R:List (List Bool)} (hP:aN F V b m v1 v2 F1 F2 s) (hG:tV F2 V R u z):u.cell? ⟨b,2,none⟩=some v2/\u.frozen? ⟨b,2,none⟩=false:=by
 obtain ⟨F',h1,h2,h3⟩:=hG;have hb:zD 140 b u #[.map (some m),v1,v2]:=hP.blk.keep (h3.block b (hP.low b hP.fb) (fun e=>(hP.d2 b e).1 rfl));exact ⟨hb.cell rfl,hb.frozen 2⟩
def EK (F:Nat->Prop) (w:World) (b:Nat) (r:Int × LS) (e:Ending) (w':World):Prop:=∃F',e=.returned (.int .i64 r.1)/\jX F' w' b r.2/\(∀ k,F' k->F k\/w.heap.size<=k)/\wL F w w'
theorem UR (F:Nat->Prop) (w:World) (b:Nat) (s:LS) (nm:ByteArray) (t:Nat) (a:Option Addr) (zs:List Int) (len cap:Nat) (h:jX F w b s) (ht:t<=255) (hl:zs.length=len) (hat:At w a zs) (hI:s.I.length<=1000) (hO:s.O.length<=1000):
 Calls Tryz.prog 124 #[(qP b),.agg #[.string nm,.int .u8 (t:Int),.slice a len cap]] w (EK F w b (vP s t zs)):=by
 have ba:=(Below.refl w.heap.size w).alloc (Nat.le_refl _) (.cells #[.string nm,.int .u8 (t:Int),.slice a len cap] 62);have OF:=zZ (WL t a zs len cap _ ht hl (hat.below ba));have BA:=zZ ba;have g0:=zL 62 w #[.string nm,.int .u8 (t:Int),.slice a len cap];have y1:=g0.cell (k:=1) rfl;have y2:=g0.cell (k:=2) rfl;have HL:=zZ h;have hsm:=UU t zs;unfold vP;unfold QH at OF;obtain ⟨f,hf⟩:∃f,(aY t zs).2.2=f:=⟨_,rfl⟩;obtain ⟨nI,hnI⟩:∃q,(aY t zs).1.length=q:=⟨_,rfl⟩;obtain ⟨nO,hnO⟩:∃q,(aY t zs).2.1.length=q:=⟨_,rfl⟩;rw[hnI,hnO]at hsm;rw[hf,hnI,hnO]at OF;rw[hf,hnI,hnO];clear hf hnI hnO g0 ba h hat hl
 by_cases h0:f=0
 ·subst h0
  rw[if_pos rfl];have hn1:=hsm.1;have hn2:=hsm.2;have HM1:=zZ (run_make_row' (P:=Tryz.prog) 222 4 (.bool false) 1 Tryz.underlying222 Tryz.infoB4 rfl .i64 .i64 nI (by omega) (by omega));have HM2:=zZ (run_make_row' (P:=Tryz.prog) 222 4 (.bool false) 1 Tryz.underlying222 Tryz.infoB4 rfl .i64 .i64 nO (by omega) (by omega))
  go_enter Tryz.func124,Tryz.ntmps124
  go_upto_region 1 with fail
  generalize w.alloc (.cells #[.string nm,.int .u8 (t:Int),.slice a len cap] 62)=W0 at *
  go_upto_region 4 with (go_at_call 159;(with_reducible refine OF.out.mono ?_);rintro e w1 ⟨x1,d1,x2,d2,rfl,-,-,-,b1⟩;have B1:=zZ b1;clear b1 y1 y2)
  have BB1:=zZ (BA.out.trans (B1.out.mono BA.out.size));obtain ⟨m,v1,v2,F1,F2,hP⟩:=HL.out.below BB1.out;obtain ⟨vx,vc,rfl⟩:=hP.ins.slice;have LP:=zZ hP;clear hP B1 OF
  refine yP [9,12] (fun d i u z=>match i with
   |0=>z=(qP b)
   |1=>z=(qP b)
   |2=>z=(qP b)
   |3=>z=.pointer (some ⟨b,1,none⟩)
   |4=>z=.slice vx s.I.length vc
   |5=>z=.slice x1 nI d1
   |6=>z=.int .i64 (nI:Int)
   |7=>(d 9=false->XJ w1 u nI z)
   |8=>(d 9=false->jS w1 u nI z)
   |9=>(d 9=true/\(d 12=false->tV F1 w1 (s.I++[List.replicate nI false]) u z))
   |10=>z=(qP b)
   |11=>z=.pointer (some ⟨b,1,none⟩)
   |12=>True
   |_=>True) (fun d u=>(d 9=false->Below w1.heap.size w1 u)/\(d 12=true->bX F w1 b ⟨s.ns,s.I++[List.replicate nI false],s.O⟩ u)/\w1.heap.size<=u.heap.size) (by kernel_rfl) (by kernel_rfl) (by kernel_rfl) ?_ ?_ ?_ ?_ ?_ ?_ (by kernel_rfl)
  ·intro d i w v w' h hb
   match i,h with
   |0,h=>exact h
   |1,h=>exact h
   |2,h=>exact h
   |3,h=>exact h
   |4,h=>exact h
   |5,h=>exact h
   |6,h=>exact h
   |7,h=>exact fun e=>XJ.later (h e) hb
   |8,h=>exact fun e=>jS.later (h e) hb
   |9,h=>exact ⟨h.1,fun e=>(h.2 e).later hb⟩
   |10,h=>exact h
   |11,h=>exact h
   |12,h=>exact h
   |_+13,_=>trivial
  ·intro d u u' h hb
   exact ⟨fun e=>(h.1 e).trans (hb.mono (h.1 e).size),fun e=>(h.2.1 e).later hb,Nat.le_trans h.2.2 hb.size⟩
  ·exact ⟨fun _=>Below.refl _ _,fun e=>absurd e (by decide),Nat.le_refl _⟩
  ·intro d i o ρ w' hm ho hf hg hC hcs hfs hfr zX
   match i,hm,ho,hf,hg,hfr,zX with
   |0,_,ho,hf,hg,hfr,zX=>
    simp only[qS]at ho;subst ho;refine ⟨fun _=>?_,qF⟩
    have ts: ρ (.tmp 0)=(qP b):=(qR hfr 0);simp[go_sem,ts];exact qB
   |1,_,ho,hf,hg,hfr,zX=>
    simp only[qS]at ho;subst ho;refine ⟨fun _=>?_,qF⟩
    have ts: ρ (.tmp 0)=(qP b):=(qR hfr 0);simp[go_sem,ts];exact qB
   |2,_,ho,hf,hg,hfr,zX=>
    simp only[qS]at ho;subst ho;refine ⟨fun _=>?_,qF⟩
    have d0: ρ (.tmp 21)=(qP b):=(qH zX 1 21);simp[go_sem,d0];exact qB
   |3,_,ho,hf,hg,hfr,zX=>
    simp only[qS]at ho;subst ho;refine ⟨fun _=>?_,qF⟩
    have d0: ρ (.tmp 22)=(qP b):=(qH zX 2 22);simp[go_sem,d0];exact qB
   |4,_,ho,hf,hg,hfr,zX=>
    simp only[qS]at ho;subst ho;refine ⟨fun _=>?_,qF⟩
    have cc:w'.cell? ⟨b,1,none⟩=some (.slice vx s.I.length vc):=(LP.out.blk.below (hC.1 (hf 9 (by decide) (by kernel_rfl)))).cell rfl;have d0: ρ (.tmp 23)=.pointer (some ⟨b,1,none⟩):=(qH zX 3 23);simp[go_sem,d0,cc];exact qB
   |5,_,ho,hf,hg,hfr,zX=>
    simp only[qS]at ho;subst ho;refine ⟨fun _=>?_,qF⟩
    have ts: ρ (.tmp 5)=.slice x1 nI d1:=(qR hfr 5);simp[go_sem,ts];exact qB
   |6,_,ho,hf,hg,hfr,zX=>
    simp only[qS]at ho;subst ho;refine ⟨fun _=>?_,qF⟩
    have d0: ρ (.tmp 25)=.slice x1 nI d1:=(qH zX 5 25);simp[go_sem,d0];exact qB
   |7,_,ho,hf,hg,hfr,zX=>
    simp only[qS]at ho;subst ho;refine ⟨fun _=>?_,qF⟩
    have d0: ρ (.tmp 26)=.int .i64 (nI:Int):=(qH zX 6 26);simp[go_sem,d0,HM1.out];exact ⟨(Below.refl _ _).alloc (Nat.le_refl _) _,fun _=>⟨w'.heap.size,rfl,World.rowIs_made w' (.bool false) nI 4,hC.2.2⟩⟩
   |8,_,ho,hf,hg,hfr,zX=>
    simp only[qS]at ho;subst ho;refine ⟨fun _=>?_,qF⟩
    obtain ⟨g,e7,r7,l7⟩:XJ w1 w' nI (ρ (.tmp 27)):=(qH zX 7 27) (hf 9 (by decide) (by kernel_rfl));simp[go_sem,e7];exact ⟨(Below.refl _ _).alloc (Nat.le_refl _) _,fun _=>⟨w'.heap.size,g,rfl,by simp,r7.of_block (Below.heap_alloc w' _ g r7.lt),l7⟩⟩
   |9,hm,_,_,_,_,_=>exact qD hm
   |10,_,ho,hf,hg,hfr,zX=>
    simp only[qS]at ho;subst ho;refine ⟨fun _=>?_,qF⟩
    have d0: ρ (.tmp 20)=(qP b):=(qH zX 0 20);simp[go_sem,d0];exact qB
   |11,_,ho,hf,hg,hfr,zX=>
    simp only[qS]at ho;subst ho;refine ⟨fun _=>?_,qF⟩
    have d0: ρ (.tmp 30)=(qP b):=(qH zX 10 30);simp[go_sem,d0];exact qB
   |12,hm,_,_,_,_,_=>exact qD hm
   |n+13,_,ho,_,_,_,_=>simp at ho
  ·intro d i o ρ w' hm ho h0 hf hg hC hcs hfs hfr zX
   match i,hm,ho,h0,hf,hg,hfr,zX with
   |0,hm,_,_,_,_,_,_=>exact qD hm
   |1,hm,_,_,_,_,_,_=>exact qD hm
   |2,hm,_,_,_,_,_,_=>exact qD hm
   |3,hm,_,_,_,_,_,_=>exact qD hm
   |4,hm,_,_,_,_,_,_=>exact qD hm
   |5,hm,_,_,_,_,_,_=>exact qD hm
   |6,hm,_,_,_,_,_,_=>exact qD hm
   |7,hm,_,_,_,_,_,_=>exact qD hm
   |8,hm,_,_,_,_,_,_=>exact qD hm
   |9,_,ho,h0,hf,hg,hfr,zX=>
    simp only[qS]at ho;subst ho;have t4: ρ (.tmp 24)=.slice vx s.I.length vc:=(qH zX 4 24);have t8:jS w1 w' nI (ρ (.tmp 28)):=(qH zX 8 28) h0;refine ⟨rfl,YY (.tmp 24) (.tmp 28) rfl t4 rfl LP.out.ins (hC.1 h0) t8 (by omega) ?_⟩
    intro u9 v9 hG9;have h12:d 12=false:=hf 12 (by decide) (by kernel_rfl);refine ⟨⟨fun e=>absurd e (by simp[zA]),fun e=>absurd (show d 12=true from e) (by rw[h12];decide),hG9.size⟩,fun _=>⟨rfl,fun _=>hG9⟩,?_⟩
    intro j t _ hs
    match j,hs with
    |0,hs=>exact hs
    |1,hs=>exact hs
    |2,hs=>exact hs
    |3,hs=>exact hs
    |4,hs=>exact hs
    |5,hs=>exact hs
    |6,hs=>exact hs
    |7,hs=>exact fun e=>absurd e (by simp[zA])
    |8,hs=>exact fun e=>absurd e (by simp[zA])
    |9,hs=>exact absurd hs.1 (by rw[h0];decide)
    |10,hs=>exact hs
    |11,hs=>exact hs
    |12,hs=>exact hs
    |_+13,_=>trivial
   |10,hm,_,_,_,_,_,_=>exact qD hm
   |11,hm,_,_,_,_,_,_=>exact qD hm
   |12,_,ho,h0,hf,hg,hfr,zX=>
    simp only[qS]at ho;subst ho;have t11: ρ (.tmp 31)=.pointer (some ⟨b,1,none⟩):=(qH zX 11 31);have t9:d 9=true/\(d 12=false->tV F1 w1 (s.I++[List.replicate nI false]) w' (ρ (.tmp 29))):=(qH zX 9 29);have hG:=t9.2 h0;obtain ⟨zx,zc,e9⟩:=hG.shape;rw[e9]at hG;have hbk:=JT LP.out hG;have c1:=hbk.1;have f1:=hbk.2;refine ⟨rfl,tQ (w':=w'.setCell ⟨b,1,none⟩ (.slice zx (s.I++[List.replicate nI false]).length zc)) (by simp[go_sem,t11,e9,c1,f1]) ?_⟩
    refine ⟨⟨fun e=>absurd (show d 9=false from e) (by rw[t9.1];decide),fun _=>UT LP.out hG,by rw[World.size_setCell];exact hC.2.2⟩,fun h=>absurd rfl h,?_⟩
    intro j t _ hs
    match j,hs with
    |0,hs=>exact hs
    |1,hs=>exact hs
    |2,hs=>exact hs
    |3,hs=>exact hs
    |4,hs=>exact hs
    |5,hs=>exact hs
    |6,hs=>exact hs
    |7,hs=>exact fun e=>absurd (show d 9=false from e) (by rw[t9.1];decide)
    |8,hs=>exact fun e=>absurd (show d 9=false from e) (by rw[t9.1];decide)
    |9,hs=>exact ⟨hs.1,fun e=>absurd e (by simp[zA])⟩
    |10,hs=>exact hs
    |11,hs=>exact hs
    |12,hs=>exact hs
    |_+13,_=>trivial
   |n+13,_,ho,_,_,_,_,_=>simp at ho
  intro V w9 hC9 hS;simp only[xA,uH];simp only[Act.put,qU];clear hS;obtain ⟨G,hL2,hG2,hC2⟩:=hC9.2.1 rfl;have HG2:=zZ hG2;have HC2:=zZ hC2;obtain ⟨m',u1,u2,E1,E2,hQ⟩:=hL2;obtain ⟨wx,wc,rfl⟩:=hQ.outs.slice;have LQ:=zZ hQ;clear hC9 hQ hG2 hC2 LP
  go_upto_region 5 with fail
  refine yP [9,12] (fun d i u z=>match i with
   |0=>z=(qP b)
   |1=>z=(qP b)
   |2=>z=(qP b)
   |3=>z=.pointer (some ⟨b,2,none⟩)
   |4=>z=.slice wx s.O.length wc
   |5=>z=.slice x2 nO d2
   |6=>z=.int .i64 (nO:Int)
   |7=>(d 9=false->XJ w9 u nO z)
   |8=>(d 9=false->jS w9 u nO z)
   |9=>(d 9=true/\(d 12=false->tV E2 w9 (s.O++[List.replicate nO false]) u z))
   |10=>z=(qP b)
   |11=>z=.pointer (some ⟨b,2,none⟩)
   |12=>True
   |_=>True) (fun d u=>(d 9=false->Below w9.heap.size w9 u)/\(d 12=true->bX G w9 b ⟨s.ns,s.I++[List.replicate nI false],s.O++[List.replicate nO false]⟩ u)/\w9.heap.size<=u.heap.size) (by kernel_rfl) (by kernel_rfl) (by kernel_rfl) ?_ ?_ ?_ ?_ ?_ ?_ (by kernel_rfl)
  ·intro d i w v w' h hb
   match i,h with
   |0,h=>exact h
   |1,h=>exact h
   |2,h=>exact h
   |3,h=>exact h
   |4,h=>exact h
   |5,h=>exact h
   |6,h=>exact h
   |7,h=>exact fun e=>XJ.later (h e) hb
   |8,h=>exact fun e=>jS.later (h e) hb
   |9,h=>exact ⟨h.1,fun e=>(h.2 e).later hb⟩
   |10,h=>exact h
   |11,h=>exact h
   |12,h=>exact h
   |_+13,_=>trivial
  ·intro d u u' h hb
   exact ⟨fun e=>(h.1 e).trans (hb.mono (h.1 e).size),fun e=>(h.2.1 e).later hb,Nat.le_trans h.2.2 hb.size⟩
  ·exact ⟨fun _=>Below.refl _ _,fun e=>absurd e (by decide),Nat.le_refl _⟩
  ·intro d i o ρ w' hm ho hf hg hC hcs hfs hfr zX
   match i,hm,ho,hf,hg,hfr,zX with
   |0,_,ho,hf,hg,hfr,zX=>
    simp only[qS]at ho;subst ho;refine ⟨fun _=>?_,qF⟩
    have ts: ρ (.tmp 0)=(qP b):=(qR hfr 0);simp[go_sem,ts];exact qB
   |1,_,ho,hf,hg,hfr,zX=>
    simp only[qS]at ho;subst ho;refine ⟨fun _=>?_,qF⟩
    have ts: ρ (.tmp 0)=(qP b):=(qR hfr 0);simp[go_sem,ts];exact qB
   |2,_,ho,hf,hg,hfr,zX=>
    simp only[qS]at ho;subst ho;refine ⟨fun _=>?_,qF⟩
    have d0: ρ (.tmp 33)=(qP b):=(qH zX 1 33);simp[go_sem,d0];exact qB
   |3,_,ho,hf,hg,hfr,zX=>
    simp only[qS]at ho;subst ho;refine ⟨fun _=>?_,qF⟩
    have d0: ρ (.tmp 34)=(qP b):=(qH zX 2 34);simp[go_sem,d0];exact qB
   |4,_,ho,hf,hg,hfr,zX=>
    simp only[qS]at ho;subst ho;refine ⟨fun _=>?_,qF⟩
    have cc:w'.cell? ⟨b,2,none⟩=some (.slice wx s.O.length wc):=(LQ.out.blk.below (hC.1 (hf 9 (by decide) (by kernel_rfl)))).cell rfl;have d0: ρ (.tmp 35)=.pointer (some ⟨b,2,none⟩):=(qH zX 3 35);simp[go_sem,d0,cc];exact qB
   |5,_,ho,hf,hg,hfr,zX=>
    simp only[qS]at ho;subst ho;refine ⟨fun _=>?_,qF⟩
    have ts: ρ (.tmp 6)=.slice x2 nO d2:=(qR hfr 6);simp[go_sem,ts];exact qB
   |6,_,ho,hf,hg,hfr,zX=>
    simp only[qS]at ho;subst ho;refine ⟨fun _=>?_,qF⟩
    have d0: ρ (.tmp 37)=.slice x2 nO d2:=(qH zX 5 37);simp[go_sem,d0];exact qB
   |7,_,ho,hf,hg,hfr,zX=>
    simp only[qS]at ho;subst ho;refine ⟨fun _=>?_,qF⟩
    have d0: ρ (.tmp 38)=.int .i64 (nO:Int):=(qH zX 6 38);simp[go_sem,d0,HM2.out];exact ⟨(Below.refl _ _).alloc (Nat.le_refl _) _,fun _=>⟨w'.heap.size,rfl,World.rowIs_made w' (.bool false) nO 4,hC.2.2⟩⟩
   |8,_,ho,hf,hg,hfr,zX=>
    simp only[qS]at ho;subst ho;refine ⟨fun _=>?_,qF⟩
    obtain ⟨g,e7,r7,l7⟩:XJ w9 w' nO (ρ (.tmp 39)):=(qH zX 7 39) (hf 9 (by decide) (by kernel_rfl));simp[go_sem,e7];exact ⟨(Below.refl _ _).alloc (Nat.le_refl _) _,fun _=>⟨w'.heap.size,g,rfl,by simp,r7.of_block (Below.heap_alloc w' _ g r7.lt),l7⟩⟩
   |9,hm,_,_,_,_,_=>exact qD hm
   |10,_,ho,hf,hg,hfr,zX=>
    simp only[qS]at ho;subst ho;refine ⟨fun _=>?_,qF⟩
    have d0: ρ (.tmp 32)=(qP b):=(qH zX 0 32);simp[go_sem,d0];exact qB
   |11,_,ho,hf,hg,hfr,zX=>
    simp only[qS]at ho;subst ho;refine ⟨fun _=>?_,qF⟩
    have d0: ρ (.tmp 42)=(qP b):=(qH zX 10 42);simp[go_sem,d0];exact qB
   |12,hm,_,_,_,_,_=>exact qD hm
   |n+13,_,ho,_,_,_,_=>simp at ho
  ·intro d i o ρ w' hm ho h0 hf hg hC hcs hfs hfr zX
   match i,hm,ho,h0,hf,hg,hfr,zX with
   |0,hm,_,_,_,_,_,_=>exact qD hm
   |1,hm,_,_,_,_,_,_=>exact qD hm
   |2,hm,_,_,_,_,_,_=>exact qD hm
   |3,hm,_,_,_,_,_,_=>exact qD hm
   |4,hm,_,_,_,_,_,_=>exact qD hm
   |5,hm,_,_,_,_,_,_=>exact qD hm
   |6,hm,_,_,_,_,_,_=>exact qD hm
   |7,hm,_,_,_,_,_,_=>exact qD hm
   |8,hm,_,_,_,_,_,_=>exact qD hm
   |9,_,ho,h0,hf,hg,hfr,zX=>
    simp only[qS]at ho;subst ho;have t4: ρ (.tmp 36)=.slice wx s.O.length wc:=(qH zX 4 36);have t8:jS w9 w' nO (ρ (.tmp 40)):=(qH zX 8 40) h0;refine ⟨rfl,YY (.tmp 36) (.tmp 40) rfl t4 rfl LQ.out.outs (hC.1 h0) t8 (by omega) ?_⟩
    intro u9 v9 hG9;have h12:d 12=false:=hf 12 (by decide) (by kernel_rfl);refine ⟨⟨fun e=>absurd e (by simp[zA]),fun e=>absurd (show d 12=true from e) (by rw[h12];decide),hG9.size⟩,fun _=>⟨rfl,fun _=>hG9⟩,?_⟩
    intro j t _ hs
    match j,hs with
    |0,hs=>exact hs
    |1,hs=>exact hs
    |2,hs=>exact hs
    |3,hs=>exact hs
    |4,hs=>exact hs
    |5,hs=>exact hs
    |6,hs=>exact hs
    |7,hs=>exact fun e=>absurd e (by simp[zA])
    |8,hs=>exact fun e=>absurd e (by simp[zA])
    |9,hs=>exact absurd hs.1 (by rw[h0];decide)
    |10,hs=>exact hs
    |11,hs=>exact hs
    |12,hs=>exact hs
    |_+13,_=>trivial
   |10,hm,_,_,_,_,_,_=>exact qD hm
   |11,hm,_,_,_,_,_,_=>exact qD hm
   |12,_,ho,h0,hf,hg,hfr,zX=>
    simp only[qS]at ho;subst ho;have t11: ρ (.tmp 43)=.pointer (some ⟨b,2,none⟩):=(qH zX 11 43);have t9:d 9=true/\(d 12=false->tV E2 w9 (s.O++[List.replicate nO false]) w' (ρ (.tmp 41))):=(qH zX 9 41);have hG:=t9.2 h0;obtain ⟨zx,zc,e9⟩:=hG.shape;rw[e9]at hG;have hbk:=JS LQ.out hG;have c1:=hbk.1;have f1:=hbk.2;refine ⟨rfl,tQ (w':=w'.setCell ⟨b,2,none⟩ (.slice zx (s.O++[List.replicate nO false]).length zc)) (by simp[go_sem,t11,e9,c1,f1]) ?_⟩
    refine ⟨⟨fun e=>absurd (show d 9=false from e) (by rw[t9.1];decide),fun _=>US LQ.out hG,by rw[World.size_setCell];exact hC.2.2⟩,fun h=>absurd rfl h,?_⟩
    intro j t _ hs
    match j,hs with
    |0,hs=>exact hs
    |1,hs=>exact hs
    |2,hs=>exact hs
    |3,hs=>exact hs
    |4,hs=>exact hs
    |5,hs=>exact hs
    |6,hs=>exact hs
    |7,hs=>exact fun e=>absurd (show d 9=false from e) (by rw[t9.1];decide)
    |8,hs=>exact fun e=>absurd (show d 9=false from e) (by rw[t9.1];decide)
    |9,hs=>exact ⟨hs.1,fun e=>absurd e (by simp[zA])⟩
    |10,hs=>exact hs
    |11,hs=>exact hs
    |12,hs=>exact hs
    |_+13,_=>trivial
   |n+13,_,ho,_,_,_,_,_=>simp at ho
  intro V w8 hC8 hS;simp only[xA,uH];simp only[Act.put,qU];clear hS;obtain ⟨G',hL3,hG3,hC3⟩:=hC8.2.1 rfl;have HL3:=zZ hL3;have HG3:=zZ hG3;have HC3:=zZ hC3;clear hC8 hL3 hG3 hC3
  go_wp2
  go_ret
  have s1:=BB1.out.size;have s2:=HC2.out.size;exact ⟨G',rfl,HL3.out,fun k hk=>(HG3.out k hk).elim (fun q=>(HG2.out k q).imp id (fun r=>by omega)) (fun q=>.inr (by omega)),((wL.of_below BB1.out).trans' HC2.out).trans HC3.out fun k hk=>(HG2.out k hk).imp id (fun r=>by omega)⟩
 rw[if_neg h0]
 have q1:(f !=0)=true:=by simpa using h0
 go_enter Tryz.func124,Tryz.ntmps124
 go_upto_region 1 with fail
 generalize w.alloc (.cells #[.string nm,.int .u8 (t:Int),.slice a len cap] 62)=W0 at *
 go_wp2_with (go_at_call 159;(with_reducible refine OF.out.mono ?_);rintro e w1 ⟨x1,d1,x2,d2,rfl,-,-,-,b1⟩;have B1:=zZ b1;clear b1 y1 y2)
 go_ret
 have bb:=BA.out.trans (B1.out.mono BA.out.size);exact ⟨F,rfl,HL.out.below bb,fun k hk=>.inl hk,wL.of_below bb⟩
end Go.Proofs.YtdcjdnkdeamigaaGreatDoor
