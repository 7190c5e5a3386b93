/- Texts of one chain. -/
import Derived.Test.YtpohmekkdjdhmaaGreatPartQ
import Derived.Test.YtpohmekkdjdhmaaGreatPartTopPeriods28
import Derived.Test.YtpohmekkdjdhmaaGreatPartTopPeriods19
import Derived.Test.YtpohmekkdjdhmaaGreatPartTopPeriods4
import Derived.Maps.Own
import Derived.Maps.Views
import Derived.Deep.OwnRows
import Derived.Deep.LoopGhost
import Derived.Deep.DeepCutAuto
import Derived.Test.YtpohmekkdjdhmaaGreatPartTopPeriods3
import Derived.Test.YtpohmekkdjdhmaaGreatPartTopPeriods16
import Derived.Test.YtpohmekkdjdhmaaGreatPartTopPeriods23
set_option maxRecDepth 100000
set_option maxHeartbeats 4000000
namespace Go.Proofs.YtpohmekkdjdhmaaGreat
open Go.ChangeShapes Go.WideShapes Go.ChangeAt Go.RowKit
def jU (w:World) (m:Nat) (ns:List (List UInt8)):Prop:=
 ∃(n:Nat) (D:DataW Unit),w.ownsMap Tryz.prog 9 (plainElem Tryz.prog 3) m n D/\n<=ns.length/\Maps.IsMap D/\∀l:List UInt8,D.atKey (.string l) (.lit (.int .i64 0))=.lit (.int .i64 (ns.count l:Nat))
theorem AJ (w:World):jU (w.alloc (.map #[] 0)) w.heap.size []:=⟨0,.map [],World.ownsMap_made _ _ _ _,Nat.le_refl _,⟨_,rfl⟩,fun _=>rfl⟩
theorem jU.lt {w:World} {m:Nat} {ns:List (List UInt8)} (h:jU w m ns):m<w.heap.size:=by
 obtain ⟨n,D,h1,-⟩:=h;exact h1.lt
theorem jU.keep {w w':World} {m:Nat} {ns:List (List UInt8)} (h:jU w m ns) (hb:w'.heap[m]? =w.heap[m]?):jU w' m ns:=by
 obtain ⟨n,D,⟨es,clock,h1,h2⟩,h3⟩:=h;exact ⟨n,D,⟨es,clock,hb.trans h1,h2⟩,h3⟩
theorem JZ:Maps.Keyed Tryz.prog 9:=Maps.string_keyed Tryz.underlying9
theorem zero3 (w:World):(zeroValue 3).run Tryz.prog w=.ok (.int .i64 0) w:=by kernel_rfl
theorem jU.look {w:World} {m:Nat} {ns:List (List UInt8)} (h:jU w m ns) (l:List UInt8) (hl:l.length<=16):(Instr.lookup 138 (.map (some m)) (.string (yG l)) false).run Tryz.prog w=.ok (.int .i64 ((ns.count l:Nat):Int)) w:=by
 obtain ⟨n,D,h1,-,-,h4⟩:=h;obtain ⟨c,h5,h6,-⟩:=h1.lookup_int JZ Tryz.underlying138 Tryz.underlying3 (zero3 w) (Go.WideMaps.keyOf_string_mk (s:=yG l) Tryz.underlying9 (by rw[rQ];unfold maxLen;omega))
 have e:(yG l).data.toList=l:=by simp[yG]
 rw[e,h4]at h6;obtain ⟨-,h8⟩:=Lit.int.inj (DataW.lit.inj h6);rw[h5,h8]
theorem AH {D:DataW Unit} {ns:List (List UInt8)} (hD:Maps.IsMap D) (h:∀l:List UInt8,D.atKey (.string l) (.lit (.int .i64 0))=.lit (.int .i64 (ns.count l:Nat))) (s l:List UInt8):(D.put (.string s) (.lit (.int .i64 ((ns.count s:Nat)+1:Int)))).atKey (.string l) (.lit (.int .i64 0))=.lit (.int .i64 ((s::ns).count l:Nat)):=by
 by_cases e:l=s
 ·subst e
  rw[Maps.atKey_put_same hD (by trivial)];simp
 rw[Maps.atKey_put_other (by simpa using e),h];simp[Ne.symm e]
def YZ (A:Nat->Nat) (R:List (List Bool)):List Value:=(List.range R.length).map fun j=>.slice (some ⟨A j,0,none⟩) (xM R j).length (xM R j).length
structure BTA (L : Nat) (F : Nat -> Prop) (w : World) (v : Value) (R : List (List Bool)) (A : Nat -> Nat) : Prop where
 tab:w.ownsRow L 185 1 v R.length (YZ A R)
 rows:∀j,j<R.length->w.rowIs (A j) 4 (xM R j).length (fun i=>.bool ((xM R j).getD i false))
 rF:∀j,j<R.length->F (A j)
 rr:∀j k,j<R.length->k<R.length->j≠k->A j≠A k
 tF:∀k,v.ownBlock=some k->F k/\∀j,j<R.length->A j≠k
 low:∀k,F k->L<=k/\k<w.heap.size
def BT (L:Nat) (F:Nat->Prop) (w:World) (v:Value) (R:List (List Bool)):Prop:=∃A,BTA L F w v R A
theorem zVS (L:Nat) (w:World):BT L (fun _=>False) w (qN) []:=⟨fun _=>0,World.ownsRow_nil _ _ _ _,fun j hj=>absurd hj (Nat.not_lt_zero _),fun j hj=>absurd hj (Nat.not_lt_zero _),fun j k hj=>absurd hj (Nat.not_lt_zero _),fun k hk=>(by cases hk),fun k hk=>hk.elim⟩
theorem xB {B e size n:Nat} {v:Value} {xs:List Value} {w w':World} (h:w.ownsRow B e size v n xs) (hk:∀k,v.ownBlock=some k->w'.heap[k]? =w.heap[k]?):w'.ownsRow B e size v n xs:=by
 refine ⟨h.1,?_⟩
 rcases h.2 with h2|⟨g,cap,cur,hv,hg,hh,r⟩
 ·exact .inl h2
 exact .inr ⟨g,cap,cur,hv,hg,by rw[hk g (by rw[hv];rfl)];exact hh,r⟩
theorem BT.keep {L:Nat} {F:Nat->Prop} {w w':World} {v:Value} {R:List (List Bool)} (h:BT L F w v R) (hk:∀k,F k->w'.heap[k]? =w.heap[k]?) (hs:w.heap.size<=w'.heap.size):BT L F w' v R:=by
 obtain ⟨A,h⟩:=h;exact ⟨A,xB h.tab fun k e=>hk k (h.tF k e).1,fun j hj=>(h.rows j hj).of_block (hk _ (h.rF j hj)),h.rF,h.rr,h.tF,fun k e=>⟨(h.low k e).1,Nat.lt_of_lt_of_le (h.low k e).2 hs⟩⟩
theorem BT.low {L:Nat} {F:Nat->Prop} {w:World} {v:Value} {R:List (List Bool)} (h:BT L F w v R):∀k,F k->L<=k/\k<w.heap.size:=by
 obtain ⟨A,h⟩:=h;exact h.low
theorem iB {L:Nat} {F:Nat->Prop} {w:World} {v:Value} {R:List (List Bool)} (h:BT L F w v R):(v=qN/\R=[])\/∃g c,v=.slice (some ⟨g,0,none⟩) R.length c:=by
 obtain ⟨A,h⟩:=h
 rcases h.tab.2 with ⟨h1,h2⟩|⟨g,cap,cur,hv,-⟩
 ·exact .inl ⟨h1,List.eq_nil_of_length_eq_zero h2⟩
 exact .inr ⟨g,cap,hv⟩
theorem QG {A:Nat->Nat} {R:List (List Bool)} {j:Nat} (h:j<R.length):(YZ A R)[j]? =some (.slice (some ⟨A j,0,none⟩) (xM R j).length (xM R j).length):=by
 unfold YZ;rw[List.getElem?_map,List.getElem?_range h];rfl
theorem BT.cell {L:Nat} {F:Nat->Prop} {w:World} {v:Value} {R:List (List Bool)} (h:BT L F w v R) {j:Nat} (hj:j<R.length):∃G c g,v=.slice (some ⟨G,0,none⟩) R.length c/\w.cell? ⟨G,j,none⟩=some (.slice (some ⟨g,0,none⟩) (xM R j).length (xM R j).length)/\w.rowIs g 4 (xM R j).length (fun i=>.bool ((xM R j).getD i false))/\F g:=by
 rcases iB h with ⟨-,h2⟩|⟨G,c,hv⟩
 ·rw [h2]at hj;exact absurd hj (Nat.not_lt_zero _)
 obtain ⟨A,h⟩:=h;subst hv;exact ⟨G,c,A j,rfl,by rw[World.ownsRow.cellAt h.tab j (by simpa using hj),QG hj],h.rows j hj,h.rF j hj⟩
theorem tD (R:List (List Bool)) (a p:Nat):(aU R a p).length=R.length:=by unfold aU;rw[List.length_set]
theorem mB {R:List (List Bool)} {a p:Nat} (j:Nat) (ha:a<R.length):xM (aU R a p) j=if j=a then (xM R a).set p true else xM R j:=by
 unfold xM aU
 by_cases e:j=a
 ·subst e
  rw[if_pos rfl,List.getD_eq_getElem?_getD,List.getElem?_set_self ha];rfl
 rw[if_neg e,List.getD_eq_getElem?_getD,List.getElem?_set_ne (Ne.symm e),List.getD_eq_getElem?_getD]
theorem zVR {A:Nat->Nat} {R:List (List Bool)} {a p:Nat} (ha:a<R.length):YZ A (aU R a p)=YZ A R:=by
 unfold YZ;rw[tD]
 refine List.map_congr_left fun j hj=>?_
 rw[mB j ha]
 by_cases e:j=a
 ·subst e;rw[if_pos rfl,List.length_set]
 rw[if_neg e]
theorem BT.take {L:Nat} {F:Nat->Prop} {w:World} {v:Value} {R:List (List Bool)} (h:BT L F w v R) {a p g G c:Nat} (ha:a<R.length) (hp:p<(xM R a).length) (hv:v=.slice (some ⟨G,0,none⟩) R.length c) (hc:w.cell? ⟨G,a,none⟩=some (.slice (some ⟨g,0,none⟩) (xM R a).length (xM R a).length)):
 BT L F (w.setCell ⟨g,p,none⟩ (.bool true)) v (aU R a p)/\F g/\L<=g:=by
 obtain ⟨A,h⟩:=h
 have e1:w.cell? ⟨G,a,none⟩=some (.slice (some ⟨A a,0,none⟩) (xM R a).length (xM R a).length):=by
  subst hv;rw[World.ownsRow.cellAt h.tab a (by simpa using ha),QG ha]
 have e2:A a=g:=by
  rw[hc]at e1
  cases e1
  rfl
 subst e2
 have hk:∀k,k≠A a->(w.setCell ⟨A a,p,none⟩ (.bool true)).heap[k]? =w.heap[k]? :=fun k hk=>Below.heap_setCell w ⟨A a,p,none⟩ _ k hk
 refine ⟨⟨A,?_,fun j hj=>?_,fun j hj=>?_,fun j k hj hk'=>?_,fun k e=>?_,fun k e=>?_⟩,h.rF a ha,(h.low _ (h.rF a ha)).1⟩
 ·rw [tD,zVR ha]
  exact xB h.tab fun k e=>hk k (Ne.symm ((h.tF k e).2 a ha))
 ·rw [tD]at hj
  rw[mB j ha]
  by_cases e:j=a
  ·subst e
   rw[if_pos rfl,List.length_set]
   refine ((h.rows j hj).set p _).congr fun i hi=>?_
   by_cases e2:i=p
   ·subst e2
    rw[if_pos rfl,List.getD_eq_getElem?_getD,List.getElem?_set_self hp];rfl
   rw[if_neg e2,List.getD_eq_getElem?_getD,List.getD_eq_getElem?_getD,List.getElem?_set_ne (Ne.symm e2)]
  rw[if_neg e];exact (h.rows j hj).of_block (hk _ (h.rr j a hj ha e))
 ·rw [tD]at hj;exact h.rF j hj
 ·rw [tD]at hj hk';exact h.rr j k hj hk'
 ·rw [tD];exact h.tF k e
 have:=h.low k e;rw[World.size_setCell];exact this
structure xP (F : Nat -> Prop) (w w' : World) : Prop where
 os:w'.os=w.os
 tape:w'.tape=w.tape
 output:w'.output=w.output
 size:w.heap.size<=w'.heap.size
 block:∀k,k<w.heap.size->¬F k->w'.heap[k]? =w.heap[k]?
theorem xP.of_below {F:Nat->Prop} {w w':World} (h:Below w.heap.size w w'):xP F w w':=⟨h.os,h.tape,h.output,h.size,fun k hk _=>h.block k hk⟩
theorem xP.trans {F F':Nat->Prop} {a b c:World} (h:xP F a b) (k:xP F' b c) (hF:∀k,F' k->F k\/a.heap.size<=k):xP F a c:=
 ⟨k.os.trans h.os,k.tape.trans h.tape,k.output.trans h.output,Nat.le_trans h.size k.size,fun i hi hn=>(k.block i (by have:=h.size;omega) (fun e=>(hF i e).elim hn (fun e2=>by omega))).trans (h.block i hi hn)⟩
theorem xP.trans' {F:Nat->Prop} {a b c:World} (h:xP F a b) (k:xP F b c):xP F a c:=h.trans k fun _ e=>.inl e
theorem xP.below {F:Nat->Prop} {w w':World} {L:Nat} (h:xP F w w') (hF:∀k,F k->L<=k) (hL:L<=w.heap.size):Below L w w':=⟨h.os,h.tape,h.output,h.size,fun k hk=>h.block k (by omega) (fun e=>by have:=hF k e;omega)⟩
theorem xP.set {F:Nat->Prop} (w:World) {g:Nat} (hF:F g) (k:Nat) (u:Value):xP F w (w.setCell ⟨g,k,none⟩ u):=⟨rfl,rfl,rfl,by rw[World.size_setCell];exact Nat.le_refl _,fun i _ hn=>Below.heap_setCell w ⟨g,k,none⟩ u i (fun e=>hn (by rw[e];exact hF))⟩
theorem xP.grown {F:Nat->Prop} {w w':World} {row:Option Nat} (h:w.grownBy w' row) (hF:∀k,row=some k->F k):xP F w w':=⟨h.os,h.tape,h.output,h.size,fun k hk hn=>h.block k hk (fun e=>hn (hF k e.symm))⟩
structure YY (F : Nat -> Prop) (w : World) (b m : Nat) (v1 v2 : Value) (F1 F2 : Nat -> Prop) (s : LS) : Prop where
 blk:zE 142 b w #[.map (some m),v1,v2]
 names:jU w m s.ns
 ins:BT 0 F1 w v1 s.I
 outs:BT 0 F2 w v2 s.O
 bm:b≠m
 d1:∀k,F1 k->k≠b/\k≠m/\¬F2 k
 d2:∀k,F2 k->k≠b/\k≠m
 fb:F b
 fm:F m
 f1:∀k,F1 k->F k
 f2:∀k,F2 k->F k
 low:∀k,F k->k<w.heap.size
def kH (F:Nat->Prop) (w:World) (b:Nat) (s:LS):Prop:=∃m v1 v2 F1 F2,YY F w b m v1 v2 F1 F2 s
theorem kH.keep {F:Nat->Prop} {w w':World} {b:Nat} {s:LS} (h:kH F w b s) (hk:∀k,F k->w'.heap[k]? =w.heap[k]?) (hs:w.heap.size<=w'.heap.size):kH F w' b s:=by
 obtain ⟨m,v1,v2,F1,F2,h⟩:=h;exact ⟨m,v1,v2,F1,F2,h.blk.keep (hk b h.fb),h.names.keep (hk m h.fm),h.ins.keep (fun k e=>hk k (h.f1 k e)) hs,h.outs.keep (fun k e=>hk k (h.f2 k e)) hs,h.bm,h.d1,h.d2,h.fb,h.fm,h.f1,h.f2,fun k e=>Nat.lt_of_lt_of_le (h.low k e) hs⟩
theorem kH.low {F:Nat->Prop} {w:World} {b:Nat} {s:LS} (h:kH F w b s):∀k,F k->k<w.heap.size:=by
 obtain ⟨m,v1,v2,F1,F2,h⟩:=h;exact h.low
theorem kH.below {F:Nat->Prop} {w w':World} {b:Nat} {s:LS} (h:kH F w b s) (hb:Below w.heap.size w w'):kH F w' b s:=h.keep (fun k hk=>hb.block k (h.low k hk)) hb.size
theorem zY {p:Prop} (h:p):Hid p:=h
theorem tU (F:Nat->Prop) (w:World) (b:Nat) (s:LS) (l:List UInt8) (h:kH F w b s) (hn:s.ns.length<=1000):
 Calls Tryz.prog 85 #[(qP b),.string (yG l)] w fun e w'=>e=.returned (.int .i64 (zK s.ns l).1)/\kH F w' b ⟨(zK s.ns l).2,s.I,s.O⟩/\xP F w w':=by
 have NM:=zY (QH l w);have HL:=zY h;unfold zK
 by_cases hb:vQ l=true
 ·have hl16:l.length<=16:=by
   unfold vQ at hb;simp only[Bool.and_eq_true,decide_eq_true_eq]at hb;exact hb.1
  rw[if_pos hb];rw[hb]at NM;obtain ⟨c,hc⟩:∃c,s.ns.count l=c:=⟨_,rfl⟩
  have hc2:c<=1000:=by rw[<- hc];exact Nat.le_trans List.count_le_length hn
  have HC:=zY hc
  have hcI:(c:Int)<=1000:=by omega
  rw[hc]
  have key:Hid (∀ w1,Below w.heap.size w w1->∃m,∃n,∃D:DataW Unit,w1.cell? ⟨b,0,none⟩=some (.map (some m))/\(Instr.lookup 138 (.map (some m)) (.string (yG l)) false).run Tryz.prog w1=.ok (.int .i64 (c:Int)) w1/\w1.ownsMap Tryz.prog 9 (plainElem Tryz.prog 3) m n D/\n<maxLen/\
   ∀w2,w2.ownsMap Tryz.prog 9 (plainElem Tryz.prog 3) m (n+1) (D.put (.string l) (.lit (.int .i64 ((c:Int)+1))))->w1.grownBy w2 (some m)->w2.cell? ⟨b,0,none⟩=some (.map (some m))/\(Instr.lookup 138 (.map (some m)) (.string (yG l)) false).run Tryz.prog w2=.ok (.int .i64 ((c:Int)+1)) w2/\kH F w2 b ⟨l::s.ns,s.I,s.O⟩/\xP F w w2):=fun w1 hb1=>by
   obtain ⟨m,v1,v2,F1,F2,h1⟩:=HL.out.below hb1;obtain ⟨n,D,k1,k2,k3,k4⟩:=id h1.names;refine ⟨m,n,D,h1.blk.cell rfl,?_,k1,?_,fun w2 g1 g2=>?_⟩
   ·have:=h1.names.look l hl16
    rw[HC.out]at this;exact this
   ·unfold maxLen;omega
   have hbk:w2.heap[b]? =w1.heap[b]? :=g2.block b h1.blk.lt (fun e=>h1.bm (Option.some.inj e))
   have hN:jU w2 m (l::s.ns):=⟨n+1,_,g1,by simpa using k2,by obtain ⟨es,rfl⟩:=k3;exact ⟨_,rfl⟩,fun q=>by
    have:=AH k3 k4 l q;rw[HC.out]at this
    exact this⟩
   have hlk:=hN.look l hl16
   have ec:((l::s.ns).count l:Nat)=c+1:=by rw[List.count_cons_self,HC.out]
   rw[ec]at hlk;have hb2:=h1.blk.keep hbk;refine ⟨hb2.cell rfl,by exact_mod_cast hlk,⟨m,v1,v2,F1,F2,hb2,hN,h1.ins.keep (fun k e=>g2.block k (h1.ins.low k e).2 (fun e2=>(h1.d1 k e).2.1 (Option.some.inj e2))) g2.size,h1.outs.keep (fun k e=>g2.block k (h1.outs.low k e).2 (fun e2=>(h1.d2 k e).2 (Option.some.inj e2))) g2.size,h1.bm,h1.d1,h1.d2,h1.fb,h1.fm,h1.f1,h1.f2,fun k e=>Nat.lt_of_lt_of_le (h1.low k e) g2.size⟩,(xP.of_below hb1).trans' (xP.grown g2 fun k e=>by cases e;exact h1.fm)⟩
  have kS:=ChangeMaps.putKey (H:=Unit);clear kS;have hk9:=WideMaps.keyOf_string_mk (P:=Tryz.prog) (k:=9) (s:=yG l) Tryz.underlying9 (by rw[rQ];unfold maxLen;omega)
  have e9:(yG l).data.toList=l:=by simp[yG]
  rw[e9]at hk9;have HK9:=zY hk9
  have hw1:(Lit.int .i64 ((c:Int)+1)).wf=true:=by
   show (decide ((-9223372036854775808:Int)<=(c:Int)+1)&&decide ((c:Int)+1<=9223372036854775807))=true;rw[decide_eq_true (by omega),decide_eq_true (by omega)];rfl
  have HPE:=zY (plainElem_int (H:=Unit) (P:=Tryz.prog) (e:=3) Tryz.underlying3 hw1)
  by_cases hc0:0<c
  ·obtain ⟨d,hd⟩:∃d:Int,(c:Int)+1=d:=⟨_,rfl⟩
   have q1:(1:Int)<d:=by omega
   have q2:d<=1001:=by omega
   rw[hd]at key HPE;rw[if_pos hc0];clear hk9 e9 hw1 hc h hb hc0 hc2
   go_enter Tryz.func85,Tryz.ntmps85
   go_wp2_with (first
    |(at_mapUpdate;refine wpList_mapUpdate_own _ rfl _ _ _ 138 rfl 9 3 JZ Tryz.underlying138 _ m n D rfl KO.out hn9 _ _ (.string l) rfl rfl HK9.out _ [] HPE.out ?_;intro w2 hown2 hgrow2;obtain ⟨c2,lk2,hL2,hB2⟩:=KK.out w2 hown2 hgrow2;have HL2:=zY hL2;have HB2:=zY hB2;clear hown2 hgrow2 hL2 hB2 c1 lk1)
    |(go_at_call 83;(with_reducible refine NM.out.mono ?_);rintro e w1 ⟨rfl,hb1⟩;obtain ⟨m,n,D,c1,lk1,ko,hn9,kk⟩:=key.out w1 hb1;have KO:=zY ko;have KK:=zY kk;clear ko kk hb1))
   go_ret
   refine ⟨?_,HL2.out,HB2.out⟩
   show _=Ending.returned (.int .i64 83);rfl
  obtain ⟨d,hd⟩:∃d:Int,(c:Int)+1=d:=⟨_,rfl⟩
  have q1:¬(1:Int)<d:=by omega
  have q2:0<=d:=by omega
  rw[hd]at key HPE;rw[if_neg hc0];clear hk9 e9 hw1 hc h hb hc0 hc2
  go_enter Tryz.func85,Tryz.ntmps85
  go_wp2_with (first
   |(at_mapUpdate;refine wpList_mapUpdate_own _ rfl _ _ _ 138 rfl 9 3 JZ Tryz.underlying138 _ m n D rfl KO.out hn9 _ _ (.string l) rfl rfl HK9.out _ [] HPE.out ?_;intro w2 hown2 hgrow2;obtain ⟨c2,lk2,hL2,hB2⟩:=KK.out w2 hown2 hgrow2;have HL2:=zY hL2;have HB2:=zY hB2;clear hown2 hgrow2 hL2 hB2 c1 lk1)
   |(go_at_call 83;(with_reducible refine NM.out.mono ?_);rintro e w1 ⟨rfl,hb1⟩;obtain ⟨m,n,D,c1,lk1,ko,hn9,kk⟩:=key.out w1 hb1;have KO:=zY ko;have KK:=zY kk;clear ko kk hb1))
  go_ret
  exact ⟨rfl,HL2.out,HB2.out⟩
 have hb':vQ l=false:=by simpa using hb
 rw[if_neg hb];rw[hb']at NM;clear h hb hb'
 go_enter Tryz.func85,Tryz.ntmps85
 go_wp2_with (go_at_call 83;(with_reducible refine NM.out.mono ?_);rintro e w1 ⟨rfl,hb1⟩)
 go_ret
 exact ⟨rfl,HL.out.below hb1,xP.of_below hb1⟩
def zOX (F:Nat->Prop) (w:World) (v:Value) (R:List (List Bool)) (a p:Int) (e:Ending) (w':World):Prop:=
 e=.returned (.int .i64 (zJ R a p))/\BT 0 F w' v (yL R a p)/\xP F w w'
theorem rN {F:Nat->Prop} {w:World} {v:Value} {R:List (List Bool)} {a p cd:Int} (h:BT 0 F w v R) (hc:zJ R a p=cd) (h0:cd≠0):zOX F w v R a p (.returned (.int .i64 cd)) w:=by
 subst hc;exact ⟨rfl,by unfold yL;rw[if_neg h0];exact h,xP.of_below (Below.refl _ _)⟩
theorem iA (F:Nat->Prop) (w:World) (v:Value) (R:List (List Bool)) (a p:Int) (h:BT 0 F w v R) (hR:R.length<=1000) (hr:∀j,(xM R j).length<=100000):
 Calls Tryz.prog 87 #[v,.int .i64 a,.int .i64 p] w (zOX F w v R a p):=by
 obtain ⟨x,c,rfl⟩:∃x c,v=.slice x R.length c:=by
  rcases iB h with ⟨h1,h2⟩|⟨g,c,h1⟩
  ·exact ⟨none,0,by rw[h1,h2];rfl⟩
  exact ⟨_,_,h1⟩
 have HB:=zY h
 have hRI:(R.length:Int)<=1000:=by omega
 by_cases h1:a<0
 ·have HT:=zY (show zJ R a p=84 by unfold zJ;rw[if_pos (.inl h1)])
  clear h
  go_enter Tryz.func87,Tryz.ntmps87
  go_wp2
  go_ret
  exact rN HB.out HT.out (by decide)
 by_cases h2:(R.length:Int)<=a
 ·have HT:=zY (show zJ R a p=84 by unfold zJ;rw[if_pos (.inr h2)])
  clear h
  go_enter Tryz.func87,Tryz.ntmps87
  go_wp2
  go_ret
  exact rN HB.out HT.out (by decide)
 obtain ⟨k,rfl⟩:∃k:Nat,a=(k:Int):=⟨a.toNat,by omega⟩
 have hk:k<R.length:=by omega
 have hkI:(k:Int)<(R.length:Int):=by omega
 obtain ⟨G,c',g,hv,hc1,hrow,hFg⟩:=h.cell hk
 cases hv
 have hrl:=hr k;obtain ⟨N,hN⟩:∃N,(xM R k).length=N:=⟨_,rfl⟩
 have hNI:(N:Int)<=100000:=by omega
 have t0:zJ R (k:Int) p=if p<0\/(N:Int)<=p then 85 else if nS R k p.toNat=true then 86 else 0:=by
  unfold zJ;rw[if_neg (by omega),Int.toNat_natCast,hN]
 by_cases h3:p<0
 ·have HT:=zY (show zJ R (k:Int) p=85 by rw[t0,if_pos (.inl h3)])
  clear h hrow t0
  go_enter Tryz.func87,Tryz.ntmps87
  go_wp2
  go_ret
  exact rN HB.out HT.out (by decide)
 have HC:=zY hc1;rw[hN]at hc1 hrow
 by_cases h4:(N:Int)<=p
 ·have HT:=zY (show zJ R (k:Int) p=85 by rw[t0,if_pos (.inr h4)])
  clear h hrow t0
  go_enter Tryz.func87,Tryz.ntmps87
  go_wp2
  go_ret
  exact rN HB.out HT.out (by decide)
 obtain ⟨q,rfl⟩:∃q:Nat,p=(q:Int):=⟨p.toNat,by omega⟩
 have hq:q<N:=by omega
 have hqI:(q:Int)<(N:Int):=by omega
 have c2:=hrow.cell hq;have f2:=hrow.frozen q;rw[if_neg (by omega),Int.toNat_natCast]at t0;have t1:(xM R k).getD q false=nS R k q:=rfl;rw[t1]at c2
 by_cases h5:nS R k q=true
 ·have HT:=zY (show zJ R (k:Int) (q:Int)=86 by rw[t0,if_pos h5])
  rw[h5]at c2;clear h hrow t0
  go_enter Tryz.func87,Tryz.ntmps87
  go_wp2
  go_ret
  exact rN HB.out HT.out (by decide)
 have HT:=zY (show zJ R (k:Int) (q:Int)=0 by rw[t0,if_neg h5])
 have h6:nS R k q=false:=by simpa using h5
 rw[h6]at c2;have HN:=zY hN;clear h hrow t0
 go_enter Tryz.func87,Tryz.ntmps87
 go_wp2
 go_ret
 have r:=HB.out.take (a:=k) (p:=q) hk (by rw[HN.out];exact hq) rfl HC.out;refine ⟨by rw[HT.out];rfl,?_,xP.set w r.2.1 q _⟩
 unfold yL;rw[if_pos HT.out,Int.toNat_natCast,Int.toNat_natCast];exact r.1
theorem Tryz.infoSB:(Tryz.prog.info? 185).map (fun i=>(i.zero,i.size,i.bytes))=some (some (qN),1,24):=by kernel_rfl
theorem Tryz.infoB4:(Tryz.prog.info? 4).map (fun i=>(i.zero,i.size,i.bytes))=some (some (.bool false),1,1):=by kernel_rfl
def IdxB (k:Int) (l:List Bool):Prop:=decide (0<=k)=l.contains false
theorem JY (w:World) (g n c:Nat) (l:List Bool) (hl:l.length=n) (h:w.rowIs g 4 n (fun i=>.bool (l.getD i false))) (hn:n<=100000):
 Calls Tryz.prog 126 #[.slice (some ⟨g,0,none⟩) n c,.bool false] w fun e w'=>(∃ k:Int,e=.returned (.int .i64 k)/\IdxB k l)/\w'=w:=by
 have HR:=zY h;have HL:=zY hl
 have hnI:(n:Int)<=100000:=by omega
 clear h hl
 go_enter Tryz.func126,Tryz.ntmps126
 go_wp2
 go_loopg [8] n (fun gk v wr=>∃i:Nat,i<=n/\gk=n-i/\v=.int .i64 (i:Int)/\wr=w/\∀j,j<i->l.getD j false=true)
 case atStart=>exact ⟨0,Nat.zero_le _,rfl,rfl,rfl,fun j hj=>absurd hj (Nat.not_lt_zero _)⟩
 case round=>
  obtain ⟨i,hi,rfl,rfl,rfl,hall⟩:=hrel;have HA:=zY hall;clear hall
  by_cases hlt:i<n
  ·have hii:(i:Int)<(n:Int):=by omega
   have c1:=HR.out.cell hlt;obtain ⟨q,hq⟩:∃q,l.getD i false=q:=⟨_,rfl⟩;rw[hq]at c1;have HQ:=zY hq;clear hq
   cases q
   ·go_wp2
    go_ret
    refine ⟨⟨(i:Int),rfl,?_⟩,rfl⟩
    have hm:false ∈ l:=by
     have h1:=HQ.out;rw[List.getD_eq_getElem?_getD,List.getElem?_eq_getElem (by rw[HL.out];exact hlt)]at h1;exact h1 ▸ List.getElem_mem _
    show decide (0<=(i:Int))=l.contains false;rw[List.contains_iff_mem.2 hm];exact decide_eq_true (by omega)
   go_wp2
   go_roundg (n-(i+1))
   case measure=>omega
   case rel=>exact ⟨i+1,by omega,rfl,by go_num,rfl,fun j hj=>by
    by_cases e:j<i
    ·exact HA.out j e
    have:j=i:=by omega
    subst this
    exact HQ.out⟩
  have hii:¬(i:Int)<(n:Int):=by omega
  go_wp2
  go_ret
  refine ⟨⟨-1,rfl,?_⟩,rfl⟩
  have hm:l.contains false=false:=by
   cases hb:l.contains false with
   |false=>rfl
   |true=>
    exfalso
    obtain ⟨k,hk,hk2⟩:=List.getElem_of_mem (List.contains_iff_mem.1 hb);have h1:=HA.out k (by rw[HL.out]at hk;omega);rw[List.getD_eq_getElem?_getD,List.getElem?_eq_getElem hk,hk2]at h1
    cases h1
  show decide (0<=(-1:Int))=l.contains false;rw[hm];rfl
theorem YX (w:World) (g n c:Nat) (l:List Bool) (hl:l.length=n) (h:w.rowIs g 4 n (fun i=>.bool (l.getD i false))) (hn:n<=100000):
 Calls Tryz.prog 108 #[.slice (some ⟨g,0,none⟩) n c,.bool false] w fun e w'=>e=.returned (.bool (l.contains false))/\w'=w:=by
 have IX:=zY (JY w g n c l hl h hn);clear h hl
 go_enter Tryz.func108,Tryz.ntmps108
 go_wp2_with (go_at_call 126;(with_reducible refine IX.out.mono ?_);rintro e w' ⟨⟨k,rfl,hk⟩,rfl⟩;have HK:=zY hk;clear hk)
 go_ret
 exact ⟨by rw[<- (show decide (0<=k)=l.contains false from HK.out)];rfl,rfl⟩
theorem FK (F:Nat->Prop) (w:World) (v:Value) (R:List (List Bool)) (a:Nat) (h:BT 0 F w v R) (ha:a<R.length) (hR:R.length<=1000) (hr:∀j,(xM R j).length<=100000):
 Calls Tryz.prog 88 #[v,.int .i64 (a:Int)] w fun e w'=>e=.returned (.bool (iC R a))/\w'=w:=by
 obtain ⟨G,c,g,rfl,hc,hrow,-⟩:=h.cell ha
 have haI:(a:Int)<(R.length:Int):=by omega
 have hrI:(R.length:Int)<=1000:=by omega
 have CB:=zY (YX w g (xM R a).length (xM R a).length (xM R a) rfl hrow (hr a));have HG:iC R a=(xM R a).contains false:=rfl;rw[HG];clear h hrow HG;generalize (xM R a).contains false=q at *
 go_enter Tryz.func88,Tryz.ntmps88
 go_wp2_with (go_at_call 108;(with_reducible refine CB.out.mono ?_);rintro e w' ⟨rfl,rfl⟩)
 go_ret
 exact ⟨rfl,rfl⟩
theorem sJ {R:List (List Bool)} {l:List Bool} {j:Nat} (h:j<R.length):xM (R++[l]) j=xM R j:=by
 unfold xM;rw[List.getD_eq_getElem?_getD,List.getD_eq_getElem?_getD,List.getElem?_append_left h]
theorem oP (R:List (List Bool)) (l:List Bool):xM (R++[l]) R.length=l:=by
 unfold xM;rw[List.getD_eq_getElem?_getD,List.getElem?_append_right (Nat.le_refl _),Nat.sub_self];rfl
def zQU (f:Nat->Nat) (i v:Nat):Nat->Nat:=fun j=>if j=i then v else f j
theorem kX (f:Nat->Nat) (i v:Nat):zQU f i v i=v:=if_pos rfl
theorem nQ {f:Nat->Nat} {i j v:Nat} (h:j≠i):zQU f i v j=f j:=if_neg h
theorem zVQ (A:Nat->Nat) (R:List (List Bool)) (l:List Bool) (g:Nat):YZ (zQU A R.length g) (R++[l])=YZ A R++[.slice (some ⟨g,0,none⟩) l.length l.length]:=by
 unfold YZ;rw[List.length_append,List.length_singleton,List.range_succ,List.map_append]
 congr 1
 ·refine List.map_congr_left fun j hj=>?_
  have hj':=List.mem_range.1 hj;rw[sJ hj',nQ (by omega)]
 rw[List.map_singleton,oP,kX]
theorem zQT {B e size n:Nat} {v:Value} {xs:List Value} {w:World} (h:w.ownsRow B e size v n xs) {k:Nat} (hk:v.ownBlock=some k):k<w.heap.size:=by
 rcases h.2 with ⟨h2,-⟩|⟨g,cap,cur,hv,hg,hh,-⟩
 ·rw [h2]at hk;cases hk
 rw[hv]at hk;cases hk;exact (Array.getElem?_eq_some_iff.1 hh).1
theorem BTA.app {F:Nat->Prop} {V u w4:World} {v v':Value} {R:List (List Bool)} {A:Nat->Nat} {l:List Bool} {g:Nat} (h:BTA 0 F u v R A) (hF:∀k,F k->k<V.heap.size) (hV:V.heap.size<=u.heap.size) (hg:u.rowIs g 4 l.length (fun i=>.bool (l.getD i false))) (hgV:V.heap.size<=g)
 (ho:w4.ownsRow 0 185 1 v' (R.length+1) (YZ A R++[.slice (some ⟨g,0,none⟩) l.length l.length]))
 (ht:(∃ g cap,v=.slice (some ⟨g,0,none⟩) R.length cap/\v'=.slice (some ⟨g,0,none⟩) (R.length+1) cap/\u.grownBy w4 (some g))\/(∃ cap,v'=.slice (some ⟨u.heap.size,0,none⟩) (R.length+1) cap/\u.grownBy w4 none)):
 BT 0 (fun k=>F k\/(V.heap.size<=k/\k<w4.heap.size)) w4 v' (R++[l])/\xP F u w4:=by
 have hgl:=hg.lt
 have key:∀k,k<u.heap.size->v.ownBlock≠some k->w4.heap[k]? =u.heap[k]? :=fun k hk hn=>by
  rcases ht with ⟨g,cap,e,-,hg⟩|⟨cap,-,hg⟩
  ·exact hg.block k hk (fun e2=>hn (by rw[e];exact e2.symm))
  exact hg.block k hk (fun e2=>by cases e2)
 have hsz:u.heap.size<=w4.heap.size:=by
  rcases ht with ⟨g,cap,e,-,hg⟩|⟨cap,-,hg⟩
  ·exact hg.size
  exact hg.size
 have hl:(R++[l]).length=R.length+1:=by simp
 have gne:v.ownBlock≠some g:=fun e=>by
  have:=hF g (h.tF g e).1;omega
 have hvb:∀k,v'.ownBlock=some k->(F k\/(V.heap.size<=k/\k<w4.heap.size))/\k≠g/\∀j,j<R.length->A j≠k:=fun k hk=>by
  rcases ht with ⟨g',cap,e,e',hg'⟩|⟨cap,e',hg'⟩
  ·rw [e']at hk;cases hk
   have t:=h.tF g' (by rw[e];rfl);exact ⟨.inl t.1,fun e3=>gne (by rw[e,<-e3];rfl),t.2⟩
  rw[e']at hk;cases hk
  have hlt:u.heap.size<w4.heap.size:=(by
   have:=zQT ho (k:=u.heap.size) (by rw[e'];rfl)
   exact this)
  exact ⟨.inr ⟨hV,hlt⟩,(by show u.heap.size≠g;omega),fun j hj=>by have:=hF _ (h.rF j hj);show A j≠u.heap.size;omega⟩
 refine ⟨⟨zQU A R.length g,?_,fun j hj=>?_,fun j hj=>?_,fun j k hj hk hn=>?_,fun k hk=>?_,fun k hk=>?_⟩,?_⟩
 ·rw [hl,zVQ];exact ho
 ·rw [hl]at hj
  by_cases e:j=R.length
  ·subst e
   rw[kX,oP];exact hg.of_block (key g hgl gne)
  rw[nQ e,sJ (by omega)];exact (h.rows j (by omega)).of_block (key _ (h.rows j (by omega)).lt (fun e2=>(h.tF _ e2).2 j (by omega) rfl))
 ·rw [hl]at hj
  by_cases e:j=R.length
  ·subst e
   rw[kX];exact .inr ⟨hgV,by omega⟩
  rw[nQ e];exact .inl (h.rF j (by omega))
 ·rw [hl]at hj hk
  by_cases e1:j=R.length
  ·subst e1
   rw[kX,nQ (by omega)];have:=hF _ (h.rF k (by omega));omega
  rw[nQ e1]
  by_cases e2:k=R.length
  ·subst e2
   rw[kX];have:=hF _ (h.rF j (by omega));omega
  rw[nQ e2];exact h.rr j k (by omega) (by omega) hn
 ·have t:=hvb k hk
  refine ⟨t.1,fun j hj=>?_⟩
  rw[hl]at hj
  by_cases e:j=R.length
  ·subst e;rw[kX];exact Ne.symm t.2.1
  rw[nQ e];exact t.2.2 j (by omega)
 ·rcases hk with q|q
  ·have:=hF k q
   exact ⟨Nat.zero_le _,by omega⟩
  exact ⟨Nat.zero_le _,q.2⟩
 rcases ht with ⟨g',cap,e,-,hg'⟩|⟨cap,-,hg'⟩
 ·exact xP.grown hg' fun k hk=>by cases hk;exact (h.tF g' (by rw[e];rfl)).1
 exact xP.grown hg' fun k hk=>by cases hk
theorem zVP (t:Nat) (ht:1<=t/\t<=11) (zs:List Int) (hk:jI t zs=true):(mJ t zs).length<=1024:=by
 have many:∀n x:Int,n<=16->(TC n x).length<=1024:=fun n x hn=>by unfold TC;simp;omega
 revert hk
 revert t
 refine bG ?_ ?_ ?_ ?_ ?_ ?_ ?_ ?_ ?_ ?_ ?_
 ·exact fun _=>by show (1:Nat)<=1024;decide
 ·exact fun _=>by show (1:Nat)<=1024;decide
 ·exact fun _=>by show (1:Nat)<=1024;decide
 ·intro hk;have:=(mH rfl hk).2;exact many _ _ this.1.2
 ·exact fun _=>by show (1:Nat)<=1024;decide
 ·intro hk;have:=(uH rfl hk).2;exact many _ _ this.2
 ·exact fun _=>by show (2:Nat)<=1024;decide
 ·exact fun _=>by show (1:Nat)<=1024;decide
 ·exact fun _=>by show (1:Nat)<=1024;decide
 ·exact fun _=>by show (0:Nat)<=1024;decide
 exact fun _=>by show (1:Nat)<=1024;decide
theorem AE (t:Nat) (ht:1<=t/\t<=11) (zs:List Int) (hk:jI t zs=true):(tG t zs).length<=1024:=by
 revert hk
 revert t
 refine bG ?_ ?_ ?_ ?_ ?_ ?_ ?_ ?_ ?_ ?_ ?_
 ·exact fun _=>by show (1:Nat)<=1024;decide
 ·exact fun _=>by show (1:Nat)<=1024;decide
 ·exact fun _=>by show (1:Nat)<=1024;decide
 ·exact fun _=>by show (1:Nat)<=1024;decide
 ·intro hk;have:=(mH rfl hk).2;show (List.replicate _ _).length<=1024;simp;omega
 ·exact fun _=>by show (1:Nat)<=1024;decide
 ·exact fun _=>by show (1:Nat)<=1024;decide
 ·exact fun _=>by show (1:Nat)<=1024;decide
 ·intro hk;have:=(uH rfl hk).2;show (List.replicate _ _).length<=1024;simp;omega
 ·exact fun _=>by show (1:Nat)<=1024;decide
 exact fun _=>by show (0:Nat)<=1024;decide
theorem QF (t:Nat) (zs:List Int):(nU t zs).1.length<=1024/\(nU t zs).2.1.length<=1024:=by
 unfold nU
 by_cases h1:1<=t/\t<=11
 ·rw [if_pos h1]
  by_cases h2:jI t zs=true
  ·rw [if_pos h2];exact ⟨zVP t h1 zs h2,AE t h1 zs h2⟩
  rw[if_neg h2];exact ⟨Nat.zero_le _,Nat.zero_le _⟩
 rw[if_neg h1];exact ⟨Nat.zero_le _,Nat.zero_le _⟩
def UP (V u:World) (n:Nat) (z:Value):Prop:=∃g,z=.slice (some ⟨g,0,none⟩) n n/\u.rowIs g 4 n (fun _=>.bool false)/\V.heap.size<=g
def jT (V u:World) (n:Nat) (z:Value):Prop:=∃h g,z=.slice (some ⟨h,0,none⟩) 1 1/\u.cell? ⟨h,0,none⟩=some (.slice (some ⟨g,0,none⟩) n n)/\u.rowIs g 4 n (fun _=>.bool false)/\V.heap.size<=g
theorem UP.later {V u u':World} {n:Nat} {z:Value} (h:UP V u n z) (hb:Below u.heap.size u u'):UP V u' n z:=by
 obtain ⟨g,h1,h2,h3⟩:=h;exact ⟨g,h1,h2.of_block (hb.block g h2.lt),h3⟩
theorem jT.later {V u u':World} {n:Nat} {z:Value} (h:jT V u n z) (hb:Below u.heap.size u u'):jT V u' n z:=by
 obtain ⟨q,g,h1,h2,h3,h4⟩:=h;exact ⟨q,g,h1,by rw[hb.cell (block_lt_of_cell h2)];exact h2,h3.of_block (hb.block g h3.lt),h4⟩
def vF (F:Nat->Prop) (V:World) (R:List (List Bool)) (u:World) (z:Value):Prop:=∃F',BT 0 F' u z R/\(∀ k,F' k->F k\/V.heap.size<=k)/\xP F V u
theorem vF.later {F:Nat->Prop} {V u u':World} {R:List (List Bool)} {z:Value} (h:vF F V R u z) (hb:Below u.heap.size u u'):vF F V R u' z:=by
 obtain ⟨F',h1,h2,h3⟩:=h;exact ⟨F',h1.keep (fun k hk=>hb.block k (h1.low k hk).2) hb.size,h2,h3.trans' (xP.of_below hb)⟩
theorem vF.size {F:Nat->Prop} {V u:World} {R:List (List Bool)} {z:Value} (h:vF F V R u z):V.heap.size<=u.heap.size:=by
 obtain ⟨F',h1,h2,h3⟩:=h;exact h3.size
theorem XH {V w:World} {o:Oper} {ρ :Operand->Value} (s x:Operand) (ho:o.op=.call { callee:=.builtin .append,args:=#[s,x],argTypes:=#[140,140] }) {F:Nat->Prop} {v z:Value} {R:List (List Bool)} {n:Nat} (hs: ρ s=v) (hx: ρ x=z) (hT:BT 0 F V v R) (hb:Below V.heap.size V w) (hz:jT V w n z) (hR:R.length<=1000)
 {T:World->Value->Prop} (h:∀w' v',vF F V (R++[List.replicate n false]) w' v'->T w' v'):zC Tryz.prog w T ((execOp ρ o).run Tryz.prog w):=by
 obtain ⟨i1,hi1,hy0,hy1,hy2⟩:=info_parts Tryz.infoSB;obtain ⟨q,g,rfl,hc,hg,hgV⟩:=hz;obtain ⟨A,hA⟩:=hT.keep (fun k hk=>hb.block k (hT.low k hk).2) hb.size
 obtain ⟨v',w',hr,h2,h3⟩:=wD (P:=Tryz.prog) w 0 140 o.type 185 i1 (qN) 1 24 Tryz.underlying140 hi1 hy0 hy1 hy2 rfl (by decide) v R.length _ hA.tab ⟨q,0,none⟩ 1 1 (by decide) [.slice (some ⟨g,0,none⟩) n n] rfl (fun j u hu=>by
  match j,hu with
  |0,hu=>
   simp at hu;subst hu
   simpa [Addr.add] using hc) (fun u hu=>by simp at hu;subst hu;rfl) (by unfold maxLen;omega) (by omega) (Nat.zero_le _)
 have hl:(List.replicate n false).length=n:=List.length_replicate;have r:=hA.app (V:=V) (l:=List.replicate n false) (g:=g) (v':=v') (w4:=w') (fun k hk=>(hT.low k hk).2) hb.size (by rw[hl];exact hg.congr fun i hi=>by simp[List.getD_eq_getElem?_getD,hi]) hgV (by rw[hl];exact h2) h3;unfold execOp;simp only[ho,resolve,invoke,builtin,Sem.run_bind,Sem.run_pure,Result.andThen_ok,List.map_toArray,List.map_cons,List.map_nil,hs,hx,hr];exact h w' v' ⟨_,r.1,fun k hk=>hk.imp id And.left,(xP.of_below hb).trans' r.2⟩
def aR (F:Nat->Prop) (V:World) (b:Nat) (s:LS) (u:World):Prop:=∃F',kH F' u b s/\(∀ k,F' k->F k\/V.heap.size<=k)/\xP F V u
theorem aR.later {F:Nat->Prop} {V u u':World} {b:Nat} {s:LS} (h:aR F V b s u) (hb:Below u.heap.size u u'):aR F V b s u':=by
 obtain ⟨F',h1,h2,h3⟩:=h;exact ⟨F',h1.below hb,h2,h3.trans' (xP.of_below hb)⟩
theorem xP.wider {F F':Nat->Prop} {w w':World} (h:xP F w w') (hF:∀k,F k->F' k):xP F' w w':=⟨h.os,h.tape,h.output,h.size,fun k hk hn=>h.block k hk (fun e=>hn (hF k e))⟩
theorem QE {F F1 F2:Nat->Prop} {V u:World} {b m:Nat} {v1 v2 z:Value} {s:LS} {R:List (List Bool)} (hP:YY F V b m v1 v2 F1 F2 s) (hG:vF F1 V R u z):aR F V b ⟨s.ns,R,s.O⟩ (u.setCell ⟨b,1,none⟩ z):=by
 obtain ⟨F',h1,h2,h3⟩:=hG;have hsz:=h3.size
 have nb:¬F1 b:=fun e=>(hP.d1 b e).1 rfl
 have nm:¬F1 m:=fun e=>(hP.d1 m e).2.1 rfl
 have hbl:=hP.low b hP.fb;have hml:=hP.low m hP.fm;have hb:zE 142 b u #[.map (some m),v1,v2]:=hP.blk.keep (h3.block b hbl nb)
 have set:∀k,k≠b->(u.setCell ⟨b,1,none⟩ z).heap[k]? =u.heap[k]? :=fun k hk=>Below.heap_setCell u ⟨b,1,none⟩ z k hk
 have nF':∀k,F' k->k≠b/\k≠m/\¬F2 k:=fun k hk=>by
  rcases h2 k hk with q|q
  ·exact hP.d1 k q
  exact ⟨by omega,by omega,fun e=>by have:=(hP.outs.low k e).2;omega⟩
 refine ⟨fun k=>F k\/(V.heap.size<=k/\k<u.heap.size),⟨m,z,v2,F',F2,hb.set 1 z,?_,?_,?_,hP.bm,nF',hP.d2,.inl hP.fb,.inl hP.fm,fun k hk=>?_,fun k hk=>.inl (hP.f2 k hk),fun k hk=>?_⟩,fun k hk=>hk.imp id And.left,(h3.wider hP.f1).trans' (xP.set u hP.fb 1 z)⟩
 ·exact hP.names.keep ((set m (Ne.symm hP.bm)).trans (h3.block m hml nm))
 ·exact h1.keep (fun k hk=>set k (nF' k hk).1) (by rw[World.size_setCell];exact Nat.le_refl _)
 ·exact hP.outs.keep (fun k hk=>(set k (hP.d2 k hk).1).trans (h3.block k (hP.outs.low k hk).2 (fun e=>(hP.d1 k e).2.2 hk))) (by rw[World.size_setCell];exact hsz)
 ·exact (h2 k hk).imp (hP.f1 k) (fun q=>⟨q,(h1.low k hk).2⟩)
 rw[World.size_setCell]
 rcases hk with q|q
 ·have:=hP.low k q
  omega
 exact q.2
theorem QD {F F1 F2:Nat->Prop} {V u:World} {b m:Nat} {v1 v2 z:Value} {s:LS} {R:List (List Bool)} (hP:YY F V b m v1 v2 F1 F2 s) (hG:vF F2 V R u z):aR F V b ⟨s.ns,s.I,R⟩ (u.setCell ⟨b,2,none⟩ z):=by
 obtain ⟨F',h1,h2,h3⟩:=hG;have hsz:=h3.size
 have nb:¬F2 b:=fun e=>(hP.d2 b e).1 rfl
 have nm:¬F2 m:=fun e=>(hP.d2 m e).2 rfl
 have hbl:=hP.low b hP.fb;have hml:=hP.low m hP.fm;have hb:zE 142 b u #[.map (some m),v1,v2]:=hP.blk.keep (h3.block b hbl nb)
 have set:∀k,k≠b->(u.setCell ⟨b,2,none⟩ z).heap[k]? =u.heap[k]? :=fun k hk=>Below.heap_setCell u ⟨b,2,none⟩ z k hk
 have nF':∀k,F' k->k≠b/\k≠m/\¬F1 k:=fun k hk=>by
  rcases h2 k hk with q|q
  ·exact ⟨(hP.d2 k q).1,(hP.d2 k q).2,fun e=>(hP.d1 k e).2.2 q⟩
  exact ⟨by omega,by omega,fun e=>by have:=(hP.ins.low k e).2;omega⟩
 refine ⟨fun k=>F k\/(V.heap.size<=k/\k<u.heap.size),⟨m,v1,z,F1,F',hb.set 2 z,?_,?_,?_,hP.bm,fun k hk=>⟨(hP.d1 k hk).1,(hP.d1 k hk).2.1,fun e=>(nF' k e).2.2 hk⟩,fun k hk=>⟨(nF' k hk).1,(nF' k hk).2.1⟩,.inl hP.fb,.inl hP.fm,fun k hk=>.inl (hP.f1 k hk),fun k hk=>?_,fun k hk=>?_⟩,fun k hk=>hk.imp id And.left,(h3.wider hP.f2).trans' (xP.set u hP.fb 2 z)⟩
 ·exact hP.names.keep ((set m (Ne.symm hP.bm)).trans (h3.block m hml nm))
 ·exact hP.ins.keep (fun k hk=>(set k (hP.d1 k hk).1).trans (h3.block k (hP.ins.low k hk).2 (hP.d1 k hk).2.2)) (by rw[World.size_setCell];exact hsz)
 ·exact h1.keep (fun k hk=>set k (nF' k hk).1) (by rw[World.size_setCell];exact Nat.le_refl _)
 ·exact (h2 k hk).imp (hP.f2 k) (fun q=>⟨q,(h1.low k hk).2⟩)
 rw[World.size_setCell]
 rcases hk with q|q
 ·have:=hP.low k q
  omega
 exact q.2
theorem vF.shape {F:Nat->Prop} {V u:World} {R:List (List Bool)} {z:Value} (h:vF F V R u z):∃x c,z=.slice x R.length c:=by
 obtain ⟨F',h1,-⟩:=h
 rcases iB h1 with ⟨h2,h3⟩|⟨g,c,h2⟩
 ·exact ⟨none,0,by rw[h2,h3];rfl⟩
 exact ⟨_,_,h2⟩
theorem BT.slice {F:Nat->Prop} {w:World} {R:List (List Bool)} {v:Value} (h:BT 0 F w v R):∃x c,v=.slice x R.length c:=by
 rcases iB h with ⟨h2,h3⟩|⟨g,c,h2⟩
 ·exact ⟨none,0,by rw[h2,h3];rfl⟩
 exact ⟨_,_,h2⟩
theorem zVO {F F1 F2:Nat->Prop} {V u:World} {b m:Nat} {v1 v2 z:Value} {s:LS} {R:List (List Bool)} (hP:YY F V b m v1 v2 F1 F2 s) (hG:vF F1 V R u z):u.cell? ⟨b,1,none⟩=some v1/\u.frozen? ⟨b,1,none⟩=false:=by
 obtain ⟨F',h1,h2,h3⟩:=hG;have hb:zE 142 b u #[.map (some m),v1,v2]:=hP.blk.keep (h3.block b (hP.low b hP.fb) (fun e=>(hP.d1 b e).1 rfl));exact ⟨hb.cell rfl,hb.frozen 1⟩
theorem zVN {F F1 F2:Nat->Prop} {V u:World} {b m:Nat} {v1 v2 z:Value} {s:LS} {R:List (List Bool)} (hP:YY F V b m v1 v2 F1 F2 s) (hG:vF F2 V R u z):u.cell? ⟨b,2,none⟩=some v2/\u.frozen? ⟨b,2,none⟩=false:=by
 obtain ⟨F',h1,h2,h3⟩:=hG;have hb:zE 142 b u #[.map (some m),v1,v2]:=hP.blk.keep (h3.block b (hP.low b hP.fb) (fun e=>(hP.d2 b e).1 rfl));exact ⟨hb.cell rfl,hb.frozen 2⟩
def zQS (F:Nat->Prop) (w:World) (b:Nat) (r:Int × LS) (e:Ending) (w':World):Prop:=∃F',e=.returned (.int .i64 r.1)/\kH F' w' b r.2/\(∀ k,F' k->F k\/w.heap.size<=k)/\xP F w w'
theorem QC (F:Nat->Prop) (w:World) (b:Nat) (s:LS) (nm:ByteArray) (t:Nat) (a:Option Addr) (zs:List Int) (len cap:Nat) (h:kH F w b s) (ht:t<=255) (hl:zs.length=len) (hat:At w a zs) (hI:s.I.length<=1000) (hO:s.O.length<=1000):
 Calls Tryz.prog 86 #[(qP b),.agg #[.string nm,.int .u8 (t:Int),.slice a len cap]] w (zQS F w b (xI s t zs)):=by
 have ba:=(Below.refl w.heap.size w).alloc (Nat.le_refl _) (.cells #[.string nm,.int .u8 (t:Int),.slice a len cap] 65);have OF:=zY (eB t a zs len cap _ ht hl (hat.below ba));have BA:=zY ba;have g0:=zV 65 w #[.string nm,.int .u8 (t:Int),.slice a len cap];have y1:=g0.cell (k:=1) rfl;have y2:=g0.cell (k:=2) rfl;have HL:=zY h;have hsm:=QF t zs;unfold xI;unfold QY at OF;obtain ⟨f,hf⟩:∃f,(nU t zs).2.2=f:=⟨_,rfl⟩;obtain ⟨nI,hnI⟩:∃q,(nU t zs).1.length=q:=⟨_,rfl⟩;obtain ⟨nO,hnO⟩:∃q,(nU t zs).2.1.length=q:=⟨_,rfl⟩;rw[hnI,hnO]at hsm;rw[hf,hnI,hnO]at OF;rw[hf,hnI,hnO];clear hf hnI hnO g0 ba h hat hl
 by_cases h0:f=0
 ·subst h0
  rw[if_pos rfl];have hn1:=hsm.1;have hn2:=hsm.2;have HM1:=zY (run_make_row' (P:=Tryz.prog) 185 4 (.bool false) 1 Tryz.underlying185 Tryz.infoB4 rfl .i64 .i64 nI (by omega) (by omega));have HM2:=zY (run_make_row' (P:=Tryz.prog) 185 4 (.bool false) 1 Tryz.underlying185 Tryz.infoB4 rfl .i64 .i64 nO (by omega) (by omega))
  go_enter Tryz.func86,Tryz.ntmps86
  go_upto_region 1 with fail
  generalize w.alloc (.cells #[.string nm,.int .u8 (t:Int),.slice a len cap] 65)=W0 at *
  go_upto_region 4 with (go_at_call 69;(with_reducible refine OF.out.mono ?_);rintro e w1 ⟨x1,d1,x2,d2,rfl,-,-,-,b1⟩;have B1:=zY b1;clear b1 y1 y2)
  have BB1:=zY (BA.out.trans (B1.out.mono BA.out.size));obtain ⟨m,v1,v2,F1,F2,hP⟩:=HL.out.below BB1.out;obtain ⟨vx,vc,rfl⟩:=hP.ins.slice;have LP:=zY hP;clear hP B1 OF
  refine zM [9,12] (fun d i u z=>match i with
   |0=>z=(qP b)
   |1=>z=(qP b)
   |2=>z=(qP b)
   |3=>z=.pointer (some ⟨b,1,none⟩)
   |4=>z=.slice vx s.I.length vc
   |5=>z=.slice x1 nI d1
   |6=>z=.int .i64 (nI:Int)
   |7=>(d 9=false->UP w1 u nI z)
   |8=>(d 9=false->jT w1 u nI z)
   |9=>(d 9=true/\(d 12=false->vF F1 w1 (s.I++[List.replicate nI false]) u z))
   |10=>z=(qP b)
   |11=>z=.pointer (some ⟨b,1,none⟩)
   |12=>True
   |_=>True) (fun d u=>(d 9=false->Below w1.heap.size w1 u)/\(d 12=true->aR F w1 b ⟨s.ns,s.I++[List.replicate nI false],s.O⟩ u)/\w1.heap.size<=u.heap.size) (by kernel_rfl) (by kernel_rfl) (by kernel_rfl) ?_ ?_ ?_ ?_ ?_ ?_ (by kernel_rfl)
  ·intro d i w v w' h hb
   match i,h with
   |0,h=>exact h
   |1,h=>exact h
   |2,h=>exact h
   |3,h=>exact h
   |4,h=>exact h
   |5,h=>exact h
   |6,h=>exact h
   |7,h=>exact fun e=>UP.later (h e) hb
   |8,h=>exact fun e=>jT.later (h e) hb
   |9,h=>exact ⟨h.1,fun e=>(h.2 e).later hb⟩
   |10,h=>exact h
   |11,h=>exact h
   |12,h=>exact h
   |_+13,_=>trivial
  ·intro d u u' h hb
   exact ⟨fun e=>(h.1 e).trans (hb.mono (h.1 e).size),fun e=>(h.2.1 e).later hb,Nat.le_trans h.2.2 hb.size⟩
  ·exact ⟨fun _=>Below.refl _ _,fun e=>absurd e (by decide),Nat.le_refl _⟩
  ·intro d i o ρ w' hm ho hf hg hC hcs hfs hfr zX
   match i,hm,ho,hf,hg,hfr,zX with
   |0,_,ho,hf,hg,hfr,zX=>
    simp only[qS]at ho;subst ho;refine ⟨fun _=>?_,qF⟩
    have ts: ρ (.tmp 0)=(qP b):=(qR hfr 0);simp[go_sem,ts];exact qB
   |1,_,ho,hf,hg,hfr,zX=>
    simp only[qS]at ho;subst ho;refine ⟨fun _=>?_,qF⟩
    have ts: ρ (.tmp 0)=(qP b):=(qR hfr 0);simp[go_sem,ts];exact qB
   |2,_,ho,hf,hg,hfr,zX=>
    simp only[qS]at ho;subst ho;refine ⟨fun _=>?_,qF⟩
    have d0: ρ (.tmp 21)=(qP b):=(qH zX 1 21);simp[go_sem,d0];exact qB
   |3,_,ho,hf,hg,hfr,zX=>
    simp only[qS]at ho;subst ho;refine ⟨fun _=>?_,qF⟩
    have d0: ρ (.tmp 22)=(qP b):=(qH zX 2 22);simp[go_sem,d0];exact qB
   |4,_,ho,hf,hg,hfr,zX=>
    simp only[qS]at ho;subst ho;refine ⟨fun _=>?_,qF⟩
    have cc:w'.cell? ⟨b,1,none⟩=some (.slice vx s.I.length vc):=(LP.out.blk.below (hC.1 (hf 9 (by decide) (by kernel_rfl)))).cell rfl;have d0: ρ (.tmp 23)=.pointer (some ⟨b,1,none⟩):=(qH zX 3 23);simp[go_sem,d0,cc];exact qB
   |5,_,ho,hf,hg,hfr,zX=>
    simp only[qS]at ho;subst ho;refine ⟨fun _=>?_,qF⟩
    have ts: ρ (.tmp 5)=.slice x1 nI d1:=(qR hfr 5);simp[go_sem,ts];exact qB
   |6,_,ho,hf,hg,hfr,zX=>
    simp only[qS]at ho;subst ho;refine ⟨fun _=>?_,qF⟩
    have d0: ρ (.tmp 25)=.slice x1 nI d1:=(qH zX 5 25);simp[go_sem,d0];exact qB
   |7,_,ho,hf,hg,hfr,zX=>
    simp only[qS]at ho;subst ho;refine ⟨fun _=>?_,qF⟩
    have d0: ρ (.tmp 26)=.int .i64 (nI:Int):=(qH zX 6 26);simp[go_sem,d0,HM1.out];exact ⟨(Below.refl _ _).alloc (Nat.le_refl _) _,fun _=>⟨w'.heap.size,rfl,World.rowIs_made w' (.bool false) nI 4,hC.2.2⟩⟩
   |8,_,ho,hf,hg,hfr,zX=>
    simp only[qS]at ho;subst ho;refine ⟨fun _=>?_,qF⟩
    obtain ⟨g,e7,r7,l7⟩:UP w1 w' nI (ρ (.tmp 27)):=(qH zX 7 27) (hf 9 (by decide) (by kernel_rfl));simp[go_sem,e7];exact ⟨(Below.refl _ _).alloc (Nat.le_refl _) _,fun _=>⟨w'.heap.size,g,rfl,by simp,r7.of_block (Below.heap_alloc w' _ g r7.lt),l7⟩⟩
   |9,hm,_,_,_,_,_=>exact qD hm
   |10,_,ho,hf,hg,hfr,zX=>
    simp only[qS]at ho;subst ho;refine ⟨fun _=>?_,qF⟩
    have d0: ρ (.tmp 20)=(qP b):=(qH zX 0 20);simp[go_sem,d0];exact qB
   |11,_,ho,hf,hg,hfr,zX=>
    simp only[qS]at ho;subst ho;refine ⟨fun _=>?_,qF⟩
    have d0: ρ (.tmp 30)=(qP b):=(qH zX 10 30);simp[go_sem,d0];exact qB
   |12,hm,_,_,_,_,_=>exact qD hm
   |n+13,_,ho,_,_,_,_=>simp at ho
  ·intro d i o ρ w' hm ho h0 hf hg hC hcs hfs hfr zX
   match i,hm,ho,h0,hf,hg,hfr,zX with
   |0,hm,_,_,_,_,_,_=>exact qD hm
   |1,hm,_,_,_,_,_,_=>exact qD hm
   |2,hm,_,_,_,_,_,_=>exact qD hm
   |3,hm,_,_,_,_,_,_=>exact qD hm
   |4,hm,_,_,_,_,_,_=>exact qD hm
   |5,hm,_,_,_,_,_,_=>exact qD hm
   |6,hm,_,_,_,_,_,_=>exact qD hm
   |7,hm,_,_,_,_,_,_=>exact qD hm
   |8,hm,_,_,_,_,_,_=>exact qD hm
   |9,_,ho,h0,hf,hg,hfr,zX=>
    simp only[qS]at ho;subst ho;have t4: ρ (.tmp 24)=.slice vx s.I.length vc:=(qH zX 4 24);have t8:jT w1 w' nI (ρ (.tmp 28)):=(qH zX 8 28) h0;refine ⟨rfl,XH (.tmp 24) (.tmp 28) rfl t4 rfl LP.out.ins (hC.1 h0) t8 (by omega) ?_⟩
    intro u9 v9 hG9;have h12:d 12=false:=hf 12 (by decide) (by kernel_rfl);refine ⟨⟨fun e=>absurd e (by simp[zA]),fun e=>absurd (show d 12=true from e) (by rw[h12];decide),hG9.size⟩,fun _=>⟨rfl,fun _=>hG9⟩,?_⟩
    intro j t _ hs
    match j,hs with
    |0,hs=>exact hs
    |1,hs=>exact hs
    |2,hs=>exact hs
    |3,hs=>exact hs
    |4,hs=>exact hs
    |5,hs=>exact hs
    |6,hs=>exact hs
    |7,hs=>exact fun e=>absurd e (by simp[zA])
    |8,hs=>exact fun e=>absurd e (by simp[zA])
    |9,hs=>exact absurd hs.1 (by rw[h0];decide)
    |10,hs=>exact hs
    |11,hs=>exact hs
    |12,hs=>exact hs
    |_+13,_=>trivial
   |10,hm,_,_,_,_,_,_=>exact qD hm
   |11,hm,_,_,_,_,_,_=>exact qD hm
   |12,_,ho,h0,hf,hg,hfr,zX=>
    simp only[qS]at ho;subst ho;have t11: ρ (.tmp 31)=.pointer (some ⟨b,1,none⟩):=(qH zX 11 31);have t9:d 9=true/\(d 12=false->vF F1 w1 (s.I++[List.replicate nI false]) w' (ρ (.tmp 29))):=(qH zX 9 29);have hG:=t9.2 h0;obtain ⟨zx,zc,e9⟩:=hG.shape;rw[e9]at hG;have hbk:=zVO LP.out hG;have c1:=hbk.1;have f1:=hbk.2;refine ⟨rfl,wQ (w':=w'.setCell ⟨b,1,none⟩ (.slice zx (s.I++[List.replicate nI false]).length zc)) (by simp[go_sem,t11,e9,c1,f1]) ?_⟩
    refine ⟨⟨fun e=>absurd (show d 9=false from e) (by rw[t9.1];decide),fun _=>QE LP.out hG,by rw[World.size_setCell];exact hC.2.2⟩,fun h=>absurd rfl h,?_⟩
    intro j t _ hs
    match j,hs with
    |0,hs=>exact hs
    |1,hs=>exact hs
    |2,hs=>exact hs
    |3,hs=>exact hs
    |4,hs=>exact hs
    |5,hs=>exact hs
    |6,hs=>exact hs
    |7,hs=>exact fun e=>absurd (show d 9=false from e) (by rw[t9.1];decide)
    |8,hs=>exact fun e=>absurd (show d 9=false from e) (by rw[t9.1];decide)
    |9,hs=>exact ⟨hs.1,fun e=>absurd e (by simp[zA])⟩
    |10,hs=>exact hs
    |11,hs=>exact hs
    |12,hs=>exact hs
    |_+13,_=>trivial
   |n+13,_,ho,_,_,_,_,_=>simp at ho
  intro V w9 hC9 hS;simp only[yP,uM];simp only[Act.put,qU];clear hS;obtain ⟨G,hL2,hG2,hC2⟩:=hC9.2.1 rfl;have HG2:=zY hG2;have HC2:=zY hC2;obtain ⟨m',u1,u2,E1,E2,hQ⟩:=hL2;obtain ⟨wx,wc,rfl⟩:=hQ.outs.slice;have LQ:=zY hQ;clear hC9 hQ hG2 hC2 LP
  go_upto_region 5 with fail
  refine zM [9,12] (fun d i u z=>match i with
   |0=>z=(qP b)
   |1=>z=(qP b)
   |2=>z=(qP b)
   |3=>z=.pointer (some ⟨b,2,none⟩)
   |4=>z=.slice wx s.O.length wc
   |5=>z=.slice x2 nO d2
   |6=>z=.int .i64 (nO:Int)
   |7=>(d 9=false->UP w9 u nO z)
   |8=>(d 9=false->jT w9 u nO z)
   |9=>(d 9=true/\(d 12=false->vF E2 w9 (s.O++[List.replicate nO false]) u z))
   |10=>z=(qP b)
   |11=>z=.pointer (some ⟨b,2,none⟩)
   |12=>True
   |_=>True) (fun d u=>(d 9=false->Below w9.heap.size w9 u)/\(d 12=true->aR G w9 b ⟨s.ns,s.I++[List.replicate nI false],s.O++[List.replicate nO false]⟩ u)/\w9.heap.size<=u.heap.size) (by kernel_rfl) (by kernel_rfl) (by kernel_rfl) ?_ ?_ ?_ ?_ ?_ ?_ (by kernel_rfl)
  ·intro d i w v w' h hb
   match i,h with
   |0,h=>exact h
   |1,h=>exact h
   |2,h=>exact h
   |3,h=>exact h
   |4,h=>exact h
   |5,h=>exact h
   |6,h=>exact h
   |7,h=>exact fun e=>UP.later (h e) hb
   |8,h=>exact fun e=>jT.later (h e) hb
   |9,h=>exact ⟨h.1,fun e=>(h.2 e).later hb⟩
   |10,h=>exact h
   |11,h=>exact h
   |12,h=>exact h
   |_+13,_=>trivial
  ·intro d u u' h hb
   exact ⟨fun e=>(h.1 e).trans (hb.mono (h.1 e).size),fun e=>(h.2.1 e).later hb,Nat.le_trans h.2.2 hb.size⟩
  ·exact ⟨fun _=>Below.refl _ _,fun e=>absurd e (by decide),Nat.le_refl _⟩
  ·intro d i o ρ w' hm ho hf hg hC hcs hfs hfr zX
   match i,hm,ho,hf,hg,hfr,zX with
   |0,_,ho,hf,hg,hfr,zX=>
    simp only[qS]at ho;subst ho;refine ⟨fun _=>?_,qF⟩
    have ts: ρ (.tmp 0)=(qP b):=(qR hfr 0);simp[go_sem,ts];exact qB
   |1,_,ho,hf,hg,hfr,zX=>
    simp only[qS]at ho;subst ho;refine ⟨fun _=>?_,qF⟩
    have ts: ρ (.tmp 0)=(qP b):=(qR hfr 0);simp[go_sem,ts];exact qB
   |2,_,ho,hf,hg,hfr,zX=>
    simp only[qS]at ho;subst ho;refine ⟨fun _=>?_,qF⟩
    have d0: ρ (.tmp 33)=(qP b):=(qH zX 1 33);simp[go_sem,d0];exact qB
   |3,_,ho,hf,hg,hfr,zX=>
    simp only[qS]at ho;subst ho;refine ⟨fun _=>?_,qF⟩
    have d0: ρ (.tmp 34)=(qP b):=(qH zX 2 34);simp[go_sem,d0];exact qB
   |4,_,ho,hf,hg,hfr,zX=>
    simp only[qS]at ho;subst ho;refine ⟨fun _=>?_,qF⟩
    have cc:w'.cell? ⟨b,2,none⟩=some (.slice wx s.O.length wc):=(LQ.out.blk.below (hC.1 (hf 9 (by decide) (by kernel_rfl)))).cell rfl;have d0: ρ (.tmp 35)=.pointer (some ⟨b,2,none⟩):=(qH zX 3 35);simp[go_sem,d0,cc];exact qB
   |5,_,ho,hf,hg,hfr,zX=>
    simp only[qS]at ho;subst ho;refine ⟨fun _=>?_,qF⟩
    have ts: ρ (.tmp 6)=.slice x2 nO d2:=(qR hfr 6);simp[go_sem,ts];exact qB
   |6,_,ho,hf,hg,hfr,zX=>
    simp only[qS]at ho;subst ho;refine ⟨fun _=>?_,qF⟩
    have d0: ρ (.tmp 37)=.slice x2 nO d2:=(qH zX 5 37);simp[go_sem,d0];exact qB
   |7,_,ho,hf,hg,hfr,zX=>
    simp only[qS]at ho;subst ho;refine ⟨fun _=>?_,qF⟩
    have d0: ρ (.tmp 38)=.int .i64 (nO:Int):=(qH zX 6 38);simp[go_sem,d0,HM2.out];exact ⟨(Below.refl _ _).alloc (Nat.le_refl _) _,fun _=>⟨w'.heap.size,rfl,World.rowIs_made w' (.bool false) nO 4,hC.2.2⟩⟩
   |8,_,ho,hf,hg,hfr,zX=>
    simp only[qS]at ho;subst ho;refine ⟨fun _=>?_,qF⟩
    obtain ⟨g,e7,r7,l7⟩:UP w9 w' nO (ρ (.tmp 39)):=(qH zX 7 39) (hf 9 (by decide) (by kernel_rfl));simp[go_sem,e7];exact ⟨(Below.refl _ _).alloc (Nat.le_refl _) _,fun _=>⟨w'.heap.size,g,rfl,by simp,r7.of_block (Below.heap_alloc w' _ g r7.lt),l7⟩⟩
   |9,hm,_,_,_,_,_=>exact qD hm
   |10,_,ho,hf,hg,hfr,zX=>
    simp only[qS]at ho;subst ho;refine ⟨fun _=>?_,qF⟩
    have d0: ρ (.tmp 32)=(qP b):=(qH zX 0 32);simp[go_sem,d0];exact qB
   |11,_,ho,hf,hg,hfr,zX=>
    simp only[qS]at ho;subst ho;refine ⟨fun _=>?_,qF⟩
    have d0: ρ (.tmp 42)=(qP b):=(qH zX 10 42);simp[go_sem,d0];exact qB
   |12,hm,_,_,_,_,_=>exact qD hm
   |n+13,_,ho,_,_,_,_=>simp at ho
  ·intro d i o ρ w' hm ho h0 hf hg hC hcs hfs hfr zX
   match i,hm,ho,h0,hf,hg,hfr,zX with
   |0,hm,_,_,_,_,_,_=>exact qD hm
   |1,hm,_,_,_,_,_,_=>exact qD hm
   |2,hm,_,_,_,_,_,_=>exact qD hm
   |3,hm,_,_,_,_,_,_=>exact qD hm
   |4,hm,_,_,_,_,_,_=>exact qD hm
   |5,hm,_,_,_,_,_,_=>exact qD hm
   |6,hm,_,_,_,_,_,_=>exact qD hm
   |7,hm,_,_,_,_,_,_=>exact qD hm
   |8,hm,_,_,_,_,_,_=>exact qD hm
   |9,_,ho,h0,hf,hg,hfr,zX=>
    simp only[qS]at ho;subst ho;have t4: ρ (.tmp 36)=.slice wx s.O.length wc:=(qH zX 4 36);have t8:jT w9 w' nO (ρ (.tmp 40)):=(qH zX 8 40) h0;refine ⟨rfl,XH (.tmp 36) (.tmp 40) rfl t4 rfl LQ.out.outs (hC.1 h0) t8 (by omega) ?_⟩
    intro u9 v9 hG9;have h12:d 12=false:=hf 12 (by decide) (by kernel_rfl);refine ⟨⟨fun e=>absurd e (by simp[zA]),fun e=>absurd (show d 12=true from e) (by rw[h12];decide),hG9.size⟩,fun _=>⟨rfl,fun _=>hG9⟩,?_⟩
    intro j t _ hs
    match j,hs with
    |0,hs=>exact hs
    |1,hs=>exact hs
    |2,hs=>exact hs
    |3,hs=>exact hs
    |4,hs=>exact hs
    |5,hs=>exact hs
    |6,hs=>exact hs
    |7,hs=>exact fun e=>absurd e (by simp[zA])
    |8,hs=>exact fun e=>absurd e (by simp[zA])
    |9,hs=>exact absurd hs.1 (by rw[h0];decide)
    |10,hs=>exact hs
    |11,hs=>exact hs
    |12,hs=>exact hs
    |_+13,_=>trivial
   |10,hm,_,_,_,_,_,_=>exact qD hm
   |11,hm,_,_,_,_,_,_=>exact qD hm
   |12,_,ho,h0,hf,hg,hfr,zX=>
    simp only[qS]at ho;subst ho;have t11: ρ (.tmp 43)=.pointer (some ⟨b,2,none⟩):=(qH zX 11 43);have t9:d 9=true/\(d 12=false->vF E2 w9 (s.O++[List.replicate nO false]) w' (ρ (.tmp 41))):=(qH zX 9 41);have hG:=t9.2 h0;obtain ⟨zx,zc,e9⟩:=hG.shape;rw[e9]at hG;have hbk:=zVN LQ.out hG;have c1:=hbk.1;have f1:=hbk.2;refine ⟨rfl,wQ (w':=w'.setCell ⟨b,2,none⟩ (.slice zx (s.O++[List.replicate nO false]).length zc)) (by simp[go_sem,t11,e9,c1,f1]) ?_⟩
    refine ⟨⟨fun e=>absurd (show d 9=false from e) (by rw[t9.1];decide),fun _=>QD LQ.out hG,by rw[World.size_setCell];exact hC.2.2⟩,fun h=>absurd rfl h,?_⟩
    intro j t _ hs
    match j,hs with
    |0,hs=>exact hs
    |1,hs=>exact hs
    |2,hs=>exact hs
    |3,hs=>exact hs
    |4,hs=>exact hs
    |5,hs=>exact hs
    |6,hs=>exact hs
    |7,hs=>exact fun e=>absurd (show d 9=false from e) (by rw[t9.1];decide)
    |8,hs=>exact fun e=>absurd (show d 9=false from e) (by rw[t9.1];decide)
    |9,hs=>exact ⟨hs.1,fun e=>absurd e (by simp[zA])⟩
    |10,hs=>exact hs
    |11,hs=>exact hs
    |12,hs=>exact hs
    |_+13,_=>trivial
   |n+13,_,ho,_,_,_,_,_=>simp at ho
  intro V w8 hC8 hS;simp only[yP,uM];simp only[Act.put,qU];clear hS;obtain ⟨G',hL3,hG3,hC3⟩:=hC8.2.1 rfl;have HL3:=zY hL3;have HG3:=zY hG3;have HC3:=zY hC3;clear hC8 hL3 hG3 hC3
  go_wp2
  go_ret
  have s1:=BB1.out.size;have s2:=HC2.out.size;exact ⟨G',rfl,HL3.out,fun k hk=>(HG3.out k hk).elim (fun q=>(HG2.out k q).imp id (fun r=>by omega)) (fun q=>.inr (by omega)),((xP.of_below BB1.out).trans' HC2.out).trans HC3.out fun k hk=>(HG2.out k hk).imp id (fun r=>by omega)⟩
 rw[if_neg h0]
 have q1:(f !=0)=true:=by simpa using h0
 go_enter Tryz.func86,Tryz.ntmps86
 go_upto_region 1 with fail
 generalize w.alloc (.cells #[.string nm,.int .u8 (t:Int),.slice a len cap] 65)=W0 at *
 go_wp2_with (go_at_call 69;(with_reducible refine OF.out.mono ?_);rintro e w1 ⟨x1,d1,x2,d2,rfl,-,-,-,b1⟩;have B1:=zY b1;clear b1 y1 y2)
 go_ret
 have bb:=BA.out.trans (B1.out.mono BA.out.size);exact ⟨F,rfl,HL.out.below bb,fun k hk=>.inl hk,xP.of_below bb⟩
def yX (As:List GA) (k:Nat):GA:=As.getD k ⟨[],0,[]⟩
def yD (Es:List GE) (k:Nat):GE:=Es.getD k ⟨0,0,0,0,[]⟩
def uG (Ps:List GP) (k:Nat):GP:=Ps.getD k ⟨[],0,0⟩
def AtA (w:World) (a:Option Addr) (As:List GA):Prop:=As=[]\/∃b off,a=some ⟨b,off,none⟩/\∀k,k<As.length->w.cell? ⟨b,off+k*3,none⟩=some (.string (yG (yX As k).name))/\w.cell? ⟨b,off+k*3+1,none⟩=some (.int .u8 ((yX As k).tag:Int))/\(yX As k).tag<=255/\∃x c,w.cell? ⟨b,off+k*3+2,none⟩=some (.slice x (yX As k).params.length c)/\At w x (yX As k).params
def AtE (w:World) (a:Option Addr) (Es:List GE):Prop:=Es=[]\/∃b off,a=some ⟨b,off,none⟩/\∀k,k<Es.length->w.cell? ⟨b,off+k*5,none⟩=some (.int .i64 (yD Es k).f)/\w.cell? ⟨b,off+k*5+1,none⟩=some (.int .i64 (yD Es k).fp)/\w.cell? ⟨b,off+k*5+2,none⟩=some (.int .i64 (yD Es k).t)/\w.cell? ⟨b,off+k*5+3,none⟩=some (.int .i64 (yD Es k).tp)/\∃x c,w.cell? ⟨b,off+k*5+4,none⟩=some (.slice x (yD Es k).start.length c)/\At w x (yD Es k).start
def aQ (w:World) (a:Option Addr) (Ps:List GP):Prop:=Ps=[]\/∃b off,a=some ⟨b,off,none⟩/\∀k,k<Ps.length->w.cell? ⟨b,off+k*3,none⟩=some (.string (yG (uG Ps k).name))/\w.cell? ⟨b,off+k*3+1,none⟩=some (.int .i64 (uG Ps k).actor)/\w.cell? ⟨b,off+k*3+2,none⟩=some (.int .i64 (uG Ps k).port)
theorem xH {w w':World} {p:Addr} {v:Value} (hb:Below w.heap.size w w') (h:w.cell? p=some v):w'.cell? p=some v:=by rw[hb.cell (block_lt_of_cell h)];exact h
theorem AtA.below {w w':World} {a:Option Addr} {As:List GA} (h:AtA w a As) (hb:Below w.heap.size w w'):AtA w' a As:=by
 rcases h with h|⟨b,off,e,h⟩
 ·exact .inl h
 refine .inr ⟨b,off,e,fun k hk=>?_⟩
 obtain ⟨h1,h2,h3,x,c,h4,h5⟩:=h k hk;exact ⟨xH hb h1,xH hb h2,h3,x,c,xH hb h4,h5.below hb⟩
theorem AtE.below {w w':World} {a:Option Addr} {Es:List GE} (h:AtE w a Es) (hb:Below w.heap.size w w'):AtE w' a Es:=by
 rcases h with h|⟨b,off,e,h⟩
 ·exact .inl h
 refine .inr ⟨b,off,e,fun k hk=>?_⟩
 obtain ⟨h1,h2,h3,h4,x,c,h5,h6⟩:=h k hk;exact ⟨xH hb h1,xH hb h2,xH hb h3,xH hb h4,x,c,xH hb h5,h6.below hb⟩
theorem aQ.below {w w':World} {a:Option Addr} {Ps:List GP} (h:aQ w a Ps) (hb:Below w.heap.size w w'):aQ w' a Ps:=by
 rcases h with h|⟨b,off,e,h⟩
 ·exact .inl h
 refine .inr ⟨b,off,e,fun k hk=>?_⟩
 obtain ⟨h1,h2,h3⟩:=h k hk;exact ⟨xH hb h1,xH hb h2,xH hb h3⟩
def NK (f:FL):Value:=.agg #[.int .i64 f.code,.int .u8 (f.kind:Int),.int .i64 (f.number:Int),.int .u8 (f.stop:Int)]
def QB (F:Nat->Prop) (w:World) (b:Nat) (r:FL × LS) (e:Ending) (w':World):Prop:=
 e=.returned (NK r.1)/\(r.1.code=0->∃F',kH F' w' b r.2/\∀k,F' k->F k\/w.heap.size<=k)/\xP F w w'
theorem zVM {As:List GA} {i:Nat} (h:i<As.length):As.drop i=yX As i::As.drop (i+1):=by
 unfold yX;rw[List.getD_eq_getElem?_getD,List.getElem?_eq_getElem h];exact List.drop_eq_getElem_cons h
theorem zVL {Es:List GE} {i:Nat} (h:i<Es.length):Es.drop i=yD Es i::Es.drop (i+1):=by
 unfold yD;rw[List.getD_eq_getElem?_getD,List.getElem?_eq_getElem h];exact List.drop_eq_getElem_cons h
theorem UO {Ps:List GP} {i:Nat} (h:i<Ps.length):Ps.drop i=uG Ps i::Ps.drop (i+1):=by
 unfold uG;rw[List.getD_eq_getElem?_getD,List.getElem?_eq_getElem h];exact List.drop_eq_getElem_cons h
theorem oO (ns:List (List UInt8)) (l:List UInt8):(zK ns l).2.length<=ns.length+1:=by
 unfold zK;split
 ·simp
 simp
theorem zVK (s:LS) (t:Nat) (zs:List Int):(xI s t zs).2.ns=s.ns/\(xI s t zs).2.I.length<=s.I.length+1/\(xI s t zs).2.O.length<=s.O.length+1:=by
 unfold xI;split
 ·simp
 simp
theorem xX.chg {K:Nat} {F:Nat->Prop} {w w':World} (h:xX K w w') (hK:F K):xP F w w':=⟨h.os,h.tape,h.output,h.size,fun k hk hn=>h.block k hk (fun e=>hn (by rw[e];exact hK))⟩
theorem YW (F:Nat->Prop) (w0 w:World) (b:Nat) (s:LS) (a:Option Addr) (As:List GA) (cap:Nat) (h:kH F w b s) (hA:AtA w0 a As) (hw:Below w0.heap.size w0 w) (hF:∀k,F k->w0.heap.size<=k) (hn:As.length<=32) (hns:s.ns.length<=100) (hI:s.I.length<=100) (hO:s.O.length<=100):
 Calls Tryz.prog 64 #[(qP b),.slice a As.length cap] w (QB F w b (xF As 0 s)):=by
 have HA:=zY hA;have HW:=zY hw;have HF:=zY hF;have sw:=hw.size;have ba:=(Below.refl w.heap.size w).alloc (Nat.le_refl _) (.cells #[.int .i64 0,.int .u8 0,.int .i64 0,.int .u8 0] 104);have BA:=zY ba;have HL:=zY (h.below ba);have HLO:=zY h.low;have NR:=zY (zV 104 w #[.int .i64 0,.int .u8 0,.int .i64 0,.int .u8 0])
 have hsz:(w.alloc (.cells #[.int .i64 0,.int .u8 0,.int .i64 0,.int .u8 0] 104)).heap.size=w.heap.size+1:=by simp
 have hnI:(As.length:Int)<=32:=by omega
 clear h hA hw hF ba
 go_enter Tryz.func64,Tryz.ntmps64
 go_upto_region 1 with fail
 generalize w.alloc (.cells #[.int .i64 0,.int .u8 0,.int .i64 0,.int .u8 0] 104)=W0 at *
 go_wp2
 go_loopg [10] As.length (fun gk v wr=>∃(i:Nat) (F':Nat->Prop) (s':LS),i<=As.length/\gk=As.length-i/\v=.int .i64 (i:Int)/\xF As 0 s=xF (As.drop i) i s'/\kH F' wr b s'/\(∀ k,F' k->F k\/w.heap.size+1<=k)/\xP F W0 wr/\s'.ns.length<=s.ns.length+i/\s'.I.length<=s.I.length+i/\s'.O.length<=s.O.length+i)
 case atStart=>exact ⟨0,F,s,Nat.zero_le _,rfl,rfl,rfl,HL.out,fun k hk=>.inl hk,xP.of_below (Below.refl _ _),Nat.le_refl _,Nat.le_refl _,Nat.le_refl _⟩
 case round=>
  obtain ⟨i,F',s',hi,rfl,rfl,hEq,hLed,hF',hChg,q1,q2,q3⟩:=hrel;have HEQ:=zY hEq;have HLED:=zY hLed;have HFF:=zY hF';have HC:=zY hChg;have swr:=hChg.size
  have HNR:Hid (¬ F' w.heap.size):=fun e=>(hF' _ e).elim (fun q=>by have:=HLO.out _ q;omega) (fun q=>by omega)
  have NRW:=zY (NR.out.keep (hChg.block _ (by omega) (fun e=>by have:=HLO.out _ e;omega)))
  have BW:Hid (Below w0.heap.size w0 wr):=by
   have p1:=HW.out.trans (BA.out.mono sw);exact p1.trans (hChg.below HF.out p1.size)
  clear hEq hLed hF' hChg
  by_cases hlt:i<As.length
  ·have hii:(i:Int)<(As.length:Int):=by omega
   rcases HA.out with h0|⟨ab,ao,rfl,hc⟩
   ·rw [h0]at hlt;simp at hlt
   obtain ⟨a0',a1',a2,x,c,a3',a4⟩:=hc i hlt;have a0:=xH BW.out a0';have a1:=xH BW.out a1';have a3:=xH BW.out a3';clear a0' a1' a3'
   have HF0:Hid (∀ k,F' k->w0.heap.size<=k):=fun k hk=>(HFF.out k hk).elim (HF.out k) (fun q=>by omega)
   have HAT:=zY a4;have HDR:=zY (zVM hlt);generalize yX As i=E at *;obtain ⟨nm,tg,ps⟩:=E;clear hc a4;obtain ⟨ce,hce⟩:∃q,(zK s'.ns nm).1=q:=⟨_,rfl⟩;have HCE:=zY hce;have q4:=oO s'.ns nm
   by_cases h1:ce=0
   ·subst h1
    obtain ⟨co,hco⟩:∃q,(xI ⟨(zK s'.ns nm).2,s'.I,s'.O⟩ tg ps).1=q:=⟨_,rfl⟩;have HCO:=zY hco;have q5:=zVK ⟨(zK s'.ns nm).2,s'.I,s'.O⟩ tg ps
    by_cases h2:co=0
    ·subst h2
     go_wp2_with (first
      |(refine pE _ rfl (.tmp 6) (.tmp 14) rfl rfl wr.heap.size _ _ _ _ _ _ _ _ rfl rfl (zV 65 wr #[qE,.int .u8 0,qN]) ?_;intro w1 hNA hUA;have X1:=zY hNA;have b1:=((Below.refl wr.heap.size wr).alloc (Nat.le_refl _) (.cells #[qE,.int .u8 0,qN] 65)).trans (hUA.below (Nat.le_refl _) (by simp));have B1:=zY b1;have L1:=zY (HLED.out.below b1);have R1:=zY (NRW.out.below b1);have y0:w1.cell? ⟨wr.heap.size,0,none⟩=some (.string (yG nm)):=hNA.cell rfl;clear hNA hUA b1 a0 a1 a3)
      |(go_at_call 86;(with_reducible refine (QC F' w2 b _ _ tg x ps _ c L2.out a2 rfl AT2.out (by simp only;omega) (by simp only;omega)).mono ?_);rintro e w3 ⟨G,rfl,hL3,hG3,hC3⟩;have L3:=zY hL3;have G3:=zY hG3;have C3:=zY hC3;clear hL3 hG3 hC3;have R3:=zY (R2.out.keep (C3.out.block _ R2.out.lt (fun e=>HNR.out e)));rw[HCO.out];clear u0 u1 u2)
      |(go_at_call 85;(with_reducible refine (tU F' w1 b s' _ L1.out (by omega)).mono ?_);rintro e w2 ⟨rfl,hL2,hC2⟩;have L2:=zY hL2;have C2:=zY hC2;clear hL2 hC2;have X2:=zY (X1.out.keep (C2.out.block _ X1.out.lt (fun e=>by have:=HLED.out.low _ e;omega)));have R2:=zY (R1.out.keep (C2.out.block _ R1.out.lt (fun e=>HNR.out e)));rw[HCE.out];clear y0;have AT2:Hid (At w2 x ps):=(have p1:=BW.out.trans (B1.out.mono BW.out.size);HAT.out.below (p1.trans (C2.out.below HF0.out p1.size)));have u0:w2.cell? ⟨wr.heap.size,0,none⟩=some (.string (yG nm)):=X2.out.cell rfl;have u1:w2.cell? ⟨wr.heap.size,1,none⟩=some (.int .u8 (tg:Int)):=X2.out.cell rfl;have u2:w2.cell? ⟨wr.heap.size,2,none⟩=some (.slice x ps.length c):=X2.out.cell rfl))
     go_roundg (As.length-(i+1))
     case measure=>omega
     case rel=>
      refine ⟨i+1,G,_,by omega,rfl,by go_num,?_,L3.out,fun k hk=>(G3.out k hk).elim (HFF.out k) (fun q=>.inr (by have:=C2.out.size;have:=B1.out.size;omega)),?_,by rw[q5.1];show (zK s'.ns nm).2.length<=_;omega,by have h9:(xI ⟨(zK s'.ns nm).2,s'.I,s'.O⟩ tg ps).2.I.length<=s'.I.length+1:=q5.2.1;omega,by have h9:(xI ⟨(zK s'.ns nm).2,s'.I,s'.O⟩ tg ps).2.O.length<=s'.O.length+1:=q5.2.2;omega⟩
      ·rw [HEQ.out,HDR.out]
       show (if _ then _ else _)=_;rw[if_pos HCE.out,if_pos HCO.out]
      exact ((HC.out.trans' (xP.of_below B1.out)).trans C2.out fun k hk=>(HFF.out k hk).imp id (fun q=>by omega)).trans C3.out fun k hk=>(HFF.out k hk).imp id (fun q=>by omega)
    have e2:(co !=0)=true:=by simpa using h2
    have e3:¬co=0:=h2
    go_wp2_with (first
     |(refine zT _ rfl (.tmp 4) (.tmp 28) rfl rfl w.heap.size _ _ _ _ _ _ _ _ rfl rfl R3.out ?_;intro w9 hNF hUF;have NF:=zY hNF;have UF:=zY hUF;clear hNF hUF)
     |(refine pE _ rfl (.tmp 6) (.tmp 14) rfl rfl wr.heap.size _ _ _ _ _ _ _ _ rfl rfl (zV 65 wr #[qE,.int .u8 0,qN]) ?_;intro w1 hNA hUA;have X1:=zY hNA;have b1:=((Below.refl wr.heap.size wr).alloc (Nat.le_refl _) (.cells #[qE,.int .u8 0,qN] 65)).trans (hUA.below (Nat.le_refl _) (by simp));have B1:=zY b1;have L1:=zY (HLED.out.below b1);have R1:=zY (NRW.out.below b1);have y0:w1.cell? ⟨wr.heap.size,0,none⟩=some (.string (yG nm)):=hNA.cell rfl;clear hNA hUA b1 a0 a1 a3)
     |(go_at_call 86;(with_reducible refine (QC F' w2 b _ _ tg x ps _ c L2.out a2 rfl AT2.out (by simp only;omega) (by simp only;omega)).mono ?_);rintro e w3 ⟨G,rfl,hL3,hG3,hC3⟩;have L3:=zY hL3;have G3:=zY hG3;have C3:=zY hC3;clear hL3 hG3 hC3;have R3:=zY (R2.out.keep (C3.out.block _ R2.out.lt (fun e=>HNR.out e)));rw[HCO.out];clear u0 u1 u2)
     |(go_at_call 85;(with_reducible refine (tU F' w1 b s' _ L1.out (by omega)).mono ?_);rintro e w2 ⟨rfl,hL2,hC2⟩;have L2:=zY hL2;have C2:=zY hC2;clear hL2 hC2;have X2:=zY (X1.out.keep (C2.out.block _ X1.out.lt (fun e=>by have:=HLED.out.low _ e;omega)));have R2:=zY (R1.out.keep (C2.out.block _ R1.out.lt (fun e=>HNR.out e)));rw[HCE.out];clear y0;have AT2:Hid (At w2 x ps):=(have p1:=BW.out.trans (B1.out.mono BW.out.size);HAT.out.below (p1.trans (C2.out.below HF0.out p1.size)));have u0:w2.cell? ⟨wr.heap.size,0,none⟩=some (.string (yG nm)):=X2.out.cell rfl;have u1:w2.cell? ⟨wr.heap.size,1,none⟩=some (.int .u8 (tg:Int)):=X2.out.cell rfl;have u2:w2.cell? ⟨wr.heap.size,2,none⟩=some (.slice x ps.length c):=X2.out.cell rfl))
    have z0:w9.cell? ⟨w.heap.size,0,none⟩=some (.int .i64 co):=NF.out.cell rfl;have z1:w9.cell? ⟨w.heap.size,1,none⟩=some (.int .u8 1):=NF.out.cell rfl;have z2:w9.cell? ⟨w.heap.size,2,none⟩=some (.int .i64 (i:Int)):=NF.out.cell rfl;have z3:w9.cell? ⟨w.heap.size,3,none⟩=some (.int .u8 0):=NF.out.cell rfl;refine bodyPost_ret (v:=.agg #[.int .i64 co,.int .u8 1,.int .i64 (i:Int),.int .u8 0]) (by simp[results,Tryz.results64,go_sem,z0,z1,z2,z3]) rfl ?_
    refine ⟨?_,?_,?_⟩
    ·rw [HEQ.out,HDR.out]
     show _=Ending.returned (NK (if _ then _ else _:FL × LS).1);rw[if_pos HCE.out,if_neg (by rw[HCO.out];exact h2),HCO.out];rfl
    ·rw [HEQ.out,HDR.out]
     show ((if _ then _ else _:FL × LS).1).code=0->_;rw[if_pos HCE.out,if_neg (by rw[HCO.out];exact h2),HCO.out]
     exact fun e=>absurd e h2
    exact (((((xP.of_below BA.out).trans' HC.out).trans' (xP.of_below B1.out)).trans C2.out fun k hk=>(HFF.out k hk).imp id (fun q=>by omega)).trans C3.out fun k hk=>(HFF.out k hk).imp id (fun q=>by omega)).trans (UF.out.chg (F:=fun k=>k=w.heap.size) rfl) fun k hk=>.inr (by omega)
   have e2:(ce !=0)=true:=by simpa using h1
   have e2':(ce==0)=false:=by simpa using h1
   have e3:¬ce=0:=h1
   go_wp2_with (first
    |(refine zT _ rfl (.tmp 4) (.tmp 28) rfl rfl w.heap.size _ _ _ _ _ _ _ _ rfl rfl R2.out ?_;intro w9 hNF hUF;have NF:=zY hNF;have UF:=zY hUF;clear hNF hUF)
    |(refine pE _ rfl (.tmp 6) (.tmp 14) rfl rfl wr.heap.size _ _ _ _ _ _ _ _ rfl rfl (zV 65 wr #[qE,.int .u8 0,qN]) ?_;intro w1 hNA hUA;have X1:=zY hNA;have b1:=((Below.refl wr.heap.size wr).alloc (Nat.le_refl _) (.cells #[qE,.int .u8 0,qN] 65)).trans (hUA.below (Nat.le_refl _) (by simp));have B1:=zY b1;have L1:=zY (HLED.out.below b1);have R1:=zY (NRW.out.below b1);have y0:w1.cell? ⟨wr.heap.size,0,none⟩=some (.string (yG nm)):=hNA.cell rfl;clear hNA hUA b1 a0 a1 a3)
    |(go_at_call 85;(with_reducible refine (tU F' w1 b s' _ L1.out (by omega)).mono ?_);rintro e w2 ⟨rfl,hL2,hC2⟩;have L2:=zY hL2;have C2:=zY hC2;clear hL2 hC2;have X2:=zY (X1.out.keep (C2.out.block _ X1.out.lt (fun e=>by have:=HLED.out.low _ e;omega)));have R2:=zY (R1.out.keep (C2.out.block _ R1.out.lt (fun e=>HNR.out e)));rw[HCE.out];clear y0;have AT2:Hid (At w2 x ps):=(have p1:=BW.out.trans (B1.out.mono BW.out.size);HAT.out.below (p1.trans (C2.out.below HF0.out p1.size)));have u0:w2.cell? ⟨wr.heap.size,0,none⟩=some (.string (yG nm)):=X2.out.cell rfl;have u1:w2.cell? ⟨wr.heap.size,1,none⟩=some (.int .u8 (tg:Int)):=X2.out.cell rfl;have u2:w2.cell? ⟨wr.heap.size,2,none⟩=some (.slice x ps.length c):=X2.out.cell rfl))
   have z0:w9.cell? ⟨w.heap.size,0,none⟩=some (.int .i64 ce):=NF.out.cell rfl;have z1:w9.cell? ⟨w.heap.size,1,none⟩=some (.int .u8 1):=NF.out.cell rfl;have z2:w9.cell? ⟨w.heap.size,2,none⟩=some (.int .i64 (i:Int)):=NF.out.cell rfl;have z3:w9.cell? ⟨w.heap.size,3,none⟩=some (.int .u8 0):=NF.out.cell rfl;refine bodyPost_ret (v:=.agg #[.int .i64 ce,.int .u8 1,.int .i64 (i:Int),.int .u8 0]) (by simp[results,Tryz.results64,go_sem,z0,z1,z2,z3]) rfl ?_
   refine ⟨?_,?_,?_⟩
   ·rw [HEQ.out,HDR.out]
    show _=Ending.returned (NK (if _ then _ else _:FL × LS).1);rw[if_neg (by rw[HCE.out];exact h1),HCE.out];rfl
   ·rw [HEQ.out,HDR.out]
    show ((if _ then _ else _:FL × LS).1).code=0->_;rw[if_neg (by rw[HCE.out];exact h1),HCE.out]
    exact fun e=>absurd e h1
   exact ((((xP.of_below BA.out).trans' HC.out).trans' (xP.of_below B1.out)).trans C2.out fun k hk=>(HFF.out k hk).imp id (fun q=>by omega)).trans (UF.out.chg (F:=fun k=>k=w.heap.size) rfl) fun k hk=>.inr (by omega)
  have hii:¬(i:Int)<(As.length:Int):=by omega
  have ei:i=As.length:=by omega
  go_wp2_with (refine zT _ rfl (.tmp 4) (.tmp 30) rfl rfl w.heap.size _ _ _ _ _ _ _ _ rfl rfl NRW.out ?_;intro w9 hNF hUF;have NF:=zY hNF;have UF:=zY hUF;clear hNF hUF)
  have z0:w9.cell? ⟨w.heap.size,0,none⟩=some (.int .i64 0):=NF.out.cell rfl;have z1:w9.cell? ⟨w.heap.size,1,none⟩=some (.int .u8 0):=NF.out.cell rfl;have z2:w9.cell? ⟨w.heap.size,2,none⟩=some (.int .i64 0):=NF.out.cell rfl;have z3:w9.cell? ⟨w.heap.size,3,none⟩=some (.int .u8 0):=NF.out.cell rfl;refine bodyPost_ret (v:=.agg #[.int .i64 0,.int .u8 0,.int .i64 0,.int .u8 0]) (by simp[results,Tryz.results64,go_sem,z0,z1,z2,z3]) rfl ?_
  refine ⟨?_,?_,?_⟩
  ·rw [HEQ.out,ei,List.drop_length]
   rfl
  ·rw [HEQ.out,ei,List.drop_length]
   exact fun _=>⟨F',HLED.out.keep (fun k hk=>UF.out.block k (HLED.out.low k hk) (fun e=>HNR.out (e ▸ hk))) UF.out.size,fun k hk=>(HFF.out k hk).imp id (fun q=>by omega)⟩
  exact ((xP.of_below BA.out).trans' HC.out).trans (UF.out.chg (F:=fun k=>k=w.heap.size) rfl) fun k hk=>.inr (by omega)
def yS (R:List (List Bool)):Prop:=R.length<=200/\∀j,(xM R j).length<=1024
theorem vP {R:List (List Bool)} (h:yS R) (a p:Int):yS (yL R a p):=by
 unfold yL
 by_cases h0:zJ R a p=0
 ·rw [if_pos h0]
  refine ⟨by rw[tD];exact h.1,fun j=>?_⟩
  by_cases ha:a.toNat<R.length
  ·rw [mB j ha]
   split
   ·rw [List.length_set];exact h.2 _
   exact h.2 j
  have e:aU R a.toNat p.toNat=R:=by
   unfold aU;exact List.set_eq_of_length_le (by omega)
  rw[e];exact h.2 j
 rw[if_neg h0];exact h
def zOW (F:Nat->Prop) (w:World) (b:Nat) (cd:Int) (s:LS) (e:Ending) (w':World):Prop:=e=.returned (.int .i64 cd)/\kH F w' b s/\xP F w w'
theorem XD {F F1 F2:Nat->Prop} {w:World} {b m:Nat} {v1 v2:Value} {s:LS} (h:YY F w b m v1 v2 F1 F2 s) (hs:yS s.I) (a p:Int):Calls Tryz.prog 87 #[v1,.int .i64 a,.int .i64 p] w (zOW F w b (zJ s.I a p) ⟨s.ns,yL s.I a p,s.O⟩):=by
 refine (iA F1 w v1 s.I a p h.ins (by have:=hs.1;omega) (fun j=>by have:=hs.2 j;omega)).mono ?_
 rintro e w' ⟨rfl,h1,h2⟩
 have hsz:=h2.size;exact ⟨rfl,⟨m,v1,v2,F1,F2,h.blk.keep (h2.block b (h.low b h.fb) (fun e=>(h.d1 b e).1 rfl)),h.names.keep (h2.block m (h.low m h.fm) (fun e=>(h.d1 m e).2.1 rfl)),h1,h.outs.keep (fun k hk=>h2.block k (h.outs.low k hk).2 (fun e=>(h.d1 k e).2.2 hk)) hsz,h.bm,h.d1,h.d2,h.fb,h.fm,h.f1,h.f2,fun k hk=>Nat.lt_of_lt_of_le (h.low k hk) hsz⟩,h2.wider h.f1⟩
theorem XC {F F1 F2:Nat->Prop} {w:World} {b m:Nat} {v1 v2:Value} {s:LS} (h:YY F w b m v1 v2 F1 F2 s) (hs:yS s.O) (a p:Int):Calls Tryz.prog 87 #[v2,.int .i64 a,.int .i64 p] w (zOW F w b (zJ s.O a p) ⟨s.ns,s.I,yL s.O a p⟩):=by
 refine (iA F2 w v2 s.O a p h.outs (by have:=hs.1;omega) (fun j=>by have:=hs.2 j;omega)).mono ?_
 rintro e w' ⟨rfl,h1,h2⟩
 have hsz:=h2.size;exact ⟨rfl,⟨m,v1,v2,F1,F2,h.blk.keep (h2.block b (h.low b h.fb) (fun e=>(h.d2 b e).1 rfl)),h.names.keep (h2.block m (h.low m h.fm) (fun e=>(h.d2 m e).2 rfl)),h.ins.keep (fun k hk=>h2.block k (h.ins.low k hk).2 (h.d1 k hk).2.2) hsz,h1,h.bm,h.d1,h.d2,h.fb,h.fm,h.f1,h.f2,fun k hk=>Nat.lt_of_lt_of_le (h.low k hk) hsz⟩,h2.wider h.f2⟩
theorem YY.below {F F1 F2:Nat->Prop} {w w':World} {b m:Nat} {v1 v2:Value} {s:LS} (h:YY F w b m v1 v2 F1 F2 s) (hb:Below w.heap.size w w'):YY F w' b m v1 v2 F1 F2 s:=
 ⟨h.blk.below hb,h.names.keep (hb.block m (h.low m h.fm)),h.ins.keep (fun k hk=>hb.block k (h.ins.low k hk).2) hb.size,h.outs.keep (fun k hk=>hb.block k (h.outs.low k hk).2) hb.size,h.bm,h.d1,h.d2,h.fb,h.fm,h.f1,h.f2,fun k hk=>Nat.lt_of_lt_of_le (h.low k hk) hb.size⟩
def aO (F:Nat->Prop) (V:World) (b:Nat) (s:LS) (u:World):Prop:=kH F u b s/\xP F V u
theorem aO.later {F:Nat->Prop} {V u u':World} {b:Nat} {s:LS} (h:aO F V b s u) (hb:Below u.heap.size u u'):aO F V b s u':=⟨h.1.below hb,h.2.trans' (xP.of_below hb)⟩
theorem UM (F:Nat->Prop) (w0 w:World) (b:Nat) (s:LS) (a:Option Addr) (Es:List GE) (cap:Nat) (h:kH F w b s) (hA:AtE w0 a Es) (hw:Below w0.heap.size w0 w) (hF:∀k,F k->w0.heap.size<=k) (hn:Es.length<=96) (hI:yS s.I) (hO:yS s.O):
 Calls Tryz.prog 65 #[(qP b),.slice a Es.length cap] w (QB F w b (vX Es 0 s)):=by
 have HA:=zY hA;have HW:=zY hw;have HF:=zY hF;have sw:=hw.size;have ba:=(Below.refl w.heap.size w).alloc (Nat.le_refl _) (.cells #[.int .i64 0,.int .u8 0,.int .i64 0,.int .u8 0] 104);have BA:=zY ba;have HL:=zY (h.below ba);have HLO:=zY h.low;have HI0:=zY hI;have HO0:=zY hO;have NR:=zY (zV 104 w #[.int .i64 0,.int .u8 0,.int .i64 0,.int .u8 0])
 have hsz:(w.alloc (.cells #[.int .i64 0,.int .u8 0,.int .i64 0,.int .u8 0] 104)).heap.size=w.heap.size+1:=by simp
 have hnI:(Es.length:Int)<=96:=by omega
 clear h hA hw hF ba hI hO
 go_enter Tryz.func65,Tryz.ntmps65
 go_upto_region 1 with fail
 generalize w.alloc (.cells #[.int .i64 0,.int .u8 0,.int .i64 0,.int .u8 0] 104)=W0 at *
 go_wp2
 go_loopg [11] Es.length (fun gk v wr=>∃(i:Nat) (s':LS),i<=Es.length/\gk=Es.length-i/\v=.int .i64 (i:Int)/\vX Es 0 s=vX (Es.drop i) i s'/\kH F wr b s'/\xP F W0 wr/\s'.ns.length<=s.ns.length+i/\yS s'.I/\yS s'.O)
 case atStart=>exact ⟨0,s,Nat.zero_le _,rfl,rfl,rfl,HL.out,xP.of_below (Below.refl _ _),Nat.le_refl _,HI0.out,HO0.out⟩
 case round=>
  obtain ⟨i,s',hi,rfl,rfl,hEq,hLed,hChg,q1,hI',hO'⟩:=hrel;have HEQ:=zY hEq;have HLED:=zY hLed;have HC:=zY hChg;have HI':=zY hI';have HO':=zY hO';have swr:=hChg.size
  have HNR:Hid (¬ F w.heap.size):=fun e=>by have:=HLO.out _ e;omega
  have NRW:=zY (NR.out.keep (hChg.block _ (by omega) HNR.out))
  have BW:Hid (Below w0.heap.size w0 wr):=by
   have p1:=HW.out.trans (BA.out.mono sw);exact p1.trans (hChg.below HF.out p1.size)
  clear hEq hLed hChg hI' hO'
  by_cases hlt:i<Es.length
  ·have hii:(i:Int)<(Es.length:Int):=by omega
   rcases HA.out with h0|⟨ab,ao,rfl,hc⟩
   ·rw [h0]at hlt;simp at hlt
   obtain ⟨a0',a1',a2',a3',x,c,a4',-⟩:=hc i hlt;have a0:=xH BW.out a0';have a1:=xH BW.out a1';have a2:=xH BW.out a2';have a3:=xH BW.out a3';have a4:=xH BW.out a4';have HDR:=zY (zVL hlt);generalize yD Es i=E at *;obtain ⟨ef,efp,et,etp,st⟩:=E;clear hc a0' a1' a2' a3' a4';obtain ⟨ce,hce⟩:∃q,zJ s'.O ef efp=q:=⟨_,rfl⟩;have HCE:=zY hce;obtain ⟨m,v1,v2,F1,F2,hP0⟩:=id HLED.out;obtain ⟨vx,vc,hv2⟩:=hP0.outs.slice;subst hv2;have HP0:=zY hP0;obtain ⟨ls,hls⟩:∃q,st.length=q:=⟨_,rfl⟩;have HLS:=zY hls;rw[show (GE.mk ef efp et etp st).start.length=ls from hls]at a4;clear hP0 hce hls
   go_upto_region 4 with (refine ZA _ rfl (.tmp 6) (.tmp 15) rfl rfl wr.heap.size _ _ _ _ _ _ _ _ _ _ _ _ rfl rfl (zV 59 wr #[.int .i64 0,.int .i64 0,.int .i64 0,.int .i64 0,qN]) ?_;intro w1 hNA hUA;have X1:=zY hNA;have b1:=((Below.refl wr.heap.size wr).alloc (Nat.le_refl _) (.cells #[.int .i64 0,.int .i64 0,.int .i64 0,.int .i64 0,qN] 59)).trans (hUA.below (Nat.le_refl _) (by simp));have B1:=zY b1;have L1:=zY (HLED.out.below b1);have R1:=zY (NRW.out.below b1);clear hNA hUA b1)
   have LP1:=zY (HP0.out.below B1.out)
   refine zM [8] (fun d i u z=>match i with
    |0=>z=(qP b)
    |1=>z=(qP b)
    |2=>z=.pointer (some ⟨b,2,none⟩)
    |3=>z=.slice vx s'.O.length vc
    |4=>z=(qP wr.heap.size)
    |5=>z=.int .i64 ef
    |6=>z=.pointer (some ⟨wr.heap.size,1,none⟩)
    |7=>z=.int .i64 efp
    |8=>z=.int .i64 (zJ s'.O ef efp)
    |9=>z=.int .i64 (zJ s'.O ef efp)
    |_=>True) (fun d u=>(d 8=false->Below w1.heap.size w1 u)/\(d 8=true->aO F w1 b ⟨s'.ns,s'.I,yL s'.O ef efp⟩ u)) (by kernel_rfl) (by kernel_rfl) (by kernel_rfl) ?_ ?_ ?_ ?_ ?_ ?_ (by kernel_rfl)
   ·intro d i w v w' h hb
    match i,h with
    |0,h=>exact h
    |1,h=>exact h
    |2,h=>exact h
    |3,h=>exact h
    |4,h=>exact h
    |5,h=>exact h
    |6,h=>exact h
    |7,h=>exact h
    |8,h=>exact h
    |9,h=>exact h
    |_+10,_=>trivial
   ·intro d u u' h hb
    exact ⟨fun e=>(h.1 e).trans (hb.mono (h.1 e).size),fun e=>(h.2 e).later hb⟩
   ·exact ⟨fun _=>Below.refl _ _,fun e=>absurd e (by decide)⟩
   ·intro d i o ρ w' hm ho hf hg hC hcs hfs hfr zX
    match i,hm,ho,hf,hg,hfr,zX with
    |0,_,ho,hf,hg,hfr,zX=>
     simp only[qS]at ho;subst ho;refine ⟨fun _=>?_,qF⟩
     have ts: ρ (.tmp 0)=(qP b):=(qR hfr 0);simp[go_sem,ts];exact qB
    |1,_,ho,hf,hg,hfr,zX=>
     simp only[qS]at ho;subst ho;refine ⟨fun _=>?_,qF⟩
     have d0: ρ (.tmp 16)=(qP b):=(qH zX 0 16);simp[go_sem,d0];exact qB
    |2,_,ho,hf,hg,hfr,zX=>
     simp only[qS]at ho;subst ho;refine ⟨fun _=>?_,qF⟩
     have d0: ρ (.tmp 17)=(qP b):=(qH zX 1 17);simp[go_sem,d0];exact qB
    |3,_,ho,hf,hg,hfr,zX=>
     simp only[qS]at ho;subst ho;refine ⟨fun _=>?_,qF⟩
     have cc:w'.cell? ⟨b,2,none⟩=some (.slice vx s'.O.length vc):=(LP1.out.blk.below (hC.1 (hf 8 (by decide) (by kernel_rfl)))).cell rfl;have d0: ρ (.tmp 18)=.pointer (some ⟨b,2,none⟩):=(qH zX 2 18);simp[go_sem,d0,cc];exact qB
    |4,_,ho,hf,hg,hfr,zX=>
     simp only[qS]at ho;subst ho;refine ⟨fun _=>?_,qF⟩
     have tq: ρ (.tmp 6)=(qP wr.heap.size):=(qR hfr 6);simp[go_sem,tq];exact qB
    |5,_,ho,hf,hg,hfr,zX=>
     simp only[qS]at ho;subst ho;refine ⟨fun _=>?_,qF⟩
     have cc:w'.cell? ⟨wr.heap.size,0,none⟩=some (.int .i64 ef):=(X1.out.below (hC.1 (hf 8 (by decide) (by kernel_rfl)))).cell rfl;have d0: ρ (.tmp 20)=(qP wr.heap.size):=(qH zX 4 20);simp[go_sem,d0,cc];exact qB
    |6,_,ho,hf,hg,hfr,zX=>
     simp only[qS]at ho;subst ho;refine ⟨fun _=>?_,qF⟩
     have tq: ρ (.tmp 6)=(qP wr.heap.size):=(qR hfr 6);simp[go_sem,tq];exact qB
    |7,_,ho,hf,hg,hfr,zX=>
     simp only[qS]at ho;subst ho;refine ⟨fun _=>?_,qF⟩
     have cc:w'.cell? ⟨wr.heap.size,1,none⟩=some (.int .i64 efp):=(X1.out.below (hC.1 (hf 8 (by decide) (by kernel_rfl)))).cell rfl;have d0: ρ (.tmp 22)=.pointer (some ⟨wr.heap.size,1,none⟩):=(qH zX 6 22);simp[go_sem,d0,cc];exact qB
    |8,hm,_,_,_,_,_=>exact qD hm
    |9,_,ho,hf,hg,hfr,zX=>
     simp only[qS]at ho;subst ho;refine ⟨fun _=>?_,qF⟩
     have d0: ρ (.tmp 24)=.int .i64 (zJ s'.O ef efp):=(qH zX 8 24);simp[go_sem,d0];exact qB
    |n+10,_,ho,_,_,_,_=>simp at ho
   ·intro d i o ρ w' hm ho h0 hf hg hC hcs hfs hfr zX
    match i,hm,ho,h0,hf,hg,hfr,zX with
    |0,hm,_,_,_,_,_,_=>exact qD hm
    |1,hm,_,_,_,_,_,_=>exact qD hm
    |2,hm,_,_,_,_,_,_=>exact qD hm
    |3,hm,_,_,_,_,_,_=>exact qD hm
    |4,hm,_,_,_,_,_,_=>exact qD hm
    |5,hm,_,_,_,_,_,_=>exact qD hm
    |6,hm,_,_,_,_,_,_=>exact qD hm
    |7,hm,_,_,_,_,_,_=>exact qD hm
    |8,_,ho,h0,hf,hg,hfr,zX=>
     simp only[qS]at ho;subst ho;have t3: ρ (.tmp 19)=.slice vx s'.O.length vc:=(qH zX 3 19);have t5: ρ (.tmp 21)=.int .i64 ef:=(qH zX 5 21);have t7: ρ (.tmp 23)=.int .i64 efp:=(qH zX 7 23);refine ⟨rfl,?_⟩
     simp[go_sem,t3,t5,t7,hfs,zC];refine (XC (LP1.out.below (hC.1 h0)) HO'.out _ _).mono ?_
     rintro e u9 ⟨rfl,hL9,hC9'⟩
     exact ⟨rfl,fun e=>absurd e (by simp[zA]),fun _=>⟨hL9,(xP.of_below (hC.1 h0)).trans' hC9'⟩⟩
    |9,hm,_,_,_,_,_,_=>exact qD hm
    |n+10,_,ho,_,_,_,_,_=>simp at ho
   intro V w2 hC2 hS;have e9:V 9=.int .i64 (zJ s'.O ef efp):=hS 9 (by decide) (by intro h;cases h);simp only[yP,e9];simp only[Act.put,qU];clear hS e9;obtain ⟨hL2,hG2⟩:=hC2.2 rfl;have L2:=zY hL2;have G2:=zY hG2;have X2:=zY (X1.out.keep (G2.out.block _ X1.out.lt (fun e=>by have:=HLED.out.low _ e;omega)));have R2:=zY (R1.out.keep (G2.out.block _ R1.out.lt HNR.out));clear hC2 hL2 hG2 LP1 HP0;rw[HCE.out]
   by_cases h1:ce=0
   ·subst h1
    obtain ⟨co,hco⟩:∃q,zJ s'.I et etp=q:=⟨_,rfl⟩;have HCO:=zY hco;obtain ⟨m',u1,u2,E1,E2,hQ0⟩:=id L2.out;obtain ⟨wx,wc,hw1⟩:=hQ0.ins.slice;subst hw1;have LQ:=zY hQ0;clear hQ0 hco
    go_upto_region 7 with fail
    refine zM [8] (fun d i u z=>match i with
     |0=>z=(qP b)
     |1=>z=(qP b)
     |2=>z=.pointer (some ⟨b,1,none⟩)
     |3=>z=.slice wx s'.I.length wc
     |4=>z=.pointer (some ⟨wr.heap.size,2,none⟩)
     |5=>z=.int .i64 et
     |6=>z=.pointer (some ⟨wr.heap.size,3,none⟩)
     |7=>z=.int .i64 etp
     |8=>z=.int .i64 (zJ s'.I et etp)
     |9=>z=.int .i64 (zJ s'.I et etp)
     |_=>True) (fun d u=>(d 8=false->Below w2.heap.size w2 u)/\(d 8=true->aO F w2 b ⟨s'.ns,yL s'.I et etp,yL s'.O ef efp⟩ u)) (by kernel_rfl) (by kernel_rfl) (by kernel_rfl) ?_ ?_ ?_ ?_ ?_ ?_ (by kernel_rfl)
    ·intro d i w v w' h hb
     match i,h with
     |0,h=>exact h
     |1,h=>exact h
     |2,h=>exact h
     |3,h=>exact h
     |4,h=>exact h
     |5,h=>exact h
     |6,h=>exact h
     |7,h=>exact h
     |8,h=>exact h
     |9,h=>exact h
     |_+10,_=>trivial
    ·intro d u u' h hb
     exact ⟨fun e=>(h.1 e).trans (hb.mono (h.1 e).size),fun e=>(h.2 e).later hb⟩
    ·exact ⟨fun _=>Below.refl _ _,fun e=>absurd e (by decide)⟩
    ·intro d i o ρ w' hm ho hf hg hC hcs hfs hfr zX
     match i,hm,ho,hf,hg,hfr,zX with
     |0,_,ho,hf,hg,hfr,zX=>
      simp only[qS]at ho;subst ho;refine ⟨fun _=>?_,qF⟩
      have ts: ρ (.tmp 0)=(qP b):=(qR hfr 0);simp[go_sem,ts];exact qB
     |1,_,ho,hf,hg,hfr,zX=>
      simp only[qS]at ho;subst ho;refine ⟨fun _=>?_,qF⟩
      have d0: ρ (.tmp 30)=(qP b):=(qH zX 0 30);simp[go_sem,d0];exact qB
     |2,_,ho,hf,hg,hfr,zX=>
      simp only[qS]at ho;subst ho;refine ⟨fun _=>?_,qF⟩
      have d0: ρ (.tmp 31)=(qP b):=(qH zX 1 31);simp[go_sem,d0];exact qB
     |3,_,ho,hf,hg,hfr,zX=>
      simp only[qS]at ho;subst ho;refine ⟨fun _=>?_,qF⟩
      have cc:w'.cell? ⟨b,1,none⟩=some (.slice wx s'.I.length wc):=(LQ.out.blk.below (hC.1 (hf 8 (by decide) (by kernel_rfl)))).cell rfl;have d0: ρ (.tmp 32)=.pointer (some ⟨b,1,none⟩):=(qH zX 2 32);simp[go_sem,d0,cc];exact qB
     |4,_,ho,hf,hg,hfr,zX=>
      simp only[qS]at ho;subst ho;refine ⟨fun _=>?_,qF⟩
      have tq: ρ (.tmp 6)=(qP wr.heap.size):=(qR hfr 6);simp[go_sem,tq];exact qB
     |5,_,ho,hf,hg,hfr,zX=>
      simp only[qS]at ho;subst ho;refine ⟨fun _=>?_,qF⟩
      have cc:w'.cell? ⟨wr.heap.size,2,none⟩=some (.int .i64 et):=(X2.out.below (hC.1 (hf 8 (by decide) (by kernel_rfl)))).cell rfl;have d0: ρ (.tmp 34)=.pointer (some ⟨wr.heap.size,2,none⟩):=(qH zX 4 34);simp[go_sem,d0,cc];exact qB
     |6,_,ho,hf,hg,hfr,zX=>
      simp only[qS]at ho;subst ho;refine ⟨fun _=>?_,qF⟩
      have tq: ρ (.tmp 6)=(qP wr.heap.size):=(qR hfr 6);simp[go_sem,tq];exact qB
     |7,_,ho,hf,hg,hfr,zX=>
      simp only[qS]at ho;subst ho;refine ⟨fun _=>?_,qF⟩
      have cc:w'.cell? ⟨wr.heap.size,3,none⟩=some (.int .i64 etp):=(X2.out.below (hC.1 (hf 8 (by decide) (by kernel_rfl)))).cell rfl;have d0: ρ (.tmp 36)=.pointer (some ⟨wr.heap.size,3,none⟩):=(qH zX 6 36);simp[go_sem,d0,cc];exact qB
     |8,hm,_,_,_,_,_=>exact qD hm
     |9,_,ho,hf,hg,hfr,zX=>
      simp only[qS]at ho;subst ho;refine ⟨fun _=>?_,qF⟩
      have d0: ρ (.tmp 38)=.int .i64 (zJ s'.I et etp):=(qH zX 8 38);simp[go_sem,d0];exact qB
     |n+10,_,ho,_,_,_,_=>simp at ho
    ·intro d i o ρ w' hm ho h0 hf hg hC hcs hfs hfr zX
     match i,hm,ho,h0,hf,hg,hfr,zX with
     |0,hm,_,_,_,_,_,_=>exact qD hm
     |1,hm,_,_,_,_,_,_=>exact qD hm
     |2,hm,_,_,_,_,_,_=>exact qD hm
     |3,hm,_,_,_,_,_,_=>exact qD hm
     |4,hm,_,_,_,_,_,_=>exact qD hm
     |5,hm,_,_,_,_,_,_=>exact qD hm
     |6,hm,_,_,_,_,_,_=>exact qD hm
     |7,hm,_,_,_,_,_,_=>exact qD hm
     |8,_,ho,h0,hf,hg,hfr,zX=>
      simp only[qS]at ho;subst ho;have t3: ρ (.tmp 33)=.slice wx s'.I.length wc:=(qH zX 3 33);have t5: ρ (.tmp 35)=.int .i64 et:=(qH zX 5 35);have t7: ρ (.tmp 37)=.int .i64 etp:=(qH zX 7 37);refine ⟨rfl,?_⟩
      simp[go_sem,t3,t5,t7,hfs,zC];refine (XD (LQ.out.below (hC.1 h0)) HI'.out _ _).mono ?_
      rintro e u9 ⟨rfl,hL9,hC9'⟩
      exact ⟨rfl,fun e=>absurd e (by simp[zA]),fun _=>⟨hL9,(xP.of_below (hC.1 h0)).trans' hC9'⟩⟩
     |9,hm,_,_,_,_,_,_=>exact qD hm
     |n+10,_,ho,_,_,_,_,_=>simp at ho
    intro V w3 hC3 hS;have e9:V 9=.int .i64 (zJ s'.I et etp):=hS 9 (by decide) (by intro h;cases h);simp only[yP,e9];simp only[Act.put,qU];clear hS e9;obtain ⟨hL3,hG3⟩:=hC3.2 rfl;have L3:=zY hL3;have G3:=zY hG3;have X3:=X2.out.keep (G3.out.block _ X2.out.lt (fun e=>by have:=HLED.out.low _ e;omega));have R3:=zY (R2.out.keep (G3.out.block _ R2.out.lt HNR.out));have y4:w3.cell? ⟨wr.heap.size,4,none⟩=some (.slice x ls c):=X3.cell rfl;clear hC3 hL3 hG3 LQ X3;rw[HCO.out]
    by_cases h2:co=0
    ·subst h2
     by_cases h3:256<ls
     ·have h3i:(256:Int)<(ls:Int):=by omega
      go_wp2_with (refine zT _ rfl (.tmp 4) (.tmp 49) rfl rfl w.heap.size _ _ _ _ _ _ _ _ rfl rfl R3.out ?_;intro w9 hNF hUF;have NF:=zY hNF;have UF:=zY hUF;clear hNF hUF)
      have z0:w9.cell? ⟨w.heap.size,0,none⟩=some (.int .i64 88):=NF.out.cell rfl;have z1:w9.cell? ⟨w.heap.size,1,none⟩=some (.int .u8 2):=NF.out.cell rfl;have z2:w9.cell? ⟨w.heap.size,2,none⟩=some (.int .i64 (i:Int)):=NF.out.cell rfl;have z3:w9.cell? ⟨w.heap.size,3,none⟩=some (.int .u8 0):=NF.out.cell rfl;refine bodyPost_ret (v:=.agg #[.int .i64 88,.int .u8 2,.int .i64 (i:Int),.int .u8 0]) (by simp[results,Tryz.results65,go_sem,z0,z1,z2,z3]) rfl ?_
      refine ⟨?_,?_,?_⟩
      ·rw [HEQ.out,HDR.out]
       show _=Ending.returned (NK (if _ then _ else _:FL × LS).1);rw[if_pos HCE.out,if_pos HCO.out,if_pos (by rw[HLS.out];exact h3)];rfl
      ·rw [HEQ.out,HDR.out]
       show ((if _ then _ else _:FL × LS).1).code=0->_;rw[if_pos HCE.out,if_pos HCO.out,if_pos (by rw[HLS.out];exact h3)]
       exact fun e=>absurd e (by show ¬(88:Int)=0;decide)
      exact (((((xP.of_below BA.out).trans' HC.out).trans' (xP.of_below B1.out)).trans' G2.out).trans' G3.out).trans (UF.out.chg (F:=fun k=>k=w.heap.size) rfl) fun k hk=>.inr (by omega)
     have h3i:¬(256:Int)<(ls:Int):=by omega
     go_wp2
     go_roundg (Es.length-(i+1))
     case measure=>omega
     case rel=>
      refine ⟨i+1,_,by omega,rfl,by go_num,?_,L3.out,((HC.out.trans' (xP.of_below B1.out)).trans' G2.out).trans' G3.out,by show s'.ns.length<=_;omega,vP HI'.out _ _,vP HO'.out _ _⟩
      rw[HEQ.out,HDR.out];show (if _ then _ else _)=_
      rw[if_pos HCE.out,if_pos HCO.out,if_neg (by rw[HLS.out];exact h3)]
    have e2:(co !=0)=true:=by simpa using h2
    go_wp2_with (refine zT _ rfl (.tmp 4) (.tmp 43) rfl rfl w.heap.size _ _ _ _ _ _ _ _ rfl rfl R3.out ?_;intro w9 hNF hUF;have NF:=zY hNF;have UF:=zY hUF;clear hNF hUF)
    have z0:w9.cell? ⟨w.heap.size,0,none⟩=some (.int .i64 co):=NF.out.cell rfl;have z1:w9.cell? ⟨w.heap.size,1,none⟩=some (.int .u8 2):=NF.out.cell rfl;have z2:w9.cell? ⟨w.heap.size,2,none⟩=some (.int .i64 (i:Int)):=NF.out.cell rfl;have z3:w9.cell? ⟨w.heap.size,3,none⟩=some (.int .u8 2):=NF.out.cell rfl;refine bodyPost_ret (v:=.agg #[.int .i64 co,.int .u8 2,.int .i64 (i:Int),.int .u8 2]) (by simp[results,Tryz.results65,go_sem,z0,z1,z2,z3]) rfl ?_
    refine ⟨?_,?_,?_⟩
    ·rw [HEQ.out,HDR.out]
     show _=Ending.returned (NK (if _ then _ else _:FL × LS).1);rw[if_pos HCE.out,if_neg (by rw[HCO.out];exact h2),HCO.out];rfl
    ·rw [HEQ.out,HDR.out]
     show ((if _ then _ else _:FL × LS).1).code=0->_;rw[if_pos HCE.out,if_neg (by rw[HCO.out];exact h2),HCO.out]
     exact fun e=>absurd e h2
    exact (((((xP.of_below BA.out).trans' HC.out).trans' (xP.of_below B1.out)).trans' G2.out).trans' G3.out).trans (UF.out.chg (F:=fun k=>k=w.heap.size) rfl) fun k hk=>.inr (by omega)
   have e2:(ce !=0)=true:=by simpa using h1
   go_wp2_with (refine zT _ rfl (.tmp 4) (.tmp 29) rfl rfl w.heap.size _ _ _ _ _ _ _ _ rfl rfl R2.out ?_;intro w9 hNF hUF;have NF:=zY hNF;have UF:=zY hUF;clear hNF hUF)
   have z0:w9.cell? ⟨w.heap.size,0,none⟩=some (.int .i64 ce):=NF.out.cell rfl;have z1:w9.cell? ⟨w.heap.size,1,none⟩=some (.int .u8 2):=NF.out.cell rfl;have z2:w9.cell? ⟨w.heap.size,2,none⟩=some (.int .i64 (i:Int)):=NF.out.cell rfl;have z3:w9.cell? ⟨w.heap.size,3,none⟩=some (.int .u8 1):=NF.out.cell rfl;refine bodyPost_ret (v:=.agg #[.int .i64 ce,.int .u8 2,.int .i64 (i:Int),.int .u8 1]) (by simp[results,Tryz.results65,go_sem,z0,z1,z2,z3]) rfl ?_
   refine ⟨?_,?_,?_⟩
   ·rw [HEQ.out,HDR.out]
    show _=Ending.returned (NK (if _ then _ else _:FL × LS).1);rw[if_neg (by rw[HCE.out];exact h1),HCE.out];rfl
   ·rw [HEQ.out,HDR.out]
    show ((if _ then _ else _:FL × LS).1).code=0->_;rw[if_neg (by rw[HCE.out];exact h1),HCE.out]
    exact fun e=>absurd e h1
   exact ((((xP.of_below BA.out).trans' HC.out).trans' (xP.of_below B1.out)).trans' G2.out).trans (UF.out.chg (F:=fun k=>k=w.heap.size) rfl) fun k hk=>.inr (by omega)
  have hii:¬(i:Int)<(Es.length:Int):=by omega
  have ei:i=Es.length:=by omega
  go_wp2_with (refine zT _ rfl (.tmp 4) (.tmp 51) rfl rfl w.heap.size _ _ _ _ _ _ _ _ rfl rfl NRW.out ?_;intro w9 hNF hUF;have NF:=zY hNF;have UF:=zY hUF;clear hNF hUF)
  have z0:w9.cell? ⟨w.heap.size,0,none⟩=some (.int .i64 0):=NF.out.cell rfl;have z1:w9.cell? ⟨w.heap.size,1,none⟩=some (.int .u8 0):=NF.out.cell rfl;have z2:w9.cell? ⟨w.heap.size,2,none⟩=some (.int .i64 0):=NF.out.cell rfl;have z3:w9.cell? ⟨w.heap.size,3,none⟩=some (.int .u8 0):=NF.out.cell rfl;refine bodyPost_ret (v:=.agg #[.int .i64 0,.int .u8 0,.int .i64 0,.int .u8 0]) (by simp[results,Tryz.results65,go_sem,z0,z1,z2,z3]) rfl ?_
  refine ⟨?_,?_,?_⟩
  ·rw [HEQ.out,ei,List.drop_length]
   rfl
  ·rw [HEQ.out,ei,List.drop_length]
   exact fun _=>⟨F,HLED.out.keep (fun k hk=>UF.out.block k (HLED.out.low k hk) (fun e=>HNR.out (e ▸ hk))) UF.out.size,fun k hk=>.inl hk⟩
  exact ((xP.of_below BA.out).trans' HC.out).trans (UF.out.chg (F:=fun k=>k=w.heap.size) rfl) fun k hk=>.inr (by omega)
end Go.Proofs.YtpohmekkdjdhmaaGreat
