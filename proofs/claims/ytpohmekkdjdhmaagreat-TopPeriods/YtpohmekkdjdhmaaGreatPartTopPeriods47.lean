/- Texts of one chain. -/
import Derived.Test.YtpohmekkdjdhmaaGreatPartTopPeriods46
import Derived.Test.YtpohmekkdjdhmaaGreatPartTopPeriods34
import Derived.Test.YtpohmekkdjdhmaaGreatPartTopPeriods39
import Derived.WalkSmall
namespace Go.Proofs.YtpohmekkdjdhmaaGreat
open Go.ChangeShapes Go.WideShapes Go.ChangeAt Go.RowKit
def bkF (x:BK):List Value:=[.int .i64 x.n,.int .i64 x.f,.int .i64 x.a]
def rH:List BK->List Value
 |[]=>[]
 |x::L=>bkF x++rH L
def celB (x:BK) (j:Nat):Value:=if j=0 then .int .i64 x.n else if j=1 then .int .i64 x.f else .int .i64 x.a
theorem WA:∀(L:List BK),(rH L).length=L.length*3
 |[]=>rfl
 |x::L=>by show (bkF x++rH L).length=_;rw[List.length_append,WA L,List.length_cons];show 3+_=_;omega
theorem gI:∀(L M:List BK),rH (L++M)=rH L++rH M
 |[],_=>rfl
 |x::L,M=>by show bkF x++rH (L++M)=bkF x++rH L++rH M;rw[gI L M,List.append_assoc]
theorem eQ:∀ {L:List BK} {k j:Nat},k<L.length->j<3->(rH L)[k*3+j]? =some (celB (wL L k) j)
 |[],k,j,hk,_=>absurd hk (Nat.not_lt_zero _)
 |a::L,0,j,_,hj=>by
  show (bkF a++rH L)[0*3+j]? =_;rw[Nat.zero_mul,Nat.zero_add,List.getElem?_append_left (by show j<3;exact hj)]
  match j,hj with
  |0,_=>rfl
  |1,_=>rfl
  |2,_=>rfl
 |a::L,k+1,j,hk,hj=>by
  show (bkF a++rH L)[(k+1)*3+j]? =_;rw[List.getElem?_append_right (by show 3<=_;omega)]
  have e:(k+1)*3+j-(bkF a).length=k*3+j:=by show (k+1)*3+j-3=_;omega
  rw[e];exact eQ (Nat.lt_of_succ_lt_succ hk) hj
theorem AZ.flat {w:World} {ad:Addr} {L:List BK} (h:AZ w (some ad) L):∀j u,(rH L)[j]? =some u->w.cell? (ad.add j)=some u:=by
 intro j u hu
 have hj:j<L.length*3:=by rw[<- WA];exact (List.getElem?_eq_some_iff.1 hu).1
 rcases h with e|⟨b,off,e,hc⟩
 ·subst e;simp at hj
 cases e
 have hk:j / 3<L.length:=by omega
 have e1:j=j / 3*3+j % 3:=by omega
 have hr:j % 3<3:=Nat.mod_lt _ (by decide);have h1:=eQ (L:=L) hk hr;rw[<- e1,hu]at h1
 cases h1
 obtain ⟨c0,c1,c2⟩:=hc (j / 3) hk
 have ea:(⟨b,off,none⟩:Addr).add j=⟨b,off+j / 3*3+j % 3,none⟩:=by
  have e2:off+j / 3*3+j % 3=off+j:=by omega
  rw[e2];simp[Addr.add]
 rw[ea];clear ea e1;generalize j / 3=k at *;generalize j % 3=r at *
 match r,hr with
 |0,_=>exact c0
 |1,_=>exact c1
 |2,_=>exact c2
def vV (B:Nat) (w:World) (a:Option Addr) (c:Nat) (L:List BK):Prop:=w.ownsRow B 99 3 (.slice a L.length c) L.length (rH L)
theorem vV.nil (B:Nat) (w:World):vV B w none 0 []:=World.ownsRow_nil _ _ _ _
theorem vV.at {B:Nat} {w:World} {a:Option Addr} {c:Nat} {L:List BK} (h:vV B w a c L):AZ w a L:=by
 unfold vV at h
 rcases h.2 with ⟨hv,hn⟩|⟨g,cap,cur,hv,hg,hh,hc,hm,hs,ht⟩
 ·exact .inl (List.eq_nil_of_length_eq_zero hn)
 cases hv
 refine .inr ⟨g,0,rfl,fun k hk=>?_⟩
 have key:∀j,j<3->w.cell? ⟨g,k*3+j,none⟩=some (celB (wL L k) j):=fun j hj=>by
  rw[h.cellAt (k*3+j) (by omega),eQ hk hj]
 rw[Nat.zero_add];exact ⟨key 0 (by decide),key 1 (by decide),key 2 (by decide)⟩
theorem vV.lt {B:Nat} {w:World} {a:Option Addr} {c:Nat} {L:List BK} (h:vV B w a c L):∀x,a=some x->B<=x.block/\x.block<w.heap.size:=by
 intro x hx
 rcases h.2 with ⟨hv,hn⟩|⟨g,cap,cur,hv,hg,hh,hc,hm,hs,ht⟩
 ·simp at hv;rw[hv.1]at hx;cases hx
 cases hv
 cases hx
 exact ⟨hg,(Array.getElem?_eq_some_iff.1 hh).1⟩
theorem vV.none {B:Nat} {w:World} {a:Option Addr} {c:Nat} {L:List BK} (h:vV B w a c L):a=Option.none->L.length=0/\c=0:=by
 intro e
 rcases h.2 with ⟨hv,hn⟩|⟨g,cap,cur,hv,hg,hh,hc,hm,hs,ht⟩
 ·simp at hv;exact ⟨hn,hv.2.2⟩
 subst e;cases hv
theorem vV.keep {B:Nat} {w w':World} {a:Option Addr} {c:Nat} {L:List BK} (h:vV B w a c L) (hk:∀x,a=some x->w'.heap[x.block]? =w.heap[x.block]?):vV B w' a c L:=by
 refine ⟨h.1,?_⟩
 rcases h.2 with h2|⟨g,cap,cur,hv,hg,hh,r⟩
 ·exact .inl h2
 refine .inr ⟨g,cap,cur,hv,hg,?_,r⟩
 cases hv
 rw[hk _ rfl];exact hh
theorem vV.later {B:Nat} {w w':World} {a:Option Addr} {c:Nat} {L:List BK} (h:vV B w a c L) (hb:Below w.heap.size w w'):vV B w' a c L:=h.keep fun x hx=>hb.block _ (h.lt x hx).2
theorem vV.mono {B B':Nat} {w:World} {a:Option Addr} {c:Nat} {L:List BK} (h:vV B w a c L) (hB:B'<=B):vV B' w a c L:=by
 refine ⟨h.1,?_⟩
 rcases h.2 with h2|⟨g,cap,cur,hv,hg,r⟩
 ·exact .inl h2
 exact .inr ⟨g,cap,cur,hv,Nat.le_trans hB hg,r⟩
theorem vV.room {B:Nat} {w:World} {a:Option Addr} {c:Nat} {L:List BK} (h:vV B w a c L):L.length<=c/\c<=maxLen:=by
 rcases h.2 with ⟨hv,hn⟩|⟨g,cap,cur,hv,hg,hh,hc,hm,r⟩
 ·simp at hv;exact ⟨by omega,by omega⟩
 cases hv;exact ⟨hc,hm⟩
theorem Tryz.infoBk:(Tryz.prog.info? 99).map (fun i=>(i.zero,i.size,i.bytes))=some (some (.agg #[.int .i64 0,.int .i64 0,.int .i64 0]),3,24):=by kernel_rfl
end Go.Proofs.YtpohmekkdjdhmaaGreat
