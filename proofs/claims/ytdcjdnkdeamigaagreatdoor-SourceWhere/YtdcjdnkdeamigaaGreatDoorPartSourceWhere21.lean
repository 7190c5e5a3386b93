/- Texts of one chain. -/
import Derived.Test.YtdcjdnkdeamigaaGreatDoorPartQ
import Derived.Test.YtdcjdnkdeamigaaGreatDoorPartSourceWhere20
import Derived.Lib.AppendIntMem
set_option maxRecDepth 100000
set_option maxHeartbeats 4000000
namespace Go.Proofs.YtdcjdnkdeamigaaGreatDoor
open Go.ChangeShapes Go.WideShapes Go.ChangeAt Go.RowKit
def XO (B:Nat) (w:World):Prop:=Lib.TabBelow Tryz.prog B w "internal/strconv.uint64pow10" .u64 Lib.pow10Tab
theorem vX (a b:List UInt8):zW a++zW b=zW (a++b):=ByteArray.mk_append_mk a b
theorem RU (w:World) (k:Nat) (os:Array Obj):Below w.heap.size w (Sort.grow (w.drewN k) os):=
 ⟨rfl,rfl,rfl,by show _<=(w.heap++os).size;rw[Array.size_append];omega,fun i hi=>by show (w.heap++os)[i]? =_;rw[Array.getElem?_append_left hi]⟩
theorem VK (n:Int) (h: -9223372036854775808<=n/\n<=9223372036854775807) (B:Nat) (w0 w:World) (ht:XO B w0) (hb:Below B w0 w):
 Calls Tryz.prog 175 #[.int .i64 n] w fun e w'=>e=.returned (.string (zW (Lib.itoa n)))/\Below w.heap.size w w':=
 (Go.Proofs.Tryz.strconv_Itoa n h.1 h.2 w (ht w hb)).mono fun _ _ ⟨he,k,os,hw⟩=>⟨he,by rw[hw];exact RU w k os⟩
def zG (p:vZ):List UInt8:=p.name++[46]++Lib.itoa p.port
theorem uT (p:vZ) (W:World) (hn:p.name.length<=16) (hp: -9223372036854775808<=p.port/\p.port<=9223372036854775807) (hi:(Lib.itoa p.port).length<=20) (B:Nat) (w0:World) (ht:XO B w0) (hb0:Below B w0 W) (hB:B<=W.heap.size):
 Calls Tryz.prog 157 #[plV p] W fun e w'=>e=.returned (.string (zW (zG p)))/\Below W.heap.size W w':=by
 obtain ⟨nm,po,pl⟩:=p;unfold plV zG;simp only at hn hp hi ⊢;have hbA:=(Below.refl W.heap.size W).alloc (Nat.le_refl _) (.cells #[.string (zW nm),.int .i64 po,.int .i64 pl] 101);have HBA:=zY hbA
 have HIT:Hid (∀ w1,Below W.heap.size W w1->Calls Tryz.prog 175 #[.int .i64 po] w1 fun e w'=>e=.returned (.string (zW (Lib.itoa po)))/\Below w1.heap.size w1 w'):=fun w1 h1=>VK po hp B w0 w1 ht (hb0.trans (h1.mono hB))
 have hK:=yN 101 W #[.string (zW nm),.int .i64 po,.int .i64 pl];have d0:(W.alloc (.cells #[.string (zW nm),.int .i64 po,.int .i64 pl] 101)).cell? ⟨W.heap.size,0,none⟩=some (.string (zW nm)):=hK.cell (k:=0) rfl;have d1:(W.alloc (.cells #[.string (zW nm),.int .i64 po,.int .i64 pl] 101)).cell? ⟨W.heap.size,1,none⟩=some (.int .i64 po):=hK.cell (k:=1) rfl;have hlt:=hK.lt;have s1:=zB nm;have s2:(ByteArray.mk #[46]).size=1:=rfl;have s3:=zB (nm++[46]);have s4:=zB (Lib.itoa po)
 have l1:¬(9223372036854775807<nm.length+1):=by omega
 have l2:¬(9223372036854775807<nm.length+1+(Lib.itoa po).length):=by omega
 have j1:zW nm++ByteArray.mk #[46]=zW (nm++[46]):=vX nm [46];have j2:=vX (nm++[46]) (Lib.itoa po);clear hb0 hB ht hK hbA
 go_enter Tryz.func157,Tryz.ntmps157
 go_wp2
 generalize hW0:W.alloc (.cells #[.string (zW nm),.int .i64 po,.int .i64 pl] 101)=W0 at *
 refine yK 7 (fun i u v=>match i with
  |0=>v=(qP W.heap.size)
  |1=>v=.string (zW nm)
  |2=>v=.string (zW (nm++[46]))
  |3=>v=.pointer (some ⟨W.heap.size,1,none⟩)
  |4=>v=.int .i64 po
  |5=>v=.string (zW (Lib.itoa po))
  |6=>v=.string (zW (nm++[46]++Lib.itoa po))
  |_=>True) (by kernel_rfl) (by kernel_rfl) (by kernel_rfl) (by kernel_rfl) ?_ ?_ ?_
 ·intro i w v w' h hb
  match i,h with
  |0,h=>exact h
  |1,h=>exact h
  |2,h=>exact h
  |3,h=>exact h
  |4,h=>exact h
  |5,h=>exact h
  |6,h=>exact h
  |_+7,_=>trivial
 ·intro i o ρ w' hi ho hb hc hf hfr zX
  have LK:∀ {a:Addr} {x:Value},a.block<W0.heap.size->W0.cell? a=some x->w'.cell? a=some x:=fun h1 h2=>(hb.cell h1).trans h2
  have k0:=LK hlt d0;have k1:=LK hlt d1
  match i,hi with
  |0,_=>
   simp only[qS]at ho;subst ho;have ts: ρ (.tmp 1)=(qP W.heap.size):=(qR hfr 1);simp[go_sem,ts];exact qB
  |1,_=>
   simp only[qS]at ho;subst ho;have ts: ρ (.tmp 3)=(qP W.heap.size):=(qH zX 0 3);simp[go_sem,ts,k0];exact qB
  |2,_=>
   simp only[qS]at ho;subst ho;have tq: ρ (.tmp 4)=.string (zW nm):=(qH zX 1 4);simp[go_sem,tq,hc,s1,s2,j1,l1];exact qB
  |3,_=>
   simp only[qS]at ho;subst ho;have ts: ρ (.tmp 1)=(qP W.heap.size):=(qR hfr 1);simp[go_sem,ts];exact qB
  |4,_=>
   simp only[qS]at ho;subst ho;have ts: ρ (.tmp 6)=.pointer (some ⟨W.heap.size,1,none⟩):=(qH zX 3 6);simp[go_sem,ts,k1];exact qB
  |5,_=>
   simp only[qS]at ho;subst ho;have tq: ρ (.tmp 7)=.int .i64 po:=(qH zX 4 7);simp[go_sem,tq,hf];exact ⟨rfl,(HIT.out w' (HBA.out.trans (hb.mono HBA.out.size))).mono fun e u h=>⟨_,h.1,h.2,rfl⟩⟩
  |6,_=>
   simp only[qS]at ho;subst ho;have t1: ρ (.tmp 5)=.string (zW (nm++[46])):=(qH zX 2 5);have t2: ρ (.tmp 8)=.string (zW (Lib.itoa po)):=(qH zX 5 8);simp[go_sem,t1,t2,s3,s4,j2,l2];exact qB
 intro V w9 q9 hS;have e0:V 0=(qP W.heap.size):=hS 0 (by decide);have e1:V 1=.string (zW nm):=hS 1 (by decide);have e2:V 2=.string (zW (nm++[46])):=hS 2 (by decide);have e3:V 3=.pointer (some ⟨W.heap.size,1,none⟩):=hS 3 (by decide);have e4:V 4=.int .i64 po:=hS 4 (by decide);have e5:V 5=.string (zW (Lib.itoa po)):=hS 5 (by decide);have e6:V 6=.string (zW (nm++[46]++Lib.itoa po)):=hS 6 (by decide);simp only[List.drop_succ_cons,List.drop_zero,List.take_succ_cons,List.take_zero,xA,e0,e1,e2,e3,e4,e5,e6];clear hS e0 e1 e2 e3 e4 e5 e6 V
 go_wp2
 go_ret
 exact ⟨by simp,HBA.out.trans (q9.mono HBA.out.size)⟩
def cK (n:Int):List UInt8:=32::Lib.itoa n
def uV (ns:List Int):List UInt8:=ns.flatMap cK
structure nJ (tx full tx' : List UInt8) : Prop where
 le:tx.length<=tx'.length
 is:tx'=tx++full\/(1048576<tx'.length/\1048576<(tx++full).length)
theorem nJ.all (tx full:List UInt8):nJ tx full (tx++full):=⟨by simp,Or.inl rfl⟩
theorem nJ.trans {tx a t1 b t2:List UInt8} (h:nJ tx a t1) (h2:nJ t1 b t2):nJ tx (a++b) t2:=by
 refine ⟨Nat.le_trans h.le h2.le,?_⟩
 rcases h.is with rfl|⟨q1,q2⟩
 ·rcases h2.is with rfl|⟨r1,r2⟩
  ·exact Or.inl (List.append_assoc _ _ _)
  exact Or.inr ⟨r1,by rw[<- List.append_assoc];exact r2⟩
 have:=h2.le;exact Or.inr ⟨by omega,by simp at q2 ⊢;omega⟩
def tK (n:Int):Prop:=(-9223372036854775808<=n/\n<=9223372036854775807)/\(Lib.itoa n).length<=20
theorem NG {ns:List Int} {k:Nat} (h:k<ns.length):uV (ns.take (k+1))=uV (ns.take k)++cK (ns.getD k 0):=by
 unfold uV;rw[List.take_add_one,List.getElem?_eq_getElem h,List.flatMap_append,List.getD_eq_getElem?_getD,List.getElem?_eq_getElem h];simp
theorem VJ (ns:List Int) (k:Nat):(uV (ns.take k)).length<=(uV ns).length:=by
 have:uV ns=uV (ns.take k)++uV (ns.drop k):=by
  unfold uV;rw[<- List.flatMap_append,List.take_append_drop]
 rw[this,List.length_append];omega
theorem mV (l:List UInt8):(Lib.byteCells l).length=l.length:=Lib.byteCells_length l
theorem ZI (a b:List UInt8):Lib.byteCells a++Lib.strCells (zW b)=Lib.byteCells (a++b):=by
 show List.map _ a++List.map _ b=List.map _ (a++b);rw[List.map_append]
theorem BuilderAt.below5 {T e:TypeId} {B b:Nat} {p:Value} {bs:List Value} {w w':World} (h:Lib.BuilderAt T e B b p bs w) (hb:Below w.heap.size w w'):Lib.BuilderAt T e B b p bs w':=by
 have hlt:=h.lt;obtain ⟨hB,v,hbk,hown,hne⟩:=h;exact ⟨hB,v,(hb.block b hlt).trans hbk,tW hown hb,hne⟩
theorem wP {T e:TypeId} {B b:Nat} {bs:List Value} {w w':World} (h:Lib.IsBuilder T e B b bs w) (hb:Below w.heap.size w w'):Lib.IsBuilder T e B b bs w':=by
 rcases h with h|h
 ·exact Or.inl (BuilderAt.below5 h hb)
 exact Or.inr (BuilderAt.below5 h hb)
theorem uX (b:Nat) (w0 W:World) (r:Value) (ns:List Int) (tx:List UInt8) (h0:uZ w0 r ns) (ht:XO w0.heap.size w0) (hb:Below w0.heap.size w0 W) (hBu:Lib.IsBuilder 187 5 w0.heap.size b (Lib.byteCells tx) W) (hns:∀n ∈ ns,tK n) (hnl:ns.length<=17592186044416) (hl:tx.length<=1048776):
 Calls Tryz.prog 158 #[(qP b),r] W fun e w'=>e=.returned (.tuple #[])/\∃tx',Lib.IsBuilder 187 5 w0.heap.size b (Lib.byteCells tx') w'/\Below w0.heap.size w0 w'/\nJ tx (uV ns) tx'/\tx'.length<=1048800/\uY W w':=by
 obtain ⟨a,c,rfl,hrow⟩:=h0;have HT:=zY ht;have HB:=zY hb;have HBU:=zY hBu;have HNS:=zY hns;have HROW:=zY hrow;obtain ⟨n,hn⟩:∃n,ns.length=n:=⟨_,rfl⟩;rw[hn]
 have hI:(n:Int)<=17592186044416:=by omega
 clear ht hb hBu hns hrow
 go_enter Tryz.func158,Tryz.ntmps158
 go_wp2
 go_loopg [8] n (fun gk v wr=>∃(k:Nat) (t1:List UInt8),k<=n/\gk=n-k/\v=.int .i64 (k:Int)/\Lib.IsBuilder 187 5 w0.heap.size b (Lib.byteCells t1) wr/\Below w0.heap.size w0 wr/\t1=tx++uV (ns.take k)/\t1.length<=1048800/\uY W wr)
 case atStart=>exact ⟨0,tx,Nat.zero_le _,rfl,rfl,HBU.out,HB.out,by simp[uV],by omega,uY.refl _⟩
 case round=>
  clear HBU HB;obtain ⟨k,t1,hk,rfl,rfl,hbu,hbe,ht1,hl1,hkp⟩:=hrel;have HKP:=zY hkp;have HBU:=zY hbu;have HBE:=zY hbe;have HT1:=zY ht1
  have HLEN:Hid (Calls Tryz.prog 113 #[(qP b)] wr fun e w'=>e=.returned (.int .i64 (t1.length:Int))/\w'=wr):=by
   have:=Go.Proofs.Tryz.Builder_Len w0.heap.size b (Lib.byteCells t1) wr hbu;rw[mV]at this;exact this
  have hlI:(t1.length:Int)<=1048800:=by omega
  clear hbu hbe ht1 hkp
  by_cases hlt:k<n
  ·have hki:(k:Int)<(n:Int):=by omega
   rcases HROW.out with e|⟨g,off,rfl,hc⟩
   ·rw [e]at hn;simp at hn;omega
   have hcell:=(HBE.out.cell (p:=⟨g,off+k,none⟩) (block_lt_of_cell (hc k (by omega)))).trans (hc k (by omega));have hsm:tK (ns.getD k 0):=HNS.out _ (by rw[List.getD_eq_getElem?_getD,List.getElem?_eq_getElem (by omega)];exact List.getElem_mem _);have HTK:=zY (NG (ns:=ns) (k:=k) (by omega));clear hc;generalize ns.getD k 0=x at *
   by_cases hbig:1048576<t1.length
   ·have hbi:(1048576:Int)<(t1.length:Int):=by omega
    have HPF:=zY (VJ ns k)
    go_wp2_with (go_at_call 113;(with_reducible refine HLEN.out.mono ?_);rintro e w2 ⟨rfl,rfl⟩)
    go_end0
    refine ⟨rfl,t1,HBU.out,HBE.out,⟨by rw[HT1.out];simp,Or.inr ⟨hbig,?_⟩⟩,hl1,HKP.out⟩
    have h1:=HPF.out;have h2:=congrArg List.length HT1.out;simp at h2 ⊢;omega
   have hbi:¬((1048576:Int)<(t1.length:Int)):=by omega
   have HIT:Hid (∀ w1,Below w0.heap.size w0 w1->Calls Tryz.prog 175 #[.int .i64 x] w1 fun e w'=>e=.returned (.string (zW (Lib.itoa x)))/\Below w1.heap.size w1 w'):=fun w1 h1=>VK x hsm.1 _ w0 w1 HT.out h1
   have HIL:=zY hsm.2;have hIL:=hsm.2;have s1:(ByteArray.mk #[32]).size=1:=rfl;have s2:=zB (Lib.itoa x)
   have l1:¬(9223372036854775807<1+(Lib.itoa x).length):=by omega
   have j1:ByteArray.mk #[32]++zW (Lib.itoa x)=zW (cK x):=vX [32] (Lib.itoa x)
   have HNL:Hid ((cK x).length<=21):=by show (32::Lib.itoa x).length<=21;rw[List.length_cons];omega
   have HWR:Hid (∀ w1,Below w0.heap.size w0 w1->Lib.IsBuilder 187 5 w0.heap.size b (Lib.byteCells t1) w1->Calls Tryz.prog 112 #[(qP b),.string (zW (cK x))] w1 fun e w'=>(∃ z,e=.returned (.tuple #[.int .i64 z,.nilIface]))/\Lib.IsBuilder 187 5 w0.heap.size b (Lib.byteCells (t1++cK x)) w'/\Below w0.heap.size w1 w'/\uY w1 w'):=fun w1 h1 h2=>(eT w0.heap.size b (Lib.byteCells t1) (zW (cK x)) w1 h2 (by rw[mV,zB];have:=HNL.out;omega) h1.size).mono fun _ _ ⟨he,hbu,hbe,hkk⟩=>⟨⟨_,he⟩,Or.inr (by rw[<- ZI];exact hbu),hbe,hkk⟩
   clear hsm hIL;generalize zW (cK x)=SX at *
   go_wp2_with (first
    |(go_at_call 112;(with_reducible refine (HWR.out _ B3.out U3.out).mono ?_);rintro e w4 ⟨⟨z,rfl⟩,hbu,hbe,hkk⟩;have K4:=zY (K3.out.trans hkk);clear hkk;have U4:=zY hbu;have B4:=zY (B3.out.trans hbe);clear hbu hbe)
    |(go_at_call 175;(with_reducible refine (HIT.out _ HBE.out).mono ?_);rintro e w3 ⟨rfl,hb3⟩;have B3:=zY (HBE.out.trans (hb3.mono HBE.out.size));have U3:=zY (wP HBU.out hb3);have K3:=zY (HKP.out.trans (vK hb3));clear hb3)
    |(go_at_call 113;(with_reducible refine HLEN.out.mono ?_);rintro e w2 ⟨rfl,rfl⟩))
   go_roundg (n-(k+1))
   case measure=>omega
   case rel=>exact ⟨k+1,t1++cK x,by omega,rfl,by go_num,U4.out,B4.out,by rw[HTK.out,HT1.out,List.append_assoc],by have:=HNL.out;simp;omega,K4.out⟩
  have ek:k=n:=by omega
  subst ek
  have hki:¬((k:Int)<(k:Int)):=by omega
  go_wp2
  go_end0
  refine ⟨rfl,t1,HBU.out,HBE.out,?_,hl1,HKP.out⟩
  rw[HT1.out,<-hn,List.take_length];exact nJ.all _ _
def sB (x:zF):List UInt8:=
 if x.kind=1 then [32,32,97,99,116,111,114,32]++x.name++[32,61,32]++x.tag
 else if x.kind=2 then [32,32,101,100,103,101,32]++zG x.frm++[32,45,62,32]++zG x.tO
 else if x.kind=3 then [32,32,105,110,32]++x.name++[32,45,62,32]++zG x.tO
 else [32,32,111,117,116,32]++zG x.frm++[32,45,62,32]++x.name
def sA (x:zF):List UInt8:=if x.kind=2/\x.nums≠[] then [32,119,105,116,104] else []
def sV (x:zF):List UInt8:=sB x++sA x++uV x.nums++[59,10]
structure VI (x : zF) : Prop where
 kind:x.kind=1\/x.kind=2\/x.kind=3\/x.kind=4
 name:x.name.length<=16
 tag:x.tag.length<=16
 frm:x.frm.name.length<=16
 tO:x.tO.name.length<=16
 frmP:tK x.frm.port
 toP:tK x.tO.port
 nums:∀n ∈ x.nums,tK n
theorem uS (p:vZ) (h:p.name.length<=16) (h2:tK p.port):(zG p).length<=37:=by
 unfold zG;have:=h2.2;simp;omega
def oN (b:Nat) (w0 W:World) (tx:List UInt8) (e:Ending) (w':World):Prop:=
 (∃ z,e=.returned (.tuple #[.int .i64 z,.nilIface]))/\Lib.IsBuilder 187 5 w0.heap.size b (Lib.byteCells tx) w'/\Below w0.heap.size w0 w'/\uY W w'
theorem nV (b:Nat) (w0 W:World) (s tx:List UInt8) (hb:Below w0.heap.size w0 W) (hBu:Lib.IsBuilder 187 5 w0.heap.size b (Lib.byteCells tx) W) (hs:s.length<=1000) (hl:tx.length<=2000000):
 Calls Tryz.prog 112 #[(qP b),.string (zW s)] W (oN b w0 W (tx++s)):=
 (eT w0.heap.size b (Lib.byteCells tx) (zW s) W hBu (by rw[mV,zB];omega) hb.size).mono fun _ _ ⟨he,hbu,hbe,hkk⟩=>⟨⟨_,he⟩,Or.inr (by rw[<- ZI];exact hbu),hb.trans hbe,hkk⟩
def cJ (b:Nat) (w0 W:World) (tx full:List UInt8) (e:Ending) (w':World):Prop:=
 e=.returned (.tuple #[])/\∃tx',Lib.IsBuilder 187 5 w0.heap.size b (Lib.byteCells tx') w'/\Below w0.heap.size w0 w'/\nJ tx full tx'/\tx'.length<=1048900/\uY W w'
theorem EQ (b:Nat) (w0 W:World) (x:zF) (a:Option Addr) (c:Nat) (tx:List UInt8) (hx:VI x) (hr:uZ w0 (.slice a x.nums.length c) x.nums) (ht:XO w0.heap.size w0) (hb:Below w0.heap.size w0 W) (hBu:Lib.IsBuilder 187 5 w0.heap.size b (Lib.byteCells tx) W) (hl:tx.length<=1048576) (hnl:x.nums.length<=17592186044416) (hk:x.kind=1):
 Calls Tryz.prog 114 #[(qP b),.agg (zJ x.kind x.name x.tag (.slice a x.nums.length c) x.frm x.tO x.place)] W (cJ b w0 W tx (sV x)):=by
 have HHD:sB x=[32,32,97,99,116,111,114,32]++x.name++[32,61,32]++x.tag:=by unfold sB;rw[if_pos hk]
 have HWT:sA x=[]:=by unfold sA;rw[if_neg (fun h=>by rw[hk]at h;exact absurd h.1 (by decide))]
 have HIT:sV x=sB x++sA x++uV x.nums++[59,10]:=rfl;rw[HHD,HWT]at HIT;rw[HIT];clear HIT HHD HWT;obtain ⟨-,q1,q2,q3,q4,q5,q6,q7⟩:=hx;have hpf:=uS x.frm q3 q5;have hpt:=uS x.tO q4 q6;obtain ⟨ki,nm,tg,ns,⟨fn,fp,fl⟩,⟨tn,tp,tl⟩,pl⟩:=x;unfold zJ;simp only at hk q1 q2 q3 q4 q5 q6 q7 hpf hpt hr hnl ⊢;subst hk
 have HNS:Hid (∀ (w1:World) (t1:List UInt8),Below w0.heap.size w0 w1->Lib.IsBuilder 187 5 w0.heap.size b (Lib.byteCells t1) w1->t1.length<=1048776->Calls Tryz.prog 158 #[(qP b),.slice a ns.length c] w1 fun e w'=>e=.returned (.tuple #[])/\∃tx',Lib.IsBuilder 187 5 w0.heap.size b (Lib.byteCells tx') w'/\Below w0.heap.size w0 w'/\nJ t1 (uV ns) tx'/\tx'.length<=1048800/\uY w1 w'):=fun w1 t1 h1 h2 h3=>uX b w0 w1 _ ns t1 hr ht h1 h2 q7 hnl h3
 have HEN:Hid (∀ (w1:World) (t1:List UInt8),Below w0.heap.size w0 w1->Lib.IsBuilder 187 5 w0.heap.size b (Lib.byteCells t1) w1->t1.length<=1048800->Calls Tryz.prog 112 #[(qP b),.string ⟨#[59,10]⟩] w1 (oN b w0 w1 (t1++[59,10]))):=fun w1 t1 h1 h2 h3=>nV b w0 w1 [59,10] t1 h1 h2 (by decide) (by omega)
 have hbA:=(Below.refl W.heap.size W).alloc (Nat.le_refl _) (.cells #[.int .u8 1,.string (zW nm),.string (zW tg),.slice a ns.length c,.string (zW fn),.int .i64 fp,.int .i64 fl,.string (zW tn),.int .i64 tp,.int .i64 tl,.int .i64 pl] 103);have HBA:Hid (Below w0.heap.size w0 (W.alloc (.cells #[.int .u8 1,.string (zW nm),.string (zW tg),.slice a ns.length c,.string (zW fn),.int .i64 fp,.int .i64 fl,.string (zW tn),.int .i64 tp,.int .i64 tl,.int .i64 pl] 103))):=hb.trans (hbA.mono hb.size);have HU0:=zY (wP hBu hbA);have HK0:=zY (vK hbA);have HX0:=zY (yN 103 W #[.int .u8 1,.string (zW nm),.string (zW tg),.slice a ns.length c,.string (zW fn),.int .i64 fp,.int .i64 fl,.string (zW tn),.int .i64 tp,.int .i64 tl,.int .i64 pl]);obtain ⟨HD,hHD⟩:∃HD,HD=[32,32,97,99,116,111,114,32]++nm++[32,61,32]++tg:=⟨_,rfl⟩
 have HHL:Hid (HD.length<=100):=by show _<=_;rw[hHD];simp;omega
 have HW1:Hid (∀ (w1:World),Below w0.heap.size w0 w1->Lib.IsBuilder 187 5 w0.heap.size b (Lib.byteCells tx) w1->Calls Tryz.prog 112 #[(qP b),.string (zW HD)] w1 (oN b w0 w1 (tx++HD))):=fun w1 h1 h2=>nV b w0 w1 HD tx h1 h2 (by have:=HHL.out;omega) (by omega)
 have s1b:(zW nm:ByteArray).size=(nm).length:=zB _;have j1:(⟨#[32,32,97,99,116,111,114,32]⟩:ByteArray)++zW nm=zW ([32,32,97,99,116,111,114,32]++nm):=vX _ _;have s2a:(zW ([32,32,97,99,116,111,114,32]++nm):ByteArray).size=([32,32,97,99,116,111,114,32]++nm).length:=zB _;have j2:(zW ([32,32,97,99,116,111,114,32]++nm):ByteArray)++⟨#[32,61,32]⟩=zW ([32,32,97,99,116,111,114,32]++nm++[32,61,32]):=vX _ _;have s3a:(zW ([32,32,97,99,116,111,114,32]++nm++[32,61,32]):ByteArray).size=([32,32,97,99,116,111,114,32]++nm++[32,61,32]).length:=zB _;have s3b:(zW tg:ByteArray).size=(tg).length:=zB _;have j3:(zW ([32,32,97,99,116,111,114,32]++nm++[32,61,32]):ByteArray)++zW tg=zW ([32,32,97,99,116,111,114,32]++nm++[32,61,32]++tg):=vX _ _;rw[<- hHD]at j3
 have z1:¬(9223372036854775807<8+(zW nm:ByteArray).size):=by rw[s1b];omega
 have z2:¬(9223372036854775807<(zW ([32,32,97,99,116,111,114,32]++nm)).size+3):=by rw[s2a];simp;omega
 have z3:¬(9223372036854775807<(zW ([32,32,97,99,116,111,114,32]++nm++[32,61,32])).size+(zW tg:ByteArray).size):=by rw[s3a,s3b];simp;omega
 have HHD:=zY hHD;clear s1b s2a s3a s3b hHD hpf hpt q1 q2 q3 q4 q5 q6 q7 hb hBu ht hbA hr;obtain ⟨n,hn⟩:∃n,ns.length=n:=⟨_,rfl⟩;rw[hn]at HNS HBA HU0 HK0 HX0 ⊢;clear hn;generalize zW ([32,32,97,99,116,111,114,32]++nm)=M1 at *;generalize zW ([32,32,97,99,116,111,114,32]++nm++[32,61,32])=M2 at *;generalize zW HD=M3 at *
 go_enter Tryz.func114,Tryz.ntmps114
 go_wp2_with (first
  |(go_at_call 112;(with_reducible refine (HEN.out _ _ B3.out U3.out L3.out).mono ?_);rintro e w4 ⟨⟨z4,rfl⟩,hu,hbe,hkk⟩;have B4:=zY hbe;have U4:=zY hu;have K4:=zY (K3.out.trans hkk);clear hu hbe hkk)
  |(go_at_call 158;(with_reducible refine (HNS.out _ _ B2.out U2.out (by have:=HHL.out;have:=L2.out;omega)).mono ?_);rintro e w3 ⟨rfl,t3,hu,hbe,hex,hle,hkk⟩;have B3:=zY hbe;have U3:=zY hu;have K3:=zY (K2.out.trans hkk);have X3:=zY hex;have L3:=zY hle;clear hu hbe hkk hex hle)
  |(go_at_call 112;(with_reducible refine (HW1.out _ HBA.out HU0.out).mono ?_);rintro e w2 ⟨⟨z1,rfl⟩,hu,hbe,hkk⟩;have B2:=zY hbe;have U2:=zY hu;have K2:=zY (HK0.out.trans hkk);have XB:=hkk _ _ _ (by decide) (by decide) HX0.out;have L2:Hid ((tx++HD).length<=1048690):=by { have:=HHL.out;show _<=_;simp;omega };have d3:w2.cell? ⟨W.heap.size,3,none⟩=some (.slice a n c):=XB.cell (k:=3) rfl;clear hu hbe hkk XB))
 go_end0
 refine ⟨rfl,_,U4.out,B4.out,?_,by have:=L3.out;simp;omega,K4.out⟩
 have f1:nJ tx (HD++[]) (tx++HD):=by
  have:=nJ.all tx (HD++[]);rwa[List.append_nil]at this ⊢
 have f2:=(f1.trans X3.out).trans (nJ.all t3 [59,10]);rw[HHD.out]at f2;exact f2
theorem KC (b:Nat) (w0 W:World) (x:zF) (a:Option Addr) (c:Nat) (tx:List UInt8) (hx:VI x) (hr:uZ w0 (.slice a x.nums.length c) x.nums) (ht:XO w0.heap.size w0) (hb:Below w0.heap.size w0 W) (hBu:Lib.IsBuilder 187 5 w0.heap.size b (Lib.byteCells tx) W) (hl:tx.length<=1048576) (hnl:x.nums.length<=17592186044416) (hk:x.kind=2) (hw:x.nums≠[]):
 Calls Tryz.prog 114 #[(qP b),.agg (zJ x.kind x.name x.tag (.slice a x.nums.length c) x.frm x.tO x.place)] W (cJ b w0 W tx (sV x)):=by
 have HHD:sB x=[32,32,101,100,103,101,32]++zG x.frm++[32,45,62,32]++zG x.tO:=by unfold sB;rw[if_neg (by rw[hk];decide),if_pos hk]
 have HWT:sA x=[32,119,105,116,104]:=by unfold sA;rw[if_pos ⟨hk,hw⟩]
 have HIT:sV x=sB x++sA x++uV x.nums++[59,10]:=rfl;rw[HHD,HWT]at HIT;rw[HIT];clear HIT HHD HWT;obtain ⟨-,q1,q2,q3,q4,q5,q6,q7⟩:=hx;have hpf:=uS x.frm q3 q5;have hpt:=uS x.tO q4 q6;obtain ⟨ki,nm,tg,ns,⟨fn,fp,fl⟩,⟨tn,tp,tl⟩,pl⟩:=x;unfold zJ;simp only at hk q1 q2 q3 q4 q5 q6 q7 hpf hpt hr hnl hw ⊢;subst hk
 have HNS:Hid (∀ (w1:World) (t1:List UInt8),Below w0.heap.size w0 w1->Lib.IsBuilder 187 5 w0.heap.size b (Lib.byteCells t1) w1->t1.length<=1048776->Calls Tryz.prog 158 #[(qP b),.slice a ns.length c] w1 fun e w'=>e=.returned (.tuple #[])/\∃tx',Lib.IsBuilder 187 5 w0.heap.size b (Lib.byteCells tx') w'/\Below w0.heap.size w0 w'/\nJ t1 (uV ns) tx'/\tx'.length<=1048800/\uY w1 w'):=fun w1 t1 h1 h2 h3=>uX b w0 w1 _ ns t1 hr ht h1 h2 q7 hnl h3
 have HEN:Hid (∀ (w1:World) (t1:List UInt8),Below w0.heap.size w0 w1->Lib.IsBuilder 187 5 w0.heap.size b (Lib.byteCells t1) w1->t1.length<=1048800->Calls Tryz.prog 112 #[(qP b),.string ⟨#[59,10]⟩] w1 (oN b w0 w1 (t1++[59,10]))):=fun w1 t1 h1 h2 h3=>nV b w0 w1 [59,10] t1 h1 h2 (by decide) (by omega)
 have hbA:=(Below.refl W.heap.size W).alloc (Nat.le_refl _) (.cells #[.int .u8 2,.string (zW nm),.string (zW tg),.slice a ns.length c,.string (zW fn),.int .i64 fp,.int .i64 fl,.string (zW tn),.int .i64 tp,.int .i64 tl,.int .i64 pl] 103);have HBA:Hid (Below w0.heap.size w0 (W.alloc (.cells #[.int .u8 2,.string (zW nm),.string (zW tg),.slice a ns.length c,.string (zW fn),.int .i64 fp,.int .i64 fl,.string (zW tn),.int .i64 tp,.int .i64 tl,.int .i64 pl] 103))):=hb.trans (hbA.mono hb.size);have HU0:=zY (wP hBu hbA);have HK0:=zY (vK hbA);have HX0:=zY (yN 103 W #[.int .u8 2,.string (zW nm),.string (zW tg),.slice a ns.length c,.string (zW fn),.int .i64 fp,.int .i64 fl,.string (zW tn),.int .i64 tp,.int .i64 tl,.int .i64 pl]);obtain ⟨HD,hHD⟩:∃HD,HD=[32,32,101,100,103,101,32]++(zG ⟨fn,fp,fl⟩)++[32,45,62,32]++(zG ⟨tn,tp,tl⟩):=⟨_,rfl⟩
 have HHL:Hid (HD.length<=100):=by show _<=_;rw[hHD];simp;omega
 have HW1:Hid (∀ (w1:World),Below w0.heap.size w0 w1->Lib.IsBuilder 187 5 w0.heap.size b (Lib.byteCells tx) w1->Calls Tryz.prog 112 #[(qP b),.string (zW HD)] w1 (oN b w0 w1 (tx++HD))):=fun w1 h1 h2=>nV b w0 w1 HD tx h1 h2 (by have:=HHL.out;omega) (by omega)
 have HW2:Hid (∀ (w1:World) (t1:List UInt8),Below w0.heap.size w0 w1->Lib.IsBuilder 187 5 w0.heap.size b (Lib.byteCells t1) w1->t1.length<=1048700->Calls Tryz.prog 112 #[(qP b),.string ⟨#[32,119,105,116,104]⟩] w1 (oN b w0 w1 (t1++[32,119,105,116,104]))):=fun w1 t1 h1 h2 h3=>nV b w0 w1 [32,119,105,116,104] t1 h1 h2 (by decide) (by omega)
 have HPF:Hid (∀ w1,Below w0.heap.size w0 w1->Calls Tryz.prog 157 #[.agg #[.string (zW fn),.int .i64 fp,.int .i64 fl]] w1 fun e w'=>e=.returned (.string (zW (zG ⟨fn,fp,fl⟩)))/\Below w1.heap.size w1 w'):=fun w1 h1=>uT ⟨fn,fp,fl⟩ w1 q3 q5.1 q5.2 _ w0 ht h1 h1.size
 have HPT:Hid (∀ w1,Below w0.heap.size w0 w1->Calls Tryz.prog 157 #[.agg #[.string (zW tn),.int .i64 tp,.int .i64 tl]] w1 fun e w'=>e=.returned (.string (zW (zG ⟨tn,tp,tl⟩)))/\Below w1.heap.size w1 w'):=fun w1 h1=>uT ⟨tn,tp,tl⟩ w1 q4 q6.1 q6.2 _ w0 ht h1 h1.size
 have s1b:(zW (zG ⟨fn,fp,fl⟩):ByteArray).size=(zG ⟨fn,fp,fl⟩).length:=zB _;have j1:(⟨#[32,32,101,100,103,101,32]⟩:ByteArray)++zW (zG ⟨fn,fp,fl⟩)=zW ([32,32,101,100,103,101,32]++(zG ⟨fn,fp,fl⟩)):=vX _ _;have s2a:(zW ([32,32,101,100,103,101,32]++(zG ⟨fn,fp,fl⟩)):ByteArray).size=([32,32,101,100,103,101,32]++(zG ⟨fn,fp,fl⟩)).length:=zB _;have j2:(zW ([32,32,101,100,103,101,32]++(zG ⟨fn,fp,fl⟩)):ByteArray)++⟨#[32,45,62,32]⟩=zW ([32,32,101,100,103,101,32]++(zG ⟨fn,fp,fl⟩)++[32,45,62,32]):=vX _ _;have s3a:(zW ([32,32,101,100,103,101,32]++(zG ⟨fn,fp,fl⟩)++[32,45,62,32]):ByteArray).size=([32,32,101,100,103,101,32]++(zG ⟨fn,fp,fl⟩)++[32,45,62,32]).length:=zB _;have s3b:(zW (zG ⟨tn,tp,tl⟩):ByteArray).size=(zG ⟨tn,tp,tl⟩).length:=zB _;have j3:(zW ([32,32,101,100,103,101,32]++(zG ⟨fn,fp,fl⟩)++[32,45,62,32]):ByteArray)++zW (zG ⟨tn,tp,tl⟩)=zW ([32,32,101,100,103,101,32]++(zG ⟨fn,fp,fl⟩)++[32,45,62,32]++(zG ⟨tn,tp,tl⟩)):=vX _ _;rw[<- hHD]at j3
 have z1:¬(9223372036854775807<7+(zW (zG ⟨fn,fp,fl⟩):ByteArray).size):=by rw[s1b];omega
 have z2:¬(9223372036854775807<(zW ([32,32,101,100,103,101,32]++(zG ⟨fn,fp,fl⟩))).size+4):=by rw[s2a];simp;omega
 have z3:¬(9223372036854775807<(zW ([32,32,101,100,103,101,32]++(zG ⟨fn,fp,fl⟩)++[32,45,62,32])).size+(zW (zG ⟨tn,tp,tl⟩):ByteArray).size):=by rw[s3a,s3b];simp;omega
 have HHD:=zY hHD;clear s1b s2a s3a s3b hHD hpf hpt q1 q2 q3 q4 q5 q6 q7 hb hBu ht hbA hr;obtain ⟨n,hn⟩:∃n,ns.length=n:=⟨_,rfl⟩
 have hn0:(0:Int)<(n:Int):=by have:0<ns.length:=List.length_pos_iff.2 hw;omega
 rw[hn]at HNS HBA HU0 HK0 HX0 ⊢;clear hn hw;generalize zW ([32,32,101,100,103,101,32]++(zG ⟨fn,fp,fl⟩))=M1 at *;generalize zW ([32,32,101,100,103,101,32]++(zG ⟨fn,fp,fl⟩)++[32,45,62,32])=M2 at *;generalize zW HD=M3 at *
 go_enter Tryz.func114,Tryz.ntmps114
 go_wp2
 refine yP [10] (fun d i u z=>match i with
  |0=>z=(qP b)
  |1=>z=.pointer (some ⟨W.heap.size,4,none⟩)
  |2=>z=.agg #[.string (zW fn),.int .i64 fp,.int .i64 fl]
  |3=>z=.string (zW (zG ⟨fn,fp,fl⟩))
  |4=>z=.string M1
  |5=>z=.string M2
  |6=>z=.pointer (some ⟨W.heap.size,7,none⟩)
  |7=>z=.agg #[.string (zW tn),.int .i64 tp,.int .i64 tl]
  |8=>z=.string (zW (zG ⟨tn,tp,tl⟩))
  |9=>z=.string M3
  |10=>True
  |_=>True) (fun d u=>xZ 103 W.heap.size u #[.int .u8 2,.string (zW nm),.string (zW tg),.slice a n c,.string (zW fn),.int .i64 fp,.int .i64 fl,.string (zW tn),.int .i64 tp,.int .i64 tl,.int .i64 pl]/\Below w0.heap.size w0 u/\(d 10=false->Lib.IsBuilder 187 5 w0.heap.size b (Lib.byteCells tx) u)/\(d 10=true->Lib.IsBuilder 187 5 w0.heap.size b (Lib.byteCells (tx++HD)) u)/\uY W u) (by kernel_rfl) (by kernel_rfl) (by kernel_rfl) ?_ ?_ ?_ ?_ ?_ ?_ (by kernel_rfl)
 ·intro d i w v w' h hb
  match i,h with
  |0,h=>exact h
  |1,h=>exact h
  |2,h=>exact h
  |3,h=>exact h
  |4,h=>exact h
  |5,h=>exact h
  |6,h=>exact h
  |7,h=>exact h
  |8,h=>exact h
  |9,h=>exact h
  |10,h=>exact h
  |_+11,_=>trivial
 ·intro d u u' h hb
  exact ⟨h.1.below hb,h.2.1.trans (hb.mono h.2.1.size),fun h1=>wP (h.2.2.1 h1) hb,fun h1=>wP (h.2.2.2.1 h1) hb,h.2.2.2.2.trans (vK hb)⟩
 ·exact ⟨HX0.out,HBA.out,fun _=>HU0.out,fun h=>qD h,HK0.out⟩
 ·intro d i o ρ w' hm ho hf hg hC hcs hfs hfr zX
  match i,hm,ho,hf,hg,hfr,zX with
  |0,_,ho,hf,hg,hfr,zX=>
   simp only[qS]at ho;subst ho;refine ⟨fun _=>?_,qF⟩
   have ts: ρ (.tmp 0)=(qP b):=(qR hfr 0);simp[go_sem,ts];exact qB
  |1,_,ho,hf,hg,hfr,zX=>
   simp only[qS]at ho;subst ho;refine ⟨fun _=>?_,qF⟩
   have tq: ρ (.tmp 3)=(qP W.heap.size):=(qR hfr 3);simp[go_sem,tq];exact qB
  |2,_,ho,hf,hg,hfr,zX=>
   simp only[qS]at ho;subst ho;refine ⟨fun _=>?_,qF⟩
   have tq: ρ (.tmp 20)=.pointer (some ⟨W.heap.size,4,none⟩):=(qH zX 1 20);have c0:w'.cell? ⟨W.heap.size,4,none⟩=some (.string (zW fn)):=hC.1.cell (k:=4) rfl;have c1:w'.cell? ⟨W.heap.size,5,none⟩=some (.int .i64 fp):=hC.1.cell (k:=5) rfl;have c2:w'.cell? ⟨W.heap.size,6,none⟩=some (.int .i64 fl):=hC.1.cell (k:=6) rfl;simp[go_sem,tq,c0,c1,c2];exact qB
  |3,_,ho,hf,hg,hfr,zX=>
   simp only[qS]at ho;subst ho;refine ⟨fun _=>?_,qF⟩
   have tq: ρ (.tmp 21)=.agg #[.string (zW fn),.int .i64 fp,.int .i64 fl]:=(qH zX 2 21);simp[go_sem,tq,hfs];exact ⟨rfl,(HPF.out w' hC.2.1).mono fun e u h=>⟨_,h.1,h.2,rfl⟩⟩
  |4,_,ho,hf,hg,hfr,zX=>
   simp only[qS]at ho;subst ho;refine ⟨fun _=>?_,qF⟩
   have d0: ρ (.tmp 22)=.string (zW (zG ⟨fn,fp,fl⟩)):=(qH zX 3 22);simp[go_sem,hcs,d0,z1,j1];exact qB
  |5,_,ho,hf,hg,hfr,zX=>
   simp only[qS]at ho;subst ho;refine ⟨fun _=>?_,qF⟩
   have d0: ρ (.tmp 23)=.string (M1):=(qH zX 4 23);simp[go_sem,hcs,d0,z2,j2];exact qB
  |6,_,ho,hf,hg,hfr,zX=>
   simp only[qS]at ho;subst ho;refine ⟨fun _=>?_,qF⟩
   have tq: ρ (.tmp 3)=(qP W.heap.size):=(qR hfr 3);simp[go_sem,tq];exact qB
  |7,_,ho,hf,hg,hfr,zX=>
   simp only[qS]at ho;subst ho;refine ⟨fun _=>?_,qF⟩
   have tq: ρ (.tmp 25)=.pointer (some ⟨W.heap.size,7,none⟩):=(qH zX 6 25);have c0:w'.cell? ⟨W.heap.size,7,none⟩=some (.string (zW tn)):=hC.1.cell (k:=7) rfl;have c1:w'.cell? ⟨W.heap.size,8,none⟩=some (.int .i64 tp):=hC.1.cell (k:=8) rfl;have c2:w'.cell? ⟨W.heap.size,9,none⟩=some (.int .i64 tl):=hC.1.cell (k:=9) rfl;simp[go_sem,tq,c0,c1,c2];exact qB
  |8,_,ho,hf,hg,hfr,zX=>
   simp only[qS]at ho;subst ho;refine ⟨fun _=>?_,qF⟩
   have tq: ρ (.tmp 26)=.agg #[.string (zW tn),.int .i64 tp,.int .i64 tl]:=(qH zX 7 26);simp[go_sem,tq,hfs];exact ⟨rfl,(HPT.out w' hC.2.1).mono fun e u h=>⟨_,h.1,h.2,rfl⟩⟩
  |9,_,ho,hf,hg,hfr,zX=>
   simp only[qS]at ho;subst ho;refine ⟨fun _=>?_,qF⟩
   have d0: ρ (.tmp 24)=.string (M2):=(qH zX 5 24);have d1: ρ (.tmp 27)=.string (zW (zG ⟨tn,tp,tl⟩)):=(qH zX 8 27);simp[go_sem,d0,d1,z3,j3];exact qB
  |10,hm,_,_,_,_,_=>exact qD hm
  |n+11,_,ho,_,_,_,_=>simp at ho
 ·intro d i o ρ w' hm ho h0 hf hg hC hcs hfs hfr zX
  match i,hm,ho,h0,hf,hg,hfr,zX with
  |0,hm,_,_,_,_,_,_=>exact qD hm
  |1,hm,_,_,_,_,_,_=>exact qD hm
  |2,hm,_,_,_,_,_,_=>exact qD hm
  |3,hm,_,_,_,_,_,_=>exact qD hm
  |4,hm,_,_,_,_,_,_=>exact qD hm
  |5,hm,_,_,_,_,_,_=>exact qD hm
  |6,hm,_,_,_,_,_,_=>exact qD hm
  |7,hm,_,_,_,_,_,_=>exact qD hm
  |8,hm,_,_,_,_,_,_=>exact qD hm
  |9,hm,_,_,_,_,_,_=>exact qD hm
  |10,_,ho,h0,hf,hg,hfr,zX=>
   simp only[qS]at ho;subst ho;refine ⟨rfl,?_⟩
   have t1: ρ (.tmp 19)=(qP b):=(qH zX 0 19);have t2: ρ (.tmp 28)=.string M3:=(qH zX 9 28);simp[go_sem,t1,t2,hfs];refine ⟨rfl,(HW1.out _ hC.2.1 (hC.2.2.1 h0)).mono ?_⟩
   rintro e u ⟨⟨z,rfl⟩,hbu,hbe,hkk⟩
   exact ⟨_,rfl,hkk _ _ _ (by decide) (by decide) hC.1,hbe,fun h=>absurd h (by simp[zA]),fun _=>hbu,hC.2.2.2.2.trans hkk⟩
  |n+11,_,ho,_,_,_,_,_=>simp at ho
 intro V w9 hC9 hS;simp only[xA];simp only[Act.put,qU];clear hS;have B1:=zY hC9.2.1;have U1:=zY (hC9.2.2.2.1 rfl);have K1:=zY hC9.2.2.2.2;have X1:=zY hC9.1;have d3':w9.cell? ⟨W.heap.size,3,none⟩=some (.slice a n c):=hC9.1.cell (k:=3) rfl;clear hC9
 go_wp2_with (first
  |(go_at_call 112;(with_reducible refine (HEN.out _ _ B3.out U3.out L3.out).mono ?_);rintro e w4 ⟨⟨z4,rfl⟩,hu,hbe,hkk⟩;have B4:=zY hbe;have U4:=zY hu;have K4:=zY (K3.out.trans hkk);clear hu hbe hkk)
  |(go_at_call 158;(with_reducible refine (HNS.out _ _ B2.out U2.out (by have:=HHL.out;have:=L2.out;omega)).mono ?_);rintro e w3 ⟨rfl,t3,hu,hbe,hex,hle,hkk⟩;have B3:=zY hbe;have U3:=zY hu;have K3:=zY (K2.out.trans hkk);have X3:=zY hex;have L3:=zY hle;clear hu hbe hkk hex hle)
  |(go_at_call 112;(with_reducible refine (HW2.out _ _ B1.out U1.out (by have:=HHL.out;simp;omega)).mono ?_);rintro e w2 ⟨⟨z2,rfl⟩,hu,hbe,hkk⟩;have B2:=zY hbe;have U2:=zY hu;have K2:=zY (K1.out.trans hkk);have XB:=hkk _ _ _ (by decide) (by decide) X1.out;have L2:Hid ((tx++HD++[32,119,105,116,104]).length<=1048690):=by { have:=HHL.out;show _<=_;simp;omega };have d3:w2.cell? ⟨W.heap.size,3,none⟩=some (.slice a n c):=XB.cell (k:=3) rfl;clear hu hbe hkk XB))
 go_end0
 refine ⟨rfl,_,U4.out,B4.out,?_,by have:=L3.out;simp;omega,K4.out⟩
 have f1:nJ tx (HD++[32,119,105,116,104]) (tx++HD++[32,119,105,116,104]):=by
  have:=nJ.all tx (HD++[32,119,105,116,104]);rwa[<- List.append_assoc]at this
 have f2:=(f1.trans X3.out).trans (nJ.all t3 [59,10]);rw[HHD.out]at f2;exact f2
theorem KB (b:Nat) (w0 W:World) (x:zF) (a:Option Addr) (c:Nat) (tx:List UInt8) (hx:VI x) (hr:uZ w0 (.slice a x.nums.length c) x.nums) (ht:XO w0.heap.size w0) (hb:Below w0.heap.size w0 W) (hBu:Lib.IsBuilder 187 5 w0.heap.size b (Lib.byteCells tx) W) (hl:tx.length<=1048576) (hnl:x.nums.length<=17592186044416) (hk:x.kind=2) (hw:x.nums=[]):
 Calls Tryz.prog 114 #[(qP b),.agg (zJ x.kind x.name x.tag (.slice a x.nums.length c) x.frm x.tO x.place)] W (cJ b w0 W tx (sV x)):=by
 have HHD:sB x=[32,32,101,100,103,101,32]++zG x.frm++[32,45,62,32]++zG x.tO:=by unfold sB;rw[if_neg (by rw[hk];decide),if_pos hk]
 have HWT:sA x=[]:=by unfold sA;rw[if_neg (fun h=>h.2 hw)]
 have HIT:sV x=sB x++sA x++uV x.nums++[59,10]:=rfl;rw[HHD,HWT]at HIT;rw[HIT];clear HIT HHD HWT;obtain ⟨-,q1,q2,q3,q4,q5,q6,q7⟩:=hx;have hpf:=uS x.frm q3 q5;have hpt:=uS x.tO q4 q6;obtain ⟨ki,nm,tg,ns,⟨fn,fp,fl⟩,⟨tn,tp,tl⟩,pl⟩:=x;unfold zJ;simp only at hk q1 q2 q3 q4 q5 q6 q7 hpf hpt hr hnl hw ⊢;subst hk
 have HNS:Hid (∀ (w1:World) (t1:List UInt8),Below w0.heap.size w0 w1->Lib.IsBuilder 187 5 w0.heap.size b (Lib.byteCells t1) w1->t1.length<=1048776->Calls Tryz.prog 158 #[(qP b),.slice a ns.length c] w1 fun e w'=>e=.returned (.tuple #[])/\∃tx',Lib.IsBuilder 187 5 w0.heap.size b (Lib.byteCells tx') w'/\Below w0.heap.size w0 w'/\nJ t1 (uV ns) tx'/\tx'.length<=1048800/\uY w1 w'):=fun w1 t1 h1 h2 h3=>uX b w0 w1 _ ns t1 hr ht h1 h2 q7 hnl h3
 have HEN:Hid (∀ (w1:World) (t1:List UInt8),Below w0.heap.size w0 w1->Lib.IsBuilder 187 5 w0.heap.size b (Lib.byteCells t1) w1->t1.length<=1048800->Calls Tryz.prog 112 #[(qP b),.string ⟨#[59,10]⟩] w1 (oN b w0 w1 (t1++[59,10]))):=fun w1 t1 h1 h2 h3=>nV b w0 w1 [59,10] t1 h1 h2 (by decide) (by omega)
 have hbA:=(Below.refl W.heap.size W).alloc (Nat.le_refl _) (.cells #[.int .u8 2,.string (zW nm),.string (zW tg),.slice a ns.length c,.string (zW fn),.int .i64 fp,.int .i64 fl,.string (zW tn),.int .i64 tp,.int .i64 tl,.int .i64 pl] 103);have HBA:Hid (Below w0.heap.size w0 (W.alloc (.cells #[.int .u8 2,.string (zW nm),.string (zW tg),.slice a ns.length c,.string (zW fn),.int .i64 fp,.int .i64 fl,.string (zW tn),.int .i64 tp,.int .i64 tl,.int .i64 pl] 103))):=hb.trans (hbA.mono hb.size);have HU0:=zY (wP hBu hbA);have HK0:=zY (vK hbA);have HX0:=zY (yN 103 W #[.int .u8 2,.string (zW nm),.string (zW tg),.slice a ns.length c,.string (zW fn),.int .i64 fp,.int .i64 fl,.string (zW tn),.int .i64 tp,.int .i64 tl,.int .i64 pl]);obtain ⟨HD,hHD⟩:∃HD,HD=[32,32,101,100,103,101,32]++(zG ⟨fn,fp,fl⟩)++[32,45,62,32]++(zG ⟨tn,tp,tl⟩):=⟨_,rfl⟩
 have HHL:Hid (HD.length<=100):=by show _<=_;rw[hHD];simp;omega
 have HW1:Hid (∀ (w1:World),Below w0.heap.size w0 w1->Lib.IsBuilder 187 5 w0.heap.size b (Lib.byteCells tx) w1->Calls Tryz.prog 112 #[(qP b),.string (zW HD)] w1 (oN b w0 w1 (tx++HD))):=fun w1 h1 h2=>nV b w0 w1 HD tx h1 h2 (by have:=HHL.out;omega) (by omega)
 have HPF:Hid (∀ w1,Below w0.heap.size w0 w1->Calls Tryz.prog 157 #[.agg #[.string (zW fn),.int .i64 fp,.int .i64 fl]] w1 fun e w'=>e=.returned (.string (zW (zG ⟨fn,fp,fl⟩)))/\Below w1.heap.size w1 w'):=fun w1 h1=>uT ⟨fn,fp,fl⟩ w1 q3 q5.1 q5.2 _ w0 ht h1 h1.size
 have HPT:Hid (∀ w1,Below w0.heap.size w0 w1->Calls Tryz.prog 157 #[.agg #[.string (zW tn),.int .i64 tp,.int .i64 tl]] w1 fun e w'=>e=.returned (.string (zW (zG ⟨tn,tp,tl⟩)))/\Below w1.heap.size w1 w'):=fun w1 h1=>uT ⟨tn,tp,tl⟩ w1 q4 q6.1 q6.2 _ w0 ht h1 h1.size
 have s1b:(zW (zG ⟨fn,fp,fl⟩):ByteArray).size=(zG ⟨fn,fp,fl⟩).length:=zB _;have j1:(⟨#[32,32,101,100,103,101,32]⟩:ByteArray)++zW (zG ⟨fn,fp,fl⟩)=zW ([32,32,101,100,103,101,32]++(zG ⟨fn,fp,fl⟩)):=vX _ _;have s2a:(zW ([32,32,101,100,103,101,32]++(zG ⟨fn,fp,fl⟩)):ByteArray).size=([32,32,101,100,103,101,32]++(zG ⟨fn,fp,fl⟩)).length:=zB _;have j2:(zW ([32,32,101,100,103,101,32]++(zG ⟨fn,fp,fl⟩)):ByteArray)++⟨#[32,45,62,32]⟩=zW ([32,32,101,100,103,101,32]++(zG ⟨fn,fp,fl⟩)++[32,45,62,32]):=vX _ _;have s3a:(zW ([32,32,101,100,103,101,32]++(zG ⟨fn,fp,fl⟩)++[32,45,62,32]):ByteArray).size=([32,32,101,100,103,101,32]++(zG ⟨fn,fp,fl⟩)++[32,45,62,32]).length:=zB _;have s3b:(zW (zG ⟨tn,tp,tl⟩):ByteArray).size=(zG ⟨tn,tp,tl⟩).length:=zB _;have j3:(zW ([32,32,101,100,103,101,32]++(zG ⟨fn,fp,fl⟩)++[32,45,62,32]):ByteArray)++zW (zG ⟨tn,tp,tl⟩)=zW ([32,32,101,100,103,101,32]++(zG ⟨fn,fp,fl⟩)++[32,45,62,32]++(zG ⟨tn,tp,tl⟩)):=vX _ _;rw[<- hHD]at j3
 have z1:¬(9223372036854775807<7+(zW (zG ⟨fn,fp,fl⟩):ByteArray).size):=by rw[s1b];omega
 have z2:¬(9223372036854775807<(zW ([32,32,101,100,103,101,32]++(zG ⟨fn,fp,fl⟩))).size+4):=by rw[s2a];simp;omega
 have z3:¬(9223372036854775807<(zW ([32,32,101,100,103,101,32]++(zG ⟨fn,fp,fl⟩)++[32,45,62,32])).size+(zW (zG ⟨tn,tp,tl⟩):ByteArray).size):=by rw[s3a,s3b];simp;omega
 have HHD:=zY hHD;clear s1b s2a s3a s3b hHD hpf hpt q1 q2 q3 q4 q5 q6 q7 hb hBu ht hbA hr;obtain ⟨n,hn⟩:∃n,ns.length=n:=⟨_,rfl⟩
 have hn0:¬((0:Int)<(n:Int)):=by rw[hw]at hn;simp at hn;omega
 rw[hn]at HNS HBA HU0 HK0 HX0 ⊢;clear hn hw;generalize zW ([32,32,101,100,103,101,32]++(zG ⟨fn,fp,fl⟩))=M1 at *;generalize zW ([32,32,101,100,103,101,32]++(zG ⟨fn,fp,fl⟩)++[32,45,62,32])=M2 at *;generalize zW HD=M3 at *
 go_enter Tryz.func114,Tryz.ntmps114
 go_wp2
 refine yP [10] (fun d i u z=>match i with
  |0=>z=(qP b)
  |1=>z=.pointer (some ⟨W.heap.size,4,none⟩)
  |2=>z=.agg #[.string (zW fn),.int .i64 fp,.int .i64 fl]
  |3=>z=.string (zW (zG ⟨fn,fp,fl⟩))
  |4=>z=.string M1
  |5=>z=.string M2
  |6=>z=.pointer (some ⟨W.heap.size,7,none⟩)
  |7=>z=.agg #[.string (zW tn),.int .i64 tp,.int .i64 tl]
  |8=>z=.string (zW (zG ⟨tn,tp,tl⟩))
  |9=>z=.string M3
  |10=>True
  |_=>True) (fun d u=>xZ 103 W.heap.size u #[.int .u8 2,.string (zW nm),.string (zW tg),.slice a n c,.string (zW fn),.int .i64 fp,.int .i64 fl,.string (zW tn),.int .i64 tp,.int .i64 tl,.int .i64 pl]/\Below w0.heap.size w0 u/\(d 10=false->Lib.IsBuilder 187 5 w0.heap.size b (Lib.byteCells tx) u)/\(d 10=true->Lib.IsBuilder 187 5 w0.heap.size b (Lib.byteCells (tx++HD)) u)/\uY W u) (by kernel_rfl) (by kernel_rfl) (by kernel_rfl) ?_ ?_ ?_ ?_ ?_ ?_ (by kernel_rfl)
 ·intro d i w v w' h hb
  match i,h with
  |0,h=>exact h
  |1,h=>exact h
  |2,h=>exact h
  |3,h=>exact h
  |4,h=>exact h
  |5,h=>exact h
  |6,h=>exact h
  |7,h=>exact h
  |8,h=>exact h
  |9,h=>exact h
  |10,h=>exact h
  |_+11,_=>trivial
 ·intro d u u' h hb
  exact ⟨h.1.below hb,h.2.1.trans (hb.mono h.2.1.size),fun h1=>wP (h.2.2.1 h1) hb,fun h1=>wP (h.2.2.2.1 h1) hb,h.2.2.2.2.trans (vK hb)⟩
 ·exact ⟨HX0.out,HBA.out,fun _=>HU0.out,fun h=>qD h,HK0.out⟩
 ·intro d i o ρ w' hm ho hf hg hC hcs hfs hfr zX
  match i,hm,ho,hf,hg,hfr,zX with
  |0,_,ho,hf,hg,hfr,zX=>
   simp only[qS]at ho;subst ho;refine ⟨fun _=>?_,qF⟩
   have ts: ρ (.tmp 0)=(qP b):=(qR hfr 0);simp[go_sem,ts];exact qB
  |1,_,ho,hf,hg,hfr,zX=>
   simp only[qS]at ho;subst ho;refine ⟨fun _=>?_,qF⟩
   have tq: ρ (.tmp 3)=(qP W.heap.size):=(qR hfr 3);simp[go_sem,tq];exact qB
  |2,_,ho,hf,hg,hfr,zX=>
   simp only[qS]at ho;subst ho;refine ⟨fun _=>?_,qF⟩
   have tq: ρ (.tmp 20)=.pointer (some ⟨W.heap.size,4,none⟩):=(qH zX 1 20);have c0:w'.cell? ⟨W.heap.size,4,none⟩=some (.string (zW fn)):=hC.1.cell (k:=4) rfl;have c1:w'.cell? ⟨W.heap.size,5,none⟩=some (.int .i64 fp):=hC.1.cell (k:=5) rfl;have c2:w'.cell? ⟨W.heap.size,6,none⟩=some (.int .i64 fl):=hC.1.cell (k:=6) rfl;simp[go_sem,tq,c0,c1,c2];exact qB
  |3,_,ho,hf,hg,hfr,zX=>
   simp only[qS]at ho;subst ho;refine ⟨fun _=>?_,qF⟩
   have tq: ρ (.tmp 21)=.agg #[.string (zW fn),.int .i64 fp,.int .i64 fl]:=(qH zX 2 21);simp[go_sem,tq,hfs];exact ⟨rfl,(HPF.out w' hC.2.1).mono fun e u h=>⟨_,h.1,h.2,rfl⟩⟩
  |4,_,ho,hf,hg,hfr,zX=>
   simp only[qS]at ho;subst ho;refine ⟨fun _=>?_,qF⟩
   have d0: ρ (.tmp 22)=.string (zW (zG ⟨fn,fp,fl⟩)):=(qH zX 3 22);simp[go_sem,hcs,d0,z1,j1];exact qB
  |5,_,ho,hf,hg,hfr,zX=>
   simp only[qS]at ho;subst ho;refine ⟨fun _=>?_,qF⟩
   have d0: ρ (.tmp 23)=.string (M1):=(qH zX 4 23);simp[go_sem,hcs,d0,z2,j2];exact qB
  |6,_,ho,hf,hg,hfr,zX=>
   simp only[qS]at ho;subst ho;refine ⟨fun _=>?_,qF⟩
   have tq: ρ (.tmp 3)=(qP W.heap.size):=(qR hfr 3);simp[go_sem,tq];exact qB
  |7,_,ho,hf,hg,hfr,zX=>
   simp only[qS]at ho;subst ho;refine ⟨fun _=>?_,qF⟩
   have tq: ρ (.tmp 25)=.pointer (some ⟨W.heap.size,7,none⟩):=(qH zX 6 25);have c0:w'.cell? ⟨W.heap.size,7,none⟩=some (.string (zW tn)):=hC.1.cell (k:=7) rfl;have c1:w'.cell? ⟨W.heap.size,8,none⟩=some (.int .i64 tp):=hC.1.cell (k:=8) rfl;have c2:w'.cell? ⟨W.heap.size,9,none⟩=some (.int .i64 tl):=hC.1.cell (k:=9) rfl;simp[go_sem,tq,c0,c1,c2];exact qB
  |8,_,ho,hf,hg,hfr,zX=>
   simp only[qS]at ho;subst ho;refine ⟨fun _=>?_,qF⟩
   have tq: ρ (.tmp 26)=.agg #[.string (zW tn),.int .i64 tp,.int .i64 tl]:=(qH zX 7 26);simp[go_sem,tq,hfs];exact ⟨rfl,(HPT.out w' hC.2.1).mono fun e u h=>⟨_,h.1,h.2,rfl⟩⟩
  |9,_,ho,hf,hg,hfr,zX=>
   simp only[qS]at ho;subst ho;refine ⟨fun _=>?_,qF⟩
   have d0: ρ (.tmp 24)=.string (M2):=(qH zX 5 24);have d1: ρ (.tmp 27)=.string (zW (zG ⟨tn,tp,tl⟩)):=(qH zX 8 27);simp[go_sem,d0,d1,z3,j3];exact qB
  |10,hm,_,_,_,_,_=>exact qD hm
  |n+11,_,ho,_,_,_,_=>simp at ho
 ·intro d i o ρ w' hm ho h0 hf hg hC hcs hfs hfr zX
  match i,hm,ho,h0,hf,hg,hfr,zX with
  |0,hm,_,_,_,_,_,_=>exact qD hm
  |1,hm,_,_,_,_,_,_=>exact qD hm
  |2,hm,_,_,_,_,_,_=>exact qD hm
  |3,hm,_,_,_,_,_,_=>exact qD hm
  |4,hm,_,_,_,_,_,_=>exact qD hm
  |5,hm,_,_,_,_,_,_=>exact qD hm
  |6,hm,_,_,_,_,_,_=>exact qD hm
  |7,hm,_,_,_,_,_,_=>exact qD hm
  |8,hm,_,_,_,_,_,_=>exact qD hm
  |9,hm,_,_,_,_,_,_=>exact qD hm
  |10,_,ho,h0,hf,hg,hfr,zX=>
   simp only[qS]at ho;subst ho;refine ⟨rfl,?_⟩
   have t1: ρ (.tmp 19)=(qP b):=(qH zX 0 19);have t2: ρ (.tmp 28)=.string M3:=(qH zX 9 28);simp[go_sem,t1,t2,hfs];refine ⟨rfl,(HW1.out _ hC.2.1 (hC.2.2.1 h0)).mono ?_⟩
   rintro e u ⟨⟨z,rfl⟩,hbu,hbe,hkk⟩
   exact ⟨_,rfl,hkk _ _ _ (by decide) (by decide) hC.1,hbe,fun h=>absurd h (by simp[zA]),fun _=>hbu,hC.2.2.2.2.trans hkk⟩
  |n+11,_,ho,_,_,_,_,_=>simp at ho
 intro V w9 hC9 hS;simp only[xA];simp only[Act.put,qU];clear hS;have B2:=zY hC9.2.1;have U2:=zY (hC9.2.2.2.1 rfl);have K2:=zY hC9.2.2.2.2;have d3:w9.cell? ⟨W.heap.size,3,none⟩=some (.slice a n c):=hC9.1.cell (k:=3) rfl
 have L2:Hid ((tx++HD).length<=1048690):=by have:=HHL.out;show _<=_;simp;omega
 clear hC9
 go_wp2_with (first
  |(go_at_call 112;(with_reducible refine (HEN.out _ _ B3.out U3.out L3.out).mono ?_);rintro e w4 ⟨⟨z4,rfl⟩,hu,hbe,hkk⟩;have B4:=zY hbe;have U4:=zY hu;have K4:=zY (K3.out.trans hkk);clear hu hbe hkk)
  |(go_at_call 158;(with_reducible refine (HNS.out _ _ B2.out U2.out (by have:=HHL.out;have:=L2.out;omega)).mono ?_);rintro e w3 ⟨rfl,t3,hu,hbe,hex,hle,hkk⟩;have B3:=zY hbe;have U3:=zY hu;have K3:=zY (K2.out.trans hkk);have X3:=zY hex;have L3:=zY hle;clear hu hbe hkk hex hle))
 go_end0
 refine ⟨rfl,_,U4.out,B4.out,?_,by have:=L3.out;simp;omega,K4.out⟩
 have f1:nJ tx (HD++[]) (tx++HD):=by
  have:=nJ.all tx (HD++[]);rwa[List.append_nil]at this ⊢
 have f2:=(f1.trans X3.out).trans (nJ.all t3 [59,10]);rw[HHD.out]at f2;exact f2
theorem EP (b:Nat) (w0 W:World) (x:zF) (a:Option Addr) (c:Nat) (tx:List UInt8) (hx:VI x) (hr:uZ w0 (.slice a x.nums.length c) x.nums) (ht:XO w0.heap.size w0) (hb:Below w0.heap.size w0 W) (hBu:Lib.IsBuilder 187 5 w0.heap.size b (Lib.byteCells tx) W) (hl:tx.length<=1048576) (hnl:x.nums.length<=17592186044416) (hk:x.kind=3):
 Calls Tryz.prog 114 #[(qP b),.agg (zJ x.kind x.name x.tag (.slice a x.nums.length c) x.frm x.tO x.place)] W (cJ b w0 W tx (sV x)):=by
 have HHD:sB x=[32,32,105,110,32]++x.name++[32,45,62,32]++zG x.tO:=by unfold sB;rw[if_neg (by rw[hk];decide),if_neg (by rw[hk];decide),if_pos hk]
 have HWT:sA x=[]:=by unfold sA;rw[if_neg (fun h=>by rw[hk]at h;exact absurd h.1 (by decide))]
 have HIT:sV x=sB x++sA x++uV x.nums++[59,10]:=rfl;rw[HHD,HWT]at HIT;rw[HIT];clear HIT HHD HWT;obtain ⟨-,q1,q2,q3,q4,q5,q6,q7⟩:=hx;have hpf:=uS x.frm q3 q5;have hpt:=uS x.tO q4 q6;obtain ⟨ki,nm,tg,ns,⟨fn,fp,fl⟩,⟨tn,tp,tl⟩,pl⟩:=x;unfold zJ;simp only at hk q1 q2 q3 q4 q5 q6 q7 hpf hpt hr hnl ⊢;subst hk
 have HNS:Hid (∀ (w1:World) (t1:List UInt8),Below w0.heap.size w0 w1->Lib.IsBuilder 187 5 w0.heap.size b (Lib.byteCells t1) w1->t1.length<=1048776->Calls Tryz.prog 158 #[(qP b),.slice a ns.length c] w1 fun e w'=>e=.returned (.tuple #[])/\∃tx',Lib.IsBuilder 187 5 w0.heap.size b (Lib.byteCells tx') w'/\Below w0.heap.size w0 w'/\nJ t1 (uV ns) tx'/\tx'.length<=1048800/\uY w1 w'):=fun w1 t1 h1 h2 h3=>uX b w0 w1 _ ns t1 hr ht h1 h2 q7 hnl h3
 have HEN:Hid (∀ (w1:World) (t1:List UInt8),Below w0.heap.size w0 w1->Lib.IsBuilder 187 5 w0.heap.size b (Lib.byteCells t1) w1->t1.length<=1048800->Calls Tryz.prog 112 #[(qP b),.string ⟨#[59,10]⟩] w1 (oN b w0 w1 (t1++[59,10]))):=fun w1 t1 h1 h2 h3=>nV b w0 w1 [59,10] t1 h1 h2 (by decide) (by omega)
 have hbA:=(Below.refl W.heap.size W).alloc (Nat.le_refl _) (.cells #[.int .u8 3,.string (zW nm),.string (zW tg),.slice a ns.length c,.string (zW fn),.int .i64 fp,.int .i64 fl,.string (zW tn),.int .i64 tp,.int .i64 tl,.int .i64 pl] 103);have HBA:Hid (Below w0.heap.size w0 (W.alloc (.cells #[.int .u8 3,.string (zW nm),.string (zW tg),.slice a ns.length c,.string (zW fn),.int .i64 fp,.int .i64 fl,.string (zW tn),.int .i64 tp,.int .i64 tl,.int .i64 pl] 103))):=hb.trans (hbA.mono hb.size);have HU0:=zY (wP hBu hbA);have HK0:=zY (vK hbA);have HX0:=zY (yN 103 W #[.int .u8 3,.string (zW nm),.string (zW tg),.slice a ns.length c,.string (zW fn),.int .i64 fp,.int .i64 fl,.string (zW tn),.int .i64 tp,.int .i64 tl,.int .i64 pl]);obtain ⟨HD,hHD⟩:∃HD,HD=[32,32,105,110,32]++nm++[32,45,62,32]++(zG ⟨tn,tp,tl⟩):=⟨_,rfl⟩
 have HHL:Hid (HD.length<=100):=by show _<=_;rw[hHD];simp;omega
 have HW1:Hid (∀ (w1:World),Below w0.heap.size w0 w1->Lib.IsBuilder 187 5 w0.heap.size b (Lib.byteCells tx) w1->Calls Tryz.prog 112 #[(qP b),.string (zW HD)] w1 (oN b w0 w1 (tx++HD))):=fun w1 h1 h2=>nV b w0 w1 HD tx h1 h2 (by have:=HHL.out;omega) (by omega)
 have HPT:Hid (∀ w1,Below w0.heap.size w0 w1->Calls Tryz.prog 157 #[.agg #[.string (zW tn),.int .i64 tp,.int .i64 tl]] w1 fun e w'=>e=.returned (.string (zW (zG ⟨tn,tp,tl⟩)))/\Below w1.heap.size w1 w'):=fun w1 h1=>uT ⟨tn,tp,tl⟩ w1 q4 q6.1 q6.2 _ w0 ht h1 h1.size
 have s1b:(zW nm:ByteArray).size=(nm).length:=zB _;have j1:(⟨#[32,32,105,110,32]⟩:ByteArray)++zW nm=zW ([32,32,105,110,32]++nm):=vX _ _;have s2a:(zW ([32,32,105,110,32]++nm):ByteArray).size=([32,32,105,110,32]++nm).length:=zB _;have j2:(zW ([32,32,105,110,32]++nm):ByteArray)++⟨#[32,45,62,32]⟩=zW ([32,32,105,110,32]++nm++[32,45,62,32]):=vX _ _;have s3a:(zW ([32,32,105,110,32]++nm++[32,45,62,32]):ByteArray).size=([32,32,105,110,32]++nm++[32,45,62,32]).length:=zB _;have s3b:(zW (zG ⟨tn,tp,tl⟩):ByteArray).size=(zG ⟨tn,tp,tl⟩).length:=zB _;have j3:(zW ([32,32,105,110,32]++nm++[32,45,62,32]):ByteArray)++zW (zG ⟨tn,tp,tl⟩)=zW ([32,32,105,110,32]++nm++[32,45,62,32]++(zG ⟨tn,tp,tl⟩)):=vX _ _;rw[<- hHD]at j3
 have z1:¬(9223372036854775807<5+(zW nm:ByteArray).size):=by rw[s1b];omega
 have z2:¬(9223372036854775807<(zW ([32,32,105,110,32]++nm)).size+4):=by rw[s2a];simp;omega
 have z3:¬(9223372036854775807<(zW ([32,32,105,110,32]++nm++[32,45,62,32])).size+(zW (zG ⟨tn,tp,tl⟩):ByteArray).size):=by rw[s3a,s3b];simp;omega
 have HHD:=zY hHD;clear s1b s2a s3a s3b hHD hpf hpt q1 q2 q3 q4 q5 q6 q7 hb hBu ht hbA hr;obtain ⟨n,hn⟩:∃n,ns.length=n:=⟨_,rfl⟩;rw[hn]at HNS HBA HU0 HK0 HX0 ⊢;clear hn;generalize zW ([32,32,105,110,32]++nm)=M1 at *;generalize zW ([32,32,105,110,32]++nm++[32,45,62,32])=M2 at *;generalize zW HD=M3 at *
 go_enter Tryz.func114,Tryz.ntmps114
 go_wp2
 refine yP [9] (fun d i u z=>match i with
  |0=>z=(qP b)
  |1=>z=.pointer (some ⟨W.heap.size,1,none⟩)
  |2=>z=.string (zW nm)
  |3=>z=.string M1
  |4=>z=.string M2
  |5=>z=.pointer (some ⟨W.heap.size,7,none⟩)
  |6=>z=.agg #[.string (zW tn),.int .i64 tp,.int .i64 tl]
  |7=>z=.string (zW (zG ⟨tn,tp,tl⟩))
  |8=>z=.string M3
  |9=>True
  |_=>True) (fun d u=>xZ 103 W.heap.size u #[.int .u8 3,.string (zW nm),.string (zW tg),.slice a n c,.string (zW fn),.int .i64 fp,.int .i64 fl,.string (zW tn),.int .i64 tp,.int .i64 tl,.int .i64 pl]/\Below w0.heap.size w0 u/\(d 9=false->Lib.IsBuilder 187 5 w0.heap.size b (Lib.byteCells tx) u)/\(d 9=true->Lib.IsBuilder 187 5 w0.heap.size b (Lib.byteCells (tx++HD)) u)/\uY W u) (by kernel_rfl) (by kernel_rfl) (by kernel_rfl) ?_ ?_ ?_ ?_ ?_ ?_ (by kernel_rfl)
 ·intro d i w v w' h hb
  match i,h with
  |0,h=>exact h
  |1,h=>exact h
  |2,h=>exact h
  |3,h=>exact h
  |4,h=>exact h
  |5,h=>exact h
  |6,h=>exact h
  |7,h=>exact h
  |8,h=>exact h
  |9,h=>exact h
  |_+10,_=>trivial
 ·intro d u u' h hb
  exact ⟨h.1.below hb,h.2.1.trans (hb.mono h.2.1.size),fun h1=>wP (h.2.2.1 h1) hb,fun h1=>wP (h.2.2.2.1 h1) hb,h.2.2.2.2.trans (vK hb)⟩
 ·exact ⟨HX0.out,HBA.out,fun _=>HU0.out,fun h=>qD h,HK0.out⟩
 ·intro d i o ρ w' hm ho hf hg hC hcs hfs hfr zX
  match i,hm,ho,hf,hg,hfr,zX with
  |0,_,ho,hf,hg,hfr,zX=>
   simp only[qS]at ho;subst ho;refine ⟨fun _=>?_,qF⟩
   have ts: ρ (.tmp 0)=(qP b):=(qR hfr 0);simp[go_sem,ts];exact qB
  |1,_,ho,hf,hg,hfr,zX=>
   simp only[qS]at ho;subst ho;refine ⟨fun _=>?_,qF⟩
   have tq: ρ (.tmp 3)=(qP W.heap.size):=(qR hfr 3);simp[go_sem,tq];exact qB
  |2,_,ho,hf,hg,hfr,zX=>
   simp only[qS]at ho;subst ho;refine ⟨fun _=>?_,qF⟩
   have tq: ρ (.tmp 39)=.pointer (some ⟨W.heap.size,1,none⟩):=(qH zX 1 39);have c0:w'.cell? ⟨W.heap.size,1,none⟩=some (.string (zW nm)):=hC.1.cell (k:=1) rfl;simp[go_sem,tq,c0];exact qB
  |3,_,ho,hf,hg,hfr,zX=>
   simp only[qS]at ho;subst ho;refine ⟨fun _=>?_,qF⟩
   have d0: ρ (.tmp 40)=.string (zW nm):=(qH zX 2 40);simp[go_sem,hcs,d0,z1,j1];exact qB
  |4,_,ho,hf,hg,hfr,zX=>
   simp only[qS]at ho;subst ho;refine ⟨fun _=>?_,qF⟩
   have d0: ρ (.tmp 41)=.string (M1):=(qH zX 3 41);simp[go_sem,hcs,d0,z2,j2];exact qB
  |5,_,ho,hf,hg,hfr,zX=>
   simp only[qS]at ho;subst ho;refine ⟨fun _=>?_,qF⟩
   have tq: ρ (.tmp 3)=(qP W.heap.size):=(qR hfr 3);simp[go_sem,tq];exact qB
  |6,_,ho,hf,hg,hfr,zX=>
   simp only[qS]at ho;subst ho;refine ⟨fun _=>?_,qF⟩
   have tq: ρ (.tmp 43)=.pointer (some ⟨W.heap.size,7,none⟩):=(qH zX 5 43);have c0:w'.cell? ⟨W.heap.size,7,none⟩=some (.string (zW tn)):=hC.1.cell (k:=7) rfl;have c1:w'.cell? ⟨W.heap.size,8,none⟩=some (.int .i64 tp):=hC.1.cell (k:=8) rfl;have c2:w'.cell? ⟨W.heap.size,9,none⟩=some (.int .i64 tl):=hC.1.cell (k:=9) rfl;simp[go_sem,tq,c0,c1,c2];exact qB
  |7,_,ho,hf,hg,hfr,zX=>
   simp only[qS]at ho;subst ho;refine ⟨fun _=>?_,qF⟩
   have tq: ρ (.tmp 44)=.agg #[.string (zW tn),.int .i64 tp,.int .i64 tl]:=(qH zX 6 44);simp[go_sem,tq,hfs];exact ⟨rfl,(HPT.out w' hC.2.1).mono fun e u h=>⟨_,h.1,h.2,rfl⟩⟩
  |8,_,ho,hf,hg,hfr,zX=>
   simp only[qS]at ho;subst ho;refine ⟨fun _=>?_,qF⟩
   have d0: ρ (.tmp 42)=.string (M2):=(qH zX 4 42);have d1: ρ (.tmp 45)=.string (zW (zG ⟨tn,tp,tl⟩)):=(qH zX 7 45);simp[go_sem,d0,d1,z3,j3];exact qB
  |9,hm,_,_,_,_,_=>exact qD hm
  |n+10,_,ho,_,_,_,_=>simp at ho
 ·intro d i o ρ w' hm ho h0 hf hg hC hcs hfs hfr zX
  match i,hm,ho,h0,hf,hg,hfr,zX with
  |0,hm,_,_,_,_,_,_=>exact qD hm
  |1,hm,_,_,_,_,_,_=>exact qD hm
  |2,hm,_,_,_,_,_,_=>exact qD hm
  |3,hm,_,_,_,_,_,_=>exact qD hm
  |4,hm,_,_,_,_,_,_=>exact qD hm
  |5,hm,_,_,_,_,_,_=>exact qD hm
  |6,hm,_,_,_,_,_,_=>exact qD hm
  |7,hm,_,_,_,_,_,_=>exact qD hm
  |8,hm,_,_,_,_,_,_=>exact qD hm
  |9,_,ho,h0,hf,hg,hfr,zX=>
   simp only[qS]at ho;subst ho;refine ⟨rfl,?_⟩
   have t1: ρ (.tmp 38)=(qP b):=(qH zX 0 38);have t2: ρ (.tmp 46)=.string M3:=(qH zX 8 46);simp[go_sem,t1,t2,hfs];refine ⟨rfl,(HW1.out _ hC.2.1 (hC.2.2.1 h0)).mono ?_⟩
   rintro e u ⟨⟨z,rfl⟩,hbu,hbe,hkk⟩
   exact ⟨_,rfl,hkk _ _ _ (by decide) (by decide) hC.1,hbe,fun h=>absurd h (by simp[zA]),fun _=>hbu,hC.2.2.2.2.trans hkk⟩
  |n+10,_,ho,_,_,_,_,_=>simp at ho
 intro V w9 hC9 hS;simp only[xA];simp only[Act.put,qU];clear hS;have B2:=zY hC9.2.1;have U2:=zY (hC9.2.2.2.1 rfl);have K2:=zY hC9.2.2.2.2;have d3:w9.cell? ⟨W.heap.size,3,none⟩=some (.slice a n c):=hC9.1.cell (k:=3) rfl
 have L2:Hid ((tx++HD).length<=1048690):=by have:=HHL.out;show _<=_;simp;omega
 clear hC9
 go_wp2_with (first
  |(go_at_call 112;(with_reducible refine (HEN.out _ _ B3.out U3.out L3.out).mono ?_);rintro e w4 ⟨⟨z4,rfl⟩,hu,hbe,hkk⟩;have B4:=zY hbe;have U4:=zY hu;have K4:=zY (K3.out.trans hkk);clear hu hbe hkk)
  |(go_at_call 158;(with_reducible refine (HNS.out _ _ B2.out U2.out (by have:=HHL.out;have:=L2.out;omega)).mono ?_);rintro e w3 ⟨rfl,t3,hu,hbe,hex,hle,hkk⟩;have B3:=zY hbe;have U3:=zY hu;have K3:=zY (K2.out.trans hkk);have X3:=zY hex;have L3:=zY hle;clear hu hbe hkk hex hle))
 go_end0
 refine ⟨rfl,_,U4.out,B4.out,?_,by have:=L3.out;simp;omega,K4.out⟩
 have f1:nJ tx (HD++[]) (tx++HD):=by
  have:=nJ.all tx (HD++[]);rwa[List.append_nil]at this ⊢
 have f2:=(f1.trans X3.out).trans (nJ.all t3 [59,10]);rw[HHD.out]at f2;exact f2
theorem EO (b:Nat) (w0 W:World) (x:zF) (a:Option Addr) (c:Nat) (tx:List UInt8) (hx:VI x) (hr:uZ w0 (.slice a x.nums.length c) x.nums) (ht:XO w0.heap.size w0) (hb:Below w0.heap.size w0 W) (hBu:Lib.IsBuilder 187 5 w0.heap.size b (Lib.byteCells tx) W) (hl:tx.length<=1048576) (hnl:x.nums.length<=17592186044416) (hk:x.kind=4):
 Calls Tryz.prog 114 #[(qP b),.agg (zJ x.kind x.name x.tag (.slice a x.nums.length c) x.frm x.tO x.place)] W (cJ b w0 W tx (sV x)):=by
 have HHD:sB x=[32,32,111,117,116,32]++zG x.frm++[32,45,62,32]++x.name:=by unfold sB;rw[if_neg (by rw[hk];decide),if_neg (by rw[hk];decide),if_neg (by rw[hk];decide)]
 have HWT:sA x=[]:=by unfold sA;rw[if_neg (fun h=>by rw[hk]at h;exact absurd h.1 (by decide))]
 have HIT:sV x=sB x++sA x++uV x.nums++[59,10]:=rfl;rw[HHD,HWT]at HIT;rw[HIT];clear HIT HHD HWT;obtain ⟨-,q1,q2,q3,q4,q5,q6,q7⟩:=hx;have hpf:=uS x.frm q3 q5;have hpt:=uS x.tO q4 q6;obtain ⟨ki,nm,tg,ns,⟨fn,fp,fl⟩,⟨tn,tp,tl⟩,pl⟩:=x;unfold zJ;simp only at hk q1 q2 q3 q4 q5 q6 q7 hpf hpt hr hnl ⊢;subst hk
 have HNS:Hid (∀ (w1:World) (t1:List UInt8),Below w0.heap.size w0 w1->Lib.IsBuilder 187 5 w0.heap.size b (Lib.byteCells t1) w1->t1.length<=1048776->Calls Tryz.prog 158 #[(qP b),.slice a ns.length c] w1 fun e w'=>e=.returned (.tuple #[])/\∃tx',Lib.IsBuilder 187 5 w0.heap.size b (Lib.byteCells tx') w'/\Below w0.heap.size w0 w'/\nJ t1 (uV ns) tx'/\tx'.length<=1048800/\uY w1 w'):=fun w1 t1 h1 h2 h3=>uX b w0 w1 _ ns t1 hr ht h1 h2 q7 hnl h3
 have HEN:Hid (∀ (w1:World) (t1:List UInt8),Below w0.heap.size w0 w1->Lib.IsBuilder 187 5 w0.heap.size b (Lib.byteCells t1) w1->t1.length<=1048800->Calls Tryz.prog 112 #[(qP b),.string ⟨#[59,10]⟩] w1 (oN b w0 w1 (t1++[59,10]))):=fun w1 t1 h1 h2 h3=>nV b w0 w1 [59,10] t1 h1 h2 (by decide) (by omega)
 have hbA:=(Below.refl W.heap.size W).alloc (Nat.le_refl _) (.cells #[.int .u8 4,.string (zW nm),.string (zW tg),.slice a ns.length c,.string (zW fn),.int .i64 fp,.int .i64 fl,.string (zW tn),.int .i64 tp,.int .i64 tl,.int .i64 pl] 103);have HBA:Hid (Below w0.heap.size w0 (W.alloc (.cells #[.int .u8 4,.string (zW nm),.string (zW tg),.slice a ns.length c,.string (zW fn),.int .i64 fp,.int .i64 fl,.string (zW tn),.int .i64 tp,.int .i64 tl,.int .i64 pl] 103))):=hb.trans (hbA.mono hb.size);have HU0:=zY (wP hBu hbA);have HK0:=zY (vK hbA);have HX0:=zY (yN 103 W #[.int .u8 4,.string (zW nm),.string (zW tg),.slice a ns.length c,.string (zW fn),.int .i64 fp,.int .i64 fl,.string (zW tn),.int .i64 tp,.int .i64 tl,.int .i64 pl]);obtain ⟨HD,hHD⟩:∃HD,HD=[32,32,111,117,116,32]++(zG ⟨fn,fp,fl⟩)++[32,45,62,32]++nm:=⟨_,rfl⟩
 have HHL:Hid (HD.length<=100):=by show _<=_;rw[hHD];simp;omega
 have HW1:Hid (∀ (w1:World),Below w0.heap.size w0 w1->Lib.IsBuilder 187 5 w0.heap.size b (Lib.byteCells tx) w1->Calls Tryz.prog 112 #[(qP b),.string (zW HD)] w1 (oN b w0 w1 (tx++HD))):=fun w1 h1 h2=>nV b w0 w1 HD tx h1 h2 (by have:=HHL.out;omega) (by omega)
 have HPF:Hid (∀ w1,Below w0.heap.size w0 w1->Calls Tryz.prog 157 #[.agg #[.string (zW fn),.int .i64 fp,.int .i64 fl]] w1 fun e w'=>e=.returned (.string (zW (zG ⟨fn,fp,fl⟩)))/\Below w1.heap.size w1 w'):=fun w1 h1=>uT ⟨fn,fp,fl⟩ w1 q3 q5.1 q5.2 _ w0 ht h1 h1.size
 have s1b:(zW (zG ⟨fn,fp,fl⟩):ByteArray).size=(zG ⟨fn,fp,fl⟩).length:=zB _;have j1:(⟨#[32,32,111,117,116,32]⟩:ByteArray)++zW (zG ⟨fn,fp,fl⟩)=zW ([32,32,111,117,116,32]++(zG ⟨fn,fp,fl⟩)):=vX _ _;have s2a:(zW ([32,32,111,117,116,32]++(zG ⟨fn,fp,fl⟩)):ByteArray).size=([32,32,111,117,116,32]++(zG ⟨fn,fp,fl⟩)).length:=zB _;have j2:(zW ([32,32,111,117,116,32]++(zG ⟨fn,fp,fl⟩)):ByteArray)++⟨#[32,45,62,32]⟩=zW ([32,32,111,117,116,32]++(zG ⟨fn,fp,fl⟩)++[32,45,62,32]):=vX _ _;have s3a:(zW ([32,32,111,117,116,32]++(zG ⟨fn,fp,fl⟩)++[32,45,62,32]):ByteArray).size=([32,32,111,117,116,32]++(zG ⟨fn,fp,fl⟩)++[32,45,62,32]).length:=zB _;have s3b:(zW nm:ByteArray).size=(nm).length:=zB _;have j3:(zW ([32,32,111,117,116,32]++(zG ⟨fn,fp,fl⟩)++[32,45,62,32]):ByteArray)++zW nm=zW ([32,32,111,117,116,32]++(zG ⟨fn,fp,fl⟩)++[32,45,62,32]++nm):=vX _ _;rw[<- hHD]at j3
 have z1:¬(9223372036854775807<6+(zW (zG ⟨fn,fp,fl⟩):ByteArray).size):=by rw[s1b];omega
 have z2:¬(9223372036854775807<(zW ([32,32,111,117,116,32]++(zG ⟨fn,fp,fl⟩))).size+4):=by rw[s2a];simp;omega
 have z3:¬(9223372036854775807<(zW ([32,32,111,117,116,32]++(zG ⟨fn,fp,fl⟩)++[32,45,62,32])).size+(zW nm:ByteArray).size):=by rw[s3a,s3b];simp;omega
 have HHD:=zY hHD;clear s1b s2a s3a s3b hHD hpf hpt q1 q2 q3 q4 q5 q6 q7 hb hBu ht hbA hr;obtain ⟨n,hn⟩:∃n,ns.length=n:=⟨_,rfl⟩;rw[hn]at HNS HBA HU0 HK0 HX0 ⊢;clear hn;generalize zW ([32,32,111,117,116,32]++(zG ⟨fn,fp,fl⟩))=M1 at *;generalize zW ([32,32,111,117,116,32]++(zG ⟨fn,fp,fl⟩)++[32,45,62,32])=M2 at *;generalize zW HD=M3 at *
 go_enter Tryz.func114,Tryz.ntmps114
 go_wp2
 refine yP [9] (fun d i u z=>match i with
  |0=>z=(qP b)
  |1=>z=.pointer (some ⟨W.heap.size,4,none⟩)
  |2=>z=.agg #[.string (zW fn),.int .i64 fp,.int .i64 fl]
  |3=>z=.string (zW (zG ⟨fn,fp,fl⟩))
  |4=>z=.string M1
  |5=>z=.string M2
  |6=>z=.pointer (some ⟨W.heap.size,1,none⟩)
  |7=>z=.string (zW nm)
  |8=>z=.string M3
  |9=>True
  |_=>True) (fun d u=>xZ 103 W.heap.size u #[.int .u8 4,.string (zW nm),.string (zW tg),.slice a n c,.string (zW fn),.int .i64 fp,.int .i64 fl,.string (zW tn),.int .i64 tp,.int .i64 tl,.int .i64 pl]/\Below w0.heap.size w0 u/\(d 9=false->Lib.IsBuilder 187 5 w0.heap.size b (Lib.byteCells tx) u)/\(d 9=true->Lib.IsBuilder 187 5 w0.heap.size b (Lib.byteCells (tx++HD)) u)/\uY W u) (by kernel_rfl) (by kernel_rfl) (by kernel_rfl) ?_ ?_ ?_ ?_ ?_ ?_ (by kernel_rfl)
 ·intro d i w v w' h hb
  match i,h with
  |0,h=>exact h
  |1,h=>exact h
  |2,h=>exact h
  |3,h=>exact h
  |4,h=>exact h
  |5,h=>exact h
  |6,h=>exact h
  |7,h=>exact h
  |8,h=>exact h
  |9,h=>exact h
  |_+10,_=>trivial
 ·intro d u u' h hb
  exact ⟨h.1.below hb,h.2.1.trans (hb.mono h.2.1.size),fun h1=>wP (h.2.2.1 h1) hb,fun h1=>wP (h.2.2.2.1 h1) hb,h.2.2.2.2.trans (vK hb)⟩
 ·exact ⟨HX0.out,HBA.out,fun _=>HU0.out,fun h=>qD h,HK0.out⟩
 ·intro d i o ρ w' hm ho hf hg hC hcs hfs hfr zX
  match i,hm,ho,hf,hg,hfr,zX with
  |0,_,ho,hf,hg,hfr,zX=>
   simp only[qS]at ho;subst ho;refine ⟨fun _=>?_,qF⟩
   have ts: ρ (.tmp 0)=(qP b):=(qR hfr 0);simp[go_sem,ts];exact qB
  |1,_,ho,hf,hg,hfr,zX=>
   simp only[qS]at ho;subst ho;refine ⟨fun _=>?_,qF⟩
   have tq: ρ (.tmp 3)=(qP W.heap.size):=(qR hfr 3);simp[go_sem,tq];exact qB
  |2,_,ho,hf,hg,hfr,zX=>
   simp only[qS]at ho;subst ho;refine ⟨fun _=>?_,qF⟩
   have tq: ρ (.tmp 51)=.pointer (some ⟨W.heap.size,4,none⟩):=(qH zX 1 51);have c0:w'.cell? ⟨W.heap.size,4,none⟩=some (.string (zW fn)):=hC.1.cell (k:=4) rfl;have c1:w'.cell? ⟨W.heap.size,5,none⟩=some (.int .i64 fp):=hC.1.cell (k:=5) rfl;have c2:w'.cell? ⟨W.heap.size,6,none⟩=some (.int .i64 fl):=hC.1.cell (k:=6) rfl;simp[go_sem,tq,c0,c1,c2];exact qB
  |3,_,ho,hf,hg,hfr,zX=>
   simp only[qS]at ho;subst ho;refine ⟨fun _=>?_,qF⟩
   have tq: ρ (.tmp 52)=.agg #[.string (zW fn),.int .i64 fp,.int .i64 fl]:=(qH zX 2 52);simp[go_sem,tq,hfs];exact ⟨rfl,(HPF.out w' hC.2.1).mono fun e u h=>⟨_,h.1,h.2,rfl⟩⟩
  |4,_,ho,hf,hg,hfr,zX=>
   simp only[qS]at ho;subst ho;refine ⟨fun _=>?_,qF⟩
   have d0: ρ (.tmp 53)=.string (zW (zG ⟨fn,fp,fl⟩)):=(qH zX 3 53);simp[go_sem,hcs,d0,z1,j1];exact qB
  |5,_,ho,hf,hg,hfr,zX=>
   simp only[qS]at ho;subst ho;refine ⟨fun _=>?_,qF⟩
   have d0: ρ (.tmp 54)=.string (M1):=(qH zX 4 54);simp[go_sem,hcs,d0,z2,j2];exact qB
  |6,_,ho,hf,hg,hfr,zX=>
   simp only[qS]at ho;subst ho;refine ⟨fun _=>?_,qF⟩
   have tq: ρ (.tmp 3)=(qP W.heap.size):=(qR hfr 3);simp[go_sem,tq];exact qB
  |7,_,ho,hf,hg,hfr,zX=>
   simp only[qS]at ho;subst ho;refine ⟨fun _=>?_,qF⟩
   have tq: ρ (.tmp 56)=.pointer (some ⟨W.heap.size,1,none⟩):=(qH zX 6 56);have c0:w'.cell? ⟨W.heap.size,1,none⟩=some (.string (zW nm)):=hC.1.cell (k:=1) rfl;simp[go_sem,tq,c0];exact qB
  |8,_,ho,hf,hg,hfr,zX=>
   simp only[qS]at ho;subst ho;refine ⟨fun _=>?_,qF⟩
   have d0: ρ (.tmp 55)=.string (M2):=(qH zX 5 55);have d1: ρ (.tmp 57)=.string (zW nm):=(qH zX 7 57);simp[go_sem,d0,d1,z3,j3];exact qB
  |9,hm,_,_,_,_,_=>exact qD hm
  |n+10,_,ho,_,_,_,_=>simp at ho
 ·intro d i o ρ w' hm ho h0 hf hg hC hcs hfs hfr zX
  match i,hm,ho,h0,hf,hg,hfr,zX with
  |0,hm,_,_,_,_,_,_=>exact qD hm
  |1,hm,_,_,_,_,_,_=>exact qD hm
  |2,hm,_,_,_,_,_,_=>exact qD hm
  |3,hm,_,_,_,_,_,_=>exact qD hm
  |4,hm,_,_,_,_,_,_=>exact qD hm
  |5,hm,_,_,_,_,_,_=>exact qD hm
  |6,hm,_,_,_,_,_,_=>exact qD hm
  |7,hm,_,_,_,_,_,_=>exact qD hm
  |8,hm,_,_,_,_,_,_=>exact qD hm
  |9,_,ho,h0,hf,hg,hfr,zX=>
   simp only[qS]at ho;subst ho;refine ⟨rfl,?_⟩
   have t1: ρ (.tmp 50)=(qP b):=(qH zX 0 50);have t2: ρ (.tmp 58)=.string M3:=(qH zX 8 58);simp[go_sem,t1,t2,hfs];refine ⟨rfl,(HW1.out _ hC.2.1 (hC.2.2.1 h0)).mono ?_⟩
   rintro e u ⟨⟨z,rfl⟩,hbu,hbe,hkk⟩
   exact ⟨_,rfl,hkk _ _ _ (by decide) (by decide) hC.1,hbe,fun h=>absurd h (by simp[zA]),fun _=>hbu,hC.2.2.2.2.trans hkk⟩
  |n+10,_,ho,_,_,_,_,_=>simp at ho
 intro V w9 hC9 hS;simp only[xA];simp only[Act.put,qU];clear hS;have B2:=zY hC9.2.1;have U2:=zY (hC9.2.2.2.1 rfl);have K2:=zY hC9.2.2.2.2;have d3:w9.cell? ⟨W.heap.size,3,none⟩=some (.slice a n c):=hC9.1.cell (k:=3) rfl
 have L2:Hid ((tx++HD).length<=1048690):=by have:=HHL.out;show _<=_;simp;omega
 clear hC9
 go_wp2_with (first
  |(go_at_call 112;(with_reducible refine (HEN.out _ _ B3.out U3.out L3.out).mono ?_);rintro e w4 ⟨⟨z4,rfl⟩,hu,hbe,hkk⟩;have B4:=zY hbe;have U4:=zY hu;have K4:=zY (K3.out.trans hkk);clear hu hbe hkk)
  |(go_at_call 158;(with_reducible refine (HNS.out _ _ B2.out U2.out (by have:=HHL.out;have:=L2.out;omega)).mono ?_);rintro e w3 ⟨rfl,t3,hu,hbe,hex,hle,hkk⟩;have B3:=zY hbe;have U3:=zY hu;have K3:=zY (K2.out.trans hkk);have X3:=zY hex;have L3:=zY hle;clear hu hbe hkk hex hle))
 go_end0
 refine ⟨rfl,_,U4.out,B4.out,?_,by have:=L3.out;simp;omega,K4.out⟩
 have f1:nJ tx (HD++[]) (tx++HD):=by
  have:=nJ.all tx (HD++[]);rwa[List.append_nil]at this ⊢
 have f2:=(f1.trans X3.out).trans (nJ.all t3 [59,10]);rw[HHD.out]at f2;exact f2
theorem aT (b:Nat) (w0 W:World) (x:zF) (a:Option Addr) (c:Nat) (tx:List UInt8) (hx:VI x) (hr:uZ w0 (.slice a x.nums.length c) x.nums) (ht:XO w0.heap.size w0) (hb:Below w0.heap.size w0 W) (hBu:Lib.IsBuilder 187 5 w0.heap.size b (Lib.byteCells tx) W) (hl:tx.length<=1048576) (hnl:x.nums.length<=17592186044416):
 Calls Tryz.prog 114 #[(qP b),.agg (zJ x.kind x.name x.tag (.slice a x.nums.length c) x.frm x.tO x.place)] W (cJ b w0 W tx (sV x)):=by
 rcases hx.kind with h|h|h|h
 ·exact EQ b w0 W x a c tx hx hr ht hb hBu hl hnl h
 ·by_cases hw:x.nums=[]
  ·exact KB b w0 W x a c tx hx hr ht hb hBu hl hnl h hw
  exact KC b w0 W x a c tx hx hr ht hb hBu hl hnl h hw
 ·exact EP b w0 W x a c tx hx hr ht hb hBu hl hnl h
 exact EO b w0 W x a c tx hx hr ht hb hBu hl hnl h
theorem nJ.more {tx a t1:List UInt8} (h:nJ tx a t1) (hm:1048576<t1.length) (b:List UInt8):nJ tx (a++b) t1:=by
 refine ⟨h.le,Or.inr ⟨hm,?_⟩⟩
 rcases h.is with rfl|⟨-,q⟩
 ·simp at hm ⊢;omega
 simp at q ⊢;omega
def uC (L:List (zF × Value)):List UInt8:=L.flatMap fun p=>sV p.1
theorem RT {L:List (zF × Value)} {k:Nat} (h:k<L.length):uC (L.take (k+1))=uC (L.take k)++sV (wG L k).1:=by
 unfold uC wG;rw[List.take_add_one,List.getElem?_eq_getElem h,List.flatMap_append,List.getD_eq_getElem?_getD,List.getElem?_eq_getElem h];simp
theorem VH (L:List (zF × Value)) (k:Nat):uC L=uC (L.take k)++uC (L.drop k):=by
 unfold uC;rw[<- List.flatMap_append,List.take_append_drop]
def sU (nm:List UInt8):List UInt8:=[103,114,97,112,104,32]++nm++[32,123,10]
def sH (nm:List UInt8) (L:List (zF × Value)):List UInt8:=sU nm++uC L++[125,10]
theorem eS {nm:List UInt8} {L:List (zF × Value)} {tx:List UInt8} (h:nJ (sU nm) (uC L++[125,10]) tx):tx=sH nm L\/(1048576<tx.length/\1048576<(sH nm L).length):=by
 have e:sU nm++(uC L++[125,10])=sH nm L:=by unfold sH;rw[List.append_assoc]
 rcases h.is with h1|h1
 ·exact Or.inl (by rw[h1,e])
 exact Or.inr (by rw[e]at h1;exact h1)
theorem cI (nm:List UInt8) (a:Option Addr) (n c:Nat) (L:List (zF × Value)) (W:World) (hn:L.length=n) (h:eU W a L) (hl:n<=2000000) (hnm:nm.length<=16) (hne:∀p ∈ L,VI p.1/\p.1.nums.length<=17592186044416) (ht:XO W.heap.size W):
 Calls Tryz.prog 68 #[.agg #[.string (zW nm),.slice a n c]] W fun e w'=>∃tx,e=.returned (.string (zW tx))/\Below W.heap.size W w'/\(tx=sH nm L\/(1048576<tx.length/\1048576<(sH nm L).length))/\tx.length<=1048902:=by
 have hb0:=(Below.refl W.heap.size W).alloc (Nat.le_refl _) (.cells #[.string (zW nm),.slice a n c] 52);have hR0:=h.below hb0
 have hT0:XO (W.alloc (.cells #[.string (zW nm),.slice a n c] 52)).heap.size (W.alloc (.cells #[.string (zW nm),.slice a n c] 52)):=fun w' h'=>ht w' (hb0.trans (h'.mono hb0.size))
 have hK0:=yN 52 W #[.string (zW nm),.slice a n c];obtain ⟨w0,hw0⟩:∃w0,w0=W.alloc (.cells #[.string (zW nm),.slice a n c] 52):=⟨_,rfl⟩;rw[<- hw0]at hb0 hR0 hT0 hK0
 have hsz:w0.heap.size=W.heap.size+1:=by rw[hw0];simp
 have hbb:=(Below.refl w0.heap.size w0).alloc (Nat.le_refl _) (.cells #[.pointer none,qN] 187);have HBB:=zY hbb
 have HU0:Hid (Lib.IsBuilder 187 5 w0.heap.size (W.heap.size+1) (Lib.byteCells []) (w0.alloc (.cells #[.pointer none,qN] 187))):=by
  show Lib.IsBuilder _ _ _ _ _ _;rw[<- hsz];exact Or.inl ⟨Nat.le_refl _,_,by show (w0.heap.push _)[w0.heap.size]? =_;simp,World.ownsRow_nil _ _ _ _,by intro e;cases e⟩
 have HB0:=zY hb0;have HR0:=zY hR0;have HT0:=zY hT0;have HK0:=zY hK0;have HNE:=zY hne
 have hI:(n:Int)<=2000000:=by omega
 have z1:¬(9223372036854775807<6+(zW nm).size):=by rw[zB];omega
 have z2:¬(9223372036854775807<(zW ([103,114,97,112,104,32]++nm)).size+3):=by rw[zB];simp;omega
 have j1:(⟨#[103,114,97,112,104,32]⟩:ByteArray)++zW nm=zW ([103,114,97,112,104,32]++nm):=vX _ _;have j2:zW ([103,114,97,112,104,32]++nm)++(⟨#[32,123,10]⟩:ByteArray)=zW (sU nm):=vX _ _
 have HHL:Hid ((sU nm).length<=100):=by show _<=_;unfold sU;simp;omega
 have HW1:Hid (∀ w1,Below w0.heap.size w0 w1->Lib.IsBuilder 187 5 w0.heap.size (W.heap.size+1) (Lib.byteCells []) w1->Calls Tryz.prog 112 #[(qP (W.heap.size+1)),.string (zW (sU nm))] w1 (oN (W.heap.size+1) w0 w1 ([]++sU nm))):=fun w1 h1 h2=>nV _ w0 w1 (sU nm) [] h1 h2 (by have:=HHL.out;omega) (by simp)
 have HW9:Hid (∀ w1 t1,Below w0.heap.size w0 w1->Lib.IsBuilder 187 5 w0.heap.size (W.heap.size+1) (Lib.byteCells t1) w1->t1.length<=1048900->Calls Tryz.prog 112 #[(qP (W.heap.size+1)),.string ⟨#[125,10]⟩] w1 (oN (W.heap.size+1) w0 w1 (t1++[125,10]))):=fun w1 t1 h1 h2 h3=>nV _ w0 w1 [125,10] t1 h1 h2 (by decide) (by omega)
 have HSTR:Hid (∀ w1 t1,Lib.IsBuilder 187 5 w0.heap.size (W.heap.size+1) (Lib.byteCells t1) w1->t1≠[]->Calls Tryz.prog 115 #[(qP (W.heap.size+1))] w1 fun e w'=>e=.returned (.string (zW t1))/\Below w0.heap.size w1 w'):=fun w1 t1 h1 h2=>Go.Proofs.Tryz.Builder_String w0.heap.size (W.heap.size+1) t1 w1 h1 h2
 have HLENC:Hid (∀ w1 t1,Lib.IsBuilder 187 5 w0.heap.size (W.heap.size+1) (Lib.byteCells t1) w1->Calls Tryz.prog 113 #[(qP (W.heap.size+1))] w1 fun e w'=>e=.returned (.int .i64 (t1.length:Int))/\w'=w1):=fun w1 t1 h1=>by
  have:=Go.Proofs.Tryz.Builder_Len w0.heap.size (W.heap.size+1) (Lib.byteCells t1) w1 h1;rw[mV]at this;exact this
 have HFIN:Hid (∀ tx,nJ (sU nm) (uC L) tx->nJ (sU nm) (uC L++[125,10]) (tx++[125,10])):=fun tx h=>h.trans (nJ.all _ _)
 generalize zW ([103,114,97,112,104,32]++nm)=M1 at *;generalize zW (sU nm)=M2 at *;clear h hb0 hR0 hT0 hK0 hbb hne ht;have HSZ:=zY hsz;have hBs:w0.heap.size=W.heap.size+1:=hsz;clear hsz;subst hw0
 go_enter Tryz.func68,Tryz.ntmps68
 go_wp2_with (go_at_call 112;(with_reducible refine (HW1.out _ HBB.out HU0.out).mono ?_);rintro e w2 ⟨⟨z2,rfl⟩,hu,hbe,-⟩;have U2:=zY hu;have B2:=zY hbe;have d1:w2.cell? ⟨W.heap.size,1,none⟩=some (.slice a n c):=(hbe.cell (p:=⟨W.heap.size,1,none⟩) HK0.out.lt).trans (HK0.out.cell (k:=1) rfl);clear hu hbe)
 go_loopg [14] n (fun gk v wr=>∃(k:Nat) (t1:List UInt8),k<=n/\gk=n-k/\v=.int .i64 (k:Int)/\Lib.IsBuilder 187 5 (W.alloc (.cells #[.string (zW nm),.slice a n c] 52)).heap.size (W.heap.size+1) (Lib.byteCells t1) wr/\Below (W.alloc (.cells #[.string (zW nm),.slice a n c] 52)).heap.size (W.alloc (.cells #[.string (zW nm),.slice a n c] 52)) wr/\nJ (sU nm) (uC (L.take k)) t1/\t1.length<=1048900)
 case atStart=>exact ⟨0,sU nm,Nat.zero_le _,rfl,rfl,U2.out,B2.out,⟨Nat.le_refl _,Or.inl (by simp[uC])⟩,by have:=HHL.out;omega⟩
 case round=>
  obtain ⟨k,t1,hk,rfl,rfl,hbu,hbe,hex,hl1⟩:=hrel;have HBU:=zY hbu;have HBE:=zY hbe;have HEX:=zY hex;have HL1:=zY hl1;have HIT:=zY (HR0.out.below hbe);clear hbu hbe hex U2 B2
  by_cases hlt:k<n
  ·have hki:(k:Int)<(n:Int):=by omega
   rcases HIT.out.lie with e|⟨g,off,rfl,hc⟩
   ·rw [e]at hn;simp at hn;omega
   obtain ⟨c0,c1,c2,c3,c4,c5,c6,c7,c8,c9,c10⟩:=hc k (by omega);have hmem:=jK (L:=L) (k:=k) (by omega);obtain ⟨a1,k1,e2,hrow⟩:=HR0.out.nums _ hmem;rw[e2]at c3;have HNX:=zY (HNE.out _ hmem);have HTK:=zY (RT (L:=L) (k:=k) (by omega));have HIN:Hid (uZ (W.alloc (.cells #[.string (zW nm),.slice (some ⟨g,off,none⟩) n c] 52)) (.slice a1 (wG L k).1.nums.length k1) (wG L k).1.nums):=⟨a1,k1,rfl,hrow⟩;have HSP:=zY (VH L k);clear hc hmem e2 hrow;generalize (wG L k).1=x at *;have hbA:=(Below.refl wr.heap.size wr).alloc (Nat.le_refl _) (.cells #[.int .u8 x.kind,.string (zW x.name),.string (zW x.tag),.slice a1 x.nums.length k1,.string (zW x.frm.name),.int .i64 x.frm.port,.int .i64 x.frm.place,.string (zW x.tO.name),.int .i64 x.tO.port,.int .i64 x.tO.place,.int .i64 x.place] 103);have UA:=zY (wP HBU.out hbA);have BA:=zY (HBE.out.trans (hbA.mono HBE.out.size))
   have hlI:(t1.length:Int)<=1048900:=by omega
   clear hbA
   by_cases hbig:1048576<t1.length
   ·have hbi:(1048576:Int)<(t1.length:Int):=by omega
    have HE2:Hid (nJ (sU nm) (uC L) t1):=by show nJ _ _ _;rw[HSP.out];exact HEX.out.more hbig _
    go_wp2_with (first
     |(go_at_call 115;(with_reducible refine (HSTR.out _ _ U8.out (by simp)).mono ?_);rintro e w9 ⟨rfl,hbe⟩;have B9:=zY (B8.out.trans hbe);clear hbe)
     |(go_at_call 112;(with_reducible refine (HW9.out _ _ BA.out UA.out HL1.out).mono ?_);rintro e w8 ⟨⟨z8,rfl⟩,hu,hbe,-⟩;have U8:=zY hu;have B8:=zY hbe;clear hu hbe)
     |(go_at_call 113;(with_reducible refine (HLENC.out _ _ UA.out).mono ?_);rintro e w5 ⟨rfl,rfl⟩))
    go_ret
    exact ⟨_,rfl,HB0.out.trans (B9.out.mono (by omega)),eS (HFIN.out _ HE2.out),by simp;omega⟩
   have hbi:¬((1048576:Int)<(t1.length:Int)):=by omega
   have HWI:Hid (∀ w1,Below (W.alloc (.cells #[.string (zW nm),.slice (some ⟨g,off,none⟩) n c] 52)).heap.size (W.alloc (.cells #[.string (zW nm),.slice (some ⟨g,off,none⟩) n c] 52)) w1->Lib.IsBuilder 187 5 (W.alloc (.cells #[.string (zW nm),.slice (some ⟨g,off,none⟩) n c] 52)).heap.size (W.heap.size+1) (Lib.byteCells t1) w1->Calls Tryz.prog 114 #[(qP (W.heap.size+1)),.agg #[.int .u8 x.kind,.string (zW x.name),.string (zW x.tag),.slice a1 x.nums.length k1,.string (zW x.frm.name),.int .i64 x.frm.port,.int .i64 x.frm.place,.string (zW x.tO.name),.int .i64 x.tO.port,.int .i64 x.tO.place,.int .i64 x.place]] w1 (cJ (W.heap.size+1) (W.alloc (.cells #[.string (zW nm),.slice (some ⟨g,off,none⟩) n c] 52)) w1 t1 (sV x))):=fun w1 h1 h2=>aT _ (W.alloc (.cells #[.string (zW nm),.slice (some ⟨g,off,none⟩) n c] 52)) w1 x a1 k1 t1 HNX.out.1 HIN.out HT0.out h1 h2 (by omega) HNX.out.2
   go_wp2_with (first
    |(go_at_call 114;(with_reducible refine (HWI.out _ BA.out UA.out).mono ?_);rintro e w6 ⟨rfl,t2,hu,hbe,hex,hle,-⟩;have U6:=zY hu;have B6:=zY hbe;have X6:=zY (HEX.out.trans hex);have L6:=zY hle;clear hu hbe hex hle)
    |(go_at_call 113;(with_reducible refine (HLENC.out _ _ UA.out).mono ?_);rintro e w5 ⟨rfl,rfl⟩))
   go_roundg (n-(k+1))
   case measure=>omega
   case rel=>exact ⟨k+1,t2,by omega,rfl,by go_num,U6.out,B6.out,by rw[HTK.out];exact X6.out,L6.out⟩
  have ek:k=n:=by omega
  subst ek
  have hki:¬((k:Int)<(k:Int)):=by omega
  have HE2:Hid (nJ (sU nm) (uC L) t1):=by have:=HEX.out;rw[<- hn,List.take_length]at this;exact this
  go_wp2_with (first
   |(go_at_call 115;(with_reducible refine (HSTR.out _ _ U8.out (by simp)).mono ?_);rintro e w9 ⟨rfl,hbe⟩;have B9:=zY (B8.out.trans hbe);clear hbe)
   |(go_at_call 112;(with_reducible refine (HW9.out _ _ HBE.out HBU.out HL1.out).mono ?_);rintro e w8 ⟨⟨z8,rfl⟩,hu,hbe,-⟩;have U8:=zY hu;have B8:=zY hbe;clear hu hbe))
  go_ret
  exact ⟨_,rfl,HB0.out.trans (B9.out.mono (by omega)),eS (HFIN.out _ HE2.out),by simp;omega⟩
def oD (nm:List UInt8) (L:List (zF × Value)):List UInt8 × Int:=
 if (pC L&&yO nm)=true then (if 1048576<(sH nm L).length then ([],2) else (sH nm L,0)) else ([],1)
theorem pT {l:List UInt8} (h:yO l=true):l.length<=16:=by
 unfold yO at h;rw[Bool.and_eq_true,decide_eq_true_iff]at h;exact h.1
theorem XN {p:vZ} (h:oW p=true):p.name.length<=16:=by
 unfold oW at h;rw[Bool.and_eq_true,decide_eq_true_iff]at h;rw[h.1];simp
theorem PZ {x:zF} (h:mD x=true):x.tag.length<=16:=by
 unfold mD at h;rw[Bool.and_eq_true,decide_eq_true_iff]at h;rw[h.1];simp
structure aS (x : zF) : Prop where
 frm:tK x.frm.port
 tO:tK x.tO.port
 nums:∀n ∈ x.nums,tK n
 len:x.nums.length<=17592186044416
theorem RS {x:zF} (h:xU x=true) (hs:aS x):VI x:=by
 unfold xU at h
 split at h
 ·rename_i hk
  simp only[Bool.and_eq_true]at h;exact ⟨Or.inl hk,pT h.1,pT h.2.1,XN h.2.2.1,XN h.2.2.2,hs.frm,hs.tO,hs.nums⟩
 split at h
 ·rename_i hk
  simp only[Bool.and_eq_true,decide_eq_true_eq]at h;exact ⟨Or.inr (Or.inl hk),by rw[h.1];simp,by rw[h.2.1];simp,pT h.2.2.1,pT h.2.2.2,hs.frm,hs.tO,hs.nums⟩
 split at h
 ·rename_i hk
  simp only[Bool.and_eq_true]at h;exact ⟨Or.inr (Or.inr (Or.inl hk)),pT h.1,PZ h.2.1,XN h.2.2.1,pT h.2.2.2,hs.frm,hs.tO,hs.nums⟩
 split at h
 ·rename_i hk
  simp only[Bool.and_eq_true]at h;exact ⟨Or.inr (Or.inr (Or.inr hk)),pT h.1,PZ h.2.1,pT h.2.2.1,XN h.2.2.2,hs.frm,hs.tO,hs.nums⟩
 cases h
theorem ND (nm:List UInt8) (a:Option Addr) (n c:Nat) (L:List (zF × Value)) (W:World) (hn:L.length=n) (h:eU W a L) (hl:n<=2000000) (hf:∀p ∈ L,aS p.1) (ht:XO W.heap.size W):
 Calls Tryz.prog 39 #[.agg #[.string (zW nm),.slice a n c]] W fun e w'=>e=.returned (.tuple #[.string (zW (oD nm L).1),.int .i64 (oD nm L).2])/\Below W.heap.size W w':=by
 have hb0:=(Below.refl W.heap.size W).alloc (Nat.le_refl _) (.cells #[.string (zW nm),.slice a n c] 52);have HB0:=zY hb0;have HK0:=zY (yN 52 W #[.string (zW nm),.slice a n c])
 have HRT:Hid (∀ w1,Below W.heap.size W w1->Calls Tryz.prog 67 #[.agg #[.string (zW nm),.slice a n c]] w1 fun e w'=>e=.returned (.bool (pC L&&yO nm))/\Below w1.heap.size w1 w'):=fun w1 h1=>VN nm a n c L w1 hn (h.below h1) hl
 cases hr:(pC L&&yO nm) with
 |false=>
  have HE:Hid (oD nm L=([],1)):=by show _=_;unfold oD;rw[hr];rfl
  rw[hr]at HRT;rw[HE.out];clear hr h hf ht hb0
  go_enter Tryz.func39,Tryz.ntmps39
  go_wp2_with (go_at_call 67;(with_reducible refine (HRT.out _ HB0.out).mono ?_);rintro e w1 ⟨rfl,hb⟩;have B1:=zY (HB0.out.trans (hb.mono HB0.out.size));clear hb)
  go_ret2
  exact ⟨rfl,B1.out⟩
 |true=>
  have hr':=hr;rw[Bool.and_eq_true]at hr';have hnm:=pT hr'.2
  have HOF:Hid (∀ w1,Below W.heap.size W w1->Calls Tryz.prog 68 #[.agg #[.string (zW nm),.slice a n c]] w1 fun e w'=>∃tx,e=.returned (.string (zW tx))/\Below w1.heap.size w1 w'/\(tx=sH nm L\/(1048576<tx.length/\1048576<(sH nm L).length))/\tx.length<=1048902):=fun w1 h1=>cI nm a n c L w1 hn (h.below h1) hl hnm (fun p hp=>⟨RS (by have:=hr'.1;unfold pC at this;exact List.all_eq_true.1 this p hp) (hf p hp),(hf p hp).len⟩) (fun w' h'=>ht w' (h1.trans (h'.mono h1.size)))
  rw[hr]at HRT
  by_cases hbig:1048576<(sH nm L).length
  ·have HE:Hid (oD nm L=([],2)):=by show _=_;unfold oD;rw[if_pos hr,if_pos hbig]
   rw[HE.out]
   have HO2:Hid (∀ w1,Below W.heap.size W w1->Calls Tryz.prog 68 #[.agg #[.string (zW nm),.slice a n c]] w1 fun e w'=>∃tx,e=.returned (.string (zW tx))/\Below w1.heap.size w1 w'/\1048576<tx.length/\tx.length<=1048902):=fun w1 h1=>(HOF.out w1 h1).mono fun _ _ ⟨tx,he,hb,hx,hl⟩=>⟨tx,he,hb,by rcases hx with rfl|hx;exact hbig;exact hx.1,hl⟩
   clear hr hr' h hf ht hb0 HOF hbig hnm
   go_enter Tryz.func39,Tryz.ntmps39
   go_wp2_with (first
    |(go_at_call 68;(with_reducible refine (HO2.out _ B1.out).mono ?_);rintro e w2 ⟨tx,rfl,hb,hx,hl2⟩;have B2:=zY (B1.out.trans (hb.mono B1.out.size));have s1:=zB tx;have i1:(1048576:Int)<(tx.length:Int):=by { omega };clear hb)
    |(go_at_call 67;(with_reducible refine (HRT.out _ HB0.out).mono ?_);rintro e w1 ⟨rfl,hb⟩;have B1:=zY (HB0.out.trans (hb.mono HB0.out.size));have k0:w1.cell? ⟨W.heap.size,0,none⟩=some (.string (zW nm)):=(HK0.out.below hb).cell (k:=0) rfl;have k1:w1.cell? ⟨W.heap.size,1,none⟩=some (.slice a n c):=(HK0.out.below hb).cell (k:=1) rfl;clear hb))
   go_ret2
   exact ⟨rfl,B2.out⟩
  have HE:Hid (oD nm L=(sH nm L,0)):=by show _=_;unfold oD;rw[if_pos hr,if_neg hbig]
  rw[HE.out]
  have HO2:Hid (∀ w1,Below W.heap.size W w1->Calls Tryz.prog 68 #[.agg #[.string (zW nm),.slice a n c]] w1 fun e w'=>e=.returned (.string (zW (sH nm L)))/\Below w1.heap.size w1 w'):=fun w1 h1=>(HOF.out w1 h1).mono fun _ _ ⟨tx,he,hb,hx,hl⟩=>by
   rcases hx with rfl|hx
   ·exact ⟨he,hb⟩
   exact absurd hx.2 hbig
  have s1:=zB (sH nm L)
  have i1:¬((1048576:Int)<((sH nm L).length:Int)):=by omega
  have i2:((sH nm L).length:Int)<=1048576:=by omega
  clear hr hr' h hf ht hb0 HOF hbig hnm;generalize sH nm L=FT at *
  go_enter Tryz.func39,Tryz.ntmps39
  go_wp2_with (first
   |(go_at_call 68;(with_reducible refine (HO2.out _ B1.out).mono ?_);rintro e w2 ⟨rfl,hb⟩;have B2:=zY (B1.out.trans (hb.mono B1.out.size));clear hb)
   |(go_at_call 67;(with_reducible refine (HRT.out _ HB0.out).mono ?_);rintro e w1 ⟨rfl,hb⟩;have B1:=zY (HB0.out.trans (hb.mono HB0.out.size));have k0:w1.cell? ⟨W.heap.size,0,none⟩=some (.string (zW nm)):=(HK0.out.below hb).cell (k:=0) rfl;have k1:w1.cell? ⟨W.heap.size,1,none⟩=some (.slice a n c):=(HK0.out.below hb).cell (k:=1) rfl;clear hb))
  go_ret2
  exact ⟨rfl,B2.out⟩
end Go.Proofs.YtdcjdnkdeamigaaGreatDoor
