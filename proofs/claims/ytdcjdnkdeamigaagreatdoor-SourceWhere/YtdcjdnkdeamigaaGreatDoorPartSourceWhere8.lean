/- Texts of one chain. -/
import Derived.Test.YtdcjdnkdeamigaaGreatDoorPartQ
import Derived.Test.YtdcjdnkdeamigaaGreatDoorPartSourceWhere7
import Derived.Test.YtdcjdnkdeamigaaGreatDoorPartSourceWhere4
import Derived.Deep.LoopGhost
import Derived.Deep.DeepCutAuto
set_option maxRecDepth 100000
set_option maxHeartbeats 2000000
namespace Go.Proofs.YtdcjdnkdeamigaaGreatDoor
open Go.ChangeShapes Go.WideShapes Go.ChangeAt Go.RowKit
def wB (n m:Int):Bool:=decide (1<=n)&&decide (n<=m)
def vA (n m:Int):Bool:=wB n 16&&(wB m 64&&decide (n*m<=64))
def iZ (t:Nat) (zs:List Int):Bool:=
 match t with
 |1=>wB (zs.length:Int) 16
 |2=>decide (zs.length=1)&&wB (wF zs 0) 64
 |3=>decide (zs.length=1)&&wB (wF zs 0) 64
 |4=>decide (zs.length=2)&&vA (wF zs 0) (wF zs 1)
 |5=>decide (zs.length=2)&&vA (wF zs 0) (wF zs 1)
 |6=>decide (zs.length=1)&&wB (wF zs 0) 16
 |9=>decide (zs.length=1)&&wB (wF zs 0) 16
 |10=>decide (zs.length=2)
 |11=>decide (zs.length=1)&&wB (wF zs 0) 64
 |_=>decide (zs.length=0)
def QJ (n x:Int):List Int:=List.replicate n.toNat x
def kA (t:Nat) (zs:List Int):List Int:=
 match t with
 |3=>[wF zs 0]
 |4=>QJ (wF zs 0) (wF zs 1)
 |5=>[wF zs 0*wF zs 1]
 |6=>QJ (wF zs 0) 1
 |7=>[1,1]
 |10=>[]
 |11=>[wF zs 0]
 |_=>[1]
def pY (t:Nat) (zs:List Int):List Int:=
 match t with
 |2=>[wF zs 0]
 |4=>[wF zs 0*wF zs 1]
 |5=>QJ (wF zs 0) (wF zs 1)
 |9=>QJ (wF zs 0) 1
 |11=>[]
 |_=>[1]
theorem tX {p:Prop} (h:p):Hid p:=h
theorem vJ {w w':World} (hb:Below w.heap.size w w') {p:Addr} {x:Value} (h:w.cell? p=some x):w'.cell? p=some x:=(hb.cell (block_lt_of_cell h)).trans h
theorem tB (n m:Int) (w:World):Calls Tryz.prog 189 #[.int .i64 n,.int .i64 m] w fun e w'=>e=.returned (.bool (wB n m))/\w'=w:=by
 unfold wB
 by_cases h1:1<=n
 ·rw [decide_eq_true h1]
  by_cases h2:n<=m
  ·rw [decide_eq_true h2]
   go_enter Tryz.func189,Tryz.ntmps189
   go_wp2
   go_ret
   exact ⟨rfl,rfl⟩
  rw[decide_eq_false h2]
  go_enter Tryz.func189,Tryz.ntmps189
  go_wp2
  go_ret
  exact ⟨rfl,rfl⟩
 rw[decide_eq_false h1]
 go_enter Tryz.func189,Tryz.ntmps189
 go_wp2
 go_ret
 exact ⟨rfl,rfl⟩
theorem lQ {n m:Int} (h:wB n m=true):1<=n/\n<=m:=by
 unfold wB at h;rw[Bool.and_eq_true,decide_eq_true_iff,decide_eq_true_iff]at h;exact h
theorem gH {n m:Int} (h1:1<=n/\n<=16) (h2:1<=m/\m<=64):1<=n*m/\n*m<=1024:=
 ⟨Int.mul_pos (by omega:0<n) (by omega:0<m),Int.mul_le_mul h1.2 h2.2 (by omega) (by omega)⟩
theorem ZW (n m:Int) (w:World):Calls Tryz.prog 190 #[.int .i64 n,.int .i64 m] w fun e w'=>e=.returned (.bool (vA n m))/\w'=w:=by
 have H:Hid (∀ x y w1,Calls Tryz.prog 189 #[.int .i64 x,.int .i64 y] w1 fun e w'=>e=.returned (.bool (wB x y))/\w'=w1):=fun x y w1=>tB x y w1
 unfold vA
 cases h1:wB n 16 with
 |false=>
  go_enter Tryz.func190,Tryz.ntmps190
  go_wp2_with (go_at_call 189;(with_reducible refine (H.out _ _ _).mono ?_);rintro e w' ⟨rfl,rfl⟩;rw[h1])
  go_ret
  exact ⟨rfl,rfl⟩
 |true=>
  cases h2:wB m 64 with
  |false=>
   go_enter Tryz.func190,Tryz.ntmps190
   go_wp2_with (first
    |(go_at_call 189;(with_reducible refine (H.out n 16 _).mono ?_);rintro e w' ⟨rfl,rfl⟩;rw[h1])
    |(go_at_call 189;(with_reducible refine (H.out m 64 _).mono ?_);rintro e w' ⟨rfl,rfl⟩;rw[h2]))
   go_ret
   exact ⟨rfl,rfl⟩
  |true=>
   have hb:=gH (lQ h1) (lQ h2);obtain ⟨x,hx⟩:∃x,n*m=x:=⟨_,rfl⟩;rw[hx]at hb ⊢
   go_enter Tryz.func190,Tryz.ntmps190
   go_wp2_with (first
    |(go_at_call 189;(with_reducible refine (H.out n 16 _).mono ?_);rintro e w' ⟨rfl,rfl⟩;rw[h1])
    |(go_at_call 189;(with_reducible refine (H.out m 64 _).mono ?_);rintro e w' ⟨rfl,rfl⟩;rw[h2]))
   go_ret
   exact ⟨by simp,rfl⟩
theorem gG (t:Nat) (w:World) (ht:t<=255):Calls Tryz.prog 143 #[.int .u8 (t:Int)] w fun e w'=>e=.returned (.bool (decide (1<=t)&&decide (t<=11)))/\w'=w:=by
 by_cases h1:1<=t
 ·have h1':(1:Int)<=(t:Int):=by omega
  rw[decide_eq_true h1]
  by_cases h2:t<=11
  ·have h2':(t:Int)<=11:=by omega
   rw[decide_eq_true h2]
   go_enter Tryz.func143,Tryz.ntmps143
   go_wp2
   go_ret
   exact ⟨rfl,rfl⟩
  have h2':¬(t:Int)<=11:=by omega
  rw[decide_eq_false h2]
  go_enter Tryz.func143,Tryz.ntmps143
  go_wp2
  go_ret
  exact ⟨rfl,rfl⟩
 have h1':¬(1:Int)<=(t:Int):=by omega
 rw[decide_eq_false h1]
 go_enter Tryz.func143,Tryz.ntmps143
 go_wp2
 go_ret
 exact ⟨rfl,rfl⟩
def YE (w:World) (zs:List Int) (e:Ending) (w':World):Prop:=∃(a:Option Addr) (cap:Nat),e=.returned (.slice a zs.length cap)/\xM w.heap.size w' a cap zs/\Below w.heap.size w w'
theorem pQ (b:Nat) (zs:List Int) (cap:Nat) (w:World) (hl:zs.length<=16) (h:At w (some ⟨b,0,none⟩) zs):
 Calls Tryz.prog 191 #[.slice (some ⟨b,0,none⟩) zs.length cap] w (YE w zs):=by
 obtain ⟨i0,hi,hz0,hz1,hz2⟩:=info_parts Tryz.info3
 go_enter Tryz.func191,Tryz.ntmps191
 go_wp2_with (at_builtin;refine wpList_append_own _ rfl _ _ 60 rfl w.heap.size 3 i0 (.int .i64 0) 1 8 Tryz.underlying60 hi hz0 hz1 hz2 rfl (by decide) _ 0 [] rfl (World.ownsRow_nil _ _ _ _) ⟨b,0,none⟩ zs.length cap (zs.map (Value.int .i64)) rfl (by simp) (WM h) (ints_oneCell _ _) ?c3 ?c4 (Nat.le_refl _) ?_)
 case c3=>unfold maxLen;omega
 case c4=>omega
 intro v' w1 hown hgrow _
 have hown':w1.ownsRow w.heap.size 3 1 v' zs.length (zs.map (Value.int .i64)):=by simpa using hown
 obtain ⟨a',cap',hv,-,hat',hc',hn',hb'⟩:=dW (n:=zs.length) (zs:=zs) hown';rw[hv]
 go_wp2
 go_ret
 refine ⟨a',cap',rfl,?_,(Below.refl _ _).grown hgrow (Nat.le_refl _) (fun k h=>by cases h)⟩
 unfold xM;rw[<- hv];exact hown'
theorem dA (w:World):Calls Tryz.prog 191 #[qN] w fun e w'=>e=.returned (qN)/\w'=w:=by
 obtain ⟨i0,hi,hz0,hz1,hz2⟩:=info_parts Tryz.info3
 go_enter Tryz.func191,Tryz.ntmps191
 go_wp2_with (at_builtin;refine wpList_append_own_none rfl _ _ 60 rfl w.heap.size 3 i0 1 Tryz.underlying60 hi _ 0 [] rfl (World.ownsRow_nil _ _ _ _) rfl ?_)
 go_ret
 exact ⟨rfl,rfl⟩
theorem OO (n:Nat) (x:Int) (w:World) (hn:n<=16):
 Calls Tryz.prog 192 #[.int .i64 (n:Int),.int .i64 x] w (YE w (List.replicate n x)):=by
 obtain ⟨i0,hi,hz0,hz1,hz2⟩:=info_parts Tryz.info3
 go_enter Tryz.func192,Tryz.ntmps192
 go_wp2_with (at_make;refine wpList_make_full _ rfl _ _ 60 rfl w.heap.size 3 i0 (.int .i64 0) 1 Tryz.underlying60 hi hz0 hz1 _ _ _ _ n rfl rfl rfl rfl (by rw[hz2];omega) (by unfold maxLen;omega) (Nat.le_refl _) ?_;intro w0 hown0 hgrow0;have hbel0:=(Below.refl w.heap.size w).grown hgrow0 (Nat.le_refl _) (fun k h=>by cases h))
 have hcap0:xM w.heap.size w0 (some ⟨w.heap.size,0,none⟩) n (List.replicate 0 x++List.replicate n 0):=by
  unfold xM
  have e:(madeCells (Value.cells (.int .i64 0)) (n*1)).toList=(List.replicate 0 x++List.replicate n 0).map (Value.int .i64):=by
   show (madeCells #[.int .i64 0] (n*1)).toList=_
   apply List.ext_getElem?
   intro k;rw[Nat.mul_one]
   by_cases hk:k<n<;>simp[madeCells,hk,Nat.mod_one]
  rw[e]at hown0
  simpa using hown0
 have HC0:=tX hcap0;have HB0:=tX hbel0;clear hown0 hgrow0 hcap0 hbel0
 go_loopg [11] n (fun gk v wr=>∃k:Nat,k<=n/\gk=n-k/\v=.int .i64 (k:Int)/\xM w.heap.size wr (some ⟨w.heap.size,0,none⟩) n (List.replicate k x++List.replicate (n-k) 0)/\Below w.heap.size w wr)
 case atStart=>exact ⟨0,Nat.zero_le _,rfl,rfl,HC0.out,HB0.out⟩
 case round=>
  clear HC0 HB0;obtain ⟨k,hk,rfl,rfl,hC,hB⟩:=hrel
  by_cases hlt:k<n
  ·have hki:(k:Int)<(n:Int):=by omega
   have es:List.replicate (n-k) (0:Int)=0::List.replicate (n-(k+1)) 0:=by
    rw[show n-k=(n-(k+1))+1 by omega,List.replicate_succ]
   rw[es]at hC;have hc:=hC.hd (k:=k) (by simp);have hf:=hC.fz k
   have hC2:Hid (xM w.heap.size (wr.setCell ⟨w.heap.size,k,none⟩ (.int .i64 x)) (some ⟨w.heap.size,0,none⟩) n (List.replicate (k+1) x++List.replicate (n-(k+1)) 0)):=by
    have h1:=hC.set (k:=k) x (by simp);rw[show List.replicate (k+1) x++List.replicate (n-(k+1)) 0=List.replicate k x++x::List.replicate (n-(k+1)) 0 by rw[List.replicate_succ',List.append_assoc];rfl];exact h1
   have HB:=tX (hB.setCell (p:=⟨w.heap.size,k,none⟩) (Nat.le_refl _) (.int .i64 x));clear hC hB es
   go_wp2
   go_roundg (n-(k+1))
   case measure=>omega
   case rel=>exact ⟨k+1,by omega,rfl,by go_num,hC2.out,HB.out⟩
  have ek:k=n:=by omega
  subst ek
  have hki:¬(k:Int)<(k:Int):=by omega
  rw[Nat.sub_self,List.replicate_zero,List.append_nil]at hC;have HC:=tX hC;clear hC
  go_wp2
  go_ret
  refine ⟨_,_,?_,HC.out,hB⟩
  rw[List.length_replicate];rfl
theorem GX (a:Option Addr) (zs:List Int) (len cap:Nat) (w:World) (hl:zs.length=len):
 Calls Tryz.prog 176 #[.int .u8 1,.slice a len cap] w fun e w'=>e=.returned (.bool (iZ 1 zs))/\Below w.heap.size w w':=by
 have B:Hid (Below w.heap.size w w):=Below.refl _ _;subst hl;unfold iZ
 go_enter Tryz.func176,Tryz.ntmps176
 go_wp2_with (go_at_call 189;(with_reducible refine (tB _ _ _).mono ?_);rintro e w' ⟨rfl,rfl⟩)
 go_ret
 exact ⟨rfl,B.out⟩
theorem GW (a:Option Addr) (zs:List Int) (len cap:Nat) (w:World) (hl:zs.length=len) (h:At w a zs):
 Calls Tryz.prog 176 #[.int .u8 2,.slice a len cap] w fun e w'=>e=.returned (.bool (iZ 2 zs))/\Below w.heap.size w w':=by
 have B:Hid (Below w.heap.size w w):=Below.refl _ _
 have e:iZ 2 zs=(decide (len=1)&&wB (wF zs 0) 64):=by rw[<- hl];rfl
 rw[e];clear e
 by_cases h1:len=1
 ·have l1:((len:Int)==1)=true:=by simp;omega
  rw[decide_eq_true h1]
  rcases h with h0|⟨b,off,rfl,hc⟩
  ·rw [h0]at hl;simp at hl;omega
  have c0:=hc 0 (by omega);rw[Nat.add_zero]at c0
  have l2:(0:Int)<(len:Int):=by omega
  clear hc;generalize wF zs 0=p0 at *
  go_enter Tryz.func176,Tryz.ntmps176
  go_wp2_with (go_at_call 189;(with_reducible refine (tB _ _ _).mono ?_);rintro e w' ⟨rfl,rfl⟩)
  go_ret
  exact ⟨by simp,B.out⟩
 have l1:((len:Int)==1)=false:=by simp;omega
 rw[decide_eq_false h1]
 go_enter Tryz.func176,Tryz.ntmps176
 go_wp2
 go_ret
 exact ⟨rfl,B.out⟩
theorem GV (a:Option Addr) (zs:List Int) (len cap:Nat) (w:World) (hl:zs.length=len) (h:At w a zs):
 Calls Tryz.prog 176 #[.int .u8 3,.slice a len cap] w fun e w'=>e=.returned (.bool (iZ 3 zs))/\Below w.heap.size w w':=by
 have B:Hid (Below w.heap.size w w):=Below.refl _ _
 have e:iZ 3 zs=(decide (len=1)&&wB (wF zs 0) 64):=by rw[<- hl];rfl
 rw[e];clear e
 by_cases h1:len=1
 ·have l1:((len:Int)==1)=true:=by simp;omega
  rw[decide_eq_true h1]
  rcases h with h0|⟨b,off,rfl,hc⟩
  ·rw [h0]at hl;simp at hl;omega
  have c0:=hc 0 (by omega);rw[Nat.add_zero]at c0
  have l2:(0:Int)<(len:Int):=by omega
  clear hc;generalize wF zs 0=p0 at *
  go_enter Tryz.func176,Tryz.ntmps176
  go_wp2_with (go_at_call 189;(with_reducible refine (tB _ _ _).mono ?_);rintro e w' ⟨rfl,rfl⟩)
  go_ret
  exact ⟨by simp,B.out⟩
 have l1:((len:Int)==1)=false:=by simp;omega
 rw[decide_eq_false h1]
 go_enter Tryz.func176,Tryz.ntmps176
 go_wp2
 go_ret
 exact ⟨rfl,B.out⟩
theorem GU (a:Option Addr) (zs:List Int) (len cap:Nat) (w:World) (hl:zs.length=len) (h:At w a zs):
 Calls Tryz.prog 176 #[.int .u8 4,.slice a len cap] w fun e w'=>e=.returned (.bool (iZ 4 zs))/\Below w.heap.size w w':=by
 have B:Hid (Below w.heap.size w w):=Below.refl _ _
 have e:iZ 4 zs=(decide (len=2)&&vA (wF zs 0) (wF zs 1)):=by rw[<- hl];rfl
 rw[e];clear e
 by_cases h1:len=2
 ·have l2i:((len:Int)==2)=true:=by simp;omega
  have l2:(1:Int)<(len:Int):=by omega
  have m0:0<len:=by omega
  rw[decide_eq_true h1]
  rcases h with h0|⟨b,off,rfl,hc⟩
  ·rw [h0]at hl;simp at hl;omega
  have c0:=hc 0 (by omega);have c1:=hc 1 (by omega);rw[Nat.add_zero]at c0;clear hc;generalize wF zs 0=p0 at *;generalize wF zs 1=p1 at *
  go_enter Tryz.func176,Tryz.ntmps176
  go_wp2
  refine yP [] (fun d i u z=>match i with
   |0=>z=.slice (some ⟨b,off,none⟩) len cap
   |1=>z=.int .i64 (len:Int)
   |2=>z=.bool true
   |3=>z=.bool true
   |4=>z=.slice (some ⟨b,off,none⟩) len cap
   |5=>z=.pointer (some ⟨b,off,none⟩)
   |6=>z=.int .i64 p0
   |7=>z=.slice (some ⟨b,off,none⟩) len cap
   |8=>z=.pointer (some ⟨b,off+1,none⟩)
   |9=>z=.int .i64 p1
   |10=>z=.bool (vA p0 p1)
   |11=>z=.bool (vA p0 p1)
   |12=>z=.bool (vA p0 p1)
   |_=>True) (fun _ u=>u.cell? ⟨b,off,none⟩=some (.int .i64 p0)/\u.cell? ⟨b,off+1,none⟩=some (.int .i64 p1)/\Below w.heap.size w u) (by kernel_rfl) (by kernel_rfl) (by kernel_rfl) ?_ ?_ ?_ ?_ ?_ ?_ (by kernel_rfl)
  ·intro d i w v w' h hb
   match i,h with
   |0,h=>exact h
   |1,h=>exact h
   |2,h=>exact h
   |3,h=>exact h
   |4,h=>exact h
   |5,h=>exact h
   |6,h=>exact h
   |7,h=>exact h
   |8,h=>exact h
   |9,h=>exact h
   |10,h=>exact h
   |11,h=>exact h
   |12,h=>exact h
   |_+13,_=>trivial
  ·intro d u u' h hb
   exact ⟨vJ hb h.1,vJ hb h.2.1,h.2.2.trans (hb.mono h.2.2.size)⟩
  ·exact ⟨c0,c1,Below.refl _ _⟩
  ·intro d i o ρ w' hm ho hf hg hC hcs hfs hfr zX
   match i,hm,ho,hf,hg,hfr,zX with
   |0,_,ho,hf,hg,hfr,zX=>
    simp only[qS]at ho;subst ho;refine ⟨fun _=>?_,qF⟩
    have ts: ρ (.tmp 1)=.slice (some ⟨b,off,none⟩) len cap:=(qR hfr 1);simp[go_sem,ts];exact qB
   |1,_,ho,hf,hg,hfr,zX=>
    simp only[qS]at ho;subst ho;refine ⟨fun _=>?_,qF⟩
    have d0: ρ (.tmp 39)=.slice (some ⟨b,off,none⟩) len cap:=(qH zX 0 39);simp[go_sem,d0];exact qB
   |2,_,ho,hf,hg,hfr,zX=>
    simp only[qS]at ho;subst ho;refine ⟨fun _=>?_,qF⟩
    have d0: ρ (.tmp 40)=.int .i64 (len:Int):=(qH zX 1 40);simp[go_sem,d0,hcs,l2i];exact qB
   |3,_,ho,hf,hg,hfr,zX=>
    simp only[qS]at ho;subst ho;refine ⟨fun _=>?_,qF⟩
    have d0: ρ (.tmp 41)=.bool true:=(qH zX 2 41);simp[go_sem,d0];exact qB
   |4,_,ho,hf,hg,hfr,zX=>
    simp only[qS]at ho;subst ho;have gd: ρ (.tmp 42)=.bool true:=(qH zX 3 42);refine ⟨fun _=>?_,fun hw=>absurd (show (match ρ (.tmp 42) with|.bool c=>c==true|_=>false)=false from hw) (by rw[gd];decide)⟩
    clear gd;have ts: ρ (.tmp 1)=.slice (some ⟨b,off,none⟩) len cap:=(qR hfr 1);simp[go_sem,ts];exact qB
   |5,_,ho,hf,hg,hfr,zX=>
    simp only[qS]at ho;subst ho;have gd: ρ (.tmp 42)=.bool true:=(qH zX 3 42);refine ⟨fun _=>?_,fun hw=>absurd (show (match ρ (.tmp 42) with|.bool c=>c==true|_=>false)=false from hw) (by rw[gd];decide)⟩
    clear gd;have d0: ρ (.tmp 43)=.slice (some ⟨b,off,none⟩) len cap:=(qH zX 4 43);simp[go_sem,d0,hcs,m0];exact qB
   |6,_,ho,hf,hg,hfr,zX=>
    simp only[qS]at ho;subst ho;have gd: ρ (.tmp 42)=.bool true:=(qH zX 3 42);refine ⟨fun _=>?_,fun hw=>absurd (show (match ρ (.tmp 42) with|.bool c=>c==true|_=>false)=false from hw) (by rw[gd];decide)⟩
    clear gd;have c0:=hC.1;have d0: ρ (.tmp 44)=.pointer (some ⟨b,off,none⟩):=(qH zX 5 44);simp[go_sem,d0,c0];exact qB
   |7,_,ho,hf,hg,hfr,zX=>
    simp only[qS]at ho;subst ho;have gd: ρ (.tmp 42)=.bool true:=(qH zX 3 42);refine ⟨fun _=>?_,fun hw=>absurd (show (match ρ (.tmp 42) with|.bool c=>c==true|_=>false)=false from hw) (by rw[gd];decide)⟩
    clear gd;have ts: ρ (.tmp 1)=.slice (some ⟨b,off,none⟩) len cap:=(qR hfr 1);simp[go_sem,ts];exact qB
   |8,_,ho,hf,hg,hfr,zX=>
    simp only[qS]at ho;subst ho;have gd: ρ (.tmp 42)=.bool true:=(qH zX 3 42);refine ⟨fun _=>?_,fun hw=>absurd (show (match ρ (.tmp 42) with|.bool c=>c==true|_=>false)=false from hw) (by rw[gd];decide)⟩
    clear gd;have d0: ρ (.tmp 46)=.slice (some ⟨b,off,none⟩) len cap:=(qH zX 7 46);simp[go_sem,d0,hcs,l2];exact qB
   |9,_,ho,hf,hg,hfr,zX=>
    simp only[qS]at ho;subst ho;have gd: ρ (.tmp 42)=.bool true:=(qH zX 3 42);refine ⟨fun _=>?_,fun hw=>absurd (show (match ρ (.tmp 42) with|.bool c=>c==true|_=>false)=false from hw) (by rw[gd];decide)⟩
    clear gd;have c1:=hC.2;have d0: ρ (.tmp 47)=.pointer (some ⟨b,off+1,none⟩):=(qH zX 8 47);simp[go_sem,d0,c1];exact qB
   |10,_,ho,hf,hg,hfr,zX=>
    simp only[qS]at ho;subst ho;have gd: ρ (.tmp 42)=.bool true:=(qH zX 3 42);refine ⟨fun _=>?_,fun hw=>absurd (show (match ρ (.tmp 42) with|.bool c=>c==true|_=>false)=false from hw) (by rw[gd];decide)⟩
    clear gd;have d0: ρ (.tmp 45)=.int .i64 p0:=(qH zX 6 45);have d1: ρ (.tmp 48)=.int .i64 p1:=(qH zX 9 48);simp[go_sem,d0,d1,hfs];exact ⟨rfl,(ZW p0 p1 w').mono fun e u h=>⟨_,h.1,by rw[h.2];exact Below.refl _ _,rfl⟩⟩
   |11,_,ho,hf,hg,hfr,zX=>
    simp only[qS]at ho;subst ho;refine ⟨fun _=>?_,qF⟩
    have d0: ρ (.tmp 42)=.bool true:=(qH zX 3 42);have d1: ρ (.tmp 49)=.bool (vA p0 p1):=(qH zX 10 49);simp[go_sem,d0,d1];exact qB
   |12,_,ho,hf,hg,hfr,zX=>
    simp only[qS]at ho;subst ho;refine ⟨fun _=>?_,qF⟩
    have d0: ρ (.tmp 50)=.bool (vA p0 p1):=(qH zX 11 50);simp[go_sem,d0];exact qB
   |n+13,_,ho,_,_,_,_=>simp at ho
  ·intro d i o ρ w' hm ho h0 hf hg hC hcs hfs hfr zX
   exact absurd hm (by simp)
  intro V w9 hC9 hS;have e12:V 12=.bool (vA p0 p1):=hS 12 (by decide) (by intro h;cases h);simp only[xA,e12];simp only[Act.put,qU];clear hS e12
  go_wp2
  go_ret
  exact ⟨by simp,hC9.2.2⟩
 have l2i:((len:Int)==2)=false:=by simp;omega
 rw[decide_eq_false h1]
 go_enter Tryz.func176,Tryz.ntmps176
 go_wp2
 refine yP [] (fun d i u z=>match i with
  |0=>z=.slice a len cap
  |1=>z=.int .i64 (len:Int)
  |2=>z=.bool false
  |3=>z=.bool false
  |4=>z=undef
  |5=>z=undef
  |6=>z=undef
  |7=>z=undef
  |8=>z=undef
  |9=>z=undef
  |10=>z=undef
  |11=>z=.bool false
  |12=>z=.bool false
  |_=>True) (fun _ u=>Below w.heap.size w u) (by kernel_rfl) (by kernel_rfl) (by kernel_rfl) ?_ ?_ ?_ ?_ ?_ ?_ (by kernel_rfl)
 ·intro d i w v w' h hb
  match i,h with
  |0,h=>exact h
  |1,h=>exact h
  |2,h=>exact h
  |3,h=>exact h
  |4,h=>exact h
  |5,h=>exact h
  |6,h=>exact h
  |7,h=>exact h
  |8,h=>exact h
  |9,h=>exact h
  |10,h=>exact h
  |11,h=>exact h
  |12,h=>exact h
  |_+13,_=>trivial
 ·intro d u u' h hb
  exact h.trans (hb.mono h.size)
 ·exact Below.refl _ _
 ·intro d i o ρ w' hm ho hf hg hC hcs hfs hfr zX
  match i,hm,ho,hf,hg,hfr,zX with
  |0,_,ho,hf,hg,hfr,zX=>
   simp only[qS]at ho;subst ho;refine ⟨fun _=>?_,qF⟩
   have ts: ρ (.tmp 1)=.slice a len cap:=(qR hfr 1);simp[go_sem,ts];exact qB
  |1,_,ho,hf,hg,hfr,zX=>
   simp only[qS]at ho;subst ho;refine ⟨fun _=>?_,qF⟩
   have d0: ρ (.tmp 39)=.slice a len cap:=(qH zX 0 39);simp[go_sem,d0];exact qB
  |2,_,ho,hf,hg,hfr,zX=>
   simp only[qS]at ho;subst ho;refine ⟨fun _=>?_,qF⟩
   have d0: ρ (.tmp 40)=.int .i64 (len:Int):=(qH zX 1 40);simp[go_sem,d0,hcs,l2i];exact qB
  |3,_,ho,hf,hg,hfr,zX=>
   simp only[qS]at ho;subst ho;refine ⟨fun _=>?_,qF⟩
   have d0: ρ (.tmp 41)=.bool false:=(qH zX 2 41);simp[go_sem,d0];exact qB
  |4,_,ho,hf,hg,hfr,zX=>
   simp only[qS]at ho;subst ho;have gd: ρ (.tmp 42)=.bool false:=(qH zX 3 42);exact ⟨fun hw=>absurd (show (match ρ (.tmp 42) with|.bool c=>c==true|_=>false)=true from hw) (by rw[gd];decide),fun _=>rfl⟩
  |5,_,ho,hf,hg,hfr,zX=>
   simp only[qS]at ho;subst ho;have gd: ρ (.tmp 42)=.bool false:=(qH zX 3 42);exact ⟨fun hw=>absurd (show (match ρ (.tmp 42) with|.bool c=>c==true|_=>false)=true from hw) (by rw[gd];decide),fun _=>rfl⟩
  |6,_,ho,hf,hg,hfr,zX=>
   simp only[qS]at ho;subst ho;have gd: ρ (.tmp 42)=.bool false:=(qH zX 3 42);exact ⟨fun hw=>absurd (show (match ρ (.tmp 42) with|.bool c=>c==true|_=>false)=true from hw) (by rw[gd];decide),fun _=>rfl⟩
  |7,_,ho,hf,hg,hfr,zX=>
   simp only[qS]at ho;subst ho;have gd: ρ (.tmp 42)=.bool false:=(qH zX 3 42);exact ⟨fun hw=>absurd (show (match ρ (.tmp 42) with|.bool c=>c==true|_=>false)=true from hw) (by rw[gd];decide),fun _=>rfl⟩
  |8,_,ho,hf,hg,hfr,zX=>
   simp only[qS]at ho;subst ho;have gd: ρ (.tmp 42)=.bool false:=(qH zX 3 42);exact ⟨fun hw=>absurd (show (match ρ (.tmp 42) with|.bool c=>c==true|_=>false)=true from hw) (by rw[gd];decide),fun _=>rfl⟩
  |9,_,ho,hf,hg,hfr,zX=>
   simp only[qS]at ho;subst ho;have gd: ρ (.tmp 42)=.bool false:=(qH zX 3 42);exact ⟨fun hw=>absurd (show (match ρ (.tmp 42) with|.bool c=>c==true|_=>false)=true from hw) (by rw[gd];decide),fun _=>rfl⟩
  |10,_,ho,hf,hg,hfr,zX=>
   simp only[qS]at ho;subst ho;have gd: ρ (.tmp 42)=.bool false:=(qH zX 3 42);exact ⟨fun hw=>absurd (show (match ρ (.tmp 42) with|.bool c=>c==true|_=>false)=true from hw) (by rw[gd];decide),fun _=>rfl⟩
  |11,_,ho,hf,hg,hfr,zX=>
   simp only[qS]at ho;subst ho;refine ⟨fun _=>?_,qF⟩
   have d0: ρ (.tmp 42)=.bool false:=(qH zX 3 42);simp[go_sem,d0,hcs];exact qB
  |12,_,ho,hf,hg,hfr,zX=>
   simp only[qS]at ho;subst ho;refine ⟨fun _=>?_,qF⟩
   have d0: ρ (.tmp 50)=.bool false:=(qH zX 11 50);simp[go_sem,d0];exact qB
  |n+13,_,ho,_,_,_,_=>simp at ho
 ·intro d i o ρ w' hm ho h0 hf hg hC hcs hfs hfr zX
  exact absurd hm (by simp)
 intro V w9 hC9 hS;have e12:V 12=.bool false:=hS 12 (by decide) (by intro h;cases h);simp only[xA,e12];simp only[Act.put,qU];clear hS e12
 go_wp2
 go_ret
 exact ⟨rfl,hC9⟩
theorem GT (a:Option Addr) (zs:List Int) (len cap:Nat) (w:World) (hl:zs.length=len) (h:At w a zs):
 Calls Tryz.prog 176 #[.int .u8 5,.slice a len cap] w fun e w'=>e=.returned (.bool (iZ 5 zs))/\Below w.heap.size w w':=by
 have B:Hid (Below w.heap.size w w):=Below.refl _ _
 have e:iZ 5 zs=(decide (len=2)&&vA (wF zs 0) (wF zs 1)):=by rw[<- hl];rfl
 rw[e];clear e
 by_cases h1:len=2
 ·have l2i:((len:Int)==2)=true:=by simp;omega
  have l2:(1:Int)<(len:Int):=by omega
  have m0:0<len:=by omega
  rw[decide_eq_true h1]
  rcases h with h0|⟨b,off,rfl,hc⟩
  ·rw [h0]at hl;simp at hl;omega
  have c0:=hc 0 (by omega);have c1:=hc 1 (by omega);rw[Nat.add_zero]at c0;clear hc;generalize wF zs 0=p0 at *;generalize wF zs 1=p1 at *
  go_enter Tryz.func176,Tryz.ntmps176
  go_wp2
  refine yP [] (fun d i u z=>match i with
   |0=>z=.slice (some ⟨b,off,none⟩) len cap
   |1=>z=.int .i64 (len:Int)
   |2=>z=.bool true
   |3=>z=.bool true
   |4=>z=.slice (some ⟨b,off,none⟩) len cap
   |5=>z=.pointer (some ⟨b,off,none⟩)
   |6=>z=.int .i64 p0
   |7=>z=.slice (some ⟨b,off,none⟩) len cap
   |8=>z=.pointer (some ⟨b,off+1,none⟩)
   |9=>z=.int .i64 p1
   |10=>z=.bool (vA p0 p1)
   |11=>z=.bool (vA p0 p1)
   |12=>z=.bool (vA p0 p1)
   |_=>True) (fun _ u=>u.cell? ⟨b,off,none⟩=some (.int .i64 p0)/\u.cell? ⟨b,off+1,none⟩=some (.int .i64 p1)/\Below w.heap.size w u) (by kernel_rfl) (by kernel_rfl) (by kernel_rfl) ?_ ?_ ?_ ?_ ?_ ?_ (by kernel_rfl)
  ·intro d i w v w' h hb
   match i,h with
   |0,h=>exact h
   |1,h=>exact h
   |2,h=>exact h
   |3,h=>exact h
   |4,h=>exact h
   |5,h=>exact h
   |6,h=>exact h
   |7,h=>exact h
   |8,h=>exact h
   |9,h=>exact h
   |10,h=>exact h
   |11,h=>exact h
   |12,h=>exact h
   |_+13,_=>trivial
  ·intro d u u' h hb
   exact ⟨vJ hb h.1,vJ hb h.2.1,h.2.2.trans (hb.mono h.2.2.size)⟩
  ·exact ⟨c0,c1,Below.refl _ _⟩
  ·intro d i o ρ w' hm ho hf hg hC hcs hfs hfr zX
   match i,hm,ho,hf,hg,hfr,zX with
   |0,_,ho,hf,hg,hfr,zX=>
    simp only[qS]at ho;subst ho;refine ⟨fun _=>?_,qF⟩
    have ts: ρ (.tmp 1)=.slice (some ⟨b,off,none⟩) len cap:=(qR hfr 1);simp[go_sem,ts];exact qB
   |1,_,ho,hf,hg,hfr,zX=>
    simp only[qS]at ho;subst ho;refine ⟨fun _=>?_,qF⟩
    have d0: ρ (.tmp 39)=.slice (some ⟨b,off,none⟩) len cap:=(qH zX 0 39);simp[go_sem,d0];exact qB
   |2,_,ho,hf,hg,hfr,zX=>
    simp only[qS]at ho;subst ho;refine ⟨fun _=>?_,qF⟩
    have d0: ρ (.tmp 40)=.int .i64 (len:Int):=(qH zX 1 40);simp[go_sem,d0,hcs,l2i];exact qB
   |3,_,ho,hf,hg,hfr,zX=>
    simp only[qS]at ho;subst ho;refine ⟨fun _=>?_,qF⟩
    have d0: ρ (.tmp 41)=.bool true:=(qH zX 2 41);simp[go_sem,d0];exact qB
   |4,_,ho,hf,hg,hfr,zX=>
    simp only[qS]at ho;subst ho;have gd: ρ (.tmp 42)=.bool true:=(qH zX 3 42);refine ⟨fun _=>?_,fun hw=>absurd (show (match ρ (.tmp 42) with|.bool c=>c==true|_=>false)=false from hw) (by rw[gd];decide)⟩
    clear gd;have ts: ρ (.tmp 1)=.slice (some ⟨b,off,none⟩) len cap:=(qR hfr 1);simp[go_sem,ts];exact qB
   |5,_,ho,hf,hg,hfr,zX=>
    simp only[qS]at ho;subst ho;have gd: ρ (.tmp 42)=.bool true:=(qH zX 3 42);refine ⟨fun _=>?_,fun hw=>absurd (show (match ρ (.tmp 42) with|.bool c=>c==true|_=>false)=false from hw) (by rw[gd];decide)⟩
    clear gd;have d0: ρ (.tmp 43)=.slice (some ⟨b,off,none⟩) len cap:=(qH zX 4 43);simp[go_sem,d0,hcs,m0];exact qB
   |6,_,ho,hf,hg,hfr,zX=>
    simp only[qS]at ho;subst ho;have gd: ρ (.tmp 42)=.bool true:=(qH zX 3 42);refine ⟨fun _=>?_,fun hw=>absurd (show (match ρ (.tmp 42) with|.bool c=>c==true|_=>false)=false from hw) (by rw[gd];decide)⟩
    clear gd;have c0:=hC.1;have d0: ρ (.tmp 44)=.pointer (some ⟨b,off,none⟩):=(qH zX 5 44);simp[go_sem,d0,c0];exact qB
   |7,_,ho,hf,hg,hfr,zX=>
    simp only[qS]at ho;subst ho;have gd: ρ (.tmp 42)=.bool true:=(qH zX 3 42);refine ⟨fun _=>?_,fun hw=>absurd (show (match ρ (.tmp 42) with|.bool c=>c==true|_=>false)=false from hw) (by rw[gd];decide)⟩
    clear gd;have ts: ρ (.tmp 1)=.slice (some ⟨b,off,none⟩) len cap:=(qR hfr 1);simp[go_sem,ts];exact qB
   |8,_,ho,hf,hg,hfr,zX=>
    simp only[qS]at ho;subst ho;have gd: ρ (.tmp 42)=.bool true:=(qH zX 3 42);refine ⟨fun _=>?_,fun hw=>absurd (show (match ρ (.tmp 42) with|.bool c=>c==true|_=>false)=false from hw) (by rw[gd];decide)⟩
    clear gd;have d0: ρ (.tmp 46)=.slice (some ⟨b,off,none⟩) len cap:=(qH zX 7 46);simp[go_sem,d0,hcs,l2];exact qB
   |9,_,ho,hf,hg,hfr,zX=>
    simp only[qS]at ho;subst ho;have gd: ρ (.tmp 42)=.bool true:=(qH zX 3 42);refine ⟨fun _=>?_,fun hw=>absurd (show (match ρ (.tmp 42) with|.bool c=>c==true|_=>false)=false from hw) (by rw[gd];decide)⟩
    clear gd;have c1:=hC.2;have d0: ρ (.tmp 47)=.pointer (some ⟨b,off+1,none⟩):=(qH zX 8 47);simp[go_sem,d0,c1];exact qB
   |10,_,ho,hf,hg,hfr,zX=>
    simp only[qS]at ho;subst ho;have gd: ρ (.tmp 42)=.bool true:=(qH zX 3 42);refine ⟨fun _=>?_,fun hw=>absurd (show (match ρ (.tmp 42) with|.bool c=>c==true|_=>false)=false from hw) (by rw[gd];decide)⟩
    clear gd;have d0: ρ (.tmp 45)=.int .i64 p0:=(qH zX 6 45);have d1: ρ (.tmp 48)=.int .i64 p1:=(qH zX 9 48);simp[go_sem,d0,d1,hfs];exact ⟨rfl,(ZW p0 p1 w').mono fun e u h=>⟨_,h.1,by rw[h.2];exact Below.refl _ _,rfl⟩⟩
   |11,_,ho,hf,hg,hfr,zX=>
    simp only[qS]at ho;subst ho;refine ⟨fun _=>?_,qF⟩
    have d0: ρ (.tmp 42)=.bool true:=(qH zX 3 42);have d1: ρ (.tmp 49)=.bool (vA p0 p1):=(qH zX 10 49);simp[go_sem,d0,d1];exact qB
   |12,_,ho,hf,hg,hfr,zX=>
    simp only[qS]at ho;subst ho;refine ⟨fun _=>?_,qF⟩
    have d0: ρ (.tmp 50)=.bool (vA p0 p1):=(qH zX 11 50);simp[go_sem,d0];exact qB
   |n+13,_,ho,_,_,_,_=>simp at ho
  ·intro d i o ρ w' hm ho h0 hf hg hC hcs hfs hfr zX
   exact absurd hm (by simp)
  intro V w9 hC9 hS;have e12:V 12=.bool (vA p0 p1):=hS 12 (by decide) (by intro h;cases h);simp only[xA,e12];simp only[Act.put,qU];clear hS e12
  go_wp2
  go_ret
  exact ⟨by simp,hC9.2.2⟩
 have l2i:((len:Int)==2)=false:=by simp;omega
 rw[decide_eq_false h1]
 go_enter Tryz.func176,Tryz.ntmps176
 go_wp2
 refine yP [] (fun d i u z=>match i with
  |0=>z=.slice a len cap
  |1=>z=.int .i64 (len:Int)
  |2=>z=.bool false
  |3=>z=.bool false
  |4=>z=undef
  |5=>z=undef
  |6=>z=undef
  |7=>z=undef
  |8=>z=undef
  |9=>z=undef
  |10=>z=undef
  |11=>z=.bool false
  |12=>z=.bool false
  |_=>True) (fun _ u=>Below w.heap.size w u) (by kernel_rfl) (by kernel_rfl) (by kernel_rfl) ?_ ?_ ?_ ?_ ?_ ?_ (by kernel_rfl)
 ·intro d i w v w' h hb
  match i,h with
  |0,h=>exact h
  |1,h=>exact h
  |2,h=>exact h
  |3,h=>exact h
  |4,h=>exact h
  |5,h=>exact h
  |6,h=>exact h
  |7,h=>exact h
  |8,h=>exact h
  |9,h=>exact h
  |10,h=>exact h
  |11,h=>exact h
  |12,h=>exact h
  |_+13,_=>trivial
 ·intro d u u' h hb
  exact h.trans (hb.mono h.size)
 ·exact Below.refl _ _
 ·intro d i o ρ w' hm ho hf hg hC hcs hfs hfr zX
  match i,hm,ho,hf,hg,hfr,zX with
  |0,_,ho,hf,hg,hfr,zX=>
   simp only[qS]at ho;subst ho;refine ⟨fun _=>?_,qF⟩
   have ts: ρ (.tmp 1)=.slice a len cap:=(qR hfr 1);simp[go_sem,ts];exact qB
  |1,_,ho,hf,hg,hfr,zX=>
   simp only[qS]at ho;subst ho;refine ⟨fun _=>?_,qF⟩
   have d0: ρ (.tmp 39)=.slice a len cap:=(qH zX 0 39);simp[go_sem,d0];exact qB
  |2,_,ho,hf,hg,hfr,zX=>
   simp only[qS]at ho;subst ho;refine ⟨fun _=>?_,qF⟩
   have d0: ρ (.tmp 40)=.int .i64 (len:Int):=(qH zX 1 40);simp[go_sem,d0,hcs,l2i];exact qB
  |3,_,ho,hf,hg,hfr,zX=>
   simp only[qS]at ho;subst ho;refine ⟨fun _=>?_,qF⟩
   have d0: ρ (.tmp 41)=.bool false:=(qH zX 2 41);simp[go_sem,d0];exact qB
  |4,_,ho,hf,hg,hfr,zX=>
   simp only[qS]at ho;subst ho;have gd: ρ (.tmp 42)=.bool false:=(qH zX 3 42);exact ⟨fun hw=>absurd (show (match ρ (.tmp 42) with|.bool c=>c==true|_=>false)=true from hw) (by rw[gd];decide),fun _=>rfl⟩
  |5,_,ho,hf,hg,hfr,zX=>
   simp only[qS]at ho;subst ho;have gd: ρ (.tmp 42)=.bool false:=(qH zX 3 42);exact ⟨fun hw=>absurd (show (match ρ (.tmp 42) with|.bool c=>c==true|_=>false)=true from hw) (by rw[gd];decide),fun _=>rfl⟩
  |6,_,ho,hf,hg,hfr,zX=>
   simp only[qS]at ho;subst ho;have gd: ρ (.tmp 42)=.bool false:=(qH zX 3 42);exact ⟨fun hw=>absurd (show (match ρ (.tmp 42) with|.bool c=>c==true|_=>false)=true from hw) (by rw[gd];decide),fun _=>rfl⟩
  |7,_,ho,hf,hg,hfr,zX=>
   simp only[qS]at ho;subst ho;have gd: ρ (.tmp 42)=.bool false:=(qH zX 3 42);exact ⟨fun hw=>absurd (show (match ρ (.tmp 42) with|.bool c=>c==true|_=>false)=true from hw) (by rw[gd];decide),fun _=>rfl⟩
  |8,_,ho,hf,hg,hfr,zX=>
   simp only[qS]at ho;subst ho;have gd: ρ (.tmp 42)=.bool false:=(qH zX 3 42);exact ⟨fun hw=>absurd (show (match ρ (.tmp 42) with|.bool c=>c==true|_=>false)=true from hw) (by rw[gd];decide),fun _=>rfl⟩
  |9,_,ho,hf,hg,hfr,zX=>
   simp only[qS]at ho;subst ho;have gd: ρ (.tmp 42)=.bool false:=(qH zX 3 42);exact ⟨fun hw=>absurd (show (match ρ (.tmp 42) with|.bool c=>c==true|_=>false)=true from hw) (by rw[gd];decide),fun _=>rfl⟩
  |10,_,ho,hf,hg,hfr,zX=>
   simp only[qS]at ho;subst ho;have gd: ρ (.tmp 42)=.bool false:=(qH zX 3 42);exact ⟨fun hw=>absurd (show (match ρ (.tmp 42) with|.bool c=>c==true|_=>false)=true from hw) (by rw[gd];decide),fun _=>rfl⟩
  |11,_,ho,hf,hg,hfr,zX=>
   simp only[qS]at ho;subst ho;refine ⟨fun _=>?_,qF⟩
   have d0: ρ (.tmp 42)=.bool false:=(qH zX 3 42);simp[go_sem,d0,hcs];exact qB
  |12,_,ho,hf,hg,hfr,zX=>
   simp only[qS]at ho;subst ho;refine ⟨fun _=>?_,qF⟩
   have d0: ρ (.tmp 50)=.bool false:=(qH zX 11 50);simp[go_sem,d0];exact qB
  |n+13,_,ho,_,_,_,_=>simp at ho
 ·intro d i o ρ w' hm ho h0 hf hg hC hcs hfs hfr zX
  exact absurd hm (by simp)
 intro V w9 hC9 hS;have e12:V 12=.bool false:=hS 12 (by decide) (by intro h;cases h);simp only[xA,e12];simp only[Act.put,qU];clear hS e12
 go_wp2
 go_ret
 exact ⟨rfl,hC9⟩
theorem GS (a:Option Addr) (zs:List Int) (len cap:Nat) (w:World) (hl:zs.length=len) (h:At w a zs):
 Calls Tryz.prog 176 #[.int .u8 6,.slice a len cap] w fun e w'=>e=.returned (.bool (iZ 6 zs))/\Below w.heap.size w w':=by
 have B:Hid (Below w.heap.size w w):=Below.refl _ _
 have e:iZ 6 zs=(decide (len=1)&&wB (wF zs 0) 16):=by rw[<- hl];rfl
 rw[e];clear e
 by_cases h1:len=1
 ·have l1:((len:Int)==1)=true:=by simp;omega
  rw[decide_eq_true h1]
  rcases h with h0|⟨b,off,rfl,hc⟩
  ·rw [h0]at hl;simp at hl;omega
  have c0:=hc 0 (by omega);rw[Nat.add_zero]at c0
  have l2:(0:Int)<(len:Int):=by omega
  clear hc;generalize wF zs 0=p0 at *
  go_enter Tryz.func176,Tryz.ntmps176
  go_wp2_with (go_at_call 189;(with_reducible refine (tB _ _ _).mono ?_);rintro e w' ⟨rfl,rfl⟩)
  go_ret
  exact ⟨by simp,B.out⟩
 have l1:((len:Int)==1)=false:=by simp;omega
 rw[decide_eq_false h1]
 go_enter Tryz.func176,Tryz.ntmps176
 go_wp2
 go_ret
 exact ⟨rfl,B.out⟩
theorem GQ (a:Option Addr) (zs:List Int) (len cap:Nat) (w:World) (hl:zs.length=len):
 Calls Tryz.prog 176 #[.int .u8 7,.slice a len cap] w fun e w'=>e=.returned (.bool (iZ 7 zs))/\Below w.heap.size w w':=by
 have B:Hid (Below w.heap.size w w):=Below.refl _ _
 have e:iZ 7 zs=decide (len=0):=by rw[<- hl];rfl
 rw[e];clear e
 by_cases h1:len=0
 ·have l1:((len:Int)==0)=true:=by simp;omega
  rw[decide_eq_true h1]
  go_enter Tryz.func176,Tryz.ntmps176
  go_wp2
  go_ret
  exact ⟨by simp,B.out⟩
 have l1:((len:Int)==0)=false:=by simp;omega
 rw[decide_eq_false h1]
 go_enter Tryz.func176,Tryz.ntmps176
 go_wp2
 go_ret
 exact ⟨by simp,B.out⟩
theorem GN (a:Option Addr) (zs:List Int) (len cap:Nat) (w:World) (hl:zs.length=len):
 Calls Tryz.prog 176 #[.int .u8 8,.slice a len cap] w fun e w'=>e=.returned (.bool (iZ 8 zs))/\Below w.heap.size w w':=by
 have B:Hid (Below w.heap.size w w):=Below.refl _ _
 have e:iZ 8 zs=decide (len=0):=by rw[<- hl];rfl
 rw[e];clear e
 by_cases h1:len=0
 ·have l1:((len:Int)==0)=true:=by simp;omega
  rw[decide_eq_true h1]
  go_enter Tryz.func176,Tryz.ntmps176
  go_wp2
  go_ret
  exact ⟨by simp,B.out⟩
 have l1:((len:Int)==0)=false:=by simp;omega
 rw[decide_eq_false h1]
 go_enter Tryz.func176,Tryz.ntmps176
 go_wp2
 go_ret
 exact ⟨by simp,B.out⟩
theorem GM (a:Option Addr) (zs:List Int) (len cap:Nat) (w:World) (hl:zs.length=len) (h:At w a zs):
 Calls Tryz.prog 176 #[.int .u8 9,.slice a len cap] w fun e w'=>e=.returned (.bool (iZ 9 zs))/\Below w.heap.size w w':=by
 have B:Hid (Below w.heap.size w w):=Below.refl _ _
 have e:iZ 9 zs=(decide (len=1)&&wB (wF zs 0) 16):=by rw[<- hl];rfl
 rw[e];clear e
 by_cases h1:len=1
 ·have l1:((len:Int)==1)=true:=by simp;omega
  rw[decide_eq_true h1]
  rcases h with h0|⟨b,off,rfl,hc⟩
  ·rw [h0]at hl;simp at hl;omega
  have c0:=hc 0 (by omega);rw[Nat.add_zero]at c0
  have l2:(0:Int)<(len:Int):=by omega
  clear hc;generalize wF zs 0=p0 at *
  go_enter Tryz.func176,Tryz.ntmps176
  go_wp2_with (go_at_call 189;(with_reducible refine (tB _ _ _).mono ?_);rintro e w' ⟨rfl,rfl⟩)
  go_ret
  exact ⟨by simp,B.out⟩
 have l1:((len:Int)==1)=false:=by simp;omega
 rw[decide_eq_false h1]
 go_enter Tryz.func176,Tryz.ntmps176
 go_wp2
 go_ret
 exact ⟨rfl,B.out⟩
theorem LD (a:Option Addr) (zs:List Int) (len cap:Nat) (w:World) (hl:zs.length=len):
 Calls Tryz.prog 176 #[.int .u8 10,.slice a len cap] w fun e w'=>e=.returned (.bool (iZ 10 zs))/\Below w.heap.size w w':=by
 have B:Hid (Below w.heap.size w w):=Below.refl _ _
 have e:iZ 10 zs=decide (len=2):=by rw[<- hl];rfl
 rw[e];clear e
 by_cases h1:len=2
 ·have l1:((len:Int)==2)=true:=by simp;omega
  rw[decide_eq_true h1]
  go_enter Tryz.func176,Tryz.ntmps176
  go_wp2
  go_ret
  exact ⟨by simp,B.out⟩
 have l1:((len:Int)==2)=false:=by simp;omega
 rw[decide_eq_false h1]
 go_enter Tryz.func176,Tryz.ntmps176
 go_wp2
 go_ret
 exact ⟨by simp,B.out⟩
theorem LC (a:Option Addr) (zs:List Int) (len cap:Nat) (w:World) (hl:zs.length=len) (h:At w a zs):
 Calls Tryz.prog 176 #[.int .u8 11,.slice a len cap] w fun e w'=>e=.returned (.bool (iZ 11 zs))/\Below w.heap.size w w':=by
 have B:Hid (Below w.heap.size w w):=Below.refl _ _
 have e:iZ 11 zs=(decide (len=1)&&wB (wF zs 0) 64):=by rw[<- hl];rfl
 rw[e];clear e
 by_cases h1:len=1
 ·have l1:((len:Int)==1)=true:=by simp;omega
  rw[decide_eq_true h1]
  rcases h with h0|⟨b,off,rfl,hc⟩
  ·rw [h0]at hl;simp at hl;omega
  have c0:=hc 0 (by omega);rw[Nat.add_zero]at c0
  have l2:(0:Int)<(len:Int):=by omega
  clear hc;generalize wF zs 0=p0 at *
  go_enter Tryz.func176,Tryz.ntmps176
  go_wp2_with (go_at_call 189;(with_reducible refine (tB _ _ _).mono ?_);rintro e w' ⟨rfl,rfl⟩)
  go_ret
  exact ⟨by simp,B.out⟩
 have l1:((len:Int)==1)=false:=by simp;omega
 rw[decide_eq_false h1]
 go_enter Tryz.func176,Tryz.ntmps176
 go_wp2
 go_ret
 exact ⟨rfl,B.out⟩
def Pt (u:World) (x:Int) (v:Value):Prop:=∃g,v=.slice (some ⟨g,0,none⟩) 1 1/\At u (some ⟨g,0,none⟩) [x]
def Mk (B:Nat) (u:World) (zs:List Int) (v:Value):Prop:=∃a c,v=.slice a zs.length c/\xM B u a c zs
theorem Pt.later {u u':World} {x:Int} {v:Value} (h:Pt u x v) (hb:Below u.heap.size u u'):Pt u' x v:=by
 obtain ⟨g,e,h⟩:=h;exact ⟨g,e,h.below hb⟩
theorem Mk.later {B:Nat} {u u':World} {zs:List Int} {v:Value} (h:Mk B u zs v) (hb:Below u.heap.size u u'):Mk B u' zs v:=by
 obtain ⟨a,c,e,h⟩:=h;exact ⟨a,c,e,h.later hb⟩
theorem at1n (V:World) (x:Int) (t:TypeId):At (V.alloc (.cells #[.int .i64 x] t)) (some ⟨V.heap.size,0,none⟩) [x]:=by
 refine Or.inr ⟨_,_,rfl,fun k hk=>?_⟩
 match k,hk with
 |0,_=>exact by simp[wF]
theorem cZ (V:World) (x:Int) (t:TypeId):Pt (V.alloc (.cells #[.int .i64 x] t)) x (.slice (some ⟨V.heap.size,0,none⟩) 1 1):=⟨_,rfl,at1n V x t⟩
theorem dV {f:FuncId} {args:Array Value} {w:World} {zs:List Int} {B:Nat} (h:Calls Tryz.prog f args w (YE w zs)) (hB:B<=w.heap.size):Calls Tryz.prog f args w (fun e w'=>∃v,e=.returned v/\Below w.heap.size w w'/\Mk B w' zs v):=
 h.mono fun _ _ ⟨a,c,he,hc,hb⟩=>⟨_,he,hb,a,c,rfl,hc.mono hB⟩
theorem kP (n x:Int) (w:World) (h:1<=n/\n<=16):Calls Tryz.prog 192 #[.int .i64 n,.int .i64 x] w (YE w (QJ n x)):=by
 have e:n=((n.toNat:Nat):Int):=by omega
 unfold QJ;have:=OO n.toNat x w (by omega);rw[<- e]at this;exact this
def vU (w:World) (P Q:List Int) (e:Ending) (w':World):Prop:=
 ∃a c1 b c2,e=.returned (.tuple #[.slice a P.length c1,.slice b Q.length c2])/\xM w.heap.size w' a c1 P/\xM w.heap.size w' b c2 Q/\(∀ x y,a=some x->b=some y->x.block<y.block)/\Below w.heap.size w w'
theorem pU {w w1 w2:World} {B:Nat} {P Q:List Int} {a b:Option Addr} {c1 c2:Nat} (hB:B=w.heap.size) (h1:xM B w1 a c1 P) (hb1:Below B w w1) (h2:xM w1.heap.size w2 b c2 Q) (hb2:Below w1.heap.size w1 w2):
 xM w.heap.size w2 a c1 P/\xM w.heap.size w2 b c2 Q/\(∀ x y,a=some x->b=some y->x.block<y.block)/\Below w.heap.size w w2:=by
 subst hB;refine ⟨h1.later hb2,h2.mono hb1.size,fun x y hx hy=>?_,hb1.trans (hb2.mono hb1.size)⟩
 have:=(h1.lt x hx).2;have:=(h2.lt y hy).1;omega
theorem ZV (g:Nat) (x:Int) (w:World) (h:At w (some ⟨g,0,none⟩) [x]):Calls Tryz.prog 191 #[.slice (some ⟨g,0,none⟩) 1 1] w fun e w'=>∃a c,e=.returned (.slice a 1 c)/\xM w.heap.size w' a c [x]/\Below w.heap.size w w':=
 pQ g [x] 1 w (by simp) h
theorem oE (x:Int) (V:World) (t:TypeId):Calls Tryz.prog 191 #[.slice (some ⟨V.heap.size,0,none⟩) 1 1] (V.alloc (.cells #[.int .i64 x] t)) fun e w'=>∃a c,e=.returned (.slice a 1 c)/\xM V.heap.size w' a c [x]/\Below V.heap.size V w':=
 (pQ V.heap.size [x] 1 _ (by simp) (at1n V x t)).mono fun _ _ ⟨a,c,he,hc,hb⟩=>⟨a,c,he,hc.mono (by simp),((Below.refl V.heap.size V).alloc (Nat.le_refl _) _).trans (hb.mono (by simp))⟩
theorem CX (x y:Int) (V:World) (t:TypeId):Calls Tryz.prog 191 #[.slice (some ⟨V.heap.size,0,none⟩) 2 2] (V.alloc (.cells #[.int .i64 x,.int .i64 y] t)) fun e w'=>∃a c,e=.returned (.slice a 2 c)/\xM V.heap.size w' a c [x,y]/\Below V.heap.size V w':=
 (pQ V.heap.size [x,y] 2 _ (by simp) (at2n rfl)).mono fun _ _ ⟨a,c,he,hc,hb⟩=>⟨a,c,he,hc.mono (by simp),((Below.refl V.heap.size V).alloc (Nat.le_refl _) _).trans (hb.mono (by simp))⟩
theorem QI {x:Int} (h1: -9223372036854775808<=x) (h2:x<=9223372036854775807):IntKind.i64.wrap x=x:=by
 rw[IntKind.wrap_i64];omega
theorem GL (a:Option Addr) (zs:List Int) (len cap:Nat) (w:World):
 Calls Tryz.prog 177 #[.int .u8 1,.slice a len cap] w (vU w (kA 1 zs) (pY 1 zs)):=by
 show Calls _ _ _ _ (vU w [1] [1])
 go_enter Tryz.func177,Tryz.ntmps177
 go_wp2_with (first
  |(go_at_call 191;(with_reducible refine (oE _ w1 _).mono ?_);rintro e w2 ⟨a2,n2,rfl,m2,b2⟩)
  |(go_at_call 191;(with_reducible refine (oE _ _ _).mono ?_);rintro e w1 ⟨a1,n1,rfl,m1,b1⟩))
 go_ret2
 exact ⟨a1,n1,a2,n2,rfl,pU rfl m1 b1 m2 b2⟩
theorem GK (a:Option Addr) (zs:List Int) (len cap:Nat) (w:World):
 Calls Tryz.prog 177 #[.int .u8 7,.slice a len cap] w (vU w (kA 7 zs) (pY 7 zs)):=by
 show Calls _ _ _ _ (vU w [1,1] [1])
 go_enter Tryz.func177,Tryz.ntmps177
 go_wp2_with (first
  |(go_at_call 191;(with_reducible refine (oE _ w1 _).mono ?_);rintro e w2 ⟨a2,n2,rfl,m2,b2⟩)
  |(go_at_call 191;(with_reducible refine (CX _ _ _ _).mono ?_);rintro e w1 ⟨a1,n1,rfl,m1,b1⟩))
 go_ret2
 exact ⟨a1,n1,a2,n2,rfl,pU rfl m1 b1 m2 b2⟩
theorem GJ (a:Option Addr) (zs:List Int) (len cap:Nat) (w:World):
 Calls Tryz.prog 177 #[.int .u8 8,.slice a len cap] w (vU w (kA 8 zs) (pY 8 zs)):=by
 show Calls _ _ _ _ (vU w [1] [1])
 go_enter Tryz.func177,Tryz.ntmps177
 go_wp2_with (first
  |(go_at_call 191;(with_reducible refine (oE _ w1 _).mono ?_);rintro e w2 ⟨a2,n2,rfl,m2,b2⟩)
  |(go_at_call 191;(with_reducible refine (oE _ _ _).mono ?_);rintro e w1 ⟨a1,n1,rfl,m1,b1⟩))
 go_ret2
 exact ⟨a1,n1,a2,n2,rfl,pU rfl m1 b1 m2 b2⟩
theorem LA (a:Option Addr) (zs:List Int) (len cap:Nat) (w:World):
 Calls Tryz.prog 177 #[.int .u8 10,.slice a len cap] w (vU w (kA 10 zs) (pY 10 zs)):=by
 show Calls _ _ _ _ (vU w [] [1])
 go_enter Tryz.func177,Tryz.ntmps177
 go_wp2_with (first
  |(go_at_call 191;(with_reducible refine (oE _ _ _).mono ?_);rintro e w1 ⟨a1,n1,rfl,m1,b1⟩)
  |(go_at_call 191;(with_reducible refine (dA _).mono ?_);rintro e w3 ⟨rfl,rfl⟩))
 go_ret2
 exact ⟨none,0,a1,n1,rfl,World.ownsRow_nil _ _ _ _,m1,(fun x y hx=>by cases hx),b1⟩
theorem GH (a:Option Addr) (zs:List Int) (len cap:Nat) (w:World) (hl:zs.length=len) (h1:len=1) (h:At w a zs):
 Calls Tryz.prog 177 #[.int .u8 3,.slice a len cap] w (vU w (kA 3 zs) (pY 3 zs)):=by
 show Calls _ _ _ _ (vU w [wF zs 0] [1])
 rcases h with h0|⟨b,off,rfl,hc⟩
 ·rw [h0]at hl;simp at hl;omega
 have c0:=hc 0 (by omega);rw[Nat.add_zero]at c0
 have m0:0<len:=by omega
 have l0:(0:Int)<(len:Int):=by omega
 clear hc;generalize wF zs 0=p0 at *
 go_enter Tryz.func177,Tryz.ntmps177
 go_wp2_with (first
  |(go_at_call 191;(with_reducible refine (oE _ w1 _).mono ?_);rintro e w2 ⟨a2,n2,rfl,m2,b2⟩)
  |(go_at_call 191;(with_reducible refine (oE _ _ _).mono ?_);rintro e w1 ⟨a1,n1,rfl,m1,b1⟩))
 go_ret2
 exact ⟨a1,n1,a2,n2,rfl,pU rfl m1 b1 m2 b2⟩
theorem KZ (a:Option Addr) (zs:List Int) (len cap:Nat) (w:World) (hl:zs.length=len) (h1:len=1) (h:At w a zs):
 Calls Tryz.prog 177 #[.int .u8 11,.slice a len cap] w (vU w (kA 11 zs) (pY 11 zs)):=by
 show Calls _ _ _ _ (vU w [wF zs 0] [])
 rcases h with h0|⟨b,off,rfl,hc⟩
 ·rw [h0]at hl;simp at hl;omega
 have c0:=hc 0 (by omega);rw[Nat.add_zero]at c0
 have m0:0<len:=by omega
 have l0:(0:Int)<(len:Int):=by omega
 clear hc;generalize wF zs 0=p0 at *
 go_enter Tryz.func177,Tryz.ntmps177
 go_wp2_with (first
  |(go_at_call 191;(with_reducible refine (dA _).mono ?_);rintro e w3 ⟨rfl,rfl⟩)
  |(go_at_call 191;(with_reducible refine (oE _ _ _).mono ?_);rintro e w1 ⟨a1,n1,rfl,m1,b1⟩))
 go_ret2
 exact ⟨a1,n1,none,0,rfl,m1,World.ownsRow_nil _ _ _ _,(fun x y _ hy=>by cases hy),b1⟩
theorem GF (a:Option Addr) (zs:List Int) (len cap:Nat) (w:World) (hl:zs.length=len) (h1:len=1) (h:At w a zs) (hw:1<=wF zs 0/\wF zs 0<=16):
 Calls Tryz.prog 177 #[.int .u8 6,.slice a len cap] w (vU w (kA 6 zs) (pY 6 zs)):=by
 show Calls _ _ _ _ (vU w (QJ (wF zs 0) 1) [1])
 rcases h with h0|⟨b,off,rfl,hc⟩
 ·rw [h0]at hl;simp at hl;omega
 have c0:=hc 0 (by omega);rw[Nat.add_zero]at c0
 have m0:0<len:=by omega
 have l0:(0:Int)<(len:Int):=by omega
 clear hc;generalize wF zs 0=p0 at *
 go_enter Tryz.func177,Tryz.ntmps177
 go_wp2_with (first
  |(go_at_call 191;(with_reducible refine (oE _ w1 _).mono ?_);rintro e w2 ⟨a2,n2,rfl,m2,b2⟩)
  |(go_at_call 192;(with_reducible refine (kP _ _ _ hw).mono ?_);rintro e w1 ⟨a1,n1,rfl,m1,b1⟩))
 go_ret2
 exact ⟨a1,n1,a2,n2,rfl,pU rfl m1 b1 m2 b2⟩
theorem FZ (a:Option Addr) (zs:List Int) (len cap:Nat) (w:World) (hl:zs.length=len) (h1:len=1) (h:At w a zs):
 Calls Tryz.prog 177 #[.int .u8 2,.slice a len cap] w (vU w (kA 2 zs) (pY 2 zs)):=by
 show Calls _ _ _ _ (vU w [1] [wF zs 0])
 rcases h with h0|⟨b,off,rfl,hc⟩
 ·rw [h0]at hl;simp at hl;omega
 have c0:=hc 0 (by omega);rw[Nat.add_zero]at c0
 have m0:0<len:=by omega
 have l0:(0:Int)<(len:Int):=by omega
 clear hc;generalize wF zs 0=p0 at *
 go_enter Tryz.func177,Tryz.ntmps177
 go_wp2
 refine yK 6 (fun i u v=>match i with
  |0=>Pt u 1 v
  |1=>Mk w.heap.size u [1] v
  |2=>v=.slice (some ⟨b,off,none⟩) len cap
  |3=>v=.pointer (some ⟨b,off,none⟩)
  |4=>v=.int .i64 p0
  |5=>Pt u p0 v
  |_=>True) (by kernel_rfl) (by kernel_rfl) (by kernel_rfl) (by kernel_rfl) ?_ ?_ ?_
 ·intro i w v w' h hb
  match i,h with
  |0,h=>exact Pt.later h hb
  |1,h=>exact Mk.later h hb
  |2,h=>exact h
  |3,h=>exact h
  |4,h=>exact h
  |5,h=>exact Pt.later h hb
  |_+6,_=>trivial
 ·intro i o ρ w' hi ho hb hc hf hfr zX
  have k0:=vJ hb c0
  match i,hi with
  |0,_=>
   simp only[qS]at ho;subst ho;simp[go_sem,hc];exact ⟨(Below.refl _ _).alloc (Nat.le_refl _) _,cZ _ _ _⟩
  |1,_=>
   simp only[qS]at ho;subst ho;obtain ⟨g,ts,hat⟩:Pt w' 1 (ρ (.tmp 9)):=(qH zX 0 9);simp[go_sem,ts,hf];exact ⟨rfl,dV (pQ g [1] 1 w' (by simp) hat) hb.size⟩
  |2,_=>
   simp only[qS]at ho;subst ho;have ts: ρ (.tmp 1)=.slice (some ⟨b,off,none⟩) len cap:=(qR hfr 1);simp[go_sem,ts];exact qB
  |3,_=>
   simp only[qS]at ho;subst ho;have ts: ρ (.tmp 11)=.slice (some ⟨b,off,none⟩) len cap:=(qH zX 2 11);simp[go_sem,ts,hc,m0];exact qB
  |4,_=>
   simp only[qS]at ho;subst ho;have ts: ρ (.tmp 12)=.pointer (some ⟨b,off,none⟩):=(qH zX 3 12);simp[go_sem,ts,k0];exact qB
  |5,_=>
   simp only[qS]at ho;subst ho;have ts: ρ (.tmp 13)=.int .i64 p0:=(qH zX 4 13);simp[go_sem,ts];exact ⟨(Below.refl _ _).alloc (Nat.le_refl _) _,cZ _ _ _⟩
 intro V w9 q9 hS;obtain ⟨g0,e0,P0⟩:Pt w9 1 (V 0):=hS 0 (by decide);obtain ⟨a1,n1,e1,M1⟩:Mk w.heap.size w9 [1] (V 1):=hS 1 (by decide);have e2:V 2=.slice (some ⟨b,off,none⟩) len cap:=hS 2 (by decide);have e3:V 3=.pointer (some ⟨b,off,none⟩):=hS 3 (by decide);have e4:V 4=.int .i64 p0:=hS 4 (by decide);obtain ⟨g5,e5,P5⟩:Pt w9 p0 (V 5):=hS 5 (by decide);simp only[List.drop_succ_cons,List.drop_zero,List.take_succ_cons,List.take_zero,xA,e0,e1,e2,e3,e4,e5];clear hS e0 e1 e2 e3 e4 e5 V
 go_wp2_with (go_at_call 191;(with_reducible refine (ZV g5 (p0) w9 P5).mono ?_);rintro e w2 ⟨a2,n2,rfl,m2,b2⟩)
 go_ret2
 exact ⟨a1,n1,a2,n2,rfl,pU rfl M1 q9 m2 b2⟩
theorem FY (a:Option Addr) (zs:List Int) (len cap:Nat) (w:World) (hl:zs.length=len) (h1:len=1) (h:At w a zs) (hw:1<=wF zs 0/\wF zs 0<=16):
 Calls Tryz.prog 177 #[.int .u8 9,.slice a len cap] w (vU w (kA 9 zs) (pY 9 zs)):=by
 show Calls _ _ _ _ (vU w [1] (QJ (wF zs 0) 1))
 rcases h with h0|⟨b,off,rfl,hc⟩
 ·rw [h0]at hl;simp at hl;omega
 have c0:=hc 0 (by omega);rw[Nat.add_zero]at c0
 have m0:0<len:=by omega
 have l0:(0:Int)<(len:Int):=by omega
 clear hc;generalize wF zs 0=p0 at *
 go_enter Tryz.func177,Tryz.ntmps177
 go_wp2
 refine yK 5 (fun i u v=>match i with
  |0=>Pt u 1 v
  |1=>Mk w.heap.size u [1] v
  |2=>v=.slice (some ⟨b,off,none⟩) len cap
  |3=>v=.pointer (some ⟨b,off,none⟩)
  |4=>v=.int .i64 p0
  |_=>True) (by kernel_rfl) (by kernel_rfl) (by kernel_rfl) (by kernel_rfl) ?_ ?_ ?_
 ·intro i w v w' h hb
  match i,h with
  |0,h=>exact Pt.later h hb
  |1,h=>exact Mk.later h hb
  |2,h=>exact h
  |3,h=>exact h
  |4,h=>exact h
  |_+5,_=>trivial
 ·intro i o ρ w' hi ho hb hc hf hfr zX
  have k0:=vJ hb c0
  match i,hi with
  |0,_=>
   simp only[qS]at ho;subst ho;simp[go_sem,hc];exact ⟨(Below.refl _ _).alloc (Nat.le_refl _) _,cZ _ _ _⟩
  |1,_=>
   simp only[qS]at ho;subst ho;obtain ⟨g,ts,hat⟩:Pt w' 1 (ρ (.tmp 77)):=(qH zX 0 77);simp[go_sem,ts,hf];exact ⟨rfl,dV (pQ g [1] 1 w' (by simp) hat) hb.size⟩
  |2,_=>
   simp only[qS]at ho;subst ho;have ts: ρ (.tmp 1)=.slice (some ⟨b,off,none⟩) len cap:=(qR hfr 1);simp[go_sem,ts];exact qB
  |3,_=>
   simp only[qS]at ho;subst ho;have ts: ρ (.tmp 79)=.slice (some ⟨b,off,none⟩) len cap:=(qH zX 2 79);simp[go_sem,ts,hc,m0];exact qB
  |4,_=>
   simp only[qS]at ho;subst ho;have ts: ρ (.tmp 80)=.pointer (some ⟨b,off,none⟩):=(qH zX 3 80);simp[go_sem,ts,k0];exact qB
 intro V w9 q9 hS;obtain ⟨g0,e0,P0⟩:Pt w9 1 (V 0):=hS 0 (by decide);obtain ⟨a1,n1,e1,M1⟩:Mk w.heap.size w9 [1] (V 1):=hS 1 (by decide);have e2:V 2=.slice (some ⟨b,off,none⟩) len cap:=hS 2 (by decide);have e3:V 3=.pointer (some ⟨b,off,none⟩):=hS 3 (by decide);have e4:V 4=.int .i64 p0:=hS 4 (by decide);simp only[List.drop_succ_cons,List.drop_zero,List.take_succ_cons,List.take_zero,xA,e0,e1,e2,e3,e4];clear hS e0 e1 e2 e3 e4 V
 go_wp2_with (go_at_call 192;(with_reducible refine (kP p0 1 w9 hw).mono ?_);rintro e w2 ⟨a2,n2,rfl,m2,b2⟩)
 go_ret2
 exact ⟨a1,n1,a2,n2,rfl,pU rfl M1 q9 m2 b2⟩
theorem FX (a:Option Addr) (zs:List Int) (len cap:Nat) (w:World) (hl:zs.length=len) (h1:len=2) (h:At w a zs) (hw:(1<=wF zs 0/\wF zs 0<=16)/\(1<=wF zs 1/\wF zs 1<=64)):
 Calls Tryz.prog 177 #[.int .u8 4,.slice a len cap] w (vU w (kA 4 zs) (pY 4 zs)):=by
 show Calls _ _ _ _ (vU w (QJ (wF zs 0) (wF zs 1)) [wF zs 0*wF zs 1])
 rcases h with h0|⟨b,off,rfl,hc⟩
 ·rw [h0]at hl;simp at hl;omega
 have c0:=hc 0 (by omega);rw[Nat.add_zero]at c0
 have m0:0<len:=by omega
 have l0:(0:Int)<(len:Int):=by omega
 have c1:=hc 1 (by omega)
 have l2:(1:Int)<(len:Int):=by omega
 clear hc;generalize wF zs 0=p0 at *;generalize wF zs 1=p1 at *;have hmb:=gH hw.1 hw.2;have hmul:IntKind.i64.wrap (p0*p1)=p0*p1:=QI (by omega) (by omega)
 go_enter Tryz.func177,Tryz.ntmps177
 go_wp2
 refine yK 15 (fun i u v=>match i with
  |0=>v=.slice (some ⟨b,off,none⟩) len cap
  |1=>v=.pointer (some ⟨b,off,none⟩)
  |2=>v=.int .i64 p0
  |3=>v=.slice (some ⟨b,off,none⟩) len cap
  |4=>v=.pointer (some ⟨b,off+1,none⟩)
  |5=>v=.int .i64 p1
  |6=>Mk w.heap.size u (QJ p0 p1) v
  |7=>v=.slice (some ⟨b,off,none⟩) len cap
  |8=>v=.pointer (some ⟨b,off,none⟩)
  |9=>v=.int .i64 p0
  |10=>v=.slice (some ⟨b,off,none⟩) len cap
  |11=>v=.pointer (some ⟨b,off+1,none⟩)
  |12=>v=.int .i64 p1
  |13=>v=.int .i64 (p0*p1)
  |14=>Pt u (p0*p1) v
  |_=>True) (by kernel_rfl) (by kernel_rfl) (by kernel_rfl) (by kernel_rfl) ?_ ?_ ?_
 ·intro i w v w' h hb
  match i,h with
  |0,h=>exact h
  |1,h=>exact h
  |2,h=>exact h
  |3,h=>exact h
  |4,h=>exact h
  |5,h=>exact h
  |6,h=>exact Mk.later h hb
  |7,h=>exact h
  |8,h=>exact h
  |9,h=>exact h
  |10,h=>exact h
  |11,h=>exact h
  |12,h=>exact h
  |13,h=>exact h
  |14,h=>exact Pt.later h hb
  |_+15,_=>trivial
 ·intro i o ρ w' hi ho hb hc hf hfr zX
  have k0:=vJ hb c0;have k1:=vJ hb c1
  match i,hi with
  |0,_=>
   simp only[qS]at ho;subst ho;have ts: ρ (.tmp 1)=.slice (some ⟨b,off,none⟩) len cap:=(qR hfr 1);simp[go_sem,ts];exact qB
  |1,_=>
   simp only[qS]at ho;subst ho;have ts: ρ (.tmp 27)=.slice (some ⟨b,off,none⟩) len cap:=(qH zX 0 27);simp[go_sem,ts,hc,m0];exact qB
  |2,_=>
   simp only[qS]at ho;subst ho;have ts: ρ (.tmp 28)=.pointer (some ⟨b,off,none⟩):=(qH zX 1 28);simp[go_sem,ts,k0];exact qB
  |3,_=>
   simp only[qS]at ho;subst ho;have ts: ρ (.tmp 1)=.slice (some ⟨b,off,none⟩) len cap:=(qR hfr 1);simp[go_sem,ts];exact qB
  |4,_=>
   simp only[qS]at ho;subst ho;have ts: ρ (.tmp 30)=.slice (some ⟨b,off,none⟩) len cap:=(qH zX 3 30);simp[go_sem,ts,hc,l2];exact qB
  |5,_=>
   simp only[qS]at ho;subst ho;have ts: ρ (.tmp 31)=.pointer (some ⟨b,off+1,none⟩):=(qH zX 4 31);simp[go_sem,ts,k1];exact qB
  |6,_=>
   simp only[qS]at ho;subst ho;have t0: ρ (.tmp 29)=.int .i64 p0:=(qH zX 2 29);have t1: ρ (.tmp 32)=.int .i64 p1:=(qH zX 5 32);simp[go_sem,t0,t1,hf];exact ⟨rfl,dV (kP p0 p1 w' hw.1) hb.size⟩
  |7,_=>
   simp only[qS]at ho;subst ho;have ts: ρ (.tmp 1)=.slice (some ⟨b,off,none⟩) len cap:=(qR hfr 1);simp[go_sem,ts];exact qB
  |8,_=>
   simp only[qS]at ho;subst ho;have ts: ρ (.tmp 34)=.slice (some ⟨b,off,none⟩) len cap:=(qH zX 7 34);simp[go_sem,ts,hc,m0];exact qB
  |9,_=>
   simp only[qS]at ho;subst ho;have ts: ρ (.tmp 35)=.pointer (some ⟨b,off,none⟩):=(qH zX 8 35);simp[go_sem,ts,k0];exact qB
  |10,_=>
   simp only[qS]at ho;subst ho;have ts: ρ (.tmp 1)=.slice (some ⟨b,off,none⟩) len cap:=(qR hfr 1);simp[go_sem,ts];exact qB
  |11,_=>
   simp only[qS]at ho;subst ho;have ts: ρ (.tmp 37)=.slice (some ⟨b,off,none⟩) len cap:=(qH zX 10 37);simp[go_sem,ts,hc,l2];exact qB
  |12,_=>
   simp only[qS]at ho;subst ho;have ts: ρ (.tmp 38)=.pointer (some ⟨b,off+1,none⟩):=(qH zX 11 38);simp[go_sem,ts,k1];exact qB
  |13,_=>
   simp only[qS]at ho;subst ho;have t1: ρ (.tmp 36)=.int .i64 p0:=(qH zX 9 36);have t2: ρ (.tmp 39)=.int .i64 p1:=(qH zX 12 39);simp[go_sem,t1,t2];exact ⟨Below.refl _ _,by rw[hmul]⟩
  |14,_=>
   simp only[qS]at ho;subst ho;have ts: ρ (.tmp 40)=.int .i64 (p0*p1):=(qH zX 13 40);simp[go_sem,ts];exact ⟨(Below.refl _ _).alloc (Nat.le_refl _) _,cZ _ _ _⟩
 intro V w9 q9 hS;have e0:V 0=.slice (some ⟨b,off,none⟩) len cap:=hS 0 (by decide);have e1:V 1=.pointer (some ⟨b,off,none⟩):=hS 1 (by decide);have e2:V 2=.int .i64 p0:=hS 2 (by decide);have e3:V 3=.slice (some ⟨b,off,none⟩) len cap:=hS 3 (by decide);have e4:V 4=.pointer (some ⟨b,off+1,none⟩):=hS 4 (by decide);have e5:V 5=.int .i64 p1:=hS 5 (by decide);obtain ⟨a6,n6,e6,M6⟩:Mk w.heap.size w9 (QJ p0 p1) (V 6):=hS 6 (by decide);have e7:V 7=.slice (some ⟨b,off,none⟩) len cap:=hS 7 (by decide);have e8:V 8=.pointer (some ⟨b,off,none⟩):=hS 8 (by decide);have e9:V 9=.int .i64 p0:=hS 9 (by decide);have e10:V 10=.slice (some ⟨b,off,none⟩) len cap:=hS 10 (by decide);have e11:V 11=.pointer (some ⟨b,off+1,none⟩):=hS 11 (by decide);have e12:V 12=.int .i64 p1:=hS 12 (by decide);have e13:V 13=.int .i64 (p0*p1):=hS 13 (by decide);obtain ⟨g14,e14,P14⟩:Pt w9 (p0*p1) (V 14):=hS 14 (by decide);simp only[List.drop_succ_cons,List.drop_zero,List.take_succ_cons,List.take_zero,xA,e0,e1,e2,e3,e4,e5,e6,e7,e8,e9,e10,e11,e12,e13,e14];clear hS e0 e1 e2 e3 e4 e5 e6 e7 e8 e9 e10 e11 e12 e13 e14 V
 go_wp2_with (go_at_call 191;(with_reducible refine (ZV g14 (p0*p1) w9 P14).mono ?_);rintro e w2 ⟨a2,n2,rfl,m2,b2⟩)
 go_ret2
 exact ⟨a6,n6,a2,n2,rfl,pU rfl M6 q9 m2 b2⟩
theorem FW (a:Option Addr) (zs:List Int) (len cap:Nat) (w:World) (hl:zs.length=len) (h1:len=2) (h:At w a zs) (hw:(1<=wF zs 0/\wF zs 0<=16)/\(1<=wF zs 1/\wF zs 1<=64)):
 Calls Tryz.prog 177 #[.int .u8 5,.slice a len cap] w (vU w (kA 5 zs) (pY 5 zs)):=by
 show Calls _ _ _ _ (vU w [wF zs 0*wF zs 1] (QJ (wF zs 0) (wF zs 1)))
 rcases h with h0|⟨b,off,rfl,hc⟩
 ·rw [h0]at hl;simp at hl;omega
 have c0:=hc 0 (by omega);rw[Nat.add_zero]at c0
 have m0:0<len:=by omega
 have l0:(0:Int)<(len:Int):=by omega
 have c1:=hc 1 (by omega)
 have l2:(1:Int)<(len:Int):=by omega
 clear hc;generalize wF zs 0=p0 at *;generalize wF zs 1=p1 at *;have hmb:=gH hw.1 hw.2;have hmul:IntKind.i64.wrap (p0*p1)=p0*p1:=QI (by omega) (by omega)
 go_enter Tryz.func177,Tryz.ntmps177
 go_wp2
 refine yK 15 (fun i u v=>match i with
  |0=>v=.slice (some ⟨b,off,none⟩) len cap
  |1=>v=.pointer (some ⟨b,off,none⟩)
  |2=>v=.int .i64 p0
  |3=>v=.slice (some ⟨b,off,none⟩) len cap
  |4=>v=.pointer (some ⟨b,off+1,none⟩)
  |5=>v=.int .i64 p1
  |6=>v=.int .i64 (p0*p1)
  |7=>Pt u (p0*p1) v
  |8=>Mk w.heap.size u [(p0*p1)] v
  |9=>v=.slice (some ⟨b,off,none⟩) len cap
  |10=>v=.pointer (some ⟨b,off,none⟩)
  |11=>v=.int .i64 p0
  |12=>v=.slice (some ⟨b,off,none⟩) len cap
  |13=>v=.pointer (some ⟨b,off+1,none⟩)
  |14=>v=.int .i64 p1
  |_=>True) (by kernel_rfl) (by kernel_rfl) (by kernel_rfl) (by kernel_rfl) ?_ ?_ ?_
 ·intro i w v w' h hb
  match i,h with
  |0,h=>exact h
  |1,h=>exact h
  |2,h=>exact h
  |3,h=>exact h
  |4,h=>exact h
  |5,h=>exact h
  |6,h=>exact h
  |7,h=>exact Pt.later h hb
  |8,h=>exact Mk.later h hb
  |9,h=>exact h
  |10,h=>exact h
  |11,h=>exact h
  |12,h=>exact h
  |13,h=>exact h
  |14,h=>exact h
  |_+15,_=>trivial
 ·intro i o ρ w' hi ho hb hc hf hfr zX
  have k0:=vJ hb c0;have k1:=vJ hb c1
  match i,hi with
  |0,_=>
   simp only[qS]at ho;subst ho;have ts: ρ (.tmp 1)=.slice (some ⟨b,off,none⟩) len cap:=(qR hfr 1);simp[go_sem,ts];exact qB
  |1,_=>
   simp only[qS]at ho;subst ho;have ts: ρ (.tmp 45)=.slice (some ⟨b,off,none⟩) len cap:=(qH zX 0 45);simp[go_sem,ts,hc,m0];exact qB
  |2,_=>
   simp only[qS]at ho;subst ho;have ts: ρ (.tmp 46)=.pointer (some ⟨b,off,none⟩):=(qH zX 1 46);simp[go_sem,ts,k0];exact qB
  |3,_=>
   simp only[qS]at ho;subst ho;have ts: ρ (.tmp 1)=.slice (some ⟨b,off,none⟩) len cap:=(qR hfr 1);simp[go_sem,ts];exact qB
  |4,_=>
   simp only[qS]at ho;subst ho;have ts: ρ (.tmp 48)=.slice (some ⟨b,off,none⟩) len cap:=(qH zX 3 48);simp[go_sem,ts,hc,l2];exact qB
  |5,_=>
   simp only[qS]at ho;subst ho;have ts: ρ (.tmp 49)=.pointer (some ⟨b,off+1,none⟩):=(qH zX 4 49);simp[go_sem,ts,k1];exact qB
  |6,_=>
   simp only[qS]at ho;subst ho;have t1: ρ (.tmp 47)=.int .i64 p0:=(qH zX 2 47);have t2: ρ (.tmp 50)=.int .i64 p1:=(qH zX 5 50);simp[go_sem,t1,t2];exact ⟨Below.refl _ _,by rw[hmul]⟩
  |7,_=>
   simp only[qS]at ho;subst ho;have ts: ρ (.tmp 51)=.int .i64 (p0*p1):=(qH zX 6 51);simp[go_sem,ts];exact ⟨(Below.refl _ _).alloc (Nat.le_refl _) _,cZ _ _ _⟩
  |8,_=>
   simp only[qS]at ho;subst ho;obtain ⟨g,ts,hat⟩:Pt w' (p0*p1) (ρ (.tmp 52)):=(qH zX 7 52);simp[go_sem,ts,hf];exact ⟨rfl,dV (pQ g [(p0*p1)] 1 w' (by simp) hat) hb.size⟩
  |9,_=>
   simp only[qS]at ho;subst ho;have ts: ρ (.tmp 1)=.slice (some ⟨b,off,none⟩) len cap:=(qR hfr 1);simp[go_sem,ts];exact qB
  |10,_=>
   simp only[qS]at ho;subst ho;have ts: ρ (.tmp 54)=.slice (some ⟨b,off,none⟩) len cap:=(qH zX 9 54);simp[go_sem,ts,hc,m0];exact qB
  |11,_=>
   simp only[qS]at ho;subst ho;have ts: ρ (.tmp 55)=.pointer (some ⟨b,off,none⟩):=(qH zX 10 55);simp[go_sem,ts,k0];exact qB
  |12,_=>
   simp only[qS]at ho;subst ho;have ts: ρ (.tmp 1)=.slice (some ⟨b,off,none⟩) len cap:=(qR hfr 1);simp[go_sem,ts];exact qB
  |13,_=>
   simp only[qS]at ho;subst ho;have ts: ρ (.tmp 57)=.slice (some ⟨b,off,none⟩) len cap:=(qH zX 12 57);simp[go_sem,ts,hc,l2];exact qB
  |14,_=>
   simp only[qS]at ho;subst ho;have ts: ρ (.tmp 58)=.pointer (some ⟨b,off+1,none⟩):=(qH zX 13 58);simp[go_sem,ts,k1];exact qB
 intro V w9 q9 hS;have e0:V 0=.slice (some ⟨b,off,none⟩) len cap:=hS 0 (by decide);have e1:V 1=.pointer (some ⟨b,off,none⟩):=hS 1 (by decide);have e2:V 2=.int .i64 p0:=hS 2 (by decide);have e3:V 3=.slice (some ⟨b,off,none⟩) len cap:=hS 3 (by decide);have e4:V 4=.pointer (some ⟨b,off+1,none⟩):=hS 4 (by decide);have e5:V 5=.int .i64 p1:=hS 5 (by decide);have e6:V 6=.int .i64 (p0*p1):=hS 6 (by decide);obtain ⟨g7,e7,P7⟩:Pt w9 (p0*p1) (V 7):=hS 7 (by decide);obtain ⟨a8,n8,e8,M8⟩:Mk w.heap.size w9 [(p0*p1)] (V 8):=hS 8 (by decide);have e9:V 9=.slice (some ⟨b,off,none⟩) len cap:=hS 9 (by decide);have e10:V 10=.pointer (some ⟨b,off,none⟩):=hS 10 (by decide);have e11:V 11=.int .i64 p0:=hS 11 (by decide);have e12:V 12=.slice (some ⟨b,off,none⟩) len cap:=hS 12 (by decide);have e13:V 13=.pointer (some ⟨b,off+1,none⟩):=hS 13 (by decide);have e14:V 14=.int .i64 p1:=hS 14 (by decide);simp only[List.drop_succ_cons,List.drop_zero,List.take_succ_cons,List.take_zero,xA,e0,e1,e2,e3,e4,e5,e6,e7,e8,e9,e10,e11,e12,e13,e14];clear hS e0 e1 e2 e3 e4 e5 e6 e7 e8 e9 e10 e11 e12 e13 e14 V
 go_wp2_with (go_at_call 192;(with_reducible refine (kP p0 p1 w9 hw.1).mono ?_);rintro e w2 ⟨a2,n2,rfl,m2,b2⟩)
 go_ret2
 exact ⟨a8,n8,a2,n2,rfl,pU rfl M8 q9 m2 b2⟩
def aY (t:Nat) (zs:List Int):List Int × List Int × Int:=
 if 1<=t/\t<=11 then (if iZ t zs=true then (kA t zs,pY t zs,0) else ([],[],61)) else ([],[],60)
theorem cY {p:Nat->Prop} (h1:p 1) (h2:p 2) (h3:p 3) (h4:p 4) (h5:p 5) (h6:p 6) (h7:p 7) (h8:p 8) (h9:p 9) (h10:p 10) (h11:p 11):∀t,1<=t/\t<=11->p t:=fun t ht=>by
 match t,ht with
 |0,ht=>omega
 |1,_=>exact h1
 |2,_=>exact h2
 |3,_=>exact h3
 |4,_=>exact h4
 |5,_=>exact h5
 |6,_=>exact h6
 |7,_=>exact h7
 |8,_=>exact h8
 |9,_=>exact h9
 |10,_=>exact h10
 |11,_=>exact h11
 |n+12,ht=>omega
theorem nB {zs:List Int} {len:Nat} {m:Int} (hl:zs.length=len) (h:(decide (zs.length=1)&&wB (wF zs 0) m)=true):len=1/\1<=wF zs 0/\wF zs 0<=m:=by
 rw[Bool.and_eq_true,decide_eq_true_iff]at h;exact ⟨by omega,lQ h.2⟩
theorem gE {zs:List Int} {len:Nat} (hl:zs.length=len) (h:(decide (zs.length=2)&&vA (wF zs 0) (wF zs 1))=true):len=2/\(1<=wF zs 0/\wF zs 0<=16)/\(1<=wF zs 1/\wF zs 1<=64):=by
 unfold vA at h;rw[Bool.and_eq_true,decide_eq_true_iff,Bool.and_eq_true,Bool.and_eq_true]at h;exact ⟨by omega,lQ h.2.1,lQ h.2.2.1⟩
theorem ON (t:Nat) (ht:1<=t/\t<=11) (a:Option Addr) (zs:List Int) (len cap:Nat) (w:World) (hl:zs.length=len) (h:At w a zs):
 Calls Tryz.prog 176 #[.int .u8 (t:Int),.slice a len cap] w fun e w'=>e=.returned (.bool (iZ t zs))/\Below w.heap.size w w':=by
 revert t
 exact cY (GX a zs len cap w hl) (GW a zs len cap w hl h) (GV a zs len cap w hl h) (GU a zs len cap w hl h) (GT a zs len cap w hl h) (GS a zs len cap w hl h) (GQ a zs len cap w hl) (GN a zs len cap w hl) (GM a zs len cap w hl h) (LD a zs len cap w hl) (LC a zs len cap w hl h)
theorem OM (t:Nat) (ht:1<=t/\t<=11) (a:Option Addr) (zs:List Int) (len cap:Nat) (w:World) (hl:zs.length=len) (h:At w a zs) (hk:iZ t zs=true):
 Calls Tryz.prog 177 #[.int .u8 (t:Int),.slice a len cap] w (vU w (kA t zs) (pY t zs)):=by
 revert hk
 revert t
 exact cY (fun _=>GL a zs len cap w) (fun k=>FZ a zs len cap w hl (nB hl k).1 h) (fun k=>GH a zs len cap w hl (nB hl k).1 h) (fun k=>FX a zs len cap w hl (gE hl k).1 h (gE hl k).2) (fun k=>FW a zs len cap w hl (gE hl k).1 h (gE hl k).2)
  (fun k=>GF a zs len cap w hl (nB hl k).1 h (nB hl k).2) (fun _=>GK a zs len cap w) (fun _=>GJ a zs len cap w) (fun k=>FY a zs len cap w hl (nB hl k).1 h (nB hl k).2) (fun _=>LA a zs len cap w) (fun k=>KZ a zs len cap w hl (nB hl k).1 h)
def QH (w:World) (r:List Int × List Int × Int) (e:Ending) (w':World):Prop:=
 ∃a c1 b c2,e=.returned (.tuple #[.slice a r.1.length c1,.slice b r.2.1.length c2,.int .i64 r.2.2])/\xM w.heap.size w' a c1 r.1/\xM w.heap.size w' b c2 r.2.1/\(∀ x y,a=some x->b=some y->x.block<y.block)/\Below w.heap.size w w'
theorem KY {w w':World} {f:Int} (hb:Below w.heap.size w w'):QH w ([],[],f) (.returned (.tuple #[qN,qN,.int .i64 f])) w':=
 ⟨none,0,none,0,rfl,World.ownsRow_nil _ _ _ _,World.ownsRow_nil _ _ _ _,(fun x y hx=>by cases hx),hb⟩
theorem WL (t:Nat) (a:Option Addr) (zs:List Int) (len cap:Nat) (w:World) (ht:t<=255) (hl:zs.length=len) (h:At w a zs):
 Calls Tryz.prog 159 #[.int .u8 (t:Int),.slice a len cap] w (QH w (aY t zs)):=by
 have HK:=tX (gG t w ht);unfold aY
 by_cases h1:1<=t/\t<=11
 ·rw [if_pos h1]
  have e1:(decide (1<=t)&&decide (t<=11))=true:=by rw[decide_eq_true h1.1,decide_eq_true h1.2];rfl
  rw[e1]at HK;have HR:=tX (ON t h1 a zs len cap w hl h)
  by_cases h2:iZ t zs=true
  ·rw [if_pos h2]
   have HT:Hid (∀ w1,Below w.heap.size w w1->Calls Tryz.prog 177 #[.int .u8 (t:Int),.slice a len cap] w1 (vU w1 (kA t zs) (pY t zs))):=fun w1 hb=>OM t h1 a zs len cap w1 hl (h.below hb) h2
   unfold QH;unfold vU at HT;rw[h2]at HR;generalize kA t zs=P at *;generalize pY t zs=Q at *;clear h e1 h2
   go_enter Tryz.func159,Tryz.ntmps159
   go_wp2_with (first
    |(go_at_call 177;(with_reducible refine (HT.out w2 b2).mono ?_);rintro e w3 ⟨x,c1,y,c2,rfl,m1,m2,hxy,b3⟩)
    |(go_at_call 176;(with_reducible refine HR.out.mono ?_);rintro e w2 ⟨rfl,b2⟩)
    |(go_at_call 143;(with_reducible refine HK.out.mono ?_);rintro e w1 ⟨rfl,rfl⟩))
   go_ret3
   exact ⟨x,c1,y,c2,rfl,m1.mono b2.size,m2.mono b2.size,hxy,b2.trans (b3.mono b2.size)⟩
  rw[if_neg h2]
  have e2:iZ t zs=false:=by simpa using h2
  rw[e2]at HR;clear h e1 h2
  go_enter Tryz.func159,Tryz.ntmps159
  go_wp2_with (first
   |(go_at_call 176;(with_reducible refine HR.out.mono ?_);rintro e w2 ⟨rfl,b2⟩)
   |(go_at_call 143;(with_reducible refine HK.out.mono ?_);rintro e w1 ⟨rfl,rfl⟩))
  go_ret3
  exact KY b2
 rw[if_neg h1]
 have e1:(decide (1<=t)&&decide (t<=11))=false:=by
  by_cases h2:1<=t
  ·rw [decide_eq_false (p:=t<=11) (fun h3=>h1 ⟨h2,h3⟩),Bool.and_false]
  rw[decide_eq_false h2];rfl
 rw[e1]at HK;clear h e1 h1
 go_enter Tryz.func159,Tryz.ntmps159
 go_wp2_with (go_at_call 143;(with_reducible refine HK.out.mono ?_);rintro e w1 ⟨rfl,rfl⟩)
 go_ret3
 exact KY (Below.refl _ _)
end Go.Proofs.YtdcjdnkdeamigaaGreatDoor
