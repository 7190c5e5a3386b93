/- Texts of one chain. -/
import Derived.Test.YtdcjdnkdeamigaaGreatDoorPartQ
import Derived.Test.YtdcjdnkdeamigaaGreatDoorPartSourceWhere11
import Derived.Laws.Concat
namespace Go.Proofs.YtdcjdnkdeamigaaGreatDoor
open Go.ChangeShapes Go.WideShapes Go.ChangeAt Go.RowKit
theorem ZQ (l:List UInt8):(zW l).toList=l:=ByteArray.toList_mk l
theorem iL {B:Nat} {a w w':World} {k:Nat} (h:Below B a w) (hg:w.grownBy w' (some k)) (hk:B<=k) (hB:B<=w.heap.size):Below B a w':=
 h.grown hg hB (fun _ e=>by cases e;exact hk)
def yO (l:List UInt8):Bool:=decide (l.length<=16)&&(rP (xF l 0)&&decide (yW wR l=l.length))
theorem KR {p:Int->Bool} {l:List UInt8} :(l.take (yW p l)==l)=decide (yW p l=l.length):=by
 by_cases h:yW p l=l.length
 ·rw [decide_eq_true h,h,List.take_length];simp
 rw[decide_eq_false h]
 have:¬(l.take (yW p l)=l):=by
  intro e;have h2:=congrArg List.length e;rw[List.length_take]at h2;have:=uM p l;omega
 simpa using this
set_option maxHeartbeats 1000000 in
theorem uG (l:List UInt8) (w:World):Calls Tryz.prog 111 #[.string (zW l)] w fun e w'=>e=.returned (.bool (yO l))/\Below w.heap.size w w':=by
 have e1:=zB l;have en:yO l=(decide (l.length<=16)&&(rP (xF l 0)&&decide (yW wR l=l.length))):=rfl
 by_cases h1:l.length<=16
 ·have i1:(l.length:Int)<=16:=by omega
  have HC:Hid (xS 146 w.heap.size l 0 (w.alloc (.cells #[.string (zW l),.int .i64 0] 146))):=by
   show ((w.heap.push _)[w.heap.size]? =_);simp
  have HA:Hid (∀ W,xS 146 w.heap.size l 0 W->Calls Tryz.prog 129 #[(qP w.heap.size),.int .i64 0] W fun e w'=>e=.returned (.int .u8 (xF l 0))/\yC 146 w.heap.size l 0 W w'):=
   fun W hc=>(xW _ _ l 0 0 W hc (by omega) (by omega) (by decide)).mono fun _ _ ⟨h1,m,h2⟩=>⟨h1,by rw[h2];exact yC.drew hc m⟩
  have HL:=zY (vO (xF l 0))
  have HR:Hid (∀ W,xS 146 w.heap.size l 0 W->Calls Tryz.prog 127 #[(qP w.heap.size),.func (.func 155) #[] #[]] W fun e w'=>e=.returned (.string (zW (l.take (yW wR l))))/\yC 146 w.heap.size l (0+yW wR l) W w'):=
   fun W hc=>rT _ _ _ cX _ l 0 W hc (by omega) (by omega)
  have e2:=ZQ l;have e3:=ZQ (l.take (yW wR l));have e4:=KR (p:=wR) (l:=l);rw[decide_eq_true h1,Bool.true_and]at en;rw[en];clear en
  have hlow:Hid (∀ w1,(w.alloc (.cells #[.string (zW l),.int .i64 0] 146)).grownBy w1 (some w.heap.size)->Below w.heap.size w w1):=fun w1 hg=>
   iL ((Below.refl _ _).alloc (Nat.le_refl _) _) hg (Nat.le_refl _) (by simp)
  generalize decide (yW wR l=l.length)=d at *;generalize yW wR l=N at *;generalize xF l 0=x at *;generalize rP x=y at *
  cases y
  ·go_enter Tryz.func111,Tryz.ntmps111
   go_wp2_with (first
    |(go_at_call 132;(with_reducible refine (HL.out _).mono ?_);rintro e w' ⟨rfl,rfl⟩)
    |(go_at_call 129;(with_reducible refine (HA.out _ HC.out).mono ?_);rintro e w1 ⟨rfl,hm1⟩;have M1:=zY hm1;clear hm1))
   go_ret
   exact ⟨rfl,hlow.out _ M1.out.grown⟩
  go_enter Tryz.func111,Tryz.ntmps111
  go_wp2_with (first
   |(go_at_call 127;(with_reducible refine (HR.out _ M1.out.cur).mono ?_);rintro e w2 ⟨rfl,hm2⟩;have M2:=zY hm2;clear hm2)
   |(go_at_call 132;(with_reducible refine (HL.out _).mono ?_);rintro e w' ⟨rfl,rfl⟩)
   |(go_at_call 129;(with_reducible refine (HA.out _ HC.out).mono ?_);rintro e w1 ⟨rfl,hm1⟩;have M1:=zY hm1;clear hm1))
  go_ret
  exact ⟨rfl,hlow.out _ (Lib.grownBy_trans M1.out.grown M2.out.grown)⟩
 have i1:decide ((l.length:Int)<=16)=false:=decide_eq_false (by omega)
 have i2:¬((l.length:Int)<=16):=by omega
 rw[decide_eq_false h1,Bool.false_and]at en;rw[en]
 go_enter Tryz.func111,Tryz.ntmps111
 go_wp2
 go_ret
 exact ⟨rfl,(Below.refl _ _).alloc (Nat.le_refl _) _⟩
end Go.Proofs.YtdcjdnkdeamigaaGreatDoor
