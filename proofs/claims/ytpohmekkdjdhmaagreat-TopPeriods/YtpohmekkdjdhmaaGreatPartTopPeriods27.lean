/- Texts of one chain. -/
import Derived.Test.YtpohmekkdjdhmaaGreatPartQ
import Derived.Test.YtpohmekkdjdhmaaGreatPartTopPeriods26
import Derived.Laws.Concat
namespace Go.Proofs.YtpohmekkdjdhmaaGreat
open Go.ChangeShapes Go.WideShapes Go.ChangeAt Go.RowKit
theorem XI (l:List UInt8):(yG l).toList=l:=ByteArray.toList_mk l
theorem UQ {B:Nat} {a w w':World} {k:Nat} (h:Below B a w) (hg:w.grownBy w' (some k)) (hk:B<=k) (hB:B<=w.heap.size):Below B a w':=
 h.grown hg hB (fun _ e=>by cases e;exact hk)
def vQ (l:List UInt8):Bool:=decide (l.length<=16)&&(QK (XJ l 0)&&decide (rR mD l=l.length))
theorem zVT {p:Int->Bool} {l:List UInt8} :(l.take (rR p l)==l)=decide (rR p l=l.length):=by
 by_cases h:rR p l=l.length
 ·rw [decide_eq_true h,h,List.take_length];simp
 rw[decide_eq_false h]
 have:¬(l.take (rR p l)=l):=by
  intro e;have h2:=congrArg List.length e;rw[List.length_take]at h2;have:=UR p l;omega
 simpa using this
set_option maxHeartbeats 1000000 in
theorem QH (l:List UInt8) (w:World):Calls Tryz.prog 83 #[.string (yG l)] w fun e w'=>e=.returned (.bool (vQ l))/\Below w.heap.size w w':=by
 have e1:=rQ l;have en:vQ l=(decide (l.length<=16)&&(QK (XJ l 0)&&decide (rR mD l=l.length))):=rfl
 by_cases h1:l.length<=16
 ·have i1:(l.length:Int)<=16:=by omega
  have HC:Hid (fI 181 w.heap.size l 0 (w.alloc (.cells #[.string (yG l),.int .i64 0] 181))):=by
   show ((w.heap.push _)[w.heap.size]? =_);simp
  have HA:Hid (∀ W,fI 181 w.heap.size l 0 W->Calls Tryz.prog 105 #[(qP w.heap.size),.int .i64 0] W fun e w'=>e=.returned (.int .u8 (XJ l 0))/\pV 181 w.heap.size l 0 W w'):=
   fun W hc=>(AK _ _ l 0 0 W hc (by omega) (by omega) (by decide)).mono fun _ _ ⟨h1,m,h2⟩=>⟨h1,by rw[h2];exact pV.drew hc m⟩
  have HL:=pD (iD (XJ l 0))
  have HR:Hid (∀ W,fI 181 w.heap.size l 0 W->Calls Tryz.prog 106 #[(qP w.heap.size),.func (.func 107) #[] #[]] W fun e w'=>e=.returned (.string (yG (l.take (rR mD l))))/\pV 181 w.heap.size l (0+rR mD l) W w'):=
   fun W hc=>zQV _ _ _ KC _ l 0 W hc (by omega) (by omega)
  have e2:=XI l;have e3:=XI (l.take (rR mD l));have e4:=zVT (p:=mD) (l:=l);rw[decide_eq_true h1,Bool.true_and]at en;rw[en];clear en
  have hlow:Hid (∀ w1,(w.alloc (.cells #[.string (yG l),.int .i64 0] 181)).grownBy w1 (some w.heap.size)->Below w.heap.size w w1):=fun w1 hg=>
   UQ ((Below.refl _ _).alloc (Nat.le_refl _) _) hg (Nat.le_refl _) (by simp)
  generalize decide (rR mD l=l.length)=d at *;generalize rR mD l=N at *;generalize XJ l 0=x at *;generalize QK x=y at *
  cases y
  ·go_enter Tryz.func83,Tryz.ntmps83
   go_wp2_with (first
    |(go_at_call 104;(with_reducible refine (HL.out _).mono ?_);rintro e w' ⟨rfl,rfl⟩)
    |(go_at_call 105;(with_reducible refine (HA.out _ HC.out).mono ?_);rintro e w1 ⟨rfl,hm1⟩;have M1:=pD hm1;clear hm1))
   go_ret
   exact ⟨rfl,hlow.out _ M1.out.grown⟩
  go_enter Tryz.func83,Tryz.ntmps83
  go_wp2_with (first
   |(go_at_call 106;(with_reducible refine (HR.out _ M1.out.cur).mono ?_);rintro e w2 ⟨rfl,hm2⟩;have M2:=pD hm2;clear hm2)
   |(go_at_call 104;(with_reducible refine (HL.out _).mono ?_);rintro e w' ⟨rfl,rfl⟩)
   |(go_at_call 105;(with_reducible refine (HA.out _ HC.out).mono ?_);rintro e w1 ⟨rfl,hm1⟩;have M1:=pD hm1;clear hm1))
  go_ret
  exact ⟨rfl,hlow.out _ (Lib.grownBy_trans M1.out.grown M2.out.grown)⟩
 have i1:decide ((l.length:Int)<=16)=false:=decide_eq_false (by omega)
 have i2:¬((l.length:Int)<=16):=by omega
 rw[decide_eq_false h1,Bool.false_and]at en;rw[en]
 go_enter Tryz.func83,Tryz.ntmps83
 go_wp2
 go_ret
 exact ⟨rfl,(Below.refl _ _).alloc (Nat.le_refl _) _⟩
end Go.Proofs.YtpohmekkdjdhmaaGreat
