/- Texts of one chain. -/
import Derived.Test.YtpohmekkdjdhmaaGreatPartQ
import Derived.Test.YtpohmekkdjdhmaaGreatPartTopPeriods24
import Derived.Test.YtpohmekkdjdhmaaGreatPartTopPeriods14
import Derived.Laws.Strings2
import Derived.Laws.Strings3
import Derived.Laws.Pointers
import Derived.Laws.NewBlocks
import Derived.Deep.QuietTactic
import Derived.Lib.BufferOwn
import Derived.Lib.HexFns2
namespace Go.Proofs.YtpohmekkdjdhmaaGreat
open Go.ChangeShapes Go.WideShapes Go.ChangeAt Go.RowKit
theorem pD {p:Prop} (h:p):Hid p:=h
theorem iD (b:Int) (w:World):Calls Tryz.prog 104 #[.int .u8 b] w fun e w'=>e=.returned (.bool (QK b))/\w=w':=by
 by_cases h1:(97:Int)<=b<;>by_cases h2:b<=122<;>
 ·have e:QK b=(decide (97<=b)&&decide (b<=122)):=rfl
  simp only[h1,h2,decide_true,decide_false,Bool.and_true,Bool.and_false]at e;rw[e]
  go_enter Tryz.func104,Tryz.ntmps104
  go_wp2
  go_ret
  exact ⟨rfl,rfl⟩
theorem QI (b:Int) (w:World):Calls Tryz.prog 125 #[.int .u8 b] w fun e w'=>e=.returned (.bool (zVX b))/\w=w':=by
 by_cases h1:(48:Int)<=b<;>by_cases h2:b<=57<;>
 ·have e:zVX b=(decide (48<=b)&&decide (b<=57)):=rfl
  simp only[h1,h2,decide_true,decide_false,Bool.and_true,Bool.and_false]at e;rw[e]
  go_enter Tryz.func125,Tryz.ntmps125
  go_wp2
  go_ret
  exact ⟨rfl,rfl⟩
theorem KD (b:Int) (w:World):Calls Tryz.prog 107 #[.int .u8 b] w fun e w'=>e=.returned (.bool (mD b))/\w=w':=by
 have e:mD b=(QK b||zVX b||decide (b=95)):=rfl;rw[e];clear e;have h1:=pD (iD b);have h2:=pD (QI b);generalize QK b=x at *;generalize zVX b=y at *
 cases x<;>cases y
 ·by_cases h3:b=95
  ·subst h3
   go_enter Tryz.func107,Tryz.ntmps107
   go_wp2_with (first
    |(go_at_call 125;(with_reducible refine (h2.out _).mono ?_);rintro e w' ⟨rfl,rfl⟩)
    |(go_at_call 104;(with_reducible refine (h1.out _).mono ?_);rintro e w' ⟨rfl,rfl⟩))
   go_ret
   exact ⟨rfl,rfl⟩
  have d3:decide (b=95)=false:=decide_eq_false h3
  go_enter Tryz.func107,Tryz.ntmps107
  go_wp2_with (first
   |(go_at_call 125;(with_reducible refine (h2.out _).mono ?_);rintro e w' ⟨rfl,rfl⟩)
   |(go_at_call 104;(with_reducible refine (h1.out _).mono ?_);rintro e w' ⟨rfl,rfl⟩))
  go_ret
  exact ⟨by simp[h3],rfl⟩
 all_goals
  go_enter Tryz.func107,Tryz.ntmps107
  go_wp2_with (first
   |(go_at_call 125;(with_reducible refine (h2.out _).mono ?_);rintro e w' ⟨rfl,rfl⟩)
   |(go_at_call 104;(with_reducible refine (h1.out _).mono ?_);rintro e w' ⟨rfl,rfl⟩))
  go_ret
  exact ⟨rfl,rfl⟩
def yG (l:List UInt8):ByteArray:=⟨l.toArray⟩
theorem rQ (l:List UInt8):(yG l).size=l.length:=by simp[yG,ByteArray.size]
theorem FM (l:List UInt8) (i:Nat) (h:i<(yG l).size):(((yG l)[i]'h).toNat:Int)=XJ l i:=by
 have h':i<l.length:=by rw[rQ]at h;exact h
 have e1:XJ l i=((l[i]'h').toNat:Int):=by
  unfold XJ;rw[List.getD_eq_getElem?_getD,List.getElem?_eq_getElem h'];rfl
 rw[e1];rfl
theorem zQW (l:List UInt8) (a n:Nat):(yG l).extract a (a+n)=yG ((l.drop a).take n):=by
 unfold yG;rw[ByteArray.extract_mk,Nat.add_sub_cancel_left]
def fI (T:TypeId) (b:Nat) (l:List UInt8) (p:Nat) (w:World):Prop:=w.heap[b]? =some (.cells #[.string (yG l),.int .i64 (p:Int)] T (0,0))
theorem fI.c0 {T b l p w} (h:fI T b l p w):w.cell? ⟨b,0,none⟩=some (.string (yG l)):=by
 unfold fI at h;simp[World.cell?,h]
theorem fI.c1 {T b l p w} (h:fI T b l p w):w.cell? ⟨b,1,none⟩=some (.int .i64 (p:Int)):=by
 unfold fI at h;simp[World.cell?,h]
theorem fI.f1 {T b l p w} (h:fI T b l p w):w.frozen? ⟨b,1,none⟩=false:=by
 unfold fI at h;simp[World.frozen?,h]
theorem fI.kept {T b l p w w'} (h:fI T b l p w) (hb:w'.heap[b]? =w.heap[b]?):fI T b l p w':=hb.trans h
theorem AK (T:TypeId) (b:Nat) (l:List UInt8) (p n:Nat) (w:World) (h:fI T b l p w) (hp:p<=l.length) (hl:l.length<=1048576) (hn:n<=1):
 Calls Tryz.prog 105 #[(qP b),.int .i64 (n:Int)] w fun e w'=>e=.returned (.int .u8 (XJ (l.drop p) n))/\∃m,w'=w.drewN m:=by
 have h0:=h.c0;have h1:=h.c1;have e1:=rQ l
 have s1:IntKind.i64.wrap ((l.length:Int)-(p:Int))=(l.length:Int)-(p:Int):=by rw[IntKind.wrap_i64];omega
 have s2:IntKind.i64.wrap ((p:Int)+(n:Int))=(p:Int)+(n:Int):=by rw[IntKind.wrap_i64];omega
 rw[aV]
 by_cases hq:(l.length:Int)-(p:Int)<=(n:Int)
 ·rw [zQX (by omega)]
  go_enter Tryz.func105,Tryz.ntmps105
  go_wp2
  go_quiet (fail)
  go_wp2
  go_ret
  exact ⟨rfl,_,rfl⟩
 have hq':decide ((l.length:Int)-(p:Int)<=(n:Int))=false:=decide_eq_false hq
 have i0:(0:Int)<=(p:Int)+(n:Int):=by omega
 have i1:(p:Int)+(n:Int)<(l.length:Int):=by omega
 have i2:p+n<(yG l).size:=by rw[e1];omega
 have g:=FM l (p+n) i2
 have i3:((p:Int)+(n:Int)).toNat=p+n:=by omega
 go_enter Tryz.func105,Tryz.ntmps105
 go_wp2
 go_quiet (fail)
 go_wp2
 go_quiet (fail)
 go_wp2
 go_ret
 exact ⟨rfl,_,World.drewN_drewN _ _ _⟩
end Go.Proofs.YtpohmekkdjdhmaaGreat
