/- Texts of one chain. -/
import Derived.Test.YtdcjdnkdeamigaaGreatDoorPartQ
import Derived.Test.YtdcjdnkdeamigaaGreatDoorPartSourceWhere1
import Derived.Test.YtdcjdnkdeamigaaGreatDoorPartSourceWhere7
import Derived.Laws.Strings2
import Derived.Laws.Strings3
import Derived.Laws.Pointers
import Derived.Laws.NewBlocks
import Derived.Deep.QuietTactic
import Derived.Lib.BufferOwn
import Derived.Lib.HexFns2
namespace Go.Proofs.YtdcjdnkdeamigaaGreatDoor
open Go.ChangeShapes Go.WideShapes Go.ChangeAt Go.RowKit
theorem zY {p:Prop} (h:p):Hid p:=h
theorem vO (b:Int) (w:World):Calls Tryz.prog 132 #[.int .u8 b] w fun e w'=>e=.returned (.bool (rP b))/\w=w':=by
 by_cases h1:(97:Int)<=b<;>by_cases h2:b<=122<;>
 ·have e:rP b=(decide (97<=b)&&decide (b<=122)):=rfl
  simp only[h1,h2,decide_true,decide_false,Bool.and_true,Bool.and_false]at e;rw[e]
  go_enter Tryz.func132,Tryz.ntmps132
  go_wp2
  go_ret
  exact ⟨rfl,rfl⟩
theorem xR (b:Int) (w:World):Calls Tryz.prog 134 #[.int .u8 b] w fun e w'=>e=.returned (.bool (xQ b))/\w=w':=by
 by_cases h1:(48:Int)<=b<;>by_cases h2:b<=57<;>
 ·have e:xQ b=(decide (48<=b)&&decide (b<=57)):=rfl
  simp only[h1,h2,decide_true,decide_false,Bool.and_true,Bool.and_false]at e;rw[e]
  go_enter Tryz.func134,Tryz.ntmps134
  go_wp2
  go_ret
  exact ⟨rfl,rfl⟩
theorem SV (b:Int) (w:World):Calls Tryz.prog 155 #[.int .u8 b] w fun e w'=>e=.returned (.bool (wR b))/\w=w':=by
 have e:wR b=(rP b||xQ b||decide (b=95)):=rfl;rw[e];clear e;have h1:=zY (vO b);have h2:=zY (xR b);generalize rP b=x at *;generalize xQ b=y at *
 cases x<;>cases y
 ·by_cases h3:b=95
  ·subst h3
   go_enter Tryz.func155,Tryz.ntmps155
   go_wp2_with (first
    |(go_at_call 134;(with_reducible refine (h2.out _).mono ?_);rintro e w' ⟨rfl,rfl⟩)
    |(go_at_call 132;(with_reducible refine (h1.out _).mono ?_);rintro e w' ⟨rfl,rfl⟩))
   go_ret
   exact ⟨rfl,rfl⟩
  have d3:decide (b=95)=false:=decide_eq_false h3
  go_enter Tryz.func155,Tryz.ntmps155
  go_wp2_with (first
   |(go_at_call 134;(with_reducible refine (h2.out _).mono ?_);rintro e w' ⟨rfl,rfl⟩)
   |(go_at_call 132;(with_reducible refine (h1.out _).mono ?_);rintro e w' ⟨rfl,rfl⟩))
  go_ret
  exact ⟨by simp[h3],rfl⟩
 all_goals
  go_enter Tryz.func155,Tryz.ntmps155
  go_wp2_with (first
   |(go_at_call 134;(with_reducible refine (h2.out _).mono ?_);rintro e w' ⟨rfl,rfl⟩)
   |(go_at_call 132;(with_reducible refine (h1.out _).mono ?_);rintro e w' ⟨rfl,rfl⟩))
  go_ret
  exact ⟨rfl,rfl⟩
theorem WJ (b:Int) (w:World):Calls Tryz.prog 128 #[.int .u8 b] w fun e w'=>e=.returned (.bool (xG b))/\w=w':=by
 by_cases h0:b=32
 ·subst h0
  go_enter Tryz.func128,Tryz.ntmps128
  go_wp2
  go_ret
  exact ⟨rfl,rfl⟩
 by_cases h1:b=9
 ·subst h1
  go_enter Tryz.func128,Tryz.ntmps128
  go_wp2
  go_ret
  exact ⟨rfl,rfl⟩
 by_cases h2:b=13
 ·subst h2
  go_enter Tryz.func128,Tryz.ntmps128
  go_wp2
  go_ret
  exact ⟨rfl,rfl⟩
 by_cases h3:b=10
 ·subst h3
  go_enter Tryz.func128,Tryz.ntmps128
  go_wp2
  go_ret
  exact ⟨rfl,rfl⟩
 have d0:decide (b=32)=false:=decide_eq_false h0;have d1:decide (b=9)=false:=decide_eq_false h1;have d2:decide (b=13)=false:=decide_eq_false h2;have d3:decide (b=10)=false:=decide_eq_false h3
 have e:xG b=false:=by simp[xG,h0,h1,h2,h3]
 rw[e]
 go_enter Tryz.func128,Tryz.ntmps128
 go_wp2
 go_ret
 exact ⟨by simp[h0,h1,h2,h3],rfl⟩
theorem YC (b:Int) (w:World):Calls Tryz.prog 130 #[.int .u8 b] w fun e w'=>e=.returned (.bool (uI b))/\w=w':=by
 by_cases h0:b=10
 ·subst h0
  go_enter Tryz.func130,Tryz.ntmps130
  go_wp2
  go_ret
  exact ⟨rfl,rfl⟩
 have d0:decide (b=10)=false:=decide_eq_false h0
 have e:uI b=true:=by simp[uI,h0]
 rw[e]
 go_enter Tryz.func130,Tryz.ntmps130
 go_wp2
 go_ret
 exact ⟨by simp[h0],rfl⟩
theorem tA (b:Int) (w:World):Calls Tryz.prog 136 #[.int .u8 b] w fun e w'=>e=.returned (.bool (pH b))/\w=w':=by
 by_cases h0:b=123
 ·subst h0
  go_enter Tryz.func136,Tryz.ntmps136
  go_wp2
  go_ret
  exact ⟨rfl,rfl⟩
 by_cases h1:b=125
 ·subst h1
  go_enter Tryz.func136,Tryz.ntmps136
  go_wp2
  go_ret
  exact ⟨rfl,rfl⟩
 by_cases h2:b=61
 ·subst h2
  go_enter Tryz.func136,Tryz.ntmps136
  go_wp2
  go_ret
  exact ⟨rfl,rfl⟩
 by_cases h3:b=59
 ·subst h3
  go_enter Tryz.func136,Tryz.ntmps136
  go_wp2
  go_ret
  exact ⟨rfl,rfl⟩
 by_cases h4:b=46
 ·subst h4
  go_enter Tryz.func136,Tryz.ntmps136
  go_wp2
  go_ret
  exact ⟨rfl,rfl⟩
 have d0:decide (b=123)=false:=decide_eq_false h0;have d1:decide (b=125)=false:=decide_eq_false h1;have d2:decide (b=61)=false:=decide_eq_false h2;have d3:decide (b=59)=false:=decide_eq_false h3;have d4:decide (b=46)=false:=decide_eq_false h4
 have e:pH b=false:=by simp[pH,h0,h1,h2,h3,h4]
 rw[e]
 go_enter Tryz.func136,Tryz.ntmps136
 go_wp2
 go_ret
 exact ⟨rfl,rfl⟩
def zW (l:List UInt8):ByteArray:=⟨l.toArray⟩
theorem zB (l:List UInt8):(zW l).size=l.length:=by simp[zW,ByteArray.size]
theorem YB (l:List UInt8) (i:Nat) (h:i<(zW l).size):(((zW l)[i]'h).toNat:Int)=xF l i:=by
 have h':i<l.length:=by rw[zB]at h;exact h
 have e1:xF l i=((l[i]'h').toNat:Int):=by
  unfold xF;rw[List.getD_eq_getElem?_getD,List.getElem?_eq_getElem h'];rfl
 rw[e1];rfl
theorem FI (l:List UInt8) (a n:Nat):(zW l).extract a (a+n)=zW ((l.drop a).take n):=by
 unfold zW;rw[ByteArray.extract_mk,Nat.add_sub_cancel_left]
def xS (T:TypeId) (b:Nat) (l:List UInt8) (p:Nat) (w:World):Prop:=w.heap[b]? =some (.cells #[.string (zW l),.int .i64 (p:Int)] T (0,0))
theorem xS.c0 {T b l p w} (h:xS T b l p w):w.cell? ⟨b,0,none⟩=some (.string (zW l)):=by
 unfold xS at h;simp[World.cell?,h]
theorem xS.c1 {T b l p w} (h:xS T b l p w):w.cell? ⟨b,1,none⟩=some (.int .i64 (p:Int)):=by
 unfold xS at h;simp[World.cell?,h]
theorem xS.f1 {T b l p w} (h:xS T b l p w):w.frozen? ⟨b,1,none⟩=false:=by
 unfold xS at h;simp[World.frozen?,h]
theorem xS.kept {T b l p w w'} (h:xS T b l p w) (hb:w'.heap[b]? =w.heap[b]?):xS T b l p w':=hb.trans h
theorem FH (p q:Nat):(((p:Int)==(q:Int)):Bool)=decide (p=q):=by
 by_cases h:p=q
 ·subst h;simp
 rw[decide_eq_false h]
 have:¬((p:Int)=(q:Int)):=by omega
 simpa using this
theorem sY (T:TypeId) (b:Nat) (l:List UInt8) (p:Nat) (w:World) (h:xS T b l p w):
 Calls Tryz.prog 131 #[(qP b)] w fun e w'=>e=.returned (.bool (decide (p=l.length)))/\∃m,w'=w.drewN m:=by
 have h0:=h.c0;have h1:=h.c1;have e1:=zB l;rw[<- FH]
 go_enter Tryz.func131,Tryz.ntmps131
 go_wp2
 go_quiet (fail)
 go_wp2
 go_ret
 exact ⟨rfl,_,rfl⟩
theorem xW (T:TypeId) (b:Nat) (l:List UInt8) (p n:Nat) (w:World) (h:xS T b l p w) (hp:p<=l.length) (hl:l.length<=1048576) (hn:n<=1):
 Calls Tryz.prog 129 #[(qP b),.int .i64 (n:Int)] w fun e w'=>e=.returned (.int .u8 (xF (l.drop p) n))/\∃m,w'=w.drewN m:=by
 have h0:=h.c0;have h1:=h.c1;have e1:=zB l
 have s1:IntKind.i64.wrap ((l.length:Int)-(p:Int))=(l.length:Int)-(p:Int):=by rw[IntKind.wrap_i64];omega
 have s2:IntKind.i64.wrap ((p:Int)+(n:Int))=(p:Int)+(n:Int):=by rw[IntKind.wrap_i64];omega
 rw[pG]
 by_cases hq:(l.length:Int)-(p:Int)<=(n:Int)
 ·rw [oU (by omega)]
  go_enter Tryz.func129,Tryz.ntmps129
  go_wp2
  go_quiet (fail)
  go_wp2
  go_ret
  exact ⟨rfl,_,rfl⟩
 have hq':decide ((l.length:Int)-(p:Int)<=(n:Int))=false:=decide_eq_false hq
 have i0:(0:Int)<=(p:Int)+(n:Int):=by omega
 have i1:(p:Int)+(n:Int)<(l.length:Int):=by omega
 have i2:p+n<(zW l).size:=by rw[e1];omega
 have g:=YB l (p+n) i2
 have i3:((p:Int)+(n:Int)).toNat=p+n:=by omega
 go_enter Tryz.func129,Tryz.ntmps129
 go_wp2
 go_quiet (fail)
 go_wp2
 go_quiet (fail)
 go_wp2
 go_ret
 exact ⟨rfl,_,World.drewN_drewN _ _ _⟩
end Go.Proofs.YtdcjdnkdeamigaaGreatDoor
