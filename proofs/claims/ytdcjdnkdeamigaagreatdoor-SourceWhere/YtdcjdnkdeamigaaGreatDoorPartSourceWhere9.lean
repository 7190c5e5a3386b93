/- Texts of one chain. -/
import Derived.Test.YtdcjdnkdeamigaaGreatDoorPartSourceWhere8
import Derived.Laws.Strings
set_option maxHeartbeats 1000000
namespace Go.Proofs.YtdcjdnkdeamigaaGreatDoor
open Go.ChangeShapes Go.WideShapes Go.ChangeAt Go.RowKit
def lY (l:List UInt8):ByteArray:=⟨l.toArray⟩
theorem ZU (l:List UInt8):(lY l).toList=l:=ByteArray.toList_mk l
def uL (t:Nat):List UInt8:=
 match t with
 |1=>[102,105,108,116,101,114]
 |2=>[117,112]
 |3=>[100,111,119,110]
 |4=>[119,101,97,118,101]
 |5=>[117,110,119,101,97,118,101]
 |6=>[97,100,100]
 |7=>[113,117,111,116]
 |8=>[115,117,109]
 |9=>[99,111,112,121]
 |10=>[116,105,99,107]
 |11=>[100,114,111,112]
 |_=>[]
def WK:Nat->Nat->List UInt8->Nat × Int
 |0,_,_=>(0,60)
 |f+1,t,x=>if uL t=x then (t,0) else WK f (t+1) x
def gD (x:List UInt8):Nat × Int:=WK 11 1 x
def iT (t:Nat):List UInt8 × Int:=if 1<=t/\t<=11 then (uL t,0) else ([],60)
theorem OL (l m:List UInt8):(l==m)=decide (l=m):=by
 by_cases h:l=m
 ·simp [h]
 rw[decide_eq_false h];simpa using h
theorem FV (w:World):Calls Tryz.prog 144 #[.int .u8 1] w fun e w'=>e=.returned (.string (lY (uL 1)))/\Below w.heap.size w w':=by
 have B:Hid (∀ o,Below w.heap.size w (w.alloc o)):=fun o=>(Below.refl _ _).alloc (Nat.le_refl _) o
 go_enter Tryz.func144,Tryz.ntmps144
 go_wp2
 go_ret
 exact ⟨rfl,by first|exact B.out _|exact (B.out _).setCell (Nat.le_refl _) _⟩
theorem FU (w:World):Calls Tryz.prog 144 #[.int .u8 2] w fun e w'=>e=.returned (.string (lY (uL 2)))/\Below w.heap.size w w':=by
 have B:Hid (∀ o,Below w.heap.size w (w.alloc o)):=fun o=>(Below.refl _ _).alloc (Nat.le_refl _) o
 go_enter Tryz.func144,Tryz.ntmps144
 go_wp2
 go_ret
 exact ⟨rfl,by first|exact B.out _|exact (B.out _).setCell (Nat.le_refl _) _⟩
theorem FS (w:World):Calls Tryz.prog 144 #[.int .u8 3] w fun e w'=>e=.returned (.string (lY (uL 3)))/\Below w.heap.size w w':=by
 have B:Hid (∀ o,Below w.heap.size w (w.alloc o)):=fun o=>(Below.refl _ _).alloc (Nat.le_refl _) o
 go_enter Tryz.func144,Tryz.ntmps144
 go_wp2
 go_ret
 exact ⟨rfl,by first|exact B.out _|exact (B.out _).setCell (Nat.le_refl _) _⟩
theorem FR (w:World):Calls Tryz.prog 144 #[.int .u8 4] w fun e w'=>e=.returned (.string (lY (uL 4)))/\Below w.heap.size w w':=by
 have B:Hid (∀ o,Below w.heap.size w (w.alloc o)):=fun o=>(Below.refl _ _).alloc (Nat.le_refl _) o
 go_enter Tryz.func144,Tryz.ntmps144
 go_wp2
 go_ret
 exact ⟨rfl,by first|exact B.out _|exact (B.out _).setCell (Nat.le_refl _) _⟩
theorem FQ (w:World):Calls Tryz.prog 144 #[.int .u8 5] w fun e w'=>e=.returned (.string (lY (uL 5)))/\Below w.heap.size w w':=by
 have B:Hid (∀ o,Below w.heap.size w (w.alloc o)):=fun o=>(Below.refl _ _).alloc (Nat.le_refl _) o
 go_enter Tryz.func144,Tryz.ntmps144
 go_wp2
 go_ret
 exact ⟨rfl,by first|exact B.out _|exact (B.out _).setCell (Nat.le_refl _) _⟩
theorem FO (w:World):Calls Tryz.prog 144 #[.int .u8 6] w fun e w'=>e=.returned (.string (lY (uL 6)))/\Below w.heap.size w w':=by
 have B:Hid (∀ o,Below w.heap.size w (w.alloc o)):=fun o=>(Below.refl _ _).alloc (Nat.le_refl _) o
 go_enter Tryz.func144,Tryz.ntmps144
 go_wp2
 go_ret
 exact ⟨rfl,by first|exact B.out _|exact (B.out _).setCell (Nat.le_refl _) _⟩
theorem FN (w:World):Calls Tryz.prog 144 #[.int .u8 7] w fun e w'=>e=.returned (.string (lY (uL 7)))/\Below w.heap.size w w':=by
 have B:Hid (∀ o,Below w.heap.size w (w.alloc o)):=fun o=>(Below.refl _ _).alloc (Nat.le_refl _) o
 go_enter Tryz.func144,Tryz.ntmps144
 go_wp2
 go_ret
 exact ⟨rfl,by first|exact B.out _|exact (B.out _).setCell (Nat.le_refl _) _⟩
theorem FM (w:World):Calls Tryz.prog 144 #[.int .u8 8] w fun e w'=>e=.returned (.string (lY (uL 8)))/\Below w.heap.size w w':=by
 have B:Hid (∀ o,Below w.heap.size w (w.alloc o)):=fun o=>(Below.refl _ _).alloc (Nat.le_refl _) o
 go_enter Tryz.func144,Tryz.ntmps144
 go_wp2
 go_ret
 exact ⟨rfl,by first|exact B.out _|exact (B.out _).setCell (Nat.le_refl _) _⟩
theorem FK (w:World):Calls Tryz.prog 144 #[.int .u8 9] w fun e w'=>e=.returned (.string (lY (uL 9)))/\Below w.heap.size w w':=by
 have B:Hid (∀ o,Below w.heap.size w (w.alloc o)):=fun o=>(Below.refl _ _).alloc (Nat.le_refl _) o
 go_enter Tryz.func144,Tryz.ntmps144
 go_wp2
 go_ret
 exact ⟨rfl,by first|exact B.out _|exact (B.out _).setCell (Nat.le_refl _) _⟩
theorem KX (w:World):Calls Tryz.prog 144 #[.int .u8 10] w fun e w'=>e=.returned (.string (lY (uL 10)))/\Below w.heap.size w w':=by
 have B:Hid (∀ o,Below w.heap.size w (w.alloc o)):=fun o=>(Below.refl _ _).alloc (Nat.le_refl _) o
 go_enter Tryz.func144,Tryz.ntmps144
 go_wp2
 go_ret
 exact ⟨rfl,by first|exact B.out _|exact (B.out _).setCell (Nat.le_refl _) _⟩
theorem KW (w:World):Calls Tryz.prog 144 #[.int .u8 11] w fun e w'=>e=.returned (.string (lY (uL 11)))/\Below w.heap.size w w':=by
 have B:Hid (∀ o,Below w.heap.size w (w.alloc o)):=fun o=>(Below.refl _ _).alloc (Nat.le_refl _) o
 go_enter Tryz.func144,Tryz.ntmps144
 go_wp2
 go_ret
 exact ⟨rfl,by first|exact B.out _|exact (B.out _).setCell (Nat.le_refl _) _⟩
theorem ZT (t:Nat) (ht:1<=t/\t<=11) (w:World):Calls Tryz.prog 144 #[.int .u8 (t:Int)] w fun e w'=>e=.returned (.string (lY (uL t)))/\Below w.heap.size w w':=by
 revert t
 exact cY (FV w) (FU w) (FS w) (FR w) (FQ w) (FO w) (FN w) (FM w) (FK w) (KX w) (KW w)
theorem FJ (x:List UInt8) (w:World):Calls Tryz.prog 90 #[.string (lY x)] w fun e w'=>e=.returned (.tuple #[.int .u8 ((gD x).1:Int),.int .i64 (gD x).2])/\Below w.heap.size w w':=by
 have HK:Hid (∀ (t:Nat) w1,t<=255->Calls Tryz.prog 143 #[.int .u8 (t:Int)] w1 fun e w'=>e=.returned (.bool (decide (1<=t)&&decide (t<=11)))/\w'=w1):=fun t w1 h=>gG t w1 h
 have HS:Hid (∀ (t:Nat) w1,1<=t/\t<=11->Calls Tryz.prog 144 #[.int .u8 (t:Int)] w1 fun e w'=>e=.returned (.string (lY (uL t)))/\Below w1.heap.size w1 w'):=fun t w1 h=>ZT t h w1
 have HX:Hid (gD x=WK (12-1) 1 x):=tX rfl
 go_enter Tryz.func90,Tryz.ntmps90
 go_wp2
 go_loopg [4] 11 (fun gk v wr=>∃t:Nat,1<=t/\t<=12/\gk=12-t/\v=.int .u8 (t:Int)/\gD x=WK (12-t) t x/\Below w.heap.size w wr)
 case atStart=>exact ⟨1,by omega,by omega,rfl,rfl,HX.out,Below.refl _ _⟩
 case round=>
  clear HX;obtain ⟨t,h1,h12,rfl,rfl,hx,hB⟩:=hrel;have HB:=tX hB;clear hB
  by_cases hlt:t<=11
  ·have e1:(decide (1<=t)&&decide (t<=11))=true:=by rw[decide_eq_true h1,decide_eq_true hlt];rfl
   have HKt:=tX (HK.out t wr (by omega));rw[e1]at HKt;have HSt:=tX (HS.out t wr ⟨h1,hlt⟩);have s1:=ZU (uL t);have s2:=ZU x;have s3:=OL (uL t) x
   have e2:12-t=(11-t)+1:=by omega
   rw[e2]at hx;unfold WK at hx
   by_cases hw:uL t=x
   ·rw [if_pos hw]at hx
    rw[decide_eq_true hw]at s3;have HX2:=tX hx;clear hx e1 hw;generalize uL t=y at *
    go_wp2_with (first
     |(go_at_call 144;(with_reducible refine HSt.out.mono ?_);rintro e w2 ⟨rfl,b2⟩)
     |(go_at_call 143;(with_reducible refine HKt.out.mono ?_);rintro e w1 ⟨rfl,rfl⟩))
    go_ret2
    exact ⟨by rw[HX2.out];rfl,HB.out.trans (b2.mono HB.out.size)⟩
   rw[if_neg hw]at hx;rw[decide_eq_false hw]at s3
   have HX2:Hid (gD x=WK (12-(t+1)) (t+1) x):=by
    show _=_;rw[hx,show 12-(t+1)=11-t by omega]
   clear hx e1 hw;generalize uL t=y at *
   go_wp2_with (first
    |(go_at_call 144;(with_reducible refine HSt.out.mono ?_);rintro e w2 ⟨rfl,b2⟩)
    |(go_at_call 143;(with_reducible refine HKt.out.mono ?_);rintro e w1 ⟨rfl,rfl⟩))
   go_roundg (12-(t+1))
   case measure=>omega
   case rel=>exact ⟨t+1,by omega,by omega,rfl,by go_num,HX2.out,HB.out.trans (b2.mono HB.out.size)⟩
  have e12:t=12:=by omega
  subst e12;have HKt:Hid (Calls Tryz.prog 143 #[.int .u8 12] wr fun e w'=>e=.returned (.bool false)/\w'=wr):=HK.out 12 wr (by omega);have e12:((12:Nat):Int)=12:=rfl;rw[e12];have HX2:Hid (gD x=(0,60)):=hx;clear hx
  go_wp2_with (go_at_call 143;(with_reducible refine HKt.out.mono ?_);rintro e w1 ⟨rfl,rfl⟩)
  go_ret2
  exact ⟨by rw[HX2.out];rfl,HB.out⟩
theorem KU (t:Nat) (w:World) (ht:t<=255):Calls Tryz.prog 109 #[.int .u8 (t:Int)] w fun e w'=>e=.returned (.tuple #[.string (lY (iT t).1),.int .i64 (iT t).2])/\Below w.heap.size w w':=by
 have HK:=tX (gG t w ht);unfold iT
 by_cases h1:1<=t/\t<=11
 ·rw [if_pos h1]
  have e1:(decide (1<=t)&&decide (t<=11))=true:=by rw[decide_eq_true h1.1,decide_eq_true h1.2];rfl
  rw[e1]at HK;have HS:=tX (ZT t h1 w);generalize uL t=y at *;clear e1 h1
  go_enter Tryz.func109,Tryz.ntmps109
  go_wp2_with (first
   |(go_at_call 144;(with_reducible refine HS.out.mono ?_);rintro e w2 ⟨rfl,b2⟩)
   |(go_at_call 143;(with_reducible refine HK.out.mono ?_);rintro e w1 ⟨rfl,rfl⟩))
  go_ret2
  exact ⟨rfl,b2⟩
 rw[if_neg h1]
 have e1:(decide (1<=t)&&decide (t<=11))=false:=by
  by_cases h2:1<=t
  ·rw [decide_eq_false (p:=t<=11) (fun h3=>h1 ⟨h2,h3⟩),Bool.and_false]
  rw[decide_eq_false h2];rfl
 rw[e1]at HK;clear e1 h1
 go_enter Tryz.func109,Tryz.ntmps109
 go_wp2_with (go_at_call 143;(with_reducible refine HK.out.mono ?_);rintro e w1 ⟨rfl,rfl⟩)
 go_ret2
 exact ⟨rfl,Below.refl _ _⟩
def YD (w:World) (g:Nat):Prop:=∀t,1<=t/\t<=11->w.cell? ⟨g,t-1,none⟩=some (.string (lY (uL t)))
theorem YD.below {w w':World} {g:Nat} (h:YD w g) (hb:Below w.heap.size w w'):YD w' g:=fun t ht=>vJ hb (h t ht)
end Go.Proofs.YtdcjdnkdeamigaaGreatDoor
