/- Texts of one chain. -/
import Derived.Test.YtpohmekkdjdhmaaGreatPartTopPeriods6
import Derived.Deep.LoopGhost
namespace Go.Proofs.YtpohmekkdjdhmaaGreat
open Go.ChangeShapes Go.WideShapes Go.ChangeAt Go.RowKit
def uD (fs:List (Int × Int)) (k:Nat):Int:=(fs.getD k (0,0)).1
def uV (fs:List (Int × Int)) (k:Nat):Int:=(fs.getD k (0,0)).2
def iS (fs:List (Int × Int)):Prop:=∀k,(-9223372036854775808<=uD fs k/\uD fs k<=9223372036854775807)/\(-9223372036854775808<=uV fs k/\uV fs k<=9223372036854775807)
theorem zXS {fs:List (Int × Int)} {k:Nat} (h:k<fs.length):fs.drop k=(uD fs k,uV fs k)::fs.drop (k+1):=by
 rw[List.drop_eq_getElem_cons h];unfold uD uV;rw[List.getD_eq_getElem?_getD,List.getElem?_eq_getElem h];rfl
theorem gB {fs:List (Int × Int)} {k:Nat} (h:¬k<fs.length):fs.drop k=[]:=List.drop_eq_nil_of_le (by omega)
def SJ (w:World) (a:Option Addr) (fs:List (Int × Int)):Prop:=
 fs=[]\/∃b off,a=some ⟨b,off,none⟩/\∀k,k<fs.length->w.cell? ⟨b,off+k*2,none⟩=some (.int .i64 (uD fs k))/\w.cell? ⟨b,off+k*2+1,none⟩=some (.int .i64 (uV fs k))
theorem SJ.below {w w':World} {a:Option Addr} {fs:List (Int × Int)} (h:SJ w a fs) (hb:Below w.heap.size w w'):SJ w' a fs:=by
 rcases h with h|⟨b,off,rfl,hc⟩
 ·exact Or.inl h
 refine Or.inr ⟨b,off,rfl,fun k hk=>?_⟩
 have h1:=block_lt_of_cell (hc k hk).1;exact ⟨by rw[hb.cell (p:=⟨b,off+k*2,none⟩) h1];exact (hc k hk).1,by rw[hb.cell (p:=⟨b,off+k*2+1,none⟩) h1];exact (hc k hk).2⟩
structure zOJ (w : World) (a : Option Addr) (len cap : Nat) (fs : List (Int × Int)) : Prop where
 size:fs.length=len
 reach:len*16<=140737488351232
 none:a=Option.none->len=0/\cap=0
 fits:iS fs
 lies:SJ w a fs
 room:len<=cap
theorem zOJ.below {w w':World} {a:Option Addr} {len cap:Nat} {fs:List (Int × Int)} (h:zOJ w a len cap fs) (hb:Below w.heap.size w w'):zOJ w' a len cap fs:=
 ⟨h.size,h.reach,h.none,h.fits,h.lies.below hb,h.room⟩
set_option maxRecDepth 100000 in
set_option maxHeartbeats 1000000 in
theorem iR (a:Option Addr) (fs:List (Int × Int)) (len cap:Nat) (w:World) (hl:fs.length=len) (hm:len<=4611686018427387904) (hz:iS fs) (h:SJ w a fs):
 Calls Tryz.prog 92 #[.slice a len cap] w fun e w'=>e=.returned (.bool (vL fs))/\Below w.heap.size w w':=by
 rcases h with h|⟨b,off,rfl,hc⟩
 ·subst h
  subst hl
  go_enter Tryz.func92,Tryz.ntmps92
  go_wp2
  go_loop [7] (fun i=>i=.int .i64 0) (fun _=>0)
  case atStart=>exact rfl
  case round=>
   subst hrel
   go_wp2
   go_ret
   exact ⟨rfl,Below.refl _ _⟩
 have HC:Hid (∀ k,k<fs.length->w.cell? ⟨b,off+k*2,none⟩=some (.int .i64 (uD fs k))/\w.cell? ⟨b,off+k*2+1,none⟩=some (.int .i64 (uV fs k))):=hc;clear hc
 go_enter Tryz.func92,Tryz.ntmps92
 go_wp2
 go_loopg [7] len (fun gk i wr=>∃k:Nat,k<=len/\gk=len-k/\i=.int .i64 k/\vL (fs.drop k)=vL fs/\Below w.heap.size w wr)
 case atStart=>exact ⟨0,Nat.zero_le _,rfl,rfl,rfl,Below.refl _ _⟩
 case round=>
  obtain ⟨k,hk,rfl,rfl,hs,hbel⟩:=hrel;have HS:Hid (vL (fs.drop k)=vL fs):=hs;clear hs
  by_cases hlt:k<len
  ·obtain ⟨q1,q2⟩:=HC.out k (by omega)
   have hlt':=block_lt_of_cell q1
   have hck1:wr.cell? ⟨b,off+k*2,none⟩=some (.int .i64 (uD fs k)):=by rw[hbel.cell (p:=⟨b,off+k*2,none⟩) hlt'];exact q1
   have hck2:wr.cell? ⟨b,off+k*2+1,none⟩=some (.int .i64 (uV fs k)):=by rw[hbel.cell (p:=⟨b,off+k*2+1,none⟩) hlt'];exact q2
   obtain ⟨z1,z2⟩:=hz k;have HD:Hid (fs.drop k=(uD fs k,uV fs k)::fs.drop (k+1)):=zXS (by omega)
   have hv:=fun W=>DK (uD fs k) (uV fs k) W z1 z2
   clear q1 q2;generalize uD fs k=x at *;generalize uV fs k=y at *
   cases hB:yM x y
   ·have HB:Hid (yM x y=false):=hB
    rw[hB]at hv;clear hB
    go_wp2_with (go_at_call 113;refine (hv _).mono ?_;rintro e w1 ⟨rfl,hb1⟩)
    go_ret
    have e:vL fs=false:=by rw[<- HS.out,HD.out,vL,HB.out];rfl
    exact ⟨by rw[e];rfl,(hbel.alloc hbel.size _).trans (hb1.mono (by have:=hbel.size;simp;omega))⟩
   have HB:Hid (yM x y=true):=hB;rw[hB]at hv;clear hB
   go_wp2_with (go_at_call 113;refine (hv _).mono ?_;rintro e w1 ⟨rfl,hb1⟩)
   go_roundg (len-(k+1))
   case measure=>omega
   case rel=>exact ⟨k+1,by omega,rfl,by go_num,by rw[<- HS.out,HD.out,vL,HB.out];rfl,(hbel.alloc hbel.size _).trans (hb1.mono (by have:=hbel.size;simp;omega))⟩
  have HD:Hid (fs.drop k=[]):=gB (by omega)
  go_wp2
  go_ret
  have e:vL fs=true:=by rw[<- HS.out,HD.out];rfl
  exact ⟨by rw[e];rfl,hbel⟩
end Go.Proofs.YtpohmekkdjdhmaaGreat
