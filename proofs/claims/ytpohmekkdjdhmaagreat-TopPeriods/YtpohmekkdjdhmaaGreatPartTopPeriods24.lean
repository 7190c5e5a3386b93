/- Texts of one chain. -/
import Derived.RowKit
import Derived.Lib.AtoiAll
namespace Go.Proofs.YtpohmekkdjdhmaaGreat
open Go.RowKit
def QK (b:Int):Bool:=decide (97<=b)&&decide (b<=122)
def zVX (b:Int):Bool:=decide (48<=b)&&decide (b<=57)
def mD (b:Int):Bool:=QK b||zVX b||decide (b=95)
def XJ (l:List UInt8) (n:Nat):Int:=((l.getD n 0).toNat:Int)
def rR (p:Int->Bool):List UInt8->Nat
 |[]=>0
 |c::r=>if p (c.toNat:Int) then rR p r+1 else 0
theorem UR (p:Int->Bool):∀l,rR p l<=l.length
 |[]=>Nat.le_refl _
 |c::r=>by
  unfold rR
  split
  ·have:=UR p r;simp;omega
  simp
theorem zVW (c:UInt8) (r:List UInt8):XJ (c::r) 0=(c.toNat:Int):=rfl
theorem zQX {l:List UInt8} {n:Nat} (h:l.length<=n):XJ l n=0:=by
 unfold XJ;rw[List.getD_eq_getElem?_getD,List.getElem?_eq_none h];rfl
theorem aV (l:List UInt8) (k n:Nat):XJ (l.drop k) n=XJ l (k+n):=by
 unfold XJ;rw[List.getD_eq_getElem?_getD,List.getD_eq_getElem?_getD,List.getElem?_drop]
theorem FN (p:Int->Bool):∀(l:List UInt8) (k:Nat),k<rR p l->p (XJ l k)=true
 |[],k,h=>by simp[rR]at h
 |c::r,k,h=>by
  unfold rR at h
  split at h
  ·rename_i hc
   match k,h with
   |0,_=>exact hc
   |k+1,h=>exact FN p r k (by omega)
  omega
theorem QJ (p:Int->Bool):∀(l:List UInt8),rR p l<l.length->p (XJ l (rR p l))=false
 |[],h=>by simp at h
 |c::r,h=>by
  unfold rR at h ⊢
  split
  ·rename_i hc
   rw[if_pos hc]at h;exact QJ p r (by simp at h;omega)
  rename_i hc
  rw[zVW]
  simpa using hc
structure Tok where
 sort:Int
 text:List UInt8
 num:Int
 place:Int
structure One where
 tok:Tok
 err:Int
 n:Nat
structure Got where
 toks:List Tok
 err:Int
 place:Int
def Got.cons (t:Tok) (g:Got):Got:=if g.err=0 then ⟨t::g.toks,0,0⟩ else g
end Go.Proofs.YtpohmekkdjdhmaaGreat
