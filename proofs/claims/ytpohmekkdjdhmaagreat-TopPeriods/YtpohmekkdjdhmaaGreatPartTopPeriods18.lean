/- Texts of one chain. -/
import Derived.Test.YtpohmekkdjdhmaaGreatPartTopPeriods16
import Derived.Laws.Strings
import Derived.Test.YtpohmekkdjdhmaaGreatPartTopPeriods13
namespace Go.Proofs.YtpohmekkdjdhmaaGreat
open Go.ChangeShapes Go.WideShapes Go.ChangeAt Go.RowKit
def wordS (t:Nat):List UInt8:=
 match t with
 |1=>[102,105,108,116,101,114]
 |2=>[117,112]
 |3=>[100,111,119,110]
 |4=>[119,101,97,118,101]
 |5=>[117,110,119,101,97,118,101]
 |6=>[97,100,100]
 |7=>[113,117,111,116]
 |8=>[115,117,109]
 |9=>[99,111,112,121]
 |10=>[116,105,99,107]
 |11=>[100,114,111,112]
 |_=>[]
def tagG:Nat->Nat->List UInt8->Nat × Int
 |0,_,_=>(0,60)
 |f+1,t,x=>if wordS t=x then (t,0) else tagG f (t+1) x
def tagS (x:List UInt8):Nat × Int:=tagG 11 1 x
def tot:List Int->Int
 |[]=>0
 |x::r=>x+tot r
theorem UV (x:Int):∀n:Nat,tot (List.replicate n x)=(n:Int)*x
 |0=>by show (0:Int)=((0:Nat):Int)*x;simp
 |n+1=>by
  show x+tot (List.replicate n x)=((n+1:Nat):Int)*x;rw[UV x n,Int.natCast_add,Int.add_mul];omega
structure rU (P : List Int) : Prop where
 len:P.length<=16
 each:∀x ∈ P,1<=x/\x<=64
 sum:0<=tot P/\tot P<=64
theorem XP:rU []:=⟨by decide,(fun x h=>by cases h),⟨by decide,by decide⟩⟩
theorem sK {x:Int} (h:1<=x/\x<=64):rU [x]:=⟨by simp,(fun y hy=>by simp at hy;subst hy;exact h),by show 0<=x+0/\x+0<=64;omega⟩
theorem lC {n x:Int} (h:1<=n/\n<=16) (h2:1<=x/\x<=64) (h3:n*x<=64):rU (TC n x):=by
 have hp:=(tW h h2).1;unfold TC;refine ⟨by rw[List.length_replicate];omega,fun y hy=>by rw[List.eq_of_mem_replicate hy];exact h2,?_⟩
 rw[UV,show ((n.toNat:Nat):Int)=n by omega];omega
theorem dY {n x:Int} (h:1<=n/\n<=16) (h2:1<=x/\x<=64):0<tot (TC n x):=by
 have hp:=(tW h h2).1;unfold TC;rw[UV,show ((n.toNat:Nat):Int)=n by omega];omega
theorem cY {zs:List Int} (h:(decide (zs.length=2)&&wU (zS zs 0) (zS zs 1))=true):zS zs 0*zS zs 1<=64:=by
 unfold wU at h;rw[Bool.and_eq_true,Bool.and_eq_true,Bool.and_eq_true,decide_eq_true_iff,decide_eq_true_iff]at h;exact h.2.2.2
def zPA (P Q:List Int):Prop:=rU P/\rU Q/\0<tot P+tot Q
theorem pG:rU [1]:=sK (by decide)
theorem zWE:rU [1,1]:=⟨by decide,by decide,⟨by decide,by decide⟩⟩
theorem vR {P Q:List Int} (h1:rU P) (h2:rU Q) (h:0<tot P\/0<tot Q):zPA P Q:=⟨h1,h2,by have:=h1.sum;have:=h2.sum;omega⟩
theorem pW:0<tot [1]:=by decide
theorem QQ:∀t,1<=t/\t<=11->∀zs,jI t zs=true->zPA (mJ t zs) (tG t zs):=by
 refine bG ?_ ?_ ?_ ?_ ?_ ?_ ?_ ?_ ?_ ?_ ?_
 ·exact fun zs _=>vR pG pG (.inl pW)
 ·exact fun zs h=>vR pG (sK (uH rfl h).2) (.inl pW)
 ·exact fun zs h=>vR (sK (uH rfl h).2) pG (.inr pW)
 ·intro zs h
  have h2:=(mH rfl h).2;exact vR (lC h2.1 h2.2 (cY h)) (sK ⟨(tW h2.1 h2.2).1,cY h⟩) (.inl (dY h2.1 h2.2))
 ·intro zs h
  have h2:=(mH rfl h).2;exact vR (sK ⟨(tW h2.1 h2.2).1,cY h⟩) (lC h2.1 h2.2 (cY h)) (.inr (dY h2.1 h2.2))
 ·intro zs h
  have h2:=(uH rfl h).2;exact vR (lC h2 (by decide) (by omega)) pG (.inr pW)
 ·exact fun zs _=>vR zWE pG (.inr pW)
 ·exact fun zs _=>vR pG pG (.inl pW)
 ·intro zs h
  have h2:=(uH rfl h).2;exact vR pG (lC h2 (by decide) (by omega)) (.inl pW)
 ·exact fun zs _=>vR XP pG (.inr pW)
 intro zs h;have h2:=(uH rfl h).2;exact vR (sK h2) XP (.inl (by show 0<zS zs 0+0;omega))
end Go.Proofs.YtpohmekkdjdhmaaGreat
