/- Texts of one chain. -/
import Derived.Test.YtpohmekkdjdhmaaGreatPartQ
import Derived.Test.YtpohmekkdjdhmaaGreatPartTopPeriods25
import Derived.Deep.LoopGhost
namespace Go.Proofs.YtpohmekkdjdhmaaGreat
open Go.ChangeShapes Go.WideShapes Go.ChangeAt Go.RowKit
theorem fI.set {T b l p w} (h:fI T b l p w) (q:Nat):fI T b l q (w.setCell ⟨b,1,none⟩ (.int .i64 (q:Int))):=by
 unfold fI at h ⊢;simp only[World.setCell,Array.getElem?_modify,↓reduceIte,h,Option.map_some];rfl
structure pV (T : TypeId) (b : Nat) (l : List UInt8) (q : Nat) (w w' : World) : Prop where
 cur:fI T b l q w'
 grown:w.grownBy w' (some b)
theorem pV.trans {T b l q r w w1 w2} (h:pV T b l q w w1) (k:pV T b l r w1 w2):pV T b l r w w2:=⟨k.cur,Lib.grownBy_trans h.grown k.grown⟩
theorem pU (w:World) (n:Nat) (row:Option Nat):w.grownBy (w.drewN n) row:=⟨rfl,rfl,rfl,Nat.le_refl _,fun _ _ _=>rfl⟩
theorem pV.drew {T b l q w} (h:fI T b l q w) (n:Nat):pV T b l q w (w.drewN n):=⟨h,pU w n _⟩
theorem pV.refl {T b l q w} (h:fI T b l q w):pV T b l q w w:=⟨h,rfl,rfl,rfl,Nat.le_refl _,fun _ _ _=>rfl⟩
theorem zVV (T:TypeId) (b:Nat) (l:List UInt8) (p n:Nat) (w:World) (h:fI T b l p w) (hp:p+n<=l.length) (hl:l.length<=1048576):
 Calls Tryz.prog 124 #[(qP b),.int .i64 (n:Int)] w fun e w'=>e=.returned (.string (yG ((l.drop p).take n)))/\pV T b l (p+n) w w':=by
 have h0:=h.c0;have h1:=h.c1;have f1:=h.f1;have H:=pD h;clear h;have e1:=rQ l
 have s3:wrap64 ((p:Int)+(n:Int))=((p+n:Nat):Int):=by unfold wrap64;omega
 have i0:(0:Int)<=(p:Int):=by omega
 have i1:(p:Int)<=((p+n:Nat):Int):=by omega
 have i2:((p+n:Nat):Int)<=(l.length:Int):=by omega
 have hc:=zQW l p n;obtain ⟨q,hq⟩:∃q:Nat,q=p+n:=⟨_,rfl⟩;rw[<- hq]at s3 i1 i2 hc ⊢;have HQ:=pD hq;clear hq hp;have c0:(w.setCell ⟨b,1,none⟩ (.int .i64 (q:Int))).cell? ⟨b,0,none⟩=some (.string (yG l)):=(H.out.set q).c0;have c1:(w.setCell ⟨b,1,none⟩ (.int .i64 (q:Int))).cell? ⟨b,1,none⟩=some (.int .i64 (q:Int)):=(H.out.set q).c1
 go_enter Tryz.func124,Tryz.ntmps124
 go_wp2
 go_quiet (fail)
 go_wp2
 go_ret
 exact ⟨rfl,H.out.set q,Lib.grownBy_trans (Lib.grownBy_setCell w b 1 _) (pU _ _ _)⟩
structure zVU (f : Nat) (p : Int -> Bool) : Prop where
 tells:∀(c:Int) (w:World),Calls Tryz.prog f #[.int .u8 c] w fun e w'=>e=.returned (.bool (p c))/\w=w'
 enters:∀(c:Int) (w:World),(callFunc f #[.int .u8 c]).run Tryz.prog w=.ok (.enter f #[.int .u8 c]) w
set_option maxHeartbeats 1000000 in
theorem zQV (T:TypeId) (f:Nat) (P:Int->Bool) (hf:zVU f P) (b:Nat) (l:List UInt8) (p:Nat) (w:World) (h:fI T b l p w) (hp:p<=l.length) (hl:l.length<=1048576):
 Calls Tryz.prog 106 #[(qP b),.func (.func f) #[] #[]] w fun e w'=>e=.returned (.string (yG ((l.drop p).take (rR P (l.drop p)))))/\pV T b l (p+rR P (l.drop p)) w w':=by
 have e1:=rQ l;have HR:=pD (UR P (l.drop p));have HF:Hid (zVU f P):=hf
 have HT:Hid (∀ n W,fI T b l p W->p+n<=l.length->Calls Tryz.prog 124 #[(qP b),.int .i64 (n:Int)] W fun e w'=>e=.returned (.string (yG ((l.drop p).take n)))/\pV T b l (p+n) W w'):=fun n W hc hn=>zVV T b l p n W hc hn hl
 have hK:=hf.enters
 have HK:∀q,fI T b l p (w.drewN q):=fun _=>h
 clear hf;obtain ⟨N,hN⟩:∃N,rR P (l.drop p)=N:=⟨_,rfl⟩
 have HI:Hid (∀ k,k<N->P (XJ l (p+k))=true):=fun k hk=>by rw[<- aV];exact FN P _ k (by rw[hN];exact hk)
 have HO:Hid (p+N<l.length->P (XJ l (p+N))=false):=fun hk=>by
  have:=QJ P (l.drop p) (by rw[hN,List.length_drop];omega);rw[hN,aV]at this;exact this
 have HNL:p+N<=l.length:=by have:=HR.out;rw[hN,List.length_drop]at this;omega
 rw[hN];clear hN HR
 go_enter Tryz.func106,Tryz.ntmps106
 go_wp2
 go_loopg [5] N (fun gk v wr=>∃(k q:Nat),k<=N/\gk=N-k/\v=.int .i64 k/\wr=w.drewN q)
 case atStart=>exact ⟨0,0,Nat.zero_le _,rfl,rfl,rfl⟩
 case round=>
  obtain ⟨k,q,hk,rfl,rfl,rfl⟩:=hrel;have h0:=h.c0;have h1:=h.c1
  have s2:IntKind.i64.wrap ((p:Int)+(k:Int))=(p:Int)+(k:Int):=by rw[IntKind.wrap_i64];omega
  have i0:(0:Int)<=(p:Int)+(k:Int):=by omega
  have i3:((p:Int)+(k:Int)).toNat=p+k:=by omega
  by_cases hlt:p+k<l.length
  ·have i1:(p:Int)+(k:Int)<(l.length:Int):=by omega
   have g:=FM l (p+k) (by rw[e1];exact hlt);have HC:=pD (HF.out.tells (XJ l (p+k)))
   by_cases hkn:k<N
   ·have hP:=HI.out k hkn
    rw[hP]at HC
    go_wp2
    go_quiet (refine (HC.out _).mono fun _ _ h=>⟨h.1,_,h.2.symm⟩)
    go_wp2
    go_roundg (N-(k+1))
    case measure=>omega
    case rel=>exact ⟨k+1,_,by omega,rfl,by go_num,rfl⟩
   have e:k=N:=by omega
   subst e;have hP:=HO.out hlt;rw[hP]at HC
   go_wp2
   go_quiet (refine (HC.out _).mono fun _ _ h=>⟨h.1,_,h.2.symm⟩)
   go_wp2_with (go_at_call 124;(with_reducible refine (HT.out _ _ (HK _) HNL).mono ?_);rintro e w1 ⟨rfl,hm⟩)
   go_ret
   exact ⟨rfl,hm.cur,Lib.grownBy_trans (pU _ _ _) hm.grown⟩
  have e:k=N:=by omega
  subst e;have i1:decide ((p:Int)+(k:Int)<(l.length:Int))=false:=decide_eq_false (by omega)
  go_wp2
  go_quiet (fail)
  go_wp2_with (go_at_call 124;(with_reducible refine (HT.out _ _ (HK _) HNL).mono ?_);rintro e w1 ⟨rfl,hm⟩)
  go_ret
  exact ⟨rfl,hm.cur,Lib.grownBy_trans (pU _ _ _) hm.grown⟩
set_option maxRecDepth 100000 in
theorem KC:zVU 107 mD:=⟨KD,fun _ _=>rfl⟩
end Go.Proofs.YtpohmekkdjdhmaaGreat
