/- Texts of one chain. -/
import Derived.Test.YtpohmekkdjdhmaaGreatPartQ
import Derived.Test.YtpohmekkdjdhmaaGreatPartTopPeriods7
import Derived.Test.YtpohmekkdjdhmaaGreatPartTopPeriods8
set_option maxRecDepth 100000
set_option maxHeartbeats 1000000
namespace Go.Proofs.YtpohmekkdjdhmaaGreat
open Go.ChangeShapes Go.WideShapes Go.ChangeAt Go.RowKit
theorem SG {fs:List (Int × Int)} (h:vL fs=true) {k:Nat} (hk:k<fs.length):yM (uD fs k) (uV fs k)=true:=by
 induction fs generalizing k with
 |nil=>simp at hk
 |cons f fs ih=>
  rw[vL,Bool.and_eq_true]at h
  cases k with
  |zero=>exact h.1
  |succ k=>exact ih h.2 (by simpa using hk)
def zSU (w:World) (fs:List (Int × Int)) (e:Ending) (w':World):Prop:=
 Below w.heap.size w w'/\((∃ x y,vG 1 1 fs=some (x,y)/\e=.returned (.agg #[.int .i64 x,.int .i64 y]))\/(vG 1 1 fs=none/\e=.panicked wY))
theorem DJ {fs:List (Int × Int)} {k:Nat} {x y u v:Int} (HS:vG x y (fs.drop k)=vG 1 1 fs) (HD:fs.drop k=(u,v)::fs.drop (k+1)) (h:sX x y u v=true):vG (pB x y u v) (pA x y u v) (fs.drop (k+1))=vG 1 1 fs:=by
 rw[<- HS,HD,vG];simp only[h,if_true]
theorem DI {fs:List (Int × Int)} {k:Nat} {x y u v:Int} (HS:vG x y (fs.drop k)=vG 1 1 fs) (HD:fs.drop k=(u,v)::fs.drop (k+1)) (h:sX x y u v=false):vG 1 1 fs=none:=by
 rw[<- HS,HD,vG];simp only[h,if_false,Bool.false_eq_true]
theorem gA {n d:Int} (h:yM n d=true):0<d:=(yB.1 h).1
theorem zXR {a b c d:Int} (h:sX a b c d=true):(-9223372036854775808<=pB a b c d/\pB a b c d<=9223372036854775807)/\(-9223372036854775808<=pA a b c d/\pA a b c d<=9223372036854775807):=by
 unfold sX at h;rw[Bool.and_eq_true]at h;exact ⟨xC.1 h.1,xC.1 h.2⟩
theorem cH (a:Option Addr) (fs:List (Int × Int)) (len cap:Nat) (w:World) (hl:fs.length=len) (hm:len<=4611686018427387904) (hz:iS fs) (h:SJ w a fs) (hall:vL fs=true):
 Calls Tryz.prog 95 #[.slice a len cap] w (zSU w fs):=by
 have HA:Hid (vL fs=true):=hall;clear hall;have k0:Hid (Below w.heap.size w ((w.alloc (.cells #[.int .i64 0,.int .i64 0] 117)).alloc (.cells #[.int .i64 1,.int .i64 1] 117))):=((Below.refl _ _).alloc (Nat.le_refl _) _).alloc (by simp) _;have k1:=(tL w (.int .i64 0) (.int .i64 0) 117).alloc (.cells #[.int .i64 1,.int .i64 1] 117);have k2:vJ ((w.alloc (.cells #[.int .i64 0,.int .i64 0] 117)).alloc (.cells #[.int .i64 1,.int .i64 1] 117)) (w.heap.size+1) (.int .i64 1) (.int .i64 1):=lU _ _ _ _ (by simp)
 rcases h with h|⟨b,off,rfl,hc⟩
 ·subst h
  subst hl
  go_enter Tryz.func95,Tryz.ntmps95
  go_wp2
  go_loop [9] (fun i=>i=.int .i64 0) (fun _=>0)
  case atStart=>exact rfl
  case round=>
   subst hrel
   go_wp2
   refine bodyPost_ret (v:=.agg #[.int .i64 1,.int .i64 1]) (by simp[results,Tryz.results95,go_sem]) rfl ⟨?_,.inl ⟨1,1,rfl,rfl⟩⟩
   exact ((Below.refl _ _).alloc (Nat.le_refl _) _).alloc (by simp) _
 have HC:Hid (∀ k,k<fs.length->w.cell? ⟨b,off+k*2,none⟩=some (.int .i64 (uD fs k))/\w.cell? ⟨b,off+k*2+1,none⟩=some (.int .i64 (uV fs k))):=hc;clear hc
 go_enter Tryz.func95,Tryz.ntmps95
 go_wp2
 go_loopg [9] len (fun gk i wr=>∃(k:Nat) (x y:Int),k<=len/\gk=len-k/\i=.int .i64 k/\(-9223372036854775808<=x/\x<=9223372036854775807)/\y<=9223372036854775807/\yM x y=true/\vG x y (fs.drop k)=vG 1 1 fs/\Below w.heap.size w wr/\vJ wr w.heap.size (.int .i64 0) (.int .i64 0)/\vJ wr (w.heap.size+1) (.int .i64 x) (.int .i64 y))
 case atStart=>exact ⟨0,1,1,Nat.zero_le _,rfl,rfl,by decide,by decide,by decide,rfl,k0.out,k1,k2⟩
 case round=>
  clear k0 k1 k2;obtain ⟨k,x,y,hk,rfl,rfl,hx,hy,hv,hs,hbel,v0,v1⟩:=hrel;have HS:Hid (vG x y (fs.drop k)=vG 1 1 fs):=hs;have HVd:Hid (yM x y=true):=hv;clear hs hv;have c0:=v1.c0;have c1:=v1.c1
  have c0':=fun o=>(v1.alloc o).c0
  have c1':=fun o=>(v1.alloc o).c1
  by_cases hlt:k<len
  ·obtain ⟨q1,q2⟩:=HC.out k (by omega)
   have hlt':=block_lt_of_cell q1
   have hck1:wr.cell? ⟨b,off+k*2,none⟩=some (.int .i64 (uD fs k)):=by rw[hbel.cell (p:=⟨b,off+k*2,none⟩) hlt'];exact q1
   have hck2:wr.cell? ⟨b,off+k*2+1,none⟩=some (.int .i64 (uV fs k)):=by rw[hbel.cell (p:=⟨b,off+k*2+1,none⟩) hlt'];exact q2
   obtain ⟨z1,z2⟩:=hz k;have HD:Hid (fs.drop k=(uD fs k,uV fs k)::fs.drop (k+1)):=zXS (by omega);have HV2:Hid (yM (uD fs k) (uV fs k)=true):=SG HA.out (by omega);clear q1 q2;generalize uD fs k=u at *;generalize uV fs k=v at *
   have ht:=fun W=>MJ x y u v W hx ⟨gA HVd.out,hy⟩ z1 ⟨gA HV2.out,z2.2⟩
   cases hB:sX x y u v
   ·have HB:Hid (sX x y u v=false):=hB
    clear hB
    go_wp2_with (go_at_call 115;refine (ht _).mono ?_;rintro e w1 ⟨hb1,⟨h1,rfl⟩|⟨h1,rfl⟩⟩;(rw [HB.out]at h1;cases h1))
    exact ⟨rfl,(hbel.alloc hbel.size _).trans (hb1.mono (by have:=hbel.size;simp;omega)),.inr ⟨DI HS.out HD.out HB.out,rfl⟩⟩
   have HB:Hid (sX x y u v=true):=hB;clear hB;have hf:=zXR HB.out;have HVN:=gG HVd.out HV2.out;have HNX:Hid (vG (pB x y u v) (pA x y u v) (fs.drop (k+1))=vG 1 1 fs):=DJ HS.out HD.out HB.out;have HVX:Hid (yM (pB x y u v) (pA x y u v)=true):=HVN.1;clear HVN;have HX:Hid ((-9223372036854775808<=pB x y u v/\pB x y u v<=9223372036854775807)/\(-9223372036854775808<=pA x y u v/\pA x y u v<=9223372036854775807)):=hf;clear hf
   go_wp2_with (go_at_call 115;refine (ht _).mono ?_;rintro e w1 ⟨hb1,⟨h1,rfl⟩|⟨h1,rfl⟩⟩;rotate_left;(rw [HB.out]at h1;cases h1);have b1:Below (w.heap.size+1+1) wr w1:=((Below.refl _ _).alloc (by have:=v1.lt;omega) _).trans (hb1.mono (by have:=v1.lt;simp;omega));have V0:=v0.later b1 (by omega);have V1:=v1.later b1 (by omega);have e0:=V1.c0;have e1:=V1.c1;have f0:=V1.f0;have f1:=V1.f1)
   go_roundg (len-(k+1))
   case measure=>omega
   case rel=>exact ⟨k+1,_,_,by omega,rfl,by go_num,HX.out.1,HX.out.2.2,HVX.out,HNX.out,((hbel.trans (b1.mono (by omega))).setCell (by simp) _).setCell (by simp) _,(V0.other (by simp) _).other (by simp) _,V1.put _ _⟩
  have HD:Hid (fs.drop k=[]):=gB (by omega);have r0:=v0.c0;have r1:=v0.c1;have f0:=v0.f0;have f1:=v0.f1
  go_wp2
  refine bodyPost_ret (v:=.agg #[.int .i64 x,.int .i64 y]) (by simp[results,Tryz.results95,go_sem,r0,r1]) rfl ⟨?_,.inl ⟨x,y,by rw[<- HS.out,HD.out];rfl,rfl⟩⟩
  exact (hbel.setCell (by exact Nat.le_refl _) _).setCell (by exact Nat.le_refl _) _
def MulC (w:World) (fs:List (Int × Int)) (bf:Nat) (e:Ending) (w':World):Prop:=
 ∃w1,Below w.heap.size w w1/\((∃ x y,vG 1 1 fs=some (x,y)/\e=.returned (.tuple #[])/\w'=(w1.setCell ⟨bf,0,none⟩ (.int .i64 x)).setCell ⟨bf,1,none⟩ (.int .i64 y))\/(vG 1 1 fs=none/\e=.panicked wY/\w'=w1))
theorem zXQ (a:Option Addr) (fs:List (Int × Int)) (len cap:Nat) (bs bf:Nat) (w:World) (hl:fs.length=len) (hm:len<=4611686018427387904) (hz:iS fs) (h:SJ w a fs) (hall:vL fs=true)
 (vs:wC w bs (.slice a len cap)) (vf:vJ w bf (.int .i64 0) (.int .i64 0)):
 Calls Tryz.prog 94 #[(qP bs),(qP bf)] w (MulC w fs bf):=by
 have cs:=vs.c0;have hlow:=cH a fs len cap w hl hm hz h hall;clear hall h
 cases hB:vG 1 1 fs with
 |none=>
  have HB:Hid (vG 1 1 fs=none):=hB;clear hB
  go_enter Tryz.func94,Tryz.ntmps94
  go_wp2_with (go_at_call 95;refine hlow.mono ?_;rintro e w1 ⟨hb,⟨x,y,h1,rfl⟩|⟨h1,rfl⟩⟩;(rw [HB.out]at h1;cases h1))
  exact ⟨rfl,w1,hb,.inr ⟨HB.out,rfl,rfl⟩⟩
 |some xy=>
  obtain ⟨x,y⟩:=xy;have HB:Hid (vG 1 1 fs=some (x,y)):=hB;clear hB
  go_enter Tryz.func94,Tryz.ntmps94
  go_wp2_with (go_at_call 95;refine hlow.mono ?_;rintro e w1 ⟨hb,⟨x',y',h1,rfl⟩|⟨h1,rfl⟩⟩;rotate_left;(rw [HB.out]at h1;cases h1);rw[HB.out]at h1;cases h1;have V:=vf.later hb vf.lt;have c0:=V.c0;have c1:=V.c1;have f0:=V.f0;have f1:=V.f1)
  go_end0
  exact ⟨w1,hb,.inl ⟨x,y,HB.out,rfl,rfl⟩⟩
def prN (fs:List (Int × Int)):Int:=((vG 1 1 fs).getD (0,0)).1
def prD (fs:List (Int × Int)):Int:=((vG 1 1 fs).getD (0,0)).2
def prE (fs:List (Int × Int)):Int:=if (vG 1 1 fs).isSome then 0 else 4
def MulT (w:World) (fs:List (Int × Int)) (bf:Nat) (e:Ending) (w':World):Prop:=
 e=.returned (.int .i64 (prE fs))/\vJ w' bf (.int .i64 (prN fs)) (.int .i64 (prD fs))/\Below bf w w'
theorem zST (a:Option Addr) (fs:List (Int × Int)) (len cap:Nat) (bs bf:Nat) (w:World) (hl:fs.length=len) (hm:len<=4611686018427387904) (hz:iS fs) (h:SJ w a fs) (hall:vL fs=true)
 (vs:wC w bs (.slice a len cap)) (vf:vJ w bf (.int .i64 0) (.int .i64 0)):
 Calls Tryz.prog 93 #[.func (.func 94) #[] #[(qP bs),(qP bf)]] w (MulT w fs bf):=by
 have b1:Below w.heap.size w (w.alloc (.cells #[.int .i64 0] 31)):=(Below.refl _ _).alloc (Nat.le_refl _) _;have ve:=tK w (.int .i64 0) 31
 have sz:(w.alloc (.cells #[.int .i64 0] 31)).heap.size=w.heap.size+1:=by simp
 have hlt:=vf.lt;refine (mW 94 _ w (fun ok w1=>ok=(vG 1 1 fs).isSome/\Below bf w w1/\vJ w1 bf (.int .i64 (prN fs)) (.int .i64 (prD fs))) (fun w'=>by simp[go_sem]) ?_).mono ?_
 ·refine (zXQ a fs len cap bs bf _ hl hm hz (h.below b1) hall (vs.later b1 vs.lt) (vf.later b1 vf.lt)).mono ?_
  rintro e w' ⟨w1,hb,⟨x,y,hB,rfl,rfl⟩|⟨hB,rfl,rfl⟩⟩
  ·have hb':=b1.trans (hb.mono (by omega))
   refine ⟨((ve.later hb ve.lt).other (by simp;omega) _).other (by simp;omega) _,.inl ⟨rfl,by rw[hB];rfl,?_,?_⟩⟩
   ·exact ((hb'.mono (by omega)).setCell (by exact Nat.le_refl _) _).setCell (by exact Nat.le_refl _) _
   unfold prN prD;rw[hB];exact (vf.later hb' vf.lt).put _ _
  have hb':=b1.trans (hb.mono (by omega));refine ⟨ve.later hb ve.lt,.inr ⟨rfl,by rw[hB];rfl,hb'.mono (by omega),?_⟩⟩
  unfold prN prD;rw[hB];exact vf.later hb' vf.lt
 rintro e w' ⟨ok,w1,⟨rfl,hb,v⟩,rfl,rfl⟩
 exact ⟨rfl,v.other (by simp;omega) _,hb.setCell (by simp;omega) _⟩
def zXP (w:World) (fs:List (Int × Int)) (e:Ending) (w':World):Prop:=
 e=.returned (.tuple #[.agg #[.int .i64 (VQ fs),.int .i64 (VP fs)],.int .i64 (ZG fs)])/\Below w.heap.size w w'
theorem zXO (a:Option Addr) (fs:List (Int × Int)) (len cap:Nat) (w:World) (hl:fs.length=len) (hm:len<=4611686018427387904) (hz:iS fs) (h:SJ w a fs):
 Calls Tryz.prog 74 #[.slice a len cap] w (zXP w fs):=by
 have hmf:∀(fn:Fn) (first cap:Array Value) (w:World),(Instr.makeFunc fn first cap).run Tryz.prog w=.ok (.func fn first cap) w:=fun _ _ _ _=>rfl
 have hv:=fun W k=>iR a fs len cap W hl hm hz k
 have HV:Hid (∃ W,W=(w.alloc (.cells #[.slice a len cap] 111)).alloc (.cells #[.int .i64 0,.int .i64 0] 117)/\wC W w.heap.size (.slice a len cap)/\vJ W (w.heap.size+1) (.int .i64 0) (.int .i64 0)/\Below w.heap.size w W/\W.heap.size=w.heap.size+1+1):=by
  refine ⟨_,rfl,?_,?_,?_,?_⟩
  ·exact (tK w _ _).alloc _
  ·exact lU _ _ _ _ (by simp)
  ·exact ((Below.refl _ _).alloc (Nat.le_refl _) _).alloc (by simp) _
  simp
 have HAt:Hid (SJ w a fs):=h
 cases hB:vL fs
 ·rw [hB]at hv
  have K:Hid (VQ fs=0/\VP fs=0/\ZG fs=1):=⟨by unfold VQ;rw[hB];rfl,by unfold VP;rw[hB];rfl,by unfold ZG;rw[hB];rfl⟩;clear hB h
  go_enter Tryz.func74,Tryz.ntmps74
  go_wp2_with (go_at_call 92;obtain ⟨W,eW,k0,k1,kb,ks⟩:=HV.out;subst eW;refine (hv _ (HAt.out.below kb)).mono ?_;rintro e w1 ⟨rfl,hb⟩;have r:=k1.later hb k1.lt;have d0:=r.c0;have d1:=r.c1;have f0:=r.f0;have f1:=r.f1)
  refine bodyPost_ret (v:=.tuple #[.agg #[.int .i64 0,.int .i64 0],.int .i64 1]) (by simp[results,Tryz.results74,go_sem,d0,d1]) rfl ⟨by rw[K.out.1,K.out.2.1,K.out.2.2],?_⟩
  exact ((kb.trans (hb.mono (by omega))).setCell (by simp) _).setCell (by simp) _
 rw[hB]at hv;have K:Hid (VQ fs=prN fs/\VP fs=prD fs/\ZG fs=prE fs):=⟨by unfold VQ;rw[hB];rfl,by unfold VP;rw[hB];rfl,by unfold ZG;rw[hB];rfl⟩
 have HT:=fun bs bf W k1 k2 k3=>zST a fs len cap bs bf W hl hm hz k1 hB k2 k3
 clear hB h
 go_enter Tryz.func74,Tryz.ntmps74
 go_wp2_with (first
  |(go_at_call 92;obtain ⟨W,eW,k0,k1,kb,ks⟩:=HV.out;subst eW;refine (hv _ (HAt.out.below kb)).mono ?_;rintro e w1 ⟨rfl,hb⟩;have q1:=kb.trans (hb.mono (by omega));have s0:=(k0.later hb k0.lt).alloc (.cells #[.int .i64 0,.int .i64 0] 117);have s1:=(k1.later hb k1.lt).alloc (.cells #[.int .i64 0,.int .i64 0] 117);have s2:=tL w1 (.int .i64 0) (.int .i64 0) 117;have ss:=hb.size)
  |(go_at_call 93;refine (HT _ _ _ (HAt.out.below (q1.alloc q1.size _)) s0 s2).mono ?_;rintro e w2 ⟨rfl,v,hb2⟩;have c0:=v.c0;have c1:=v.c1;have r:=s1.later hb2 (by omega);have d0:=r.c0;have d1:=r.c1;have f0:=r.f0;have f1:=r.f1))
 refine bodyPost_ret (v:=.tuple #[.agg #[.int .i64 (prN fs),.int .i64 (prD fs)],.int .i64 (prE fs)]) (by simp[results,Tryz.results74,go_sem,d0,d1]) rfl ⟨by rw[K.out.1,K.out.2.1,K.out.2.2],?_⟩
 exact (((q1.alloc q1.size _).trans (hb2.mono q1.size)).setCell (by simp) _).setCell (by simp) _
end Go.Proofs.YtpohmekkdjdhmaaGreat
