/- Texts of one chain. -/
import Derived.Test.YtpohmekkdjdhmaaGreatRows
import Derived.Test.YtpohmekkdjdhmaaGreatPartTopPeriods1
import Derived.WalkKit
import Derived.ProofKit
import Derived.OpenShut
import Derived.BigQuiet
import Derived.Outline
set_option maxHeartbeats 400000
namespace Go.Proofs.YtpohmekkdjdhmaaGreat
open Go.ChangeShapes Go.WideShapes Go.ChangeAt Go.RowKit
theorem iZ {a b:Int} {c d:Bool} (h:a=b) (k:c=d):Ending.returned (.tuple #[.int .i64 a,.bool c])=.returned (.tuple #[.int .i64 b,.bool d]):=by rw[h,k]
theorem zTA {a b:Int} (h:a=b):Ending.returned (.int .i64 a)=.returned (.int .i64 b):=by rw[h]
theorem DQ (x y:Int) (hy:y≠0) (hx1: -9223372036854775808<=x) (hx2:x<=9223372036854775807):
 wrap64 (x.tmod y)=x.tmod y/\(-9223372036854775808<=x.tmod y/\x.tmod y<=9223372036854775807)/\(x.tmod y).natAbs<y.natAbs/\Nat.gcd y.natAbs (x.tmod y).natAbs=Nat.gcd x.natAbs y.natAbs/\(0<=x->0<=x.tmod y):=by
 have h1:(x.tmod y).natAbs=x.natAbs % y.natAbs:=Int.natAbs_tmod x y;have h2:x.natAbs % y.natAbs<y.natAbs:=Nat.mod_lt _ (by omega);have h3:x.natAbs % y.natAbs<=x.natAbs:=Nat.mod_le _ _
 have h4:0<=x->0<=x.tmod y:=fun h=>Int.tmod_nonneg y h
 have h5:x<0->x.tmod y<=0:=fun h=>by
  have:=Int.tmod_nonneg y (a:= -x) (by omega);rw[Int.neg_tmod]at this;omega
 refine ⟨?_,?_,by omega,?_,h4⟩
 ·unfold wrap64;omega
 ·omega
 rw[h1,Nat.gcd_comm,<-Nat.gcd_rec,Nat.gcd_comm]
theorem dE (a b:Int) (w:World) (ha: -9223372036854775808<=a/\a<=9223372036854775807) (hb: -9223372036854775808<=b/\b<=9223372036854775807):
 Calls Tryz.prog 120 #[.int .i64 a,.int .i64 b] w fun e w'=>e=.returned (.tuple #[.int .i64 (nC (a-b)),.bool (yK (a-b))])/\w=w':=by
 obtain ⟨ha1,ha2⟩:=ha;obtain ⟨hb1,hb2⟩:=hb
 by_cases h: -9223372036854775808<=a-b/\a-b<=9223372036854775807
 ·rw [wE h,xU h]
  obtain ⟨h1,h2⟩:=h
  by_cases h0:0<b
  ·have h3:¬a< -9223372036854775808+b:=by omega
   have h4:¬b<0:=by omega
   go_enter Tryz.func120,Tryz.ntmps120
   go_wp2
   go_ret2
   exact ⟨rfl,rfl⟩
  by_cases h4:b<0
  ·have h5:¬ 9223372036854775807+b<a:=by omega
   go_enter Tryz.func120,Tryz.ntmps120
   go_wp2
   go_ret2
   exact ⟨rfl,rfl⟩
  go_enter Tryz.func120,Tryz.ntmps120
  go_wp2
  go_ret2
  exact ⟨rfl,rfl⟩
 rw[rA h,tS h]
 by_cases h0:0<b
 ·have h3:a< -9223372036854775808+b:=by omega
  clear h
  go_enter Tryz.func120,Tryz.ntmps120
  go_wp2
  go_ret2
  exact ⟨rfl,rfl⟩
 have h4:b<0:=by omega
 have h5:9223372036854775807+b<a:=by omega
 clear h
 go_enter Tryz.func120,Tryz.ntmps120
 go_wp2
 go_ret2
 exact ⟨rfl,rfl⟩
theorem oB (a b:Int) (w:World) (ha: -9223372036854775808<=a/\a<=9223372036854775807) (hb: -9223372036854775808<=b/\b<=9223372036854775807):
 Calls Tryz.prog 118 #[.int .i64 a,.int .i64 b] w fun e w'=>e=.returned (.tuple #[.int .i64 (nC (a*b)),.bool (yK (a*b))])/\w=w':=by
 by_cases h0:b=0
 ·subst h0
  have hv:nC (a*0)=0:=by rw[Int.mul_zero];decide
  have ht:yK (a*0)=true:=by rw[Int.mul_zero];decide
  rw[hv,ht]
  go_enter Tryz.func118,Tryz.ntmps118
  go_wp2
  go_ret2
  exact ⟨rfl,rfl⟩
 by_cases h1:b= -1
 ·subst h1
  have e:a* -1= -a:=by omega
  rw[e]
  go_enter Tryz.func118,Tryz.ntmps118
  go_wp2_with (go_at_call 120;refine (dE _ _ _ (by decide) ha).mono ?_;rintro e w' ⟨rfl,rfl⟩)
  go_ret2
  exact ⟨rfl,rfl⟩
 have hb0:(b==0)=false:=by simpa using h0
 have hb1:(b== -1)=false:=by simpa using h1
 by_cases h: -9223372036854775808<=a*b/\a*b<=9223372036854775807
 ·rw [wE h,xU h]
  have hk:=zYF h0 ha h
  go_enter Tryz.func118,Tryz.ntmps118
  go_wp2
  go_ret2
  exact ⟨rfl,rfl⟩
 rw[rA h,tS h]
 have hk:(wrap64 ((wrap64 (a*b)).tdiv b)!=a)=true:=by simpa using zTH h0 hb h h1 ha
 clear h
 go_enter Tryz.func118,Tryz.ntmps118
 go_wp2
 go_ret2
 exact ⟨rfl,rfl⟩
theorem sW (a:Int) (w:World) (ha: -9223372036854775808<=a/\a<=9223372036854775807):
 Calls Tryz.prog 122 #[.int .i64 a] w fun e w'=>e=.returned (.tuple #[.int .i64 (nC a.natAbs),.bool (yK a.natAbs)])/\w=w':=by
 by_cases h:a<0
 ·have e:(a.natAbs:Int)= -a:=by omega
  rw[e]
  go_enter Tryz.func122,Tryz.ntmps122
  go_wp2_with (go_at_call 120;refine (dE _ _ _ (by decide) ha).mono ?_;rintro e w' ⟨rfl,rfl⟩)
  go_ret2
  exact ⟨rfl,rfl⟩
 have e:(a.natAbs:Int)=a:=by omega
 rw[e,wE ha,xU ha]
 go_enter Tryz.func122,Tryz.ntmps122
 go_wp2
 go_ret2
 exact ⟨rfl,rfl⟩
theorem cP (a b:Int) (w:World) (ha: -9223372036854775808<=a/\a<=9223372036854775807) (hb: -9223372036854775808<=b/\b<=9223372036854775807):
 Calls Tryz.prog 121 #[.int .i64 a,.int .i64 b] w fun e w'=>∃(g:Int) (n:Nat),e=.returned (.int .i64 g)/\w'=w.drewN n/\(-9223372036854775808<=g/\g<=9223372036854775807)/\g.natAbs=Nat.gcd a.natAbs b.natAbs/\(0<=a->0<=b->0<=g):=by
 go_enter Tryz.func121,Tryz.ntmps121
 go_wp2
 go_loopw [0,1] (fun p q w'=>∃(n:Nat) (x y:Int),w'=w.drewN n/\p=.int .i64 x/\q=.int .i64 y/\(-9223372036854775808<=x/\x<=9223372036854775807)/\(-9223372036854775808<=y/\y<=9223372036854775807)/\Nat.gcd x.natAbs y.natAbs=Nat.gcd a.natAbs b.natAbs/\(0<=a->0<=b->0<=x/\0<=y)) (fun _ q _=>(intOf q).natAbs)
 case atStart=>exact ⟨0,a,b,rfl,rfl,rfl,ha,hb,rfl,fun h1 h2=>⟨h1,h2⟩⟩
 case round=>
  obtain ⟨n,x,y,rfl,rfl,rfl,⟨hx1,hx2⟩,⟨hy1,hy2⟩,hg,hs⟩:=hrel;have HG:Hid (Nat.gcd x.natAbs y.natAbs=Nat.gcd a.natAbs b.natAbs):=hg;clear hg
  by_cases hy:y=0
  ·subst hy
   go_wp2
   go_ret
   refine ⟨x,n,rfl,rfl,⟨hx1,hx2⟩,?_,fun h1 h2=>(hs h1 h2).1⟩
   have:=HG.out
   simpa using this
  have hy0:(y==0)=false:=by simpa using hy
  have hm:=DQ x y hy hx1 hx2
  go_wp2
  go_quiet (fail)
  go_wp2
  go_roundw
  case rel=>exact ⟨n+nq,y,x.tmod y,World.drewN_drewN _ _ _,rfl,rfl,⟨hy1,hy2⟩,hm.2.1,hm.2.2.2.1.trans HG.out,fun h1 h2=>⟨(hs h1 h2).2,hm.2.2.2.2 (hs h1 h2).1⟩⟩
  case measure=>exact hm.2.2.1
theorem MV (a b:Nat) (w:World) (ha:a<=9223372036854775807) (hb:b<=9223372036854775807):
 Calls Tryz.prog 121 #[.int .i64 a,.int .i64 b] w fun e w'=>∃n:Nat,e=.returned (.int .i64 (Nat.gcd a b:Nat))/\w'=w.drewN n:=by
 refine (cP a b w (by omega) (by omega)).mono ?_
 rintro e w' ⟨g,n,rfl,rfl,-,hg,hp⟩
 have h1:=hp (by omega) (by omega);refine ⟨n,zTA ?_,rfl⟩
 have e1:(a:Int).natAbs=a:=by omega
 have e2:(b:Int).natAbs=b:=by omega
 rw[e1,e2]at hg;omega
def At (w:World) (a:Option Addr) (zs:List Int):Prop:=
 zs=[]\/∃b off,a=some ⟨b,off,none⟩/\∀k,k<zs.length->w.cell? ⟨b,off+k,none⟩=some (.int .i64 (zS zs k))
theorem DO {x s:Nat} (hx:1<=x) (hs:1<=s) (hx2:x<=9223372036854775807):
 ∃g q l:Nat,Hid (Nat.gcd s x=g)/\Hid (Nat.lcm x s=l)/\1<=g/\g<=9223372036854775807/\((x:Int) / (g:Int)=(q:Int))/\1<=q/\q<=9223372036854775807/\1<=l/\(q:Int)*(s:Int)=(l:Int):=by
 obtain ⟨h1,h2,h3,h4⟩:=zOO hx hs;have h5:Nat.gcd s x<=x:=Nat.le_of_dvd (by omega) (Nat.gcd_dvd_right s x);have h6:x / Nat.gcd s x<=x:=Nat.div_le_self _ _;exact ⟨_,x / Nat.gcd s x,_,rfl,rfl,h1,by omega,by omega,h3,by omega,h4,by rw[<- h2];simp⟩
theorem II (a:Option Addr) (zs:List Int) (len cap:Nat) (w:World) (hl:zs.length=len) (hm:len<=4611686018427387904) (hz:cQ zs) (h:At w a zs):
 Calls Tryz.prog 102 #[.slice a len cap] w fun e w'=>∃n:Nat,e=.returned (.tuple #[.int .i64 (DZ zs),.bool (DY zs)])/\w'=w.drewN n:=by
 rcases h with h|⟨b,off,rfl,hc⟩
 ·subst h
  subst hl
  go_enter Tryz.func102,Tryz.ntmps102
  go_wp2
  go_loop [4,9] (fun s i=>s=.int .i64 0/\i=.int .i64 0) (fun _ _=>0)
  case atStart=>exact ⟨rfl,rfl⟩
  case round=>
   obtain ⟨rfl,rfl⟩:=hrel
   go_wp2_with (go_at_call 122;refine (sW _ _ (by decide)).mono ?_;rintro e w' ⟨rfl,rfl⟩)
   go_ret2
   exact ⟨0,rfl,rfl⟩
 go_enter Tryz.func102,Tryz.ntmps102
 go_wp2
 go_loopw [4,9] (fun s i w'=>∃(k n:Nat) (x:Int),k<=len/\w'=w.drewN n/\i=.int .i64 k/\s=.int .i64 x/\(-9223372036854775808<=x/\x<=9223372036854775807)/\dP x.natAbs (zs.drop k)=dP 0 zs) (fun _ i _=>len-(intOf i).toNat)
 case atStart=>exact ⟨0,0,0,Nat.zero_le _,rfl,rfl,rfl,by decide,rfl⟩
 case round=>
  obtain ⟨k,n,x,hk,rfl,rfl,rfl,hx,hs⟩:=hrel;have HS:Hid (dP x.natAbs (zs.drop k)=dP 0 zs):=hs;clear hs
  by_cases hlt:k<len
  ·have hck:=hc k (by omega)
   have hzk:=hz k;have HD:Hid (zs.drop k=zS zs k::zs.drop (k+1)):=vD zs k (by omega)
   go_wp2_with (go_at_call 121;refine (cP _ _ _ hx hzk).mono ?_;rintro e w' ⟨g,m,rfl,rfl,hg,hgg,-⟩)
   have HG:Hid (g.natAbs=Nat.gcd x.natAbs (zS zs k).natAbs):=hgg;clear hgg
   go_wp2
   go_roundw
   case rel=>exact ⟨k+1,n+m,g,by omega,rfl,by go_num,rfl,hg,by rw[HG.out,<-HS.out,HD.out];rfl⟩
   case measure=>simp[intOf];omega
  have HD:Hid (zs.drop k=[]):=nB zs k (by omega)
  go_wp2_with (go_at_call 122;refine (sW _ _ hx).mono ?_;rintro e w' ⟨rfl,rfl⟩)
  go_ret2
  have e:dP 0 zs=x.natAbs:=by rw[<- HS.out,HD.out];rfl
  exact ⟨n,iZ (by rw[DZ,e]) (by rw[DY,e]),rfl⟩
theorem SR (a:Option Addr) (zs:List Int) (len cap:Nat) (w:World) (hl:zs.length=len) (hm:len<=4611686018427387904) (h:At w a zs):
 Calls Tryz.prog 127 #[.slice a len cap] w fun e w'=>e=.returned (.bool (vU zs))/\w=w':=by
 rcases h with h|⟨b,off,rfl,hc⟩
 ·subst h
  subst hl
  go_enter Tryz.func127,Tryz.ntmps127
  go_wp2
  go_loop [7] (fun i=>i=.int .i64 0) (fun _=>0)
  case atStart=>exact rfl
  case round=>
   subst hrel
   go_wp2
   go_ret
   exact ⟨rfl,rfl⟩
 go_enter Tryz.func127,Tryz.ntmps127
 go_wp2
 go_loop [7] (fun i=>∃(k:Nat),k<=len/\i=.int .i64 k/\vU (zs.drop k)=vU zs) (fun i=>len-(intOf i).toNat)
 case atStart=>exact ⟨0,Nat.zero_le _,rfl,rfl⟩
 case round=>
  obtain ⟨k,hk,rfl,hs⟩:=hrel;have HS:Hid (vU (zs.drop k)=vU zs):=hs;clear hs
  by_cases hlt:k<len
  ·have hck:=hc k (by omega)
   have HD:Hid (zs.drop k=zS zs k::zs.drop (k+1)):=vD zs k (by omega)
   by_cases hf:zS zs k=0
   ·have hf0:(zS zs k==0)=true:=by simpa using hf
    have HF:Hid (zS zs k=0):=hf;clear hf
    go_wp2
    go_ret
    have e:vU zs=true:=by rw[<- HS.out,HD.out,vU,HF.out];rfl
    exact ⟨by rw[e];rfl,rfl⟩
   have hf0:(zS zs k==0)=false:=by simpa using hf
   go_wp2
   go_round
   case rel=>exact ⟨k+1,by omega,by go_num,by rw[<- HS.out,HD.out,vU,hf0];rfl⟩
   case measure=>simp[intOf];omega
  have HD:Hid (zs.drop k=[]):=nB zs k (by omega)
  go_wp2
  go_ret
  have e:vU zs=false:=by rw[<- HS.out,HD.out];rfl
  exact ⟨by rw[e];rfl,rfl⟩
theorem IG (a:Option Addr) (zs:List Int) (len cap:Nat) (w:World) (hl:zs.length=len) (hm:len<=4611686018427387904) (hz:cQ zs) (h:At w a zs):
 Calls Tryz.prog 117 #[.slice a len cap] w fun e w'=>∃n:Nat,e=.returned (.tuple #[.int .i64 (NC zs),.bool (MZ zs)])/\w'=w.drewN n:=by
 have hh:=SR a zs len cap w hl hm h
 rcases h with h|⟨b,off,rfl,hc⟩
 ·subst h
  subst hl;have h0:vU []=false:=rfl;rw[h0]at hh
  go_enter Tryz.func117,Tryz.ntmps117
  go_wp2_with (go_at_call 127;refine hh.mono ?_;rintro e w' ⟨rfl,rfl⟩)
  go_loop [4,8,13] (fun s _ i=>s=.int .i64 1/\i=.int .i64 0) (fun _ _ _=>0)
  case atStart=>exact ⟨rfl,rfl⟩
  case round=>
   obtain ⟨rfl,rfl⟩:=hrel
   go_wp2
   go_ret2
   first|exact ⟨0,rfl,rfl⟩|exact ⟨rfl,0,rfl⟩
 by_cases hzr:vU zs=true
 ·rw [hzr]at hh
  have HZ:Hid (vU zs=true):=hzr;clear hzr
  go_enter Tryz.func117,Tryz.ntmps117
  go_wp2_with (go_at_call 127;refine hh.mono ?_;rintro e w' ⟨rfl,rfl⟩)
  go_ret2
  exact ⟨0,iZ (by rw[NC,HZ.out];rfl) (by rw[MZ,HZ.out];rfl),rfl⟩
 have hzr':vU zs=false:=by simpa using hzr
 rw[hzr']at hh;have HZ:Hid (vU zs=false):=hzr';clear hzr hzr'
 go_enter Tryz.func117,Tryz.ntmps117
 go_wp2_with (go_at_call 127;refine hh.mono ?_;rintro e w' ⟨rfl,rfl⟩)
 go_loopw [4,8,13] (fun s _ i w'=>∃(k n x:Nat),k<=len/\w'=w.drewN n/\i=.int .i64 k/\s=.int .i64 x/\(1<=x/\x<=9223372036854775807)/\uW x (zs.drop k)=uW 1 zs) (fun _ _ i _=>len-(intOf i).toNat)
 case atStart=>exact ⟨0,0,1,Nat.zero_le _,rfl,rfl,rfl,by decide,rfl⟩
 case round=>
  obtain ⟨k,n,x,hk,rfl,rfl,rfl,⟨hx1,hx2⟩,hs⟩:=hrel;have HS:Hid (uW x (zs.drop k)=uW 1 zs):=hs;clear hs
  by_cases hlt:k<len
  ·have hck:=hc k (by omega)
   have hzk:=hz k;have HD:Hid (zs.drop k=zS zs k::zs.drop (k+1)):=vD zs k (by omega);have hnz:zS zs k≠0:=EC HZ.out k (by omega)
   by_cases hf:zS zs k= -9223372036854775808
   ·have hfb:yK (zS zs k).natAbs=false:=by rw[hf];decide
    have hfv:nC (zS zs k).natAbs=0:=by rw[hf];decide
    have HL:Hid (yK (Nat.lcm x (zS zs k).natAbs:Nat)=false):=EA hx1 hf;clear hf
    go_wp2_with (go_at_call 122;refine (sW _ _ hzk).mono ?_;rintro e w' ⟨rfl,rfl⟩)
    go_ret2
    have e:uW 1 zs=none:=by rw[<- HS.out,HD.out,uW,HL.out];rfl
    exact ⟨n,iZ (by rw[NC,HZ.out,e];rfl) (by rw[MZ,HZ.out,e];rfl),rfl⟩
   have hsz:1<=(zS zs k).natAbs/\(zS zs k).natAbs<=9223372036854775807:=by omega
   have hfb:yK (zS zs k).natAbs=true:=xU (by omega);have hfv:nC (zS zs k).natAbs=(zS zs k).natAbs:=wE (by omega);obtain ⟨g,q,l,HG,HL,hg1,hg2,hq,hq1,hq2,hl1,hmul⟩:=DO hx1 hsz.1 hx2;generalize hsn:(zS zs k).natAbs=s at *;have HN:Hid ((zS zs k).natAbs=s):=hsn;clear hsn hf hnz;obtain ⟨hs1,hs2⟩:=hsz;have hcm:=MV s x;rw[HG.out]at hcm;have hab:=sW (zS zs k);rw[HN.out,hfb,hfv]at hab
   by_cases hfl:l<=9223372036854775807
   ·have hml:=oB q s
    have hb2:yK (q*s:Int)=true:=by rw[hmul];exact xU (by omega)
    have hv2:nC (q*s:Int)=l:=by rw[hmul];exact wE (by omega)
    rw[hb2,hv2]at hml;clear hfb hfv hmul hb2 hv2
    go_wp2_with (first|(go_at_call 122;refine (hab _ hzk).mono ?_;rintro e w' ⟨rfl,rfl⟩)|(go_at_call 121;refine (hcm _ hs2 hx2).mono ?_;rintro e w' ⟨m,rfl,rfl⟩)|(go_at_call 118;refine (hml _ (by omega) (by omega)).mono ?_;rintro e w' ⟨rfl,rfl⟩))
    go_roundw
    case rel=>exact ⟨k+1,n+m,l,by omega,rfl,by go_num,rfl,⟨hl1,hfl⟩,by rw[<- HS.out,HD.out,uW,HN.out,HL.out,xU (by omega)];rfl⟩
    case measure=>simp[intOf];omega
   have hml:=oB q s
   have hb2:yK (q*s:Int)=false:=by rw[hmul];exact tS (by omega)
   have hv2:nC (q*s:Int)=0:=by rw[hmul];exact rA (by omega)
   rw[hb2,hv2]at hml;clear hfb hfv hmul hb2 hv2
   go_wp2_with (first|(go_at_call 122;refine (hab _ hzk).mono ?_;rintro e w' ⟨rfl,rfl⟩)|(go_at_call 121;refine (hcm _ hs2 hx2).mono ?_;rintro e w' ⟨m,rfl,rfl⟩)|(go_at_call 118;refine (hml _ (by omega) (by omega)).mono ?_;rintro e w' ⟨rfl,rfl⟩))
   go_ret2
   have e:uW 1 zs=none:=by rw[<- HS.out,HD.out,uW,HN.out,HL.out,tS (by omega)];rfl
   exact ⟨n+m,iZ (by rw[NC,HZ.out,e];rfl) (by rw[MZ,HZ.out,e];rfl),rfl⟩
  have HD:Hid (zs.drop k=[]):=nB zs k (by omega)
  go_wp2
  go_ret2
  have e:uW 1 zs=some x:=by rw[<- HS.out,HD.out];rfl
  exact ⟨n,iZ (by rw[NC,HZ.out,e];rfl) (by rw[MZ,HZ.out,e];rfl),rfl⟩
theorem pZ {B:Nat} {a w:World} (h:Below B a w) (n:Nat):Below B a (w.drewN n):=h.trans ⟨rfl,rfl,rfl,Nat.le_refl _,fun _ _=>rfl⟩
theorem at2 {W:World} {b:Nat} {x y:Int} (h0:W.cell? ⟨b,0,none⟩=some (.int .i64 x)) (h1:W.cell? ⟨b,1,none⟩=some (.int .i64 y)):At W (some ⟨b,0,none⟩) [x,y]:=by
 refine Or.inr ⟨_,_,rfl,fun k hk=>?_⟩
 match k,hk with
 |0,_=>exact h0
 |1,_=>exact h1
theorem zOM {V:World} {b:Nat} {x y:Int} {t:TypeId} (hb:b=V.heap.size):At (V.alloc (.cells #[.int .i64 x,.int .i64 y] t)) (some ⟨b,0,none⟩) [x,y]:=by
 subst hb;exact at2 (by simp) (by simp)
theorem inR2 {x y:Int} (hx: -9223372036854775808<=x/\x<=9223372036854775807) (hy: -9223372036854775808<=y/\y<=9223372036854775807):cQ [x,y]:=by
 intro k
 match k with
 |0=>exact hx
 |1=>exact hy
 |k+2=>exact (by decide:(-9223372036854775808:Int)<=0/\(0:Int)<=9223372036854775807)
end Go.Proofs.YtpohmekkdjdhmaaGreat
namespace Go.Proofs.YtpohmekkdjdhmaaGreat
open Go Go.ChangeShapes Go.WideShapes Go.ChangeAt Go.RowKit
structure YM (w0 : World) where
 w:World
 bel:Below w0.heap.size w0 w
section
variable {P:Program} {ops:Array Oper} {md:Region.Mode} {C:World->Prop} {chain:List PanicEntry} {p:Nat} {d:List Deferred}
theorem dO {id:Nat} {Q:Exit->Act->World->Prop} {a:Act} {w:World} {l:List Oper} (hm:P.follows .mixedOrders=true) (hB:Region.lexB .any l.toArray=true)
 (h:wpQuiet P l.toArray (fun w'=>∃x:YM w,w'=x.w) (fun a'=>∀w',(∃ x:YM w,w'=x.w)->Q .normal a' w') l a):(Code.region id l.toArray true).wp P Q a w:=
 wp_region_quiet (C:=fun w'=>∃x:YM w,w'=x.w) hm hB ⟨⟨w.drew,(Below.refl _ _).drew⟩,rfl⟩ (by simpa using h)
def pM (P:Program) (ops:Array Oper) (C:World->Prop) (chain:List PanicEntry) (p:Nat) (a:Act):Prop:=
 ∃o,ops[p]? =some o/\Region.wanted o (yielded ops a.tmps)=true/\∀w,C w->∃f args,(execOp a.eval o).run P w=.ok (.enter f args) w/\Calls P f args w (fun e w'=>e=.panicked chain/\C w')
def vK (P:Program) (md:Region.Mode) (ops:Array Oper) (C:World->Prop) (chain:List PanicEntry) (p:Nat) (d:List Deferred):Nat->Array Bool->Act->Prop
 |0,listed,a=>a.defers=d/\Region.ready md ops listed=[p]/\pM P ops C chain p a
 |f+1,listed,a=>a.defers=d/\Region.ready md ops listed≠[]/\
  ∀i ∈ Region.ready md ops listed,(i=p/\pM P ops C chain p a)\/qOp P ops C i (vK P md ops C chain p d f (listed.setIfInBounds i true)) a
theorem jQ (a:Act) (x:Option Tmp) (v:Value):(a.put x v).defers=a.defers:=by cases x<;>rfl
theorem pM.wpOp {Q':Exit->Act->World->Prop} {K:Act->World->Prop} {a:Act} {w:World} (h:pM P ops C chain p a) (hw:C w) (hQ:∀w,C w->Q' (.panic chain) a w):wpOp P ops Q' p K a w:=by
 obtain ⟨o,ho,hwant,hr⟩:=h;obtain ⟨f,args,hrun,hc⟩:=hr w hw;unfold Go.wpOp;simp only[ho,hwant,if_true];refine .inl ?_
 unfold Oper.wp;rw[hrun]
 exact hc.mono fun e w' ⟨he,hw'⟩=>by subst he;exact hQ _ hw'
theorem vK.any {Q':Exit->Act->World->Prop} (hQ:∀a w,a.defers=d->C w->Q' (.panic chain) a w) (g:Nat):∀(f:Nat) (listed:Array Bool) (a:Act) (w:World),C w->
 vK P md ops C chain p d f listed a->wpAny P md ops Q' (f+(g+1)) listed a w
 |0,listed,a,w,hw,h=>by
  rw[Nat.zero_add];refine ⟨fun h0=>(by rw[h.2.1]at h0;cases h0),fun i hi=>?_⟩
  rw[h.2.1]at hi
  have e:i=p:=by simpa using hi
  subst e;exact h.2.2.wpOp hw (fun w' hw'=>hQ _ _ h.1 hw')
 |f+1,listed,a,w,hw,h=>by
  rw[show f+1+(g+1)=(f+(g+1))+1 by omega];refine ⟨fun h0=>absurd h0 h.2.1,fun i hi=>?_⟩
  rcases h.2.2 i hi with ⟨e,he⟩|hq
  ·subst e
   exact he.wpOp hw (fun w' hw'=>hQ _ _ h.1 hw')
  exact wpOp_of_qOp hw (fun a' w' hw' k=>vK.any hQ g f _ a' w' hw' k) hq
theorem pM.back {oi op:Oper} {v:Value} {a:Act} (hp:ops[p]? =some op) (hap:oi.apart ops op=true) (hsp:∀cs b,op.op≠.select cs b) (h:pM P ops C chain p (a.put oi.dst v)):pM P ops C chain p a:=by
 obtain ⟨h1,-,-⟩:=Oper.apart_spec hap;obtain ⟨o,ho,hwant,hr⟩:=h;have e:o=op:=Option.some.inj (ho.symm.trans hp);subst e;rw[wanted_put o a oi.dst v h1]at hwant;refine ⟨o,ho,hwant,fun w hw=>?_⟩
 have:=hr w hw;rwa[execOp_put o hsp a oi.dst v h1]at this
theorem vK.first {i:Nat} {oi:Oper} {v:Value} (hi:ops[i]? =some oi) (hsel:∀(j:Nat) (o:Oper) cs b,ops[j]? =some o->o.op≠.select cs b) (hip:i≠p):
 ∀(f:Nat) (listed:Array Bool) (a:Act),
  (∀ j oj,ops[j]? =some oj->j≠i->listed.getD j true=false->(∀ e ∈ oj.after,Region.binds md e=true->e.on≠i)->oi.apart ops oj=true)->
  i ∈ Region.ready md ops listed->YieldsIn P ops C oi v a->
  vK P md ops C chain p d f (listed.setIfInBounds i true) (a.put oi.dst v)->vK P md ops C chain p d (f+1) listed a:=by
 intro f
 have apart:∀(listed:Array Bool),(∀ j oj,ops[j]? =some oj->j≠i->listed.getD j true=false->(∀ e ∈ oj.after,Region.binds md e=true->e.on≠i)->oi.apart ops oj=true)->
  i ∈ Region.ready md ops listed->∀j,j ∈ Region.ready md ops listed->j≠i->∃oj,ops[j]? =some oj/\oi.apart ops oj=true/\listed.getD j true=false:=by
  intro listed hfree hr j hj hji;obtain ⟨hjun,oj,hoj,hall⟩:=mem_ready.1 hj;refine ⟨oj,hoj,hfree j oj hoj hji hjun fun e he hb heq=>?_,hjun⟩
  have h1:=hall e he hb;have h0:=(mem_ready.1 hr).1;rw[heq]at h1
  rcases Nat.lt_or_ge i listed.size with h'|h'
  ·simp [h']at h0 h1;rw[h0]at h1;cases h1
  simp[Array.getElem?_eq_none h']at h1
 induction f with
 |zero=>
  intro listed a hfree hr hy H;refine ⟨by rw[<- jQ a oi.dst v];exact H.1,fun h=>(by rw[h]at hr;cases hr),fun j hj=>?_⟩
  by_cases hji:j=i
  ·subst hji;exact .inr (hy.qOp hi H)
  have hm:=ready_mono hj hji;rw[H.2.1]at hm
  have e:j=p:=by simpa using hm
  obtain ⟨oj,hoj,hap,-⟩:=apart listed hfree hr j hj hji;subst e;exact .inl ⟨rfl,H.2.2.back hoj hap (fun cs b=>hsel j oj cs b hoj)⟩
 |succ f ih=>
  intro listed a hfree hr hy H;refine ⟨by rw[<- jQ a oi.dst v];exact H.1,fun h=>(by rw[h]at hr;cases hr),fun j hj=>?_⟩
  by_cases hji:j=i
  ·subst hji;exact .inr (hy.qOp hi H)
  obtain ⟨oj,hoj,hap,hjun⟩:=apart listed hfree hr j hj hji
  rcases H.2.2 j (ready_mono hj hji) with ⟨e,he⟩|hq
  ·subst e
   exact .inl ⟨rfl,he.back hoj hap (fun cs b=>hsel j oj cs b hoj)⟩
  refine .inr (qOp_mono (fun a' h3=>ih (listed.setIfInBounds j true) a' (fun k ok hk hki hun hno=>hfree k ok hk hki ?_ hno) (ready_mono hr (Ne.symm hji)) h3.1 ?_)
   (qOp_put hoj hap (fun cs b=>hsel i oi cs b hi) (fun cs b=>hsel j oj cs b hoj) hy hq))
  ·by_cases hjk:j=k
   ·subst hjk;exact hjun
   rwa[getD_set_ne true hjk]at hun
  rw[Array.setIfInBounds_comm _ _ hji];exact h3.2
def iY (md:Region.Mode) (ops:Array Oper) (p:Nat):List Nat->Array Bool->Bool
 |[],listed=>decide (Region.ready md ops listed=[p])
 |k::ks,listed=>decide (k≠p)&&(Region.ready md ops listed).contains k&&Region.free md ops listed k&&iY md ops p ks (listed.setIfInBounds k true)
theorem vK.lex (hs:Region.noSelect ops=true):∀(L:List Nat) (l:List Oper) (listed:Array Bool) (a:Act),L.map (fun k=>ops[k]?)=l.map some->iY md ops p L listed=true->a.defers=d->
 wpQuiet P ops C (fun a'=>pM P ops C chain p a') l a->vK P md ops C chain p d L.length listed a
 |[],[],listed,a,_,hB,hd,h=>⟨hd,by simpa [iY] using hB,h⟩
 |[],o::l,_,_,hl,_,_,_=>by simp at hl
 |k::ks,[],_,_,hl,_,_,_=>by simp at hl
 |k::ks,o::l,listed,a,hl,hB,hd,h=>by
  simp only[List.map_cons,List.cons.injEq]at hl;simp only[iY,Bool.and_eq_true,decide_eq_true_eq]at hB;obtain ⟨⟨⟨hkp,hr⟩,hf⟩,hB'⟩:=hB
  have hst:qOp P ops C k (wpQuiet P ops C (fun a'=>pM P ops C chain p a') l) a:=by unfold qOp;simp only[hl.1];exact h
  obtain ⟨v,hy,hK⟩:=yieldsIn_of_qOp hl.1 hst
  exact vK.first hl.1 (Region.noSelect_spec hs) hkp ks.length listed a (Region.free_spec hl.1 hf) (by simpa using hr) hy
   (vK.lex hs ks l _ _ hl.2 hB' (by rw[jQ];exact hd) hK)
theorem sD {id:Nat} {Q:Exit->Act->World->Prop} {a:Act} {w:World} {l:List Oper} (chain:List PanicEntry) (p:Nat) (L:List Nat) (m:Nat) (hm:P.follows .mixedOrders=true)
 (hB:(Region.noSelect l.toArray&&iY .any l.toArray p L (Array.replicate l.toArray.size false)&&decide (L.length<l.length))=true)
 (hL:L.map (fun k=>l.toArray[k]?)=(l.take p++(l.drop (p+1)).take m).map some)
 (hQ:∀a' w',a'.defers=a.defers->(∃ n,w'=w.drewN n)->Q (.panic chain) a' w')
 (h:wpQuiet P l.toArray (fun w'=>∃n,w'=w.drewN n) (fun a'=>pM P l.toArray (fun w'=>∃n,w'=w.drewN n) chain p a') (l.take p++(l.drop (p+1)).take m) a):(Code.region id l.toArray true).wp P Q a w:=by
 simp only[Bool.and_eq_true,decide_eq_true_eq]at hB;obtain ⟨⟨hs,hlex⟩,hlen⟩:=hB;refine wp_region_any hm ?_
 have H:=vK.lex (P:=P) (md:=.any) (chain:=chain) (d:=a.defers) hs L _ (Array.replicate l.toArray.size false) a hL hlex rfl h;have:=vK.any (Q':=Q) hQ (l.length-L.length-1) L.length _ a { w with drawn:=w.drawn+1 } ⟨1,rfl⟩ H;rwa[show L.length+(l.length-L.length-1+1)=l.toArray.size by simp;omega]at this
end
theorem gTA {α :Type} {xs:List α} {i:Nat} :xs.toArray[i]? =xs[i]? :=List.getElem?_toArray
theorem gCZ {α :Type} {a: α} {l:List α} :(a::l)[0]? =some a:=List.getElem?_cons_zero
theorem gCS {α :Type} {a: α} {l:List α} {i:Nat} :(a::l)[i+1]? =l[i]? :=List.getElem?_cons_succ
theorem gSI {α :Type} {a b: α} :(some a=some b)=(a=b):=Option.some.injEq a b
end Go.Proofs.YtpohmekkdjdhmaaGreat
