/- Texts of one chain. -/
import Derived.Test.YtpohmekkdjdhmaaGreatPartTopPeriods1
import Derived.Test.YtpohmekkdjdhmaaGreatPartTopPeriods10
import Derived.Test.YtpohmekkdjdhmaaGreatPartTopPeriods6
import Derived.Laws.CopyOwn
set_option maxHeartbeats 1000000
namespace Go.Proofs.YtpohmekkdjdhmaaGreat
open Go.ChangeShapes Go.WideShapes Go.ChangeAt Go.RowKit
def uO:List Int->Bool
 |[]=>true
 |x::xs=>decide (1<=x)&&uO xs
def uL:List Int->Bool
 |[]=>true
 |x::xs=>decide (x=1)&&uL xs
def up (ns:List Nat):List Int:=ns.map (fun n:Nat=>(n:Int))
def wV (zs:List Int):List Nat:=zs.map Int.toNat
theorem sT (ns:List Nat):(up ns).length=ns.length:=by simp[up]
theorem oY (zs:List Int):(wV zs).length=zs.length:=by simp[wV]
theorem ID {zs:List Int} (h:uO zs=true):up (wV zs)=zs:=by
 induction zs with
 |nil=>rfl
 |cons z zs ih=>
  rw[uO,Bool.and_eq_true,decide_eq_true_iff]at h;show (z.toNat:Int)::up (wV zs)=z::zs
  rw[ih h.2]
  congr 1
  omega
theorem RY {zs:List Int} (h:uO zs=true):TH (wV zs):=by
 induction zs with
 |nil=>exact zTG
 |cons z zs ih=>
  rw[uO,Bool.and_eq_true,decide_eq_true_iff]at h;exact sE.2 ⟨by omega,ih h.2⟩
theorem IB (ns:List Nat):uL (up ns)=kE ns:=by
 induction ns with
 |nil=>rfl
 |cons n ns ih=>
  show (decide ((n:Int)=1)&&uL (up ns))=(decide (n=1)&&kE ns);rw[ih]
  congr 1
  by_cases h:n=1
  ·subst h;rfl
  rw[decide_eq_false h,decide_eq_false (by omega)]
theorem lS (a:Option Addr) (zs:List Int) (len cap:Nat) (w:World) (hl:zs.length=len) (hm:len<=4611686018427387904) (h:At w a zs):
 Calls Tryz.prog 79 #[.slice a len cap] w fun e w'=>e=.returned (.bool (uO zs))/\w=w':=by
 rcases h with h|⟨b,off,rfl,hc⟩
 ·subst h
  subst hl
  go_enter Tryz.func79,Tryz.ntmps79
  go_wp2
  go_loop [7] (fun i=>i=.int .i64 0) (fun _=>0)
  case atStart=>exact rfl
  case round=>
   subst hrel
   go_wp2
   go_ret
   exact ⟨rfl,rfl⟩
 go_enter Tryz.func79,Tryz.ntmps79
 go_wp2
 go_loop [7] (fun i=>∃(k:Nat),k<=len/\i=.int .i64 k/\uO (zs.drop k)=uO zs) (fun i=>len-(intOf i).toNat)
 case atStart=>exact ⟨0,Nat.zero_le _,rfl,rfl⟩
 case round=>
  obtain ⟨k,hk,rfl,hs⟩:=hrel;have HS:Hid (uO (zs.drop k)=uO zs):=hs;clear hs
  by_cases hlt:k<len
  ·have hck:=hc k (by omega)
   have HD:Hid (zs.drop k=zS zs k::zs.drop (k+1)):=vD zs k (by omega)
   by_cases hf:zS zs k<1
   ·have hf0:decide (zS zs k<1)=true:=decide_eq_true hf
    have HF:Hid (decide (1<=zS zs k)=false):=decide_eq_false (by omega);clear hf
    go_wp2
    go_ret
    have e:uO zs=false:=by rw[<- HS.out,HD.out,uO,HF.out];rfl
    exact ⟨by rw[e];rfl,rfl⟩
   have hf0:decide (zS zs k<1)=false:=decide_eq_false hf;have HF:Hid (decide (1<=zS zs k)=true):=decide_eq_true (by omega);clear hf
   go_wp2
   go_round
   case rel=>exact ⟨k+1,by omega,by go_num,by rw[<- HS.out,HD.out,uO,HF.out];rfl⟩
   case measure=>simp[intOf];omega
  have HD:Hid (zs.drop k=[]):=nB zs k (by omega)
  go_wp2
  go_ret
  have e:uO zs=true:=by rw[<- HS.out,HD.out];rfl
  exact ⟨by rw[e];rfl,rfl⟩
theorem jN (a:Option Addr) (zs:List Int) (len cap:Nat) (w:World) (hl:zs.length=len) (hm:len<=4611686018427387904) (h:At w a zs):
 Calls Tryz.prog 52 #[.slice a len cap] w fun e w'=>e=.returned (.bool (uL zs))/\w=w':=by
 rcases h with h|⟨b,off,rfl,hc⟩
 ·subst h
  subst hl
  go_enter Tryz.func52,Tryz.ntmps52
  go_wp2
  go_loop [7] (fun i=>i=.int .i64 0) (fun _=>0)
  case atStart=>exact rfl
  case round=>
   subst hrel
   go_wp2
   go_ret
   exact ⟨rfl,rfl⟩
 go_enter Tryz.func52,Tryz.ntmps52
 go_wp2
 go_loop [7] (fun i=>∃(k:Nat),k<=len/\i=.int .i64 k/\uL (zs.drop k)=uL zs) (fun i=>len-(intOf i).toNat)
 case atStart=>exact ⟨0,Nat.zero_le _,rfl,rfl⟩
 case round=>
  obtain ⟨k,hk,rfl,hs⟩:=hrel;have HS:Hid (uL (zs.drop k)=uL zs):=hs;clear hs
  by_cases hlt:k<len
  ·have hck:=hc k (by omega)
   have HD:Hid (zs.drop k=zS zs k::zs.drop (k+1)):=vD zs k (by omega)
   by_cases hf:zS zs k=1
   ·have hf0:(zS zs k !=1)=false:=by simpa using hf
    have hf1:(zS zs k==1)=true:=by simpa using hf
    have HF:Hid (decide (zS zs k=1)=true):=decide_eq_true hf;clear hf
    go_wp2
    go_round
    case rel=>exact ⟨k+1,by omega,by go_num,by rw[<- HS.out,HD.out,uL,HF.out];rfl⟩
    case measure=>simp[intOf];omega
   have hf0:(zS zs k !=1)=true:=by simpa using hf
   have hf1:(zS zs k==1)=false:=by simpa using hf
   have HF:Hid (decide (zS zs k=1)=false):=decide_eq_false hf;clear hf
   go_wp2
   go_ret
   have e:uL zs=false:=by rw[<- HS.out,HD.out,uL,HF.out];rfl
   exact ⟨by rw[e];rfl,rfl⟩
  have HD:Hid (zs.drop k=[]):=nB zs k (by omega)
  go_wp2
  go_ret
  have e:uL zs=true:=by rw[<- HS.out,HD.out];rfl
  exact ⟨by rw[e];rfl,rfl⟩
theorem zSP (x y:Nat) (hx:1<=x) (hx2:x<=9223372036854775807):∃g p q:Nat,Hid (Nat.gcd x y=g)/\Hid (x / Nat.gcd x y=p/\y / Nat.gcd x y=q)/\1<=g/\g<=9223372036854775807/\((x:Int) / (g:Int)=(p:Int))/\((y:Int) / (g:Int)=(q:Int))/\p<=x/\q<=y:=by
 have h1:1<=Nat.gcd x y:=Nat.gcd_pos_of_pos_left y hx;have h2:Nat.gcd x y<=x:=Nat.le_of_dvd hx (Nat.gcd_dvd_left x y);exact ⟨_,_,_,rfl,⟨rfl,rfl⟩,h1,by omega,(Int.natCast_ediv _ _).symm,(Int.natCast_ediv _ _).symm,Nat.div_le_self _ _,Nat.div_le_self _ _⟩
theorem RX (x y:Nat) (w:World) (hx:1<=x) (hx2:x<=9223372036854775807) (hy:1<=y) (hy2:y<=9223372036854775807):
 Calls Tryz.prog 81 #[.int .i64 x,.int .i64 y] w fun e w'=>e=.returned (.tuple #[.int .i64 (x / Nat.gcd x y:Nat),.int .i64 (y / Nat.gcd x y:Nat)])/\Below w.heap.size w w':=by
 have r:cQ [(x:Int),(y:Int)]:=inR2 (by omega) (by omega)
 have e1:dP 0 [(x:Int),(y:Int)]=Nat.gcd x y:=by simp[dP]
 obtain ⟨g,p,q,HG,HQ,hg1,hg2,hp,hq,hp2,hq2⟩:=zSP x y hx hx2
 have v:DZ [(x:Int),(y:Int)]=(g:Nat):=by rw[DZ,e1,HG.out];exact wE (by omega)
 have f:DY [(x:Int),(y:Int)]=true:=by rw[DY,e1,HG.out];exact xU (by omega)
 have hgcd:=fun a w=>II a [(x:Int),(y:Int)] 2 2 w rfl (by decide) r
 rw[v,f]at hgcd;rw[HQ.out.1,HQ.out.2];clear v f e1 r
 go_enter Tryz.func81,Tryz.ntmps81
 go_wp2_with (first
  |(go_at_call 102;refine (hgcd _ _ (zOM ?_)).mono ?_;(simp);rintro e w' ⟨n1,rfl,rfl⟩))
 go_quiet (fail)
 go_wp2
 go_ret2
 exact ⟨rfl,pZ (pZ ((Below.refl _ _).alloc (Nat.le_refl _) _) n1) nq⟩
def zXJ (w:World) (zs:List Int) (len:Nat) (e:Ending) (w':World):Prop:=
 ∃g,e=.returned (.slice (some ⟨g,0,none⟩) len len)/\w.heap.size<=g/\w'.rowIs g 3 len (fun i=>.int .i64 (zS zs i))/\Below w.heap.size w w'
theorem fV (w:World) (o:Obj):(w.alloc o).heap[w.heap.size]? =some o:=Array.getElem?_push_size
theorem zSO {w:World} {g len:Nat} {zs:List Int} (hl:zs.length=len) (h:w.heap[g]? =some (.cells (splice (madeCells #[Value.int .i64 0] len).toList 0 (zs.map (Value.int .i64))).toArray 3 (0,0))):
 w.rowIs g 3 len (fun i=>.int .i64 (zS zs i)):=by
 have e:splice (madeCells #[Value.int .i64 0] len).toList 0 (zs.map (Value.int .i64))=zs.map (Value.int .i64):=by
  unfold splice
  have h1:(madeCells #[Value.int .i64 0] len).toList.length=len:=by rw[Array.length_toList,size_madeCells]
  rw[List.take_zero,List.drop_eq_nil_of_le (by rw[h1,List.length_map];omega),List.nil_append,List.append_nil]
 rw[e]at h;refine ⟨_,h,by simp[hl],fun i hi=>?_⟩
 rw[List.getElem?_toArray];exact VN (by omega)
theorem zXI (a:Option Addr) (zs:List Int) (len cap:Nat) (w:World) (hl:zs.length=len) (h:At w a zs):
 ∃W2,(Builtin.copy_ #[27,27] 3 #[.slice (some ⟨w.heap.size,0,none⟩) len len,.slice a len cap]).run Tryz.prog (w.alloc (.cells (madeCells #[Value.int .i64 0] len) 3))=.ok (.int .i64 (len:Int)) W2/\W2.rowIs w.heap.size 3 len (fun i=>.int .i64 (zS zs i))/\Below w.heap.size w W2:=by
 have hsz:(Tryz.prog.info? 3).map (·.size)=some 1:=by
  obtain ⟨i0,hi,hz0,hz1,hz2⟩:=info_parts Tryz.info3;rw[hi];simp[hz1]
 have b0:Below w.heap.size w (w.alloc (.cells (madeCells #[Value.int .i64 0] len) 3)):=(Below.refl _ _).alloc (Nat.le_refl _) _
 rcases h with h|⟨b,off,rfl,hc⟩
 ·subst h
  subst hl;refine ⟨_,run_copy_none (P:=Tryz.prog) _ 27 27 3 3 _ _ 0 0 0 cap Tryz.underlying27 hsz rfl,⟨_,fV w _,size_madeCells _ _,fun i hi=>?_⟩,b0⟩
  exact absurd hi (Nat.not_lt_zero i)
 have hat:At (w.alloc (.cells (madeCells #[Value.int .i64 0] len) 3)) (some ⟨b,off,none⟩) zs:=At.below (w:=w) (Or.inr ⟨b,off,rfl,hc⟩) b0
 have kn:(zs.map (Value.int .i64)).length=Nat.min len len:=by rw[List.length_map,hl];exact (Nat.min_self len).symm
 have kf:0+(zs.map (Value.int .i64)).length<=(madeCells #[Value.int .i64 0] len).size:=by rw[List.length_map,size_madeCells];omega
 have hrun:=run_copy_row (P:=Tryz.prog) _ 27 27 3 3 w.heap.size 0 len len ⟨b,off,none⟩ len cap _ 3 (zs.map (Value.int .i64)) Tryz.underlying27 hsz (fV w _) kn (iU hat) kf (ints_oneCell _ _)
 have e1:goInt (zs.map (Value.int .i64)).length=.int .i64 (len:Int):=by rw[List.length_map,hl];rfl
 rw[e1]at hrun;refine ⟨_,hrun,?_,below_setRow b0 (Nat.le_refl _) _⟩
 refine zSO hl ?_
 have:=setRow_heap (w.alloc (.cells (madeCells #[Value.int .i64 0] len) 3)) w.heap.size _ ((madeCells #[Value.int .i64 0] len).toList.take 0++zs.map (Value.int .i64)++(madeCells #[Value.int .i64 0] len).toList.drop (0+(zs.map (Value.int .i64)).length)).toArray 3 (0,0) (fV w _);rw[this];unfold splice;rw[List.append_assoc]
set_option maxRecDepth 100000 in
theorem GZ (a:Option Addr) (zs:List Int) (len cap:Nat) (w:World) (hl:zs.length=len) (hr:len*8<=140737488351232) (h:At w a zs):
 Calls Tryz.prog 80 #[.slice a len cap] w (zXJ w zs len):=by
 have hmk:=run_make_row' (P:=Tryz.prog) 27 3 (.int .i64 0) 8 Tryz.underlying27 Tryz.info3 rfl .i64 .i64 len (by omega) (by omega);obtain ⟨W2,hcp,hrow,hbel⟩:=zXI a zs len cap w hl h;clear h
 go_enter Tryz.func80,Tryz.ntmps80
 go_wp2
 go_ret
 exact ⟨w.heap.size,rfl,Nat.le_refl _,hrow,hbel⟩
end Go.Proofs.YtpohmekkdjdhmaaGreat
