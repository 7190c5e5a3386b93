/- Texts of one chain. -/
import Derived.Test.YtpohmekkdjdhmaaGreatPartQ
import Derived.Test.YtpohmekkdjdhmaaGreatPartTopPeriods9
import Derived.Deep.OwnRows
import Derived.StillTailTactics
set_option maxRecDepth 100000
set_option maxHeartbeats 2000000
namespace Go.Proofs.YtpohmekkdjdhmaaGreat
open Go.ChangeShapes Go.WideShapes Go.ChangeAt Go.RowKit
def yF (fs:List (Int × Int)):List Int:=fs.map (·.2)
def DG (k:Nat) (fs:List (Int × Int)):List Int:=fs.map (fun f=>f.1*((k:Int) / f.2))
def ZK (k:Nat):List (Int × Int)->Bool
 |[]=>true
 |f::fs=>yK (f.1*((k:Int) / f.2))&&ZK k fs
theorem cG (fs:List (Int × Int)):(yF fs).length=fs.length:=by simp[yF]
theorem zSS (k:Nat) (fs:List (Int × Int)):(DG k fs).length=fs.length:=by simp[DG]
theorem SD {fs:List (Int × Int)} {k:Nat} (h:k<fs.length):zS (yF fs) k=uV fs k:=by
 unfold zS yF uV;rw[List.getD_eq_getElem?_getD,List.getD_eq_getElem?_getD,List.getElem?_map,List.getElem?_eq_getElem h];rfl
theorem zSR {fs:List (Int × Int)} {K k:Nat} (h:k<fs.length):zS (DG K fs) k=uD fs k*((K:Int) / uV fs k):=by
 unfold zS DG uV uD;rw[List.getD_eq_getElem?_getD,List.getD_eq_getElem?_getD,List.getElem?_map,List.getElem?_eq_getElem h];rfl
theorem zSQ {fs:List (Int × Int)} (hz:iS fs):cQ (yF fs):=by
 intro k
 by_cases h:k<fs.length
 ·rw [SD h];exact (hz k).2
 have e:zS (yF fs) k=0:=by
  unfold zS;rw[List.getD_eq_getElem?_getD,List.getElem?_eq_none (by rw[cG];omega)];rfl
 rw[e];decide
theorem fZ {fs:List (Int × Int)} (h:vL fs=true):vU (yF fs)=false:=by
 induction fs with
 |nil=>rfl
 |cons f fs ih=>
  rw[vL,Bool.and_eq_true]at h;show (f.2==0||vU (yF fs))=false
  rw[ih h.2];have:=(yB.1 h.1).1;simp;omega
theorem zXN {m:Nat} {zs:List Int} (hm:1<=m) (hm2:m<=9223372036854775807) (hz:vU zs=false) {K:Nat} (h:uW m zs=some K):1<=K/\K<=9223372036854775807:=by
 induction zs generalizing m with
 |nil=>cases h;exact ⟨hm,hm2⟩
 |cons x xs ih=>
  rw[vU,Bool.or_eq_false_iff]at hz;rw[uW]at h
  split at h
  ·rename_i hf
   have hx:x≠0:=by simpa using hz.1
   exact ih (Nat.lcm_pos (by omega) (by omega)) (by have:=(xC.1 hf).2;omega) hz.2 h
  cases h
def DF (w:World) (fs:List (Int × Int)) (len:Nat) (e:Ending) (w':World):Prop:=
 Below w.heap.size w w'/\
  ((∃ K g,uW 1 (yF fs)=some K/\ZK K fs=true/\e=.returned (.tuple #[.int .i64 (K:Nat),.slice (some ⟨g,0,none⟩) len len])/\w.heap.size<=g/\w'.rowIs g 3 len (fun i=>.int .i64 (zS (DG K fs) i)))\/
  ((∀ K,uW 1 (yF fs)=some K->ZK K fs=false)/\e=.panicked wY))
theorem VM {w:World} {g len:Nat} {zs:List Int} (hl:zs.length=len) (h:w.rowIs g 3 len (fun i=>.int .i64 (zS zs i))):At w (some ⟨g,0,none⟩) zs:=
 Or.inr ⟨g,0,rfl,fun k hk=>by rw[Nat.zero_add];exact h.cell (by omega)⟩
def fY (zs:List Int) (k:Nat) (i:Nat):Value:=.int .i64 (if i<k then zS zs i else 0)
theorem YJ (zs:List Int):fY zs 0=fun _=>.int .i64 0:=by funext i;simp[fY]
theorem SC {zs:List Int} {n:Nat} {w:World} {g:Nat} (h:w.rowIs g 3 n (fY zs n)):w.rowIs g 3 n (fun i=>.int .i64 (zS zs i)):=
 h.congr fun i hi=>by unfold fY;rw[if_pos hi]
theorem YI {zs:List Int} {k n:Nat} {w:World} {g:Nat} (h:w.rowIs g 3 n (fY zs k)):(w.setCell ⟨g,k,none⟩ (.int .i64 (zS zs k))).rowIs g 3 n (fY zs (k+1)):=
 (h.set k (.int .i64 (zS zs k))).congr fun i hi=>by
  show (if i=k then Value.int .i64 (zS zs k) else fY zs k i)=fY zs (k+1) i;unfold fY
  by_cases e:i=k
  ·subst e;rw[if_pos rfl,if_pos (Nat.lt_succ_self _)]
  rw[if_neg e]
  by_cases e2:i<k
  ·rw [if_pos e2,if_pos (by omega)]
  rw[if_neg e2,if_neg (by omega)]
theorem MH (a:Option Addr) (fs:List (Int × Int)) (len cap:Nat) (w:World) (hl:fs.length=len) (hr:len*16<=140737488351232) (hz:iS fs) (h:SJ w a fs) (hall:vL fs=true):
 Calls Tryz.prog 97 #[.slice a len cap] w (DF w fs len):=by
 have HA:Hid (vL fs=true):=hall;clear hall;have hmk:=run_make_row' (P:=Tryz.prog) 27 3 (.int .i64 0) 8 Tryz.underlying27 Tryz.info3 rfl .i64 .i64 len (by omega) (by omega)
 rcases h with h|⟨b,off,rfl,hc⟩
 ·subst h
  obtain rfl:len=0:=by simpa using hl.symm
  have hmk0:∀w,(Instr.makeSlice 27 (.int .i64 0) (.int .i64 0)).run Tryz.prog w=.ok (.slice (some ⟨w.heap.size,0,none⟩) 0 0) (w.alloc (.cells (madeCells #[.int .i64 0] 0) 3)):=fun w=>hmk w
  clear hmk;have b0:Hid (Below w.heap.size w (w.alloc (.cells (madeCells #[.int .i64 0] 0) 3))):=(Below.refl _ _).alloc (Nat.le_refl _) _
  have hlc:∀W x,Calls Tryz.prog 117 #[.slice x 0 0] W fun e w'=>∃n:Nat,e=.returned (.tuple #[.int .i64 1,.bool true])/\w'=W.drewN n:=fun W x=>IG x [] 0 0 W rfl (by omega) inR0 (Or.inl rfl)
  go_enter Tryz.func97,Tryz.ntmps97
  go_wp2
  go_loop [16] (fun i=>i=.int .i64 0) (fun _=>0)
  case atStart=>exact rfl
  case round=>
   subst hrel
   go_wp2_with (first
    |(go_at_call 117;refine (hlc _ _).mono ?_;rintro e w' ⟨n1,rfl,rfl⟩)
    |(go_at_call 116;refine (sU _ _).mono ?_;rintro e w' ⟨rfl,rfl⟩))
   have r1:Hid (((((w.alloc (.cells (madeCells #[.int .i64 0] 0) 3)).drewN n1)).alloc (.cells (madeCells #[.int .i64 0] 0) 3)).rowIs (w.heap.size+1) 3 0 (fun i=>.int .i64 (zS [] i))):=by
    have:=(World.rowIs_made ((w.alloc (.cells (madeCells #[.int .i64 0] 0) 3)).drewN n1) (.int .i64 0) 0 3).congr (g:=fun i=>.int .i64 (zS [] i)) (fun i hi=>absurd hi (Nat.not_lt_zero i));rwa[show ((w.alloc (.cells (madeCells #[.int .i64 0] 0) 3)).drewN n1).heap.size=w.heap.size+1 by show (w.alloc (.cells (madeCells #[.int .i64 0] 0) 3)).heap.size=_;simp]at this
   have b1:Hid (Below w.heap.size w ((((w.alloc (.cells (madeCells #[.int .i64 0] 0) 3)).drewN n1)).alloc (.cells (madeCells #[.int .i64 0] 0) 3))):=(pZ b0.out n1).alloc b0.out.size _
   go_loop [37] (fun i=>i=.int .i64 0) (fun _=>0)
   case atStart=>exact rfl
   case round=>
    subst hrel
    go_wp2
    go_ret2
    exact ⟨b1.out,.inl ⟨1,w.heap.size+1,rfl,rfl,rfl,by omega,r1.out⟩⟩
 have HC:Hid (∀ k,k<fs.length->w.cell? ⟨b,off+k*2,none⟩=some (.int .i64 (uD fs k))/\w.cell? ⟨b,off+k*2+1,none⟩=some (.int .i64 (uV fs k))):=hc;clear hc
 have r0:Hid ((w.alloc (.cells (madeCells #[.int .i64 0] len) 3)).rowIs w.heap.size 3 len (fY (yF fs) 0)):=by show World.rowIs _ _ _ _ _;rw[YJ];exact World.rowIs_made w _ len 3
 have b0:Hid (Below w.heap.size w (w.alloc (.cells (madeCells #[.int .i64 0] len) 3))):=(Below.refl _ _).alloc (Nat.le_refl _) _
 go_enter Tryz.func97,Tryz.ntmps97
 go_wp2
 go_loopg [16] len (fun gk i wr=>∃k:Nat,k<=len/\gk=len-k/\i=.int .i64 k/\Below w.heap.size w wr/\wr.rowIs w.heap.size 3 len (fY (yF fs) k))
 case atStart=>exact ⟨0,Nat.zero_le _,rfl,rfl,b0.out,r0.out⟩
 case round=>
  clear r0 b0;obtain ⟨k,hk,rfl,rfl,hbel,hrow⟩:=hrel
  by_cases hlt:k<len
  ·obtain ⟨q1,q2⟩:=HC.out k (by omega)
   have hlt':=block_lt_of_cell q1
   have hck1:wr.cell? ⟨b,off+k*2,none⟩=some (.int .i64 (uD fs k)):=by rw[hbel.cell (p:=⟨b,off+k*2,none⟩) hlt'];exact q1
   have hck2:wr.cell? ⟨b,off+k*2+1,none⟩=some (.int .i64 (uV fs k)):=by rw[hbel.cell (p:=⟨b,off+k*2+1,none⟩) hlt'];exact q2
   have hrc:=fun o=>(hrow.alloc o).cell hlt
   have hrf:=fun o=>(hrow.alloc o).frozen k
   have HN:Hid (zS (yF fs) k=uV fs k):=SD (by omega);have hsz:=hrow.lt;clear q1 q2;generalize uD fs k=u at *;generalize uV fs k=v at *
   go_wp2
   go_roundg (len-(k+1))
   case measure=>omega
   case rel=>exact ⟨k+1,by omega,rfl,by go_num,(hbel.setCell (by exact Nat.le_refl _) _).alloc (by rw[oZ];exact hbel.size) _,by have:=(YI hrow).alloc (.cells #[.int .i64 u,.int .i64 v] 117);rwa[HN.out]at this⟩
  have ek:len=k:=by omega
  subst ek;clear hlt hk;have hat:=VM (by rw[cG];exact hl) (SC hrow)
  have hlc:=fun W k=>IG (some ⟨w.heap.size,0,none⟩) (yF fs) len len W (by rw[cG];exact hl) (by omega) (zSQ hz) k
  have hv:NC (yF fs)=((uW 1 (yF fs)).getD 0:Nat):=by unfold NC;rw[fZ HA.out];rfl
  have hb':MZ (yF fs)=(uW 1 (yF fs)).isSome:=by unfold MZ;rw[fZ HA.out];rfl
  rw[hv,hb']at hlc;clear hv hb'
  cases hL:uW 1 (yF fs) with
  |none=>
   have HL:Hid (uW 1 (yF fs)=none):=hL;rw[hL]at hlc;clear hL
   go_wp2_with (first
    |(go_at_call 117;refine (hlc _ hat).mono ?_;rintro e w' ⟨n1,rfl,rfl⟩)
    |(go_at_call 116;refine (gC _ _).mono ?_;rintro e w' ⟨rfl,rfl⟩))
   exact ⟨rfl,pZ hbel n1,.inr ⟨(fun K hK=>by rw[HL.out]at hK;cases hK),rfl⟩⟩
  |some K=>
   have HL:Hid (uW 1 (yF fs)=some K):=hL;rw[hL]at hlc;have hK:=zXN (m:=1) (by omega) (by omega) (fZ HA.out) hL;clear hL
   have hlc':∀W,At W (some ⟨w.heap.size,0,none⟩) (yF fs)->Calls Tryz.prog 117 #[.slice (some ⟨w.heap.size,0,none⟩) len len] W fun e w'=>∃n:Nat,e=.returned (.tuple #[.int .i64 (K:Nat),.bool true])/\w'=W.drewN n:=hlc
   clear hlc hrow
   go_wp2_with (first
    |(go_at_call 117;refine (hlc' _ hat).mono ?_;rintro e w' ⟨n1,rfl,rfl⟩)
    |(go_at_call 116;refine (sU _ _).mono ?_;rintro e w' ⟨rfl,rfl⟩))
   clear hat hlc'
   have r0:Hid (((wr.drewN n1).alloc (.cells (madeCells #[.int .i64 0] len) 3)).rowIs wr.heap.size 3 len (fY (DG K fs) 0)):=by show World.rowIs _ _ _ _ _;rw[YJ];exact World.rowIs_made (wr.drewN n1) _ len 3
   have b0:Hid (Below w.heap.size w ((wr.drewN n1).alloc (.cells (madeCells #[.int .i64 0] len) 3))):=(pZ hbel n1).alloc hbel.size _;have HG:Hid (w.heap.size<=wr.heap.size):=hbel.size;clear hbel hmk;generalize wr.heap.size=g at *
   go_loopg [37] len (fun gk i wr=>∃k:Nat,k<=len/\gk=len-k/\i=.int .i64 k/\Below w.heap.size w wr/\wr.rowIs g 3 len (fY (DG K fs) k)/\ZK K (fs.drop k)=ZK K fs)
   case atStart=>exact ⟨0,Nat.zero_le _,rfl,rfl,b0.out,r0.out,rfl⟩
   case round=>
    clear r0 b0;obtain ⟨k,hk,rfl,rfl,hbel,hrow,hs⟩:=hrel;have HS:Hid (ZK K (fs.drop k)=ZK K fs):=hs;clear hs
    by_cases hlt:k<len
    ·obtain ⟨q1,q2⟩:=HC.out k (by omega)
     have hlt':=block_lt_of_cell q1
     have hck1:wr.cell? ⟨b,off+k*2,none⟩=some (.int .i64 (uD fs k)):=by rw[hbel.cell (p:=⟨b,off+k*2,none⟩) hlt'];exact q1
     have hck2:wr.cell? ⟨b,off+k*2+1,none⟩=some (.int .i64 (uV fs k)):=by rw[hbel.cell (p:=⟨b,off+k*2+1,none⟩) hlt'];exact q2
     have HN:Hid (zS (DG K fs) k=uD fs k*((K:Int) / uV fs k)):=zSR (by omega);have HD:Hid (fs.drop k=(uD fs k,uV fs k)::fs.drop (k+1)):=zXS (by omega);have hv0:=gA (SG HA.out (k:=k) (by omega));obtain ⟨z1,z2⟩:=hz k;clear q1 q2;generalize uD fs k=u at *;generalize uV fs k=v at *;obtain ⟨q,hq⟩:∃q,(K:Int) / v=q:=⟨_,rfl⟩
     have hq2:(K:Int).tdiv v=q:=by rw[Int.tdiv_eq_ediv_of_nonneg (by omega)];exact hq
     have hq3: -9223372036854775808<=q/\q<=9223372036854775807:=by
      have h1:0<=q:=by rw[<- hq];exact Int.ediv_nonneg (by omega) (by omega)
      have h2:q<=K:=by rw[<- hq];exact Int.ediv_le_self _ (by omega)
      omega
     have hq4:IntKind.i64.wrap q=q:=by rw[IntKind.wrap_i64];omega
     have hq5:wrap64 q=q:=by unfold wrap64;omega
     have hv1:¬v=0:=by omega
     rw[hq]at HN;have HQ:Hid ((K:Int) / v=q):=hq
     have hm1:=fun w=>oB u q w z1 hq3
     have hV:=tL wr (.int .i64 u) (.int .i64 v) 117;have hR:=hrow.alloc (.cells #[.int .i64 u,.int .i64 v] 117);have hB:=hbel.alloc hbel.size (.cells #[.int .i64 u,.int .i64 v] 117);have HGL:Hid (g<wr.heap.size):=hrow.lt
     go_wp2
     generalize wr.alloc (.cells #[.int .i64 u,.int .i64 v] 117)=w3 at *;clear hck1 hck2 hrow hbel;have c0:=hV.c0;have c1:=hV.c1;have e0:=hR.cell hlt;have e1:=hR.frozen k
     cases hf:yK (u*q)
     ·have HF:Hid (ZK K fs=false):=by show ZK K fs=false;rw[<- HS.out,HD.out,ZK,HQ.out,hf];rfl
      rw[hf,rA (tY.1 hf)]at hm1;clear hf;refine sD wY 11 [0,1,2,3,4,5,6,7,8,9,10] 0 (by kernel_rfl) (by kernel_rfl) (by kernel_rfl) ?_ ?_
      ·rintro a' w' hdf ⟨n,rfl⟩
       exact ⟨hdf,pZ hB n,.inr ⟨(fun K' hK'=>by rw[HL.out]at hK';cases hK';exact HF.out),rfl⟩⟩
      simp only[List.take_succ_cons,List.take_zero,List.drop_succ_cons,List.drop_zero,List.cons_append,List.nil_append]
      repeat (go_big_quiet_step (first|(go_at_call 118;(with_reducible refine (hm1 _).mono ?_);rintro e w' ⟨rfl,rfl⟩;exact ⟨rfl,_,rfl⟩)))
      refine wpQuiet_nil ?_
      refine ⟨_,rfl,rfl,?_⟩
      rintro w' ⟨n,rfl⟩
      refine ⟨116,#[.int .i64 0,.bool false],by simp[go_sem],?_⟩
      exact (gC _ _).mono fun e w' h=>⟨h.1,n,h.2.symm⟩
     have HF:Hid (ZK K (fs.drop (k+1))=ZK K fs):=by show _=ZK K fs;rw[<- HS.out,HD.out,ZK,HQ.out,hf];rfl
     rw[hf,wE (xC.1 hf)]at hm1;clear hf;generalize u*q=uq at *;refine wp_region_still_tail 12 (by kernel_rfl) (by kernel_rfl) ?_
     simp only[List.take_succ_cons,List.take_zero,List.drop_succ_cons,List.drop_zero]
     change wpStill _ _ (World.drew _) _ _ _
     iterate 8 still_step
     still_call ((hm1 _).mono fun e w' h=>⟨h.1,h.2.symm⟩)
     iterate 2 still_step
     still_call ((sU _ _).mono fun e w' h=>⟨h.1,h.2.symm⟩)
     refine wpStill_nil ?_
     go_wp2
     go_roundg (len-(k+1))
     case measure=>omega
     case rel=>exact ⟨k+1,by omega,rfl,by go_num,(hB.setCell HG.out _).drew,by have:=YI hR;rw[HN.out]at this;exact this.drew,HF.out⟩
    have ek:len=k:=by omega
    subst ek
    have HF:Hid (ZK K fs=true):=by show ZK K fs=true;rw[<- HS.out,gB (by omega)];rfl
    go_wp2
    go_ret2
    exact ⟨hbel,.inl ⟨K,g,HL.out,HF.out,rfl,HG.out,SC hrow⟩⟩
def mV (fs:List (Int × Int)):Option Nat:=(uW 1 (yF fs)).bind fun K=>if ZK K fs then some K else none
def cD (fs:List (Int × Int)):Option Nat:=if vL fs then mV fs else none
def scK (fs:List (Int × Int)):Int:=((cD fs).getD 0:Nat)
def scR (fs:List (Int × Int)):List Int:=match cD fs with|some K=>DG K fs|none=>[]
def TF (fs:List (Int × Int)):Int:=if vL fs then (if (cD fs).isSome then 0 else 4) else 1
theorem fX {fs:List (Int × Int)} {K:Nat} (h1:uW 1 (yF fs)=some K) (h2:ZK K fs=true):mV fs=some K:=by unfold mV;rw[h1];simp[h2]
theorem fW {fs:List (Int × Int)} (h:∀K,uW 1 (yF fs)=some K->ZK K fs=false):mV fs=none:=by
 unfold mV
 cases e:uW 1 (yF fs) with
 |none=>rfl
 |some K=>simp[h K e]
def zOH (w:World) (fs:List (Int × Int)) (len bk bw:Nat) (e:Ending) (w':World):Prop:=
 ∃w1,Below w.heap.size w w1/\((∃ K g,mV fs=some K/\e=.returned (.tuple #[])/\w.heap.size<=g/\w1.rowIs g 3 len (fun i=>.int .i64 (zS (DG K fs) i))/\w'=(w1.setCell ⟨bk,0,none⟩ (.int .i64 (K:Nat))).setCell ⟨bw,0,none⟩ (.slice (some ⟨g,0,none⟩) len len))\/
  (mV fs=none/\e=.panicked wY/\w'=w1))
theorem MG (a:Option Addr) (fs:List (Int × Int)) (len cap:Nat) (bs bk bw:Nat) (w:World) (hl:fs.length=len) (hr:len*16<=140737488351232) (hz:iS fs) (h:SJ w a fs) (hall:vL fs=true)
 (vs:wC w bs (.slice a len cap)) (vk:wC w bk (.int .i64 0)) (vw:wC w bw (qN)) (hne:bk≠bw):
 Calls Tryz.prog 96 #[(qP bs),(qP bk),(qP bw)] w (zOH w fs len bk bw):=by
 have cs:=vs.c0;have hlow:=MH a fs len cap w hl hr hz h hall;clear hall h
 cases hB:mV fs with
 |none=>
  have HB:Hid (mV fs=none):=hB;clear hB
  go_enter Tryz.func96,Tryz.ntmps96
  go_wp2_with (go_at_call 97;refine hlow.mono ?_;rintro e w1 ⟨hb,⟨K,g,h1,h2,rfl,hg,hrow⟩|⟨h1,rfl⟩⟩;(have:=fX h1 h2;rw[HB.out]at this;cases this))
  exact ⟨rfl,w1,hb,.inr ⟨HB.out,rfl,rfl⟩⟩
 |some K=>
  have HB:Hid (mV fs=some K):=hB;clear hB;have HNE:Hid (bk≠bw):=hne;have n1:¬bk=bw:=hne
  go_enter Tryz.func96,Tryz.ntmps96
  go_wp2_with (go_at_call 97;refine hlow.mono ?_;rintro e w1 ⟨hb,⟨K',g,h1,h2,rfl,hg,hrow⟩|⟨h1,rfl⟩⟩;rotate_left;(have:=fW h1;rw[HB.out]at this;cases this);have e1:=fX h1 h2;rw[HB.out]at e1;cases e1;have VK:=vk.later hb vk.lt;have VW:=vw.later hb vw.lt;have c0:=VK.c0;have f0:=VK.f0;have VW':=VW.other (p:=⟨bk,0,none⟩) HNE.out (.int .i64 (K:Nat));have c1:=VW'.c0;have f1:=VW'.f0)
  go_end0
  exact ⟨w1,hb,.inl ⟨K,g,HB.out,rfl,hg,hrow,rfl⟩⟩
def DD (fs:List (Int × Int)):Int:=((mV fs).getD 0:Nat)
def zOG (fs:List (Int × Int)):Int:=if (mV fs).isSome then 0 else 4
def VJ (base:Nat) (w:World) (a:Option Addr) (n cap:Nat) (zs:List Int):Prop:=
 zs.length=n/\((a=none/\n=0/\cap=0)\/(∃ g,a=some ⟨g,0,none⟩/\base<=g/\cap=n/\w.rowIs g 3 n (fun i=>.int .i64 (zS zs i))))
def zXM (fs:List (Int × Int)):List Int:=match mV fs with|some K=>DG K fs|none=>[]
def zOF (w:World) (fs:List (Int × Int)) (bk bw:Nat) (e:Ending) (w':World):Prop:=
 e=.returned (.int .i64 (zOG fs))/\Below bk w w'/\wC w' bk (.int .i64 (DD fs))/\∃a n cap,wC w' bw (.slice a n cap)/\VJ w.heap.size w' a n cap (zXM fs)
theorem DC (a:Option Addr) (fs:List (Int × Int)) (len cap:Nat) (bs bk bw:Nat) (w:World) (hl:fs.length=len) (hr:len*16<=140737488351232) (hz:iS fs) (h:SJ w a fs) (hall:vL fs=true)
 (vs:wC w bs (.slice a len cap)) (vk:wC w bk (.int .i64 0)) (vw:wC w bw (qN)) (hne:bk<bw):
 Calls Tryz.prog 93 #[.func (.func 96) #[] #[(qP bs),(qP bk),(qP bw)]] w (zOF w fs bk bw):=by
 have b1:Below w.heap.size w (w.alloc (.cells #[.int .i64 0] 31)):=(Below.refl _ _).alloc (Nat.le_refl _) _;have ve:=tK w (.int .i64 0) 31
 have sz:(w.alloc (.cells #[.int .i64 0] 31)).heap.size=w.heap.size+1:=by simp
 have hlk:=vk.lt;have hlw:=vw.lt;refine (mW 96 _ w (fun ok w1=>ok=(mV fs).isSome/\Below bk w w1/\wC w1 bk (.int .i64 (DD fs))/\∃a n cap,wC w1 bw (.slice a n cap)/\VJ (w.heap.size+1) w1 a n cap (zXM fs)) (fun w'=>by simp[go_sem]) ?_).mono ?_
 ·refine (MG a fs len cap bs bk bw _ hl hr hz (h.below b1) hall (vs.later b1 vs.lt) (vk.later b1 vk.lt) (vw.later b1 vw.lt) (by omega)).mono ?_
  rintro e w' ⟨w1,hb,⟨K,g,hB,rfl,hg,hrow,rfl⟩|⟨hB,rfl,rfl⟩⟩
  ·have hb':=b1.trans (hb.mono (by omega))
   have VK:=vk.later hb' vk.lt;have VW:=vw.later hb' vw.lt;refine ⟨((ve.later hb ve.lt).other (by simp;omega) _).other (by simp;omega) _,.inl ⟨rfl,by rw[hB];rfl,?_,?_,?_⟩⟩
   ·exact ((hb'.mono (by omega)).setCell (by exact Nat.le_refl _) _).setCell (by simp;omega) _
   ·unfold DD;rw[hB]
    exact (VK.put _).other (by simp;omega) _
   refine ⟨_,_,_,(VW.other (by simp;omega) _).put _,?_⟩
   unfold zXM;rw[hB];exact ⟨by rw[zSS];exact hl,.inr ⟨g,rfl,by omega,rfl,(hrow.setOther (by simp;omega) _).setOther (by simp;omega) _⟩⟩
  have hb':=b1.trans (hb.mono (by omega));refine ⟨ve.later hb ve.lt,.inr ⟨rfl,by rw[hB];rfl,hb'.mono (by omega),?_,?_⟩⟩
  ·unfold DD;rw[hB]
   exact vk.later hb' vk.lt
  refine ⟨_,_,_,vw.later hb' vw.lt,?_⟩
  unfold zXM;rw[hB];exact ⟨rfl,.inl ⟨rfl,rfl,rfl⟩⟩
 rintro e w' ⟨ok,w1,⟨rfl,hb,v,x,n,c,vw',how⟩,rfl,rfl⟩
 refine ⟨rfl,hb.setCell (by simp;omega) _,v.other (by simp;omega) _,x,n,c,vw'.other (by simp;omega) _,how.1,?_⟩
 rcases how.2 with k|⟨g,k1,k2,k3,k4⟩
 ·exact .inl k
 exact .inr ⟨g,k1,by omega,k3,k4.setOther (by simp;omega) _⟩
def RZ (w:World) (fs:List (Int × Int)) (e:Ending) (w':World):Prop:=
 Below w.heap.size w w'/\∃a n cap,e=.returned (.tuple #[.int .i64 (scK fs),.slice a n cap,.int .i64 (TF fs)])/\VJ w.heap.size w' a n cap (scR fs)
theorem MF (a:Option Addr) (fs:List (Int × Int)) (len cap:Nat) (w:World) (hl:fs.length=len) (hr:len*16<=140737488351232) (hz:iS fs) (h:SJ w a fs):
 Calls Tryz.prog 75 #[.slice a len cap] w (RZ w fs):=by
 have hmf:∀(fn:Fn) (first cap:Array Value) (w:World),(Instr.makeFunc fn first cap).run Tryz.prog w=.ok (.func fn first cap) w:=fun _ _ _ _=>rfl
 have hv:=fun W k=>iR a fs len cap W hl (by omega) hz k
 have HV:Hid (∃ W,W=w.alloc (.cells #[.slice a len cap] 111)/\wC W w.heap.size (.slice a len cap)/\Below w.heap.size w W/\W.heap.size=w.heap.size+1):=by
  refine ⟨_,rfl,?_,?_,?_⟩
  ·exact tK w _ _
  ·exact (Below.refl _ _).alloc (Nat.le_refl _) _
  simp
 have HAt:Hid (SJ w a fs):=h
 cases hB:vL fs
 ·rw [hB]at hv
  have K:Hid (scK fs=0/\TF fs=1/\scR fs=[]):=⟨by unfold scK cD;rw[hB];rfl,by unfold TF;rw[hB];rfl,by unfold scR cD;rw[hB];rfl⟩;clear hB h
  go_enter Tryz.func75,Tryz.ntmps75
  go_wp2_with (go_at_call 92;obtain ⟨W,eW,k0,kb,ks⟩:=HV.out;subst eW;refine (hv _ (HAt.out.below kb)).mono ?_;rintro e w1 ⟨rfl,hb⟩)
  refine bodyPost_ret (v:=.tuple #[.int .i64 0,qN,.int .i64 1]) (by simp[results,Tryz.results75,go_sem]) rfl ⟨kb.trans (hb.mono (by omega)),none,0,0,by rw[K.out.1,K.out.2.1],?_⟩
  rw[K.out.2.2];exact ⟨rfl,.inl ⟨rfl,rfl,rfl⟩⟩
 rw[hB]at hv;have K:Hid (scK fs=DD fs/\TF fs=zOG fs/\scR fs=zXM fs):=⟨by unfold scK cD;rw[hB];rfl,by unfold TF cD;rw[hB];rfl,by unfold scR cD;rw[hB];rfl⟩
 have HT:=fun bs bk bw W k1 k2 k3 k4 k5=>DC a fs len cap bs bk bw W hl hr hz k1 hB k2 k3 k4 k5
 clear hB h
 go_enter Tryz.func75,Tryz.ntmps75
 go_wp2_with (first
  |(go_at_call 92;obtain ⟨W,eW,k0,kb,ks⟩:=HV.out;subst eW;refine (hv _ (HAt.out.below kb)).mono ?_;rintro e w1 ⟨rfl,hb⟩;have q1:=kb.trans (hb.mono (by omega));have s0:=((k0.later hb k0.lt).alloc (.cells #[.int .i64 0] 3)).alloc (.cells #[qN] 27);have s1:=(tK w1 (.int .i64 0) 3).alloc (.cells #[qN] 27);have s2:wC ((w1.alloc (.cells #[.int .i64 0] 3)).alloc (.cells #[qN] 27)) (w1.heap.size+1) (qN):=IE _ _ _ (by simp);have q2:=(q1.alloc q1.size (.cells #[.int .i64 0] 3)).alloc (by have:=q1.size;simp;omega) (.cells #[qN] 27))
  |(go_at_call 93;refine (HT _ _ _ _ (HAt.out.below q2) s0 s1 s2 (by omega)).mono ?_;rintro e w2 ⟨rfl,hb2,v,x,n,c,vw',how⟩;have c0:=v.c0;have c1:=vw'.c0))
 go_quiet (fail)
 go_wp2
 have hq2:=q2.trans (hb2.mono q1.size);refine bodyPost_ret (v:=.tuple #[.int .i64 (DD fs),.slice x n c,.int .i64 (zOG fs)]) (by simp[results,Tryz.results75,go_sem]) rfl ⟨pZ hq2 nq,x,n,c,by rw[K.out.1,K.out.2.1],?_⟩
 rw[K.out.2.2];refine ⟨how.1,?_⟩
 rcases how.2 with k|⟨g,k1,k2,k3,k4⟩
 ·exact .inl k
 exact .inr ⟨g,k1,Nat.le_trans q2.size k2,k3,k4⟩
theorem zXL {n d:Int} (hd:d≠0) (h:vT n d=true):VU n d=uE n d/\VT n d=tO n d/\VR n d=0:=zTC hd h
theorem zXK (n d:Int) (w:World) (hn: -9223372036854775808<=n/\n<=9223372036854775807) (hd: -9223372036854775808<=d/\d<=9223372036854775807):
 Calls Tryz.prog 76 #[.int .i64 n,.int .i64 d] w (MM w n d):=zSW n d w hn hd
end Go.Proofs.YtpohmekkdjdhmaaGreat
