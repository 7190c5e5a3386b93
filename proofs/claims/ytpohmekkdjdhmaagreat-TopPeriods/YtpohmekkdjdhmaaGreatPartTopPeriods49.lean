/- Texts of one chain. -/
import Derived.Test.YtpohmekkdjdhmaaGreatPartQ
import Derived.Test.YtpohmekkdjdhmaaGreatPartTopPeriods48
import Derived.Test.YtpohmekkdjdhmaaGreatPartTopPeriods36
import Derived.Test.YtpohmekkdjdhmaaGreatPartTopPeriods42
import Derived.Test.YtpohmekkdjdhmaaGreatPartTopPeriods45
import Derived.Test.YtpohmekkdjdhmaaGreatPartTopPeriods37
set_option maxRecDepth 100000
set_option maxHeartbeats 16000000
namespace Go.Proofs.YtpohmekkdjdhmaaGreat
open Go.ChangeShapes Go.WideShapes Go.ChangeAt Go.RowKit
def awG:GG:=⟨[103],[⟨[97],2,[2]⟩,⟨[98],3,[3]⟩],[⟨0,0,1,0,[]⟩],[⟨[120],0,0⟩],[⟨[121],1,0⟩]⟩
theorem zMO:(yH awG).code=0:=by decide
theorem zPL:(kG awG).arcs=oF.arcs:=by rfl
theorem zPK (w:World):NJ ((((((w.alloc (.cells #[.int .i64 2] 3)).alloc (.cells #[.int .i64 3] 3)).alloc (.cells #[.string ⟨#[97]⟩,.int .u8 2,.slice (some ⟨w.heap.size,0,none⟩) 1 1,.string ⟨#[98]⟩,.int .u8 3,.slice (some ⟨w.heap.size+1,0,none⟩) 1 1] 65)).alloc (.cells #[.int .i64 0,.int .i64 0,.int .i64 1,.int .i64 0,qN] 59)).alloc (.cells #[.string ⟨#[120]⟩,.int .i64 0,.int .i64 0] 67)).alloc (.cells #[.string ⟨#[121]⟩,.int .i64 1,.int .i64 0] 67)) (some ⟨w.heap.size+2,0,none⟩) (some ⟨w.heap.size+3,0,none⟩) (some ⟨w.heap.size+4,0,none⟩) (some ⟨w.heap.size+5,0,none⟩) awG/\Below w.heap.size w ((((((w.alloc (.cells #[.int .i64 2] 3)).alloc (.cells #[.int .i64 3] 3)).alloc (.cells #[.string ⟨#[97]⟩,.int .u8 2,.slice (some ⟨w.heap.size,0,none⟩) 1 1,.string ⟨#[98]⟩,.int .u8 3,.slice (some ⟨w.heap.size+1,0,none⟩) 1 1] 65)).alloc (.cells #[.int .i64 0,.int .i64 0,.int .i64 1,.int .i64 0,qN] 59)).alloc (.cells #[.string ⟨#[120]⟩,.int .i64 0,.int .i64 0] 67)).alloc (.cells #[.string ⟨#[121]⟩,.int .i64 1,.int .i64 0] 67)):=by
 have s0:w.heap.size=w.heap.size+0:=rfl;have p0:=zV 3 w #[.int .i64 2];have a0:=(Below.refl w.heap.size w).alloc (Nat.le_refl _) (.cells #[.int .i64 2] 3)
 have s1:(w.alloc (.cells #[.int .i64 2] 3)).heap.size=w.heap.size+1:=by simp[World.size_alloc]
 have p1:=zV 3 (w.alloc (.cells #[.int .i64 2] 3)) #[.int .i64 3];rw[s1]at p1;have a1:=(Below.refl (w.alloc (.cells #[.int .i64 2] 3)).heap.size (w.alloc (.cells #[.int .i64 2] 3))).alloc (Nat.le_refl _) (.cells #[.int .i64 3] 3)
 have s2:((w.alloc (.cells #[.int .i64 2] 3)).alloc (.cells #[.int .i64 3] 3)).heap.size=w.heap.size+2:=by simp[World.size_alloc]
 have p2:=zV 65 ((w.alloc (.cells #[.int .i64 2] 3)).alloc (.cells #[.int .i64 3] 3)) #[.string ⟨#[97]⟩,.int .u8 2,.slice (some ⟨w.heap.size,0,none⟩) 1 1,.string ⟨#[98]⟩,.int .u8 3,.slice (some ⟨w.heap.size+1,0,none⟩) 1 1];rw[s2]at p2;have a2:=(Below.refl ((w.alloc (.cells #[.int .i64 2] 3)).alloc (.cells #[.int .i64 3] 3)).heap.size ((w.alloc (.cells #[.int .i64 2] 3)).alloc (.cells #[.int .i64 3] 3))).alloc (Nat.le_refl _) (.cells #[.string ⟨#[97]⟩,.int .u8 2,.slice (some ⟨w.heap.size,0,none⟩) 1 1,.string ⟨#[98]⟩,.int .u8 3,.slice (some ⟨w.heap.size+1,0,none⟩) 1 1] 65)
 have s3:(((w.alloc (.cells #[.int .i64 2] 3)).alloc (.cells #[.int .i64 3] 3)).alloc (.cells #[.string ⟨#[97]⟩,.int .u8 2,.slice (some ⟨w.heap.size,0,none⟩) 1 1,.string ⟨#[98]⟩,.int .u8 3,.slice (some ⟨w.heap.size+1,0,none⟩) 1 1] 65)).heap.size=w.heap.size+3:=by simp[World.size_alloc]
 have p3:=zV 59 (((w.alloc (.cells #[.int .i64 2] 3)).alloc (.cells #[.int .i64 3] 3)).alloc (.cells #[.string ⟨#[97]⟩,.int .u8 2,.slice (some ⟨w.heap.size,0,none⟩) 1 1,.string ⟨#[98]⟩,.int .u8 3,.slice (some ⟨w.heap.size+1,0,none⟩) 1 1] 65)) #[.int .i64 0,.int .i64 0,.int .i64 1,.int .i64 0,qN];rw[s3]at p3;have a3:=(Below.refl (((w.alloc (.cells #[.int .i64 2] 3)).alloc (.cells #[.int .i64 3] 3)).alloc (.cells #[.string ⟨#[97]⟩,.int .u8 2,.slice (some ⟨w.heap.size,0,none⟩) 1 1,.string ⟨#[98]⟩,.int .u8 3,.slice (some ⟨w.heap.size+1,0,none⟩) 1 1] 65)).heap.size (((w.alloc (.cells #[.int .i64 2] 3)).alloc (.cells #[.int .i64 3] 3)).alloc (.cells #[.string ⟨#[97]⟩,.int .u8 2,.slice (some ⟨w.heap.size,0,none⟩) 1 1,.string ⟨#[98]⟩,.int .u8 3,.slice (some ⟨w.heap.size+1,0,none⟩) 1 1] 65))).alloc (Nat.le_refl _) (.cells #[.int .i64 0,.int .i64 0,.int .i64 1,.int .i64 0,qN] 59)
 have s4:((((w.alloc (.cells #[.int .i64 2] 3)).alloc (.cells #[.int .i64 3] 3)).alloc (.cells #[.string ⟨#[97]⟩,.int .u8 2,.slice (some ⟨w.heap.size,0,none⟩) 1 1,.string ⟨#[98]⟩,.int .u8 3,.slice (some ⟨w.heap.size+1,0,none⟩) 1 1] 65)).alloc (.cells #[.int .i64 0,.int .i64 0,.int .i64 1,.int .i64 0,qN] 59)).heap.size=w.heap.size+4:=by simp[World.size_alloc]
 have p4:=zV 67 ((((w.alloc (.cells #[.int .i64 2] 3)).alloc (.cells #[.int .i64 3] 3)).alloc (.cells #[.string ⟨#[97]⟩,.int .u8 2,.slice (some ⟨w.heap.size,0,none⟩) 1 1,.string ⟨#[98]⟩,.int .u8 3,.slice (some ⟨w.heap.size+1,0,none⟩) 1 1] 65)).alloc (.cells #[.int .i64 0,.int .i64 0,.int .i64 1,.int .i64 0,qN] 59)) #[.string ⟨#[120]⟩,.int .i64 0,.int .i64 0];rw[s4]at p4;have a4:=(Below.refl ((((w.alloc (.cells #[.int .i64 2] 3)).alloc (.cells #[.int .i64 3] 3)).alloc (.cells #[.string ⟨#[97]⟩,.int .u8 2,.slice (some ⟨w.heap.size,0,none⟩) 1 1,.string ⟨#[98]⟩,.int .u8 3,.slice (some ⟨w.heap.size+1,0,none⟩) 1 1] 65)).alloc (.cells #[.int .i64 0,.int .i64 0,.int .i64 1,.int .i64 0,qN] 59)).heap.size ((((w.alloc (.cells #[.int .i64 2] 3)).alloc (.cells #[.int .i64 3] 3)).alloc (.cells #[.string ⟨#[97]⟩,.int .u8 2,.slice (some ⟨w.heap.size,0,none⟩) 1 1,.string ⟨#[98]⟩,.int .u8 3,.slice (some ⟨w.heap.size+1,0,none⟩) 1 1] 65)).alloc (.cells #[.int .i64 0,.int .i64 0,.int .i64 1,.int .i64 0,qN] 59))).alloc (Nat.le_refl _) (.cells #[.string ⟨#[120]⟩,.int .i64 0,.int .i64 0] 67)
 have s5:(((((w.alloc (.cells #[.int .i64 2] 3)).alloc (.cells #[.int .i64 3] 3)).alloc (.cells #[.string ⟨#[97]⟩,.int .u8 2,.slice (some ⟨w.heap.size,0,none⟩) 1 1,.string ⟨#[98]⟩,.int .u8 3,.slice (some ⟨w.heap.size+1,0,none⟩) 1 1] 65)).alloc (.cells #[.int .i64 0,.int .i64 0,.int .i64 1,.int .i64 0,qN] 59)).alloc (.cells #[.string ⟨#[120]⟩,.int .i64 0,.int .i64 0] 67)).heap.size=w.heap.size+5:=by simp[World.size_alloc]
 have p5:=zV 67 (((((w.alloc (.cells #[.int .i64 2] 3)).alloc (.cells #[.int .i64 3] 3)).alloc (.cells #[.string ⟨#[97]⟩,.int .u8 2,.slice (some ⟨w.heap.size,0,none⟩) 1 1,.string ⟨#[98]⟩,.int .u8 3,.slice (some ⟨w.heap.size+1,0,none⟩) 1 1] 65)).alloc (.cells #[.int .i64 0,.int .i64 0,.int .i64 1,.int .i64 0,qN] 59)).alloc (.cells #[.string ⟨#[120]⟩,.int .i64 0,.int .i64 0] 67)) #[.string ⟨#[121]⟩,.int .i64 1,.int .i64 0];rw[s5]at p5;have a5:=(Below.refl (((((w.alloc (.cells #[.int .i64 2] 3)).alloc (.cells #[.int .i64 3] 3)).alloc (.cells #[.string ⟨#[97]⟩,.int .u8 2,.slice (some ⟨w.heap.size,0,none⟩) 1 1,.string ⟨#[98]⟩,.int .u8 3,.slice (some ⟨w.heap.size+1,0,none⟩) 1 1] 65)).alloc (.cells #[.int .i64 0,.int .i64 0,.int .i64 1,.int .i64 0,qN] 59)).alloc (.cells #[.string ⟨#[120]⟩,.int .i64 0,.int .i64 0] 67)).heap.size (((((w.alloc (.cells #[.int .i64 2] 3)).alloc (.cells #[.int .i64 3] 3)).alloc (.cells #[.string ⟨#[97]⟩,.int .u8 2,.slice (some ⟨w.heap.size,0,none⟩) 1 1,.string ⟨#[98]⟩,.int .u8 3,.slice (some ⟨w.heap.size+1,0,none⟩) 1 1] 65)).alloc (.cells #[.int .i64 0,.int .i64 0,.int .i64 1,.int .i64 0,qN] 59)).alloc (.cells #[.string ⟨#[120]⟩,.int .i64 0,.int .i64 0] 67))).alloc (Nat.le_refl _) (.cells #[.string ⟨#[121]⟩,.int .i64 1,.int .i64 0] 67);have b5:=a5;have b4:=a4.trans (b5.mono a4.size);have b3:=a3.trans (b4.mono a3.size);have b2:=a2.trans (b3.mono a2.size);have b1:=a1.trans (b2.mono a1.size);have b0:=a0.trans (b1.mono a0.size);have i0:=p0.below b1;have i1:=p1.below b2;have ac:=p2.below b3;have ed:=p3.below b4;have pi:=p4.below b5;have po:=p5;clear a0 a1 a2 a3 a4 a5 b1 b2 b3 b4 b5 p0 p1 p2 p3 p4 p5 s0 s1 s2 s3 s4 s5;refine ⟨?_,b0⟩
 generalize ((((((w.alloc (.cells #[.int .i64 2] 3)).alloc (.cells #[.int .i64 3] 3)).alloc (.cells #[.string ⟨#[97]⟩,.int .u8 2,.slice (some ⟨w.heap.size,0,none⟩) 1 1,.string ⟨#[98]⟩,.int .u8 3,.slice (some ⟨w.heap.size+1,0,none⟩) 1 1] 65)).alloc (.cells #[.int .i64 0,.int .i64 0,.int .i64 1,.int .i64 0,qN] 59)).alloc (.cells #[.string ⟨#[120]⟩,.int .i64 0,.int .i64 0] 67)).alloc (.cells #[.string ⟨#[121]⟩,.int .i64 1,.int .i64 0] 67))=V at *;refine ⟨.inr ⟨w.heap.size+2,0,rfl,fun k hk=>?_⟩,.inr ⟨w.heap.size+3,0,rfl,fun k hk=>?_⟩,.inr ⟨w.heap.size+4,0,rfl,fun k hk=>?_⟩,.inr ⟨w.heap.size+5,0,rfl,fun k hk=>?_⟩,by show 2<=1000000000000000;decide,by show 1<=1000000000000000;decide,by show 1<=1000000000000000;decide,by show 1<=1000000000000000;decide⟩
 ·match k,hk with
  |0,_=>exact ⟨ac.cell (k:=0) rfl,ac.cell (k:=1) rfl,by show 2<=255;decide,_,_,ac.cell (k:=2) rfl,cW i0 (by decide)⟩
  |1,_=>exact ⟨ac.cell (k:=3) rfl,ac.cell (k:=4) rfl,by show 3<=255;decide,_,_,ac.cell (k:=5) rfl,cW i1 (by decide)⟩
  |k+2,hk=>exact absurd hk (by show ¬k+2<2;omega)
 ·match k,hk with
  |0,_=>exact ⟨ed.cell (k:=0) rfl,ed.cell (k:=1) rfl,ed.cell (k:=2) rfl,ed.cell (k:=3) rfl,_,_,ed.cell (k:=4) rfl,iW⟩
  |k+1,hk=>exact absurd hk (by show ¬k+1<1;omega)
 ·match k,hk with
  |0,_=>exact ⟨pi.cell (k:=0) rfl,pi.cell (k:=1) rfl,pi.cell (k:=2) rfl⟩
  |k+1,hk=>exact absurd hk (by show ¬k+1<1;omega)
 match k,hk with
 |0,_=>exact ⟨po.cell (k:=0) rfl,po.cell (k:=1) rfl,po.cell (k:=2) rfl⟩
 |k+1,hk=>exact absurd hk (by show ¬k+1<1;omega)
theorem zMN (U:World) (x1 x2 x3 x4:Addr) (h:NJ U (some x1) (some x2) (some x3) (some x4) awG):Calls Tryz.prog 4 #[.agg #[.string ⟨#[103]⟩,.slice (some x1) 2 2,.slice (some x2) 1 1,.slice (some x3) 1 1,.slice (some x4) 1 1]] U fun e w'=>∃d c,e=.returned (.tuple #[.agg #[.int .i64 2,.slice d 1 c],.int .i64 0])/\vN w' d oF.arcs/\Below U.heap.size U w':=by
 refine (EK awG (some x1) (some x2) (some x3) (some x4) 2 1 1 1 U h).mono fun e w' q=>?_
 unfold zQB at q;rw[if_pos zMO,zPL]at q;exact q
theorem runW3 (U:World) (d y:Option Addr) (c k:Nat) (h:vN U d oF.arcs) (hr:At U y [3,2]):Calls Tryz.prog 8 #[.agg #[.int .i64 2,.slice d 1 c],.slice y 2 k,qN] U fun e w'=>∃d1 c1 d2 c2,e=.returned (.tuple #[.agg #[.slice d1 5 c1,.slice d2 0 c2],.int .i64 0])/\Below U.heap.size U w':=by
 have hd:d≠none:=fun e=>by
  rcases h with q|⟨b,o,q,-⟩
  ·cases q
  rw[e]at q;cases q
 have hy:y≠none:=fun e=>by
  rcases hr with q|⟨b,o,q,-⟩
  ·cases q
  rw[e]at q;cases q
 have:=ZM oF d c [3,2] y k [] none 0 U h (by decide) (fun e=>absurd e hd) hr (by decide) (fun e=>absurd e hy) (.inl rfl) (by decide);refine this.mono ?_
 rintro e w' ⟨d1,c1,d2,c2,he,-,-,h3⟩
 obtain ⟨g1,g2,g3⟩:=zMS;rw[g1,g2,g3]at he;exact ⟨d1,c1,d2,c2,he,h3⟩
theorem TI (w:World):Calls Tryz.prog 5 #[] w fun e w'=>e=.returned (.bool true)/\Below w.heap.size w w':=by
 have AG:=zZ (zPK w);have OF:=zZ zMN;have SO:=zZ zPR;have RU:=zZ runW3;have SI:=zZ (fun (U:World) (x y:Option Addr) (k1 k2:Nat) (h1:At U x [3,2]) (h2:At U y [3,2])=>zOS U x y [3,2] k1 k2 (by decide) h1 h2)
 have s6:((((((w.alloc (.cells #[.int .i64 2] 3)).alloc (.cells #[.int .i64 3] 3)).alloc (.cells #[.string ⟨#[97]⟩,.int .u8 2,.slice (some ⟨w.heap.size,0,none⟩) 1 1,.string ⟨#[98]⟩,.int .u8 3,.slice (some ⟨w.heap.size+1,0,none⟩) 1 1] 65)).alloc (.cells #[.int .i64 0,.int .i64 0,.int .i64 1,.int .i64 0,qN] 59)).alloc (.cells #[.string ⟨#[120]⟩,.int .i64 0,.int .i64 0] 67)).alloc (.cells #[.string ⟨#[121]⟩,.int .i64 1,.int .i64 0] 67)).heap.size=w.heap.size+6:=by simp[World.size_alloc]
 have X1:=zZ (zV 26 ((((((w.alloc (.cells #[.int .i64 2] 3)).alloc (.cells #[.int .i64 3] 3)).alloc (.cells #[.string ⟨#[97]⟩,.int .u8 2,.slice (some ⟨w.heap.size,0,none⟩) 1 1,.string ⟨#[98]⟩,.int .u8 3,.slice (some ⟨w.heap.size+1,0,none⟩) 1 1] 65)).alloc (.cells #[.int .i64 0,.int .i64 0,.int .i64 1,.int .i64 0,qN] 59)).alloc (.cells #[.string ⟨#[120]⟩,.int .i64 0,.int .i64 0] 67)).alloc (.cells #[.string ⟨#[121]⟩,.int .i64 1,.int .i64 0] 67)) #[.string ⟨#[103]⟩,.slice (some ⟨w.heap.size+2,0,none⟩) 2 2,.slice (some ⟨w.heap.size+3,0,none⟩) 1 1,.slice (some ⟨w.heap.size+4,0,none⟩) 1 1,.slice (some ⟨w.heap.size+5,0,none⟩) 1 1]);rw[s6]at X1;have b1:=(Below.refl ((((((w.alloc (.cells #[.int .i64 2] 3)).alloc (.cells #[.int .i64 3] 3)).alloc (.cells #[.string ⟨#[97]⟩,.int .u8 2,.slice (some ⟨w.heap.size,0,none⟩) 1 1,.string ⟨#[98]⟩,.int .u8 3,.slice (some ⟨w.heap.size+1,0,none⟩) 1 1] 65)).alloc (.cells #[.int .i64 0,.int .i64 0,.int .i64 1,.int .i64 0,qN] 59)).alloc (.cells #[.string ⟨#[120]⟩,.int .i64 0,.int .i64 0] 67)).alloc (.cells #[.string ⟨#[121]⟩,.int .i64 1,.int .i64 0] 67)).heap.size ((((((w.alloc (.cells #[.int .i64 2] 3)).alloc (.cells #[.int .i64 3] 3)).alloc (.cells #[.string ⟨#[97]⟩,.int .u8 2,.slice (some ⟨w.heap.size,0,none⟩) 1 1,.string ⟨#[98]⟩,.int .u8 3,.slice (some ⟨w.heap.size+1,0,none⟩) 1 1] 65)).alloc (.cells #[.int .i64 0,.int .i64 0,.int .i64 1,.int .i64 0,qN] 59)).alloc (.cells #[.string ⟨#[120]⟩,.int .i64 0,.int .i64 0] 67)).alloc (.cells #[.string ⟨#[121]⟩,.int .i64 1,.int .i64 0] 67))).alloc (Nat.le_refl _) (.cells #[.string ⟨#[103]⟩,.slice (some ⟨w.heap.size+2,0,none⟩) 2 2,.slice (some ⟨w.heap.size+3,0,none⟩) 1 1,.slice (some ⟨w.heap.size+4,0,none⟩) 1 1,.slice (some ⟨w.heap.size+5,0,none⟩) 1 1] 26);have G1:=zZ (AG.out.1.below b1);have B1:=zZ (AG.out.2.trans (b1.mono AG.out.2.size));clear b1 AG s6
 go_enter Tryz.func5,Tryz.ntmps5
 go_upto_region 2 with fail
 generalize ((((((w.alloc (.cells #[.int .i64 2] 3)).alloc (.cells #[.int .i64 3] 3)).alloc (.cells #[.string ⟨#[97]⟩,.int .u8 2,.slice (some ⟨w.heap.size,0,none⟩) 1 1,.string ⟨#[98]⟩,.int .u8 3,.slice (some ⟨w.heap.size+1,0,none⟩) 1 1] 65)).alloc (.cells #[.int .i64 0,.int .i64 0,.int .i64 1,.int .i64 0,qN] 59)).alloc (.cells #[.string ⟨#[120]⟩,.int .i64 0,.int .i64 0] 67)).alloc (.cells #[.string ⟨#[121]⟩,.int .i64 1,.int .i64 0] 67)).alloc (.cells #[.string ⟨#[103]⟩,.slice (some ⟨w.heap.size+2,0,none⟩) 2 2,.slice (some ⟨w.heap.size+3,0,none⟩) 1 1,.slice (some ⟨w.heap.size+4,0,none⟩) 1 1,.slice (some ⟨w.heap.size+5,0,none⟩) 1 1] 26)=W1 at *;obtain ⟨q,hq⟩:∃q,w.heap.size=q:=⟨_,rfl⟩;have HQ:=zZ hq;rw[hq]at X1 G1 ⊢;clear hq;have y0:=X1.out.cell (k:=0) rfl;have y1:=X1.out.cell (k:=1) rfl;have y2:=X1.out.cell (k:=2) rfl;have y3:=X1.out.cell (k:=3) rfl;have y4:=X1.out.cell (k:=4) rfl;simp only[List.getElem_toArray,List.getElem_cons_zero,List.getElem_cons_succ]at y0 y1 y2 y3 y4;have O1:=zZ (OF.out W1 _ _ _ _ G1.out)
 go_upto_region 3 with (go_at_call 4;(with_reducible refine O1.out.mono ?_);rintro e W2 ⟨d,c,rfl,q1,b2⟩;have N2:=zZ q1;have B2:=zZ (B1.out.trans (b2.mono B1.out.size));clear q1 b2)
 have b3:=(Below.refl W2.heap.size W2).alloc (Nat.le_refl _) (.cells #[.int .i64 2,.slice d 1 c] 30);have X3:=zZ (zV 30 W2 #[.int .i64 2,.slice d 1 c]);have N3:=zZ (N2.out.below b3);have B3:=zZ (B2.out.trans (b3.mono B2.out.size));obtain ⟨xn,hxn⟩:∃q,W2.heap.size=q:=⟨_,rfl⟩;rw[hxn]at X3 ⊢;clear b3 hxn N2 B2 O1 OF X1 G1 B1 y0 y1 y2 y3 y4;generalize W2.alloc (.cells #[.int .i64 2,.slice d 1 c] 30)=W3 at *;have y0:=X3.out.cell (k:=0) rfl;have y1:=X3.out.cell (k:=1) rfl;simp only[List.getElem_toArray,List.getElem_cons_zero,List.getElem_cons_succ]at y0 y1
 go_upto_region 4 with (go_at_call 6;(with_reducible refine (SO.out W3 d c N3.out).mono ?_);rintro e W4 ⟨d1,c1,d2,c2,rfl,q1,b4⟩;have R4:=zZ q1;have B4:=zZ (B3.out.trans (b4.mono B3.out.size));have N4:=zZ (N3.out.below b4);have X4:=zZ (X3.out.below b4);clear q1 b4)
 have b5:=(Below.refl W4.heap.size W4).alloc (Nat.le_refl _) (.cells #[.int .u8 1,.slice d1 2 c1,.slice d2 0 c2] 38);have Z5:=zZ (zV 38 W4 #[.int .u8 1,.slice d1 2 c1,.slice d2 0 c2]);have R5:=zZ (R4.out.below b5);have N5:=zZ (N4.out.below b5);have X5:=zZ (X4.out.below b5);have B5:=zZ (B4.out.trans (b5.mono B4.out.size));obtain ⟨xz,hxz⟩:∃q,W4.heap.size=q:=⟨_,rfl⟩;rw[hxz]at Z5 ⊢;clear b5 hxz R4 N4 X4 B4 N3 X3 B3 y0 y1 SO;generalize W4.alloc (.cells #[.int .u8 1,.slice d1 2 c1,.slice d2 0 c2] 38)=W5 at *;have y0:=X5.out.cell (k:=0) rfl;have y1:=X5.out.cell (k:=1) rfl;have z1:=Z5.out.cell (k:=1) rfl;simp only[List.getElem_toArray,List.getElem_cons_zero,List.getElem_cons_succ]at y0 y1 z1
 go_upto_region 5 with (go_at_call 8;(with_reducible refine (RU.out W5 d d1 c c1 N5.out R5.out).mono ?_);rintro e W6 ⟨d3,c3,d4,c4,rfl,b6⟩;have B6:=zZ (B5.out.trans (b6.mono B5.out.size));have Z6:=zZ (Z5.out.below b6);have R6:=zZ (R5.out.below b6);clear b6)
 have b7:=(Below.refl W6.heap.size W6).alloc (Nat.le_refl _) (.cells #[.slice d3 5 c3,.slice d4 0 c4] 44);have P7:=zZ (zV 44 W6 #[.slice d3 5 c3,.slice d4 0 c4]);have R7:=zZ (R6.out.below b7);have Z7:=zZ (Z6.out.below b7);have B7:=zZ (B6.out.trans (b7.mono B6.out.size));obtain ⟨xp,hxp⟩:∃q,W6.heap.size=q:=⟨_,rfl⟩;rw[hxp]at P7 ⊢;clear b7 hxp R6 Z6 B6 N5 X5 B5 Z5 R5 y0 y1 z1 RU;generalize W6.alloc (.cells #[.slice d3 5 c3,.slice d4 0 c4] 44)=W7 at *;have z1:=Z7.out.cell (k:=1) rfl;simp only[List.getElem_toArray,List.getElem_cons_zero,List.getElem_cons_succ]at z1;have ba:=(Below.refl W7.heap.size W7).alloc (Nat.le_refl _) (.cells #[.int .i64 3,.int .i64 2] 3);have S7:Hid (Calls Tryz.prog 12 #[.slice d1 2 c1,.slice (some ⟨W7.heap.size,0,none⟩) 2 2] (W7.alloc (.cells #[.int .i64 3,.int .i64 2] 3)) fun e w'=>e=.returned (.bool true)/\Below (W7.alloc (.cells #[.int .i64 3,.int .i64 2] 3)).heap.size (W7.alloc (.cells #[.int .i64 3,.int .i64 2] 3)) w'):=SI.out _ d1 (some ⟨W7.heap.size,0,none⟩) c1 2 (R7.out.below ba) (zZU W7 3 2);have BA:=zZ ba;clear ba
 go_wp2_with (go_at_call 12;(with_reducible refine S7.out.mono ?_);rintro e W8 ⟨rfl,b8⟩;have b9:=BA.out.trans (b8.mono BA.out.size);have B9:=zZ (B7.out.trans (b9.mono B7.out.size));have v0:=(P7.out.below b9).cell (k:=0) rfl;simp only[List.getElem_toArray,List.getElem_cons_zero]at v0;clear b8 b9)
 go_ret
 exact ⟨by first|rfl|simp,B9.out⟩
theorem IM {g:GG} {n:NN} {N:Nat} (hc:(yH g).code=0) (hn:kG g=n) (hN:n.nodes=(N:Int)) (a1 a2 a3 a4:Option Addr) (c1 c2 c3 c4:Nat) (U:World) (h:NJ U a1 a2 a3 a4 g):Calls Tryz.prog 4 #[.agg #[.string (yG g.name),.slice a1 g.A.length c1,.slice a2 g.E.length c2,.slice a3 g.ins.length c3,.slice a4 g.outs.length c4]] U fun e w'=>∃d c,e=.returned (.tuple #[.agg #[.int .i64 (N:Int),.slice d n.arcs.length c],.int .i64 0])/\jE w' d c n/\Below U.heap.size U w':=by
 refine (OL g a1 a2 a3 a4 c1 c2 c3 c4 U h).mono fun e w' q=>?_
 unfold zYY at q;rw[if_pos hc]at q;obtain ⟨d,c,q1,q2,q3,q4⟩:=q
 have e1:n.nodes=(g.A.length:Int):=by rw[<- hn];rfl
 have e2:n.arcs.length=g.E.length:=by rw[<- hn];exact List.length_map ..
 obtain ⟨-,h1,h2,h3,-,-⟩:=UH ((fF g).1 hc).head;rw[hn]at q2;refine ⟨d,c,by rw[q1,e2,<-hN,e1],⟨q2,fun e=>⟨?_,q4 e⟩,⟨by omega,by omega⟩,by omega⟩,q3⟩
 rcases q2 with q|⟨b,o,q,-⟩
 ·rw [q];rfl
 rw[e]at q;cases q
theorem zTP {n:NN} {R P T F:List Int} {m:Int} (he:vE n R P=0) (hI:InU n R (List.replicate n.nodes.toNat 0) T F m) (hE:VD n R T F):F=(wS n R P).2.2/\T=(wS n R P).2.1:=by
 have hf:=eO he;exact IP hI.eq hf.eq (hI.low _ _ _ hf.eq hf.fin (zTS hf.eq)) (zMR hf (bP.refl n) hI.eq hE)
theorem zYI {n:NN} {R:List Int} (P:List Int) (h:YQ n R=true):vE n R P=0\/vE n R P=5\/vE n R P=100:=by
 unfold vE;rw[if_pos (zMU h),if_pos h]
 split
 ·exact .inr (.inl rfl)
 split
 ·exact .inl rfl
 exact .inr (.inr rfl)
structure IL (w : World) (n : NN) (N : Nat) (R Q LI : List Int) (ST : List BK) (d : Option Addr) (c rb cr : Nat) (e1 : Option Addr) (l1 k1 : Nat) (e2 : Option Addr) (l2 k2 xn xz xp : Nat) (aq : Option Addr) (wr : World) : Prop where
 n0:wr.cell? ⟨xn,0,none⟩=some (.int .i64 (N:Int))
 n1:wr.cell? ⟨xn,1,none⟩=some (.slice d n.arcs.length c)
 z1:wr.cell? ⟨xz,1,none⟩=some (.slice (some ⟨rb,0,none⟩) N cr)
 p0:wr.cell? ⟨xp,0,none⟩=some (.slice e1 l1 k1)
 p1:wr.cell? ⟨xp,1,none⟩=some (.slice e2 l2 k2)
 an:jE wr d c n
 rr:At wr (some ⟨rb,0,none⟩) R
 li:At wr e1 LI
 st:AZ wr e2 ST
 qq:At wr aq Q
 bw:Below w.heap.size w wr
theorem IL.below {w:World} {n:NN} {N:Nat} {R Q LI:List Int} {ST:List BK} {d:Option Addr} {c rb cr:Nat} {e1:Option Addr} {l1 k1:Nat} {e2:Option Addr} {l2 k2 xn xz xp:Nat} {aq:Option Addr} {U V:World} (h:IL w n N R Q LI ST d c rb cr e1 l1 k1 e2 l2 k2 xn xz xp aq U) (hb:Below U.heap.size U V):IL w n N R Q LI ST d c rb cr e1 l1 k1 e2 l2 k2 xn xz xp aq V:=
 ⟨zW hb h.n0,zW hb h.n1,zW hb h.z1,zW hb h.p0,zW hb h.p1,h.an.below hb,h.rr.below hb,h.li.below hb,h.st.below hb,h.qq.below hb,h.bw.trans (hb.mono h.bw.size)⟩
theorem zMM (g:GG) (a1 a2 a3 a4:Option Addr) (c1 c2 c3 c4:Nat) (ap:Option Addr) (lp cp:Nat) (aq:Option Addr) (lq cq:Nat) (w:World) (h:UA w a1 a2 a3 a4 c3 c4 g) (hc:¬(yH g).code=0):Calls Tryz.prog 3 #[.agg #[.string (yG g.name),.slice a1 g.A.length c1,.slice a2 g.E.length c2,.slice a3 g.ins.length c3,.slice a4 g.outs.length c4],.slice ap lp cp,.slice aq lq cq] w fun e w'=>e=.returned (.bool true)/\Below w.heap.size w w':=by
 have AW:=zZ TI;have b0:=(Below.refl w.heap.size w).alloc (Nat.le_refl _) (.cells #[.string (yG g.name),.slice a1 g.A.length c1,.slice a2 g.E.length c2,.slice a3 g.ins.length c3,.slice a4 g.outs.length c4] 26);have X0:=zZ (zV 26 w #[.string (yG g.name),.slice a1 g.A.length c1,.slice a2 g.E.length c2,.slice a3 g.ins.length c3,.slice a4 g.outs.length c4]);have B0:=zZ b0
 have OF:Hid (∀ U,Below w.heap.size w U->Calls Tryz.prog 4 #[.agg #[.string (yG g.name),.slice a1 g.A.length c1,.slice a2 g.E.length c2,.slice a3 g.ins.length c3,.slice a4 g.outs.length c4]] U fun e w'=>e=.returned (.tuple #[.agg #[.int .i64 0,qN],.int .i64 (yH g).code])/\Below U.heap.size U w'):=fun U hb=>(EK g a1 a2 a3 a4 c1 c2 c3 c4 U (h.gr.below hb)).mono fun e w' q=>by
  unfold zQB at q;rw[if_neg hc]at q;exact q
 have y0:=X0.out.cell (k:=0) rfl;have y1:=X0.out.cell (k:=1) rfl;have y2:=X0.out.cell (k:=2) rfl;have y3:=X0.out.cell (k:=3) rfl;have y4:=X0.out.cell (k:=4) rfl;simp only[List.getElem_toArray,List.getElem_cons_zero,List.getElem_cons_succ]at y0 y1 y2 y3 y4;generalize (yH g).code=x at *
 have hne:(x !=0)=true:=by simpa using hc
 clear b0 h
 go_enter Tryz.func3,Tryz.ntmps3
 go_upto_region 1 with fail
 generalize (w.alloc (.cells #[.string (yG g.name),.slice a1 g.A.length c1,.slice a2 g.E.length c2,.slice a3 g.ins.length c3,.slice a4 g.outs.length c4] 26))=W0 at *
 go_wp2_with (first
  |(go_at_call 4;(with_reducible refine (OF.out W0 B0.out).mono ?_);rintro e W1 ⟨rfl,b1⟩;have L1:=zZ (B0.out.trans (b1.mono B0.out.size));clear b1)
  |(go_at_call 5;(with_reducible refine (AW.out _).mono ?_);rintro e W2 ⟨rfl,bw⟩;have L2:=zZ (L1.out.trans ((((Below.refl W1.heap.size W1).alloc (Nat.le_refl _) _).trans (bw.mono (by rw[World.size_alloc];omega))).mono L1.out.size));clear bw))
 go_ret
 exact ⟨by first|rfl|simp,L2.out⟩
theorem zML (g:GG) (a1 a2 a3 a4:Option Addr) (c1 c2 c3 c4:Nat) (ap:Option Addr) (lp cp:Nat) (aq:Option Addr) (lq cq:Nat) (w:World) (h:UA w a1 a2 a3 a4 c3 c4 g) (hc:(yH g).code=0) (n:NN) (N:Nat) (hn:kG g=n) (hN:n.nodes=(N:Int)) (hk:zN n=0) (hb:kF n=true):Calls Tryz.prog 3 #[.agg #[.string (yG g.name),.slice a1 g.A.length c1,.slice a2 g.E.length c2,.slice a3 g.ins.length c3,.slice a4 g.outs.length c4],.slice ap lp cp,.slice aq lq cq] w fun e w'=>e=.returned (.bool true)/\Below w.heap.size w w':=by
 have SO:Hid (∀ U d c,jE U d c n->Calls Tryz.prog 6 #[.agg #[.int .i64 (N:Int),.slice d n.arcs.length c]] U fun e w'=>∃d1 c1 d2 c2,e=.returned (.tuple #[.agg #[.int .u8 3,.slice d1 0 c1,.slice d2 0 c2],.int .i64 0])/\Below U.heap.size U w'):=fun U d c hA=>by
  have q:=zYP hk hb d c U hA.lies (by have:=hA.room;omega);rw[hN]at q;exact q
 have AW:=zZ TI;have b0:=(Below.refl w.heap.size w).alloc (Nat.le_refl _) (.cells #[.string (yG g.name),.slice a1 g.A.length c1,.slice a2 g.E.length c2,.slice a3 g.ins.length c3,.slice a4 g.outs.length c4] 26);have X0:=zZ (zV 26 w #[.string (yG g.name),.slice a1 g.A.length c1,.slice a2 g.E.length c2,.slice a3 g.ins.length c3,.slice a4 g.outs.length c4]);have B0:=zZ b0
 have OF:Hid (∀ U,Below w.heap.size w U->Calls Tryz.prog 4 #[.agg #[.string (yG g.name),.slice a1 g.A.length c1,.slice a2 g.E.length c2,.slice a3 g.ins.length c3,.slice a4 g.outs.length c4]] U fun e w'=>∃d c,e=.returned (.tuple #[.agg #[.int .i64 (N:Int),.slice d n.arcs.length c],.int .i64 0])/\jE w' d c n/\Below U.heap.size U w'):=fun U hb=>IM hc hn hN a1 a2 a3 a4 c1 c2 c3 c4 U (h.gr.below hb)
 have y0:=X0.out.cell (k:=0) rfl;have y1:=X0.out.cell (k:=1) rfl;have y2:=X0.out.cell (k:=2) rfl;have y3:=X0.out.cell (k:=3) rfl;have y4:=X0.out.cell (k:=4) rfl;simp only[List.getElem_toArray,List.getElem_cons_zero,List.getElem_cons_succ]at y0 y1 y2 y3 y4;clear b0 h hn
 go_enter Tryz.func3,Tryz.ntmps3
 go_upto_region 1 with fail
 generalize (w.alloc (.cells #[.string (yG g.name),.slice a1 g.A.length c1,.slice a2 g.E.length c2,.slice a3 g.ins.length c3,.slice a4 g.outs.length c4] 26))=W0 at *
 go_upto_region 2 with (go_at_call 4;(with_reducible refine (OF.out W0 B0.out).mono ?_);rintro e W1 ⟨d,c,rfl,q1,b1⟩;have A1:=zZ q1;have L1:=zZ (B0.out.trans (b1.mono B0.out.size));clear q1 b1)
 clear y0 y1 y2 y3 y4 OF X0 B0;have bb:=(Below.refl W1.heap.size W1).alloc (Nat.le_refl _) (.cells #[.int .i64 (N:Int),.slice d n.arcs.length c] 30);have XN2:=zZ (zV 30 W1 #[.int .i64 (N:Int),.slice d n.arcs.length c]);have A2:=zZ (A1.out.below bb);have L2:=zZ (L1.out.trans (bb.mono L1.out.size));obtain ⟨xn,hxn⟩:∃q,W1.heap.size=q:=⟨_,rfl⟩;rw[hxn]at XN2 ⊢;clear bb hxn L1 A1;generalize W1.alloc (.cells #[.int .i64 (N:Int),.slice d n.arcs.length c] 30)=W2 at *;have y0:=XN2.out.cell (k:=0) rfl;have y1:=XN2.out.cell (k:=1) rfl;simp only[List.getElem_toArray,List.getElem_cons_zero,List.getElem_cons_succ]at y0 y1
 go_upto_region 4 with fail
 go_upto_region 5 with (go_at_call 6;(with_reducible refine (SO.out W2 d c A2.out).mono ?_);rintro e W3 ⟨d1,k1,d2,k2,rfl,b3⟩;have L3:=zZ (L2.out.trans (b3.mono L2.out.size));clear b3)
 have bb:=(Below.refl W3.heap.size W3).alloc (Nat.le_refl _) (.cells #[.int .u8 3,.slice d1 0 k1,.slice d2 0 k2] 38);have XZ4:=zZ (zV 38 W3 #[.int .u8 3,.slice d1 0 k1,.slice d2 0 k2]);have L4:=zZ (L3.out.trans (bb.mono L3.out.size));obtain ⟨xz,hxz⟩:∃q,W3.heap.size=q:=⟨_,rfl⟩;rw[hxz]at XZ4 ⊢;clear bb hxz L3;generalize W3.alloc (.cells #[.int .u8 3,.slice d1 0 k1,.slice d2 0 k2] 38)=W4 at *;have z0:=XZ4.out.cell (k:=0) rfl;have z1:=XZ4.out.cell (k:=1) rfl;simp only[List.getElem_toArray,List.getElem_cons_zero,List.getElem_cons_succ]at z0 z1
 go_wp2_with (go_at_call 5;(with_reducible refine (AW.out _).mono ?_);rintro e W5 ⟨rfl,bw⟩;have L5:=zZ (L4.out.trans (bw.mono L4.out.size));clear bw)
 go_ret
 exact ⟨by first|rfl|simp,L5.out⟩
theorem zMK (g:GG) (a1 a2 a3 a4:Option Addr) (c1 c2 c3 c4:Nat) (ap:Option Addr) (lp cp:Nat) (aq:Option Addr) (lq cq:Nat) (w:World) (h:UA w a1 a2 a3 a4 c3 c4 g) (hc:(yH g).code=0) (n:NN) (N:Nat) (hn:kG g=n) (hN:n.nodes=(N:Int)) (hk:zN n=0) (hb:kF n=false) (i:Nat) (hf:jB n.arcs (kM n)=some i):Calls Tryz.prog 3 #[.agg #[.string (yG g.name),.slice a1 g.A.length c1,.slice a2 g.E.length c2,.slice a3 g.ins.length c3,.slice a4 g.outs.length c4],.slice ap lp cp,.slice aq lq cq] w fun e w'=>e=.returned (.bool true)/\Below w.heap.size w w':=by
 have SO:Hid (∀ U d c,jE U d c n->Calls Tryz.prog 6 #[.agg #[.int .i64 (N:Int),.slice d n.arcs.length c]] U fun e w'=>∃d1 c1 d2 c2,e=.returned (.tuple #[.agg #[.int .u8 2,.slice d1 0 c1,.slice d2 (rJ n i).length c2],.int .i64 0])/\wT U.heap.size w' d2 c2 (rJ n i)/\Below U.heap.size U w'):=fun U d c hA=>by
  have q:=zYO hk hb hf d c U hA.lies (by have:=hA.room;omega);rw[hN]at q;exact q
 have CO:Hid (∀ U d c (d2:Option Addr) (cc:Nat),jE U d c n->wT 0 U d2 cc (rJ n i)->Calls Tryz.prog 7 #[.agg #[.int .i64 (N:Int),.slice d n.arcs.length c],.slice d2 (rJ n i).length cc] U fun e w'=>e=.returned (.int .i64 0)/\Below U.heap.size U w'):=fun U d c d2 cc hA hC=>by
  have q:=NY n d c (nH (rJ n i)) d2 cc U hA.lies (by have:=hA.room;omega) hC.at.toT (by rw[TJ];have:=zPO n i;omega) (by rw[TJ];exact hC.room.1);rw[zPP hk hf,TJ,hN]at q;exact q
 generalize rJ n i=C at *;have AW:=zZ TI;have b0:=(Below.refl w.heap.size w).alloc (Nat.le_refl _) (.cells #[.string (yG g.name),.slice a1 g.A.length c1,.slice a2 g.E.length c2,.slice a3 g.ins.length c3,.slice a4 g.outs.length c4] 26);have X0:=zZ (zV 26 w #[.string (yG g.name),.slice a1 g.A.length c1,.slice a2 g.E.length c2,.slice a3 g.ins.length c3,.slice a4 g.outs.length c4]);have B0:=zZ b0
 have OF:Hid (∀ U,Below w.heap.size w U->Calls Tryz.prog 4 #[.agg #[.string (yG g.name),.slice a1 g.A.length c1,.slice a2 g.E.length c2,.slice a3 g.ins.length c3,.slice a4 g.outs.length c4]] U fun e w'=>∃d c,e=.returned (.tuple #[.agg #[.int .i64 (N:Int),.slice d n.arcs.length c],.int .i64 0])/\jE w' d c n/\Below U.heap.size U w'):=fun U hb=>IM hc hn hN a1 a2 a3 a4 c1 c2 c3 c4 U (h.gr.below hb)
 have y0:=X0.out.cell (k:=0) rfl;have y1:=X0.out.cell (k:=1) rfl;have y2:=X0.out.cell (k:=2) rfl;have y3:=X0.out.cell (k:=3) rfl;have y4:=X0.out.cell (k:=4) rfl;simp only[List.getElem_toArray,List.getElem_cons_zero,List.getElem_cons_succ]at y0 y1 y2 y3 y4;clear b0 h hn
 go_enter Tryz.func3,Tryz.ntmps3
 go_upto_region 1 with fail
 generalize (w.alloc (.cells #[.string (yG g.name),.slice a1 g.A.length c1,.slice a2 g.E.length c2,.slice a3 g.ins.length c3,.slice a4 g.outs.length c4] 26))=W0 at *
 go_upto_region 2 with (go_at_call 4;(with_reducible refine (OF.out W0 B0.out).mono ?_);rintro e W1 ⟨d,c,rfl,q1,b1⟩;have A1:=zZ q1;have L1:=zZ (B0.out.trans (b1.mono B0.out.size));clear q1 b1)
 clear y0 y1 y2 y3 y4 OF X0 B0;have bb:=(Below.refl W1.heap.size W1).alloc (Nat.le_refl _) (.cells #[.int .i64 (N:Int),.slice d n.arcs.length c] 30);have XN2:=zZ (zV 30 W1 #[.int .i64 (N:Int),.slice d n.arcs.length c]);have A2:=zZ (A1.out.below bb);have L2:=zZ (L1.out.trans (bb.mono L1.out.size));obtain ⟨xn,hxn⟩:∃q,W1.heap.size=q:=⟨_,rfl⟩;rw[hxn]at XN2 ⊢;clear bb hxn L1 A1;generalize W1.alloc (.cells #[.int .i64 (N:Int),.slice d n.arcs.length c] 30)=W2 at *;have y0:=XN2.out.cell (k:=0) rfl;have y1:=XN2.out.cell (k:=1) rfl;simp only[List.getElem_toArray,List.getElem_cons_zero,List.getElem_cons_succ]at y0 y1
 go_upto_region 4 with fail
 go_upto_region 5 with (go_at_call 6;(with_reducible refine (SO.out W2 d c A2.out).mono ?_);rintro e W3 ⟨d1,k1,d2,k2,rfl,q3,b3⟩;have C3:=zZ (q3.mono (Nat.zero_le _));have XN3:=zZ (XN2.out.below b3);have A3:=zZ (A2.out.below b3);have L3:=zZ (L2.out.trans (b3.mono L2.out.size));clear b3 q3)
 clear y0 y1 SO XN2 A2;have bb:=(Below.refl W3.heap.size W3).alloc (Nat.le_refl _) (.cells #[.int .u8 2,.slice d1 0 k1,.slice d2 C.length k2] 38);have XZ4:=zZ (zV 38 W3 #[.int .u8 2,.slice d1 0 k1,.slice d2 C.length k2]);have XN4:=zZ (XN3.out.below bb);have A4:=zZ (A3.out.below bb);have C4:=zZ (C3.out.later bb);have L4:=zZ (L3.out.trans (bb.mono L3.out.size));obtain ⟨xz,hxz⟩:∃q,W3.heap.size=q:=⟨_,rfl⟩;rw[hxz]at XZ4 ⊢;clear bb hxz L3 XN3 A3 C3;generalize W3.alloc (.cells #[.int .u8 2,.slice d1 0 k1,.slice d2 C.length k2] 38)=W4 at *;have y0:=XN4.out.cell (k:=0) rfl;have y1:=XN4.out.cell (k:=1) rfl;have z0:=XZ4.out.cell (k:=0) rfl;have z2:=XZ4.out.cell (k:=2) rfl;simp only[List.getElem_toArray,List.getElem_cons_zero,List.getElem_cons_succ]at y0 y1 z0 z2
 go_wp2_with (first
  |(go_at_call 7;(with_reducible refine (CO.out W4 d c d2 k2 A4.out C4.out).mono ?_);rintro e W5 ⟨rfl,b5⟩;have L5:=zZ (L4.out.trans (b5.mono L4.out.size));clear b5)
  |(go_at_call 5;(with_reducible refine (AW.out _).mono ?_);rintro e W6 ⟨rfl,bw⟩;have L6:=zZ (L5.out.trans (bw.mono L5.out.size));clear bw))
 go_ret
 exact ⟨by first|rfl|simp,L6.out⟩
end Go.Proofs.YtpohmekkdjdhmaaGreat
