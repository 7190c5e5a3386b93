/- Texts of one chain. -/
import Derived.Test.YtdcjdnkdeamigaaGreatDoorPartQ
import Derived.Test.YtdcjdnkdeamigaaGreatDoorPartSourceWhere19
import Derived.Test.YtdcjdnkdeamigaaGreatDoorShelfB
import Derived.Lib.Builder
import Derived.Lib.AppendStr
import Derived.Laws.Externs
set_option maxRecDepth 100000
set_option maxHeartbeats 1000000
namespace Go.Proofs.YtdcjdnkdeamigaaGreatDoor
open Go.ChangeShapes Go.WideShapes Go.ChangeAt Go.RowKit
theorem NI {base:Nat} {w:World} {e:TypeId} {size n:Nat} {v:Value} {xs:List Value} (h:w.ownsRow base e size v n xs):∃ao n' cap,v=.slice ao n' cap:=by
 rcases h.2 with ⟨hv,_⟩|⟨g,cap,cur,hv,_⟩
 ·exact ⟨_,_,_,hv⟩
 exact ⟨_,_,_,hv⟩
theorem NH {base:Nat} {w:World} {size n:Nat} {v:Value} {xs:List Value} (h:w.ownsRow base 5 size v n xs) {T:TypeId} {k:Nat} {cs:Array Value} (hT:T≠5) (hk:xZ T k w cs):v.ownBlock≠some k:=by
 rcases h.2 with ⟨rfl,-⟩|⟨g,c,cur,rfl,-,hh,-⟩
 ·intro e;cases e
 intro e;have e2:g=k:=Option.some.inj e;subst e2;unfold xZ at hk;rw[hh]at hk
 injection hk with hk
 injection hk with _ hk
 exact hT hk.symm
theorem Tryz.sizeBU:(Tryz.prog.info? 187).map (·.size)=some 2:=by kernel_rfl
theorem Tryz.liesBU:liesAt Tryz.prog Tryz.prog.depth 187 (2 / Tryz.prog.cellsOf 187) 0 187 1=true:=by kernel_rfl
theorem Tryz.infoB5:(Tryz.prog.info? 5).map (fun i=>(i.zero,i.size,i.bytes))=some (some (.int .u8 0),1,1):=by kernel_rfl
theorem RV (b:Nat) (w:World) (h0:w.cell? ⟨b,0,none⟩=some (qP b)):
 Calls Tryz.prog 156 #[(qP b)] w fun e w'=>e=.returned (.tuple #[])/\w'=w:=by
 obtain ⟨j,hj,_⟩:=Option.map_eq_some_iff.1 Tryz.sizeBU
 go_enter Tryz.func156,Tryz.ntmps156
 go_wp2
 first|(rw [Lib.run_neq_ptr_same w _ Tryz.underlying185 hj];go_wp2)|skip
 go_end0
 exact ⟨rfl,rfl⟩
theorem VM (b:Nat) (w:World) (h0:w.cell? ⟨b,0,none⟩=some (.pointer none)) (hsh:w.shape? b=some (187,2)) (hfz:w.frozen? ⟨b,0,none⟩=false):
 Calls Tryz.prog 156 #[(qP b)] w fun e w'=>e=.returned (.tuple #[])/\w'=w.setCell ⟨b,0,none⟩ (qP b):=by
 obtain ⟨j,hj,hjs⟩:=Option.map_eq_some_iff.1 Tryz.sizeBU
 go_enter Tryz.func156,Tryz.ntmps156
 go_wp2
 rw[Lib.run_to_unsafe w ⟨b,0,none⟩ Tryz.underlying185 Tryz.underlying116 hj (by rw[hjs];decide) hsh (Nat.zero_lt_succ 1)];simp only[Result.andThen];rw[Oper.upon_value]
 go_wp2
 rw[run_callFunc_extern Tryz.func174 (by kernel_rfl) (by kernel_rfl) (by kernel_rfl) (e:=Extern.AbiNoEscape.same) (by kernel_rfl)];rw[Lib.run_noEscape];simp only[Result.andThen];rw[Oper.upon_value]
 go_wp2
 rw[Lib.run_from_unsafe w ⟨b,0,none⟩ Tryz.underlying116 Tryz.underlying185 hj hsh Tryz.liesBU];simp only[Result.andThen];rw[Oper.upon_value]
 go_wp2
 go_end0
 exact ⟨rfl,rfl⟩
def uY (w w':World):Prop:=∀(k:Nat) (T:TypeId) (cs:Array Value),T≠5->T≠187->xZ T k w cs->xZ T k w' cs
theorem uY.refl (w:World):uY w w:=fun _ _ _ _ _ h=>h
theorem uY.trans {w w1 w2:World} (h:uY w w1) (h2:uY w1 w2):uY w w2:=fun k T cs a b q=>h2 k T cs a b (h k T cs a b q)
theorem vK {w w':World} (h:Below w.heap.size w w'):uY w w':=fun _ _ _ _ _ q=>q.below h
theorem ZJ {w:World} {b k:Nat} {p v:Value} (u:Value) (hb:w.heap[b]? =some (.cells #[p,v] 187 (0,0))):uY w (w.setCell ⟨b,k,none⟩ u):=fun j T cs _ h2 q=>q.other (fun e=>by
 subst e;unfold xZ at q;rw[hb]at q
 injection q with q
 injection q with _ q
 exact h2 q.symm) u
theorem VL (B b:Nat) (bs:List Value) (w:World) (h:Lib.IsBuilder 187 5 B b bs w):
 Calls Tryz.prog 156 #[(qP b)] w fun e w'=>e=.returned (.tuple #[])/\(Lib.BuilderAt 187 5 B b (qP b) bs w'/\Below B w w'/\uY w w'):=by
 rcases h with h|h
 ·refine (VM b w h.cell0 h.shape h.frozen0).mono ?_
  rintro e w' ⟨rfl,rfl⟩
  obtain ⟨-,v,hbk,-⟩:=id h;exact ⟨rfl,h.used _,(Below.refl B w).setCell (p:=⟨b,0,none⟩) h.1 _,ZJ _ hbk⟩
 refine (RV b w h.cell0).mono ?_
 rintro e w' ⟨rfl,rfl⟩
 exact ⟨rfl,h,Below.refl _ _,uY.refl _⟩
theorem eT (B b:Nat) (bs:List Value) (s:ByteArray) (w:World) (h:Lib.IsBuilder 187 5 B b bs w) (hlen:bs.length+s.size<=140737488355328) (hBw:B<=w.heap.size):
 Calls Tryz.prog 112 #[(qP b),.string s] w fun e w'=>e=.returned (.tuple #[.int .i64 s.size,.nilIface])/\(Lib.BuilderAt 187 5 B b (qP b) (bs++Lib.strCells s) w'/\Below B w w'/\uY w w'):=by
 obtain ⟨i0,hi,hz0,hz1,hz2⟩:=info_parts Tryz.infoB5;have HC:=zY (VL B b bs w h);clear h
 go_enter Tryz.func112,Tryz.ntmps112
 go_wp2_with (first
  |(at_builtin;refine Lib.wpList_append_own_string _ rfl _ _ 134 9 rfl B 5 i0 Tryz.underlying134 Tryz.underlying9 hi hz0 hz1 hz2 _ _ _ rfl hown s rfl (by unfold maxLen;omega) (by omega) (by have:=hb1.size;omega) ?_;intro v' w2 hown' hgrow _;have hb2:w2.heap[b]? =some (.cells #[(qP b),v] 187 (0,0)):=by { rw[hgrow.block b hlt (fun e=>hne e.symm)];exact hbk };have d0:w2.cell? ⟨b,0,none⟩=some (qP b):=by { rw[Lib.cell_of_heap hb2];rfl };have d1:w2.cell? ⟨b,1,none⟩=some v:=by { rw[Lib.cell_of_heap hb2];rfl };have f1:w2.frozen? ⟨b,1,none⟩=false:=Lib.frozen_of_heap hb2 1;obtain ⟨ao,n',cap,rfl⟩:∃ao n' cap,v'=.slice ao n' cap:=NI hown')
  |(go_at_call 156;refine HC.out.mono ?_;rintro e w1 ⟨rfl,h1,hb1,hk1⟩;have HK1:=zY hk1;clear hk1;have hlt:=h1.lt;obtain ⟨hB,v,hbk,hown,hne⟩:=h1;have c0:w1.cell? ⟨b,0,none⟩=some (qP b):=by { rw[Lib.cell_of_heap hbk];rfl };have c1:w1.cell? ⟨b,1,none⟩=some v:=by { rw[Lib.cell_of_heap hbk];rfl }))
 go_ret2
 refine ⟨rfl,?_,?_,?_⟩
 ·exact Lib.BuilderAt.put (T:=187) (e:=5) hB hb2 (bs':=bs++Lib.strCells s) (by simpa [Lib.strCells_length] using hown') (by decide)
 ·exact (hb1.grown hgrow (by have:=hb1.size;omega) (fun k hk=>(hown.lt k hk).1)).setCell (p:=⟨b,1,none⟩) hB _
 refine HK1.out.trans (uY.trans (w1:=w2) (fun k T cs h5 hb q=>?_) (ZJ _ hb2))
 exact q.grown hgrow (fun e=>NH hown h5 q e.symm)
end Go.Proofs.YtdcjdnkdeamigaaGreatDoor
