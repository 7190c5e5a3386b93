/- Texts of one chain. -/
import Derived.Test.YtdcjdnkdeamigaaGreatDoorPartQ
import Derived.Test.YtdcjdnkdeamigaaGreatDoorPartSourceWhere31
import Derived.LaidEql
import Derived.Stop.Asserts
import Derived.RowKitTokens
namespace Go.Proofs.YtdcjdnkdeamigaaGreatDoor
open Go.ChangeShapes Go.WideShapes Go.ChangeAt Go.RowKit Go.Extern.Stop Go.Stop Go.Extern
theorem YJ (z:Sem Value) (f:TypeId->Addr->Nat->Nat->Sem Value) (v:Value):ReflectliteValue.method z f #[v]=(do match<-ReflectliteValue.parts v with|none=>z|some (t,a,fl)=>f t a fl (fl % 32)):=rfl
theorem BM (h:Value) (w:World):(Go.method 407 172 (.agg #[h]) "Kind").run Tryz.prog w=.ok (229,h) w:=by kernel_rfl
theorem BL (h:Value) (w:World):(Go.method 407 172 (.agg #[h]) "Elem").run Tryz.prog w=.ok (241,.agg #[h]) w:=by kernel_rfl
theorem BK (h:Value) (w:World):(Go.method 407 172 (.agg #[h]) "Implements").run Tryz.prog w=.ok (242,.agg #[h]) w:=by kernel_rfl
theorem BJ (h:Value) (w:World):(Go.method 407 172 (.agg #[h]) "AssignableTo").run Tryz.prog w=.ok (239,.agg #[h]) w:=by kernel_rfl
theorem voFP (t:Addr) (w:World):(ReflectliteValue.unpack (.iface 58 (.pointer (some t)))).run Tryz.prog w=.ok (.agg #[.pointer (some ⟨6,58,none⟩),(qP w.heap.size),.int .u64 150]) (w.alloc (.cells #[.pointer (some t)] 58)):=by kernel_rfl
theorem tyFP (a:Addr) (w:World):((ReflectliteValue.methodAny (ReflectliteValue.valueError "reflectlite.Value.Type" 0) (fun t _ _ _=>ReflectliteType.toType t)) #[.agg #[.pointer (some ⟨6,58,none⟩),.pointer (some a),.int .u64 150]]).run Tryz.prog w=.ok (.iface 172 (.agg #[.pointer (some ⟨6,58,none⟩)])) w:=by kernel_rfl
theorem kiFP (w:World):((ReflectliteType.abiMethod fun t=>(fun a:Nat=>Value.int IntKind.u8 (a:Int)) <$> Rtype.kind t) #[.pointer (some ⟨6,58,none⟩)]).run Tryz.prog w=.ok (.int .u8 22) w:=by kernel_rfl
theorem kiFT (w:World):((ReflectliteType.abiMethod fun t=>(fun a:Nat=>Value.int IntKind.u8 (a:Int)) <$> Rtype.kind t) #[.pointer (some ⟨6,33,none⟩)]).run Tryz.prog w=.ok (.int .u8 25) w:=by kernel_rfl
theorem paFP (a:Addr) (w:World):(ReflectliteValue.parts (.agg #[.pointer (some ⟨6,58,none⟩),.pointer (some a),.int .u64 150])).run Tryz.prog w=.ok (some (58,a,150)) w:=by kernel_rfl
theorem niFP (a p:Addr) (W:World) (ha:W.cell? a=some (.pointer (some p))):((ReflectliteValue.method (ReflectliteValue.valueError "reflectlite.Value.IsNil" 0) ReflectliteValue.isNil) #[.agg #[.pointer (some ⟨6,58,none⟩),.pointer (some a),.int .u64 150]]).run Tryz.prog W=.ok (.bool false) W:=by
 rw[YJ];simp only[Sem.run_bind,paFP,Result.andThen];simp[ReflectliteValue.isNil,loadVar,isAgg,underlying,Tryz.underlying58,ha,Result.andThen]
theorem elFP (w:World):((ReflectliteType.method ReflectliteType.elem) #[.agg #[.pointer (some ⟨6,58,none⟩)]]).run Tryz.prog w=.ok (.iface 172 (.agg #[.pointer (some ⟨6,33,none⟩)])) w:=by kernel_rfl
theorem imFT (w:World):((ReflectliteType.relation "Implements" ReflectliteType.implements_) #[.agg #[.pointer (some ⟨6,33,none⟩)],.iface 172 (.agg #[.pointer (some ⟨6,28,none⟩)])]).run Tryz.prog w=.ok (.bool true) w:=by kernel_rfl
theorem toFT (v:Value) (w:World):(ReflectliteType.typeOf #[.iface 33 v]).run Tryz.prog w=.ok (.iface 172 (.agg #[.pointer (some ⟨6,33,none⟩)])) w:=by kernel_rfl
theorem asFT (w:World):((ReflectliteType.relation "AssignableTo" ReflectliteType.assignableTo) #[.agg #[.pointer (some ⟨6,33,none⟩)],.iface 172 (.agg #[.pointer (some ⟨6,33,none⟩)])]).run Tryz.prog w=.ok (.bool true) w:=by kernel_rfl
theorem voFT (c p:Int) (w:World):(ReflectliteValue.unpack (.iface 33 (.agg #[.int .i64 c,.int .i64 p]))).run Tryz.prog w=.ok (.agg #[.pointer (some ⟨6,33,none⟩),(qP w.heap.size),.int .u64 153]) (w.alloc (.cells #[.int .i64 c,.int .i64 p] 33)):=by kernel_rfl
theorem eoFP (w:World):(Rtype.elem? 58).run Tryz.prog w=.ok (some 33) w:=by kernel_rfl
theorem mkFT (p:Addr) (w:World):(ReflectliteValue.mk 33 p ReflectliteValue.flagAddr).run Tryz.prog w=.ok (.agg #[.pointer (some ⟨6,33,none⟩),.pointer (some p),.int .u64 409]) w:=by kernel_rfl
theorem evFP (a p:Addr) (W:World) (ha:W.cell? a=some (.pointer (some p))):((ReflectliteValue.method (ReflectliteValue.valueError "reflectlite.Value.Elem" 0) ReflectliteValue.elem) #[.agg #[.pointer (some ⟨6,58,none⟩),.pointer (some a),.int .u64 150]]).run Tryz.prog W=.ok (.agg #[.pointer (some ⟨6,33,none⟩),.pointer (some p),.int .u64 409]) W:=by
 rw[YJ];simp only[Sem.run_bind,paFP,Result.andThen];simp[ReflectliteValue.elem,loadVar,isAgg,underlying,Tryz.underlying58,ha,Result.andThen,eoFP,mkFT]
theorem pdFT (a:Addr) (w:World):(ReflectliteValue.parts (.agg #[.pointer (some ⟨6,33,none⟩),.pointer (some a),.int .u64 409])).run Tryz.prog w=.ok (some (33,a,409)) w:=by kernel_rfl
theorem psFT (a:Addr) (w:World):(ReflectliteValue.parts (.agg #[.pointer (some ⟨6,33,none⟩),.pointer (some a),.int .u64 153])).run Tryz.prog w=.ok (some (33,a,153)) w:=by kernel_rfl
theorem diFT (w:World):(Rtype.directlyAssignable 33 33).run Tryz.prog w=.ok true w:=by kernel_rfl
theorem BH (v x:Value):ReflectliteValue.set #[v,x]=(do
 let (some (dst,a,fl),some (src,b,_)):=(<- ReflectliteValue.parts v,<-ReflectliteValue.parts x)
  |unsupported (.noEntry "extern/(internal/reflectlite.Value).Set.zeroValue")
 if fl / ReflectliteValue.flagAddr % 2==0 then unsupported (.noEntry "extern/(internal/reflectlite.Value).Set.unaddressable")
 let val<-loadVar src b
 if<-Rtype.directlyAssignable dst src then storeVar dst a val
 else if<-Rtype.implements dst src then
  if (<- Rtype.kind src)==20 then
   match val with
   |.nilIface=>unsupported (.noEntry "extern/reflectlite: a nil value of one interface type handed on as a value of another")
   |_=>storeVar dst a val
  else storeVar dst a (.iface src val)
 else panicString ("reflectlite.Set: value of type " ++(<- Rtype.spelt src)++ " is not assignable to type " ++(<- Rtype.spelt dst))
 pure (.tuple #[])):=rfl
def gP (w:World):Prop:=w.cell? ⟨0,0,none⟩=some (.iface 172 (.agg #[.pointer (some ⟨6,28,none⟩)]))
theorem gP.below {w w':World} (h:gP w) (hb:Below w.heap.size w w'):gP w':=by
 have hl:=block_lt_of_cell h;have e:=hb.block 0 hl;unfold gP World.cell? at *;rw[e];exact h
theorem gP.lt {w:World} (h:gP w):0<w.heap.size:=block_lt_of_cell h
theorem seFT (tb bb:Nat) (c p:Int) (old:Array Value) (W:World) (hb:zD 33 bb W #[.int .i64 c,.int .i64 p]) (ht:zD 33 tb W old) (ho:old.size=2):(ReflectliteValue.set #[.agg #[.pointer (some ⟨6,33,none⟩),(qP tb),.int .u64 409],.agg #[.pointer (some ⟨6,33,none⟩),(qP bb),.int .u64 153]]).run Tryz.prog W=.ok (.tuple #[]) (W.setRow tb #[.int .i64 c,.int .i64 p]):=by
 have hl:=run_loadVar_row (P:=Tryz.prog) W bb 33 33 #[.int .i64 c,.int .i64 p] (0,0) _ hb Tryz.underlying33 rfl MF;have hs:=run_storeVar_row (P:=Tryz.prog) W tb 33 33 old #[.int .i64 c,.int .i64 p] ht MF ho (by rw[<- Array.all_toList];rfl);rw[BH];simp only[Sem.run_bind,pdFT,psFT,Result.andThen];simp[ReflectliteValue.flagAddr,hl,hs,diFT,Result.andThen]
set_option maxRecDepth 100000 in
set_option maxHeartbeats 8000000 in
theorem BG (b:Nat) (c p:Int) (old:Array Value) (w:World) (hg:gP w) (ht:zD 33 b w old) (ho:old.size=2):
 Calls Tryz.prog 27 #[.iface 33 (.agg #[.int .i64 c,.int .i64 p]),.iface 58 (qP b)] w fun ev w'=>ev=.returned (.bool true)/\w'=((((w.alloc (.cells #[(qP b)] 58)).alloc (.cells #[.pointer (some ⟨6,58,none⟩),(qP w.heap.size),.int .u64 150] 119)).alloc (.cells #[.pointer (some ⟨6,58,none⟩),(qP w.heap.size),.int .u64 150] 119)).alloc (.cells #[.int .i64 c,.int .i64 p] 33)).setRow b #[.int .i64 c,.int .i64 p]:=by
 have x0:=@run_callFunc_extern Tryz.prog 60 _ (fun args=>ReflectliteValue.unpack (args.getD 0 (.tuple #[]))) Tryz.func60 (by kernel_rfl) (by kernel_rfl) (by kernel_rfl) (by kernel_rfl);have x1:=@run_callFunc_extern Tryz.prog 61 _ (ReflectliteValue.methodAny (ReflectliteValue.valueError "reflectlite.Value.Type" 0) (fun t _ _ _=>ReflectliteType.toType t)) Tryz.func61 (by kernel_rfl) (by kernel_rfl) (by kernel_rfl) (by kernel_rfl);have x2:=@run_callFunc_extern Tryz.prog 62 _ (ReflectliteValue.method (ReflectliteValue.valueError "reflectlite.Value.IsNil" 0) ReflectliteValue.isNil) Tryz.func62 (by kernel_rfl) (by kernel_rfl) (by kernel_rfl) (by kernel_rfl);have x3:=@run_callFunc_extern Tryz.prog 229 _ (ReflectliteType.abiMethod fun t=>do pure (.int .u8 (<- Rtype.kind t))) Tryz.func229 (by kernel_rfl) (by kernel_rfl) (by kernel_rfl) (by kernel_rfl);have x4:=@run_callFunc_extern Tryz.prog 241 _ (ReflectliteType.method ReflectliteType.elem) Tryz.func241 (by kernel_rfl) (by kernel_rfl) (by kernel_rfl) (by kernel_rfl);have x5:=@run_callFunc_extern Tryz.prog 242 _ (ReflectliteType.relation "Implements" ReflectliteType.implements_) Tryz.func242 (by kernel_rfl) (by kernel_rfl) (by kernel_rfl) (by kernel_rfl);have x6:=@run_callFunc_extern Tryz.prog 106 _ ReflectliteType.typeOf Tryz.func106 (by kernel_rfl) (by kernel_rfl) (by kernel_rfl) (by kernel_rfl);have x7:=@run_callFunc_extern Tryz.prog 239 _ (ReflectliteType.relation "AssignableTo" ReflectliteType.assignableTo) Tryz.func239 (by kernel_rfl) (by kernel_rfl) (by kernel_rfl) (by kernel_rfl);have x8:=@run_callFunc_extern Tryz.prog 107 _ (ReflectliteValue.method (ReflectliteValue.valueError "reflectlite.Value.Elem" 0) ReflectliteValue.elem) Tryz.func107 (by kernel_rfl) (by kernel_rfl) (by kernel_rfl) (by kernel_rfl);have x9:=@run_callFunc_extern Tryz.prog 108 _ ReflectliteValue.set Tryz.func108 (by kernel_rfl) (by kernel_rfl) (by kernel_rfl) (by kernel_rfl);have m1:=BM;have m2:=BL;have m3:=BK;have m4:=BJ;have c1:=voFP;have c2:=tyFP;have c3:=kiFP;have c4:=kiFT;have c5:=elFP;have c6:=imFT;have c7:=toFT;have c8:=asFT;have c9:=voFT;have hlt:=hg.lt;have b1:=(Below.refl w.heap.size w).alloc (Nat.le_refl _) (.cells #[(qP b)] 58);have b2:=(Below.refl _ _).alloc (Nat.le_refl _) (.cells #[.pointer (some ⟨6,58,none⟩),(qP w.heap.size),.int .u64 150] 119) (w:=w.alloc (.cells #[(qP b)] 58));have b3:=(Below.refl _ _).alloc (Nat.le_refl _) (.cells #[.pointer (some ⟨6,58,none⟩),(qP w.heap.size),.int .u64 150] 119) (w:=(w.alloc (.cells #[(qP b)] 58)).alloc (.cells #[.pointer (some ⟨6,58,none⟩),(qP w.heap.size),.int .u64 150] 119));have b4:=(Below.refl _ _).alloc (Nat.le_refl _) (.cells #[.int .i64 c,.int .i64 p] 33) (w:=((w.alloc (.cells #[(qP b)] 58)).alloc (.cells #[.pointer (some ⟨6,58,none⟩),(qP w.heap.size),.int .u64 150] 119)).alloc (.cells #[.pointer (some ⟨6,58,none⟩),(qP w.heap.size),.int .u64 150] 119));have q1:=zL 58 w #[(qP b)];have n8:=niFP ⟨w.heap.size,0,none⟩ ⟨b,0,none⟩ ((w.alloc (.cells #[(qP b)] 58)).alloc (.cells #[.pointer (some ⟨6,58,none⟩),(qP w.heap.size),.int .u64 150] 119)) ((q1.below b2).cell rfl);have g2:((w.alloc (.cells #[(qP b)] 58)).alloc (.cells #[.pointer (some ⟨6,58,none⟩),(qP w.heap.size),.int .u64 150] 119)).cell? ⟨0,0,none⟩=some (.iface 172 (.agg #[.pointer (some ⟨6,28,none⟩)])):=(hg.below b1).below b2;have el:=evFP ⟨w.heap.size,0,none⟩ ⟨b,0,none⟩ (((w.alloc (.cells #[(qP b)] 58)).alloc (.cells #[.pointer (some ⟨6,58,none⟩),(qP w.heap.size),.int .u64 150] 119)).alloc (.cells #[.pointer (some ⟨6,58,none⟩),(qP w.heap.size),.int .u64 150] 119)) (((q1.below b2).below b3).cell rfl);have k4:=zL 33 (((w.alloc (.cells #[(qP b)] 58)).alloc (.cells #[.pointer (some ⟨6,58,none⟩),(qP w.heap.size),.int .u64 150] 119)).alloc (.cells #[.pointer (some ⟨6,58,none⟩),(qP w.heap.size),.int .u64 150] 119)) #[.int .i64 c,.int .i64 p];rw[World.size_alloc,World.size_alloc,World.size_alloc]at k4;have t4:=(((ht.below b1).below b2).below b3).below b4;have st:=seFT b (w.heap.size+1+1+1) c p old ((((w.alloc (.cells #[(qP b)] 58)).alloc (.cells #[.pointer (some ⟨6,58,none⟩),(qP w.heap.size),.int .u64 150] 119)).alloc (.cells #[.pointer (some ⟨6,58,none⟩),(qP w.heap.size),.int .u64 150] 119)).alloc (.cells #[.int .i64 c,.int .i64 p] 33)) k4 t4 ho;clear b1 b2 b3 b4 q1 k4 t4 ht hg ho
 go_enter Tryz.func27,Tryz.ntmps27
 go_wp2
 refine wp_loop_rounds 1 ?_
 rw[rounds_succ]
 go_wp2
 go_ret
 exact ⟨rfl,rfl⟩
end Go.Proofs.YtdcjdnkdeamigaaGreatDoor
