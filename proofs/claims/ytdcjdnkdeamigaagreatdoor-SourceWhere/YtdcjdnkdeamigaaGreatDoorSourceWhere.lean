/- SourceWhere: for every input the statement's function returns true and leaves what it was handed as it was; no condition (the variables that it lists are tied to the program's text). -/
import Derived.Test.YtdcjdnkdeamigaaGreatDoorPartQ
import Derived.Test.YtdcjdnkdeamigaaGreatDoorPartSourceWhere41
import Derived.Test.YtdcjdnkdeamigaaGreatDoorTie
import Derived.Test.YtdcjdnkdeamigaaGreatDoorCards
import Derived.LaidHandle
import Derived.ShutString
import Derived.ChangeOld
import Derived.Below
import Derived.SizedLaws
import Derived.ProofKit
import Derived.LaidMore
import Derived.OpenShut
import Derived.Stop.Joined
import Derived.Stop.LaidErr
import Derived.SevenTiedAt
import Derived.Lib.LaidTab
namespace Go.Proofs.YtdcjdnkdeamigaaGreatDoor
open Go Go.ChangeShapes Go.WideShapes Go.ChangeAt Go.RowKit Go.WideMaps Go.WideElems
open Go.ChangeMaps (open_string shut_string)
def wS:List (String × DataW Unit):=[("math/bits.deBruijn32tab",Rows.laid_math_bits_deBruijn32tab),("math/bits.deBruijn64tab",Rows.laid_math_bits_deBruijn64tab),("internal/strconv.uint64pow10",Rows.laid_internal_strconv_uint64pow10),("errors.errorType",Rows.laid_errors_errorType),("strconv.ErrRange",Rows.laid_strconv_ErrRange),("strconv.ErrSyntax",Rows.laid_strconv_ErrSyntax)]
theorem eD:ownKnob Tryz.prog.godebug=none:=by kernel_rfl
theorem lZ:Tryz.prog.globalNamed "strconv.ErrRange" =some 2:=by kernel_rfl
theorem fH:(Tryz.prog.globals[2]?).map (·.type)=some 28:=by kernel_rfl
theorem bE:Tryz.prog.cellsOf 271=1:=by kernel_rfl
theorem bD:Tryz.prog.cellsOf 9=1:=by kernel_rfl
theorem nK: "*" ++ "errors.errorString" = "*errors.errorString" :=by decide
theorem eC (u:TypeId) (h:Tryz.prog.typeName? 3 u=some "*errors.errorString"):u=269:=
 typeName_ptr_named (nm:= "errors.errorString") (by rw[nK];kernel_rfl) (by kernel_rfl) (by decide) u (by rw[nK];exact h)
theorem eB (os:Os) (args:Array Value):laidMetH Tryz.prog wS ((World.doorLaid Tryz.prog 400 os).forCall (fun _ _=>0) ⟨#[],args,[]⟩).memory:=
 laidMetH_of_parts3 (fuel:=8) (laidMet_of_run' 8 (by kernel_rfl) (by kernel_rfl)) (by kernel_rfl) (by kernel_rfl)
theorem sF {W:World} (h:laidMetH Tryz.prog wS W):laidMet Tryz.prog [("math/bits.deBruijn32tab",Rows.laid_math_bits_deBruijn32tab),("math/bits.deBruijn64tab",Rows.laid_math_bits_deBruijn64tab),("internal/strconv.uint64pow10",Rows.laid_internal_strconv_uint64pow10),("strconv.ErrRange",Rows.laid_strconv_ErrRange),("strconv.ErrSyntax",Rows.laid_strconv_ErrSyntax)] W/\handlesMet Tryz.prog [("errors.errorType",Rows.laid_errors_errorType)] W:=h
theorem eA {W:World} (h:laidMetH Tryz.prog wS W):sE W:=by
 replace h:=(sF h).1
 obtain ⟨a1,s1,hv1,-⟩:=laid_sentinel h.tail.tail.tail lZ fH Tryz.underlying28 eC Tryz.underlying269 Tryz.underlying271 rfl rfl Tryz.underlying9 bE bD;have h0:=World.var?_cell lZ hv1 0;exact ⟨_,_,by simpa using h0⟩
theorem dZ:(Rows.laid_internal_strconv_uint64pow10:DataW Unit)=Lib.tabData .u64 Lib.pow10Tab:=by kernel_rfl
theorem dY {W:World} (h:laidMetH Tryz.prog wS W):XO W.heap.size W:=by
 replace h:=(sF h).1
 have h2:=h.tail.tail;rw[dZ]at h2;exact Lib.tabBelow_of_tabIs (Lib.tabIs_of_head (g:=3) (t:=274) (e:=255) (n:=20) (by kernel_rfl) (by kernel_rfl) (by kernel_rfl) (by kernel_rfl) (by kernel_rfl) (by kernel_rfl) h2)
theorem bC:Tryz.prog.globalNamed "errors.errorType" =some 0:=by kernel_rfl
theorem bB:(Tryz.prog.cutTypes.find? (·.1== "internal/reflectlite.rtype")).map (·.2)=some 172:=by kernel_rfl
theorem fG:((List.range 307).filter fun t=>Tryz.prog.rowNamed t [101,114,114,111,114])=[28]:=by kernel_rfl
theorem gN:Tryz.prog.types.size=307:=by kernel_rfl
theorem fF {W:World} (h:laidMetH Tryz.prog wS W):gP W:=by
 obtain ⟨name,u,ty,e1,e2,e3,e4,e5⟩:=(sF h).2 _ (List.mem_singleton.2 rfl);have en:name=[101,114,114,111,114]:=(Option.some.inj e1).symm;subst en;obtain rfl:=Option.some.inj (bB.symm.trans e2)
 have hm:ty ∈ (List.range 307).filter fun t=>Tryz.prog.rowNamed t [101,114,114,111,114]:=List.mem_filter.2 ⟨List.mem_range.2 (by rw[<- gN];exact e3),e4⟩
 rw[fG]at hm;obtain rfl:=List.mem_singleton.1 hm
 have hh:typeHandle Tryz.prog 28=.pointer (some ⟨6,28,none⟩):=by kernel_rfl
 rw[hh]at e5;have q:=World.var?_cell bC e5 0;unfold gP
 simpa using q
set_option maxRecDepth 100000 in
theorem jA (os:Os) (started:os.Started) (H:Type) (enc:TypeId × Value->H):
 ReturnsInHanded {} Tryz.checked os 7 .any (fun w args=>(Rows.sourceWhereSpec.pre enc Tryz.prog Tryz.f7 [] false w args/\laidMetH Tryz.prog wS w)/\sizedMet enc Tryz.prog Tryz.f7 (OpenSpec.ofChange Rows.sourceWhereSpec) false w args) (Rows.sourceWhereSpec.post enc Tryz.prog Tryz.f7 false true false false):=by
 refine returnsInHanded_of_change_and (C:=Tryz.checked) (X:=fun w _=>laidMetH Tryz.prog wS w) (fun _ _ _ hh h=>h.of_heap hh) eD started (by kernel_rfl) Tryz.func7
  (ChangeSpec.witness_shaped (enc:=enc) (C:=Tryz.checked) (os:=os) (X:=fun w _=>laidMetH Tryz.prog wS w) false (World.doorLaid Tryz.prog 400 os) #[qE] 8 rfl (World.shaped_of_RefB (by kernel_rfl) (by kernel_rfl)) (by kernel_rfl) (by kernel_rfl) (by kernel_rfl) (eB os _)) ?_
 intro W base args ds gs before hval0 hW _ hsz0 hL _;have hsz:(DataW.weightsEach Tryz.prog (Tryz.f7.params.toList++Rows.sourceWhereSpec.plain.varTypes Tryz.prog) (ds++gs)).all (· <=reachBytes)=true:=hsz0;have hval:∀(j:Nat) t v,Tryz.f7.params[j]? =some t->args[j]? =some v->Value.okWide Tryz.prog W .any base t v:=hval0;have hW':=hW;obtain ⟨p,q,hA0,hV,rfl,hfz,hnd⟩:=hW';have hA:DataW.TrodAll enc Tryz.prog W 0 (fun _=>true) true Tryz.f7.params.toList args.toList ds p:=hA0;rw[Tryz.params7]at hA hval hsz;obtain ⟨v0,vs0,d0,ds0,p0,q0,hargs,rfl,rfl,h0,r0⟩:=trodAll_cons hA;obtain ⟨rfl,rfl,rfl⟩:=trodAll_nil r0
 obtain rfl:args=#[v0]:=by cases args;simp_all
 obtain ⟨rfl,rfl⟩:=trodVars_none hV;obtain ⟨s0,rfl,rfl,rfl,w0⟩:=open_string Tryz.underlying9 (hval 0 9 v0 rfl rfl) h0
 have z0:s0.data.toList.length<=140737488351232:=by
  have h1:=sized_string hsz (j:=0) (t:=9) rfl rfl;simp only[reachBytes]at h1;exact h1
 clear hA0 hval0
 refine (fI s0.data.toList W  (eA hL) (dY hL) (fF hL)).mono fun e W' ⟨he, bel⟩ => ?_
 subst he;exact ⟨_,rfl,_,_,_,[],_,[],hW,trodAll_mk1 (shut_bool Tryz.underlying4 _),(trodAll_cons_mk (shut_string Tryz.underlying9 w0) trodAll_mk0),rfl,bel.frame _,fun h=>by cases h⟩
theorem fE:Rows.SourceWhereSaid:=
 OpenClaim.holds_of_wide 7 Tryz.f7 rfl rfl rfl rfl rfl rfl rfl ⟨rfl,rfl,rfl,rfl,rfl⟩ rfl rfl rfl rfl rfl (by kernel_rfl) Tryz.func7 (by kernel_rfl)
  (of_decide_eq_true (by kernel_rfl)) (by unfold Func.isWrapper;first|(rw [if_pos (by decide +kernel)];kernel_rfl)|(rw [if_neg (by decide +kernel)];exact ⟨rfl,rfl⟩))
  (fun os started H enc _=>jA os started H enc)
theorem sourceWhere_holds:Rows.SourceWhereCardSaid:=
 Claim7.holds_tied_plain_at .later [] [.data,.data,.data,.handle,.sentinel,.sentinel] true (true, "49865d3b182c7e3080a2868a9a7cf652791a5fe058b1ccfa5f7581cf90898107") true
  fE (fun _ h=>by cases h) (by kernel_rfl) (fun _ h=>by cases h) sourceWhere_row_tie rfl ⟨rfl,rfl⟩ (by kernel_rfl) rfl
  (fun f fn hf hfn=>by
   obtain rfl:f=7:=Option.some.inj ((show Tryz.prog.funcNamed "pianola/pianolalaw09.SourceWhere" =some 7 by kernel_rfl).symm.trans hf) |>.symm;obtain rfl:fn=Tryz.f7:=(Option.some.inj (Tryz.func7.symm.trans hfn)).symm
   exact ⟨by kernel_rfl,fun j t ht=>by
    rw[Tryz.params7]at ht
    have hm:t ∈ [9]:=by simpa using Array.mem_of_getElem? ht
    have hall:([9].all fun u=> !Tryz.prog.wantsStandIn u)=true:=by kernel_rfl
    exact (show Tryz.prog.wantsStandIn t=false by simpa using List.all_eq_true.1 hall t hm)⟩)
  (by kernel_rfl)
#print axioms sourceWhere_holds
end Go.Proofs.YtdcjdnkdeamigaaGreatDoor
