/- Facts that are used often. -/
import Derived.Test.YtdcjdnkdeamigaaGreatDoorRows
import Derived.Below
import Derived.Deep.LoopGhost
import Derived.Deep.DeepCutAuto
import Derived.RowKit
import Derived.WalkKit
import Derived.ProofKit
import Derived.OpenShut
import Derived.BigQuiet
import Derived.Outline
import Derived.StillTail
import Derived.Laws.AppendOwnNone
import Derived.SizedLaws
import Derived.Laws.OwnMore
namespace Go.Proofs.YtdcjdnkdeamigaaGreatDoor
open Go.ChangeShapes Go.WideShapes Go.ChangeAt Go.RowKit
theorem qS {α :Type} :(∀ (xs:List α) (i:Nat),xs.toArray[i]? =xs[i]?) ∧ (∀ (a: α) (l:List α),(a::l)[0]? =some a) ∧ (∀ (a: α) (l:List α) (i:Nat),(a::l)[i+1]? =l[i]?) ∧ (∀ a b: α,(some a=some b)=(a=b)):=⟨fun _ _=>List.getElem?_toArray,fun _ _=>List.getElem?_cons_zero,fun _ _ _=>List.getElem?_cons_succ,fun a b=>Option.some.injEq a b⟩
theorem qU {α :Type} :(∀ (l:List α) (i:Nat) (a: α),l.toArray.setIfInBounds i a=(l.set i a).toArray) ∧ (∀ (a b: α) (l:List α),(a::l).set 0 b=b::l) ∧ (∀ (a b: α) (l:List α) (i:Nat),(a::l).set (i+1) b=a::l.set i b):=⟨fun _ _ _=>List.setIfInBounds_toArray _ _ _,fun _ _ _=>List.set_cons_zero,fun _ _ _ _=>List.set_cons_succ⟩
theorem qF {p:Prop} (hw:true=false):p:=absurd hw (by decide)
theorem qD {p q:Prop} [Decidable p] (h:p) (hd:decide p=false:=by decide):q:=absurd h (of_decide_eq_false hd)
theorem qB {w:World} {α :Type} {v: α} :Below w.heap.size w w ∧ v=v:=⟨Below.refl _ _,rfl⟩
theorem qH {A:Nat → Bool} {B:Nat → Option Nat} {S:Nat → Nat → Prop} (h:∀j t,A j=true → B j=some t → S j t) (j t:Nat) (h1:A j=true:=by kernel_rfl) (h2:B j=some t:=by kernel_rfl):S j t:=h j t h1 h2
theorem qR {A:Nat → Bool} {S:Nat → Prop} (h:∀t,A t=true → S t) (t:Nat) (h1:A t=true:=by kernel_rfl):S t:=h t h1
theorem qC {T:TypeId} {n:Nat} {w:World} {cs:Array Value} (h:w.heap[n]? =some (.cells cs T (0,0))) {k:Nat} {x:Value} (hk:cs[k]? =some x):w.cell? ⟨n,k,none⟩=some x:=by
 unfold World.cell?;simp only[h]
 simpa using hk
theorem qC5 {T:TypeId} {n:Nat} {w:World} {x0 x1 x2 x3 x4:Value} (h:w.heap[n]? =some (.cells #[x0,x1,x2,x3,x4] T (0,0))):w.cell? ⟨n,0,none⟩=some x0 ∧ w.cell? ⟨n,1,none⟩=some x1 ∧ w.cell? ⟨n,2,none⟩=some x2 ∧ w.cell? ⟨n,3,none⟩=some x3 ∧ w.cell? ⟨n,4,none⟩=some x4:=⟨qC h rfl,qC h rfl,qC h rfl,qC h rfl,qC h rfl⟩
theorem qC11 {T:TypeId} {n:Nat} {w:World} {x0 x1 x2 x3 x4 x5 x6 x7 x8 x9 x10:Value} (h:w.heap[n]? =some (.cells #[x0,x1,x2,x3,x4,x5,x6,x7,x8,x9,x10] T (0,0))):w.cell? ⟨n,0,none⟩=some x0 ∧ w.cell? ⟨n,1,none⟩=some x1 ∧ w.cell? ⟨n,2,none⟩=some x2 ∧ w.cell? ⟨n,3,none⟩=some x3 ∧ w.cell? ⟨n,4,none⟩=some x4 ∧ w.cell? ⟨n,5,none⟩=some x5 ∧ w.cell? ⟨n,6,none⟩=some x6 ∧ w.cell? ⟨n,7,none⟩=some x7 ∧ w.cell? ⟨n,8,none⟩=some x8 ∧ w.cell? ⟨n,9,none⟩=some x9 ∧ w.cell? ⟨n,10,none⟩=some x10:=⟨qC h rfl,qC h rfl,qC h rfl,qC h rfl,qC h rfl,qC h rfl,qC h rfl,qC h rfl,qC h rfl,qC h rfl,qC h rfl⟩
abbrev qP (x:Nat):Value:=.pointer (some ⟨x,0,none⟩)
abbrev qN:Value:=.slice none 0 0
abbrev qE:Value:=.string ⟨#[]⟩
abbrev qI:Array Value:=#[.int .u8 0,.string ⟨#[]⟩,.string ⟨#[]⟩,.slice none 0 0,.string ⟨#[]⟩,.int .i64 0,.int .i64 0,.string ⟨#[]⟩,.int .i64 0,.int .i64 0,.int .i64 0]
end Go.Proofs.YtdcjdnkdeamigaaGreatDoor
