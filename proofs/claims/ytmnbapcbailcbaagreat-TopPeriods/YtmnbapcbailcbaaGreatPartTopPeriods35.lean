/- Texts of one chain, laid one behind the other. -/
import Derived.Test.YtmnbapcbailcbaaGreatPartTopPeriods32
import Derived.Test.YtmnbapcbailcbaaGreatPartTopPeriods33
import Derived.Test.YtmnbapcbailcbaaGreatPartTopPeriods3
import Derived.Test.YtmnbapcbailcbaaGreatPartTopPeriods30
namespace Go.Proofs.YtmnbapcbailcbaaGreat
open Go.ChangeShapes Go.WideShapes Go.ChangeAt Go.RowKit
def CopS (V : World) (zs : List Int) (u : World) (v : Value) : Prop := ∃ a c, v = .slice a zs.length c ∧ CapR V.heap.size u a c zs
theorem CopS.later {V u u' : World} {zs : List Int} {v : Value} (h : CopS V zs u v) (hb : Below u.heap.size u u') : CopS V zs u' v := by
  obtain ⟨a, c, h1, h2⟩ := h
  exact ⟨a, c, h1, h2.later hb⟩
/-- An item's value; its numbers are new since V. -/
def ItV (V : World) (x : Itm) (u : World) (v : Value) : Prop := ∃ a c, v = .agg (itC x.kind x.name x.tag (.slice a x.nums.length c) x.frm x.tgt x.place) ∧ CapR V.heap.size u a c x.nums
def ItC (V : World) (x : Itm) (u : World) (v : Value) : Prop := ∃ h a c, v = .slice (some ⟨h, 0, none⟩) 1 1 ∧ (∀ k y, (itP (x, .slice a x.nums.length c))[k]? = some y → u.cell? ⟨h, k, none⟩ = some y) ∧ CapR V.heap.size u a c x.nums
theorem ItV.later {V u u' : World} {x : Itm} {v : Value} (h : ItV V x u v) (hb : Below u.heap.size u u') : ItV V x u' v := by
  obtain ⟨a, c, h1, h2⟩ := h
  exact ⟨a, c, h1, h2.later hb⟩
theorem ItC.later {V u u' : World} {x : Itm} {v : Value} (h : ItC V x u v) (hb : Below u.heap.size u u') : ItC V x u' v := by
  obtain ⟨g, a, c, h1, h2, h3⟩ := h
  exact ⟨g, a, c, h1, fun k y hy => cell_keep hb (h2 k y hy), h3.later hb⟩
/-- The last number that a name has in a row of names; -1: none. -/
def numG : List (List UInt8) → Nat → Int → List UInt8 → Int
  | [], _, d, _ => d
  | n :: r, i, d, x => numG r (i + 1) (if n = x then (i : Int) else d) x
def numL (ns : List (List UInt8)) (x : List UInt8) : Int := numG ns 0 (-1) x
def kindF (k : Int) (L : List Itm) : List Itm := L.filter (fun x => decide (x.kind = k))
def luA (x : Itm) : GA := ⟨x.name, (tagS x.tag).1, x.nums⟩
def luE (ns : List (List UInt8)) (x : Itm) : GE := ⟨numL ns x.frm.name, x.frm.port, numL ns x.tgt.name, x.tgt.port, x.nums⟩
def luI (ns : List (List UInt8)) (x : Itm) : GP := ⟨x.name, numL ns x.tgt.name, x.tgt.port⟩
def luO (ns : List (List UInt8)) (x : Itm) : GP := ⟨x.name, numL ns x.frm.name, x.frm.port⟩
theorem kindF_len (k : Int) (L : List Itm) : (kindF k L).length ≤ L.length := List.length_filter_le _ _
end Go.Proofs.YtmnbapcbailcbaaGreat
