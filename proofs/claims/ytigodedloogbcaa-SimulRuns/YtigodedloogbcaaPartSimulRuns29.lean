/- Texts of one chain, laid one behind the other. -/
import Derived.Test.YtigodedloogbcaaPartSimulRuns24
import Derived.Test.YtigodedloogbcaaPartSimulRuns3
import Derived.Deep.LoopGhost
import Derived.Deep.DeepCutAuto
namespace Go.Proofs.Ytigodedloogbcaa
open Go.ChangeShapes Go.WideShapes Go.ChangeAt Go.RowKit
/-- A row of its own, of these numbers. -/
def natRow (w : World) (g : Nat) (ns : List Nat) : Prop := w.rowIs g 3 ns.length (fun i => .int .i64 ((ns.getD i 0 : Nat) : Int))
theorem natRow.later {w w' : World} {g : Nat} {ns : List Nat} (h : natRow w g ns) (hb : Below w.heap.size w w') : natRow w' g ns := h.of_block (hb.block g h.lt)
theorem up_get {ns : List Nat} {i : Nat} : nth (up ns) i = ((ns.getD i 0 : Nat) : Int) := by
  unfold nth up
  rw [List.getD_eq_getElem?_getD, List.getD_eq_getElem?_getD, List.getElem?_map]
  cases ns[i]? <;> rfl
theorem natRow.rowIs {w : World} {g len : Nat} {ns : List Nat} (hl : ns.length = len) (h : natRow w g ns) : w.rowIs g 3 len (fun i => .int .i64 (nth (up ns) i)) := by
  unfold natRow at h
  rw [hl] at h
  exact h.congr fun i _ => by show _ = Value.int .i64 (nth (up ns) i); rw [up_get]
theorem natRow.at {w : World} {g : Nat} {ns : List Nat} (h : natRow w g ns) : At w (some ⟨g, 0, none⟩) (up ns) := row_at (len := ns.length) (up_len ns) (h.rowIs rfl)
/-- The error, and the two lists that are left. -/
def cE (xs ys : List Int) : Int := if 1024 < xs.length ∨ 1024 < ys.length then 2 else if (posB xs && posB ys) = true then 0 else 1
def cA (xs ys : List Int) : List Int := if cE xs ys = 0 then up (redP (nats xs) (nats ys)) else []
theorem OwnS.at {base : Nat} {w : World} {a : Option Addr} {n cap : Nat} {zs : List Int} (h : OwnS base w a n cap zs) : At w a zs := by
  obtain ⟨hl, ⟨-, h0, -⟩ | ⟨g, rfl, -, -, hr⟩⟩ := h
  · exact Or.inl (List.eq_nil_of_length_eq_zero (by omega))
  · exact row_at hl hr
end Go.Proofs.Ytigodedloogbcaa
