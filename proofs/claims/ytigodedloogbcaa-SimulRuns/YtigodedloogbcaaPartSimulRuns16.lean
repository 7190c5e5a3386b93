/- Texts of one chain, laid one behind the other. -/
import Derived.Test.YtigodedloogbcaaPartSimulRuns6
import Derived.StillTailTactics
import Derived.Test.YtigodedloogbcaaPartSimulRuns15
import Derived.Deep.OwnRows
namespace Go.Proofs.Ytigodedloogbcaa
open Go.ChangeShapes Go.WideShapes Go.ChangeAt Go.RowKit
theorem row_at {w : World} {g len : Nat} {zs : List Int} (hl : zs.length = len) (h : w.rowIs g 3 len (fun i => .int .i64 (nth zs i))) : At w (some ⟨g, 0, none⟩) zs :=
  Or.inr ⟨g, 0, rfl, fun k hk => by rw [Nat.zero_add]; exact h.cell (by omega)⟩
/-- A slice of the call's own: nil, or a new row of just these numbers. -/
def OwnS (base : Nat) (w : World) (a : Option Addr) (n cap : Nat) (zs : List Int) : Prop :=
  zs.length = n ∧ ((a = none ∧ n = 0 ∧ cap = 0) ∨ (∃ g, a = some ⟨g, 0, none⟩ ∧ base ≤ g ∧ cap = n ∧ w.rowIs g 3 n (fun i => .int .i64 (nth zs i))))
theorem newF_yes {n d : Int} (hd : d ≠ 0) (h : lowB n d = true) : newN n d = lowN n d ∧ newD n d = lowD n d ∧ newE n d = 0 := new_yes hd h
theorem newF_any (n d : Int) (w : World) (hn : -9223372036854775808 ≤ n ∧ n ≤ 9223372036854775807) (hd : -9223372036854775808 ≤ d ∧ d ≤ 9223372036854775807) :
    Calls Try.prog 66 #[.int .i64 n, .int .i64 d] w (NewEnd w n d) := new_any n d w hn hd
end Go.Proofs.Ytigodedloogbcaa
