/- Texts of one chain, laid one behind the other. -/
import Derived.Test.YtdifaobfomfieaaPartWitnessConfirms10
import Derived.Test.YtdifaobfomfieaaPartWitnessConfirms15
import Derived.Deep.OwnRows
import Derived.StillTailTactics
namespace Go.Proofs.Ytdifaobfomfieaa
open Go.ChangeShapes Go.WideShapes Go.ChangeAt Go.RowKit
theorem row_at {w : World} {g len : Nat} {zs : List Int} (hl : zs.length = len) (h : w.rowIs g 3 len (fun i => .int .i64 (nth zs i))) : At w (some ⟨g, 0, none⟩) zs :=
  Or.inr ⟨g, 0, rfl, fun k hk => by rw [Nat.zero_add]; exact h.cell (by omega)⟩
/-- A slice of the call's own: nil, or a new row of just these numbers. -/
def OwnS (base : Nat) (w : World) (a : Option Addr) (n cap : Nat) (zs : List Int) : Prop :=
  zs.length = n ∧ ((a = none ∧ n = 0 ∧ cap = 0) ∨ (∃ g, a = some ⟨g, 0, none⟩ ∧ base ≤ g ∧ cap = n ∧ w.rowIs g 3 n (fun i => .int .i64 (nth zs i))))
end Go.Proofs.Ytdifaobfomfieaa
