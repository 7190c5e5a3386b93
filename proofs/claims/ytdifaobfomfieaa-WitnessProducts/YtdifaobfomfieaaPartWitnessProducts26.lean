/- Texts of one chain, laid one behind the other. -/
import Derived.Test.YtdifaobfomfieaaPartWitnessProducts20
import Derived.Test.YtdifaobfomfieaaPartWitnessProducts10
import Derived.Test.YtdifaobfomfieaaPartWitnessProducts1
import Derived.Lib.Mul64
import Derived.Laws.Bits64b
import Derived.Deep.SlicePairs
import Derived.Test.YtdifaobfomfieaaPartWitnessProducts7
import Derived.Test.YtdifaobfomfieaaPartWitnessProducts3
namespace Go.Proofs.Ytdifaobfomfieaa
open Go.ChangeShapes Go.WideShapes Go.ChangeAt Go.RowKit
/-- A value that is this number of any length, in this world; a variable that was laid since. -/
def IsWh (w : World) (x : Int) (bound : Nat) (v : Value) : Prop := ∃ m a l p ds, v = .agg #[.bool m, .slice a l p] ∧ Wh w m a l p ds x ∧ l ≤ bound
def IsNew (B : Nat) (w : World) (x y : Value) (v : Value) : Prop := ∃ b, v = .pointer (some ⟨b, 0, none⟩) ∧ Var2 w b x y ∧ B ≤ b
theorem IsWh.later {w w' : World} {x : Int} {n : Nat} {v : Value} (h : IsWh w x n v) (hb : Below w.heap.size w w') : IsWh w' x n v := by
  obtain ⟨m, a, l, p, ds, e, hw, hl⟩ := h
  exact ⟨m, a, l, p, ds, e, hw.below hb, hl⟩
theorem IsNew.later {B : Nat} {w w' : World} {x y v : Value} (h : IsNew B w x y v) (hb : Below w.heap.size w w') : IsNew B w' x y v := by
  obtain ⟨b, e, hv, hB⟩ := h
  exact ⟨b, e, hv.later hb hv.lt, hB⟩
end Go.Proofs.Ytdifaobfomfieaa
