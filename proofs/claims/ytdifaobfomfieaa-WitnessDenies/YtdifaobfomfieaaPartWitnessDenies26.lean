/- Texts of one chain, laid one behind the other. -/
import Derived.Test.YtdifaobfomfieaaPartWitnessDenies20
import Derived.Test.YtdifaobfomfieaaPartWitnessDenies10
import Derived.Test.YtdifaobfomfieaaPartWitnessDenies1
import Derived.Lib.Mul64
import Derived.Laws.Bits64b
import Derived.Deep.SlicePairs
import Derived.Test.YtdifaobfomfieaaPartWitnessDenies7
import Derived.Test.YtdifaobfomfieaaPartWitnessDenies3
namespace Go.Proofs.Ytdifaobfomfieaa
open Go.ChangeShapes Go.WideShapes Go.ChangeAt Go.RowKit
/-- A value that is this number of any length, in this world; a variable that was laid since. -/
def IsWh (w : World) (x : Int) (bound : Nat) (v : Value) : Prop := ∃ m a l p ds, v = .agg #[.bool m, .slice a l p] ∧ Wh w m a l p ds x ∧ l ≤ bound
def IsNew (B : Nat) (w : World) (x y : Value) (v : Value) : Prop := ∃ b, v = .pointer (some ⟨b, 0, none⟩) ∧ Var2 w b x y ∧ B ≤ b
theorem IsWh.later {w w' : World} {x : Int} {n : Nat} {v : Value} (h : IsWh w x n v) (hb : Below w.heap.size w w') : IsWh w' x n v := by
  obtain ⟨m, a, l, p, ds, e, hw, hl⟩ := h
  exact ⟨m, a, l, p, ds, e, hw.below hb, hl⟩
theorem IsNew.later {B : Nat} {w w' : World} {x y v : Value} (h : IsNew B w x y v) (hb : Below w.heap.size w w') : IsNew B w' x y v := by
  obtain ⟨b, e, hv, hB⟩ := h
  exact ⟨b, e, hv.later hb hv.lt, hB⟩
theorem of_said {x : Int} {W : World} (h : Calls Try.prog 31 #[.int .i64 x] W (MadeWh W x 3)) : Calls Try.prog 31 #[.int .i64 x] W fun e w' => ∃ v, e = .returned v ∧ Below W.heap.size W w' ∧ IsWh w' x 3 v :=
  h.mono fun _ _ ⟨m, a, l, p, ds, he, hw, hb, hl⟩ => ⟨_, he, hb, m, a, l, p, ds, rfl, hw, hl⟩
theorem times_said {x y : Int} {W : World} {u v : Value} {n m : Nat} (h1 : IsWh W x n u) (h2 : IsWh W y m v) (hs : n + m < 1000000000) : Calls Try.prog 30 #[u, v] W fun e w' => ∃ r, e = .returned r ∧ Below W.heap.size W w' ∧ IsWh w' (x * y) (n + m) r := by
  obtain ⟨m1, a1, l1, p1, d1, rfl, w1, b1⟩ := h1
  obtain ⟨m2, a2, l2, p2, d2, rfl, w2, b2⟩ := h2
  refine (times_any m1 m2 a1 a2 l1 l2 p1 p2 d1 d2 x y W w1 w2 (by omega)).mono ?_
  rintro e w' ⟨m, a, l, p, ds, he, hw, hb, hl⟩
  exact ⟨_, he, hb, m, a, l, p, ds, rfl, hw, by omega⟩
end Go.Proofs.Ytdifaobfomfieaa
