/- Texts of one chain, laid one behind the other. -/
import Derived.Test.YtffikkkfnbffbaaPartPackMoves6
import Derived.Deep.LoopGhost
import Derived.Deep.DeepCutAuto
namespace Go.Proofs.Ytffikkkfnbffbaa
open Go.ChangeShapes Go.WideShapes Go.ChangeAt Go.RowKit
/-- A list that was lent: a row of its own with these numbers, four marks behind them, all in one array of just that size. -/
def Lend (base : Nat) (w : World) (g len : Nat) (zs : List Int) : Prop :=
  base ≤ g ∧ zs.length = len ∧ At w (some ⟨g, 0, none⟩) (zs ++ [-7770777, -7770777, -7770777, -7770777])
theorem nth_append_left {xs ys : List Int} {k : Nat} (h : k < xs.length) : nth (xs ++ ys) k = nth xs k := by
  unfold nth
  rw [List.getD_eq_getElem?_getD, List.getD_eq_getElem?_getD, List.getElem?_append_left h]
theorem nth_marks {xs : List Int} {k : Nat} (h : xs.length ≤ k) (h2 : k < xs.length + 4) : nth (xs ++ [-7770777, -7770777, -7770777, -7770777]) k = -7770777 := by
  unfold nth
  rw [List.getD_eq_getElem?_getD, List.getElem?_append_right h]
  have : k - xs.length < 4 := by omega
  match k - xs.length, this with
  | 0, _ => rfl
  | 1, _ => rfl
  | 2, _ => rfl
  | 3, _ => rfl
theorem Lend.cells {base : Nat} {w : World} {g len : Nat} {zs : List Int} (h : Lend base w g len zs) :
    (∀ k, k < len → w.cell? ⟨g, k, none⟩ = some (.int .i64 (nth zs k))) ∧ (∀ k, len ≤ k → k < len + 4 → w.cell? ⟨g, k, none⟩ = some (.int .i64 (-7770777))) := by
  obtain ⟨-, hl, hat⟩ := h
  rcases hat with h0 | ⟨b, off, e, hc⟩
  · have := congrArg List.length h0
    simp at this
  · cases e
    refine ⟨fun k hk => ?_, fun k h1 h2 => ?_⟩
    · have := hc k (by simp; omega)
      rwa [Nat.zero_add, nth_append_left (by omega)] at this
    · have := hc k (by simp; omega)
      rwa [Nat.zero_add, nth_marks (by omega) (by omega)] at this
theorem Lend.at {base : Nat} {w : World} {g len : Nat} {zs : List Int} (h : Lend base w g len zs) : At w (some ⟨g, 0, none⟩) zs := by
  refine Or.inr ⟨g, 0, rfl, fun k hk => ?_⟩
  rw [Nat.zero_add]
  exact h.cells.1 k (by have := h.2.1; omega)
theorem Lend.below {base : Nat} {w w' : World} {g len : Nat} {zs : List Int} (h : Lend base w g len zs) (hb : Below w.heap.size w w') : Lend base w' g len zs :=
  ⟨h.1, h.2.1, h.2.2.below hb⟩
end Go.Proofs.Ytffikkkfnbffbaa
