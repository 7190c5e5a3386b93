/- Rows of digits that a call makes, digit by digit: what a round that appends one leaves. -/
import Derived.Test.YtoenbiigamegoabBigRows
namespace Go.Proofs.Ytoenbiigamegoab
open Go.ChangeShapes Go.WideShapes Go.ChangeAt Go.RowKit

/-- A call's end: a new row of digits, the highest not 0, worth x. -/
def MadeRow (w : World) (x : Int) (bound : Nat) (e : Ending) (w' : World) : Prop :=
  ∃ a n cap ds, e = .returned (.slice a n cap) ∧ Row w' a n cap ds ∧ Norm ds ∧ val ds = x ∧ Below w.heap.size w w' ∧ n ≤ bound

theorem one_new (wr : World) (s : Int) (t : TypeId) : ∀ j u, [Value.int .i64 s][j]? = some u → (wr.alloc (.cells #[.int .i64 s] t)).cell? ((⟨wr.heap.size, 0, none⟩ : Addr).add j) = some u := by
  intro j u hj
  match j, hj with
  | 0, hj => simp at hj; subst hj; simp [Addr.add]
theorem one_cell (s : Int) : ∀ u ∈ [Value.int .i64 s], u.oneCell' = true := by
  intro u hu; simp at hu; subst hu; rfl
theorem own_block {w : World} {base n : Nat} {v : Value} {xs : List Value} (h : w.ownsRow base 3 1 v n xs) : ∀ k, v.ownBlock = some k → base ≤ k := by
  intro k hk
  rcases h.2 with ⟨hv, -⟩ | ⟨g, cap, cur, hv, hg, -⟩
  · rw [hv] at hk; cases hk
  · rw [hv] at hk; cases hk; exact hg

/-- What one round of a loop that appends a digit leaves. -/
theorem grown_row {w wr w1 : World} {v v' : Value} {os : List Int} {s : Int} {i : Nat} (hown' : w1.ownsRow w.heap.size 3 1 v' (i + 1) (os.map (Value.int .i64) ++ [.int .i64 s])) (hgrow : (wr.alloc (.cells #[.int .i64 s] 3)).grownBy w1 v.ownBlock)
    (hown : wr.ownsRow w.heap.size 3 1 v i (os.map (Value.int .i64))) (hbel : Below w.heap.size w wr) :
    w1.ownsRow w.heap.size 3 1 v' (i + 1) ((os ++ [s]).map (Value.int .i64)) ∧ Below w.heap.size w w1 :=
  ⟨by rw [List.map_append]; exact hown', (hbel.alloc hbel.size _).grown hgrow (by have := hbel.size; simp; omega) (own_block hown)⟩

end Go.Proofs.Ytoenbiigamegoab
