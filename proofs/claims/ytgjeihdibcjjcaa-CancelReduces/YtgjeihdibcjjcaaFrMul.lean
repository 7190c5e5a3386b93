/- What frac's Mul answers, whatever fractions it is handed. -/
import Derived.Test.YtgjeihdibcjjcaaFr3
import Derived.Test.YtgjeihdibcjjcaaFrRows
namespace Go.Proofs.Ytgjeihdibcjjcaa
open Go.ChangeShapes Go.WideShapes Go.ChangeAt Go.RowKit

theorem allB_nth {fs : List (Int × Int)} (h : allB fs = true) {k : Nat} (hk : k < fs.length) : validB (nthN fs k) (nthD fs k) = true := by
  induction fs generalizing k with
  | nil => simp at hk
  | cons f fs ih =>
    rw [allB, Bool.and_eq_true] at h
    cases k with
    | zero => exact h.1
    | succ k => exact ih h.2 (by simpa using hk)

/-- How the product of a row ends. -/
def ProdEnd (w : World) (fs : List (Int × Int)) (e : Ending) (w' : World) : Prop :=
  Below w.heap.size w w' ∧ ((∃ x y, mulO 1 1 fs = some (x, y) ∧ e = .returned (.agg #[.int .i64 x, .int .i64 y])) ∨ (mulO 1 1 fs = none ∧ e = .panicked bigPanic))

theorem prod_step {fs : List (Int × Int)} {k : Nat} {x y u v : Int} (HS : mulO x y (fs.drop k) = mulO 1 1 fs) (HD : fs.drop k = (u, v) :: fs.drop (k + 1)) (h : twoB x y u v = true) : mulO (twoN x y u v) (twoD x y u v) (fs.drop (k + 1)) = mulO 1 1 fs := by
  rw [← HS, HD, mulO]
  simp only [h, if_true]
theorem prod_stop {fs : List (Int × Int)} {k : Nat} {x y u v : Int} (HS : mulO x y (fs.drop k) = mulO 1 1 fs) (HD : fs.drop k = (u, v) :: fs.drop (k + 1)) (h : twoB x y u v = false) : mulO 1 1 fs = none := by
  rw [← HS, HD, mulO]
  simp only [h, if_false, Bool.false_eq_true]
theorem valid_pos {n d : Int} (h : validB n d = true) : 0 < d := (validB_true.1 h).1
theorem two_fits {a b c d : Int} (h : twoB a b c d = true) : (-9223372036854775808 ≤ twoN a b c d ∧ twoN a b c d ≤ 9223372036854775807) ∧ (-9223372036854775808 ≤ twoD a b c d ∧ twoD a b c d ≤ 9223372036854775807) := by
  unfold twoB at h
  rw [Bool.and_eq_true] at h
  exact ⟨fitB_true.1 h.1, fitB_true.1 h.2⟩

def MulC (w : World) (fs : List (Int × Int)) (bf : Nat) (e : Ending) (w' : World) : Prop :=
  ∃ w1, Below w.heap.size w w1 ∧ ((∃ x y, mulO 1 1 fs = some (x, y) ∧ e = .returned (.tuple #[]) ∧ w' = (w1.setCell ⟨bf, 0, none⟩ (.int .i64 x)).setCell ⟨bf, 1, none⟩ (.int .i64 y)) ∨ (mulO 1 1 fs = none ∧ e = .panicked bigPanic ∧ w' = w1))

def prN (fs : List (Int × Int)) : Int := ((mulO 1 1 fs).getD (0, 0)).1
def prD (fs : List (Int × Int)) : Int := ((mulO 1 1 fs).getD (0, 0)).2
def prE (fs : List (Int × Int)) : Int := if (mulO 1 1 fs).isSome then 0 else 4
def MulT (w : World) (fs : List (Int × Int)) (bf : Nat) (e : Ending) (w' : World) : Prop :=
  e = .returned (.int .i64 (prE fs)) ∧ Var2 w' bf (.int .i64 (prN fs)) (.int .i64 (prD fs)) ∧ Below bf w w'

/-- What Mul answers. -/
def MulEnd (w : World) (fs : List (Int × Int)) (e : Ending) (w' : World) : Prop :=
  e = .returned (.tuple #[.agg #[.int .i64 (mulN fs), .int .i64 (mulD fs)], .int .i64 (mulE fs)]) ∧ Below w.heap.size w w'

end Go.Proofs.Ytgjeihdibcjjcaa
