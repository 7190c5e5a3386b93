/- What frac's Scale and Inv answer. -/
import Derived.Test.YtgjeihdibcjjcaaFrScale
namespace Go.Proofs.Ytgjeihdibcjjcaa
open Go.ChangeShapes Go.WideShapes Go.ChangeAt Go.RowKit

/-- The scale, where all is well. -/
def lcOK (fs : List (Int × Int)) : Option Nat := (lcmO 1 (densOf fs)).bind fun K => if scB K fs then some K else none
def scOK (fs : List (Int × Int)) : Option Nat := if allB fs then lcOK fs else none
def scK (fs : List (Int × Int)) : Int := ((scOK fs).getD 0 : Nat)
def scR (fs : List (Int × Int)) : List Int := match scOK fs with | some K => scL K fs | none => []
def scE (fs : List (Int × Int)) : Int := if allB fs then (if (scOK fs).isSome then 0 else 4) else 1

theorem lcOK_some {fs : List (Int × Int)} {K : Nat} (h1 : lcmO 1 (densOf fs) = some K) (h2 : scB K fs = true) : lcOK fs = some K := by unfold lcOK; rw [h1]; simp [h2]
theorem lcOK_none {fs : List (Int × Int)} (h : ∀ K, lcmO 1 (densOf fs) = some K → scB K fs = false) : lcOK fs = none := by
  unfold lcOK
  cases e : lcmO 1 (densOf fs) with
  | none => rfl
  | some K => simp [h K e]

def ScaleC (w : World) (fs : List (Int × Int)) (len bk bw : Nat) (e : Ending) (w' : World) : Prop :=
  ∃ w1, Below w.heap.size w w1 ∧ ((∃ K g, lcOK fs = some K ∧ e = .returned (.tuple #[]) ∧ w.heap.size ≤ g ∧ w1.rowIs g 3 len (fun i => .int .i64 (nth (scL K fs) i)) ∧ w' = (w1.setCell ⟨bk, 0, none⟩ (.int .i64 (K : Nat))).setCell ⟨bw, 0, none⟩ (.slice (some ⟨g, 0, none⟩) len len)) ∨
    (lcOK fs = none ∧ e = .panicked bigPanic ∧ w' = w1))

def tryK (fs : List (Int × Int)) : Int := ((lcOK fs).getD 0 : Nat)
def tryE (fs : List (Int × Int)) : Int := if (lcOK fs).isSome then 0 else 4
/-- A slice of the call's own: nil, or a new row of just these numbers. -/
def OwnS (base : Nat) (w : World) (a : Option Addr) (n cap : Nat) (zs : List Int) : Prop :=
  zs.length = n ∧ ((a = none ∧ n = 0 ∧ cap = 0) ∨ (∃ g, a = some ⟨g, 0, none⟩ ∧ base ≤ g ∧ cap = n ∧ w.rowIs g 3 n (fun i => .int .i64 (nth zs i))))
def tryR (fs : List (Int × Int)) : List Int := match lcOK fs with | some K => scL K fs | none => []
def ScaleT (w : World) (fs : List (Int × Int)) (bk bw : Nat) (e : Ending) (w' : World) : Prop :=
  e = .returned (.int .i64 (tryE fs)) ∧ Below bk w w' ∧ Var1 w' bk (.int .i64 (tryK fs)) ∧ ∃ a n cap, Var1 w' bw (.slice a n cap) ∧ OwnS w.heap.size w' a n cap (tryR fs)

/-- What Scale answers. -/
def ScaleEnd (w : World) (fs : List (Int × Int)) (e : Ending) (w' : World) : Prop :=
  Below w.heap.size w w' ∧ ∃ a n cap, e = .returned (.tuple #[.int .i64 (scK fs), .slice a n cap, .int .i64 (scE fs)]) ∧ OwnS w.heap.size w' a n cap (scR fs)

/-- What Inv answers. -/
def invN (n d : Int) : Int := if validB n d then newN d n else 0
def invD (n d : Int) : Int := if validB n d then newD d n else 0
def invE (n d : Int) : Int := if validB n d then newE d n else 1
def InvEnd (w : World) (n d : Int) (e : Ending) (w' : World) : Prop :=
  e = .returned (.tuple #[.agg #[.int .i64 (invN n d), .int .i64 (invD n d)], .int .i64 (invE n d)]) ∧ Below w.heap.size w w'
end Go.Proofs.Ytgjeihdibcjjcaa
