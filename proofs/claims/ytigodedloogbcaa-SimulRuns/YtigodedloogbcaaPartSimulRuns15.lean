/- Texts of one chain, laid one behind the other. -/
import Derived.Test.YtigodedloogbcaaPartSimulRuns6
import Derived.Deep.LoopGhost
namespace Go.Proofs.Ytigodedloogbcaa
open Go.ChangeShapes Go.WideShapes Go.ChangeAt Go.RowKit
def nthN (fs : List (Int × Int)) (k : Nat) : Int := (fs.getD k (0, 0)).1
def nthD (fs : List (Int × Int)) (k : Nat) : Int := (fs.getD k (0, 0)).2
def InRP (fs : List (Int × Int)) : Prop := ∀ k, (-9223372036854775808 ≤ nthN fs k ∧ nthN fs k ≤ 9223372036854775807) ∧ (-9223372036854775808 ≤ nthD fs k ∧ nthD fs k ≤ 9223372036854775807)
/-- A row of fractions lies in memory where a slice says. -/
def AtP (w : World) (a : Option Addr) (fs : List (Int × Int)) : Prop :=
  fs = [] ∨ ∃ b off, a = some ⟨b, off, none⟩ ∧ ∀ k, k < fs.length → w.cell? ⟨b, off + k * 2, none⟩ = some (.int .i64 (nthN fs k)) ∧ w.cell? ⟨b, off + k * 2 + 1, none⟩ = some (.int .i64 (nthD fs k))
theorem AtP.below {w w' : World} {a : Option Addr} {fs : List (Int × Int)} (h : AtP w a fs) (hb : Below w.heap.size w w') : AtP w' a fs := by
  rcases h with h | ⟨b, off, rfl, hc⟩
  · exact Or.inl h
  · refine Or.inr ⟨b, off, rfl, fun k hk => ?_⟩
    have h1 := block_lt_of_cell (hc k hk).1
    exact ⟨by rw [hb.cell (p := ⟨b, off + k * 2, none⟩) h1]; exact (hc k hk).1, by rw [hb.cell (p := ⟨b, off + k * 2 + 1, none⟩) h1]; exact (hc k hk).2⟩
/-- What a walk is told of a slice of fractions that came in. -/
structure ArgP (w : World) (a : Option Addr) (len cap : Nat) (fs : List (Int × Int)) : Prop where
  size : fs.length = len
  reach : len * 16 ≤ 140737488351232
  none : a = Option.none → len = 0 ∧ cap = 0
  fits : InRP fs
  lies : AtP w a fs
  room : len ≤ cap
theorem ArgP.below {w w' : World} {a : Option Addr} {len cap : Nat} {fs : List (Int × Int)} (h : ArgP w a len cap fs) (hb : Below w.heap.size w w') : ArgP w' a len cap fs :=
  ⟨h.size, h.reach, h.none, h.fits, h.lies.below hb, h.room⟩
end Go.Proofs.Ytigodedloogbcaa
