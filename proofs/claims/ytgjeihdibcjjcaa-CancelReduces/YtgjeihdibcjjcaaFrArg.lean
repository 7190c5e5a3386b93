/- Fractions, and slices of fractions, that come in: how they read. -/
import Derived.Test.YtgjeihdibcjjcaaFrAwake
import Derived.Deep.SlicePairs
namespace Go.Proofs.Ytgjeihdibcjjcaa
open Go.ChangeShapes Go.WideShapes Go.ChangeAt Go.RowKit

theorem Try.bytesFR : Try.prog.bytesOf 34 = 16 := by kernel_rfl
theorem Try.cellsFR : Try.prog.cellsOf 34 = 2 := by kernel_rfl
theorem Try.cells3' : Try.prog.cellsOf 3 = 1 := by kernel_rfl

section
variable {H : Type} {enc : TypeId × Value → H} {W : World} {base : Nat} {spare : Nat → Bool} {held : Bool}

/-- A fraction by value: its two numbers. -/
theorem frac_open {r : Reach} {b0 : Nat} {v : Value} {d : DataW H} {p : List MemPlace} (hv : Value.okWide Try.prog W r b0 34 v) (h : DataW.Trod enc Try.prog W base spare held 34 v d p) :
    ∃ a b : Int, v = .agg #[.int .i64 a, .int .i64 b] ∧ (-9223372036854775808 ≤ a ∧ a ≤ 9223372036854775807) ∧ (-9223372036854775808 ≤ b ∧ b ≤ 9223372036854775807) := by
  obtain ⟨cs, rfl, hsz⟩ := okWide_struct Try.underlying34 hv
  rw [Try.cellsFR] at hsz
  obtain ⟨fuel, hf⟩ := h
  obtain ⟨y0, y1, n, -, -, h0, h1⟩ := trod_struct2 Try.underlying34 hf
  obtain ⟨l⟩ := cs
  match l, hsz with
  | [u, v], _ =>
    simp [Value.cells, Try.cells3'] at h0 h1
    obtain ⟨a, ea, -, wa⟩ := DataW.trod_int Try.underlying3 h0
    obtain ⟨b, eb, -, wb⟩ := DataW.trod_int Try.underlying3 h1
    simp at ea eb
    subst ea eb
    exact ⟨a, b, rfl, bounds_i64 wa, bounds_i64 wb⟩

end
end Go.Proofs.Ytgjeihdibcjjcaa
