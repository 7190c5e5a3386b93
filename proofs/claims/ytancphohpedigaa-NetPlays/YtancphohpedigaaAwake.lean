/- The statements' own examples, which each of them asks besides: all come out as the document has them. -/
import Derived.Test.YtancphohpedigaaRows1
namespace Go.Proofs.Ytancphohpedigaa
open Go.ChangeShapes Go.WideShapes Go.ChangeAt Go.RowKit

/-- Old cells and old marks read as before, where nothing below a bound has turned. -/
theorem bcell {n : Nat} {W w1 : World} (hb : Below n W w1) : (∀ b o, b < n → w1.cell? ⟨b, o, none⟩ = W.cell? ⟨b, o, none⟩) ∧ (∀ b o, b < n → w1.frozen? ⟨b, o, none⟩ = W.frozen? ⟨b, o, none⟩) :=
  ⟨fun b o h => hb.cell (p := ⟨b, o, none⟩) h, fun b o h => hb.frozen (p := ⟨b, o, none⟩) h⟩

theorem bdrew {B : Nat} {a w : World} (h : Below B a w) (n : Nat) : Below B a (w.drewN n) := h.trans ⟨rfl, rfl, rfl, Nat.le_refl _, fun _ _ => rfl⟩

theorem at2 {W : World} {b : Nat} {x y : Int} (h0 : W.cell? ⟨b, 0, none⟩ = some (.int .i64 x)) (h1 : W.cell? ⟨b, 1, none⟩ = some (.int .i64 y)) : At W (some ⟨b, 0, none⟩) [x, y] := by
  refine Or.inr ⟨_, _, rfl, fun k hk => ?_⟩
  match k, hk with
  | 0, _ => exact h0
  | 1, _ => exact h1
theorem at3 {W : World} {b : Nat} {x y z : Int} (h0 : W.cell? ⟨b, 0, none⟩ = some (.int .i64 x)) (h1 : W.cell? ⟨b, 1, none⟩ = some (.int .i64 y)) (h2 : W.cell? ⟨b, 2, none⟩ = some (.int .i64 z)) : At W (some ⟨b, 0, none⟩) [x, y, z] := by
  refine Or.inr ⟨_, _, rfl, fun k hk => ?_⟩
  match k, hk with
  | 0, _ => exact h0
  | 1, _ => exact h1
  | 2, _ => exact h2
theorem at2n {V : World} {b : Nat} {x y : Int} {t : TypeId} (hb : b = V.heap.size) : At (V.alloc (.cells #[.int .i64 x, .int .i64 y] t)) (some ⟨b, 0, none⟩) [x, y] := by
  subst hb
  exact at2 (by simp) (by simp)
theorem at2o {V : World} {b : Nat} {x y : Int} {t : TypeId} {O : Obj} (hb : b = V.heap.size) : At ((V.alloc (.cells #[.int .i64 x, .int .i64 y] t)).alloc O) (some ⟨b, 0, none⟩) [x, y] := by
  subst hb
  exact at2 (by simp) (by simp)
theorem inR2 {x y : Int} (hx : -9223372036854775808 ≤ x ∧ x ≤ 9223372036854775807) (hy : -9223372036854775808 ≤ y ∧ y ≤ 9223372036854775807) : InR [x, y] := by
  intro k
  match k with
  | 0 => exact hx
  | 1 => exact hy
  | k + 2 => exact (by decide : (-9223372036854775808 : Int) ≤ 0 ∧ (0 : Int) ≤ 9223372036854775807)
theorem inR3 {x y z : Int} (hx : -9223372036854775808 ≤ x ∧ x ≤ 9223372036854775807) (hy : -9223372036854775808 ≤ y ∧ y ≤ 9223372036854775807) (hz : -9223372036854775808 ≤ z ∧ z ≤ 9223372036854775807) : InR [x, y, z] := by
  intro k
  match k with
  | 0 => exact hx
  | 1 => exact hy
  | 2 => exact hz
  | k + 3 => exact (by decide : (-9223372036854775808 : Int) ≤ 0 ∧ (0 : Int) ≤ 9223372036854775807)

end Go.Proofs.Ytancphohpedigaa
