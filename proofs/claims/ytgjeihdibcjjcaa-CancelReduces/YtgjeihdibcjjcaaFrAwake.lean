/- The statements' own examples of chapter 2, which each of them asks besides. -/
import Derived.Test.YtgjeihdibcjjcaaFrScaleB
import Derived.Test.YtgjeihdibcjjcaaFrCmpB
namespace Go.Proofs.Ytgjeihdibcjjcaa
open Go.ChangeShapes Go.WideShapes Go.ChangeAt Go.RowKit

theorem atP2 {W : World} {b : Nat} {x y u v : Int} {t : TypeId} (hb : b = W.heap.size) : AtP (W.alloc (.cells #[.int .i64 x, .int .i64 y, .int .i64 u, .int .i64 v] t)) (some ⟨b, 0, none⟩) [(x, y), (u, v)] := by
  subst hb
  refine Or.inr ⟨_, _, rfl, fun k hk => ?_⟩
  match k, hk with
  | 0, _ => exact ⟨by simp [nthN], by simp [nthD]⟩
  | 1, _ => exact ⟨by simp [nthN], by simp [nthD]⟩
theorem inRP2 {x y u v : Int} (hx : -9223372036854775808 ≤ x ∧ x ≤ 9223372036854775807) (hy : -9223372036854775808 ≤ y ∧ y ≤ 9223372036854775807) (hu : -9223372036854775808 ≤ u ∧ u ≤ 9223372036854775807) (hv : -9223372036854775808 ≤ v ∧ v ≤ 9223372036854775807) : InRP [(x, y), (u, v)] := by
  intro k
  match k with
  | 0 => exact ⟨hx, hy⟩
  | 1 => exact ⟨hu, hv⟩
  | k + 2 => exact (by decide : ((-9223372036854775808 : Int) ≤ 0 ∧ (0 : Int) ≤ 9223372036854775807) ∧ ((-9223372036854775808 : Int) ≤ 0 ∧ (0 : Int) ≤ 9223372036854775807))

end Go.Proofs.Ytgjeihdibcjjcaa
