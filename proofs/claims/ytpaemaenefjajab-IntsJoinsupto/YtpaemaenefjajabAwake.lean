/- The statements' own examples, which each of them asks besides: all come out as the document has them. -/
import Derived.Test.YtpaemaenefjajabRows1
namespace Go.Proofs.Ytpaemaenefjajab
open Go.ChangeShapes Go.WideShapes Go.ChangeAt Go.RowKit

/-- Old cells and old marks read as before, where nothing below a bound has turned. -/
theorem bcell {n : Nat} {W w1 : World} (hb : Below n W w1) : (∀ b o, b < n → w1.cell? ⟨b, o, none⟩ = W.cell? ⟨b, o, none⟩) ∧ (∀ b o, b < n → w1.frozen? ⟨b, o, none⟩ = W.frozen? ⟨b, o, none⟩) :=
  ⟨fun b o h => hb.cell (p := ⟨b, o, none⟩) h, fun b o h => hb.frozen (p := ⟨b, o, none⟩) h⟩

theorem bdrew {B : Nat} {a w : World} (h : Below B a w) (n : Nat) : Below B a (w.drewN n) := h.trans ⟨rfl, rfl, rfl, Nat.le_refl _, fun _ _ => rfl⟩

theorem at2 {W : World} {b : Nat} {x y : Int} (h0 : W.cell? ⟨b, 0, none⟩ = some (.int .i64 x)) (h1 : W.cell? ⟨b, 1, none⟩ = some (.int .i64 y)) : At W (some ⟨b, 0, none⟩) [x, y] := by
  refine Or.inr ⟨_, _, rfl, fun k hk => ?_⟩
  match k, hk with
  | 0, _ => exact h0
  | 1, _ => exact h1
theorem at3 {W : World} {b : Nat} {x y z : Int} (h0 : W.cell? ⟨b, 0, none⟩ = some (.int .i64 x)) (h1 : W.cell? ⟨b, 1, none⟩ = some (.int .i64 y)) (h2 : W.cell? ⟨b, 2, none⟩ = some (.int .i64 z)) : At W (some ⟨b, 0, none⟩) [x, y, z] := by
  refine Or.inr ⟨_, _, rfl, fun k hk => ?_⟩
  match k, hk with
  | 0, _ => exact h0
  | 1, _ => exact h1
  | 2, _ => exact h2
theorem at2n {V : World} {b : Nat} {x y : Int} {t : TypeId} (hb : b = V.heap.size) : At (V.alloc (.cells #[.int .i64 x, .int .i64 y] t)) (some ⟨b, 0, none⟩) [x, y] := by
  subst hb
  exact at2 (by simp) (by simp)
theorem at2o {V : World} {b : Nat} {x y : Int} {t : TypeId} {O : Obj} (hb : b = V.heap.size) : At ((V.alloc (.cells #[.int .i64 x, .int .i64 y] t)).alloc O) (some ⟨b, 0, none⟩) [x, y] := by
  subst hb
  exact at2 (by simp) (by simp)
theorem inR2 {x y : Int} (hx : -9223372036854775808 ≤ x ∧ x ≤ 9223372036854775807) (hy : -9223372036854775808 ≤ y ∧ y ≤ 9223372036854775807) : InR [x, y] := by
  intro k
  match k with
  | 0 => exact hx
  | 1 => exact hy
  | k + 2 => exact (by decide : (-9223372036854775808 : Int) ≤ 0 ∧ (0 : Int) ≤ 9223372036854775807)
theorem inR3 {x y z : Int} (hx : -9223372036854775808 ≤ x ∧ x ≤ 9223372036854775807) (hy : -9223372036854775808 ≤ y ∧ y ≤ 9223372036854775807) (hz : -9223372036854775808 ≤ z ∧ z ≤ 9223372036854775807) : InR [x, y, z] := by
  intro k
  match k with
  | 0 => exact hx
  | 1 => exact hy
  | 2 => exact hz
  | k + 3 => exact (by decide : (-9223372036854775808 : Int) ≤ 0 ∧ (0 : Int) ≤ 9223372036854775807)

set_option maxHeartbeats 1000000 in
theorem awake_any (w : World) :
    Calls Try.prog 10 #[] w fun e w' => e = .returned (.bool true) ∧ Below w.heap.size w w' := by
  have a5 : fitV (2 + 3) = 5 := by decide
  have b5 : fitB (2 + 3) = true := by decide
  have a1 : fitV (2 - 3) = -1 := by decide
  have b1 : fitB (2 - 3) = true := by decide
  have a6 : fitV (-2 * 3) = -6 := by decide
  have b6 : fitB (-2 * 3) = true := by decide
  have r7 : InR [1, 2, 4] := inR3 (by decide) (by decide) (by decide)
  have r6 : InR [12, -18] := inR2 (by decide) (by decide)
  have r12 : InR [4, -6] := inR2 (by decide) (by decide)
  have r1 : InR [1, 2] := inR2 (by decide) (by decide)
  have r3 : InR [3, 4] := inR2 (by decide) (by decide)
  have hsum := fun a w => sum_any a [1, 2, 4] 3 3 w rfl (by decide) r7
  have hgcd := fun a w => gcd_any a [12, -18] 2 2 w rfl (by decide) r6
  have hlcm := fun a w => lcm_any a [4, -6] 2 2 w rfl (by decide) r12
  have hdot := fun a1 a2 w => dot_any a1 a2 [1, 2] [3, 4] 2 2 2 2 w rfl rfl (by decide) (by decide) r1 r3
  have s7 : sumV [1, 2, 4] = 7 := by decide
  have t7 : sumB [1, 2, 4] = true := by decide
  have s6 : gcdV [12, -18] = 6 := by decide +kernel
  have t6 : gcdB [12, -18] = true := by decide +kernel
  have s12 : lcmV [4, -6] = 12 := by decide +kernel
  have t12 : lcmB [4, -6] = true := by decide +kernel
  have s11 : dotV [1, 2] [3, 4] = 11 := by decide
  have t11 : dotB [1, 2] [3, 4] = true := by decide
  rw [s7, t7] at hsum
  rw [s6, t6] at hgcd
  rw [s12, t12] at hlcm
  rw [s11, t11] at hdot
  clear s7 t7 s6 t6 s12 t12 s11 t11
  go_enter Try.func10, Try.ntmps10
  go_wp2_with (first
    | (go_at_call 16; refine (add_any _ _ _ (by decide) (by decide)).mono ?_; rintro e w' ⟨rfl, rfl⟩; rw [a5, b5])
    | (go_at_call 17; refine (sub_any _ _ _ (by decide) (by decide)).mono ?_; rintro e w' ⟨rfl, rfl⟩; rw [a1, b1])
    | (go_at_call 18; refine (mul_any _ _ _ (by decide) (by decide)).mono ?_; rintro e w' ⟨rfl, rfl⟩; rw [a6, b6])
    | (go_at_call 12; refine (hsum _ _ (at3 ?_ ?_ ?_)).mono ?_; (simp); (simp); (simp); rintro e w' ⟨rfl, rfl⟩)
    | (go_at_call 8; refine (hgcd _ _ (at2n ?_)).mono ?_; (simp); rintro e w' ⟨n1, rfl, rfl⟩)
    | (go_at_call 11; refine (hlcm _ _ (at2n ?_)).mono ?_; (simp); rintro e w' ⟨n2, rfl, rfl⟩)
    | (go_at_call 19; refine (hdot _ _ _ (at2o ?_) (at2n ?_)).mono ?_; (simp); (simp); rintro e w' ⟨rfl, rfl⟩))
  go_ret
  exact ⟨rfl, (((bdrew (((bdrew (((Below.refl _ _).alloc (Nat.le_refl _) _).alloc (by simp) _) n1).alloc (by simp; omega) _)) n2).alloc (by simp; omega) _).alloc (by simp; omega) _)⟩
end Go.Proofs.Ytpaemaenefjajab
