/- The walk through the statement IntsNames. -/
import Derived.Test.YtpaemaenefjajabAwake
namespace Go.Proofs.Ytpaemaenefjajab
open Go.ChangeShapes Go.WideShapes Go.ChangeAt Go.RowKit

theorem at3n {V : World} {b : Nat} {x y z : Int} {t : TypeId} (hb : b = V.heap.size) : At (V.alloc (.cells #[.int .i64 x, .int .i64 y, .int .i64 z] t)) (some ⟨b, 0, none⟩) [x, y, z] := by
  subst hb
  exact at3 (by simp) (by simp) (by simp)
theorem at1n {V : World} {b : Nat} {x : Int} {t : TypeId} (hb : b = V.heap.size) : At (V.alloc (.cells #[.int .i64 x] t)) (some ⟨b, 0, none⟩) [x] := by
  subst hb
  refine Or.inr ⟨_, _, rfl, fun k hk => ?_⟩
  match k, hk with
  | 0, _ => simp [nth]
theorem inR0 : InR [] := fun k => by
  have e : nth [] k = 0 := by simp [nth]
  rw [e]; decide
theorem inR1 {x : Int} (hx : -9223372036854775808 ≤ x ∧ x ≤ 9223372036854775807) : InR [x] := by
  intro k
  match k with
  | 0 => exact hx
  | k + 1 => exact (by decide : (-9223372036854775808 : Int) ≤ 0 ∧ (0 : Int) ≤ 9223372036854775807)

set_option maxRecDepth 100000 in
set_option maxHeartbeats 1000000 in
theorem names_any (w : World) :
    Calls Try.prog 7 #[] w fun e w' => e = .returned (.bool true) ∧ Below w.heap.size w w' := by
  have a5 : fitV (9223372036854775807 + 0) = 9223372036854775807 := by decide
  have b5 : fitB (9223372036854775807 + 0) = true := by decide
  have a1 : fitV (-9223372036854775808 - 1) = 0 := by decide
  have b1 : fitB (-9223372036854775808 - 1) = false := by decide
  have a6 : fitV (-9223372036854775808 * -1) = 0 := by decide
  have b6 : fitB (-9223372036854775808 * -1) = false := by decide
  have hsum := fun w => sum_any none [] 0 0 w rfl (by decide) inR0 (Or.inl rfl)
  have hgcd := fun w => gcd_any none [] 0 0 w rfl (by decide) inR0 (Or.inl rfl)
  have hlcm := fun w => lcm_any none [] 0 0 w rfl (by decide) inR0 (Or.inl rfl)
  have hdot := fun w => dot_any none none [] [] 0 0 0 0 w rfl rfl (by decide) (by decide) inR0 inR0 (Or.inl rfl) (Or.inl rfl)
  have r1 : InR [1] := inR1 (by decide)
  have r3 : InR [4294967296, 4294967295, 0] := inR3 (by decide) (by decide) (by decide)
  have hdot1 := fun a w => dot_any none a [] [1] 0 0 1 1 w rfl rfl (by decide) (by decide) inR0 r1 (Or.inl rfl)
  have hlcm3 := fun a w => lcm_any a [4294967296, 4294967295, 0] 3 3 w rfl (by decide) r3
  have s0 : sumV [] = 0 := by decide
  have t0 : sumB [] = true := by decide
  have sg : gcdV [] = 0 := by decide +kernel
  have tg : gcdB [] = true := by decide +kernel
  have sl : lcmV [] = 1 := by decide +kernel
  have tl : lcmB [] = true := by decide +kernel
  have sd : dotV [] [] = 0 := by decide
  have td : dotB [] [] = true := by decide
  have sd1 : dotV [] [1] = 0 := by decide
  have td1 : dotB [] [1] = false := by decide
  have sl3 : lcmV [4294967296, 4294967295, 0] = 0 := by decide +kernel
  have tl3 : lcmB [4294967296, 4294967295, 0] = true := by decide +kernel
  rw [s0, t0] at hsum
  rw [sg, tg] at hgcd
  rw [sl, tl] at hlcm
  rw [sd, td] at hdot
  rw [sd1, td1] at hdot1
  rw [sl3, tl3] at hlcm3
  clear s0 t0 sg tg sl tl sd td sd1 td1 sl3 tl3
  go_enter Try.func7, Try.ntmps7
  go_wp2_with (first
    | (go_at_call 16; refine (add_any _ _ _ (by decide) (by decide)).mono ?_; rintro e w' ⟨rfl, rfl⟩; rw [a5, b5])
    | (go_at_call 17; refine (sub_any _ _ _ (by decide) (by decide)).mono ?_; rintro e w' ⟨rfl, rfl⟩; rw [a1, b1])
    | (go_at_call 18; refine (mul_any _ _ _ (by decide) (by decide)).mono ?_; rintro e w' ⟨rfl, rfl⟩; rw [a6, b6])
    | (go_at_call 12; refine (hsum _).mono ?_; rintro e w' ⟨rfl, rfl⟩)
    | (go_at_call 8; refine (hgcd _).mono ?_; rintro e w' ⟨n1, rfl, rfl⟩)
    | (go_at_call 11; with_reducible refine (hlcm _).mono ?_; rintro e w' ⟨n2, rfl, rfl⟩)
    | (go_at_call 11; with_reducible refine (hlcm3 _ _ (at3n ?_)).mono ?_; (simp); rintro e w' ⟨n3, rfl, rfl⟩)
    | (go_at_call 19; with_reducible refine (hdot _).mono ?_; rintro e w' ⟨rfl, rfl⟩)
    | (go_at_call 19; with_reducible refine (hdot1 _ _ (at1n ?_)).mono ?_; (simp); rintro e w' ⟨rfl, rfl⟩)
    | (go_at_call 10; refine (awake_any _).mono ?_; rintro e w1 ⟨rfl, hbel⟩))
  go_ret
  exact ⟨rfl, (bdrew (((bdrew (Below.refl _ _) _).alloc (by simp) _).alloc (by simp <;> omega) _) n3).trans (hbel.mono (by simp <;> omega))⟩
end Go.Proofs.Ytpaemaenefjajab
