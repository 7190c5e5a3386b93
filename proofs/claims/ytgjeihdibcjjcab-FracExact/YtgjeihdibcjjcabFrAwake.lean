/- The statements' own examples of chapter 2, which each of them asks besides. -/
import Derived.Test.YtgjeihdibcjjcabFrScaleB
import Derived.Test.YtgjeihdibcjjcabFrCmpB
namespace Go.Proofs.Ytgjeihdibcjjcab
open Go.ChangeShapes Go.WideShapes Go.ChangeAt Go.RowKit

theorem atP2 {W : World} {b : Nat} {x y u v : Int} {t : TypeId} (hb : b = W.heap.size) : AtP (W.alloc (.cells #[.int .i64 x, .int .i64 y, .int .i64 u, .int .i64 v] t)) (some ⟨b, 0, none⟩) [(x, y), (u, v)] := by
  subst hb
  refine Or.inr ⟨_, _, rfl, fun k hk => ?_⟩
  match k, hk with
  | 0, _ => exact ⟨by simp [nthN], by simp [nthD]⟩
  | 1, _ => exact ⟨by simp [nthN], by simp [nthD]⟩
theorem inRP2 {x y u v : Int} (hx : -9223372036854775808 ≤ x ∧ x ≤ 9223372036854775807) (hy : -9223372036854775808 ≤ y ∧ y ≤ 9223372036854775807) (hu : -9223372036854775808 ≤ u ∧ u ≤ 9223372036854775807) (hv : -9223372036854775808 ≤ v ∧ v ≤ 9223372036854775807) : InRP [(x, y), (u, v)] := by
  intro k
  match k with
  | 0 => exact ⟨hx, hy⟩
  | 1 => exact ⟨hu, hv⟩
  | k + 2 => exact (by decide : ((-9223372036854775808 : Int) ≤ 0 ∧ (0 : Int) ≤ 9223372036854775807) ∧ ((-9223372036854775808 : Int) ≤ 0 ∧ (0 : Int) ≤ 9223372036854775807))

set_option maxRecDepth 100000 in
set_option maxHeartbeats 2000000 in
theorem awake2 (w : World) :
    Calls Try.prog 22 #[] w fun e w' => e = .returned (.bool true) ∧ Below w.heap.size w w' := by
  have n1 : ∀ w, Calls Try.prog 27 #[.int .i64 6, .int .i64 (-4)] w fun e w' => e = .returned (.tuple #[.agg #[.int .i64 (-3), .int .i64 2], .int .i64 0]) ∧ Below w.heap.size w w' := fun w => by
    have := new_any 6 (-4) w (by decide) (by decide)
    unfold NewEnd at this
    rwa [show newN 6 (-4) = -3 by decide +kernel, show newD 6 (-4) = 2 by decide +kernel, show newE 6 (-4) = 0 by decide +kernel] at this
  have n2 : ∀ w, Calls Try.prog 27 #[.int .i64 5, .int .i64 0] w fun e w' => e = .returned (.tuple #[.agg #[.int .i64 0, .int .i64 0], .int .i64 20]) ∧ Below w.heap.size w w' := fun w => by
    have := new_any 5 0 w (by decide) (by decide)
    unfold NewEnd at this
    rwa [show newN 5 0 = 0 by decide +kernel, show newD 5 0 = 0 by decide +kernel, show newE 5 0 = 20 by decide +kernel] at this
  have n3 : ∀ a w, AtP w a [(2, 3), (3, 4)] → Calls Try.prog 24 #[.slice a 2 2] w fun e w' => e = .returned (.tuple #[.agg #[.int .i64 1, .int .i64 2], .int .i64 0]) ∧ Below w.heap.size w w' := fun a w h => by
    have := mul_frac a [(2, 3), (3, 4)] 2 2 w rfl (by decide) (inRP2 (by decide) (by decide) (by decide) (by decide)) h
    unfold MulEnd at this
    rwa [show mulN [(2, 3), (3, 4)] = 1 by decide +kernel, show mulD [(2, 3), (3, 4)] = 2 by decide +kernel, show mulE [(2, 3), (3, 4)] = 0 by decide +kernel] at this
  have n4 : ∀ w, Calls Try.prog 41 #[.agg #[.int .i64 (-2), .int .i64 3]] w fun e w' => e = .returned (.tuple #[.agg #[.int .i64 (-3), .int .i64 2], .int .i64 0]) ∧ Below w.heap.size w w' := fun w => by
    have := inv_frac (-2) 3 w (by decide) (by decide)
    unfold InvEnd at this
    rwa [show invN (-2) 3 = -3 by decide +kernel, show invD (-2) 3 = 2 by decide +kernel, show invE (-2) 3 = 0 by decide +kernel] at this
  have n5 : ∀ w, Calls Try.prog 42 #[.agg #[.int .i64 1, .int .i64 3], .agg #[.int .i64 1, .int .i64 2]] w fun e w' => e = .returned (.tuple #[.int .i64 (-1), .int .i64 0]) ∧ Below w.heap.size w w' := fun w => by
    have := cmp_frac 1 3 1 2 w (by decide) (by decide) (by decide) (by decide)
    rwa [show cmpV 1 3 1 2 = -1 by decide +kernel, show cmpE 1 3 1 2 = 0 by decide +kernel] at this
  have n6 : ∀ a w, AtP w a [(1, 2), (-2, 3)] → Calls Try.prog 18 #[.slice a 2 2] w fun e w' => Below w.heap.size w w' ∧ ∃ g, e = .returned (.tuple #[.int .i64 6, .slice (some ⟨g, 0, none⟩) 2 2, .int .i64 0]) ∧ w'.cell? ⟨g, 0, none⟩ = some (.int .i64 3) ∧ w'.cell? ⟨g, 1, none⟩ = some (.int .i64 (-4)) := fun a w h => by
    refine (scale_frac a [(1, 2), (-2, 3)] 2 2 w rfl (by decide) (inRP2 (by decide) (by decide) (by decide) (by decide)) h).mono ?_
    rintro e w' ⟨hb, x, n, c, rfl, hn, how⟩
    rw [show scR [(1, 2), (-2, 3)] = [3, -4] by decide +kernel] at hn how
    rw [show scK [(1, 2), (-2, 3)] = 6 by decide +kernel, show scE [(1, 2), (-2, 3)] = 0 by decide +kernel]
    obtain rfl : 2 = n := hn
    rcases how with ⟨-, h0, -⟩ | ⟨g, rfl, -, rfl, hr⟩
    · cases h0
    · exact ⟨hb, g, rfl, hr.cell (by decide), hr.cell (by decide)⟩
  have n7 : ∀ w, Calls Try.prog 25 #[.agg #[.int .i64 3, .int .i64 2]] w fun e w' => e = .returned (.bool true) ∧ Below w.heap.size w w' := fun w => by
    have := valid_any 3 2 w (by decide) (by decide)
    rwa [show validB 3 2 = true by decide +kernel] at this
  have n8 : ∀ w, Calls Try.prog 25 #[.agg #[.int .i64 6, .int .i64 4]] w fun e w' => e = .returned (.bool false) ∧ Below w.heap.size w w' := fun w => by
    have := valid_any 6 4 w (by decide) (by decide)
    rwa [show validB 6 4 = false by decide +kernel] at this
  go_enter Try.func22, Try.ntmps22
  go_wp2_with (first
    | (go_at_call 27; (with_reducible refine (n1 _).mono ?_); rintro e w1 ⟨rfl, hb1⟩; have A1 := var2_new w1 (.int .i64 (-3)) (.int .i64 2) 24; have B1 := hb1.alloc hb1.size (.cells #[.int .i64 (-3), .int .i64 2] 24))
    | (go_at_call 27; (with_reducible refine (n2 _).mono ?_); rintro e w2 ⟨rfl, hb2⟩; have A2 := (A1.later hb2 A1.lt).alloc (.cells #[.int .i64 0, .int .i64 0] 24); have B2' := B1.trans (hb2.mono B1.size); have B2 := B2'.alloc B2'.size (.cells #[.int .i64 0, .int .i64 0] 24); have A2' := A2.alloc (.cells #[.int .i64 2, .int .i64 3, .int .i64 3, .int .i64 4] 24); have B2'' := B2.alloc B2.size (.cells #[.int .i64 2, .int .i64 3, .int .i64 3, .int .i64 4] 24))
    | (go_at_call 24; refine (n3 _ _ (atP2 ?_)).mono ?_; (simp); rintro e w3 ⟨rfl, hb3⟩; have A3 := (A2'.later hb3 A2'.lt).alloc (.cells #[.int .i64 1, .int .i64 2] 24); have M3 := var2_new w3 (.int .i64 1) (.int .i64 2) 24; have B3' := B2''.trans (hb3.mono B2''.size); have B3 := B3'.alloc B3'.size (.cells #[.int .i64 1, .int .i64 2] 24))
    | (go_at_call 41; refine (n4 _).mono ?_; rintro e w4 ⟨rfl, hb4⟩; have A4 := (A3.later hb4 A3.lt).alloc (.cells #[.int .i64 (-3), .int .i64 2] 24); have M4 := (M3.later hb4 M3.lt).alloc (.cells #[.int .i64 (-3), .int .i64 2] 24); have I4 := var2_new w4 (.int .i64 (-3)) (.int .i64 2) 24; have B4' := B3.trans (hb4.mono B3.size); have B4 := B4'.alloc B4'.size (.cells #[.int .i64 (-3), .int .i64 2] 24))
    | (go_at_call 42; refine (n5 _).mono ?_; rintro e w5 ⟨rfl, hb5⟩; have A5 := (A4.later hb5 A4.lt).alloc (.cells #[.int .i64 1, .int .i64 2, .int .i64 (-2), .int .i64 3] 24); have M5 := (M4.later hb5 M4.lt).alloc (.cells #[.int .i64 1, .int .i64 2, .int .i64 (-2), .int .i64 3] 24); have I5 := (I4.later hb5 I4.lt).alloc (.cells #[.int .i64 1, .int .i64 2, .int .i64 (-2), .int .i64 3] 24); have B5' := B4.trans (hb5.mono B4.size); have B5 := B5'.alloc B5'.size (.cells #[.int .i64 1, .int .i64 2, .int .i64 (-2), .int .i64 3] 24))
    | (go_at_call 18; refine (n6 _ _ (atP2 ?_)).mono ?_; (simp); rintro e w6 ⟨hb6, g, rfl, l0, l1⟩; have A6 := A5.later hb6 A5.lt; have M6 := M5.later hb6 M5.lt; have I6 := I5.later hb6 I5.lt; have B6 := B5.trans (hb6.mono B5.size); have a0 := A6.c0; have a1 := A6.c1; have m0 := M6.c0; have m1 := M6.c1; have i0 := I6.c0; have i1 := I6.c1)
    | (go_at_call 25; (with_reducible refine (n7 _).mono ?_); rintro e w7 ⟨rfl, hb7⟩)
    | (go_at_call 25; (with_reducible refine (n8 _).mono ?_); rintro e w8 ⟨rfl, hb8⟩))
  go_ret
  exact ⟨rfl, (B6.trans (hb7.mono B6.size)).trans (hb8.mono (B6.trans (hb7.mono B6.size)).size)⟩
end Go.Proofs.Ytgjeihdibcjjcab
