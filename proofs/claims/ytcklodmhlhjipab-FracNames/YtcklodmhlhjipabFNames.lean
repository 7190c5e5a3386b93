/- The walk through the statement FracNames. -/
import Derived.Test.YtcklodmhlhjipabFrAwake
namespace Go.Proofs.Ytcklodmhlhjipab
open Go.ChangeShapes Go.WideShapes Go.ChangeAt Go.RowKit

set_option maxRecDepth 100000 in
set_option maxHeartbeats 1000000 in
theorem names2_any (w : World) :
    Calls Try.prog 8 #[] w fun e w' => e = .returned (.bool true) ∧ Below w.heap.size w w' := by
  have inRP0 : InRP [] := fun k => (by decide : ((-9223372036854775808 : Int) ≤ 0 ∧ (0 : Int) ≤ 9223372036854775807) ∧ ((-9223372036854775808 : Int) ≤ 0 ∧ (0 : Int) ≤ 9223372036854775807))
  have n1 : ∀ w, Calls Try.prog 9 #[.int .i64 1, .int .i64 0] w fun e w' => e = .returned (.tuple #[.agg #[.int .i64 0, .int .i64 0], .int .i64 20]) ∧ Below w.heap.size w w' := fun w => by
    have := new_any 1 0 w (by decide) (by decide)
    unfold NewEnd at this
    rwa [show newN 1 0 = 0 by decide +kernel, show newD 1 0 = 0 by decide +kernel, show newE 1 0 = 20 by decide +kernel] at this
  have n2 : ∀ w, Calls Try.prog 9 #[.int .i64 (-9223372036854775808), .int .i64 (-1)] w fun e w' => e = .returned (.tuple #[.agg #[.int .i64 0, .int .i64 0], .int .i64 4]) ∧ Below w.heap.size w w' := fun w => by
    have := new_any (-9223372036854775808) (-1) w (by decide) (by decide)
    unfold NewEnd at this
    rwa [show newN (-9223372036854775808) (-1) = 0 by decide +kernel, show newD (-9223372036854775808) (-1) = 0 by decide +kernel, show newE (-9223372036854775808) (-1) = 4 by decide +kernel] at this
  have n3 : ∀ w, Calls Try.prog 17 #[.agg #[.int .i64 0, .int .i64 0]] w fun e w' => e = .returned (.tuple #[.agg #[.int .i64 0, .int .i64 0], .int .i64 1]) ∧ Below w.heap.size w w' := fun w => by
    have := inv_frac 0 0 w (by decide) (by decide)
    unfold InvEnd at this
    rwa [show invN 0 0 = 0 by decide +kernel, show invD 0 0 = 0 by decide +kernel, show invE 0 0 = 1 by decide +kernel] at this
  have n4 : ∀ w, Calls Try.prog 17 #[.agg #[.int .i64 0, .int .i64 1]] w fun e w' => e = .returned (.tuple #[.agg #[.int .i64 0, .int .i64 0], .int .i64 20]) ∧ Below w.heap.size w w' := fun w => by
    have := inv_frac 0 1 w (by decide) (by decide)
    unfold InvEnd at this
    rwa [show invN 0 1 = 0 by decide +kernel, show invD 0 1 = 0 by decide +kernel, show invE 0 1 = 20 by decide +kernel] at this
  have n5 : ∀ w, Calls Try.prog 19 #[.slice none 0 0] w fun e w' => Below w.heap.size w w' ∧ ∃ a cap, e = .returned (.tuple #[.int .i64 1, .slice a 0 cap, .int .i64 0]) := fun w => by
    refine (scale_frac none [] 0 0 w rfl (by decide) inRP0 (Or.inl rfl)).mono ?_
    rintro e w' ⟨hb, x, n, c, rfl, hn, -⟩
    rw [show scR [] = [] by decide +kernel] at hn
    rw [show scK [] = 1 by decide +kernel, show scE [] = 0 by decide +kernel]
    obtain rfl : 0 = n := hn
    exact ⟨hb, x, c, rfl⟩
  have n6 : ∀ w, Calls Try.prog 14 #[.slice none 0 0] w fun e w' => e = .returned (.tuple #[.agg #[.int .i64 1, .int .i64 1], .int .i64 0]) ∧ Below w.heap.size w w' := fun w => by
    have := mul_frac none [] 0 0 w rfl (by decide) inRP0 (Or.inl rfl)
    unfold MulEnd at this
    rwa [show mulN [] = 1 by decide +kernel, show mulD [] = 1 by decide +kernel, show mulE [] = 0 by decide +kernel] at this
  go_enter Try.func8, Try.ntmps8
  go_wp2_with (first
    | (go_at_call 9; (with_reducible refine (n1 _).mono ?_); rintro e w1 ⟨rfl, hb1⟩; have B1 := hb1.alloc hb1.size (.cells #[.int .i64 0, .int .i64 0] 23))
    | (go_at_call 9; (with_reducible refine (n2 _).mono ?_); rintro e w2 ⟨rfl, hb2⟩; have B2' := B1.trans (hb2.mono B1.size); have B2 := B2'.alloc B2'.size (.cells #[.int .i64 0, .int .i64 0] 23))
    | (go_at_call 17; (with_reducible refine (n3 _).mono ?_); rintro e w3 ⟨rfl, hb3⟩; have B3' := B2.trans (hb3.mono B2.size); have B3 := B3'.alloc B3'.size (.cells #[.int .i64 0, .int .i64 0] 23))
    | (go_at_call 17; (with_reducible refine (n4 _).mono ?_); rintro e w4 ⟨rfl, hb4⟩; have B4' := B3.trans (hb4.mono B3.size); have B4 := B4'.alloc B4'.size (.cells #[.int .i64 0, .int .i64 0] 23))
    | (go_at_call 19; refine (n5 _).mono ?_; rintro e w5 ⟨hb5, x, c, rfl⟩; have B5 := B4.trans (hb5.mono B4.size))
    | (go_at_call 14; refine (n6 _).mono ?_; rintro e w6 ⟨rfl, hb6⟩; have B6 := B5.trans (hb6.mono B5.size); have B7 := B6.alloc B6.size (.cells #[.int .i64 1, .int .i64 1] 23); have V := var2_new w6 (.int .i64 1) (.int .i64 1) 23; have v0 := V.c0; have v1 := V.c1)
    | (go_at_call 10; refine (awake2 _).mono ?_; rintro e w7 ⟨rfl, hb7⟩))
  go_ret
  exact ⟨rfl, B7.trans (hb7.mono B7.size)⟩
end Go.Proofs.Ytcklodmhlhjipab
