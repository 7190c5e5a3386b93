/- Ways through the statement FracWorth. -/
import Derived.Test.YtcklodmhlhjipabFrArg
import Derived.Test.YtcklodmhlhjipabBigTimesB
import Derived.Test.YtcklodmhlhjipabBigOf
namespace Go.Proofs.Ytcklodmhlhjipab
open Go.ChangeShapes Go.WideShapes Go.ChangeAt Go.RowKit

set_option maxRecDepth 100000 in
set_option maxHeartbeats 2000000 in
theorem worth_1 (a b c f1 f2 g1 g2 i1 i2 er hr jr : Int) (w : World) (he : (er != 0) = true)
    (n1 : ∀ W, Calls Try.prog 9 #[.int .i64 a, .int .i64 b] W fun e w' => e = .returned (.tuple #[.agg #[.int .i64 f1, .int .i64 f2], .int .i64 er]) ∧ Below W.heap.size W w')
    (n2 : ∀ W, Calls Try.prog 9 #[.int .i64 c, .int .i64 b] W fun e w' => e = .returned (.tuple #[.agg #[.int .i64 g1, .int .i64 g2], .int .i64 hr]) ∧ Below W.heap.size W w')
    (n3 : ∀ W, Calls Try.prog 9 #[.int .i64 a, .int .i64 c] W fun e w' => e = .returned (.tuple #[.agg #[.int .i64 i1, .int .i64 i2], .int .i64 jr]) ∧ Below W.heap.size W w') :
    Calls Try.prog 3 #[.int .i64 a, .int .i64 b, .int .i64 c] w fun e w' => e = .returned (.bool true) ∧ Below w.heap.size w w' := by
  go_enter Try.func3, Try.ntmps3
  go_wp2_with (first
    | (go_at_call 9; (with_reducible refine (n1 _).mono ?_); rintro e w1 ⟨rfl, hb1⟩; have B1 := hb1.alloc hb1.size (.cells #[.int .i64 f1, .int .i64 f2] 23); clear n1)
    | (go_at_call 9; (with_reducible refine (n2 _).mono ?_); rintro e w2 ⟨rfl, hb2⟩; have B2' := B1.trans (hb2.mono B1.size); have B2 := B2'.alloc B2'.size (.cells #[.int .i64 g1, .int .i64 g2] 23); clear n2)
    | (go_at_call 9; (with_reducible refine (n3 _).mono ?_); rintro e w3 ⟨rfl, hb3⟩; have B3' := B2.trans (hb3.mono B2.size); have B3 := B3'.alloc B3'.size (.cells #[.int .i64 i1, .int .i64 i2] 23); clear n3)
    | (go_at_call 10; refine (awake2 _).mono ?_; rintro e w4 ⟨rfl, hb4⟩))
  go_ret
  exact ⟨rfl, B3.trans (hb4.mono B3.size)⟩

set_option maxRecDepth 100000 in
set_option maxHeartbeats 2000000 in
theorem worth_2 (a b c f1 f2 g1 g2 i1 i2 hr jr : Int) (w : World) (hh : (hr != 0) = true)
    (n1 : ∀ W, Calls Try.prog 9 #[.int .i64 a, .int .i64 b] W fun e w' => e = .returned (.tuple #[.agg #[.int .i64 f1, .int .i64 f2], .int .i64 0]) ∧ Below W.heap.size W w')
    (n2 : ∀ W, Calls Try.prog 9 #[.int .i64 c, .int .i64 b] W fun e w' => e = .returned (.tuple #[.agg #[.int .i64 g1, .int .i64 g2], .int .i64 hr]) ∧ Below W.heap.size W w')
    (n3 : ∀ W, Calls Try.prog 9 #[.int .i64 a, .int .i64 c] W fun e w' => e = .returned (.tuple #[.agg #[.int .i64 i1, .int .i64 i2], .int .i64 jr]) ∧ Below W.heap.size W w') :
    Calls Try.prog 3 #[.int .i64 a, .int .i64 b, .int .i64 c] w fun e w' => e = .returned (.bool true) ∧ Below w.heap.size w w' := by
  go_enter Try.func3, Try.ntmps3
  go_wp2_with (first
    | (go_at_call 9; (with_reducible refine (n1 _).mono ?_); rintro e w1 ⟨rfl, hb1⟩; have B1 := hb1.alloc hb1.size (.cells #[.int .i64 f1, .int .i64 f2] 23); clear n1)
    | (go_at_call 9; (with_reducible refine (n2 _).mono ?_); rintro e w2 ⟨rfl, hb2⟩; have B2' := B1.trans (hb2.mono B1.size); have B2 := B2'.alloc B2'.size (.cells #[.int .i64 g1, .int .i64 g2] 23); clear n2)
    | (go_at_call 9; (with_reducible refine (n3 _).mono ?_); rintro e w3 ⟨rfl, hb3⟩; have B3' := B2.trans (hb3.mono B2.size); have B3 := B3'.alloc B3'.size (.cells #[.int .i64 i1, .int .i64 i2] 23); clear n3)
    | (go_at_call 10; refine (awake2 _).mono ?_; rintro e w4 ⟨rfl, hb4⟩))
  go_ret
  exact ⟨rfl, B3.trans (hb4.mono B3.size)⟩

set_option maxRecDepth 100000 in
set_option maxHeartbeats 2000000 in
theorem worth_3 (a b c f1 f2 g1 g2 i1 i2 jr : Int) (w : World) (hj : (jr != 0) = true)
    (n1 : ∀ W, Calls Try.prog 9 #[.int .i64 a, .int .i64 b] W fun e w' => e = .returned (.tuple #[.agg #[.int .i64 f1, .int .i64 f2], .int .i64 0]) ∧ Below W.heap.size W w')
    (n2 : ∀ W, Calls Try.prog 9 #[.int .i64 c, .int .i64 b] W fun e w' => e = .returned (.tuple #[.agg #[.int .i64 g1, .int .i64 g2], .int .i64 0]) ∧ Below W.heap.size W w')
    (n3 : ∀ W, Calls Try.prog 9 #[.int .i64 a, .int .i64 c] W fun e w' => e = .returned (.tuple #[.agg #[.int .i64 i1, .int .i64 i2], .int .i64 jr]) ∧ Below W.heap.size W w') :
    Calls Try.prog 3 #[.int .i64 a, .int .i64 b, .int .i64 c] w fun e w' => e = .returned (.bool true) ∧ Below w.heap.size w w' := by
  go_enter Try.func3, Try.ntmps3
  go_wp2_with (first
    | (go_at_call 9; (with_reducible refine (n1 _).mono ?_); rintro e w1 ⟨rfl, hb1⟩; have B1 := hb1.alloc hb1.size (.cells #[.int .i64 f1, .int .i64 f2] 23); clear n1)
    | (go_at_call 9; (with_reducible refine (n2 _).mono ?_); rintro e w2 ⟨rfl, hb2⟩; have B2' := B1.trans (hb2.mono B1.size); have B2 := B2'.alloc B2'.size (.cells #[.int .i64 g1, .int .i64 g2] 23); clear n2)
    | (go_at_call 9; (with_reducible refine (n3 _).mono ?_); rintro e w3 ⟨rfl, hb3⟩; have B3' := B2.trans (hb3.mono B2.size); have B3 := B3'.alloc B3'.size (.cells #[.int .i64 i1, .int .i64 i2] 23); clear n3)
    | (go_at_call 10; refine (awake2 _).mono ?_; rintro e w4 ⟨rfl, hb4⟩))
  go_ret
  exact ⟨rfl, B3.trans (hb4.mono B3.size)⟩

end Go.Proofs.Ytcklodmhlhjipab
