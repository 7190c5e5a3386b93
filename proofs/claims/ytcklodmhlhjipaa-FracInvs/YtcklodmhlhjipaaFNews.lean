/- The statements FracNews and FracInvs: by the document's answer. -/
import Derived.Test.YtcklodmhlhjipaaFrRef
import Derived.Test.YtcklodmhlhjipaaFrArg
namespace Go.Proofs.Ytcklodmhlhjipaa
open Go.ChangeShapes Go.WideShapes Go.ChangeAt Go.RowKit

set_option maxRecDepth 100000 in
set_option maxHeartbeats 1000000 in
theorem news_any (n d : Int) (w : World) (hn : -9223372036854775808 ≤ n ∧ n ≤ 9223372036854775807) (hd : -9223372036854775808 ≤ d ∧ d ≤ 9223372036854775807) :
    Calls Try.prog 3 #[.int .i64 n, .int .i64 d] w fun e w' => e = .returned (.bool true) ∧ Below w.heap.size w w' := by
  have h1 : ∀ w, Calls Try.prog 9 #[.int .i64 n, .int .i64 d] w fun e w' => e = .returned (.tuple #[.agg #[.int .i64 (newN n d), .int .i64 (newD n d)], .int .i64 (newE n d)]) ∧ Below w.heap.size w w' := fun w => new_any n d w hn hd
  have h2 : ∀ w, Calls Try.prog 10 #[.int .i64 n, .int .i64 d] w fun e w' => e = .returned (.tuple #[.agg #[.int .i64 (newN n d), .int .i64 (newD n d)], .int .i64 (newE n d)]) ∧ Below w.heap.size w w' := fun w => rnew_any n d w hn hd
  have h3 := fun w => valid_any n d w hn hd
  have h4 := fun w => rvalid_any n d w hn hd
  generalize newN n d = x at *
  generalize newD n d = y at *
  generalize newE n d = z at *
  generalize validB n d = b at *
  have q1 : (x == x) = true := by simp
  have q2 : (y == y) = true := by simp
  have q3 : (z == z) = true := by simp
  have q4 : (b == b) = true := by simp
  clear hn hd
  go_enter Try.func3, Try.ntmps3
  go_wp2_with (first
    | (go_at_call 9; refine (h1 _).mono ?_; rintro e w1 ⟨rfl, hb1⟩; have B1 := hb1.alloc hb1.size (.cells #[.int .i64 x, .int .i64 y] 23); have V1 := var2_new w1 (.int .i64 x) (.int .i64 y) 23)
    | (go_at_call 10; refine (h2 _).mono ?_; rintro e w2 ⟨rfl, hb2⟩; have B2' := B1.trans (hb2.mono B1.size); have B2 := B2'.alloc B2'.size (.cells #[.int .i64 x, .int .i64 y] 23); have V2 := (V1.later hb2 V1.lt).alloc (.cells #[.int .i64 x, .int .i64 y] 23); have U2 := var2_new w2 (.int .i64 x) (.int .i64 y) 23)
    | (go_at_call 11; refine (h3 _).mono ?_; rintro e w3 ⟨rfl, hb3⟩; have B3 := B2.trans (hb3.mono B2.size); have V3 := V2.later hb3 V2.lt; have U3 := U2.later hb3 U2.lt)
    | (go_at_call 12; refine (awake2 _).mono ?_; rintro e w4 ⟨rfl, hb4⟩; have B4 := B3.trans (hb4.mono B3.size); have V4 := V3.later hb4 V3.lt; have U4 := U3.later hb4 U3.lt; have v0 := V4.c0; have v1 := V4.c1; have u0 := U4.c0; have u1 := U4.c1)
    | (go_at_call 13; refine (h4 _).mono ?_; rintro e w5 ⟨rfl, hb5⟩))
  go_ret
  exact ⟨rfl, B4.trans (hb5.mono B4.size)⟩

set_option maxRecDepth 100000 in
set_option maxHeartbeats 1000000 in
theorem invs_any (n d : Int) (w : World) (hn : -9223372036854775808 ≤ n ∧ n ≤ 9223372036854775807) (hd : -9223372036854775808 ≤ d ∧ d ≤ 9223372036854775807) :
    Calls Try.prog 5 #[.agg #[.int .i64 n, .int .i64 d]] w fun e w' => e = .returned (.bool true) ∧ Below w.heap.size w w' := by
  have h1 : ∀ w, Calls Try.prog 18 #[.agg #[.int .i64 n, .int .i64 d]] w fun e w' => e = .returned (.tuple #[.agg #[.int .i64 (invN n d), .int .i64 (invD n d)], .int .i64 (invE n d)]) ∧ Below w.heap.size w w' := fun w => inv_frac n d w hn hd
  have h2 : ∀ w, Calls Try.prog 19 #[.agg #[.int .i64 n, .int .i64 d]] w fun e w' => e = .returned (.tuple #[.agg #[.int .i64 (invN n d), .int .i64 (invD n d)], .int .i64 (invE n d)]) ∧ Below w.heap.size w w' := fun w => rinv_any n d w hn hd
  generalize invN n d = x at *
  generalize invD n d = y at *
  generalize invE n d = z at *
  have q1 : (x == x) = true := by simp
  have q2 : (y == y) = true := by simp
  have q3 : (z == z) = true := by simp
  have V0 := var2_new w (.int .i64 n) (.int .i64 d) 23
  have B0 : Below w.heap.size w (w.alloc (.cells #[.int .i64 n, .int .i64 d] 23)) := (Below.refl _ _).alloc (Nat.le_refl _) _
  clear hn hd
  go_enter Try.func5, Try.ntmps5
  go_wp2_with (first
    | (go_at_call 18; refine (h1 _).mono ?_; rintro e w1 ⟨rfl, hb1⟩; have B1' := B0.trans (hb1.mono B0.size); have B1 := B1'.alloc B1'.size (.cells #[.int .i64 x, .int .i64 y] 23); have V1 := (V0.later hb1 V0.lt).alloc (.cells #[.int .i64 x, .int .i64 y] 23); have U1 := var2_new w1 (.int .i64 x) (.int .i64 y) 23; have v0 := V1.c0; have v1 := V1.c1)
    | (go_at_call 19; refine (h2 _).mono ?_; rintro e w2 ⟨rfl, hb2⟩; have B2' := B1.trans (hb2.mono B1.size); have B2 := B2'.alloc B2'.size (.cells #[.int .i64 x, .int .i64 y] 23); have U2 := (U1.later hb2 U1.lt).alloc (.cells #[.int .i64 x, .int .i64 y] 23); have T2 := var2_new w2 (.int .i64 x) (.int .i64 y) 23)
    | (go_at_call 12; refine (awake2 _).mono ?_; rintro e w4 ⟨rfl, hb4⟩; have B4 := B2.trans (hb4.mono B2.size); have U4 := U2.later hb4 U2.lt; have T4 := T2.later hb4 T2.lt; have u0 := U4.c0; have u1 := U4.c1; have t0 := T4.c0; have t1 := T4.c1))
  go_ret
  exact ⟨rfl, B4⟩
end Go.Proofs.Ytcklodmhlhjipaa
