/- Ways through the statement FracOrders. -/
import Derived.Test.YtcklodmhlhjipabFOrders0
namespace Go.Proofs.Ytcklodmhlhjipab
open Go.ChangeShapes Go.WideShapes Go.ChangeAt Go.RowKit

set_option maxRecDepth 100000 in
set_option maxHeartbeats 2000000 in
theorem orders_bad2 (a1 a2 b1 b2 c1 c2 : Int) (z v g h : Int) (w : World)
    (k1 : ∀ W, Calls Try.prog 18 #[.agg #[.int .i64 a1, .int .i64 a2], .agg #[.int .i64 b1, .int .i64 b2]] W fun e w' => e = .returned (.tuple #[.int .i64 0, .int .i64 1]) ∧ Below W.heap.size W w')
    (k2 : ∀ W, Calls Try.prog 18 #[.agg #[.int .i64 b1, .int .i64 b2], .agg #[.int .i64 a1, .int .i64 a2]] W fun e w' => e = .returned (.tuple #[.int .i64 0, .int .i64 1]) ∧ Below W.heap.size W w')
    (k3 : ∀ W, Calls Try.prog 18 #[.agg #[.int .i64 b1, .int .i64 b2], .agg #[.int .i64 c1, .int .i64 c2]] W fun e w' => e = .returned (.tuple #[.int .i64 z, .int .i64 g]) ∧ Below W.heap.size W w')
    (k4 : ∀ W, Calls Try.prog 18 #[.agg #[.int .i64 a1, .int .i64 a2], .agg #[.int .i64 c1, .int .i64 c2]] W fun e w' => e = .returned (.tuple #[.int .i64 v, .int .i64 h]) ∧ Below W.heap.size W w') (v1 : ∀ W, Calls Try.prog 16 #[.agg #[.int .i64 a1, .int .i64 a2]] W fun e w' => e = .returned (.bool true) ∧ Below W.heap.size W w') (v2 : ∀ W, Calls Try.prog 16 #[.agg #[.int .i64 b1, .int .i64 b2]] W fun e w' => e = .returned (.bool false) ∧ Below W.heap.size W w') :
    Calls Try.prog 6 #[.agg #[.int .i64 a1, .int .i64 a2], .agg #[.int .i64 b1, .int .i64 b2], .agg #[.int .i64 c1, .int .i64 c2]] w fun e w' => e = .returned (.bool true) ∧ Below w.heap.size w w' := by
  have X0 := box3_new w (.int .i64 a1) (.int .i64 a2) (.int .i64 b1) (.int .i64 b2) (.int .i64 c1) (.int .i64 c2) 23
  go_enter Try.func6, Try.ntmps6
  go_wp2_with (first
    | (go_at_call 18; (with_reducible refine (k1 _).mono ?_); rintro e w1 ⟨rfl, hb1⟩; have X1 := X0.later hb1; have p0 := X1.va.c0; have p1 := X1.va.c1; have p2 := X1.vb.c0; have p3 := X1.vb.c1; clear k1)
    | (go_at_call 18; (with_reducible refine (k2 _).mono ?_); rintro e w2 ⟨rfl, hb2⟩; have X2 := X1.later hb2; have p4 := X2.vb.c0; have p5 := X2.vb.c1; have p6 := X2.vc.c0; have p7 := X2.vc.c1; clear k2)
    | (go_at_call 18; (with_reducible refine (k3 _).mono ?_); rintro e w3 ⟨rfl, hb3⟩; have X3 := X2.later hb3; have r0 := X3.va.c0; have r1 := X3.va.c1; have r2 := X3.vc.c0; have r3 := X3.vc.c1; clear k3)
    | (go_at_call 18; (with_reducible refine (k4 _).mono ?_); rintro e w4' ⟨rfl, hb4⟩; have X4 := X3.later hb4; have s0 := X4.va.c0; have s1 := X4.va.c1; have s2 := X4.vb.c0; have s3 := X4.vb.c1; clear k4)
    | (go_at_call 10; refine (awake2 _).mono ?_; rintro e w5 ⟨rfl, hb5⟩; have X5 := X4.later hb5; have t0 := X5.va.c0; have t1 := X5.va.c1; have B := X5.old)
    | (go_at_call 16; (with_reducible refine (v1 _).mono ?_); rintro e w6 ⟨rfl, hb6⟩; replace B := B.trans (hb6.mono B.size); have X6 := X5.later hb6; have t2 := X6.vb.c0; have t3 := X6.vb.c1; clear v1)
    | (go_at_call 16; (with_reducible refine (v2 _).mono ?_); rintro e w7 ⟨rfl, hb7⟩; replace B := B.trans (hb7.mono B.size)))
  go_ret
  exact ⟨rfl, B⟩

set_option maxRecDepth 100000 in
set_option maxHeartbeats 2000000 in
theorem orders_ma_pm (a1 a2 b1 b2 c1 c2 : Int) (w : World)
    (k1 : ∀ W, Calls Try.prog 18 #[.agg #[.int .i64 a1, .int .i64 a2], .agg #[.int .i64 b1, .int .i64 b2]] W fun e w' => e = .returned (.tuple #[.int .i64 (-1), .int .i64 0]) ∧ Below W.heap.size W w')
    (k2 : ∀ W, Calls Try.prog 18 #[.agg #[.int .i64 b1, .int .i64 b2], .agg #[.int .i64 a1, .int .i64 a2]] W fun e w' => e = .returned (.tuple #[.int .i64 1, .int .i64 0]) ∧ Below W.heap.size W w')
    (k3 : ∀ W, Calls Try.prog 18 #[.agg #[.int .i64 b1, .int .i64 b2], .agg #[.int .i64 c1, .int .i64 c2]] W fun e w' => e = .returned (.tuple #[.int .i64 1, .int .i64 0]) ∧ Below W.heap.size W w')
    (k4 : ∀ W, Calls Try.prog 18 #[.agg #[.int .i64 a1, .int .i64 a2], .agg #[.int .i64 c1, .int .i64 c2]] W fun e w' => e = .returned (.tuple #[.int .i64 (-1), .int .i64 0]) ∧ Below W.heap.size W w') (v1 : ∀ W, Calls Try.prog 16 #[.agg #[.int .i64 a1, .int .i64 a2]] W fun e w' => e = .returned (.bool true) ∧ Below W.heap.size W w') (v2 : ∀ W, Calls Try.prog 16 #[.agg #[.int .i64 b1, .int .i64 b2]] W fun e w' => e = .returned (.bool true) ∧ Below W.heap.size W w') (h1 : (a1 == b1) = false) :
    Calls Try.prog 6 #[.agg #[.int .i64 a1, .int .i64 a2], .agg #[.int .i64 b1, .int .i64 b2], .agg #[.int .i64 c1, .int .i64 c2]] w fun e w' => e = .returned (.bool true) ∧ Below w.heap.size w w' := by
  have X0 := box3_new w (.int .i64 a1) (.int .i64 a2) (.int .i64 b1) (.int .i64 b2) (.int .i64 c1) (.int .i64 c2) 23
  go_enter Try.func6, Try.ntmps6
  go_wp2_with (first
    | (go_at_call 18; (with_reducible refine (k1 _).mono ?_); rintro e w1 ⟨rfl, hb1⟩; have X1 := X0.later hb1; have p0 := X1.va.c0; have p1 := X1.va.c1; have p2 := X1.vb.c0; have p3 := X1.vb.c1; clear k1)
    | (go_at_call 18; (with_reducible refine (k2 _).mono ?_); rintro e w2 ⟨rfl, hb2⟩; have X2 := X1.later hb2; have p4 := X2.vb.c0; have p5 := X2.vb.c1; have p6 := X2.vc.c0; have p7 := X2.vc.c1; clear k2)
    | (go_at_call 18; (with_reducible refine (k3 _).mono ?_); rintro e w3 ⟨rfl, hb3⟩; have X3 := X2.later hb3; have r0 := X3.va.c0; have r1 := X3.va.c1; have r2 := X3.vc.c0; have r3 := X3.vc.c1; clear k3)
    | (go_at_call 18; (with_reducible refine (k4 _).mono ?_); rintro e w4' ⟨rfl, hb4⟩; have X4 := X3.later hb4; have s0 := X4.va.c0; have s1 := X4.va.c1; have s2 := X4.vb.c0; have s3 := X4.vb.c1; clear k4)
    | (go_at_call 10; refine (awake2 _).mono ?_; rintro e w5 ⟨rfl, hb5⟩; have X5 := X4.later hb5; have t0 := X5.va.c0; have t1 := X5.va.c1; have B := X5.old)
    | (go_at_call 16; (with_reducible refine (v1 _).mono ?_); rintro e w6 ⟨rfl, hb6⟩; replace B := B.trans (hb6.mono B.size); have X6 := X5.later hb6; have t2 := X6.vb.c0; have t3 := X6.vb.c1; clear v1)
    | (go_at_call 16; (with_reducible refine (v2 _).mono ?_); rintro e w7 ⟨rfl, hb7⟩; replace B := B.trans (hb7.mono B.size)))
  go_ret
  exact ⟨rfl, B⟩

set_option maxRecDepth 100000 in
set_option maxHeartbeats 2000000 in
theorem orders_mb_mm (a1 a2 b1 b2 c1 c2 : Int) (w : World)
    (k1 : ∀ W, Calls Try.prog 18 #[.agg #[.int .i64 a1, .int .i64 a2], .agg #[.int .i64 b1, .int .i64 b2]] W fun e w' => e = .returned (.tuple #[.int .i64 (-1), .int .i64 0]) ∧ Below W.heap.size W w')
    (k2 : ∀ W, Calls Try.prog 18 #[.agg #[.int .i64 b1, .int .i64 b2], .agg #[.int .i64 a1, .int .i64 a2]] W fun e w' => e = .returned (.tuple #[.int .i64 1, .int .i64 0]) ∧ Below W.heap.size W w')
    (k3 : ∀ W, Calls Try.prog 18 #[.agg #[.int .i64 b1, .int .i64 b2], .agg #[.int .i64 c1, .int .i64 c2]] W fun e w' => e = .returned (.tuple #[.int .i64 (-1), .int .i64 0]) ∧ Below W.heap.size W w')
    (k4 : ∀ W, Calls Try.prog 18 #[.agg #[.int .i64 a1, .int .i64 a2], .agg #[.int .i64 c1, .int .i64 c2]] W fun e w' => e = .returned (.tuple #[.int .i64 (-1), .int .i64 0]) ∧ Below W.heap.size W w') (v1 : ∀ W, Calls Try.prog 16 #[.agg #[.int .i64 a1, .int .i64 a2]] W fun e w' => e = .returned (.bool true) ∧ Below W.heap.size W w') (v2 : ∀ W, Calls Try.prog 16 #[.agg #[.int .i64 b1, .int .i64 b2]] W fun e w' => e = .returned (.bool true) ∧ Below W.heap.size W w') (h1 : (a1 == b1) = true) (h2 : (a2 == b2) = false) :
    Calls Try.prog 6 #[.agg #[.int .i64 a1, .int .i64 a2], .agg #[.int .i64 b1, .int .i64 b2], .agg #[.int .i64 c1, .int .i64 c2]] w fun e w' => e = .returned (.bool true) ∧ Below w.heap.size w w' := by
  have X0 := box3_new w (.int .i64 a1) (.int .i64 a2) (.int .i64 b1) (.int .i64 b2) (.int .i64 c1) (.int .i64 c2) 23
  go_enter Try.func6, Try.ntmps6
  go_wp2_with (first
    | (go_at_call 18; (with_reducible refine (k1 _).mono ?_); rintro e w1 ⟨rfl, hb1⟩; have X1 := X0.later hb1; have p0 := X1.va.c0; have p1 := X1.va.c1; have p2 := X1.vb.c0; have p3 := X1.vb.c1; clear k1)
    | (go_at_call 18; (with_reducible refine (k2 _).mono ?_); rintro e w2 ⟨rfl, hb2⟩; have X2 := X1.later hb2; have p4 := X2.vb.c0; have p5 := X2.vb.c1; have p6 := X2.vc.c0; have p7 := X2.vc.c1; clear k2)
    | (go_at_call 18; (with_reducible refine (k3 _).mono ?_); rintro e w3 ⟨rfl, hb3⟩; have X3 := X2.later hb3; have r0 := X3.va.c0; have r1 := X3.va.c1; have r2 := X3.vc.c0; have r3 := X3.vc.c1; clear k3)
    | (go_at_call 18; (with_reducible refine (k4 _).mono ?_); rintro e w4' ⟨rfl, hb4⟩; have X4 := X3.later hb4; have s0 := X4.va.c0; have s1 := X4.va.c1; have s2 := X4.vb.c0; have s3 := X4.vb.c1; clear k4)
    | (go_at_call 10; refine (awake2 _).mono ?_; rintro e w5 ⟨rfl, hb5⟩; have X5 := X4.later hb5; have t0 := X5.va.c0; have t1 := X5.va.c1; have B := X5.old)
    | (go_at_call 16; (with_reducible refine (v1 _).mono ?_); rintro e w6 ⟨rfl, hb6⟩; replace B := B.trans (hb6.mono B.size); have X6 := X5.later hb6; have t2 := X6.vb.c0; have t3 := X6.vb.c1; clear v1)
    | (go_at_call 16; (with_reducible refine (v2 _).mono ?_); rintro e w7 ⟨rfl, hb7⟩; replace B := B.trans (hb7.mono B.size)))
  go_ret
  exact ⟨rfl, B⟩

set_option maxRecDepth 100000 in
set_option maxHeartbeats 2000000 in
theorem orders_mb_pp (a1 a2 b1 b2 c1 c2 : Int) (w : World)
    (k1 : ∀ W, Calls Try.prog 18 #[.agg #[.int .i64 a1, .int .i64 a2], .agg #[.int .i64 b1, .int .i64 b2]] W fun e w' => e = .returned (.tuple #[.int .i64 (-1), .int .i64 0]) ∧ Below W.heap.size W w')
    (k2 : ∀ W, Calls Try.prog 18 #[.agg #[.int .i64 b1, .int .i64 b2], .agg #[.int .i64 a1, .int .i64 a2]] W fun e w' => e = .returned (.tuple #[.int .i64 1, .int .i64 0]) ∧ Below W.heap.size W w')
    (k3 : ∀ W, Calls Try.prog 18 #[.agg #[.int .i64 b1, .int .i64 b2], .agg #[.int .i64 c1, .int .i64 c2]] W fun e w' => e = .returned (.tuple #[.int .i64 1, .int .i64 0]) ∧ Below W.heap.size W w')
    (k4 : ∀ W, Calls Try.prog 18 #[.agg #[.int .i64 a1, .int .i64 a2], .agg #[.int .i64 c1, .int .i64 c2]] W fun e w' => e = .returned (.tuple #[.int .i64 1, .int .i64 0]) ∧ Below W.heap.size W w') (v1 : ∀ W, Calls Try.prog 16 #[.agg #[.int .i64 a1, .int .i64 a2]] W fun e w' => e = .returned (.bool true) ∧ Below W.heap.size W w') (v2 : ∀ W, Calls Try.prog 16 #[.agg #[.int .i64 b1, .int .i64 b2]] W fun e w' => e = .returned (.bool true) ∧ Below W.heap.size W w') (h1 : (a1 == b1) = true) (h2 : (a2 == b2) = false) :
    Calls Try.prog 6 #[.agg #[.int .i64 a1, .int .i64 a2], .agg #[.int .i64 b1, .int .i64 b2], .agg #[.int .i64 c1, .int .i64 c2]] w fun e w' => e = .returned (.bool true) ∧ Below w.heap.size w w' := by
  have X0 := box3_new w (.int .i64 a1) (.int .i64 a2) (.int .i64 b1) (.int .i64 b2) (.int .i64 c1) (.int .i64 c2) 23
  go_enter Try.func6, Try.ntmps6
  go_wp2_with (first
    | (go_at_call 18; (with_reducible refine (k1 _).mono ?_); rintro e w1 ⟨rfl, hb1⟩; have X1 := X0.later hb1; have p0 := X1.va.c0; have p1 := X1.va.c1; have p2 := X1.vb.c0; have p3 := X1.vb.c1; clear k1)
    | (go_at_call 18; (with_reducible refine (k2 _).mono ?_); rintro e w2 ⟨rfl, hb2⟩; have X2 := X1.later hb2; have p4 := X2.vb.c0; have p5 := X2.vb.c1; have p6 := X2.vc.c0; have p7 := X2.vc.c1; clear k2)
    | (go_at_call 18; (with_reducible refine (k3 _).mono ?_); rintro e w3 ⟨rfl, hb3⟩; have X3 := X2.later hb3; have r0 := X3.va.c0; have r1 := X3.va.c1; have r2 := X3.vc.c0; have r3 := X3.vc.c1; clear k3)
    | (go_at_call 18; (with_reducible refine (k4 _).mono ?_); rintro e w4' ⟨rfl, hb4⟩; have X4 := X3.later hb4; have s0 := X4.va.c0; have s1 := X4.va.c1; have s2 := X4.vb.c0; have s3 := X4.vb.c1; clear k4)
    | (go_at_call 10; refine (awake2 _).mono ?_; rintro e w5 ⟨rfl, hb5⟩; have X5 := X4.later hb5; have t0 := X5.va.c0; have t1 := X5.va.c1; have B := X5.old)
    | (go_at_call 16; (with_reducible refine (v1 _).mono ?_); rintro e w6 ⟨rfl, hb6⟩; replace B := B.trans (hb6.mono B.size); have X6 := X5.later hb6; have t2 := X6.vb.c0; have t3 := X6.vb.c1; clear v1)
    | (go_at_call 16; (with_reducible refine (v2 _).mono ?_); rintro e w7 ⟨rfl, hb7⟩; replace B := B.trans (hb7.mono B.size)))
  go_ret
  exact ⟨rfl, B⟩

set_option maxRecDepth 100000 in
set_option maxHeartbeats 2000000 in
theorem orders_z_pp (a1 a2 b1 b2 c1 c2 : Int) (w : World)
    (k1 : ∀ W, Calls Try.prog 18 #[.agg #[.int .i64 a1, .int .i64 a2], .agg #[.int .i64 b1, .int .i64 b2]] W fun e w' => e = .returned (.tuple #[.int .i64 0, .int .i64 0]) ∧ Below W.heap.size W w')
    (k2 : ∀ W, Calls Try.prog 18 #[.agg #[.int .i64 b1, .int .i64 b2], .agg #[.int .i64 a1, .int .i64 a2]] W fun e w' => e = .returned (.tuple #[.int .i64 0, .int .i64 0]) ∧ Below W.heap.size W w')
    (k3 : ∀ W, Calls Try.prog 18 #[.agg #[.int .i64 b1, .int .i64 b2], .agg #[.int .i64 c1, .int .i64 c2]] W fun e w' => e = .returned (.tuple #[.int .i64 1, .int .i64 0]) ∧ Below W.heap.size W w')
    (k4 : ∀ W, Calls Try.prog 18 #[.agg #[.int .i64 a1, .int .i64 a2], .agg #[.int .i64 c1, .int .i64 c2]] W fun e w' => e = .returned (.tuple #[.int .i64 1, .int .i64 0]) ∧ Below W.heap.size W w') (v1 : ∀ W, Calls Try.prog 16 #[.agg #[.int .i64 a1, .int .i64 a2]] W fun e w' => e = .returned (.bool true) ∧ Below W.heap.size W w') (v2 : ∀ W, Calls Try.prog 16 #[.agg #[.int .i64 b1, .int .i64 b2]] W fun e w' => e = .returned (.bool true) ∧ Below W.heap.size W w') (h1 : (a1 == b1) = true) (h2 : (a2 == b2) = true) :
    Calls Try.prog 6 #[.agg #[.int .i64 a1, .int .i64 a2], .agg #[.int .i64 b1, .int .i64 b2], .agg #[.int .i64 c1, .int .i64 c2]] w fun e w' => e = .returned (.bool true) ∧ Below w.heap.size w w' := by
  have X0 := box3_new w (.int .i64 a1) (.int .i64 a2) (.int .i64 b1) (.int .i64 b2) (.int .i64 c1) (.int .i64 c2) 23
  go_enter Try.func6, Try.ntmps6
  go_wp2_with (first
    | (go_at_call 18; (with_reducible refine (k1 _).mono ?_); rintro e w1 ⟨rfl, hb1⟩; have X1 := X0.later hb1; have p0 := X1.va.c0; have p1 := X1.va.c1; have p2 := X1.vb.c0; have p3 := X1.vb.c1; clear k1)
    | (go_at_call 18; (with_reducible refine (k2 _).mono ?_); rintro e w2 ⟨rfl, hb2⟩; have X2 := X1.later hb2; have p4 := X2.vb.c0; have p5 := X2.vb.c1; have p6 := X2.vc.c0; have p7 := X2.vc.c1; clear k2)
    | (go_at_call 18; (with_reducible refine (k3 _).mono ?_); rintro e w3 ⟨rfl, hb3⟩; have X3 := X2.later hb3; have r0 := X3.va.c0; have r1 := X3.va.c1; have r2 := X3.vc.c0; have r3 := X3.vc.c1; clear k3)
    | (go_at_call 18; (with_reducible refine (k4 _).mono ?_); rintro e w4' ⟨rfl, hb4⟩; have X4 := X3.later hb4; have s0 := X4.va.c0; have s1 := X4.va.c1; have s2 := X4.vb.c0; have s3 := X4.vb.c1; clear k4)
    | (go_at_call 10; refine (awake2 _).mono ?_; rintro e w5 ⟨rfl, hb5⟩; have X5 := X4.later hb5; have t0 := X5.va.c0; have t1 := X5.va.c1; have B := X5.old)
    | (go_at_call 16; (with_reducible refine (v1 _).mono ?_); rintro e w6 ⟨rfl, hb6⟩; replace B := B.trans (hb6.mono B.size); have X6 := X5.later hb6; have t2 := X6.vb.c0; have t3 := X6.vb.c1; clear v1)
    | (go_at_call 16; (with_reducible refine (v2 _).mono ?_); rintro e w7 ⟨rfl, hb7⟩; replace B := B.trans (hb7.mono B.size)))
  go_ret
  exact ⟨rfl, B⟩

set_option maxRecDepth 100000 in
set_option maxHeartbeats 2000000 in
theorem orders_pa_mp (a1 a2 b1 b2 c1 c2 : Int) (w : World)
    (k1 : ∀ W, Calls Try.prog 18 #[.agg #[.int .i64 a1, .int .i64 a2], .agg #[.int .i64 b1, .int .i64 b2]] W fun e w' => e = .returned (.tuple #[.int .i64 1, .int .i64 0]) ∧ Below W.heap.size W w')
    (k2 : ∀ W, Calls Try.prog 18 #[.agg #[.int .i64 b1, .int .i64 b2], .agg #[.int .i64 a1, .int .i64 a2]] W fun e w' => e = .returned (.tuple #[.int .i64 (-1), .int .i64 0]) ∧ Below W.heap.size W w')
    (k3 : ∀ W, Calls Try.prog 18 #[.agg #[.int .i64 b1, .int .i64 b2], .agg #[.int .i64 c1, .int .i64 c2]] W fun e w' => e = .returned (.tuple #[.int .i64 (-1), .int .i64 0]) ∧ Below W.heap.size W w')
    (k4 : ∀ W, Calls Try.prog 18 #[.agg #[.int .i64 a1, .int .i64 a2], .agg #[.int .i64 c1, .int .i64 c2]] W fun e w' => e = .returned (.tuple #[.int .i64 1, .int .i64 0]) ∧ Below W.heap.size W w') (v1 : ∀ W, Calls Try.prog 16 #[.agg #[.int .i64 a1, .int .i64 a2]] W fun e w' => e = .returned (.bool true) ∧ Below W.heap.size W w') (v2 : ∀ W, Calls Try.prog 16 #[.agg #[.int .i64 b1, .int .i64 b2]] W fun e w' => e = .returned (.bool true) ∧ Below W.heap.size W w') (h1 : (a1 == b1) = false) :
    Calls Try.prog 6 #[.agg #[.int .i64 a1, .int .i64 a2], .agg #[.int .i64 b1, .int .i64 b2], .agg #[.int .i64 c1, .int .i64 c2]] w fun e w' => e = .returned (.bool true) ∧ Below w.heap.size w w' := by
  have X0 := box3_new w (.int .i64 a1) (.int .i64 a2) (.int .i64 b1) (.int .i64 b2) (.int .i64 c1) (.int .i64 c2) 23
  go_enter Try.func6, Try.ntmps6
  go_wp2_with (first
    | (go_at_call 18; (with_reducible refine (k1 _).mono ?_); rintro e w1 ⟨rfl, hb1⟩; have X1 := X0.later hb1; have p0 := X1.va.c0; have p1 := X1.va.c1; have p2 := X1.vb.c0; have p3 := X1.vb.c1; clear k1)
    | (go_at_call 18; (with_reducible refine (k2 _).mono ?_); rintro e w2 ⟨rfl, hb2⟩; have X2 := X1.later hb2; have p4 := X2.vb.c0; have p5 := X2.vb.c1; have p6 := X2.vc.c0; have p7 := X2.vc.c1; clear k2)
    | (go_at_call 18; (with_reducible refine (k3 _).mono ?_); rintro e w3 ⟨rfl, hb3⟩; have X3 := X2.later hb3; have r0 := X3.va.c0; have r1 := X3.va.c1; have r2 := X3.vc.c0; have r3 := X3.vc.c1; clear k3)
    | (go_at_call 18; (with_reducible refine (k4 _).mono ?_); rintro e w4' ⟨rfl, hb4⟩; have X4 := X3.later hb4; have s0 := X4.va.c0; have s1 := X4.va.c1; have s2 := X4.vb.c0; have s3 := X4.vb.c1; clear k4)
    | (go_at_call 10; refine (awake2 _).mono ?_; rintro e w5 ⟨rfl, hb5⟩; have X5 := X4.later hb5; have t0 := X5.va.c0; have t1 := X5.va.c1; have B := X5.old)
    | (go_at_call 16; (with_reducible refine (v1 _).mono ?_); rintro e w6 ⟨rfl, hb6⟩; replace B := B.trans (hb6.mono B.size); have X6 := X5.later hb6; have t2 := X6.vb.c0; have t3 := X6.vb.c1; clear v1)
    | (go_at_call 16; (with_reducible refine (v2 _).mono ?_); rintro e w7 ⟨rfl, hb7⟩; replace B := B.trans (hb7.mono B.size)))
  go_ret
  exact ⟨rfl, B⟩

set_option maxRecDepth 100000 in
set_option maxHeartbeats 2000000 in
theorem orders_pa_pp (a1 a2 b1 b2 c1 c2 : Int) (w : World)
    (k1 : ∀ W, Calls Try.prog 18 #[.agg #[.int .i64 a1, .int .i64 a2], .agg #[.int .i64 b1, .int .i64 b2]] W fun e w' => e = .returned (.tuple #[.int .i64 1, .int .i64 0]) ∧ Below W.heap.size W w')
    (k2 : ∀ W, Calls Try.prog 18 #[.agg #[.int .i64 b1, .int .i64 b2], .agg #[.int .i64 a1, .int .i64 a2]] W fun e w' => e = .returned (.tuple #[.int .i64 (-1), .int .i64 0]) ∧ Below W.heap.size W w')
    (k3 : ∀ W, Calls Try.prog 18 #[.agg #[.int .i64 b1, .int .i64 b2], .agg #[.int .i64 c1, .int .i64 c2]] W fun e w' => e = .returned (.tuple #[.int .i64 1, .int .i64 0]) ∧ Below W.heap.size W w')
    (k4 : ∀ W, Calls Try.prog 18 #[.agg #[.int .i64 a1, .int .i64 a2], .agg #[.int .i64 c1, .int .i64 c2]] W fun e w' => e = .returned (.tuple #[.int .i64 1, .int .i64 0]) ∧ Below W.heap.size W w') (v1 : ∀ W, Calls Try.prog 16 #[.agg #[.int .i64 a1, .int .i64 a2]] W fun e w' => e = .returned (.bool true) ∧ Below W.heap.size W w') (v2 : ∀ W, Calls Try.prog 16 #[.agg #[.int .i64 b1, .int .i64 b2]] W fun e w' => e = .returned (.bool true) ∧ Below W.heap.size W w') (h1 : (a1 == b1) = false) :
    Calls Try.prog 6 #[.agg #[.int .i64 a1, .int .i64 a2], .agg #[.int .i64 b1, .int .i64 b2], .agg #[.int .i64 c1, .int .i64 c2]] w fun e w' => e = .returned (.bool true) ∧ Below w.heap.size w w' := by
  have X0 := box3_new w (.int .i64 a1) (.int .i64 a2) (.int .i64 b1) (.int .i64 b2) (.int .i64 c1) (.int .i64 c2) 23
  go_enter Try.func6, Try.ntmps6
  go_wp2_with (first
    | (go_at_call 18; (with_reducible refine (k1 _).mono ?_); rintro e w1 ⟨rfl, hb1⟩; have X1 := X0.later hb1; have p0 := X1.va.c0; have p1 := X1.va.c1; have p2 := X1.vb.c0; have p3 := X1.vb.c1; clear k1)
    | (go_at_call 18; (with_reducible refine (k2 _).mono ?_); rintro e w2 ⟨rfl, hb2⟩; have X2 := X1.later hb2; have p4 := X2.vb.c0; have p5 := X2.vb.c1; have p6 := X2.vc.c0; have p7 := X2.vc.c1; clear k2)
    | (go_at_call 18; (with_reducible refine (k3 _).mono ?_); rintro e w3 ⟨rfl, hb3⟩; have X3 := X2.later hb3; have r0 := X3.va.c0; have r1 := X3.va.c1; have r2 := X3.vc.c0; have r3 := X3.vc.c1; clear k3)
    | (go_at_call 18; (with_reducible refine (k4 _).mono ?_); rintro e w4' ⟨rfl, hb4⟩; have X4 := X3.later hb4; have s0 := X4.va.c0; have s1 := X4.va.c1; have s2 := X4.vb.c0; have s3 := X4.vb.c1; clear k4)
    | (go_at_call 10; refine (awake2 _).mono ?_; rintro e w5 ⟨rfl, hb5⟩; have X5 := X4.later hb5; have t0 := X5.va.c0; have t1 := X5.va.c1; have B := X5.old)
    | (go_at_call 16; (with_reducible refine (v1 _).mono ?_); rintro e w6 ⟨rfl, hb6⟩; replace B := B.trans (hb6.mono B.size); have X6 := X5.later hb6; have t2 := X6.vb.c0; have t3 := X6.vb.c1; clear v1)
    | (go_at_call 16; (with_reducible refine (v2 _).mono ?_); rintro e w7 ⟨rfl, hb7⟩; replace B := B.trans (hb7.mono B.size)))
  go_ret
  exact ⟨rfl, B⟩

set_option maxRecDepth 100000 in
set_option maxHeartbeats 2000000 in
theorem orders_pb_mp (a1 a2 b1 b2 c1 c2 : Int) (w : World)
    (k1 : ∀ W, Calls Try.prog 18 #[.agg #[.int .i64 a1, .int .i64 a2], .agg #[.int .i64 b1, .int .i64 b2]] W fun e w' => e = .returned (.tuple #[.int .i64 1, .int .i64 0]) ∧ Below W.heap.size W w')
    (k2 : ∀ W, Calls Try.prog 18 #[.agg #[.int .i64 b1, .int .i64 b2], .agg #[.int .i64 a1, .int .i64 a2]] W fun e w' => e = .returned (.tuple #[.int .i64 (-1), .int .i64 0]) ∧ Below W.heap.size W w')
    (k3 : ∀ W, Calls Try.prog 18 #[.agg #[.int .i64 b1, .int .i64 b2], .agg #[.int .i64 c1, .int .i64 c2]] W fun e w' => e = .returned (.tuple #[.int .i64 (-1), .int .i64 0]) ∧ Below W.heap.size W w')
    (k4 : ∀ W, Calls Try.prog 18 #[.agg #[.int .i64 a1, .int .i64 a2], .agg #[.int .i64 c1, .int .i64 c2]] W fun e w' => e = .returned (.tuple #[.int .i64 1, .int .i64 0]) ∧ Below W.heap.size W w') (v1 : ∀ W, Calls Try.prog 16 #[.agg #[.int .i64 a1, .int .i64 a2]] W fun e w' => e = .returned (.bool true) ∧ Below W.heap.size W w') (v2 : ∀ W, Calls Try.prog 16 #[.agg #[.int .i64 b1, .int .i64 b2]] W fun e w' => e = .returned (.bool true) ∧ Below W.heap.size W w') (h1 : (a1 == b1) = true) (h2 : (a2 == b2) = false) :
    Calls Try.prog 6 #[.agg #[.int .i64 a1, .int .i64 a2], .agg #[.int .i64 b1, .int .i64 b2], .agg #[.int .i64 c1, .int .i64 c2]] w fun e w' => e = .returned (.bool true) ∧ Below w.heap.size w w' := by
  have X0 := box3_new w (.int .i64 a1) (.int .i64 a2) (.int .i64 b1) (.int .i64 b2) (.int .i64 c1) (.int .i64 c2) 23
  go_enter Try.func6, Try.ntmps6
  go_wp2_with (first
    | (go_at_call 18; (with_reducible refine (k1 _).mono ?_); rintro e w1 ⟨rfl, hb1⟩; have X1 := X0.later hb1; have p0 := X1.va.c0; have p1 := X1.va.c1; have p2 := X1.vb.c0; have p3 := X1.vb.c1; clear k1)
    | (go_at_call 18; (with_reducible refine (k2 _).mono ?_); rintro e w2 ⟨rfl, hb2⟩; have X2 := X1.later hb2; have p4 := X2.vb.c0; have p5 := X2.vb.c1; have p6 := X2.vc.c0; have p7 := X2.vc.c1; clear k2)
    | (go_at_call 18; (with_reducible refine (k3 _).mono ?_); rintro e w3 ⟨rfl, hb3⟩; have X3 := X2.later hb3; have r0 := X3.va.c0; have r1 := X3.va.c1; have r2 := X3.vc.c0; have r3 := X3.vc.c1; clear k3)
    | (go_at_call 18; (with_reducible refine (k4 _).mono ?_); rintro e w4' ⟨rfl, hb4⟩; have X4 := X3.later hb4; have s0 := X4.va.c0; have s1 := X4.va.c1; have s2 := X4.vb.c0; have s3 := X4.vb.c1; clear k4)
    | (go_at_call 10; refine (awake2 _).mono ?_; rintro e w5 ⟨rfl, hb5⟩; have X5 := X4.later hb5; have t0 := X5.va.c0; have t1 := X5.va.c1; have B := X5.old)
    | (go_at_call 16; (with_reducible refine (v1 _).mono ?_); rintro e w6 ⟨rfl, hb6⟩; replace B := B.trans (hb6.mono B.size); have X6 := X5.later hb6; have t2 := X6.vb.c0; have t3 := X6.vb.c1; clear v1)
    | (go_at_call 16; (with_reducible refine (v2 _).mono ?_); rintro e w7 ⟨rfl, hb7⟩; replace B := B.trans (hb7.mono B.size)))
  go_ret
  exact ⟨rfl, B⟩

set_option maxRecDepth 100000 in
set_option maxHeartbeats 2000000 in
theorem orders_pb_pp (a1 a2 b1 b2 c1 c2 : Int) (w : World)
    (k1 : ∀ W, Calls Try.prog 18 #[.agg #[.int .i64 a1, .int .i64 a2], .agg #[.int .i64 b1, .int .i64 b2]] W fun e w' => e = .returned (.tuple #[.int .i64 1, .int .i64 0]) ∧ Below W.heap.size W w')
    (k2 : ∀ W, Calls Try.prog 18 #[.agg #[.int .i64 b1, .int .i64 b2], .agg #[.int .i64 a1, .int .i64 a2]] W fun e w' => e = .returned (.tuple #[.int .i64 (-1), .int .i64 0]) ∧ Below W.heap.size W w')
    (k3 : ∀ W, Calls Try.prog 18 #[.agg #[.int .i64 b1, .int .i64 b2], .agg #[.int .i64 c1, .int .i64 c2]] W fun e w' => e = .returned (.tuple #[.int .i64 1, .int .i64 0]) ∧ Below W.heap.size W w')
    (k4 : ∀ W, Calls Try.prog 18 #[.agg #[.int .i64 a1, .int .i64 a2], .agg #[.int .i64 c1, .int .i64 c2]] W fun e w' => e = .returned (.tuple #[.int .i64 1, .int .i64 0]) ∧ Below W.heap.size W w') (v1 : ∀ W, Calls Try.prog 16 #[.agg #[.int .i64 a1, .int .i64 a2]] W fun e w' => e = .returned (.bool true) ∧ Below W.heap.size W w') (v2 : ∀ W, Calls Try.prog 16 #[.agg #[.int .i64 b1, .int .i64 b2]] W fun e w' => e = .returned (.bool true) ∧ Below W.heap.size W w') (h1 : (a1 == b1) = true) (h2 : (a2 == b2) = false) :
    Calls Try.prog 6 #[.agg #[.int .i64 a1, .int .i64 a2], .agg #[.int .i64 b1, .int .i64 b2], .agg #[.int .i64 c1, .int .i64 c2]] w fun e w' => e = .returned (.bool true) ∧ Below w.heap.size w w' := by
  have X0 := box3_new w (.int .i64 a1) (.int .i64 a2) (.int .i64 b1) (.int .i64 b2) (.int .i64 c1) (.int .i64 c2) 23
  go_enter Try.func6, Try.ntmps6
  go_wp2_with (first
    | (go_at_call 18; (with_reducible refine (k1 _).mono ?_); rintro e w1 ⟨rfl, hb1⟩; have X1 := X0.later hb1; have p0 := X1.va.c0; have p1 := X1.va.c1; have p2 := X1.vb.c0; have p3 := X1.vb.c1; clear k1)
    | (go_at_call 18; (with_reducible refine (k2 _).mono ?_); rintro e w2 ⟨rfl, hb2⟩; have X2 := X1.later hb2; have p4 := X2.vb.c0; have p5 := X2.vb.c1; have p6 := X2.vc.c0; have p7 := X2.vc.c1; clear k2)
    | (go_at_call 18; (with_reducible refine (k3 _).mono ?_); rintro e w3 ⟨rfl, hb3⟩; have X3 := X2.later hb3; have r0 := X3.va.c0; have r1 := X3.va.c1; have r2 := X3.vc.c0; have r3 := X3.vc.c1; clear k3)
    | (go_at_call 18; (with_reducible refine (k4 _).mono ?_); rintro e w4' ⟨rfl, hb4⟩; have X4 := X3.later hb4; have s0 := X4.va.c0; have s1 := X4.va.c1; have s2 := X4.vb.c0; have s3 := X4.vb.c1; clear k4)
    | (go_at_call 10; refine (awake2 _).mono ?_; rintro e w5 ⟨rfl, hb5⟩; have X5 := X4.later hb5; have t0 := X5.va.c0; have t1 := X5.va.c1; have B := X5.old)
    | (go_at_call 16; (with_reducible refine (v1 _).mono ?_); rintro e w6 ⟨rfl, hb6⟩; replace B := B.trans (hb6.mono B.size); have X6 := X5.later hb6; have t2 := X6.vb.c0; have t3 := X6.vb.c1; clear v1)
    | (go_at_call 16; (with_reducible refine (v2 _).mono ?_); rintro e w7 ⟨rfl, hb7⟩; replace B := B.trans (hb7.mono B.size)))
  go_ret
  exact ⟨rfl, B⟩
end Go.Proofs.Ytcklodmhlhjipab
