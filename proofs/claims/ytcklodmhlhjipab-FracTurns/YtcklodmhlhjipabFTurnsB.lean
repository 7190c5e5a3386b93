/- Ways through the statement FracTurns where the first is turned. -/
import Derived.Test.YtcklodmhlhjipabFTurns
namespace Go.Proofs.Ytcklodmhlhjipab
open Go.ChangeShapes Go.WideShapes Go.ChangeAt Go.RowKit

set_option maxRecDepth 100000 in
set_option maxHeartbeats 2000000 in
theorem turns_a (a1 a2 b1 b2 p1 p2 pe i1 i2 j1 j2 l : Int) (w : World) (hl : (l == 0) = false)
    (m1 : ∀ x W, AtP W x [(a1, a2), (b1, b2)] → Calls Try.prog 14 #[.slice x 2 2] W fun e w' => e = .returned (.tuple #[.agg #[.int .i64 p1, .int .i64 p2], .int .i64 pe]) ∧ Below W.heap.size W w')
    (m2 : ∀ x W, AtP W x [(b1, b2), (a1, a2)] → Calls Try.prog 14 #[.slice x 2 2] W fun e w' => e = .returned (.tuple #[.agg #[.int .i64 p1, .int .i64 p2], .int .i64 pe]) ∧ Below W.heap.size W w')
    (n1 : ∀ W, Calls Try.prog 17 #[.agg #[.int .i64 a1, .int .i64 a2]] W fun e w' => e = .returned (.tuple #[.agg #[.int .i64 i1, .int .i64 i2], .int .i64 0]) ∧ Below W.heap.size W w')
    (m3 : ∀ x W, AtP W x [(a1, a2), (i1, i2)] → Calls Try.prog 14 #[.slice x 2 2] W fun e w' => e = .returned (.tuple #[.agg #[.int .i64 1, .int .i64 1], .int .i64 0]) ∧ Below W.heap.size W w')
    (n2 : ∀ W, Calls Try.prog 17 #[.agg #[.int .i64 i1, .int .i64 i2]] W fun e w' => e = .returned (.tuple #[.agg #[.int .i64 a1, .int .i64 a2], .int .i64 0]) ∧ Below W.heap.size W w')
    (n3 : ∀ W, Calls Try.prog 17 #[.agg #[.int .i64 b1, .int .i64 b2]] W fun e w' => e = .returned (.tuple #[.agg #[.int .i64 j1, .int .i64 j2], .int .i64 l]) ∧ Below W.heap.size W w') :
    Calls Try.prog 5 #[.agg #[.int .i64 a1, .int .i64 a2], .agg #[.int .i64 b1, .int .i64 b2]] w fun e w' => e = .returned (.bool true) ∧ Below w.heap.size w w' := by
  have X0 := box2_new w (.int .i64 a1) (.int .i64 a2) (.int .i64 b1) (.int .i64 b2) 23
  have Y0 := X0.alloc (.cells #[.int .i64 a1, .int .i64 a2, .int .i64 b1, .int .i64 b2] 23)
  have q0 : (p1 != p1) = false := by simp
  have r0 : (p1 == p1) = true := by simp
  have q1 : (p2 != p2) = false := by simp
  have r1 : (p2 == p2) = true := by simp
  have q2 : (pe != pe) = false := by simp
  have r2 : (pe == pe) = true := by simp
  have q3 : (a1 != a1) = false := by simp
  have r3 : (a1 == a1) = true := by simp
  have q4 : (a2 != a2) = false := by simp
  have r4 : (a2 == a2) = true := by simp
  go_enter Try.func5, Try.ntmps5
  go_wp2_with (first
    | (go_at_call 14; (with_reducible refine (m1 _ _ (atP2 (t := 23) ?_)).mono ?_); (simp); rintro e w1 ⟨rfl, hb1⟩; have X1 := (Y0.later hb1).alloc (.cells #[.int .i64 p1, .int .i64 p2] 23); have P1 := var2_new w1 (.int .i64 p1) (.int .i64 p2) 23; have c0 := X1.va.c0; have c1 := X1.va.c1; have c2 := X1.vb.c0; have c3 := X1.vb.c1; have Y1 := X1.alloc (.cells #[.int .i64 b1, .int .i64 b2, .int .i64 a1, .int .i64 a2] 23); have P1' := P1.alloc (.cells #[.int .i64 b1, .int .i64 b2, .int .i64 a1, .int .i64 a2] 23); clear m1)
    | (go_at_call 14; (with_reducible refine (m2 _ _ (atP2 (t := 23) ?_)).mono ?_); (simp); rintro e w2 ⟨rfl, hb2⟩; have X2 := (Y1.later hb2).alloc (.cells #[.int .i64 p1, .int .i64 p2] 23); have P2 := (P1'.later hb2 P1'.lt).alloc (.cells #[.int .i64 p1, .int .i64 p2] 23); have Q2 := var2_new w2 (.int .i64 p1) (.int .i64 p2) 23; have d0 := P2.c0; have d1 := P2.c1; have e0 := Q2.c0; have e1 := Q2.c1; have f0 := X2.va.c0; have f1 := X2.va.c1; clear m2)
    | (go_at_call 17; (with_reducible refine (n1 _).mono ?_); rintro e w3 ⟨rfl, hb3⟩; have X3 := (X2.later hb3).alloc (.cells #[.int .i64 i1, .int .i64 i2] 23); have I3 := var2_new w3 (.int .i64 i1) (.int .i64 i2) 23; have g0 := X3.va.c0; have g1 := X3.va.c1; have g2 := I3.c0; have g3 := I3.c1; have Y3 := X3.alloc (.cells #[.int .i64 a1, .int .i64 a2, .int .i64 i1, .int .i64 i2] 23); have I3' := I3.alloc (.cells #[.int .i64 a1, .int .i64 a2, .int .i64 i1, .int .i64 i2] 23); clear n1)
    | (go_at_call 14; (with_reducible refine (m3 _ _ (atP2 (t := 23) ?_)).mono ?_); (simp); rintro e w4 ⟨rfl, hb4⟩; have X4 := (Y3.later hb4).alloc (.cells #[.int .i64 1, .int .i64 1] 23); have I4 := (I3'.later hb4 I3'.lt).alloc (.cells #[.int .i64 1, .int .i64 1] 23); have O4 := var2_new w4 (.int .i64 1) (.int .i64 1) 23; have h0 := I4.c0; have h1 := I4.c1; clear m3)
    | (go_at_call 17; (with_reducible refine (n2 _).mono ?_); rintro e w5 ⟨rfl, hb5⟩; have X5 := (X4.later hb5).alloc (.cells #[.int .i64 a1, .int .i64 a2] 23); have I5 := (I4.later hb5 I4.lt).alloc (.cells #[.int .i64 a1, .int .i64 a2] 23); have O5 := (O4.later hb5 O4.lt).alloc (.cells #[.int .i64 a1, .int .i64 a2] 23); have K5 := var2_new w5 (.int .i64 a1) (.int .i64 a2) 23; have s0 := O5.c0; have s1 := O5.c1; have s2 := K5.c0; have s3 := K5.c1; have s4 := X5.va.c0; have s5 := X5.va.c1; have s6 := X5.vb.c0; have s7 := X5.vb.c1; clear n2)
    | (go_at_call 17; (with_reducible refine (n3 _).mono ?_); rintro e w6 ⟨rfl, hb6⟩; have X6 := (X5.later hb6).alloc (.cells #[.int .i64 j1, .int .i64 j2] 23); have B := X6.old; have t0 := X6.va.c0; have t1 := X6.va.c1; have t2 := X6.vb.c0; have t3 := X6.vb.c1; clear n3)
    | (go_at_call 10; refine (awake2 _).mono ?_; rintro e w9 ⟨rfl, hb9⟩))
  go_ret
  exact ⟨rfl, B.trans (hb9.mono B.size)⟩

set_option maxRecDepth 100000 in
set_option maxHeartbeats 2000000 in
theorem turns_b (a1 a2 b1 b2 p1 p2 pe i1 i2 j1 j2 : Int) (w : World) (h0 : decide (0 < a1) = false)
    (m1 : ∀ x W, AtP W x [(a1, a2), (b1, b2)] → Calls Try.prog 14 #[.slice x 2 2] W fun e w' => e = .returned (.tuple #[.agg #[.int .i64 p1, .int .i64 p2], .int .i64 pe]) ∧ Below W.heap.size W w')
    (m2 : ∀ x W, AtP W x [(b1, b2), (a1, a2)] → Calls Try.prog 14 #[.slice x 2 2] W fun e w' => e = .returned (.tuple #[.agg #[.int .i64 p1, .int .i64 p2], .int .i64 pe]) ∧ Below W.heap.size W w')
    (n1 : ∀ W, Calls Try.prog 17 #[.agg #[.int .i64 a1, .int .i64 a2]] W fun e w' => e = .returned (.tuple #[.agg #[.int .i64 i1, .int .i64 i2], .int .i64 0]) ∧ Below W.heap.size W w')
    (m3 : ∀ x W, AtP W x [(a1, a2), (i1, i2)] → Calls Try.prog 14 #[.slice x 2 2] W fun e w' => e = .returned (.tuple #[.agg #[.int .i64 1, .int .i64 1], .int .i64 0]) ∧ Below W.heap.size W w')
    (n2 : ∀ W, Calls Try.prog 17 #[.agg #[.int .i64 i1, .int .i64 i2]] W fun e w' => e = .returned (.tuple #[.agg #[.int .i64 a1, .int .i64 a2], .int .i64 0]) ∧ Below W.heap.size W w')
    (n3 : ∀ W, Calls Try.prog 17 #[.agg #[.int .i64 b1, .int .i64 b2]] W fun e w' => e = .returned (.tuple #[.agg #[.int .i64 j1, .int .i64 j2], .int .i64 0]) ∧ Below W.heap.size W w') :
    Calls Try.prog 5 #[.agg #[.int .i64 a1, .int .i64 a2], .agg #[.int .i64 b1, .int .i64 b2]] w fun e w' => e = .returned (.bool true) ∧ Below w.heap.size w w' := by
  have X0 := box2_new w (.int .i64 a1) (.int .i64 a2) (.int .i64 b1) (.int .i64 b2) 23
  have Y0 := X0.alloc (.cells #[.int .i64 a1, .int .i64 a2, .int .i64 b1, .int .i64 b2] 23)
  have q0 : (p1 != p1) = false := by simp
  have r0 : (p1 == p1) = true := by simp
  have q1 : (p2 != p2) = false := by simp
  have r1 : (p2 == p2) = true := by simp
  have q2 : (pe != pe) = false := by simp
  have r2 : (pe == pe) = true := by simp
  have q3 : (a1 != a1) = false := by simp
  have r3 : (a1 == a1) = true := by simp
  have q4 : (a2 != a2) = false := by simp
  have r4 : (a2 == a2) = true := by simp
  go_enter Try.func5, Try.ntmps5
  go_wp2_with (first
    | (go_at_call 14; (with_reducible refine (m1 _ _ (atP2 (t := 23) ?_)).mono ?_); (simp); rintro e w1 ⟨rfl, hb1⟩; have X1 := (Y0.later hb1).alloc (.cells #[.int .i64 p1, .int .i64 p2] 23); have P1 := var2_new w1 (.int .i64 p1) (.int .i64 p2) 23; have c0 := X1.va.c0; have c1 := X1.va.c1; have c2 := X1.vb.c0; have c3 := X1.vb.c1; have Y1 := X1.alloc (.cells #[.int .i64 b1, .int .i64 b2, .int .i64 a1, .int .i64 a2] 23); have P1' := P1.alloc (.cells #[.int .i64 b1, .int .i64 b2, .int .i64 a1, .int .i64 a2] 23); clear m1)
    | (go_at_call 14; (with_reducible refine (m2 _ _ (atP2 (t := 23) ?_)).mono ?_); (simp); rintro e w2 ⟨rfl, hb2⟩; have X2 := (Y1.later hb2).alloc (.cells #[.int .i64 p1, .int .i64 p2] 23); have P2 := (P1'.later hb2 P1'.lt).alloc (.cells #[.int .i64 p1, .int .i64 p2] 23); have Q2 := var2_new w2 (.int .i64 p1) (.int .i64 p2) 23; have d0 := P2.c0; have d1 := P2.c1; have e0 := Q2.c0; have e1 := Q2.c1; have f0 := X2.va.c0; have f1 := X2.va.c1; clear m2)
    | (go_at_call 17; (with_reducible refine (n1 _).mono ?_); rintro e w3 ⟨rfl, hb3⟩; have X3 := (X2.later hb3).alloc (.cells #[.int .i64 i1, .int .i64 i2] 23); have I3 := var2_new w3 (.int .i64 i1) (.int .i64 i2) 23; have g0 := X3.va.c0; have g1 := X3.va.c1; have g2 := I3.c0; have g3 := I3.c1; have Y3 := X3.alloc (.cells #[.int .i64 a1, .int .i64 a2, .int .i64 i1, .int .i64 i2] 23); have I3' := I3.alloc (.cells #[.int .i64 a1, .int .i64 a2, .int .i64 i1, .int .i64 i2] 23); clear n1)
    | (go_at_call 14; (with_reducible refine (m3 _ _ (atP2 (t := 23) ?_)).mono ?_); (simp); rintro e w4 ⟨rfl, hb4⟩; have X4 := (Y3.later hb4).alloc (.cells #[.int .i64 1, .int .i64 1] 23); have I4 := (I3'.later hb4 I3'.lt).alloc (.cells #[.int .i64 1, .int .i64 1] 23); have O4 := var2_new w4 (.int .i64 1) (.int .i64 1) 23; have h0 := I4.c0; have h1 := I4.c1; clear m3)
    | (go_at_call 17; (with_reducible refine (n2 _).mono ?_); rintro e w5 ⟨rfl, hb5⟩; have X5 := (X4.later hb5).alloc (.cells #[.int .i64 a1, .int .i64 a2] 23); have I5 := (I4.later hb5 I4.lt).alloc (.cells #[.int .i64 a1, .int .i64 a2] 23); have O5 := (O4.later hb5 O4.lt).alloc (.cells #[.int .i64 a1, .int .i64 a2] 23); have K5 := var2_new w5 (.int .i64 a1) (.int .i64 a2) 23; have s0 := O5.c0; have s1 := O5.c1; have s2 := K5.c0; have s3 := K5.c1; have s4 := X5.va.c0; have s5 := X5.va.c1; have s6 := X5.vb.c0; have s7 := X5.vb.c1; clear n2)
    | (go_at_call 17; (with_reducible refine (n3 _).mono ?_); rintro e w6 ⟨rfl, hb6⟩; have X6 := (X5.later hb6).alloc (.cells #[.int .i64 j1, .int .i64 j2] 23); have B := X6.old; have t0 := X6.va.c0; have t1 := X6.va.c1; have t2 := X6.vb.c0; have t3 := X6.vb.c1; clear n3)
    | (go_at_call 10; refine (awake2 _).mono ?_; rintro e w9 ⟨rfl, hb9⟩))
  go_ret
  exact ⟨rfl, B.trans (hb9.mono B.size)⟩

set_option maxRecDepth 100000 in
set_option maxHeartbeats 2000000 in
theorem turns_c (a1 a2 b1 b2 p1 p2 pe i1 i2 j1 j2 : Int) (w : World) (h0 : decide (0 < a1) = true) (h1' : decide (0 < b1) = false)
    (m1 : ∀ x W, AtP W x [(a1, a2), (b1, b2)] → Calls Try.prog 14 #[.slice x 2 2] W fun e w' => e = .returned (.tuple #[.agg #[.int .i64 p1, .int .i64 p2], .int .i64 pe]) ∧ Below W.heap.size W w')
    (m2 : ∀ x W, AtP W x [(b1, b2), (a1, a2)] → Calls Try.prog 14 #[.slice x 2 2] W fun e w' => e = .returned (.tuple #[.agg #[.int .i64 p1, .int .i64 p2], .int .i64 pe]) ∧ Below W.heap.size W w')
    (n1 : ∀ W, Calls Try.prog 17 #[.agg #[.int .i64 a1, .int .i64 a2]] W fun e w' => e = .returned (.tuple #[.agg #[.int .i64 i1, .int .i64 i2], .int .i64 0]) ∧ Below W.heap.size W w')
    (m3 : ∀ x W, AtP W x [(a1, a2), (i1, i2)] → Calls Try.prog 14 #[.slice x 2 2] W fun e w' => e = .returned (.tuple #[.agg #[.int .i64 1, .int .i64 1], .int .i64 0]) ∧ Below W.heap.size W w')
    (n2 : ∀ W, Calls Try.prog 17 #[.agg #[.int .i64 i1, .int .i64 i2]] W fun e w' => e = .returned (.tuple #[.agg #[.int .i64 a1, .int .i64 a2], .int .i64 0]) ∧ Below W.heap.size W w')
    (n3 : ∀ W, Calls Try.prog 17 #[.agg #[.int .i64 b1, .int .i64 b2]] W fun e w' => e = .returned (.tuple #[.agg #[.int .i64 j1, .int .i64 j2], .int .i64 0]) ∧ Below W.heap.size W w') :
    Calls Try.prog 5 #[.agg #[.int .i64 a1, .int .i64 a2], .agg #[.int .i64 b1, .int .i64 b2]] w fun e w' => e = .returned (.bool true) ∧ Below w.heap.size w w' := by
  have X0 := box2_new w (.int .i64 a1) (.int .i64 a2) (.int .i64 b1) (.int .i64 b2) 23
  have Y0 := X0.alloc (.cells #[.int .i64 a1, .int .i64 a2, .int .i64 b1, .int .i64 b2] 23)
  have q0 : (p1 != p1) = false := by simp
  have r0 : (p1 == p1) = true := by simp
  have q1 : (p2 != p2) = false := by simp
  have r1 : (p2 == p2) = true := by simp
  have q2 : (pe != pe) = false := by simp
  have r2 : (pe == pe) = true := by simp
  have q3 : (a1 != a1) = false := by simp
  have r3 : (a1 == a1) = true := by simp
  have q4 : (a2 != a2) = false := by simp
  have r4 : (a2 == a2) = true := by simp
  go_enter Try.func5, Try.ntmps5
  go_wp2_with (first
    | (go_at_call 14; (with_reducible refine (m1 _ _ (atP2 (t := 23) ?_)).mono ?_); (simp); rintro e w1 ⟨rfl, hb1⟩; have X1 := (Y0.later hb1).alloc (.cells #[.int .i64 p1, .int .i64 p2] 23); have P1 := var2_new w1 (.int .i64 p1) (.int .i64 p2) 23; have c0 := X1.va.c0; have c1 := X1.va.c1; have c2 := X1.vb.c0; have c3 := X1.vb.c1; have Y1 := X1.alloc (.cells #[.int .i64 b1, .int .i64 b2, .int .i64 a1, .int .i64 a2] 23); have P1' := P1.alloc (.cells #[.int .i64 b1, .int .i64 b2, .int .i64 a1, .int .i64 a2] 23); clear m1)
    | (go_at_call 14; (with_reducible refine (m2 _ _ (atP2 (t := 23) ?_)).mono ?_); (simp); rintro e w2 ⟨rfl, hb2⟩; have X2 := (Y1.later hb2).alloc (.cells #[.int .i64 p1, .int .i64 p2] 23); have P2 := (P1'.later hb2 P1'.lt).alloc (.cells #[.int .i64 p1, .int .i64 p2] 23); have Q2 := var2_new w2 (.int .i64 p1) (.int .i64 p2) 23; have d0 := P2.c0; have d1 := P2.c1; have e0 := Q2.c0; have e1 := Q2.c1; have f0 := X2.va.c0; have f1 := X2.va.c1; clear m2)
    | (go_at_call 17; (with_reducible refine (n1 _).mono ?_); rintro e w3 ⟨rfl, hb3⟩; have X3 := (X2.later hb3).alloc (.cells #[.int .i64 i1, .int .i64 i2] 23); have I3 := var2_new w3 (.int .i64 i1) (.int .i64 i2) 23; have g0 := X3.va.c0; have g1 := X3.va.c1; have g2 := I3.c0; have g3 := I3.c1; have Y3 := X3.alloc (.cells #[.int .i64 a1, .int .i64 a2, .int .i64 i1, .int .i64 i2] 23); have I3' := I3.alloc (.cells #[.int .i64 a1, .int .i64 a2, .int .i64 i1, .int .i64 i2] 23); clear n1)
    | (go_at_call 14; (with_reducible refine (m3 _ _ (atP2 (t := 23) ?_)).mono ?_); (simp); rintro e w4 ⟨rfl, hb4⟩; have X4 := (Y3.later hb4).alloc (.cells #[.int .i64 1, .int .i64 1] 23); have I4 := (I3'.later hb4 I3'.lt).alloc (.cells #[.int .i64 1, .int .i64 1] 23); have O4 := var2_new w4 (.int .i64 1) (.int .i64 1) 23; have h0 := I4.c0; have h1 := I4.c1; clear m3)
    | (go_at_call 17; (with_reducible refine (n2 _).mono ?_); rintro e w5 ⟨rfl, hb5⟩; have X5 := (X4.later hb5).alloc (.cells #[.int .i64 a1, .int .i64 a2] 23); have I5 := (I4.later hb5 I4.lt).alloc (.cells #[.int .i64 a1, .int .i64 a2] 23); have O5 := (O4.later hb5 O4.lt).alloc (.cells #[.int .i64 a1, .int .i64 a2] 23); have K5 := var2_new w5 (.int .i64 a1) (.int .i64 a2) 23; have s0 := O5.c0; have s1 := O5.c1; have s2 := K5.c0; have s3 := K5.c1; have s4 := X5.va.c0; have s5 := X5.va.c1; have s6 := X5.vb.c0; have s7 := X5.vb.c1; clear n2)
    | (go_at_call 17; (with_reducible refine (n3 _).mono ?_); rintro e w6 ⟨rfl, hb6⟩; have X6 := (X5.later hb6).alloc (.cells #[.int .i64 j1, .int .i64 j2] 23); have B := X6.old; have t0 := X6.va.c0; have t1 := X6.va.c1; have t2 := X6.vb.c0; have t3 := X6.vb.c1; clear n3)
    | (go_at_call 10; refine (awake2 _).mono ?_; rintro e w9 ⟨rfl, hb9⟩))
  go_ret
  exact ⟨rfl, B.trans (hb9.mono B.size)⟩

set_option maxRecDepth 100000 in
set_option maxHeartbeats 2000000 in
theorem turns_d (a1 a2 b1 b2 p1 p2 pe i1 i2 j1 j2 cv : Int) (w : World) (h0 : decide (0 < a1) = true) (h1' : decide (0 < b1) = true)
    (m1 : ∀ x W, AtP W x [(a1, a2), (b1, b2)] → Calls Try.prog 14 #[.slice x 2 2] W fun e w' => e = .returned (.tuple #[.agg #[.int .i64 p1, .int .i64 p2], .int .i64 pe]) ∧ Below W.heap.size W w')
    (m2 : ∀ x W, AtP W x [(b1, b2), (a1, a2)] → Calls Try.prog 14 #[.slice x 2 2] W fun e w' => e = .returned (.tuple #[.agg #[.int .i64 p1, .int .i64 p2], .int .i64 pe]) ∧ Below W.heap.size W w')
    (n1 : ∀ W, Calls Try.prog 17 #[.agg #[.int .i64 a1, .int .i64 a2]] W fun e w' => e = .returned (.tuple #[.agg #[.int .i64 i1, .int .i64 i2], .int .i64 0]) ∧ Below W.heap.size W w')
    (m3 : ∀ x W, AtP W x [(a1, a2), (i1, i2)] → Calls Try.prog 14 #[.slice x 2 2] W fun e w' => e = .returned (.tuple #[.agg #[.int .i64 1, .int .i64 1], .int .i64 0]) ∧ Below W.heap.size W w')
    (n2 : ∀ W, Calls Try.prog 17 #[.agg #[.int .i64 i1, .int .i64 i2]] W fun e w' => e = .returned (.tuple #[.agg #[.int .i64 a1, .int .i64 a2], .int .i64 0]) ∧ Below W.heap.size W w')
    (n3 : ∀ W, Calls Try.prog 17 #[.agg #[.int .i64 b1, .int .i64 b2]] W fun e w' => e = .returned (.tuple #[.agg #[.int .i64 j1, .int .i64 j2], .int .i64 0]) ∧ Below W.heap.size W w')
    (k1 : ∀ W, Calls Try.prog 18 #[.agg #[.int .i64 a1, .int .i64 a2], .agg #[.int .i64 b1, .int .i64 b2]] W fun e w' => e = .returned (.tuple #[.int .i64 cv, .int .i64 0]) ∧ Below W.heap.size W w')
    (k2 : ∀ W, Calls Try.prog 18 #[.agg #[.int .i64 j1, .int .i64 j2], .agg #[.int .i64 i1, .int .i64 i2]] W fun e w' => e = .returned (.tuple #[.int .i64 cv, .int .i64 0]) ∧ Below W.heap.size W w') :
    Calls Try.prog 5 #[.agg #[.int .i64 a1, .int .i64 a2], .agg #[.int .i64 b1, .int .i64 b2]] w fun e w' => e = .returned (.bool true) ∧ Below w.heap.size w w' := by
  have X0 := box2_new w (.int .i64 a1) (.int .i64 a2) (.int .i64 b1) (.int .i64 b2) 23
  have Y0 := X0.alloc (.cells #[.int .i64 a1, .int .i64 a2, .int .i64 b1, .int .i64 b2] 23)
  have q0 : (p1 != p1) = false := by simp
  have r0 : (p1 == p1) = true := by simp
  have q1 : (p2 != p2) = false := by simp
  have r1 : (p2 == p2) = true := by simp
  have q2 : (pe != pe) = false := by simp
  have r2 : (pe == pe) = true := by simp
  have q3 : (a1 != a1) = false := by simp
  have r3 : (a1 == a1) = true := by simp
  have q4 : (a2 != a2) = false := by simp
  have r4 : (a2 == a2) = true := by simp
  have q5 : (cv != cv) = false := by simp
  have r5 : (cv == cv) = true := by simp
  go_enter Try.func5, Try.ntmps5
  go_wp2_with (first
    | (go_at_call 14; (with_reducible refine (m1 _ _ (atP2 (t := 23) ?_)).mono ?_); (simp); rintro e w1 ⟨rfl, hb1⟩; have X1 := (Y0.later hb1).alloc (.cells #[.int .i64 p1, .int .i64 p2] 23); have P1 := var2_new w1 (.int .i64 p1) (.int .i64 p2) 23; have c0 := X1.va.c0; have c1 := X1.va.c1; have c2 := X1.vb.c0; have c3 := X1.vb.c1; have Y1 := X1.alloc (.cells #[.int .i64 b1, .int .i64 b2, .int .i64 a1, .int .i64 a2] 23); have P1' := P1.alloc (.cells #[.int .i64 b1, .int .i64 b2, .int .i64 a1, .int .i64 a2] 23); clear m1)
    | (go_at_call 14; (with_reducible refine (m2 _ _ (atP2 (t := 23) ?_)).mono ?_); (simp); rintro e w2 ⟨rfl, hb2⟩; have X2 := (Y1.later hb2).alloc (.cells #[.int .i64 p1, .int .i64 p2] 23); have P2 := (P1'.later hb2 P1'.lt).alloc (.cells #[.int .i64 p1, .int .i64 p2] 23); have Q2 := var2_new w2 (.int .i64 p1) (.int .i64 p2) 23; have d0 := P2.c0; have d1 := P2.c1; have e0 := Q2.c0; have e1 := Q2.c1; have f0 := X2.va.c0; have f1 := X2.va.c1; clear m2)
    | (go_at_call 17; (with_reducible refine (n1 _).mono ?_); rintro e w3 ⟨rfl, hb3⟩; have X3 := (X2.later hb3).alloc (.cells #[.int .i64 i1, .int .i64 i2] 23); have I3 := var2_new w3 (.int .i64 i1) (.int .i64 i2) 23; have g0 := X3.va.c0; have g1 := X3.va.c1; have g2 := I3.c0; have g3 := I3.c1; have Y3 := X3.alloc (.cells #[.int .i64 a1, .int .i64 a2, .int .i64 i1, .int .i64 i2] 23); have I3' := I3.alloc (.cells #[.int .i64 a1, .int .i64 a2, .int .i64 i1, .int .i64 i2] 23); clear n1)
    | (go_at_call 14; (with_reducible refine (m3 _ _ (atP2 (t := 23) ?_)).mono ?_); (simp); rintro e w4 ⟨rfl, hb4⟩; have X4 := (Y3.later hb4).alloc (.cells #[.int .i64 1, .int .i64 1] 23); have I4 := (I3'.later hb4 I3'.lt).alloc (.cells #[.int .i64 1, .int .i64 1] 23); have O4 := var2_new w4 (.int .i64 1) (.int .i64 1) 23; have h0 := I4.c0; have h1 := I4.c1; clear m3)
    | (go_at_call 17; (with_reducible refine (n2 _).mono ?_); rintro e w5 ⟨rfl, hb5⟩; have X5 := (X4.later hb5).alloc (.cells #[.int .i64 a1, .int .i64 a2] 23); have I5 := (I4.later hb5 I4.lt).alloc (.cells #[.int .i64 a1, .int .i64 a2] 23); have O5 := (O4.later hb5 O4.lt).alloc (.cells #[.int .i64 a1, .int .i64 a2] 23); have K5 := var2_new w5 (.int .i64 a1) (.int .i64 a2) 23; have s0 := O5.c0; have s1 := O5.c1; have s2 := K5.c0; have s3 := K5.c1; have s4 := X5.va.c0; have s5 := X5.va.c1; have s6 := X5.vb.c0; have s7 := X5.vb.c1; clear n2)
    | (go_at_call 17; (with_reducible refine (n3 _).mono ?_); rintro e w6 ⟨rfl, hb6⟩; have X6 := (X5.later hb6).alloc (.cells #[.int .i64 j1, .int .i64 j2] 23); have B := X6.old; have t0 := X6.va.c0; have t1 := X6.va.c1; have t2 := X6.vb.c0; have t3 := X6.vb.c1; clear n3; have I6 := (I5.later hb6 I5.lt).alloc (.cells #[.int .i64 j1, .int .i64 j2] 23); have J6 := var2_new w6 (.int .i64 j1) (.int .i64 j2) 23)
    | (go_at_call 18; (with_reducible refine (k1 _).mono ?_); rintro e w7 ⟨rfl, hb7⟩; replace B := B.trans (hb7.mono B.size); have I7 := I6.later hb7 I6.lt; have J7 := J6.later hb7 J6.lt; have u0 := I7.c0; have u1 := I7.c1; have u2 := J7.c0; have u3 := J7.c1; clear k1)
    | (go_at_call 18; (with_reducible refine (k2 _).mono ?_); rintro e w8 ⟨rfl, hb8⟩; replace B := B.trans (hb8.mono B.size))
    | (go_at_call 10; refine (awake2 _).mono ?_; rintro e w9 ⟨rfl, hb9⟩))
  go_ret
  exact ⟨rfl, B.trans (hb9.mono B.size)⟩
end Go.Proofs.Ytcklodmhlhjipab
