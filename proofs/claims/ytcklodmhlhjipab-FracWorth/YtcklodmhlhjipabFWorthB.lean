/- Ways through the statement FracWorth where all are fractions. -/
import Derived.Test.YtcklodmhlhjipabFWorth
namespace Go.Proofs.Ytcklodmhlhjipab
open Go.ChangeShapes Go.WideShapes Go.ChangeAt Go.RowKit

set_option maxRecDepth 100000 in
set_option maxHeartbeats 2000000 in
theorem worth_tt_f (a b c f1 f2 g1 g2 i1 i2 : Int) (k : Int) (w : World) (h1 : (f1 == g1) = true) (h2 : (f2 == g2) = true) (h3 : (a == c) = true) (h4 : (f1 == i1) = false) (h6 : (k == 0) = false)
    (n1 : ∀ W, Calls Try.prog 9 #[.int .i64 a, .int .i64 b] W fun e w' => e = .returned (.tuple #[.agg #[.int .i64 f1, .int .i64 f2], .int .i64 0]) ∧ Below W.heap.size W w')
    (n2 : ∀ W, Calls Try.prog 9 #[.int .i64 c, .int .i64 b] W fun e w' => e = .returned (.tuple #[.agg #[.int .i64 g1, .int .i64 g2], .int .i64 0]) ∧ Below W.heap.size W w')
    (n3 : ∀ W, Calls Try.prog 9 #[.int .i64 a, .int .i64 c] W fun e w' => e = .returned (.tuple #[.agg #[.int .i64 i1, .int .i64 i2], .int .i64 0]) ∧ Below W.heap.size W w')
    (Oa : Hid (∀ W, Calls Try.prog 12 #[.int .i64 a] W (MadeWh W a 3))) (Ob : Hid (∀ W, Calls Try.prog 12 #[.int .i64 b] W (MadeWh W b 3))) (Oc : Hid (∀ W, Calls Try.prog 12 #[.int .i64 c] W (MadeWh W c 3)))
    (hk : Hid (cmpI (a * c) (b * a) = k)) :
    Calls Try.prog 3 #[.int .i64 a, .int .i64 b, .int .i64 c] w fun e w' => e = .returned (.bool true) ∧ Below w.heap.size w w' := by
  go_enter Try.func3, Try.ntmps3
  go_wp2_with (first
    | (go_at_call 9; (with_reducible refine (n1 _).mono ?_); rintro e w1 ⟨rfl, hb1⟩; have B1 := hb1.alloc hb1.size (.cells #[.int .i64 f1, .int .i64 f2] 23); have F1 := var2_new w1 (.int .i64 f1) (.int .i64 f2) 23; clear n1)
    | (go_at_call 9; (with_reducible refine (n2 _).mono ?_); rintro e w2 ⟨rfl, hb2⟩; have B2' := B1.trans (hb2.mono B1.size); have B2 := B2'.alloc B2'.size (.cells #[.int .i64 g1, .int .i64 g2] 23); have F2 := (F1.later hb2 F1.lt).alloc (.cells #[.int .i64 g1, .int .i64 g2] 23); have G2 := var2_new w2 (.int .i64 g1) (.int .i64 g2) 23; clear n2)
    | (go_at_call 9; (with_reducible refine (n3 _).mono ?_); rintro e w3 ⟨rfl, hb3⟩; have B3' := B2.trans (hb3.mono B2.size); have B3 := B3'.alloc B3'.size (.cells #[.int .i64 i1, .int .i64 i2] 23); have F3 := (F2.later hb3 F2.lt).alloc (.cells #[.int .i64 i1, .int .i64 i2] 23); have G3 := (G2.later hb3 G2.lt).alloc (.cells #[.int .i64 i1, .int .i64 i2] 23); have I3 := var2_new w3 (.int .i64 i1) (.int .i64 i2) 23; clear n3))
  clear hb1 hb2 hb3 B1 B2 B2' B3' F1 F2 G2
  generalize w3.alloc (.cells #[.int .i64 i1, .int .i64 i2] 23) = w4 at *
  go_wp2_with (first
    | (go_at_call 12; (with_reducible refine (Oa.out _).mono ?_); rintro e w5 ⟨m5, a5, l5, p5, d5, rfl, hw5, hb5, hl5⟩)
    | (go_at_call 12; (with_reducible refine (Oc.out _).mono ?_); rintro e w6 ⟨m6, a6, l6, p6, d6, rfl, hw6, hb6, hl6⟩)
    | (go_at_call 11; (with_reducible refine (times_any _ _ _ _ _ _ _ _ _ _ _ _ _ (hw5.below hb6) hw6 (by omega)).mono ?_); rintro e w7 ⟨m7, a7, l7, p7, d7, rfl, hw7, hb7, hl7⟩; have b47 : Below w4.heap.size w4 w7 := (hb5.trans (hb6.mono hb5.size)).trans (hb7.mono (hb5.trans (hb6.mono hb5.size)).size); have X7 := var2_new w7 (.bool m7) (.slice a7 l7 p7) 30; have Z7 := b47.alloc b47.size (.cells #[.bool m7, .slice a7 l7 p7] 30); clear hb5 hb6 hb7 hw5 hw6 b47))
  have B8 := B3.trans (Z7.mono B3.size)
  have F8 := F3.later Z7 F3.lt
  have G8 := G3.later Z7 G3.lt
  have I8 := I3.later Z7 I3.lt
  have HW8 : Hid (Wh (w7.alloc (.cells #[.bool m7, .slice a7 l7 p7] 30)) m7 a7 l7 p7 d7 (a * c)) := hw7.below ((Below.refl _ _).alloc (Nat.le_refl _) _)
  clear hw7 Z7 B3 F3 G3 I3
  generalize w7.alloc (.cells #[.bool m7, .slice a7 l7 p7] 30) = w8 at *
  go_wp2_with (first
    | (go_at_call 12; (with_reducible refine (Ob.out _).mono ?_); rintro e w9 ⟨m9, a9, l9, p9, d9, rfl, hw9, hb9, hl9⟩)
    | (go_at_call 12; (with_reducible refine (Oa.out _).mono ?_); rintro e w10 ⟨m10, a10, l10, p10, d10, rfl, hw10, hb10, hl10⟩)
    | (go_at_call 11; (with_reducible refine (times_any _ _ _ _ _ _ _ _ _ _ _ _ _ (hw9.below hb10) hw10 (by omega)).mono ?_); rintro e w11 ⟨m11, a11, l11, p11, d11, rfl, hw11, hb11, hl11⟩; have b8 : Below w8.heap.size w8 w11 := (hb9.trans (hb10.mono hb9.size)).trans (hb11.mono (hb9.trans (hb10.mono hb9.size)).size); have Y11 := var2_new w11 (.bool m11) (.slice a11 l11 p11) 30; have Z11 := b8.alloc b8.size (.cells #[.bool m11, .slice a11 l11 p11] 30); have X11 := X7.later Z11 X7.lt; have x0 := X11.c0; have x1 := X11.c1; have y0 := Y11.c0; have y1 := Y11.c1)
    | (go_at_call 13; refine (cmp_any _ _ _ _ _ _ _ _ _ _ _ _ _ (HW8.out.below Z11) (hw11.below ((Below.refl _ _).alloc (Nat.le_refl _) _))).mono ?_; rintro e w12 ⟨rfl, hb12⟩; rw [hk.out]; have Z12 := Z11.trans (hb12.mono Z11.size))
    | (go_at_call 10; refine (awake2 _).mono ?_; rintro e w13 ⟨rfl, hb13⟩; have Z13 := Z12.trans (hb13.mono Z12.size); have F13 := F8.later Z13 F8.lt; have G13 := G8.later Z13 G8.lt; have I13 := I8.later Z13 I8.lt; have u0 := F13.c0; have u1 := F13.c1; have u2 := G13.c0; have u3 := G13.c1; have u4 := I13.c0; have u5 := I13.c1))
  go_ret
  exact ⟨rfl, B8.trans (Z13.mono B8.size)⟩

set_option maxRecDepth 100000 in
set_option maxHeartbeats 2000000 in
theorem worth_f_f (a b c f1 f2 g1 g2 i1 i2 : Int) (k : Int) (w : World) (h1 : (f1 == g1) = false) (h3 : (a == c) = false) (h4 : (f1 == i1) = false) (h6 : (k == 0) = false)
    (n1 : ∀ W, Calls Try.prog 9 #[.int .i64 a, .int .i64 b] W fun e w' => e = .returned (.tuple #[.agg #[.int .i64 f1, .int .i64 f2], .int .i64 0]) ∧ Below W.heap.size W w')
    (n2 : ∀ W, Calls Try.prog 9 #[.int .i64 c, .int .i64 b] W fun e w' => e = .returned (.tuple #[.agg #[.int .i64 g1, .int .i64 g2], .int .i64 0]) ∧ Below W.heap.size W w')
    (n3 : ∀ W, Calls Try.prog 9 #[.int .i64 a, .int .i64 c] W fun e w' => e = .returned (.tuple #[.agg #[.int .i64 i1, .int .i64 i2], .int .i64 0]) ∧ Below W.heap.size W w')
    (Oa : Hid (∀ W, Calls Try.prog 12 #[.int .i64 a] W (MadeWh W a 3))) (Ob : Hid (∀ W, Calls Try.prog 12 #[.int .i64 b] W (MadeWh W b 3))) (Oc : Hid (∀ W, Calls Try.prog 12 #[.int .i64 c] W (MadeWh W c 3)))
    (hk : Hid (cmpI (a * c) (b * a) = k)) :
    Calls Try.prog 3 #[.int .i64 a, .int .i64 b, .int .i64 c] w fun e w' => e = .returned (.bool true) ∧ Below w.heap.size w w' := by
  go_enter Try.func3, Try.ntmps3
  go_wp2_with (first
    | (go_at_call 9; (with_reducible refine (n1 _).mono ?_); rintro e w1 ⟨rfl, hb1⟩; have B1 := hb1.alloc hb1.size (.cells #[.int .i64 f1, .int .i64 f2] 23); have F1 := var2_new w1 (.int .i64 f1) (.int .i64 f2) 23; clear n1)
    | (go_at_call 9; (with_reducible refine (n2 _).mono ?_); rintro e w2 ⟨rfl, hb2⟩; have B2' := B1.trans (hb2.mono B1.size); have B2 := B2'.alloc B2'.size (.cells #[.int .i64 g1, .int .i64 g2] 23); have F2 := (F1.later hb2 F1.lt).alloc (.cells #[.int .i64 g1, .int .i64 g2] 23); have G2 := var2_new w2 (.int .i64 g1) (.int .i64 g2) 23; clear n2)
    | (go_at_call 9; (with_reducible refine (n3 _).mono ?_); rintro e w3 ⟨rfl, hb3⟩; have B3' := B2.trans (hb3.mono B2.size); have B3 := B3'.alloc B3'.size (.cells #[.int .i64 i1, .int .i64 i2] 23); have F3 := (F2.later hb3 F2.lt).alloc (.cells #[.int .i64 i1, .int .i64 i2] 23); have G3 := (G2.later hb3 G2.lt).alloc (.cells #[.int .i64 i1, .int .i64 i2] 23); have I3 := var2_new w3 (.int .i64 i1) (.int .i64 i2) 23; clear n3))
  clear hb1 hb2 hb3 B1 B2 B2' B3' F1 F2 G2
  generalize w3.alloc (.cells #[.int .i64 i1, .int .i64 i2] 23) = w4 at *
  go_wp2_with (first
    | (go_at_call 12; (with_reducible refine (Oa.out _).mono ?_); rintro e w5 ⟨m5, a5, l5, p5, d5, rfl, hw5, hb5, hl5⟩)
    | (go_at_call 12; (with_reducible refine (Oc.out _).mono ?_); rintro e w6 ⟨m6, a6, l6, p6, d6, rfl, hw6, hb6, hl6⟩)
    | (go_at_call 11; (with_reducible refine (times_any _ _ _ _ _ _ _ _ _ _ _ _ _ (hw5.below hb6) hw6 (by omega)).mono ?_); rintro e w7 ⟨m7, a7, l7, p7, d7, rfl, hw7, hb7, hl7⟩; have b47 : Below w4.heap.size w4 w7 := (hb5.trans (hb6.mono hb5.size)).trans (hb7.mono (hb5.trans (hb6.mono hb5.size)).size); have X7 := var2_new w7 (.bool m7) (.slice a7 l7 p7) 30; have Z7 := b47.alloc b47.size (.cells #[.bool m7, .slice a7 l7 p7] 30); clear hb5 hb6 hb7 hw5 hw6 b47))
  have B8 := B3.trans (Z7.mono B3.size)
  have F8 := F3.later Z7 F3.lt
  have G8 := G3.later Z7 G3.lt
  have I8 := I3.later Z7 I3.lt
  have HW8 : Hid (Wh (w7.alloc (.cells #[.bool m7, .slice a7 l7 p7] 30)) m7 a7 l7 p7 d7 (a * c)) := hw7.below ((Below.refl _ _).alloc (Nat.le_refl _) _)
  clear hw7 Z7 B3 F3 G3 I3
  generalize w7.alloc (.cells #[.bool m7, .slice a7 l7 p7] 30) = w8 at *
  go_wp2_with (first
    | (go_at_call 12; (with_reducible refine (Ob.out _).mono ?_); rintro e w9 ⟨m9, a9, l9, p9, d9, rfl, hw9, hb9, hl9⟩)
    | (go_at_call 12; (with_reducible refine (Oa.out _).mono ?_); rintro e w10 ⟨m10, a10, l10, p10, d10, rfl, hw10, hb10, hl10⟩)
    | (go_at_call 11; (with_reducible refine (times_any _ _ _ _ _ _ _ _ _ _ _ _ _ (hw9.below hb10) hw10 (by omega)).mono ?_); rintro e w11 ⟨m11, a11, l11, p11, d11, rfl, hw11, hb11, hl11⟩; have b8 : Below w8.heap.size w8 w11 := (hb9.trans (hb10.mono hb9.size)).trans (hb11.mono (hb9.trans (hb10.mono hb9.size)).size); have Y11 := var2_new w11 (.bool m11) (.slice a11 l11 p11) 30; have Z11 := b8.alloc b8.size (.cells #[.bool m11, .slice a11 l11 p11] 30); have X11 := X7.later Z11 X7.lt; have x0 := X11.c0; have x1 := X11.c1; have y0 := Y11.c0; have y1 := Y11.c1)
    | (go_at_call 13; refine (cmp_any _ _ _ _ _ _ _ _ _ _ _ _ _ (HW8.out.below Z11) (hw11.below ((Below.refl _ _).alloc (Nat.le_refl _) _))).mono ?_; rintro e w12 ⟨rfl, hb12⟩; rw [hk.out]; have Z12 := Z11.trans (hb12.mono Z11.size))
    | (go_at_call 10; refine (awake2 _).mono ?_; rintro e w13 ⟨rfl, hb13⟩; have Z13 := Z12.trans (hb13.mono Z12.size); have F13 := F8.later Z13 F8.lt; have G13 := G8.later Z13 G8.lt; have I13 := I8.later Z13 I8.lt; have u0 := F13.c0; have u1 := F13.c1; have u2 := G13.c0; have u3 := G13.c1; have u4 := I13.c0; have u5 := I13.c1))
  go_ret
  exact ⟨rfl, B8.trans (Z13.mono B8.size)⟩

set_option maxRecDepth 100000 in
set_option maxHeartbeats 2000000 in
theorem worth_tf_f (a b c f1 f2 g1 g2 i1 i2 : Int) (k : Int) (w : World) (h1 : (f1 == g1) = true) (h2 : (f2 == g2) = false) (h3 : (a == c) = false) (h4 : (f1 == i1) = false) (h6 : (k == 0) = false)
    (n1 : ∀ W, Calls Try.prog 9 #[.int .i64 a, .int .i64 b] W fun e w' => e = .returned (.tuple #[.agg #[.int .i64 f1, .int .i64 f2], .int .i64 0]) ∧ Below W.heap.size W w')
    (n2 : ∀ W, Calls Try.prog 9 #[.int .i64 c, .int .i64 b] W fun e w' => e = .returned (.tuple #[.agg #[.int .i64 g1, .int .i64 g2], .int .i64 0]) ∧ Below W.heap.size W w')
    (n3 : ∀ W, Calls Try.prog 9 #[.int .i64 a, .int .i64 c] W fun e w' => e = .returned (.tuple #[.agg #[.int .i64 i1, .int .i64 i2], .int .i64 0]) ∧ Below W.heap.size W w')
    (Oa : Hid (∀ W, Calls Try.prog 12 #[.int .i64 a] W (MadeWh W a 3))) (Ob : Hid (∀ W, Calls Try.prog 12 #[.int .i64 b] W (MadeWh W b 3))) (Oc : Hid (∀ W, Calls Try.prog 12 #[.int .i64 c] W (MadeWh W c 3)))
    (hk : Hid (cmpI (a * c) (b * a) = k)) :
    Calls Try.prog 3 #[.int .i64 a, .int .i64 b, .int .i64 c] w fun e w' => e = .returned (.bool true) ∧ Below w.heap.size w w' := by
  go_enter Try.func3, Try.ntmps3
  go_wp2_with (first
    | (go_at_call 9; (with_reducible refine (n1 _).mono ?_); rintro e w1 ⟨rfl, hb1⟩; have B1 := hb1.alloc hb1.size (.cells #[.int .i64 f1, .int .i64 f2] 23); have F1 := var2_new w1 (.int .i64 f1) (.int .i64 f2) 23; clear n1)
    | (go_at_call 9; (with_reducible refine (n2 _).mono ?_); rintro e w2 ⟨rfl, hb2⟩; have B2' := B1.trans (hb2.mono B1.size); have B2 := B2'.alloc B2'.size (.cells #[.int .i64 g1, .int .i64 g2] 23); have F2 := (F1.later hb2 F1.lt).alloc (.cells #[.int .i64 g1, .int .i64 g2] 23); have G2 := var2_new w2 (.int .i64 g1) (.int .i64 g2) 23; clear n2)
    | (go_at_call 9; (with_reducible refine (n3 _).mono ?_); rintro e w3 ⟨rfl, hb3⟩; have B3' := B2.trans (hb3.mono B2.size); have B3 := B3'.alloc B3'.size (.cells #[.int .i64 i1, .int .i64 i2] 23); have F3 := (F2.later hb3 F2.lt).alloc (.cells #[.int .i64 i1, .int .i64 i2] 23); have G3 := (G2.later hb3 G2.lt).alloc (.cells #[.int .i64 i1, .int .i64 i2] 23); have I3 := var2_new w3 (.int .i64 i1) (.int .i64 i2) 23; clear n3))
  clear hb1 hb2 hb3 B1 B2 B2' B3' F1 F2 G2
  generalize w3.alloc (.cells #[.int .i64 i1, .int .i64 i2] 23) = w4 at *
  go_wp2_with (first
    | (go_at_call 12; (with_reducible refine (Oa.out _).mono ?_); rintro e w5 ⟨m5, a5, l5, p5, d5, rfl, hw5, hb5, hl5⟩)
    | (go_at_call 12; (with_reducible refine (Oc.out _).mono ?_); rintro e w6 ⟨m6, a6, l6, p6, d6, rfl, hw6, hb6, hl6⟩)
    | (go_at_call 11; (with_reducible refine (times_any _ _ _ _ _ _ _ _ _ _ _ _ _ (hw5.below hb6) hw6 (by omega)).mono ?_); rintro e w7 ⟨m7, a7, l7, p7, d7, rfl, hw7, hb7, hl7⟩; have b47 : Below w4.heap.size w4 w7 := (hb5.trans (hb6.mono hb5.size)).trans (hb7.mono (hb5.trans (hb6.mono hb5.size)).size); have X7 := var2_new w7 (.bool m7) (.slice a7 l7 p7) 30; have Z7 := b47.alloc b47.size (.cells #[.bool m7, .slice a7 l7 p7] 30); clear hb5 hb6 hb7 hw5 hw6 b47))
  have B8 := B3.trans (Z7.mono B3.size)
  have F8 := F3.later Z7 F3.lt
  have G8 := G3.later Z7 G3.lt
  have I8 := I3.later Z7 I3.lt
  have HW8 : Hid (Wh (w7.alloc (.cells #[.bool m7, .slice a7 l7 p7] 30)) m7 a7 l7 p7 d7 (a * c)) := hw7.below ((Below.refl _ _).alloc (Nat.le_refl _) _)
  clear hw7 Z7 B3 F3 G3 I3
  generalize w7.alloc (.cells #[.bool m7, .slice a7 l7 p7] 30) = w8 at *
  go_wp2_with (first
    | (go_at_call 12; (with_reducible refine (Ob.out _).mono ?_); rintro e w9 ⟨m9, a9, l9, p9, d9, rfl, hw9, hb9, hl9⟩)
    | (go_at_call 12; (with_reducible refine (Oa.out _).mono ?_); rintro e w10 ⟨m10, a10, l10, p10, d10, rfl, hw10, hb10, hl10⟩)
    | (go_at_call 11; (with_reducible refine (times_any _ _ _ _ _ _ _ _ _ _ _ _ _ (hw9.below hb10) hw10 (by omega)).mono ?_); rintro e w11 ⟨m11, a11, l11, p11, d11, rfl, hw11, hb11, hl11⟩; have b8 : Below w8.heap.size w8 w11 := (hb9.trans (hb10.mono hb9.size)).trans (hb11.mono (hb9.trans (hb10.mono hb9.size)).size); have Y11 := var2_new w11 (.bool m11) (.slice a11 l11 p11) 30; have Z11 := b8.alloc b8.size (.cells #[.bool m11, .slice a11 l11 p11] 30); have X11 := X7.later Z11 X7.lt; have x0 := X11.c0; have x1 := X11.c1; have y0 := Y11.c0; have y1 := Y11.c1)
    | (go_at_call 13; refine (cmp_any _ _ _ _ _ _ _ _ _ _ _ _ _ (HW8.out.below Z11) (hw11.below ((Below.refl _ _).alloc (Nat.le_refl _) _))).mono ?_; rintro e w12 ⟨rfl, hb12⟩; rw [hk.out]; have Z12 := Z11.trans (hb12.mono Z11.size))
    | (go_at_call 10; refine (awake2 _).mono ?_; rintro e w13 ⟨rfl, hb13⟩; have Z13 := Z12.trans (hb13.mono Z12.size); have F13 := F8.later Z13 F8.lt; have G13 := G8.later Z13 G8.lt; have I13 := I8.later Z13 I8.lt; have u0 := F13.c0; have u1 := F13.c1; have u2 := G13.c0; have u3 := G13.c1; have u4 := I13.c0; have u5 := I13.c1))
  go_ret
  exact ⟨rfl, B8.trans (Z13.mono B8.size)⟩
end Go.Proofs.Ytcklodmhlhjipab
