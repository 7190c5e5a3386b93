/- Ways through the statement FracLowest. -/
import Derived.Test.YtcklodmhlhjipaaFrBig
namespace Go.Proofs.Ytcklodmhlhjipaa
open Go.ChangeShapes Go.WideShapes Go.ChangeAt Go.RowKit

set_option maxRecDepth 100000 in
set_option maxHeartbeats 2000000 in
theorem low_f (n d f1 f2 : Int) (w : World) (h1 : (f1 == n) = false)
    (hn : ∀ W, Calls Try.prog 9 #[.int .i64 n, .int .i64 d] W fun e w' => e = .returned (.tuple #[.agg #[.int .i64 f1, .int .i64 f2], .int .i64 0]) ∧ Below W.heap.size W w')
    (hv : ∀ W, Calls Try.prog 11 #[.agg #[.int .i64 n, .int .i64 d]] W fun e w' => e = .returned (.bool false) ∧ Below W.heap.size W w')
    (hf : ∀ W, Calls Try.prog 11 #[.agg #[.int .i64 f1, .int .i64 f2]] W fun e w' => e = .returned (.bool true) ∧ Below W.heap.size W w')
    (On : Hid (∀ W, Calls Try.prog 27 #[.int .i64 n] W (MadeWh W n 3))) (Od : Hid (∀ W, Calls Try.prog 27 #[.int .i64 d] W (MadeWh W d 3)))
    (O1 : Hid (∀ W, Calls Try.prog 27 #[.int .i64 f1] W (MadeWh W f1 3))) (O2 : Hid (∀ W, Calls Try.prog 27 #[.int .i64 f2] W (MadeWh W f2 3)))
    (hk : Hid (cmpI (f1 * d) (n * f2) = 0)) (hd : (d != 0) = true) (hp : decide (0 < f2) = true) :
    Calls Try.prog 8 #[.int .i64 n, .int .i64 d] w fun e w' => e = .returned (.bool true) ∧ Below w.heap.size w w' := by
  go_enter Try.func8, Try.ntmps8
  go_upto_region 8 with (first
    | (go_at_call 9; (with_reducible refine (hn _).mono ?_); rintro e w1 ⟨rfl, hb1⟩; have B1 := hb1.alloc hb1.size (.cells #[.int .i64 f1, .int .i64 f2] 23); have F1 := var2_new w1 (.int .i64 f1) (.int .i64 f2) 23; clear hn)
    | (go_at_call 11; (with_reducible refine (hv _).mono ?_); rintro e w2 ⟨rfl, hb2⟩; have B2 := B1.trans (hb2.mono B1.size); have F2 := F1.later hb2 F1.lt; have c0 := F2.c0; have c1 := F2.c1)
    | (go_at_call 27; (with_reducible refine (O1.out _).mono ?_); rintro e w3 ⟨m3, a3, l3, p3, d3, rfl, hw3, hb3, hl3⟩)
    | (go_at_call 27; (with_reducible refine (Od.out _).mono ?_); rintro e w4 ⟨m4, a4, l4, p4, d4, rfl, hw4, hb4, hl4⟩)
    | (go_at_call 26; (with_reducible refine (times_any _ _ _ _ _ _ _ _ _ _ _ _ _ (hw3.below hb4) hw4 (by omega)).mono ?_); rintro e w5 ⟨m5, a5, l5, p5, d5, rfl, hw5, hb5, hl5⟩; have b5 : Below w2.heap.size w2 w5 := (hb3.trans (hb4.mono hb3.size)).trans (hb5.mono (hb3.trans (hb4.mono hb3.size)).size)))
  have F6 := (F2.later b5 F2.lt).alloc (.cells #[.bool m5, .slice a5 l5 p5] 48)
  have X6 := var2_new w5 (.bool m5) (.slice a5 l5 p5) 48
  have B5 := B2.trans (b5.mono B2.size)
  have B6 := B5.alloc B5.size (.cells #[.bool m5, .slice a5 l5 p5] 48)
  have HW6 : Hid (Wh (w5.alloc (.cells #[.bool m5, .slice a5 l5 p5] 48)) m5 a5 l5 p5 d5 (f1 * d)) := hw5.below ((Below.refl _ _).alloc (Nat.le_refl _) _)
  clear hb1 hb2 hb3 hb4 hb5 hw3 hw4 hw5 hl3 hl4 hl5 b5 B1 B2 B5 F1 F2 c0 c1 O1 Od hv
  generalize w5.alloc (.cells #[.bool m5, .slice a5 l5 p5] 48) = w6 at *
  refine wp_region_said 7 (fun i w v => match i with
    | 0 => v = .int .i64 n
    | 1 => IsWh w n 3 v
    | 2 => v = .pointer (some ⟨w1.heap.size, 1, none⟩)
    | 3 => v = .int .i64 f2
    | 4 => IsWh w f2 3 v
    | 5 => IsWh w (n * f2) 6 v
    | 6 => IsNew w6.heap.size w (.bool false) (.slice none 0 0) v
    | _ => True) (by kernel_rfl) (by kernel_rfl) (by kernel_rfl) (by kernel_rfl) ?_ ?_ ?_
  · intro i w v w' h hb
    match i, h with
    | 0, h => exact h
    | 1, h => exact IsWh.later h hb
    | 2, h => exact h
    | 3, h => exact h
    | 4, h => exact IsWh.later h hb
    | 5, h => exact IsWh.later h hb
    | 6, h => exact IsNew.later h hb
    | _ + 7, _ => trivial
  · intro i o ρ w' hi ho hb hc hf hfr hdep
    have F7 := F6.later hb F6.lt
    have t0 : ρ (.tmp 0) = .int .i64 n := hfr 0 (by kernel_rfl)
    have t5 : ρ (.tmp 5) = .pointer (some ⟨w1.heap.size, 0, none⟩) := hfr 5 (by kernel_rfl)
    have g1 := F7.c1
    match i, hi with
    | 0, _ =>
      simp only [List.getElem?_toArray, List.getElem?_cons_zero, Option.some.injEq] at ho
      subst ho
      simp [go_sem, t0]
      exact ⟨Below.refl _ _, rfl⟩
    | 1, _ =>
      simp only [List.getElem?_toArray, List.getElem?_cons_zero, List.getElem?_cons_succ, Option.some.injEq] at ho
      subst ho
      have t64 : ρ (.tmp 64) = .int .i64 n := hdep 0 64 (by kernel_rfl) (by kernel_rfl)
      simp [go_sem, t64, hf]
      exact ⟨rfl, of_said (On.out _)⟩
    | 2, _ =>
      simp only [List.getElem?_toArray, List.getElem?_cons_zero, List.getElem?_cons_succ, Option.some.injEq] at ho
      subst ho
      simp [go_sem, t5]
      exact ⟨Below.refl _ _, rfl⟩
    | 3, _ =>
      simp only [List.getElem?_toArray, List.getElem?_cons_zero, List.getElem?_cons_succ, Option.some.injEq] at ho
      subst ho
      have t66 : ρ (.tmp 66) = .pointer (some ⟨w1.heap.size, 1, none⟩) := hdep 2 66 (by kernel_rfl) (by kernel_rfl)
      simp [go_sem, t66, g1]
      exact ⟨Below.refl _ _, rfl⟩
    | 4, _ =>
      simp only [List.getElem?_toArray, List.getElem?_cons_zero, List.getElem?_cons_succ, Option.some.injEq] at ho
      subst ho
      have t67 : ρ (.tmp 67) = .int .i64 f2 := hdep 3 67 (by kernel_rfl) (by kernel_rfl)
      simp [go_sem, t67, hf]
      exact ⟨rfl, of_said (O2.out _)⟩
    | 5, _ =>
      simp only [List.getElem?_toArray, List.getElem?_cons_zero, List.getElem?_cons_succ, Option.some.injEq] at ho
      subst ho
      obtain ⟨m1, a1, l1, p1, d1, e1, x1, y1⟩ : IsWh w' n 3 (ρ (.tmp 65)) := hdep 1 65 (by kernel_rfl) (by kernel_rfl)
      obtain ⟨m2, a2, l2, p2, d2, e2, x2, y2⟩ : IsWh w' f2 3 (ρ (.tmp 68)) := hdep 4 68 (by kernel_rfl) (by kernel_rfl)
      simp [go_sem, e1, e2, hf]
      exact ⟨rfl, times_said ⟨m1, a1, l1, p1, d1, rfl, x1, y1⟩ ⟨m2, a2, l2, p2, d2, rfl, x2, y2⟩ (by decide)⟩
    | 6, _ =>
      simp only [List.getElem?_toArray, List.getElem?_cons_zero, List.getElem?_cons_succ, Option.some.injEq] at ho
      subst ho
      simp [go_sem]
      exact ⟨(Below.refl _ _).alloc (Nat.le_refl _) _, _, rfl, var2_new _ _ _ _, hb.size⟩
  · intro V w9 q9 hS
    have e0 : V 0 = .int .i64 n := hS 0 (by decide)
    obtain ⟨m1, a1, l1, p1, d1, e1, -, -⟩ : IsWh w9 n 3 (V 1) := hS 1 (by decide)
    have e2 : V 2 = .pointer (some ⟨w1.heap.size, 1, none⟩) := hS 2 (by decide)
    have e3 : V 3 = .int .i64 f2 := hS 3 (by decide)
    obtain ⟨m4, a4, l4, p4, d4, e4, -, -⟩ : IsWh w9 f2 3 (V 4) := hS 4 (by decide)
    obtain ⟨m5', a5', l5', p5', d5', e5, hw5, -⟩ : IsWh w9 (n * f2) 6 (V 5) := hS 5 (by decide)
    obtain ⟨b9, e6, Z9, hB9⟩ : IsNew w6.heap.size w9 (.bool false) (.slice none 0 0) (V 6) := hS 6 (by decide)
    have Y9 := Z9.put (.bool m5') (.slice a5' l5' p5')
    have hw9 := hw5.store2 Z9 (fun _ h => by cases h) (fun _ h => by cases h) (.bool m5') (.slice a5' l5' p5')
    have q9' := (q9.setCell (p := ⟨b9, 0, none⟩) hB9 (.bool m5')).setCell (p := ⟨b9, 1, none⟩) hB9 (.slice a5' l5' p5')
    have z0 := Z9.c0
    have z1 := Z9.c1
    have zf0 := Z9.f0
    have zf1 := Z9.f1
    simp only [List.drop_succ_cons, List.drop_zero, List.take_succ_cons, List.take_zero, puts, e0, e1, e2, e3, e4, e5, e6]
    clear hS e0 e1 e2 e3 e4 e5 e6 V
    have X9 := X6.later q9' X6.lt
    have F9 := F6.later q9' F6.lt
    have HW9 := HW6.out.below q9'
    have B9 := B6.trans (q9'.mono B6.size)
    clear F6 X6 HW6 B6 q9 q9' On O2 Z9 hw5
    go_wp2_with (first
      | (go_at_call 12; refine (awake2 _).mono ?_; rintro e w10 ⟨rfl, hb10⟩; have B10 := B9.trans (hb10.mono B9.size); have F10 := F9.later hb10 F9.lt; have g0 := F10.c0; have g1 := F10.c1)
      | (go_at_call 11; (with_reducible refine (hf _).mono ?_); rintro e w11 ⟨rfl, hb11⟩; have b11 := hb10.trans (hb11.mono hb10.size); have B11 := B9.trans (b11.mono B9.size); have X11 := X9.later b11 X9.lt; have Y11 := Y9.later b11 Y9.lt; have x0 := X11.c0; have x1 := X11.c1; have y0 := Y11.c0; have y1 := Y11.c1)
      | (go_at_call 28; refine (cmp_any _ _ _ _ _ _ _ _ _ _ _ _ _ (HW9.below b11) (hw9.below b11)).mono ?_; rintro e w12 ⟨rfl, hb12⟩; rw [hk.out]))
    go_ret
    exact ⟨rfl, B11.trans (hb12.mono B11.size)⟩
end Go.Proofs.Ytcklodmhlhjipaa
