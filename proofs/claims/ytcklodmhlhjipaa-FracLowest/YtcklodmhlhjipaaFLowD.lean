/- The statement FracLowest, whole. -/
import Derived.Test.YtcklodmhlhjipaaFLow
import Derived.Test.YtcklodmhlhjipaaFLowB
import Derived.Test.YtcklodmhlhjipaaFLowC
namespace Go.Proofs.Ytcklodmhlhjipaa
open Go.ChangeShapes Go.WideShapes Go.ChangeAt Go.RowKit

set_option maxRecDepth 100000 in
set_option maxHeartbeats 2000000 in
theorem low_0 (n d : Int) (w : World) (hd : (d == 0) = true)
    (hn : ∀ W, Calls Try.prog 9 #[.int .i64 n, .int .i64 d] W fun e w' => e = .returned (.tuple #[.agg #[.int .i64 0, .int .i64 0], .int .i64 20]) ∧ Below W.heap.size W w')
    (hv : ∀ W, Calls Try.prog 11 #[.agg #[.int .i64 n, .int .i64 d]] W fun e w' => e = .returned (.bool false) ∧ Below W.heap.size W w') :
    Calls Try.prog 8 #[.int .i64 n, .int .i64 d] w fun e w' => e = .returned (.bool true) ∧ Below w.heap.size w w' := by
  go_enter Try.func8, Try.ntmps8
  go_wp2_with (first
    | (go_at_call 9; (with_reducible refine (hn _).mono ?_); rintro e w1 ⟨rfl, hb1⟩; have B1 := hb1.alloc hb1.size (.cells #[.int .i64 0, .int .i64 0] 23); have F1 := var2_new w1 (.int .i64 0) (.int .i64 0) 23)
    | (go_at_call 11; (with_reducible refine (hv _).mono ?_); rintro e w2 ⟨rfl, hb2⟩; have B2 := B1.trans (hb2.mono B1.size); have F2 := F1.later hb2 F1.lt)
    | (go_at_call 12; refine (awake2 _).mono ?_; rintro e w3 ⟨rfl, hb3⟩; have B3 := B2.trans (hb3.mono B2.size); have F3 := F2.later hb3 F2.lt; have c0 := F3.c0; have c1 := F3.c1))
  go_ret
  exact ⟨rfl, B3⟩

set_option maxRecDepth 100000 in
set_option maxHeartbeats 2000000 in
theorem low_4 (n d : Int) (w : World) (hd : (d == 0) = false)
    (hn : ∀ W, Calls Try.prog 9 #[.int .i64 n, .int .i64 d] W fun e w' => e = .returned (.tuple #[.agg #[.int .i64 0, .int .i64 0], .int .i64 4]) ∧ Below W.heap.size W w')
    (hv : ∀ W, Calls Try.prog 11 #[.agg #[.int .i64 n, .int .i64 d]] W fun e w' => e = .returned (.bool false) ∧ Below W.heap.size W w') :
    Calls Try.prog 8 #[.int .i64 n, .int .i64 d] w fun e w' => e = .returned (.bool true) ∧ Below w.heap.size w w' := by
  go_enter Try.func8, Try.ntmps8
  go_wp2_with (first
    | (go_at_call 9; (with_reducible refine (hn _).mono ?_); rintro e w1 ⟨rfl, hb1⟩; have B1 := hb1.alloc hb1.size (.cells #[.int .i64 0, .int .i64 0] 23); have F1 := var2_new w1 (.int .i64 0) (.int .i64 0) 23)
    | (go_at_call 11; (with_reducible refine (hv _).mono ?_); rintro e w2 ⟨rfl, hb2⟩; have B2 := B1.trans (hb2.mono B1.size); have F2 := F1.later hb2 F1.lt)
    | (go_at_call 12; refine (awake2 _).mono ?_; rintro e w3 ⟨rfl, hb3⟩; have B3 := B2.trans (hb3.mono B2.size); have F3 := F2.later hb3 F2.lt; have c0 := F3.c0; have c1 := F3.c1))
  go_ret
  exact ⟨rfl, B3⟩

theorem lowest_law (n d : Int) (w : World) (hn : -9223372036854775808 ≤ n ∧ n ≤ 9223372036854775807) (hd : -9223372036854775808 ≤ d ∧ d ≤ 9223372036854775807) :
    Calls Try.prog 8 #[.int .i64 n, .int .i64 d] w fun e w' => e = .returned (.bool true) ∧ Below w.heap.size w w' := by
  have h1 : ∀ W, Calls Try.prog 9 #[.int .i64 n, .int .i64 d] W fun e w' => e = .returned (.tuple #[.agg #[.int .i64 (newN n d), .int .i64 (newD n d)], .int .i64 (newE n d)]) ∧ Below W.heap.size W w' := fun W => new_any n d W hn hd
  have hv := fun W => valid_any n d W hn hd
  by_cases d0 : d = 0
  · subst d0
    have hV : validB n 0 = false := by
      cases h : validB n 0
      · rfl
      · have := valid_pos' h; omega
    rw [hV] at hv
    have k := new_zero n
    rw [k.1, k.2.1, k.2.2] at h1
    exact low_0 n 0 w (by decide) h1 hv
  · cases hl : lowB n d
    · have hV : validB n d = false := by
        cases h : validB n d
        · rfl
        · have := low_same h
          unfold lowB at hl
          rw [this.1, this.2, fitB_yes hn, fitB_yes hd] at hl
          exact absurd hl (by decide)
      rw [hV] at hv
      have k := new_no d0 hl
      rw [k.1, k.2.1, k.2.2] at h1
      exact low_4 n d w (by simpa using d0) h1 hv
    · have k := new_yes d0 hl
      rw [k.1, k.2.1, k.2.2] at h1
      have hlv := low_valid (n := n) d0
      have hfit : fitB (lowN n d) = true ∧ fitB (lowD n d) = true := by unfold lowB at hl; simpa using hl
      have r1 := fitB_true.1 hfit.1
      have r2 := fitB_true.1 hfit.2
      have hf := fun W => valid_any (lowN n d) (lowD n d) W r1 r2
      rw [hlv.1] at hf
      have hcmp : Hid (cmpI (lowN n d * d) (n * lowD n d) = 0) := cmpI_eq hlv.2
      have hp : decide (0 < lowD n d) = true := decide_eq_true (valid_pos' hlv.1)
      have hd1 : (d != 0) = true := by simpa using d0
      have On : Hid (∀ W, Calls Try.prog 27 #[.int .i64 n] W (MadeWh W n 3)) := fun W => of_any n W hn
      have Od : Hid (∀ W, Calls Try.prog 27 #[.int .i64 d] W (MadeWh W d 3)) := fun W => of_any d W hd
      have O1 : Hid (∀ W, Calls Try.prog 27 #[.int .i64 (lowN n d)] W (MadeWh W (lowN n d) 3)) := fun W => of_any _ W r1
      have O2 : Hid (∀ W, Calls Try.prog 27 #[.int .i64 (lowD n d)] W (MadeWh W (lowD n d) 3)) := fun W => of_any _ W r2
      cases hV : validB n d
      · rw [hV] at hv
        by_cases e1 : lowN n d = n
        · by_cases e2 : lowD n d = d
          · have := hlv.1
            rw [e1, e2, hV] at this
            cases this
          · exact low_tf n d _ _ w (by simpa using e1) (by simpa using e2) h1 hv hf On Od O1 O2 hcmp hd1 hp
        · exact low_f n d _ _ w (by simpa using e1) h1 hv hf On Od O1 O2 hcmp hd1 hp
      · rw [hV] at hv
        have e := low_same hV
        exact low_tt n d _ _ w (by simpa using e.1) (by simpa using e.2) h1 hv hf On Od O1 O2 hcmp hd1 hp
end Go.Proofs.Ytcklodmhlhjipaa
