/- The walks through the statements ShapeTags and ShapeWords. -/
import Derived.Test.YtlnodnkfagehgabH5
import Derived.Test.YtlnodnkfagehgabH6
namespace Go.Proofs.Ytlnodnkfagehgab
open Go.ChangeShapes Go.WideShapes Go.ChangeAt Go.RowKit

set_option maxRecDepth 100000 in
set_option maxHeartbeats 1000000 in
theorem shapeTags_walk (x : List UInt8) (w : World) : Calls Try.prog 5 #[.string (str6 x)] w fun e w' => e = .returned (.bool true) ∧ Below w.heap.size w w' := by
  have R1 := hidden6 (fun V => rtag_any x V)
  have R2 := hidden6 (fun V => tag_any x V)
  generalize tagS x = r at *
  obtain ⟨T, f⟩ := r
  simp only at R1 R2
  have q1 : ((T : Int) == (T : Int)) = true := by simp
  have q2 : (f == f) = true := by simp
  go_enter Try.func5, Try.ntmps5
  go_wp2_with (first
    | (go_at_call 12; (with_reducible refine (awake6 _).mono ?_); rintro e w3 ⟨rfl, b3⟩)
    | (go_at_call 15; (with_reducible refine (R2.out _).mono ?_); rintro e w2 ⟨rfl, b2⟩)
    | (go_at_call 14; (with_reducible refine (R1.out _).mono ?_); rintro e w1 ⟨rfl, b1⟩))
  go_ret
  have q2 := b1.trans (b2.mono b1.size)
  exact ⟨rfl, q2.trans (b3.mono q2.size)⟩
set_option maxRecDepth 100000 in
set_option maxHeartbeats 1000000 in
theorem shapeWords_walk (t : Nat) (w : World) (ht : t ≤ 255) : Calls Try.prog 6 #[.int .u8 (t : Int)] w fun e w' => e = .returned (.bool true) ∧ Below w.heap.size w w' := by
  have R1 := hidden6 (fun V => rword_any t V ht)
  have R2 := hidden6 (fun V => word_any t V ht)
  by_cases h1 : 1 ≤ t ∧ t ≤ 11
  · have e1 : wordE t = (wordS t, 0) := by unfold wordE; rw [if_pos h1]
    rw [e1] at R1 R2
    have R3 := hidden6 (fun V => tag_any (wordS t) V)
    rw [tag_word t h1] at R3
    simp only at R1 R2 R3
    have s1 := str6_list (wordS t)
    have s2 : (wordS t != wordS t) = false := by simp
    have q1 : ((t : Int) == (t : Int)) = true := by simp
    clear e1 h1 ht
    generalize wordS t = x at *
    go_enter Try.func6, Try.ntmps6
    go_wp2_with (first
      | (go_at_call 12; (with_reducible refine (awake6 _).mono ?_); rintro e w4 ⟨rfl, b4⟩)
      | (go_at_call 15; (with_reducible refine (R3.out _).mono ?_); rintro e w3 ⟨rfl, b3⟩)
      | (go_at_call 17; (with_reducible refine (R2.out _).mono ?_); rintro e w2 ⟨rfl, b2⟩)
      | (go_at_call 16; (with_reducible refine (R1.out _).mono ?_); rintro e w1 ⟨rfl, b1⟩))
    go_ret
    have q2 := b1.trans (b2.mono b1.size)
    have q3 := q2.trans (b3.mono q2.size)
    exact ⟨rfl, q3.trans (b4.mono q3.size)⟩
  · have e1 : wordE t = ([], 60) := by unfold wordE; rw [if_neg h1]
    rw [e1] at R1 R2
    have R3 := hidden6 (fun V => tag_any [] V)
    have e2 : tagS [] = (0, 60) := rfl
    rw [e2] at R3
    simp only at R1 R2 R3
    have s1 := str6_list []
    clear e1 h1 ht
    go_enter Try.func6, Try.ntmps6
    go_wp2_with (first
      | (go_at_call 12; (with_reducible refine (awake6 _).mono ?_); rintro e w4 ⟨rfl, b4⟩)
      | (go_at_call 15; (with_reducible refine (R3.out _).mono ?_); rintro e w3 ⟨rfl, b3⟩)
      | (go_at_call 17; (with_reducible refine (R2.out _).mono ?_); rintro e w2 ⟨rfl, b2⟩)
      | (go_at_call 16; (with_reducible refine (R1.out _).mono ?_); rintro e w1 ⟨rfl, b1⟩))
    go_ret
    have q2 := b1.trans (b2.mono b1.size)
    have q3 := q2.trans (b3.mono q2.size)
    exact ⟨rfl, q3.trans (b4.mono q3.size)⟩
end Go.Proofs.Ytlnodnkfagehgab
